/- Leaders: the model. -/
import Derived.Test.YtaefmffmjbabcaaSyn
import Derived.Test.YtaefmffmjbabcaaLdp
import Derived.Lib.OwnBridge
import Derived.Deep.AppendLies
import Derived.BigQuiet
import Derived.Deep.QuietTactic
set_option linter.unusedVariables false
namespace Go.Proofs.Ytaefmffmjbabcaa
open Go.Proofs.Ytaefmffmjbabcaa.Flo Go.RowKit Go.Proofs.Ytaefmffmjbabcaa.Pr

/-- The leaders, a row. -/
def ldL (D : List Int) (d N m : Nat) : List Int := (List.range (2 ^ d)).map fun s => LdX.ldM wt (fun x => od (zN D) x d) m s
theorem il_newP {w w' : World} {v : Value} {K : Nat} {L : List Int} (ho : w'.ownsRow w.heap.size 2 1 v K (L.map (Value.int .i64))) (hb : Below w.heap.size w w') (hK : K ≠ 0) : ∃ g cp, v = .slice (some ⟨g, 0, none⟩) K cp ∧ New w w' g (.il K L) := by
  have hv : v ≠ .slice none 0 0 := by
    rintro rfl
    rcases ho.2 with ⟨_, h0⟩ | ⟨g, c, cur, e, _⟩
    · exact hK h0
    · cases e
  obtain ⟨g, cp, rfl, h1, h2, _, _, h3, h4⟩ := Lib.holds_of_ownsRow ho hv
  refine ⟨g, cp, rfl, h1, h2, ?_, hb⟩
  refine ⟨h3, fun i hi => ?_⟩
  have hi : i < K := hi
  have h5 := h4 i (by simpa [h3] using hi)
  rw [Nat.zero_add] at h5
  refine ⟨h5.1.trans ?_, h5.2⟩
  have e : L.toArray[i]! = L.getD i 0 := by
    rw [List.getElem!_toArray, List.getD_eq_getElem?_getD, List.getElem!_eq_getElem?_getD]
    rfl
  rw [e]
  rfl
theorem rep_at {M s : Nat} (h : s < M) : (List.replicate M (-1 : Int)).getD s 0 = -1 := by simp [List.getD_eq_getElem?_getD, h]
theorem own_mono8 {w : World} {base base' : Nat} {T : TypeId} {v : Value} {k : Nat} {xs : List Value} (h : w.ownsRow base T 1 v k xs) (hb : base' ≤ base) : w.ownsRow base' T 1 v k xs := by
  obtain ⟨hl, h2⟩ := h
  refine ⟨hl, ?_⟩
  rcases h2 with h2 | ⟨g, cap, cur, e1, e2, e3⟩
  · exact .inl h2
  · exact .inr ⟨g, cap, cur, e1, Nat.le_trans hb e2, e3⟩
set_option maxRecDepth 100000 in
set_option maxHeartbeats 8000000 in
theorem ld_spec (wd d cap : Nat) (a : Option Addr) (D : List Int) (w : World) (h : IRow w a d D) (hd : d ≤ 8) (hz : woP D d 16) (hw : wd ≤ 16) :
    Calls Try.prog 56 #[.int .i64 (wd : Int), .slice a d cap] w fun e w' => ∃ g cp L, e = .returned (.slice (some ⟨g, 0, none⟩) (2 ^ d) cp) ∧ New w w' g (.il (2 ^ d) L) ∧ ∀ s, s < 2 ^ d → L.getD s 0 = LdX.ldM wt (fun x => od (zN D) x d) (2 ^ wd) s := by
  obtain ⟨i0, hi, hz0, hz1, hz2⟩ := info_parts Try.info64
  have HA := Lib.hid h
  have HZ := Lib.hid hz
  obtain ⟨M, hMM⟩ : ∃ M, M = 2 ^ d := ⟨_, rfl⟩
  obtain ⟨N, hNN⟩ : ∃ N, N = 2 ^ wd := ⟨_, rfl⟩
  rw [← hMM, ← hNN]
  have hp8 : M ≤ 256 := by rw [hMM]; exact Nat.pow_le_pow_right (by decide) hd
  have hp16 : N ≤ 65536 := by rw [hNN]; exact Nat.pow_le_pow_right (by decide) hw
  have hpos : 1 ≤ M := by rw [hMM]; exact Nat.one_le_two_pow
  have HSL : Hid (∀ x, od (zN D) x d < M) := Lib.hid (fun x => by rw [hMM]; exact od_lt _ _ _)
  have hwpM : IntKind.i64.wrap ((2 : Int) ^ d) = (M : Int) := by
    have e : (2 : Int) ^ d = (M : Int) := by rw [hMM]; simp
    rw [e]; exact IntWalk.i64_in _ (by omega)
  have hwpN : IntKind.i64.wrap ((2 : Int) ^ wd) = (N : Int) := by
    have e : (2 : Int) ^ wd = (N : Int) := by rw [hNN]; simp
    rw [e]; exact IntWalk.i64_in _ (by omega)
  have hwu1 : IntKind.u64.wrap (d : Int) = (d : Int) := by rw [IntKind.wrap_u64]; omega
  have hwu2 : IntKind.u64.wrap (wd : Int) = (wd : Int) := by rw [IntKind.wrap_u64]; omega
  have hmin1 : min d 64 = d := by omega
  have hmin2 : min wd 64 = wd := by omega
  have HSY : Hid (∀ (x : Nat) w2, x < 65536 → IRow w2 a d D → Calls Try.prog 62 #[.slice a d cap, .int .i64 (x : Int)] w2 fun e w' => e = .returned (.int .i64 (od (zN D) x d : Int)) ∧ w2 = w') := Lib.hid (fun x w2 hx hh => sy_spec2 a d cap D x w2 hh (by omega) hz hx)
  clear h hz
  generalize hsyn : (fun x => od (zN D) x d) = syn
  have hsy : ∀ x, od (zN D) x d = syn x := fun x => by rw [← hsyn]
  simp only [hsy] at HSL HSY
  clear hMM hNN hsyn hsy HZ
  have HE := Lib.hid (own_empty w 2)
  have HB0 := Lib.hid (below_alloc w (.cells #[] 2))
  have HA0 := Lib.hid (HA.out.alloc (.cells #[] 2))
  go_enter Try.func56, Try.ntmps56
  go_wp2
  go_loopw [5, 6] (fun v0 iv wr0 => ∃ (k : Nat) (v : Value) (wr : World), k ≤ M ∧ v = v0 ∧ iv = .int .i64 k ∧ wr = wr0 ∧ Hid (wr.ownsRow w.heap.size 2 1 v k ((List.replicate k (-1 : Int)).map (Value.int .i64))) ∧ Hid (Below w.heap.size w wr)) (fun _ iv _ => M - (intOf iv).toNat)
  case atStart => exact ⟨0, _, _, by omega, rfl, rfl, rfl, HE, HB0⟩
  case round =>
    obtain ⟨k, v, wr, hk, rfl, rfl, rfl, HO, HW⟩ := hrel
    have hsz := HW.out.size
    have hwk : IntKind.i64.wrap ((k : Int) + 1) = (k : Int) + 1 := IntWalk.i64_in _ (by omega)
    by_cases hlt : k < M
    · have HNE := Lib.hid (own_block HO.out)
      have HL : Hid ((List.replicate (k + 1) (-1 : Int)).map (Value.int .i64) = (List.replicate k (-1 : Int)).map (Value.int .i64) ++ [.int .i64 (-1)]) := Lib.hid (by rw [List.replicate_succ', List.map_append]; rfl)
      go_wp2_with (first | (at_builtin; refine wpList_append_lies _ rfl _ _ 22 rfl (w.heap.size) 2 i0 (.int .i64 0) 1 8 Try.underlying22 hi hz0 hz1 hz2 rfl (by omega) v k ((List.replicate k (-1 : Int)).map (Value.int .i64)) rfl (World.ownsRow.alloc HO.out _) ⟨wr.heap.size, 0, none⟩ 1 1 [.int .i64 (-1)] rfl rfl (World.news_of_block (cs := #[.int .i64 (-1)]) (t := 2) (fr := (0, 0)) (heap_alloc_new _ _)) (by simp [Value.oneCell']) (by omega) (by unfold maxLen; omega) (by omega) (by simp; omega) (wr.heap.size + 1) (by simp) ?_; intro gg cp w3 hown1 hgrow hat hlt2; have HO2 := Lib.hid hown1; have HG2 := Lib.hid hgrow; clear hown1 hgrow hat hlt2) | fail)
      exact ⟨⟨k + 1, _, _, by omega, rfl, by first | rfl | go_num | (congr 1), rfl, Lib.hid (by rw [HL.out]; exact HO2.out), Lib.hid (Below.grown (Below.alloc HW.out HW.out.size _) HG2.out (by simp; omega) HNE.out)⟩, by show M - ((k : Int) + 1).toNat < M - (k : Int).toNat; omega⟩
    · obtain rfl : k = M := by omega
      obtain ⟨g, cp, e, hnew⟩ := il_newP HO.out HW.out (by omega)
      subst e
      have HG0 := Lib.hid hnew.1
      have HI0 := Lib.hid (ICl.of hnew)
      clear hnew HO
      go_wp2
      go_loopw [7] (fun iv wr0 => ∃ (m : Nat) (wx : World) (L : List Int), m ≤ N ∧ iv = .int .i64 m ∧ wx = wr0 ∧ Hid (ICl wx g k L) ∧ Hid (∀ s, s < k → L.getD s 0 = LdX.ldM wt syn m s) ∧ Hid (Below w.heap.size w wx)) (fun iv _ => N - (intOf iv).toNat)
      case atStart => exact ⟨0, _, _, by omega, rfl, rfl, HI0, Lib.hid (fun s hs => by rw [rep_at hs]; rfl), HW⟩
      case round =>
        obtain ⟨m, wx, L, hm, rfl, rfl, HI, HL, HWx⟩ := hrel
        have hwm : IntKind.i64.wrap ((m : Int) + 1) = (m : Int) + 1 := IntWalk.i64_in _ (by omega)
        by_cases hltm : m < N
        · have HAx := Lib.hid (HA.out.below HWx.out)
          have hsl := HSL.out m
          have HS1 : Hid (∀ w2, IRow w2 a d D → Calls Try.prog 62 #[.slice a d cap, .int .i64 (m : Int)] w2 fun e w' => e = .returned (.int .i64 (syn m : Int)) ∧ w2 = w') := Lib.hid (fun w2 hh => HSY.out m w2 (by omega) hh)
          have HWT : Hid (∀ (x q : Nat), x < 65536 → Calls Try.prog 63 #[.int .i64 (x : Int)] (wx.drewN q) fun e w' => e = .returned (.int .i64 (wt x : Int)) ∧ w' = wx.drewN q) := Lib.hid (fun x q hx => (wo_spec x _ hx).mono (fun _ _ hh => ⟨hh.1, hh.2.symm⟩))
          obtain ⟨hc, hf⟩ := HI.out.cell hsl
          rw [HL.out _ hsl] at hc
          obtain ⟨c0, c1⟩ := LdX.ldM_in wt syn m (syn m)
          have HST : Hid (∀ (cnd : Bool), (cnd = true ↔ (LdX.ldM wt syn m (syn m) < 0 ∨ wt m < wt (LdX.ldM wt syn m (syn m)).toNat)) → ∀ s, s < k → (if cnd then L.set (syn m) (m : Int) else L).getD s 0 = LdX.ldM wt syn (m + 1) s) := Lib.hid (fun cnd hcn s hs => by
            unfold LdX.ldM
            have hlen := HI.out.len
            by_cases hes : syn m = s
            · subst hes
              cases cnd with
              | true => exact (getD_set _ _ _ _ (by omega)).trans ((if_pos rfl).trans (if_pos ⟨rfl, hcn.1 rfl⟩).symm)
              | false => rw [if_neg (fun q : syn m = syn m ∧ _ => by have := hcn.2 q.2; cases this)]; exact HL.out _ hs
            · rw [if_neg (fun q : syn m = s ∧ _ => hes q.1)]
              cases cnd with
              | true => exact (getD_set _ _ _ _ (by omega)).trans ((if_neg (fun e => hes e.symm)).trans (HL.out _ hs))
              | false => exact HL.out _ hs)
          have hsk : syn m < k := hsl
          have hski : (syn m : Int) < (k : Int) := by omega
          have hs0 : (0 : Int) ≤ (syn m : Int) := by omega
          generalize hcur : LdX.ldM wt syn m (syn m) = c at hc c0 c1 HST
          clear hcur
          by_cases hneg : c < 0
          · have hdn : decide (c < 0) = true := decide_eq_true hneg
            have HS2 := Lib.hid (HST.out true ⟨fun _ => .inl hneg, fun _ => rfl⟩)
            simp only [if_true] at HS2
            go_wp2_with (first | (go_at_call 62; (with_reducible refine (HS1.out _ HAx.out).mono ?_); rintro e w' ⟨rfl, hw⟩; subst hw) | fail)
            go_quiet (fail)
            have HI2q := Lib.hid (((HI.out.below (Below.drewN' (Below.refl _ _) nq)).put hsl (m : Int)))
            have HW2q := Lib.hid ((Below.drewN' HWx.out nq).setCell (p := ⟨g, syn m, none⟩) HG0.out (.int .i64 (m : Int)))
            go_wp2
            exact ⟨⟨m + 1, _, _, by omega, by first | rfl | go_num | (congr 1), rfl, HI2q, HS2, HW2q⟩, by show N - ((m : Int) + 1).toNat < N - (m : Int).toNat; omega⟩
          · obtain ⟨cn, hcn⟩ : ∃ cn : Nat, c = (cn : Int) := ⟨c.toNat, by omega⟩
            subst hcn
            have hdn : decide ((cn : Int) < 0) = false := decide_eq_false hneg
            rw [Int.toNat_natCast] at HST
            have hcl : cn < 65536 := by omega
            have hml : m < 65536 := by omega
            by_cases hlw : wt m < wt cn
            · have hdw : decide ((wt m : Int) < (wt cn : Int)) = true := decide_eq_true (by omega)
              have hdw2 : decide (wt m < wt cn) = true := decide_eq_true hlw
              have HS2 := Lib.hid (HST.out true ⟨fun _ => .inr hlw, fun _ => rfl⟩)
              simp only [if_true] at HS2
              have HWM : Hid (∀ q : Nat, Calls Try.prog 63 #[.int .i64 (m : Int)] (wx.drewN q) fun e w' => e = .returned (.int .i64 (wt m : Int)) ∧ w' = wx.drewN q) := Lib.hid (fun q => HWT.out m q hml)
              have HWC : Hid (∀ q : Nat, Calls Try.prog 63 #[.int .i64 (cn : Int)] (wx.drewN q) fun e w' => e = .returned (.int .i64 (wt cn : Int)) ∧ w' = wx.drewN q) := Lib.hid (fun q => HWT.out cn q hcl)
              clear HWT HST hlw
              generalize wt m = wm at HWM hdw hdw2
              generalize wt cn = wc at HWC hdw hdw2
              go_wp2_with (first | (go_at_call 62; (with_reducible refine (HS1.out _ HAx.out).mono ?_); rintro e w' ⟨rfl, hw⟩; subst hw) | fail)
              go_quiet (first | (go_at_call 63; with_reducible exact Calls.quiet_of_same (HWM.out _)) | (go_at_call 63; with_reducible exact Calls.quiet_of_same (HWC.out _)))
              have HI2q := Lib.hid (((HI.out.below (Below.drewN' (Below.refl _ _) nq)).put hsl (m : Int)))
              have HW2q := Lib.hid ((Below.drewN' HWx.out nq).setCell (p := ⟨g, syn m, none⟩) HG0.out (.int .i64 (m : Int)))
              go_wp2
              exact ⟨⟨m + 1, _, _, by omega, by first | rfl | go_num | (congr 1), rfl, HI2q, HS2, HW2q⟩, by show N - ((m : Int) + 1).toNat < N - (m : Int).toNat; omega⟩
            · have hdw : decide ((wt m : Int) < (wt cn : Int)) = false := decide_eq_false (by omega)
              have hdw2 : decide (wt m < wt cn) = false := decide_eq_false hlw
              have HS2 := Lib.hid (HST.out false ⟨fun h => (by cases h), fun h => (by rcases h with h | h <;> omega)⟩)
              simp only [Bool.false_eq_true, if_false] at HS2
              have HWM : Hid (∀ q : Nat, Calls Try.prog 63 #[.int .i64 (m : Int)] (wx.drewN q) fun e w' => e = .returned (.int .i64 (wt m : Int)) ∧ w' = wx.drewN q) := Lib.hid (fun q => HWT.out m q hml)
              have HWC : Hid (∀ q : Nat, Calls Try.prog 63 #[.int .i64 (cn : Int)] (wx.drewN q) fun e w' => e = .returned (.int .i64 (wt cn : Int)) ∧ w' = wx.drewN q) := Lib.hid (fun q => HWT.out cn q hcl)
              clear HWT HST hlw
              generalize wt m = wm at HWM hdw hdw2
              generalize wt cn = wc at HWC hdw hdw2
              go_wp2_with (first | (go_at_call 62; (with_reducible refine (HS1.out _ HAx.out).mono ?_); rintro e w' ⟨rfl, hw⟩; subst hw) | fail)
              go_quiet (first | (go_at_call 63; with_reducible exact Calls.quiet_of_same (HWM.out _)) | (go_at_call 63; with_reducible exact Calls.quiet_of_same (HWC.out _)))
              have HI2q := Lib.hid (HI.out.below (Below.drewN' (Below.refl _ _) nq))
              have HW2q := Lib.hid (Below.drewN' HWx.out nq)
              go_wp2
              exact ⟨⟨m + 1, _, _, by omega, by first | rfl | go_num | (congr 1), rfl, HI2q, HS2, HW2q⟩, by show N - ((m : Int) + 1).toNat < N - (m : Int).toNat; omega⟩
        · obtain rfl : m = N := by omega
          go_wp2
          go_ret
          exact ⟨_, _, L, rfl, HI.out.new (HG0.out) HWx.out, HL.out⟩
end Go.Proofs.Ytaefmffmjbabcaa
