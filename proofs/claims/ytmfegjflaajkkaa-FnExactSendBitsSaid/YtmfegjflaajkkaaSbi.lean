
/- SendBits: the program's functions. -/
import Derived.Test.YtmfegjflaajkkaaSbs
namespace Go.Proofs.Ytmfegjflaajkkaa
open Go.Proofs.Ytmfegjflaajkkaa.Flo Go.RowKit Go.Proofs.Ytmfegjflaajkkaa.Pr

set_option maxRecDepth 100000 in
set_option maxHeartbeats 4000000 in
theorem st_impl7 (M s : Nat) (b : Bool) (a : Option Addr) (m cap : Nat) (zs : List Int) (w : World) (h : IRow w a m zs) (hm : m ≤ 4) (hM : M ≤ 4) (hz : crP zs m M) (hs : s < 16) :
    Calls Try.prog 72 #[.agg #[.int .i64 (M : Int), .slice a m cap], .int .i64 (s : Int), .bool b] w fun e w' => ∃ v, e = .returned (.tuple #[v, .int .i64 ((whN s b % 2 ^ M : Nat) : Int)]) ∧ Gat w' w.heap.size 4 v m (fun i => .bool (stF zs (whN s b) i)) ∧ Below w.heap.size w w' := by
  obtain ⟨i0, hi, hz0, hz1, hz2⟩ := info_parts Try.infoB
  have HA := Lib.hid (h.alloc (.cells #[.int .i64 (M : Int), .slice a m cap] 31))
  have HZ := Lib.hid hz
  have HM := Lib.hid hM
  have HC := Lib.hid (two_cells' w (.int .i64 (M : Int)) (.slice a m cap) 31)
  have hl := whN_lt b hs
  obtain ⟨F, hF⟩ : ∃ F : Nat → Value, F = fun i => .bool (stF zs (whN s b) i) := ⟨_, rfl⟩
  have HFE := Lib.hid hF
  have hmin : min M 64 = M := by omega
  obtain ⟨hp0, hp1⟩ := p2_4 hM
  have hwu : IntKind.u64.wrap (M : Int) = (M : Int) := IntWalk.u64_in _ (by omega)
  have hwr : IntKind.i64.wrap ((2 : Int) ^ M) = 2 ^ M := IntWalk.i64_in _ (by omega)
  have hzz : ((2 : Int) ^ M == 0) = false := by simp; omega
  have ht : ((whN s b : Nat) : Int).tmod (2 ^ M) = ((whN s b % 2 ^ M : Nat) : Int) := by
    rw [Int.tmod_eq_emod_of_nonneg (by omega), Int.natCast_emod, Int.natCast_pow]; rfl
  have HWD : Hid (∃ W, W = whN s b ∧ ((b = true ∧ (W : Int) = 2 * (s : Int) + 1) ∨ (b = false ∧ (W : Int) = 2 * (s : Int)))) := Lib.hid ⟨_, rfl, by cases b <;> (first | (left; exact ⟨rfl, by rw [whN_t]; omega⟩) | (right; exact ⟨rfl, by rw [whN_f]; omega⟩))⟩
  rw [← hF]
  clear h hz hF
  generalize whN s b % 2 ^ M = r at ht ⊢
  obtain ⟨W, hW, hWD⟩ := HWD.out
  rw [← hW] at hl HFE ht
  clear hW HWD
  have KEY : ∀ (bb : Bool), ((bb = true ∧ (W : Int) = 2 * (s : Int) + 1) ∨ (bb = false ∧ (W : Int) = 2 * (s : Int))) → Calls Try.prog 72 #[.agg #[.int .i64 (M : Int), .slice a m cap], .int .i64 (s : Int), .bool bb] w fun e w' => ∃ v, e = .returned (.tuple #[v, .int .i64 (r : Int)]) ∧ Gat w' w.heap.size 4 v m F ∧ Below w.heap.size w w' := by
    intro bb hbb
    rcases hbb with ⟨rfl, hW2⟩ | ⟨rfl, hW2⟩
    all_goals
      have hW3 := hW2.symm
      clear hW2 hWD
      go_enter Try.func72, Try.ntmps72
      go_wp2
      go_loopw [9, 20] (fun v0 iv w0 => ∃ (k : Nat) (v : Value) (wr : World), k ≤ m ∧ v = v0 ∧ iv = .int .i64 k ∧ wr = w0 ∧ Hid (Gat wr (w.heap.size + 1) 4 v k F) ∧ Hid (Below (w.heap.size + 1) (w.alloc (.cells #[.int .i64 (M : Int), .slice a m cap] 31)) wr)) (fun _ iv _ => m - (intOf iv).toNat)
      case atStart => exact ⟨0, _, _, by omega, rfl, rfl, rfl, Lib.hid (Gat.nil _ _ _ _), Lib.hid (Below.refl _ _)⟩
      case round =>
        obtain ⟨k, v, wr, hk, rfl, rfl, rfl, HG, HWB⟩ := hrel
        have hsz : w.heap.size + 1 ≤ wr.heap.size := by have := HWB.out.size; simpa using this
        by_cases hlt : k < m
        · obtain ⟨b1, o1, rfl, _, hck⟩ := (HA.out.below (by have := HWB.out; simpa using this)).cell' hlt
          obtain ⟨hzk, hzl⟩ := mN_at HZ.out HM.out hlt
          rw [hzk] at hck
          have hand := b_and W (zN zs k) (by omega) (by omega)
          have hal : W &&& zN zs k < 65536 := Nat.lt_of_le_of_lt Nat.and_le_left (by omega)
          have HO := Lib.hid (fun W2 => od_impl (W &&& zN zs k) W2 hal)
          have HK : Hid (F k = .bool (odB (W &&& zN zs k))) := Lib.hid (by rw [HFE.out]; rfl)
          clear hzk hal
          generalize W &&& zN zs k = x at hand HO HK
          generalize zN zs k = y at hck hand hzl
          generalize odB x = od at HO HK
          have HNE := Lib.hid (Gat.block HG.out)
          go_wp2_with (first | (go_at_call 96; refine (HO.out _).mono ?_; rintro e w' ⟨rfl, hw⟩; subst hw) | (at_builtin; refine wpList_append_lies _ rfl _ _ 36 rfl (w.heap.size + 1) 4 i0 (.bool false) 1 1 Try.underlying36 hi hz0 hz1 hz2 rfl (by omega) v k ((List.range k).map F) rfl (World.ownsRow.alloc HG.out _) ⟨wr.heap.size, 0, none⟩ 1 1 [.bool od] rfl rfl (World.news_of_block (cs := #[.bool od]) (t := 4) (fr := (0, 0)) (heap_alloc_new _ _)) (by simp [Value.oneCell']) (by omega) (by unfold maxLen; omega) (by omega) (by simp; omega) (wr.heap.size + 1) (by simp) ?_; intro gg cp w1 hown1 hgrow hat hlt3; have HO2 := Lib.hid hown1; have HG2 := Lib.hid hgrow; clear hown1 hgrow hat hlt3) | fail)
          exact ⟨⟨k + 1, _, _, by omega, rfl, by first | rfl | go_num | (congr 1), rfl, Lib.hid (Gat.step HO2.out HK.out.symm), Lib.hid (Below.grown (Below.alloc HWB.out hsz _) HG2.out (by simp; omega) (fun j hj => Nat.le_trans (by omega) (HNE.out j hj)))⟩, by show m - ((k : Int) + 1).toNat < m - (k : Int).toNat; omega⟩
        · obtain rfl : k = m := by omega
          have hc0 : wr.cell? ⟨w.heap.size, 0, none⟩ = some (.int .i64 (M : Int)) := by rw [HWB.out.cell (p := ⟨w.heap.size, 0, none⟩) (by simp)]; exact HC.out.1
          have HBW : Hid (Below w.heap.size w wr) := Lib.hid (Below.next (belowA _ _) (by have := HWB.out; simpa using this))
          go_wp2
          go_quiet (fail)
          go_wp2
          exact bodyPost_ret (v := .tuple #[v, .int .i64 (r : Int)]) (by simp [results, Try.results72, go_sem]) rfl ⟨v, rfl, (HG.out.mono (by omega)).drewN _, by first | exact HBW.out | exact Below.drewN' HBW.out _⟩
  exact KEY b hWD
set_option maxRecDepth 100000 in
set_option maxHeartbeats 8000000 in
theorem sb_impl (r : Int) (a : Option Addr) (m cap : Nat) (zs : List Int) (b : Option Addr) (n cap2 : Nat) (f : Nat → Bool) (w : World) (h : IRow w a m zs) (hb : BRow w b n f) (hm : m ≤ 1048576) (_ : n ≤ 1048576) (hok : sbB r zs m n = true) :
    Calls Try.prog 37 #[.agg #[.int .i64 r, .slice a m cap], .slice b n cap2] w fun e w' => ∃ g cp, e = .returned (.tuple #[.slice (some ⟨g, 0, none⟩) ((n + r.toNat) * m) cp, .bool true]) ∧ New w w' g (.bl ((n + r.toNat) * m) (snF f n r.toNat zs m)) := by
  obtain ⟨i0, hi, hz0, hz1, hz2⟩ := info_parts Try.infoB
  obtain ⟨hcr, hn40⟩ := sb_out hok
  obtain ⟨hr, ⟨hm1, hm4⟩, hz⟩ := cr_out hcr
  obtain ⟨M, rfl⟩ : ∃ M : Nat, r = (M : Int) := ⟨r.toNat, by omega⟩
  rw [Int.toNat_natCast] at hz ⊢
  have hM4 : M ≤ 4 := by omega
  have hM1 : 1 ≤ M := by omega
  have hmk := fun w2 : World => run_make_row' (P := Try.prog) 36 4 (.bool false) 1 Try.underlying36 Try.infoB rfl .i64 .i64 M (by omega) (by omega) w2
  have HZ := Lib.hid hz
  have hp16 := pow_le4 hM4
  have HB1 := Lib.hid (hb.alloc (.cells #[.int .i64 (M : Int), .slice a m cap] 31))
  have HA1 := Lib.hid (h.alloc (.cells #[.int .i64 (M : Int), .slice a m cap] 31))
  have HC := Lib.hid (two_cells' w (.int .i64 (M : Int)) (.slice a m cap) 31)
  have HV := Lib.hid (fun W h => hcr ▸ vcr_impl (M : Int) a m cap zs W h hm)
  have hd40 : decide ((40 : Int) < (n : Int)) = false := decide_eq_false (by omega)
  obtain ⟨F, hF⟩ : ∃ F : Nat → Value, F = fun i => .bool (snF f n M zs m i) := ⟨_, rfl⟩
  have HFE := Lib.hid hF
  clear hok hcr hr hz h hb hF
  go_enter Try.func37, Try.ntmps37
  go_wp2_with (first | (go_at_call 22; refine (HV.out _ HA1.out).mono ?_; rintro e w2 ⟨rfl, hbv⟩; have HBV := Lib.hid hbv; clear hbv; have hc0 : w2.cell? ⟨w.heap.size, 0, none⟩ = some (.int .i64 (M : Int)) := (by rw [HBV.out.cell (p := ⟨w.heap.size, 0, none⟩) (by simp)]; exact HC.out.1); have hc1 : w2.cell? ⟨w.heap.size, 1, none⟩ = some (.slice a m cap) := (by rw [HBV.out.cell (p := ⟨w.heap.size, 1, none⟩) (by simp)]; exact HC.out.2)) | (go_at_call 71; refine (cc_B (w2.heap.size + 1) b n cap2 f (some ⟨w2.heap.size, 0, none⟩) M M (fun _ => false) _ ?_ ?_ ?_ ?_ ?_ ?_ ?_).mono ?_; (next => exact ((HB1.out.below HBV.out).alloc _).alloc _); (next => exact .inr ⟨w2.heap.size, 0, rfl, by simp <;> omega, fun i hi9 => by rw [World.cell?_alloc_past _ _ _ (by simp), World.cell?_alloc_at _ _ _ _ rfl]; simp [madeCells, hi9, Nat.mod_one]⟩); (next => (simp; done)); (next => (rw [World.cell?_alloc_at _ _ _ _ (by simp)]; rfl)); (next => (rw [World.cell?_alloc_at _ _ _ _ (by simp)]; rfl)); (next => omega); (next => omega); rintro e w3 ⟨g, cpg, rfl, hng⟩; have HNG := Lib.hid hng; clear hng) | fail)
  have HG3 : Hid (BRow w3 (some ⟨g, 0, none⟩) (n + M) (btF f n)) := Lib.hid (.inr ⟨g, 0, rfl, HNG.out.2.1, fun i hi9 => by
    rw [Nat.zero_add, (HNG.out.2.2.1.2 i hi9).1]
    show some (Value.bool (ccF f n (fun _ => false) i)) = some (Value.bool (btF f n i))
    unfold ccF btF
    by_cases e : i < n
    · rw [if_pos e, decide_eq_true e, Bool.true_and]
    · rw [if_neg e, decide_eq_false e, Bool.false_and]⟩)
  have HBW : Hid (Below w.heap.size w w3) := Lib.hid (Below.next (Below.next (belowA _ _) HBV.out) (Below.next (Below.alloc (belowA _ _) (by simp <;> omega) _) HNG.out.2.2.2))
  have HA3 := Lib.hid (HA1.out.below HBV.out)
  have HA4 : Hid (IRow w3 a m zs) := Lib.hid (HA3.out.below (Below.next (Below.alloc (belowA _ _) (by simp <;> omega) _) HNG.out.2.2.2))
  have HWL : Hid (w.heap.size < w3.heap.size) := Lib.hid (by have h1 := HBV.out.size; have h2 := HNG.out.2.2.2.size; simp at h1 h2; omega)
  have HC3 : Hid (w3.cell? ⟨w.heap.size, 0, none⟩ = some (.int .i64 (M : Int)) ∧ w3.cell? ⟨w.heap.size, 1, none⟩ = some (.slice a m cap)) := Lib.hid (by
    have h1 := HBV.out.size
    simp at h1
    have hb9 := Below.next (Below.alloc (belowA w2 (.cells (madeCells #[Value.bool false] M) 4)) (by simp <;> omega) (.cells #[.slice b n cap2, .slice (some ⟨w2.heap.size, 0, none⟩) M M] 36)) HNG.out.2.2.2
    exact ⟨by rw [hb9.cell (p := ⟨w.heap.size, 0, none⟩) (by show w.heap.size < w2.heap.size; omega)]; exact hc0, by rw [hb9.cell (p := ⟨w.heap.size, 1, none⟩) (by show w.heap.size < w2.heap.size; omega)]; exact hc1⟩)
  clear HNG HBV HB1 HA1 HA3 HC HV hc0 hc1 hmk
  go_loopw [6, 7, 27] (fun v0 sv iv w0 => ∃ (k s K : Nat) (v : Value) (wr : World), k ≤ n + M ∧ v = v0 ∧ sv = .int .i64 (s : Int) ∧ iv = .int .i64 k ∧ wr = w0 ∧ Hid (s = stq f n M k) ∧ Hid (K = k * m) ∧ Hid (Gat wr w3.heap.size 4 v K F) ∧ Hid (Below w3.heap.size w3 wr)) (fun _ _ iv _ => n + M - (intOf iv).toNat)
  case atStart => exact ⟨0, 0, 0, _, _, by omega, rfl, rfl, rfl, rfl, Lib.hid rfl, Lib.hid (by rw [Nat.zero_mul]), Lib.hid (Gat.nil _ _ _ _), Lib.hid (Below.refl _ _)⟩
  case round =>
    obtain ⟨k, s, K, v, wr, hk, rfl, rfl, rfl, rfl, HS, HK, HG, HWB⟩ := hrel
    have HSZ := Lib.hid HWB.out.size
    by_cases hlt : k < n + M
    · have hs16 : s < 16 := by have := stq_lt f n M k; rw [← HS.out] at this; omega
      have hK : K ≤ 172 := by rw [HK.out]; exact Nat.le_trans (Nat.mul_le_mul (show k ≤ 43 by omega) hm4) (by decide)
      obtain ⟨b1, o1, e1, hck⟩ := (HG3.out.below HWB.out).cell hlt
      injection e1 with e1
      injection e1 with e1 e2
      subst e1; subst e2
      rw [Nat.zero_add] at hck
      have hc0 : wr.cell? ⟨w.heap.size, 0, none⟩ = some (.int .i64 (M : Int)) := by rw [HWB.out.cell (p := ⟨w.heap.size, 0, none⟩) HWL.out]; exact HC3.out.1
      have hc1 : wr.cell? ⟨w.heap.size, 1, none⟩ = some (.slice a m cap) := by rw [HWB.out.cell (p := ⟨w.heap.size, 1, none⟩) HWL.out]; exact HC3.out.2
      obtain ⟨bit, hbit⟩ : ∃ bit, bit = btF f n k := ⟨_, rfl⟩
      rw [← hbit] at hck
      have HSE := Lib.hid (st_impl7 M s bit a m cap zs wr (HA4.out.below HWB.out) hm4 hM4 HZ.out hs16)
      have HST : Hid (stq f n M (k + 1) = whN s bit % 2 ^ M) := Lib.hid (by rw [hbit, HS.out]; rfl)
      have HEV : Hid (∀ i, i < m → Value.bool (stF zs (whN s bit) i) = F (K + i)) := Lib.hid (fun i hi9 => by rw [HFE.out, HK.out]; show _ = Value.bool (snF f n M zs m (k * m + i)); rw [sn_at hi9, hbit, HS.out])
      have HNE := Lib.hid (Gat.block HG.out)
      have hkI : ((k : Int) < (n : Int) + (M : Int)) := by omega
      have hkd : decide ((k : Int) < ((n + M : Nat) : Int)) = true := decide_eq_true (by omega)
      clear hbit
      generalize hsx : whN s bit % 2 ^ M = sx at HSE HST
      clear hsx
      go_wp2_with (first | (go_at_call 72; refine HSE.out.mono ?_; rintro e w3a ⟨v2, rfl, hg, hb⟩; obtain ⟨g2, cp2, rfl, hg2, hgl2, hok2⟩ := hg.fin (by omega); have HO2 := Lib.hid (gv_news hok2); have HG2 := Lib.hid (HG.out.keep hb); have HW2 := Lib.hid (Below.next HWB.out hb); have HSZ2 := Lib.hid HW2.out.size; clear hg hb hok2) | (at_builtin; refine wpList_append_lies _ rfl _ _ 36 rfl w3.heap.size 4 i0 (.bool false) 1 1 Try.underlying36 hi hz0 hz1 hz2 rfl (by omega) v K ((List.range K).map F) rfl HG2.out ⟨g2, 0, none⟩ m cp2 ((List.range m).map (fun i => .bool (stF zs (whN s bit) i))) rfl (by simp) HO2.out (by intro u hu; obtain ⟨z, _, rfl⟩ := List.mem_map.1 hu; simp [Value.oneCell']) (by omega) (by unfold maxLen; omega) (by omega) (by have := HSZ2.out; omega) w3a.heap.size rfl ?_; intro gg cp w4 hown1 hgrow hat hlt3; have HO3 := Lib.hid (Gat.stepM hown1 HEV.out); have HW3 := Lib.hid (Below.grown HW2.out hgrow (by have := HSZ2.out; omega) (fun j hj => Nat.le_trans (by omega) (HNE.out j hj))); clear hown1 hgrow hat hlt3) | fail)
      exact ⟨⟨k + 1, _, K + m, _, _, by omega, rfl, rfl, by first | rfl | go_num | (congr 1), rfl, Lib.hid HST.out.symm, Lib.hid (by rw [HK.out, Nat.succ_mul]), HO3, HW3⟩, by show n + M - ((k : Int) + 1).toNat < n + M - (k : Int).toNat; omega⟩
    · obtain rfl : k = n + M := by omega
      have hpos : K ≠ 0 := by rw [HK.out]; have := Nat.mul_le_mul (show 1 ≤ n + M by omega) hm1; omega
      obtain ⟨g9, cp9, rfl, hnew⟩ := HG.out.new HWB.out hpos
      have HNW : Hid (New w wr g9 (.bl ((n + M) * m) (snF f n M zs m))) := Lib.hid (by rw [← HK.out]; rw [HFE.out] at hnew; exact ⟨Nat.le_trans HBW.out.size hnew.1, hnew.2.1, hnew.2.2.1, Below.next HBW.out hnew.2.2.2⟩)
      have hkd : decide (((n + M : Nat) : Int) < ((n + M : Nat) : Int)) = false := decide_eq_false (by omega)
      have HKK := Lib.hid HK.out
      clear hnew HG
      go_wp2
      exact bodyPost_ret (v := .tuple #[.slice (some ⟨g9, 0, none⟩) K cp9, .bool true]) (by simp [results, Try.results37, go_sem]) rfl ⟨g9, cp9, by rw [HKK.out], HNW.out⟩
set_option maxRecDepth 100000 in
set_option maxHeartbeats 4000000 in
theorem sb_implN (r : Int) (a : Option Addr) (m cap : Nat) (zs : List Int) (b : Option Addr) (n cap2 : Nat) (f : Nat → Bool) (w : World) (h : IRow w a m zs) (_ : BRow w b n f) (hm : m ≤ 1048576) (_ : n ≤ 1048576) (hok : sbB r zs m n = false) :
    Calls Try.prog 37 #[.agg #[.int .i64 r, .slice a m cap], .slice b n cap2] w fun e w' => e = .returned (.tuple #[.slice none 0 0, .bool false]) ∧ Below w.heap.size w w' := by
  have HA1 := Lib.hid (h.alloc (.cells #[.int .i64 r, .slice a m cap] 31))
  have HV := Lib.hid (fun W h => vcr_impl r a m cap zs W h hm)
  clear h
  cases hcr : crB r zs m with
  | true =>
    have d1 : decide ((40 : Int) < (n : Int)) = true := decide_eq_true (by
      have h2 : ¬ n ≤ 40 := fun e => by unfold sbB at hok; rw [hcr, decide_eq_true e] at hok; cases hok
      omega)
    rw [hcr] at HV
    clear hok hcr
    go_enter Try.func37, Try.ntmps37
    go_wp2_with (first | (go_at_call 22; refine (HV.out _ HA1.out).mono ?_; rintro e w2 ⟨rfl, hd⟩; have HD := Lib.hid hd; clear hd) | fail)
    exact bodyPost_ret (v := .tuple #[.slice none 0 0, .bool false]) (by simp [results, Try.results37, go_sem]) rfl ⟨rfl, Below.next (belowA _ _) HD.out⟩
  | false =>
    rw [hcr] at HV
    clear hok hcr
    go_enter Try.func37, Try.ntmps37
    go_wp2_with (first | (go_at_call 22; refine (HV.out _ HA1.out).mono ?_; rintro e w2 ⟨rfl, hd⟩; have HD := Lib.hid hd; clear hd) | fail)
    exact bodyPost_ret (v := .tuple #[.slice none 0 0, .bool false]) (by simp [results, Try.results37, go_sem]) rfl ⟨rfl, Below.next (belowA _ _) HD.out⟩
end Go.Proofs.Ytmfegjflaajkkaa
