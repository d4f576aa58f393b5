
/- PolarLosses: the functions. -/
import Derived.Test.YtmfegjflaajkkaaGat
import Derived.Test.YtmfegjflaajkkaaRcv
import Derived.Test.YtmfegjflaajkkaaTnv
namespace Go.Proofs.Ytmfegjflaajkkaa
open Go.Proofs.Ytmfegjflaajkkaa.Flo Go.RowKit Go.Proofs.Ytmfegjflaajkkaa.Pr

/-- How likely places are lost, as classes. -/
def lsV (x : Nat) : Nat → Nat → Option Nat
  | 0, _ => cls .f32 x
  | p + 1, i => if i % 2 = 0 then vop .sub .f32 (vop .add .f32 (lsV x p (i / 2)) (lsV x p (i / 2))) (vop .mul .f32 (lsV x p (i / 2)) (lsV x p (i / 2))) else vop .mul .f32 (lsV x p (i / 2)) (lsV x p (i / 2))
/-- From 0 to 1. -/
def s0B (x : Nat) : Bool := (FloatKind.f32).format.order x 0 == some .gt || (FloatKind.f32).format.order x 0 == some .eq
def s1B (x : Nat) : Bool := (FloatKind.f32).format.order x 1065353216 == some .lt || (FloatKind.f32).format.order x 1065353216 == some .eq
def plB (p : Int) (x : Nat) : Bool := decide (0 ≤ p ∧ p ≤ 5) && (s0B x && s1B x)
theorem pl_out {p : Int} {x : Nat} (h : plB p x = true) : (0 ≤ p ∧ p ≤ 5) ∧ s0B x = true ∧ s1B x = true := by
  unfold plB at h
  rw [Bool.and_eq_true, Bool.and_eq_true] at h
  exact ⟨of_decide_eq_true h.1, h.2.1, h.2.2⟩
theorem ls_even {x c i z : Nat} (h : cls .f32 z = lsV x c i) (W1 W2 W3 : World) : cls .f32 (fres .sub .f32 (fres .add .f32 z z W1) (fres .mul .f32 z z W2) W3) = lsV x (c + 1) (2 * i) := by
  rw [fres_cls, fres_cls, fres_cls, h]
  show _ = (if (2 * i) % 2 = 0 then _ else _)
  rw [if_pos (by omega), show 2 * i / 2 = i by omega]
theorem ls_odd {x c i z : Nat} (h : cls .f32 z = lsV x c i) (W : World) : cls .f32 (fres .mul .f32 z z W) = lsV x (c + 1) (2 * i + 1) := by
  rw [fres_cls, h]
  show _ = (if (2 * i + 1) % 2 = 0 then _ else _)
  rw [if_neg (by omega), show (2 * i + 1) / 2 = i by omega]
theorem Got.step2 {w : World} {base : Nat} {T : TypeId} {v : Value} {k y z : Nat} {V : Nat → Option Nat} {zs : List Nat} (hz : ∀ i, i < k → cls .f32 (zs.getD i 0) = V i) (hl : zs.length = k) (hv : cls .f32 y = V k) (hv2 : cls .f32 z = V (k + 1))
    (h : w.ownsRow base T 1 v (k + 2) (zs.map (Value.float .f32) ++ [.float .f32 y, .float .f32 z])) : Got w base T v (k + 2) V := by
  refine ⟨zs ++ [y, z], fun i hi => ?_, by simpa using h⟩
  by_cases e : i < k
  · rw [List.getD_eq_getElem?_getD, List.getElem?_append_left (by omega), ← List.getD_eq_getElem?_getD]; exact hz i e
  · by_cases e2 : i = k
    · subst e2
      rw [List.getD_eq_getElem?_getD, List.getElem?_append_right (by omega), hl, Nat.sub_self]
      exact hv
    · obtain rfl : i = k + 1 := by omega
      rw [List.getD_eq_getElem?_getD, List.getElem?_append_right (by omega), hl, show k + 1 - k = 1 by omega]
      exact hv2
theorem Got.one (w : World) (T : TypeId) (x : Nat) (V : Nat → Option Nat) (h : cls .f32 x = V 0) : Got (w.alloc (.cells #[.float .f32 x] T)) w.heap.size T (.slice (some ⟨w.heap.size, 0, none⟩) 1 1) 1 V :=
  ⟨[x], fun i hi => (by obtain rfl : i = 0 := (by omega); exact h), rfl, .inr ⟨w.heap.size, 1, #[.float .f32 x], rfl, Nat.le_refl _, heap_alloc_new w _, by simp, by decide, by simp, by simp⟩⟩
theorem Got.row {w : World} {base : Nat} {T : TypeId} {v : Value} {n : Nat} {V : Nat → Option Nat} (h : Got w base T v n V) (hn : n ≠ 0) : ∃ g cap zs, v = .slice (some ⟨g, 0, none⟩) n cap ∧ base ≤ g ∧ g < w.heap.size ∧ FRow w (some ⟨g, 0, none⟩) n zs ∧ (∀ i, i < n → cls .f32 (zs.getD i 0) = V i) := by
  obtain ⟨zs, h1, h2⟩ := h
  obtain ⟨g, cap, rfl, hg, hgl, hr, _⟩ := own_row h2 hn
  exact ⟨g, cap, zs, rfl, hg, hgl, hr, h1⟩
set_option maxHeartbeats 1000000 in
theorem sp_true (p : Int) (w : World) (h : 0 ≤ p ∧ p ≤ 5) : Calls Try.prog 87 #[.int .i64 p] w fun e w' => e = .returned (.bool true) ∧ w = w' := by
  have d1 : decide (0 ≤ p) = true := decide_eq_true h.1
  have d2 : decide (p ≤ 5) = true := decide_eq_true h.2
  clear h
  go_enter Try.func87, Try.ntmps87
  go_wp2
  go_ret
  exact ⟨rfl, rfl⟩
set_option maxHeartbeats 1000000 in
theorem sp_false (p : Int) (w : World) (h : ¬ (0 ≤ p ∧ p ≤ 5)) : Calls Try.prog 87 #[.int .i64 p] w fun e w' => e = .returned (.bool false) ∧ w = w' := by
  by_cases h1 : 0 ≤ p
  · have d1 : decide (0 ≤ p) = true := decide_eq_true h1
    have d2 : decide (p ≤ 5) = false := decide_eq_false (fun e => h ⟨h1, e⟩)
    clear h h1
    go_enter Try.func87, Try.ntmps87
    go_wp2
    go_ret
    exact ⟨rfl, rfl⟩
  · have d1 : decide (0 ≤ p) = false := decide_eq_false h1
    clear h h1
    go_enter Try.func87, Try.ntmps87
    go_wp2
    go_ret
    exact ⟨rfl, rfl⟩
set_option maxRecDepth 100000 in
set_option maxHeartbeats 8000000 in
theorem ls_spec (p x : Nat) (w : World) (hp5 : p ≤ 5) :
    Calls Try.prog 86 #[.int .i64 (p : Int), .float .f32 x] w fun e w' => ∃ g cp, e = .returned (.slice (some ⟨g, 0, none⟩) (2 ^ p) cp) ∧ New w w' g (.cl (2 ^ p) (lsV x p)) := by
  obtain ⟨i0, hi, hz0, hz1, hz2⟩ := info_parts Try.info32
  go_enter Try.func86, Try.ntmps86
  go_wp2
  go_loopw [5, 0] (fun v0 iv w0 => ∃ (c : Nat) (v : Value) (wr : World), c ≤ p ∧ v = v0 ∧ iv = .int .i64 ((p : Int) - (c : Int)) ∧ wr = w0 ∧ Hid (Got wr w.heap.size 37 v (2 ^ c) (lsV x c)) ∧ Hid (Below w.heap.size w wr)) (fun _ iv _ => (intOf iv).toNat)
  case atStart => exact ⟨0, _, _, by omega, rfl, by simp, rfl, Lib.hid (Got.one _ _ x (lsV x 0) rfl), Lib.hid ((Below.refl _ _).alloc (Nat.le_refl _) _)⟩
  case round =>
    obtain ⟨c, v, wr, hc, rfl, rfl, rfl, HG, HW⟩ := hrel
    by_cases hlt : c < p
    · obtain ⟨g, cap, zs, rfl, hg1, hg2, hg3, hg4⟩ := HG.out.row (by have := Nat.two_pow_pos c; omega)
      obtain ⟨N, hN⟩ : ∃ N, N = 2 ^ c := ⟨_, rfl⟩
      have HN := Lib.hid hN
      have hN16 : N ≤ 16 := by rw [hN]; exact Nat.pow_le_pow_right (n := 2) (j := 4) (by decide) (by omega)
      rw [← hN] at hg3 hg4 HG ⊢
      have HR := Lib.hid hg3
      have HZ := Lib.hid hg4
      have hcp : (c : Int) < (p : Int) := by omega
      have hdp : decide ((p : Int) - (c : Int) > 0) = true := decide_eq_true (by omega)
      have hdp2 : decide (0 < (p : Int) - (c : Int)) = true := decide_eq_true (by omega)
      clear hN hg3 hg4 HG
      go_wp2
      go_loopw [6, 18] (fun v0 iv w0 => ∃ (i : Nat) (v : Value) (wi : World), i ≤ N ∧ v = v0 ∧ iv = .int .i64 i ∧ wi = w0 ∧ Hid (Got wi wr.heap.size 37 v (2 * i) (lsV x (c + 1))) ∧ Hid (Below wr.heap.size wr wi)) (fun _ iv _ => N - (intOf iv).toNat)
      case atStart => exact ⟨0, _, _, by omega, rfl, rfl, rfl, Lib.hid (by first | exact Got.nil _ _ _ _ | exact Got.empty _ _ _), Lib.hid (by first | exact Below.refl _ _ | exact (Below.refl _ _).alloc (Nat.le_refl _) _)⟩
      case round =>
        obtain ⟨i, v, wi, hi9, rfl, rfl, rfl, HO, HB⟩ := hrel
        by_cases hli : i < N
        · obtain ⟨b1, o1, e1, hck⟩ := (HR.out.below HB.out).cell hli
          injection e1 with e1
          injection e1 with e1 e2
          subst e1; subst e2
          rw [Nat.zero_add] at hck
          have hzc := HZ.out i hli
          have HV1 := Lib.hid (fun W1 W2 W3 => ls_even hzc W1 W2 W3)
          have HV2 := Lib.hid (fun W => ls_odd hzc W)
          obtain ⟨zs0, hz, ho⟩ := HO.out
          have HZ0 := Lib.hid hz
          have HO1 := Lib.hid ho
          have HNE := Lib.hid (own_block ho)
          have HSZ := Lib.hid HB.out.size
          clear hz ho hzc
          generalize zs.getD i 0 = z at hck HV1 HV2
          go_wp2_with (first | (at_builtin; refine wpList_append_lies _ rfl _ _ 22 rfl wr.heap.size 37 i0 (.float .f32 0) 1 4 Try.underlying22 hi hz0 hz1 hz2 rfl (by omega) v (2 * i) (zs0.map (Value.float .f32)) rfl (World.ownsRow.alloc HO1.out _) ⟨wi.heap.size, 0, none⟩ 2 2 [.float .f32 (fres .sub .f32 (fres .add .f32 z z _) (fres .mul .f32 z z _) _), .float .f32 (fres .mul .f32 z z _)] rfl rfl (World.news_of_block (cs := #[.float .f32 (fres .sub .f32 (fres .add .f32 z z _) (fres .mul .f32 z z _) _), .float .f32 (fres .mul .f32 z z _)]) (t := 37) (fr := (0, 0)) (heap_alloc_new _ _)) (by simp [Value.oneCell']) (by omega) (by unfold maxLen; omega) (by omega) (by have := HSZ.out; simp; omega) (wi.heap.size + 1) (by simp) ?_; intro gg cp w1 hown1 hgrow hat hlt2; have HO2 := Lib.hid hown1; have HGR := Lib.hid hgrow; clear hown1 hgrow hat hlt2) | fail)
          exact ⟨⟨i + 1, _, _, by omega, rfl, by first | rfl | go_num | (congr 1), rfl, Lib.hid (by have := Got.step2 HZ0.out (Got.len HO1.out) (HV1.out _ _ _) (HV2.out _) HO2.out; exact this), Lib.hid (Below.grown (Below.alloc (Below.drewN' HB.out _) HB.out.size _) HGR.out (by have := HSZ.out; simp; omega) HNE.out)⟩, by show N - ((i : Int) + 1).toNat < N - (i : Int).toNat; omega⟩
        · obtain rfl : i = N := by omega
          have HNW : Hid (Got wi w.heap.size 37 v (2 ^ (c + 1)) (lsV x (c + 1))) := Lib.hid (by
            have h1 := HO.out.mono HW.out.size
            rw [Nat.pow_succ, Nat.mul_comm, ← HN.out]; exact h1)
          have HWW := Lib.hid (Below.next HW.out HB.out)
          go_wp2
          exact ⟨⟨c + 1, _, _, by omega, rfl, by first | rfl | go_num | (congr 1), rfl, HNW, HWW⟩, by simp [intOf] <;> omega⟩
    · obtain rfl : c = p := by omega
      have hdc : decide ((c : Int) - (c : Int) > 0) = false := by simp
      obtain ⟨g, cap, zs, rfl, hg1, hg2, hg3, hg4, hg5⟩ := HG.out.fin (by have := Nat.two_pow_pos c; omega)
      have HN : Hid (New w wr g (.cl (2 ^ c) (lsV x c))) := Lib.hid ⟨hg1, hg2, hg5, HW.out⟩
      clear hg1 hg2 hg3 hg4 hg5 HG
      go_wp2
      go_ret
      exact ⟨g, cap, rfl, HN.out⟩
set_option maxHeartbeats 2000000 in
theorem pl_spec (p : Int) (x : Nat) (w : World) :
    Calls Try.prog 85 #[.int .i64 p, .float .f32 x] w fun e w' => e = .returned (.bool (plB p x)) ∧ w = w' := by
  by_cases h : 0 ≤ p ∧ p ≤ 5
  · have H := Lib.hid h
    have HF : Hid (plB p x = (s0B x && s1B x)) := Lib.hid (by unfold plB; rw [decide_eq_true h]; rfl)
    clear h
    cases h0 : s0B x with
    | true =>
      have e0 : ((FloatKind.f32).format.order x 0 == some .gt || (FloatKind.f32).format.order x 0 == some .eq) = true := h0
      have HF2 : Hid (plB p x = s1B x) := Lib.hid (by rw [HF.out, h0]; rfl)
      clear h0
      go_enter Try.func85, Try.ntmps85
      go_wp2_with (first | (go_at_call 91; refine (in_true p 0 5 _ H.out.1 H.out.2).mono ?_; rintro e w' ⟨rfl, hw⟩; have hw := hw.symm; subst hw) | go_in)
      go_ret
      exact ⟨ret_bool2 (by rw [HF2.out]; rfl), rfl⟩
    | false =>
      have e0 : ((FloatKind.f32).format.order x 0 == some .gt || (FloatKind.f32).format.order x 0 == some .eq) = false := h0
      have HF2 : Hid (plB p x = false) := Lib.hid (by rw [HF.out, h0]; rfl)
      clear h0
      go_enter Try.func85, Try.ntmps85
      go_wp2_with (first | (go_at_call 91; refine (in_true p 0 5 _ H.out.1 H.out.2).mono ?_; rintro e w' ⟨rfl, hw⟩; have hw := hw.symm; subst hw) | go_in)
      go_ret
      exact ⟨ret_bool2 HF2.out.symm, rfl⟩
  · have H := Lib.hid h
    have HF : Hid (plB p x = false) := Lib.hid (by unfold plB; rw [decide_eq_false h]; rfl)
    clear h
    go_enter Try.func85, Try.ntmps85
    go_wp2_with (first | (go_at_call 91; refine (in_false p 0 5 _ H.out).mono ?_; rintro e w' ⟨rfl, hw⟩; have hw := hw.symm; subst hw) | go_in)
    go_ret
    exact ⟨ret_bool2 HF.out.symm, rfl⟩
set_option maxHeartbeats 2000000 in
theorem plS (p : Int) (x : Nat) (w : World) (hok : plB p x = true) :
    Calls Try.prog 50 #[.int .i64 p, .float .f32 x] w fun e w' => ∃ g cp, e = .returned (.tuple #[.slice (some ⟨g, 0, none⟩) (2 ^ p.toNat) cp, .bool true]) ∧ New w w' g (.cl (2 ^ p.toNat) (lsV x p.toNat)) := by
  have hp := (pl_out hok).1
  obtain ⟨m, rfl⟩ : ∃ m : Nat, p = (m : Int) := ⟨p.toNat, by omega⟩
  rw [Int.toNat_natCast]
  have HP := Lib.hid (hok ▸ pl_spec (m : Int) x w)
  have HL := Lib.hid (fun W => ls_spec m x W (by omega))
  obtain ⟨N, hN⟩ : ∃ N, N = 2 ^ m := ⟨_, rfl⟩
  rw [← hN] at HL ⊢
  clear hok hp hN
  go_enter Try.func50, Try.ntmps50
  go_wp2_with (first | (go_at_call 85; refine HP.out.mono ?_; rintro e w' ⟨rfl, rfl⟩) | (go_at_call 86; refine (HL.out _).mono ?_; rintro e w' ⟨g, cp, rfl, hn⟩; have HN := Lib.hid hn; clear hn) | fail)
  exact bodyPost_ret (v := .tuple #[.slice (some ⟨g, 0, none⟩) N cp, .bool true]) (by simp [results, Try.results50, go_sem]) rfl ⟨g, cp, rfl, HN.out⟩
set_option maxHeartbeats 2000000 in
theorem plSN (p : Int) (x : Nat) (w : World) (hok : plB p x = false) :
    Calls Try.prog 50 #[.int .i64 p, .float .f32 x] w fun e w' => e = .returned (.tuple #[.slice none 0 0, .bool false]) ∧ Below w.heap.size w w' := by
  have HP := Lib.hid (hok ▸ pl_spec p x w)
  clear hok
  go_enter Try.func50, Try.ntmps50
  go_wp2_with (first | (go_at_call 85; refine HP.out.mono ?_; rintro e w' ⟨rfl, hw⟩; subst hw) | fail)
  exact bodyPost_ret (v := .tuple #[.slice none 0 0, .bool false]) (by simp [results, Try.results50, go_sem]) rfl ⟨rfl, Below.refl _ _⟩
set_option maxRecDepth 100000 in
set_option maxHeartbeats 8000000 in
theorem plI (q : Int) (x : Nat) (w : World) (hok : plB q x = true) :
    Calls Try.prog 51 #[.int .i64 q, .float .f32 x] w fun e w' => ∃ g cp, e = .returned (.tuple #[.slice (some ⟨g, 0, none⟩) (2 ^ q.toNat) cp, .bool true]) ∧ New w w' g (.cl (2 ^ q.toNat) (lsV x q.toNat)) := by
  obtain ⟨i0, hi, hz0, hz1, hz2⟩ := info_parts Try.info32
  obtain ⟨hp, h0, h1⟩ := pl_out hok
  obtain ⟨p, rfl⟩ : ∃ p : Nat, q = (p : Int) := ⟨q.toNat, by omega⟩
  rw [Int.toNat_natCast]
  have hp5 : p ≤ 5 := by omega
  have HP := Lib.hid (sp_true (p : Int) w hp)
  have e0 : ((FloatKind.f32).format.order x 0 == some .gt || (FloatKind.f32).format.order x 0 == some .eq) = true := h0
  have e1 : ((FloatKind.f32).format.order x 1065353216 == some .lt || (FloatKind.f32).format.order x 1065353216 == some .eq) = true := h1
  clear hok hp h0 h1
  go_enter Try.func51, Try.ntmps51
  go_wp2_with (first | (go_at_call 87; refine HP.out.mono ?_; rintro e w' ⟨rfl, hw⟩; subst hw) | fail)
  clear e0 e1
  go_loopw [6, 26] (fun v0 iv w0 => ∃ (c : Nat) (v : Value) (wr : World), c ≤ p ∧ v = v0 ∧ iv = .int .i64 (c : Int) ∧ wr = w0 ∧ Hid (Got wr w.heap.size 37 v (2 ^ c) (lsV x c)) ∧ Hid (Below w.heap.size w wr)) (fun _ iv _ => p - (intOf iv).toNat)
  case atStart => exact ⟨0, _, _, by omega, rfl, rfl, rfl, Lib.hid (Got.one _ _ x (lsV x 0) rfl), Lib.hid ((Below.refl _ _).alloc (Nat.le_refl _) _)⟩
  case round =>
    obtain ⟨c, v, wr, hc, rfl, rfl, rfl, HG, HW⟩ := hrel
    by_cases hlt : c < p
    · obtain ⟨g, cap, zs, rfl, hg1, hg2, hg3, hg4⟩ := HG.out.row (by have := Nat.two_pow_pos c; omega)
      obtain ⟨N, hN⟩ : ∃ N, N = 2 ^ c := ⟨_, rfl⟩
      have HN := Lib.hid hN
      have hN16 : N ≤ 16 := by rw [hN]; exact Nat.pow_le_pow_right (n := 2) (j := 4) (by decide) (by omega)
      rw [← hN] at hg3 hg4 HG ⊢
      have HR := Lib.hid hg3
      have HZ := Lib.hid hg4
      have hcp : (c : Int) < (p : Int) := by omega
      have hdp : decide ((p : Int) - (c : Int) > 0) = true := decide_eq_true (by omega)
      have hdp2 : decide (0 < (p : Int) - (c : Int)) = true := decide_eq_true (by omega)
      clear hN hg3 hg4 HG
      go_wp2
      go_loopw [7, 30] (fun v0 iv w0 => ∃ (i : Nat) (v : Value) (wi : World), i ≤ N ∧ v = v0 ∧ iv = .int .i64 i ∧ wi = w0 ∧ Hid (Got wi wr.heap.size 37 v (2 * i) (lsV x (c + 1))) ∧ Hid (Below wr.heap.size wr wi)) (fun _ iv _ => N - (intOf iv).toNat)
      case atStart => exact ⟨0, _, _, by omega, rfl, rfl, rfl, Lib.hid (by first | exact Got.nil _ _ _ _ | exact Got.empty _ _ _), Lib.hid (by first | exact Below.refl _ _ | exact (Below.refl _ _).alloc (Nat.le_refl _) _)⟩
      case round =>
        obtain ⟨i, v, wi, hi9, rfl, rfl, rfl, HO, HB⟩ := hrel
        by_cases hli : i < N
        · obtain ⟨b1, o1, e1, hck⟩ := (HR.out.below HB.out).cell hli
          injection e1 with e1
          injection e1 with e1 e2
          subst e1; subst e2
          rw [Nat.zero_add] at hck
          have hzc := HZ.out i hli
          have HV1 := Lib.hid (fun W1 W2 W3 => ls_even hzc W1 W2 W3)
          have HV2 := Lib.hid (fun W => ls_odd hzc W)
          obtain ⟨zs0, hz, ho⟩ := HO.out
          have HZ0 := Lib.hid hz
          have HO1 := Lib.hid ho
          have HNE := Lib.hid (own_block ho)
          have HSZ := Lib.hid HB.out.size
          clear hz ho hzc
          generalize zs.getD i 0 = z at hck HV1 HV2
          go_wp2_with (first | (at_builtin; refine wpList_append_lies _ rfl _ _ 22 rfl wr.heap.size 37 i0 (.float .f32 0) 1 4 Try.underlying22 hi hz0 hz1 hz2 rfl (by omega) v (2 * i) (zs0.map (Value.float .f32)) rfl (World.ownsRow.alloc HO1.out _) ⟨wi.heap.size, 0, none⟩ 2 2 [.float .f32 (fres .sub .f32 (fres .add .f32 z z _) (fres .mul .f32 z z _) _), .float .f32 (fres .mul .f32 z z _)] rfl rfl (World.news_of_block (cs := #[.float .f32 (fres .sub .f32 (fres .add .f32 z z _) (fres .mul .f32 z z _) _), .float .f32 (fres .mul .f32 z z _)]) (t := 37) (fr := (0, 0)) (heap_alloc_new _ _)) (by simp [Value.oneCell']) (by omega) (by unfold maxLen; omega) (by omega) (by have := HSZ.out; simp; omega) (wi.heap.size + 1) (by simp) ?_; intro gg cp w1 hown1 hgrow hat hlt2; have HO2 := Lib.hid hown1; have HGR := Lib.hid hgrow; clear hown1 hgrow hat hlt2) | fail)
          exact ⟨⟨i + 1, _, _, by omega, rfl, by first | rfl | go_num | (congr 1), rfl, Lib.hid (by have := Got.step2 HZ0.out (Got.len HO1.out) (HV1.out _ _ _) (HV2.out _) HO2.out; exact this), Lib.hid (Below.grown (Below.alloc (Below.drewN' HB.out _) HB.out.size _) HGR.out (by have := HSZ.out; simp; omega) HNE.out)⟩, by show N - ((i : Int) + 1).toNat < N - (i : Int).toNat; omega⟩
        · obtain rfl : i = N := by omega
          have HNW : Hid (Got wi w.heap.size 37 v (2 ^ (c + 1)) (lsV x (c + 1))) := Lib.hid (by
            have h1 := HO.out.mono HW.out.size
            rw [Nat.pow_succ, Nat.mul_comm, ← HN.out]; exact h1)
          have HWW := Lib.hid (Below.next HW.out HB.out)
          go_wp2
          exact ⟨⟨c + 1, _, _, by omega, rfl, by first | rfl | go_num | (congr 1), rfl, HNW, HWW⟩, by simp [intOf] <;> omega⟩
    · obtain rfl : c = p := by omega
      obtain ⟨g, cap, zs, rfl, hg1, hg2, hg3, hg4, hg5⟩ := HG.out.fin (by have := Nat.two_pow_pos c; omega)
      have HN : Hid (New w wr g (.cl (2 ^ c) (lsV x c))) := Lib.hid ⟨hg1, hg2, hg5, HW.out⟩
      clear hg1 hg2 hg3 hg4 hg5 HG
      go_wp2
      exact bodyPost_ret (v := .tuple #[.slice (some ⟨g, 0, none⟩) (2 ^ c) cap, .bool true]) (by simp [results, Try.results51, go_sem]) rfl ⟨g, cap, rfl, HN.out⟩
set_option maxHeartbeats 2000000 in
theorem plIN (p : Int) (x : Nat) (w : World) (hok : plB p x = false) :
    Calls Try.prog 51 #[.int .i64 p, .float .f32 x] w fun e w' => e = .returned (.tuple #[.slice none 0 0, .bool false]) ∧ Below w.heap.size w w' := by
  by_cases h : 0 ≤ p ∧ p ≤ 5
  · have HP := Lib.hid (sp_true p w h)
    have h2 : (s0B x && s1B x) = false := by unfold plB at hok; rw [decide_eq_true h, Bool.true_and] at hok; exact hok
    clear hok h
    cases h0 : s0B x with
    | true =>
      have h1 : s1B x = false := by rw [h0] at h2; exact h2
      have e0 : ((FloatKind.f32).format.order x 0 == some .gt || (FloatKind.f32).format.order x 0 == some .eq) = true := h0
      have e1 : ((FloatKind.f32).format.order x 1065353216 == some .lt || (FloatKind.f32).format.order x 1065353216 == some .eq) = false := h1
      clear h0 h1 h2
      go_enter Try.func51, Try.ntmps51
      go_wp2_with (first | (go_at_call 87; refine HP.out.mono ?_; rintro e w' ⟨rfl, hw⟩; subst hw) | fail)
      exact bodyPost_ret (v := .tuple #[.slice none 0 0, .bool false]) (by simp [results, Try.results51, go_sem]) rfl ⟨rfl, Below.refl _ _⟩
    | false =>
      have e0 : ((FloatKind.f32).format.order x 0 == some .gt || (FloatKind.f32).format.order x 0 == some .eq) = false := h0
      clear h0 h2
      go_enter Try.func51, Try.ntmps51
      go_wp2_with (first | (go_at_call 87; refine HP.out.mono ?_; rintro e w' ⟨rfl, hw⟩; subst hw) | fail)
      exact bodyPost_ret (v := .tuple #[.slice none 0 0, .bool false]) (by simp [results, Try.results51, go_sem]) rfl ⟨rfl, Below.refl _ _⟩
  · have HP := Lib.hid (sp_false p w h)
    clear hok h
    go_enter Try.func51, Try.ntmps51
    go_wp2_with (first | (go_at_call 87; refine HP.out.mono ?_; rintro e w' ⟨rfl, hw⟩; subst hw) | fail)
    exact bodyPost_ret (v := .tuple #[.slice none 0 0, .bool false]) (by simp [results, Try.results51, go_sem]) rfl ⟨rfl, Below.refl _ _⟩
end Go.Proofs.Ytmfegjflaajkkaa
