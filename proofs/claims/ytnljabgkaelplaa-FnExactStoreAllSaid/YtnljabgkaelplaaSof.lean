
/- Soft lists: finite numbers, IsSoft, HardOf, SoftOf: the functions. -/
import Derived.Test.YtnljabgkaelplaaGat
import Derived.Test.YtnljabgkaelplaaMga
import Derived.Test.YtnljabgkaelplaaMgb
namespace Go.Proofs.Ytnljabgkaelplaa
open Go.Proofs.Ytnljabgkaelplaa.Flo Go.RowKit

/-- Finite. -/
def finB (x : Nat) : Bool := finD ((FloatKind.f32).decode x)
def afB (zs : List Nat) (n : Nat) : Bool := decide (∀ j, j < n → finB (zs.getD j 0) = true)
def sfB (zs : List Nat) (n : Nat) : Bool := decide (n ≤ 160) && afB zs n
theorem af_no {zs : List Nat} {n k : Nat} (hk : k < n) (h : finB (zs.getD k 0) = false) : afB zs n = false := notAll (p := fun j => finB (zs.getD j 0)) hk h
theorem af_all {zs : List Nat} {n : Nat} (h : ∀ j, j < n → finB (zs.getD j 0) = true) : afB zs n = true := decide_eq_true h
theorem sf_out {zs : List Nat} {n : Nat} (h : sfB zs n = true) : n ≤ 160 ∧ afB zs n = true := by
  unfold sfB at h; rw [Bool.and_eq_true] at h; exact ⟨of_decide_eq_true h.1, h.2⟩
theorem sf_yes {zs : List Nat} {n : Nat} (h : n ≤ 160) : sfB zs n = afB zs n := by unfold sfB; rw [decide_eq_true h, Bool.true_and]
theorem sf_no {zs : List Nat} {n : Nat} (h : ¬ n ≤ 160) : sfB zs n = false := by unfold sfB; rw [decide_eq_false h]; rfl
/-- Greater than 0. -/
def posB (x : Nat) : Bool := (FloatKind.f32).format.order x 0 == some .gt
def hdF (zs : List Nat) (i : Nat) : Value := .bool (posB (zs.getD i 0))
set_option maxHeartbeats 2000000 in
theorem af_impl (a : Option Addr) (n cap : Nat) (zs : List Nat) (w : World) (ha : FRow w a n zs) (hn : n ≤ 1048576) :
    Calls Try.prog 107 #[.slice a n cap] w fun e w' => e = .returned (.bool (afB zs n)) ∧ Drew w w' := by
  have HA := Lib.hid ha
  clear ha
  go_enter Try.func107, Try.ntmps107
  go_wp2
  go_loopw [7] (fun iv w' => ∃ (k : Nat) (wr : World), k ≤ n ∧ iv = .int .i64 k ∧ wr = w' ∧ Hid (∀ j, j < k → finB (zs.getD j 0) = true) ∧ Hid (Drew w wr)) (fun iv _ => n - (intOf iv).toNat)
  case atStart => exact ⟨0, _, by omega, rfl, rfl, Lib.hid (by intro j hj; omega), Lib.hid (by first | exact Drew.mk _ _ | exact ⟨0, rfl⟩)⟩
  case round =>
    obtain ⟨k, wr, hk, rfl, rfl, HL, HD⟩ := hrel
    by_cases hlt : k < n
    · obtain ⟨b1, o1, rfl, hck⟩ := (HD.out.row HA.out).cell hlt
      have HX : Hid (∀ W, Calls Try.prog 119 #[.float .f32 (zs.getD k 0)] W fun e w' => e = .returned (.bool (finB (zs.getD k 0))) ∧ Drew W w') := Lib.hid (fun W => finite_walk _ W)
      cases hf : finB (zs.getD k 0) with
      | true =>
        have HZ := Lib.hid hf
        rw [hf] at HX
        clear hf
        generalize hx : zs.getD k 0 = x at hck HX
        clear hx
        go_wp2_with (first | (go_at_call 119; refine (HX.out _).mono ?_; rintro e w2 ⟨rfl, hd⟩; have HD2 := Lib.hid (HD.out.trans hd); clear hd) | fail)
        exact ⟨⟨k + 1, _, by omega, by first | rfl | go_num | (congr 1), rfl, Lib.hid (fun j hj => by by_cases e : j = k; exact e ▸ HZ.out; exact HL.out j (by omega)), HD2⟩, by show n - ((k : Int) + 1).toNat < n - (k : Int).toNat; omega⟩
      | false =>
        have HF := Lib.hid (af_no hlt hf)
        rw [hf] at HX
        clear hf
        generalize hx : zs.getD k 0 = x at hck HX
        clear hx
        go_wp2_with (first | (go_at_call 119; refine (HX.out _).mono ?_; rintro e w2 ⟨rfl, hd⟩; have HD2 := Lib.hid (HD.out.trans hd); clear hd) | fail)
        go_ret
        exact ⟨ret_bool2 HF.out.symm, HD2.out⟩
    · obtain rfl : k = n := by omega
      have HF := Lib.hid (af_all HL.out)
      go_wp2
      go_ret
      exact ⟨ret_bool2 HF.out.symm, HD.out⟩
set_option maxHeartbeats 2000000 in
theorem af_spec (a : Option Addr) (n cap : Nat) (zs : List Nat) (w : World) (ha : FRow w a n zs) (hn : n ≤ 1048576) :
    Calls Try.prog 106 #[.slice a n cap] w fun e w' => e = .returned (.bool (afB zs n)) ∧ Drew w w' := by
  have HA := Lib.hid ha
  clear ha
  go_enter Try.func106, Try.ntmps106
  go_wp2
  go_loopw [3] (fun iv w' => ∃ (k : Nat) (wr : World), k ≤ n ∧ iv = .int .i64 k ∧ wr = w' ∧ Hid (∀ j, j < k → finB (zs.getD j 0) = true) ∧ Hid (Drew w wr)) (fun iv _ => n - (intOf iv).toNat)
  case atStart => exact ⟨0, _, by omega, rfl, rfl, Lib.hid (by intro j hj; omega), Lib.hid (by first | exact Drew.mk _ _ | exact ⟨0, rfl⟩)⟩
  case round =>
    obtain ⟨k, wr, hk, rfl, rfl, HL, HD⟩ := hrel
    by_cases hlt : k < n
    · obtain ⟨b1, o1, rfl, hck⟩ := (HD.out.row HA.out).cell hlt
      have HX : Hid (∀ W, Calls Try.prog 118 #[.float .f32 (zs.getD k 0)] W fun e w' => e = .returned (.bool (finB (zs.getD k 0))) ∧ Drew W w') := Lib.hid (fun W => finite_spec _ W)
      cases hf : finB (zs.getD k 0) with
      | true =>
        have HZ := Lib.hid hf
        rw [hf] at HX
        clear hf
        generalize hx : zs.getD k 0 = x at hck HX
        clear hx
        go_wp2_with (first | (go_at_call 118; refine (HX.out _).mono ?_; rintro e w2 ⟨rfl, hd⟩; have HD2 := Lib.hid (HD.out.trans hd); clear hd) | fail)
        exact ⟨⟨k + 1, _, by omega, by first | rfl | go_num | (congr 1), rfl, Lib.hid (fun j hj => by by_cases e : j = k; exact e ▸ HZ.out; exact HL.out j (by omega)), HD2⟩, by show n - ((k : Int) + 1).toNat < n - (k : Int).toNat; omega⟩
      | false =>
        have HF := Lib.hid (af_no hlt hf)
        rw [hf] at HX
        clear hf
        generalize hx : zs.getD k 0 = x at hck HX
        clear hx
        go_wp2_with (first | (go_at_call 118; refine (HX.out _).mono ?_; rintro e w2 ⟨rfl, hd⟩; have HD2 := Lib.hid (HD.out.trans hd); clear hd) | fail)
        go_ret
        exact ⟨ret_bool2 HF.out.symm, HD2.out⟩
    · obtain rfl : k = n := by omega
      have HF := Lib.hid (af_all HL.out)
      go_wp2
      go_ret
      exact ⟨ret_bool2 HF.out.symm, HD.out⟩
set_option maxHeartbeats 2000000 in
theorem sf_impl (a : Option Addr) (n cap : Nat) (zs : List Nat) (w : World) (ha : FRow w a n zs) (hn : n ≤ 1048576) :
    Calls Try.prog 87 #[.slice a n cap] w fun e w' => e = .returned (.bool (sfB zs n)) ∧ Drew w w' := by
  have HX : Hid (∀ W, Drew w W → Calls Try.prog 107 #[.slice a n cap] W fun e w' => e = .returned (.bool (afB zs n)) ∧ Drew W w') := Lib.hid (fun W hd => af_impl a n cap zs W (hd.row ha) hn)
  clear ha
  by_cases h1 : n ≤ 160
  · have HF := Lib.hid (sf_yes (zs := zs) h1)
    have d1 : decide ((n : Int) ≤ 160) = true := decide_eq_true (by omega)
    go_enter Try.func87, Try.ntmps87
    go_wp2_with (first | (go_at_call 107; refine (HX.out _ (by first | exact Drew.mk _ _ | exact ⟨0, rfl⟩)).mono ?_; rintro e w2 ⟨rfl, hd⟩; have HD2 := Lib.hid hd; clear hd) | fail)
    go_ret
    exact ⟨ret_bool2 HF.out.symm, by first | exact HD2.out | exact Drew.trans (by first | exact Drew.mk _ _ | exact ⟨0, rfl⟩) HD2.out⟩
  · have HF := Lib.hid (sf_no (zs := zs) h1)
    have d1 : decide ((n : Int) ≤ 160) = false := decide_eq_false (by omega)
    go_enter Try.func87, Try.ntmps87
    go_wp2
    go_ret
    exact ⟨ret_bool2 HF.out.symm, by first | exact Drew.mk _ _ | exact ⟨0, rfl⟩⟩
set_option maxHeartbeats 2000000 in
theorem s7_spec (a : Option Addr) (n cap : Nat) (zs : List Nat) (w : World) (ha : FRow w a n zs) (hn : n ≤ 1048576) :
    Calls Try.prog 83 #[.slice a n cap] w fun e w' => e = .returned (.bool (sfB zs n)) ∧ Drew w w' := by
  have HX : Hid (∀ W, Drew w W → Calls Try.prog 106 #[.slice a n cap] W fun e w' => e = .returned (.bool (afB zs n)) ∧ Drew W w') := Lib.hid (fun W hd => af_spec a n cap zs W (hd.row ha) hn)
  clear ha
  by_cases h1 : n ≤ 160
  · have HF := Lib.hid (sf_yes (zs := zs) h1)
    have d1 : decide ((n : Int) ≤ 160) = true := decide_eq_true (by omega)
    go_enter Try.func83, Try.ntmps83
    go_wp2_with (first | (go_at_call 106; refine (HX.out _ (by first | exact Drew.mk _ _ | exact ⟨0, rfl⟩)).mono ?_; rintro e w2 ⟨rfl, hd⟩; have HD2 := Lib.hid hd; clear hd) | fail)
    go_ret
    exact ⟨ret_bool2 HF.out.symm, by first | exact HD2.out | exact Drew.trans (by first | exact Drew.mk _ _ | exact ⟨0, rfl⟩) HD2.out⟩
  · have HF := Lib.hid (sf_no (zs := zs) h1)
    have d1 : decide ((n : Int) ≤ 160) = false := decide_eq_false (by omega)
    go_enter Try.func83, Try.ntmps83
    go_wp2
    go_ret
    exact ⟨ret_bool2 HF.out.symm, by first | exact Drew.mk _ _ | exact ⟨0, rfl⟩⟩
end Go.Proofs.Ytnljabgkaelplaa
