
/- FarOfBits: the law. -/
import Derived.Test.YthjijfghbchhpaaWgt
namespace Go.Proofs.Ythjijfghbchhpaa
open Go.Proofs.Ythjijfghbchhpaa.Flo Go.RowKit Go.Proofs.Ythjijfghbchhpaa.Pr

theorem wo_nat {x : Int} {m : Nat} (h : woB x m = true) : ∃ y : Nat, x = (y : Int) ∧ y < 2 ^ m := by
  have h1 : 0 ≤ x ∧ x < 2 ^ m := of_decide_eq_true h
  obtain ⟨y, rfl⟩ : ∃ y : Nat, x = (y : Int) := ⟨x.toNat, by omega⟩
  exact ⟨y, rfl, by exact_mod_cast h1.2⟩
def fbB (x y : Int) : Bool := woB x 16 && woB y 16
set_option maxHeartbeats 2000000 in
theorem fb_specY (x y : Nat) (w : World) (hx : x < 65536) (hy : y < 65536) : Calls Try.prog 28 #[.int .i64 (x : Int), .int .i64 (y : Int)] w fun e w' => e = .returned (.tuple #[.int .i64 (wt (x ^^^ y) : Int), .bool true]) ∧ w = w' := by
  have hHX : woB (x : Int) 16 = true := decide_eq_true (by have e : (2 : Int) ^ 16 = 65536 := by decide
                                                           rw [e]; omega)
  have hHY : woB (y : Int) 16 = true := decide_eq_true (by have e : (2 : Int) ^ 16 = 65536 := by decide
                                                           rw [e]; omega)
  have HX : Hid (∀ w2 : World, Calls Try.prog 45 #[.int .i64 (x : Int), .int .i64 16] w2 fun e w' => e = .returned (.bool true) ∧ w2 = w') := Lib.hid (fun w2 => by have := word_spec (x : Int) 16 w2 (by decide); rw [hHX, show ((16 : Nat) : Int) = 16 from rfl] at this; exact this)
  have HY : Hid (∀ w2 : World, Calls Try.prog 45 #[.int .i64 (y : Int), .int .i64 16] w2 fun e w' => e = .returned (.bool true) ∧ w2 = w') := Lib.hid (fun w2 => by have := word_spec (y : Int) 16 w2 (by decide); rw [hHY, show ((16 : Nat) : Int) = 16 from rfl] at this; exact this)
  have hb := b_xor x y (by omega) (by omega)
  have HZ : Hid (x ^^^ y < 65536) := Lib.hid (Nat.xor_lt_two_pow (n := 16) hx hy)
  generalize x ^^^ y = z at hb HZ
  clear hHX hHY
  go_enter Try.func28, Try.ntmps28
  go_wp2_with (first | (go_at_call 45; (with_reducible refine (HX.out _).mono ?_); rintro e w' ⟨rfl, hw⟩; subst hw) | (go_at_call 45; (with_reducible refine (HY.out _).mono ?_); rintro e w' ⟨rfl, hw⟩; subst hw) | (go_at_call 53; refine (wo_spec z _ HZ.out).mono ?_; rintro e w' ⟨rfl, hw⟩; subst hw) | fail)
  exact bodyPost_ret (v := .tuple #[.int .i64 (wt z : Int), .bool true]) (by simp [results, Try.results28, go_sem]) rfl ⟨rfl, rfl⟩
set_option maxHeartbeats 2000000 in
theorem fb_specN (x y : Int) (w : World) (h : fbB x y = false) : Calls Try.prog 28 #[.int .i64 x, .int .i64 y] w fun e w' => e = .returned (.tuple #[.int .i64 0, .bool false]) ∧ w = w' := by
  unfold fbB at h
  cases hHX : woB x 16 with
  | false =>
    have HX : Hid (∀ w2 : World, Calls Try.prog 45 #[.int .i64 x, .int .i64 16] w2 fun e w' => e = .returned (.bool false) ∧ w2 = w') := Lib.hid (fun w2 => by have := word_spec x 16 w2 (by decide); rw [hHX, show ((16 : Nat) : Int) = 16 from rfl] at this; exact this)
    clear h hHX
    go_enter Try.func28, Try.ntmps28
    go_wp2_with (first | (go_at_call 45; (with_reducible refine (HX.out _).mono ?_); rintro e w' ⟨rfl, hw⟩; subst hw) | fail)
    exact bodyPost_ret (v := .tuple #[.int .i64 0, .bool false]) (by simp [results, Try.results28, go_sem]) rfl ⟨rfl, rfl⟩
  | true =>
    rw [hHX] at h
    have hHY : woB y 16 = false := by simpa using h
    have HX : Hid (∀ w2 : World, Calls Try.prog 45 #[.int .i64 x, .int .i64 16] w2 fun e w' => e = .returned (.bool true) ∧ w2 = w') := Lib.hid (fun w2 => by have := word_spec x 16 w2 (by decide); rw [hHX, show ((16 : Nat) : Int) = 16 from rfl] at this; exact this)
    have HY : Hid (∀ w2 : World, Calls Try.prog 45 #[.int .i64 y, .int .i64 16] w2 fun e w' => e = .returned (.bool false) ∧ w2 = w') := Lib.hid (fun w2 => by have := word_spec y 16 w2 (by decide); rw [hHY, show ((16 : Nat) : Int) = 16 from rfl] at this; exact this)
    clear h hHX hHY
    go_enter Try.func28, Try.ntmps28
    go_wp2_with (first | (go_at_call 45; (with_reducible refine (HX.out _).mono ?_); rintro e w' ⟨rfl, hw⟩; subst hw) | (go_at_call 45; (with_reducible refine (HY.out _).mono ?_); rintro e w' ⟨rfl, hw⟩; subst hw) | fail)
    exact bodyPost_ret (v := .tuple #[.int .i64 0, .bool false]) (by simp [results, Try.results28, go_sem]) rfl ⟨rfl, rfl⟩
set_option maxHeartbeats 2000000 in
theorem fb_implY (x y : Nat) (w : World) (hx : x < 65536) (hy : y < 65536) : Calls Try.prog 29 #[.int .i64 (x : Int), .int .i64 (y : Int)] w fun e w' => e = .returned (.tuple #[.int .i64 (wt (x ^^^ y) : Int), .bool true]) ∧ w = w' := by
  have hHX : woB (x : Int) 16 = true := decide_eq_true (by have e : (2 : Int) ^ 16 = 65536 := by decide
                                                           rw [e]; omega)
  have hHY : woB (y : Int) 16 = true := decide_eq_true (by have e : (2 : Int) ^ 16 = 65536 := by decide
                                                           rw [e]; omega)
  have HX : Hid (∀ w2 : World, Calls Try.prog 36 #[.int .i64 (x : Int), .int .i64 16] w2 fun e w' => e = .returned (.bool true) ∧ w2 = w') := Lib.hid (fun w2 => by have := word_impl (x : Int) 16 w2 (by decide); rw [hHX, show ((16 : Nat) : Int) = 16 from rfl] at this; exact this)
  have HY : Hid (∀ w2 : World, Calls Try.prog 36 #[.int .i64 (y : Int), .int .i64 16] w2 fun e w' => e = .returned (.bool true) ∧ w2 = w') := Lib.hid (fun w2 => by have := word_impl (y : Int) 16 w2 (by decide); rw [hHY, show ((16 : Nat) : Int) = 16 from rfl] at this; exact this)
  have hb := b_xor x y (by omega) (by omega)
  have HZ : Hid (x ^^^ y < 65536) := Lib.hid (Nat.xor_lt_two_pow (n := 16) hx hy)
  generalize x ^^^ y = z at hb HZ
  clear hHX hHY
  go_enter Try.func29, Try.ntmps29
  go_wp2_with (first | (go_at_call 36; (with_reducible refine (HX.out _).mono ?_); rintro e w' ⟨rfl, hw⟩; subst hw) | (go_at_call 36; (with_reducible refine (HY.out _).mono ?_); rintro e w' ⟨rfl, hw⟩; subst hw) | (go_at_call 54; refine (wo_impl z _ HZ.out).mono ?_; rintro e w' ⟨rfl, hw⟩; subst hw) | fail)
  exact bodyPost_ret (v := .tuple #[.int .i64 (wt z : Int), .bool true]) (by simp [results, Try.results29, go_sem]) rfl ⟨rfl, rfl⟩
set_option maxHeartbeats 2000000 in
theorem fb_implN (x y : Int) (w : World) (h : fbB x y = false) : Calls Try.prog 29 #[.int .i64 x, .int .i64 y] w fun e w' => e = .returned (.tuple #[.int .i64 0, .bool false]) ∧ w = w' := by
  unfold fbB at h
  cases hHX : woB x 16 with
  | false =>
    have HX : Hid (∀ w2 : World, Calls Try.prog 36 #[.int .i64 x, .int .i64 16] w2 fun e w' => e = .returned (.bool false) ∧ w2 = w') := Lib.hid (fun w2 => by have := word_impl x 16 w2 (by decide); rw [hHX, show ((16 : Nat) : Int) = 16 from rfl] at this; exact this)
    clear h hHX
    go_enter Try.func29, Try.ntmps29
    go_wp2_with (first | (go_at_call 36; (with_reducible refine (HX.out _).mono ?_); rintro e w' ⟨rfl, hw⟩; subst hw) | fail)
    exact bodyPost_ret (v := .tuple #[.int .i64 0, .bool false]) (by simp [results, Try.results29, go_sem]) rfl ⟨rfl, rfl⟩
  | true =>
    rw [hHX] at h
    have hHY : woB y 16 = false := by simpa using h
    have HX : Hid (∀ w2 : World, Calls Try.prog 36 #[.int .i64 x, .int .i64 16] w2 fun e w' => e = .returned (.bool true) ∧ w2 = w') := Lib.hid (fun w2 => by have := word_impl x 16 w2 (by decide); rw [hHX, show ((16 : Nat) : Int) = 16 from rfl] at this; exact this)
    have HY : Hid (∀ w2 : World, Calls Try.prog 36 #[.int .i64 y, .int .i64 16] w2 fun e w' => e = .returned (.bool false) ∧ w2 = w') := Lib.hid (fun w2 => by have := word_impl y 16 w2 (by decide); rw [hHY, show ((16 : Nat) : Int) = 16 from rfl] at this; exact this)
    clear h hHX hHY
    go_enter Try.func29, Try.ntmps29
    go_wp2_with (first | (go_at_call 36; (with_reducible refine (HX.out _).mono ?_); rintro e w' ⟨rfl, hw⟩; subst hw) | (go_at_call 36; (with_reducible refine (HY.out _).mono ?_); rintro e w' ⟨rfl, hw⟩; subst hw) | fail)
    exact bodyPost_ret (v := .tuple #[.int .i64 0, .bool false]) (by simp [results, Try.results29, go_sem]) rfl ⟨rfl, rfl⟩
set_option maxHeartbeats 2000000 in
theorem fb_walk (x y : Int) (w : World) (_ : (Lit.int .i64 x).wf = true) (_ : (Lit.int .i64 y).wf = true) :
    Calls Try.prog 9 #[.int .i64 x, .int .i64 y] w fun e w' => e = .returned (.bool true) ∧ Below w.heap.size w w' := by
  cases hok : fbB x y with
  | true =>
    unfold fbB at hok
    rw [Bool.and_eq_true] at hok
    obtain ⟨a, rfl, ha⟩ := wo_nat hok.1
    obtain ⟨b, rfl, hb⟩ := wo_nat hok.2
    have HA : Hid (a < 65536) := Lib.hid ha
    have HB : Hid (b < 65536) := Lib.hid hb
    clear hok ha hb
    go_enter Try.func9, Try.ntmps9
    go_wp2_with (first | (go_at_call 28; refine (fb_specY a b _ HA.out HB.out).mono ?_; rintro e w' ⟨rfl, hw⟩; subst hw) | (go_at_call 29; refine (fb_implY a b _ HA.out HB.out).mono ?_; rintro e w' ⟨rfl, hw⟩; subst hw) | fail)
    go_ret
    exact ⟨rfl, Below.refl _ _⟩
  | false =>
    have HN := Lib.hid hok
    clear hok
    go_enter Try.func9, Try.ntmps9
    go_wp2_with (first | (go_at_call 28; refine (fb_specN x y _ HN.out).mono ?_; rintro e w' ⟨rfl, hw⟩; subst hw) | (go_at_call 29; refine (fb_implN x y _ HN.out).mono ?_; rintro e w' ⟨rfl, hw⟩; subst hw) | fail)
    go_ret
    exact ⟨rfl, Below.refl _ _⟩
end Go.Proofs.Ythjijfghbchhpaa
