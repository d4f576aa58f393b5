
/- ReadNumbers: one number. -/
import Derived.Test.YtkmggoagboikgaaDoorStx
import Derived.Test.YtkmggoagboikgaaDoorFla
import Derived.Laws.RangeString
import Derived.Laws.RangeAny
set_option linter.unusedVariables false
set_option linter.unusedSimpArgs false
namespace Go.Proofs.YtkmggoagboikgaaDoor
open Go.Proofs.YtkmggoagboikgaaDoor.Flo Go.RowKit

/-- The value of a digit. -/
def hvO (c : Nat) : Option Nat := if 48 ≤ c ∧ c ≤ 57 then some (c - 48) else if 97 ≤ c ∧ c ≤ 102 then some (c - 87) else none
theorem hvO_lt {c d : Nat} (h : hvO c = some d) : d < 16 := by
  unfold hvO at h
  split at h
  · cases h; omega
  · split at h
    · cases h; omega
    · cases h
/-- The value of the first k digits. -/
def hvT (l : List UInt8) : Nat → Option Nat
  | 0 => some 0
  | k + 1 => match hvT l k, hvO (l.getD k 0).toNat with
    | some n, some d => some (16 * n + d)
    | _, _ => none
theorem hvT_lt {l : List UInt8} : ∀ {k n : Nat}, hvT l k = some n → n < 16 ^ k
  | 0, n, h => by cases h; decide
  | k + 1, n, h => by
    unfold hvT at h
    cases h1 : hvT l k with
    | none => rw [h1] at h; cases h
    | some m =>
      cases h2 : hvO (l.getD k 0).toNat with
      | none => rw [h1, h2] at h; cases h
      | some d =>
        rw [h1, h2] at h
        cases h
        have := hvT_lt h1
        have := hvO_lt h2
        rw [Nat.pow_succ]
        omega
theorem hvT_on {l : List UInt8} {k n d : Nat} (h : hvT l k = some n) (h2 : hvO (l.getD k 0).toNat = some d) : hvT l (k + 1) = some (16 * n + d) := by unfold hvT; rw [h, h2]
theorem hvT_no {l : List UInt8} {k : Nat} (h2 : hvO (l.getD k 0).toNat = none) : ∀ m, k < m → hvT l m = none
  | 0, h => absurd h (by omega)
  | m + 1, h => by
    unfold hvT
    by_cases e : k = m
    · subst e; rw [h2]; cases hvT l k <;> rfl
    · rw [hvT_no h2 m (by omega)]
/-- The bits of the number that 8 digits tell. -/
def rpO (l : List UInt8) : Option Nat := if l.length = 8 then (match hvT l 8 with | some n => if bitsF n = n then some n else none | none => none) else none
theorem rpO_len {l : List UInt8} (h : ¬ l.length = 8) : rpO l = none := if_neg h
theorem rpO_dig {l : List UInt8} {k : Nat} (hk : k < 8) (h2 : hvO (l.getD k 0).toNat = none) : rpO l = none := by
  unfold rpO
  rw [hvT_no h2 8 hk]
  split <;> rfl
theorem rpO_val {l : List UInt8} {n : Nat} (h : l.length = 8) (h2 : hvT l 8 = some n) : rpO l = if bitsF n = n then some n else none := by
  unfold rpO; rw [if_pos h, h2]
theorem rpO_lt {l : List UInt8} {n : Nat} (h : rpO l = some n) : n < 4294967296 := by
  by_cases h8 : l.length = 8
  · cases h1 : hvT l 8 with
    | none => unfold rpO at h; rw [if_pos h8, h1] at h; cases h
    | some m =>
      rw [rpO_val h8 h1] at h
      split at h
      · cases h; have := hvT_lt h1; omega
      · cases h
  · rw [rpO_len h8] at h; cases h
/-- What is answered of a text. -/
def rpV (l : List UInt8) : Value := match rpO l with | some n => .tuple #[.float .f32 n, .bool true] | none => .tuple #[.float .f32 0, .bool false]
theorem rpV_no {l : List UInt8} (h : rpO l = none) : rpV l = .tuple #[.float .f32 0, .bool false] := by unfold rpV; rw [h]
theorem rpV_yes {l : List UInt8} {n : Nat} (h : rpO l = some n) : rpV l = .tuple #[.float .f32 n, .bool true] := by unfold rpV; rw [h]
set_option maxHeartbeats 1000000 in
theorem hxd_impl (r : Nat) (w : World) (hr : r < 2147483648) : Calls Tryd.prog 31 #[.int .i32 (r : Int)] w fun e w' => e = .returned (match hvO r with | some d => .tuple #[.int .i64 (d : Int), .bool true] | none => .tuple #[.int .i64 0, .bool false]) ∧ w = w' := by
  by_cases h1 : 48 ≤ r
  · have d1 : decide ((48 : Int) ≤ (r : Int)) = true := decide_eq_true (by omega)
    have d1b : decide (48 ≤ r) = true := decide_eq_true h1
    by_cases h2 : r ≤ 57
    · have d2 : decide ((r : Int) ≤ 57) = true := decide_eq_true (by omega)
      have d2b : decide (r ≤ 57) = true := decide_eq_true h2
      have HV : Hid (hvO r = some (r - 48)) := Lib.hid (by unfold hvO; rw [if_pos ⟨h1, h2⟩])
      rw [HV.out]
      have hc : ((r - 48 : Nat) : Int) = (r : Int) - 48 := by omega
      go_enter Tryd.func31, Tryd.ntmps31
      go_wp2
      go_ret2
      exact ⟨by show _ = Ending.returned (.tuple #[.int .i64 ((r - 48 : Nat) : Int), .bool true]); rw [hc]; rfl, rfl⟩
    · have d2 : decide ((r : Int) ≤ 57) = false := decide_eq_false (by omega)
      have d2b : decide (r ≤ 57) = false := decide_eq_false h2
      by_cases h3 : 97 ≤ r
      · have d3 : decide ((97 : Int) ≤ (r : Int)) = true := decide_eq_true (by omega)
        have d3b : decide (97 ≤ r) = true := decide_eq_true h3
        by_cases h4 : r ≤ 102
        · have d4 : decide ((r : Int) ≤ 102) = true := decide_eq_true (by omega)
          have d4b : decide (r ≤ 102) = true := decide_eq_true h4
          have HV : Hid (hvO r = some (r - 87)) := Lib.hid (by unfold hvO; rw [if_neg (by omega), if_pos ⟨h3, h4⟩])
          rw [HV.out]
          have hc : ((r - 87 : Nat) : Int) = (r : Int) - 97 + 10 := by omega
          go_enter Tryd.func31, Tryd.ntmps31
          go_wp2
          go_ret2
          exact ⟨by show _ = Ending.returned (.tuple #[.int .i64 ((r - 87 : Nat) : Int), .bool true]); rw [hc]; rfl, rfl⟩
        · have d4 : decide ((r : Int) ≤ 102) = false := decide_eq_false (by omega)
          have d4b : decide (r ≤ 102) = false := decide_eq_false h4
          have HV : Hid (hvO r = none) := Lib.hid (by unfold hvO; rw [if_neg (by omega), if_neg (by omega)])
          rw [HV.out]
          go_enter Tryd.func31, Tryd.ntmps31
          go_wp2
          go_ret2
          exact ⟨rfl, rfl⟩
      · have d3 : decide ((97 : Int) ≤ (r : Int)) = false := decide_eq_false (by omega)
        have d3b : decide (97 ≤ r) = false := decide_eq_false h3
        have HV : Hid (hvO r = none) := Lib.hid (by unfold hvO; rw [if_neg (by omega), if_neg (by omega)])
        rw [HV.out]
        go_enter Tryd.func31, Tryd.ntmps31
        go_wp2
        go_ret2
        exact ⟨rfl, rfl⟩
  · have d1 : decide ((48 : Int) ≤ (r : Int)) = false := decide_eq_false (by omega)
    have d1b : decide (48 ≤ r) = false := decide_eq_false h1
    have d3 : decide ((97 : Int) ≤ (r : Int)) = false := decide_eq_false (by omega)
    have d3b : decide (97 ≤ r) = false := decide_eq_false (by omega)
    have HV : Hid (hvO r = none) := Lib.hid (by unfold hvO; rw [if_neg (by omega), if_neg (by omega)])
    rw [HV.out]
    go_enter Tryd.func31, Tryd.ntmps31
    go_wp2
    go_ret2
    exact ⟨rfl, rfl⟩
end Go.Proofs.YtkmggoagboikgaaDoor
