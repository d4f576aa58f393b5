
/- Walks over the check number and over names. -/
import Derived.Test.YthkabonnclfhmaaDoorChecked
import Derived.WalkKit
import Derived.WalkLawsBesides
import Derived.Laws.RangeString
import Derived.Laws.RangeAny
import Derived.Lib.Hide
namespace Go.Proofs.YthkabonnclfhmaaDoor
open Go.RowKit

theorem ret_int {k : IntKind} {a b : Int} (h : a = b) : Ending.returned (.int k a) = .returned (.int k b) := by rw [h]
theorem ret_int_bool {k : IntKind} {a b : Int} {c : Bool} (h : a = b) : Ending.returned (.tuple #[.int k a, .bool c]) = .returned (.tuple #[.int k b, .bool c]) := by rw [h]

def chk (n : Int) (l : List UInt8) : Int := l.foldl (fun n c => (929 * n + (c.toNat : Int) + 193) % 65003) n
theorem chk_snoc (n : Int) (l : List UInt8) (c : UInt8) : chk n (l ++ [c]) = (929 * chk n l + (c.toNat : Int) + 193) % 65003 := by
  unfold chk; rw [List.foldl_append]; rfl
theorem chk_bd (n : Int) (h0 : 0 ≤ n) (h1 : n < 65003) : ∀ l : List UInt8, 0 ≤ chk n l ∧ chk n l < 65003 := by
  intro l
  induction l generalizing n with
  | nil => exact ⟨h0, h1⟩
  | cons c l ih =>
    have : chk n (c :: l) = chk ((929 * n + (c.toNat : Int) + 193) % 65003) l := rfl
    rw [this]
    exact ih _ (by omega) (by omega)
theorem take_snoc (s : ByteArray) (k : Nat) (h : k < s.size) : s.data.toList.take (k + 1) = s.data.toList.take k ++ [s[k]] := by
  rw [List.take_succ_eq_append_getElem (by simpa using h)]; rfl
theorem take_all (s : ByteArray) (k : Nat) (h : ¬ k < s.size) : s.data.toList.take k = s.data.toList := List.take_of_length_le (by simp; omega)

set_option maxHeartbeats 400000 in
theorem check_spec (n : Int) (s : ByteArray) (w : World) (h0 : 0 ≤ n) (h1 : n < 65003) (hs : s.size ≤ maxLen) :
    Calls Tryd.prog 124 #[.int .i64 n, .string s] w fun e w' => e = .returned (.int .i64 (chk n s.data.toList)) ∧ w = w' := by
  unfold maxLen at hs
  go_enter Tryd.func124, Tryd.ntmps124
  go_wp2
  go_loop [0, 5] (fun c i => ∃ k : Nat, k ≤ s.size ∧ i = .int .i64 k ∧ c = .int .i64 (chk n (s.data.toList.take k))) (fun _ i => s.size - (intOf i).toNat)
  case atStart => exact ⟨0, Nat.zero_le _, rfl, rfl⟩
  case round =>
    obtain ⟨k, hk, rfl, rfl⟩ := hrel
    have hb := chk_bd n h0 h1 (s.data.toList.take k)
    by_cases hlt : k < s.size
    · have hsn := chk_snoc n (s.data.toList.take k) s[k]
      rw [← take_snoc s k hlt] at hsn
      have hc : (s[k].toNat : Int) < 256 := by have := s[k].toNat_lt; omega
      have H := Lib.hid hsn
      clear hsn
      go_wp2
      go_round
      case rel => exact ⟨k + 1, by omega, by go_num, by rw [H.out]⟩
      case measure => simp [intOf]; omega
    · have H := Lib.hid (take_all s k hlt)
      go_wp2
      go_ret
      exact ⟨ret_int (by rw [H.out]), rfl⟩

set_option maxHeartbeats 400000 in
theorem check_impl (n : Int) (s : ByteArray) (w : World) (h0 : 0 ≤ n) (h1 : n < 65003) (hs : s.size ≤ maxLen) :
    Calls Tryd.prog 125 #[.int .i64 n, .string s] w fun e w' => e = .returned (.tuple #[.int .i64 (chk n s.data.toList), .bool true]) ∧ w = w' := by
  unfold maxLen at hs
  go_enter Tryd.func125, Tryd.ntmps125
  go_wp2
  go_loop [6, 17] (fun c i => ∃ k : Nat, k ≤ s.size ∧ i = .int .i64 k ∧ c = .int .i64 (chk n (s.data.toList.take k))) (fun _ i => s.size - (intOf i).toNat)
  case atStart => exact ⟨0, Nat.zero_le _, rfl, rfl⟩
  case round =>
    obtain ⟨k, hk, rfl, rfl⟩ := hrel
    have hb := chk_bd n h0 h1 (s.data.toList.take k)
    by_cases hlt : k < s.size
    · have hsn := chk_snoc n (s.data.toList.take k) s[k]
      rw [← take_snoc s k hlt] at hsn
      have hc : (s[k].toNat : Int) < 256 := by have := s[k].toNat_lt; omega
      have H := Lib.hid hsn
      clear hsn
      go_wp2
      go_round
      case rel => exact ⟨k + 1, by omega, by go_num, by rw [H.out]⟩
      case measure => simp [intOf]; omega
    · have H := Lib.hid (take_all s k hlt)
      go_wp2
      go_ret2
      exact ⟨ret_int_bool (by rw [H.out]), rfl⟩


end Go.Proofs.YthkabonnclfhmaaDoor
