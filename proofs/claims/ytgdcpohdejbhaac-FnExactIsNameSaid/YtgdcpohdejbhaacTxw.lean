/- Walks over the check number and over names. -/
import Derived.Test.YtgdcpohdejbhaacChecked
import Derived.WalkKit
import Derived.WalkLawsBesides
import Derived.Laws.RangeString
import Derived.Laws.RangeAny
import Derived.Lib.Hide
namespace Go.Proofs.Ytgdcpohdejbhaac
open Go.RowKit

theorem ret_int {k : IntKind} {a b : Int} (h : a = b) : Ending.returned (.int k a) = .returned (.int k b) := by rw [h]
theorem ret_int_bool {k : IntKind} {a b : Int} {c : Bool} (h : a = b) : Ending.returned (.tuple #[.int k a, .bool c]) = .returned (.tuple #[.int k b, .bool c]) := by rw [h]

def chk (n : Int) (l : List UInt8) : Int := l.foldl (fun n c => (929 * n + (c.toNat : Int) + 193) % 65003) n
theorem chk_snoc (n : Int) (l : List UInt8) (c : UInt8) : chk n (l ++ [c]) = (929 * chk n l + (c.toNat : Int) + 193) % 65003 := by
  unfold chk; rw [List.foldl_append]; rfl
theorem chk_bd (n : Int) (h0 : 0 ≤ n) (h1 : n < 65003) : ∀ l : List UInt8, 0 ≤ chk n l ∧ chk n l < 65003 := by
  intro l
  induction l generalizing n with
  | nil => exact ⟨h0, h1⟩
  | cons c l ih =>
    have : chk n (c :: l) = chk ((929 * n + (c.toNat : Int) + 193) % 65003) l := rfl
    rw [this]
    exact ih _ (by omega) (by omega)
theorem take_snoc (s : ByteArray) (k : Nat) (h : k < s.size) : s.data.toList.take (k + 1) = s.data.toList.take k ++ [s[k]] := by
  rw [List.take_succ_eq_append_getElem (by simpa using h)]; rfl
theorem take_all (s : ByteArray) (k : Nat) (h : ¬ k < s.size) : s.data.toList.take k = s.data.toList := List.take_of_length_le (by simp; omega)

set_option maxHeartbeats 400000 in
theorem check_spec (n : Int) (s : ByteArray) (w : World) (h0 : 0 ≤ n) (h1 : n < 65003) (hs : s.size ≤ maxLen) :
    Calls Try.prog 64 #[.int .i64 n, .string s] w fun e w' => e = .returned (.int .i64 (chk n s.data.toList)) ∧ w = w' := by
  unfold maxLen at hs
  go_enter Try.func64, Try.ntmps64
  go_wp2
  go_loop [0, 5] (fun c i => ∃ k : Nat, k ≤ s.size ∧ i = .int .i64 k ∧ c = .int .i64 (chk n (s.data.toList.take k))) (fun _ i => s.size - (intOf i).toNat)
  case atStart => exact ⟨0, Nat.zero_le _, rfl, rfl⟩
  case round =>
    obtain ⟨k, hk, rfl, rfl⟩ := hrel
    have hb := chk_bd n h0 h1 (s.data.toList.take k)
    by_cases hlt : k < s.size
    · have hsn := chk_snoc n (s.data.toList.take k) s[k]
      rw [← take_snoc s k hlt] at hsn
      have hc : (s[k].toNat : Int) < 256 := by have := s[k].toNat_lt; omega
      have H := Lib.hid hsn
      clear hsn
      go_wp2
      go_round
      case rel => exact ⟨k + 1, by omega, by go_num, by rw [H.out]⟩
      case measure => simp [intOf]; omega
    · have H := Lib.hid (take_all s k hlt)
      go_wp2
      go_ret
      exact ⟨ret_int (by rw [H.out]), rfl⟩

set_option maxHeartbeats 400000 in
theorem check_impl (n : Int) (s : ByteArray) (w : World) (h0 : 0 ≤ n) (h1 : n < 65003) (hs : s.size ≤ maxLen) :
    Calls Try.prog 33 #[.int .i64 n, .string s] w fun e w' => e = .returned (.tuple #[.int .i64 (chk n s.data.toList), .bool true]) ∧ w = w' := by
  unfold maxLen at hs
  go_enter Try.func33, Try.ntmps33
  go_wp2
  go_loop [6, 17] (fun c i => ∃ k : Nat, k ≤ s.size ∧ i = .int .i64 k ∧ c = .int .i64 (chk n (s.data.toList.take k))) (fun _ i => s.size - (intOf i).toNat)
  case atStart => exact ⟨0, Nat.zero_le _, rfl, rfl⟩
  case round =>
    obtain ⟨k, hk, rfl, rfl⟩ := hrel
    have hb := chk_bd n h0 h1 (s.data.toList.take k)
    by_cases hlt : k < s.size
    · have hsn := chk_snoc n (s.data.toList.take k) s[k]
      rw [← take_snoc s k hlt] at hsn
      have hc : (s[k].toNat : Int) < 256 := by have := s[k].toNat_lt; omega
      have H := Lib.hid hsn
      clear hsn
      go_wp2
      go_round
      case rel => exact ⟨k + 1, by omega, by go_num, by rw [H.out]⟩
      case measure => simp [intOf]; omega
    · have H := Lib.hid (take_all s k hlt)
      go_wp2
      go_ret2
      exact ⟨ret_int_bool (by rw [H.out]), rfl⟩

theorem check_law (n : Int) (s : ByteArray) (w : World) (_ : (Lit.int .i64 n).wf = true) (hs : s.size ≤ maxLen) :
    Calls Try.prog 11 #[.int .i64 n, .string s] w fun e w' => e = .returned (.bool true) ∧ Below w.heap.size w w' := by
  by_cases hl : s.size ≤ 1048576
  · by_cases h0 : n < 0
    · go_enter Try.func11, Try.ntmps11
      go_wp2
      go_ret
      exact ⟨rfl, Below.refl _ _⟩
    · by_cases h1 : n < 65003
      · have h2 : decide (n ≤ 65002) = true := by simp; omega
        go_enter Try.func11, Try.ntmps11
        go_wp2_with (first | (go_at_call 33; refine (check_impl _ _ _ (by omega) h1 hs).mono ?_; rintro e w' ⟨rfl, rfl⟩) | (go_at_call 64; refine (check_spec _ _ _ (by omega) h1 hs).mono ?_; rintro e w' ⟨rfl, rfl⟩) | go_in)
        go_ret
        exact ⟨rfl, Below.refl _ _⟩
      · have h2 : decide (n ≤ 65002) = false := by simp; omega
        go_enter Try.func11, Try.ntmps11
        go_wp2
        go_ret
        exact ⟨rfl, Below.refl _ _⟩
  · have hl2 : (1048576 : Int) < (s.size : Int) := by omega
    clear hl
    go_enter Try.func11, Try.ntmps11
    go_wp2
    go_ret
    exact ⟨rfl, Below.refl _ _⟩

/-- A letter a to z. -/
def letB (c : UInt8) : Bool := decide (97 ≤ c.toNat) && decide (c.toNat ≤ 122)
def nameB (l : List UInt8) : Bool := l.all letB && (decide (1 ≤ l.length) && decide (l.length ≤ 8))
theorem all_snoc (l : List UInt8) (c : UInt8) (h : l.all letB = true) (h1 : 97 ≤ c.toNat) (h2 : c.toNat ≤ 122) : (l ++ [c]).all letB = true := by
  rw [List.all_append, h]; simp [letB, h1, h2]
theorem not_all {s : ByteArray} {k : Nat} (h : k < s.size) (hc : s[k].toNat < 97 ∨ 122 < s[k].toNat) : s.data.toList.all letB = false := by
  rw [List.all_eq_false]
  refine ⟨s[k], ?_, ?_⟩
  · exact List.getElem_mem (l := s.data.toList) (n := k) (by simpa using h)
  · simp [letB]; omega
theorem take_snoc' (s : ByteArray) (k : Nat) (h : k < s.size) : s.data.toList.take (k + 1) = s.data.toList.take k ++ [s[k]] := by
  rw [List.take_succ_eq_append_getElem (by simpa using h)]; rfl
theorem ret_bool {a b : Bool} (h : a = b) : Ending.returned (.bool a) = .returned (.bool b) := by rw [h]

set_option maxHeartbeats 400000 in
theorem name_spec (s : ByteArray) (w : World) (hs : s.size ≤ maxLen) :
    Calls Try.prog 30 #[.string s] w fun e w' => e = .returned (.bool (nameB s.data.toList)) ∧ w = w' := by
  unfold maxLen at hs
  go_enter Try.func30, Try.ntmps30
  go_wp2
  go_loop [3] (fun i => ∃ k : Nat, k ≤ s.size ∧ i = .int .i64 k ∧ (s.data.toList.take k).all letB = true) (fun i => s.size - (intOf i).toNat)
  case atStart => exact ⟨0, Nat.zero_le _, rfl, rfl⟩
  case round =>
    obtain ⟨k, hk, rfl, hall⟩ := hrel
    have Hall := Lib.hid hall
    clear hall
    by_cases hlt : k < s.size
    · by_cases h1 : (s[k].toNat : Int) < 97
      · have H := Lib.hid (not_all hlt (.inl (by omega)))
        go_wp2
        go_ret
        exact ⟨ret_bool (by rw [nameB, H.out, Bool.false_and]), rfl⟩
      · by_cases h2 : (122 : Int) < (s[k].toNat : Int)
        · have H := Lib.hid (not_all hlt (.inr (by omega)))
          go_wp2
          go_ret
          exact ⟨ret_bool (by rw [nameB, H.out, Bool.false_and]), rfl⟩
        · have H := Lib.hid (all_snoc _ _ Hall.out (by omega : 97 ≤ s[k].toNat) (by omega))
          have H2 := Lib.hid (take_snoc' s k hlt)
          go_wp2
          go_round
          case rel => exact ⟨k + 1, by omega, by go_num, by rw [H2.out]; exact H.out⟩
          case measure => simp [intOf]; omega
    · have H : Hid (s.data.toList.all letB = true) := Lib.hid (by
        have := Hall.out
        rwa [List.take_of_length_le (by simp; omega)] at this)
      by_cases h1 : (1 : Int) ≤ (s.size : Int)
      all_goals
        go_wp2
        go_ret
        exact ⟨ret_bool (by rw [nameB, H.out, Bool.eq_iff_iff]; simp; omega), rfl⟩

theorem name_short {s : ByteArray} (h : s.size < 1 ∨ 8 < s.size) : nameB s.data.toList = false := by
  have hz : s.data.toList.length = s.size := by simp
  unfold nameB
  rw [hz]
  rcases h with h | h
  · have : decide (1 ≤ s.size) = false := decide_eq_false (by omega)
    rw [this]; simp
  · have : decide (s.size ≤ 8) = false := decide_eq_false (by omega)
    rw [this]; simp
theorem name_full {s : ByteArray} (h1 : 1 ≤ s.size) (h2 : s.size ≤ 8) (h : s.data.toList.all letB = true) : nameB s.data.toList = true := by
  have hz : s.data.toList.length = s.size := by simp
  unfold nameB
  rw [hz, h, decide_eq_true h1, decide_eq_true h2]; rfl

set_option maxHeartbeats 400000 in
theorem name_impl (s : ByteArray) (w : World) (hs : s.size ≤ maxLen) :
    Calls Try.prog 31 #[.string s] w fun e w' => e = .returned (.bool (nameB s.data.toList)) ∧ Below w.heap.size w w' := by
  unfold maxLen at hs
  by_cases h0 : s.size < 1
  · have H := Lib.hid (name_short (.inl h0))
    have hlt : (s.size : Int) < 1 := by omega
    clear h0
    go_enter Try.func31, Try.ntmps31
    go_wp2
    go_ret
    exact ⟨ret_bool (by rw [H.out]), Below.refl _ _⟩
  by_cases h8 : 8 < s.size
  · have H := Lib.hid (name_short (.inr h8))
    have hlt : (8 : Int) < (s.size : Int) := by omega
    clear h8
    go_enter Try.func31, Try.ntmps31
    go_wp2
    go_ret
    exact ⟨ret_bool (by rw [H.out]), Below.refl _ _⟩
  have g1 : ¬ (s.size : Int) < 1 := by omega
  have g2 : ¬ (8 : Int) < (s.size : Int) := by omega
  go_enter Try.func31, Try.ntmps31
  go_wp2
  go_loopw [] (fun w' => ∃ pos : Nat, w' = w.iter s pos ∧ pos ≤ s.size ∧ Hid ((s.data.toList.take pos).all letB = true)) (fun w' => s.size - w'.iterPos w.heap.size)
  case atStart => exact ⟨0, rfl, Nat.zero_le _, Lib.hid rfl⟩
  case round =>
    obtain ⟨pos, rfl, hpos, Hall⟩ := hrel
    by_cases hp : pos < s.size
    · by_cases ha : s[pos].toNat < 128
      · have hnx : ∀ ty, (Instr.next (.pointer (some ⟨w.heap.size, 0, none⟩)) true ty).run Try.prog (w.iter s pos) = _ := fun ty => run_next_ascii w s pos ty hp ha
        by_cases h1 : (s[pos].toNat : Int) < 97
        · have H := Lib.hid (not_all hp (.inl (by omega)))
          go_wp2
          go_ret
          exact ⟨ret_bool (by rw [nameB, H.out, Bool.false_and]), (Below.refl _ _).alloc (Nat.le_refl _) _⟩
        · by_cases h2 : (122 : Int) < (s[pos].toNat : Int)
          · have H := Lib.hid (not_all hp (.inr (by omega)))
            go_wp2
            go_ret
            exact ⟨ret_bool (by rw [nameB, H.out, Bool.false_and]), (Below.refl _ _).alloc (Nat.le_refl _) _⟩
          · have H := Lib.hid (all_snoc _ _ Hall.out (by omega : 97 ≤ s[pos].toNat) (by omega))
            have H2 := Lib.hid (take_snoc' s pos hp)
            go_wp2
            go_roundw
            case rel => exact ⟨pos + 1, rfl, by omega, Lib.hid (by rw [H2.out]; exact H.out)⟩
            case measure => simp; omega
      · have hnx : ∀ ty, (Instr.next (.pointer (some ⟨w.heap.size, 0, none⟩)) true ty).run Try.prog (w.iter s pos) = _ := fun ty => run_next_any w s pos ty hp
        have hd := (decode_high s pos hp (by omega)).1
        have hle := decode_le s pos
        have H := Lib.hid (not_all hp (.inr (by omega)))
        have h1 : ¬ ((Utf8.decode s pos).1 : Int) < 97 := by omega
        have h2 : (122 : Int) < ((Utf8.decode s pos).1 : Int) := by omega
        go_wp2
        go_ret
        exact ⟨ret_bool (by rw [nameB, H.out, Bool.false_and]), (Below.refl _ _).alloc (Nat.le_refl _) _⟩
    · have hnx : ∀ ty, (Instr.next (.pointer (some ⟨w.heap.size, 0, none⟩)) true ty).run Try.prog (w.iter s pos) = _ := fun ty => run_next_end w s pos ty hp
      have H := Lib.hid (name_full (s := s) (by omega) (by omega) (by
        have := Hall.out
        rwa [List.take_of_length_le (by simp; omega)] at this))
      go_wp2
      go_ret
      exact ⟨ret_bool (by rw [H.out]), (Below.refl _ _).alloc (Nat.le_refl _) _⟩

theorem name_law (s : ByteArray) (w : World) (hs : s.size ≤ maxLen) :
    Calls Try.prog 10 #[.string s] w fun e w' => e = .returned (.bool true) ∧ Below w.heap.size w w' := by
  by_cases hl : s.size ≤ 1048576
  · have hl2 : ¬ (1048576 : Int) < (s.size : Int) := by omega
    clear hl
    go_enter Try.func10, Try.ntmps10
    go_wp2_with (first | (go_at_call 31; refine (name_impl _ _ hs).mono ?_; rintro e w2 ⟨rfl, hb⟩) | (go_at_call 30; refine (name_spec _ _ hs).mono ?_; rintro e w2 ⟨rfl, rfl⟩) | go_in)
    go_ret
    exact ⟨rfl, hb⟩
  · have hl2 : (1048576 : Int) < (s.size : Int) := by omega
    clear hl
    go_enter Try.func10, Try.ntmps10
    go_wp2
    go_ret
    exact ⟨rfl, Below.refl _ _⟩
end Go.Proofs.Ytgdcpohdejbhaac
