
/- Texts of bits: the functions that ask for one. -/
import Derived.Test.YtdmdgkjmecgpeaaFri
import Derived.Laws.RangeString
import Derived.Laws.RangeAny
import Derived.WalkSmall
namespace Go.Proofs.Ytdmdgkjmecgpeaa
open Go.Proofs.Ytdmdgkjmecgpeaa.Flo Go.RowKit

def bitC (c : UInt8) : Bool := decide (c.toNat = 48) || decide (c.toNat = 49)
def bitsB (s : ByteArray) : Bool := decide (s.size ≤ 512) && s.data.toList.all bitC
theorem bits_out {s : ByteArray} (h : bitsB s = true) : s.size ≤ 512 ∧ ∀ (k : Nat) (hk : k < s.size), (s[k]'hk).toNat = 48 ∨ (s[k]'hk).toNat = 49 := by
  unfold bitsB at h
  rw [Bool.and_eq_true] at h
  refine ⟨of_decide_eq_true h.1, fun k hk => ?_⟩
  have h2 := List.all_eq_true.1 h.2 s[k] (List.getElem_mem (l := s.data.toList) (n := k) (by simpa using hk))
  unfold bitC at h2
  rw [Bool.or_eq_true] at h2
  rcases h2 with h2 | h2
  · exact .inl (of_decide_eq_true h2)
  · exact .inr (of_decide_eq_true h2)
theorem bits_no {s : ByteArray} {k : Nat} (hk : k < s.size) (h : ¬ ((s[k]'hk).toNat = 48 ∨ (s[k]'hk).toNat = 49)) : bitsB s = false := by
  cases hb : bitsB s with
  | false => rfl
  | true => exact absurd ((bits_out hb).2 k hk) h
theorem bits_long {s : ByteArray} (h : ¬ s.size ≤ 512) : bitsB s = false := by
  unfold bitsB; rw [decide_eq_false h]; rfl
theorem bits_end {s : ByteArray} (h0 : s.size ≤ 512) (h : ∀ (k : Nat) (hk : k < s.size), (s[k]'hk).toNat = 48 ∨ (s[k]'hk).toNat = 49) : bitsB s = true := by
  unfold bitsB
  rw [decide_eq_true h0, Bool.true_and, List.all_eq_true]
  intro c hc
  obtain ⟨i, hi, rfl⟩ := List.getElem_of_mem hc
  have hi2 : i < s.size := by simpa using hi
  have h1 := h i hi2
  unfold bitC
  have e : s.data.toList[i] = s[i]'hi2 := rfl
  rw [e]
  rcases h1 with h1 | h1
  · rw [decide_eq_true h1]; rfl
  · rw [decide_eq_true h1]; simp
set_option maxHeartbeats 2000000 in
theorem bt_spec (s : ByteArray) (w : World) (hs : s.size ≤ 1048576) :
    Calls Try.prog 204 #[.string s] w fun e w' => e = .returned (.bool (bitsB s)) ∧ w = w' := by
  by_cases h5 : s.size ≤ 512
  · have hd : decide ((s.size : Int) ≤ 512) = true := decide_eq_true (by omega)
    have H5 := Lib.hid h5
    go_enter Try.func204, Try.ntmps204
    go_wp2
    go_loop [3] (fun iv => ∃ k : Nat, k ≤ s.size ∧ Hid (∀ (j : Nat) (hj : j < s.size), j < k → (s[j]'hj).toNat = 48 ∨ (s[j]'hj).toNat = 49) ∧ iv = .int .i64 k) (fun iv => s.size - (intOf iv).toNat)
    case atStart => exact ⟨0, by omega, Lib.hid (by intro j _ hj; omega), rfl⟩
    case round =>
      obtain ⟨k, hk, HL, rfl⟩ := hrel
      by_cases hlt : k < s.size
      · by_cases hb : (s[k]'hlt).toNat = 48 ∨ (s[k]'hlt).toNat = 49
        · have HN : Hid (∀ (j : Nat) (hj : j < s.size), j < k + 1 → (s[j]'hj).toNat = 48 ∨ (s[j]'hj).toNat = 49) := Lib.hid (fun j hj hjk => by
            by_cases e : j < k
            · exact HL.out j hj e
            · obtain rfl : j = k := by omega
              exact hb)
          rcases hb with hb | hb
          all_goals
            go_wp2
            go_round
            case rel => exact ⟨k + 1, by omega, HN, by go_num⟩
            case measure => simp [intOf]; omega
        · have HF := Lib.hid (bits_no hlt hb)
          obtain ⟨x, hx⟩ : ∃ x, (s[k]'hlt).toNat = x := ⟨_, rfl⟩
          rw [hx] at hb
          have hm1 : ((x : Int) == 48) = false := by simpa using fun e : (x : Int) = 48 => hb (.inl (by omega))
          have hm2 : ((x : Int) == 49) = false := by simpa using fun e : (x : Int) = 49 => hb (.inr (by omega))
          have hm3 : ((x : Int) != 48) = true := by rw [bne, hm1]; rfl
          have hm4 : ((x : Int) != 49) = true := by rw [bne, hm2]; rfl
          clear hb
          go_wp2
          go_ret
          exact ⟨ret_bool2 HF.out.symm, rfl⟩
      · have HF := Lib.hid (bits_end H5.out (fun j hj => HL.out j hj (by omega)))
        go_wp2
        go_ret
        exact ⟨ret_bool2 HF.out.symm, rfl⟩
  · have HF := Lib.hid (bits_long h5)
    have hd : decide ((s.size : Int) ≤ 512) = false := decide_eq_false (by omega)
    clear h5
    go_enter Try.func204, Try.ntmps204
    go_wp2
    refine wp_loop_rounds 1 ?_
    rw [rounds_succ]
    go_wp2
    all_goals
      go_ret
      exact ⟨ret_bool2 HF.out.symm, rfl⟩
set_option maxHeartbeats 2000000 in
theorem bt_impl (s : ByteArray) (w : World) (hs : s.size ≤ 1048576) :
    Calls Try.prog 73 #[.string s] w fun e w' => e = .returned (.bool (bitsB s)) ∧ Below w.heap.size w w' := by
  by_cases h5 : s.size ≤ 512
  · have hd : decide (512 < (s.size : Int)) = false := decide_eq_false (by omega)
    have H5 := Lib.hid h5
    go_enter Try.func73, Try.ntmps73
    go_wp2
    go_loopw [] (fun w' => ∃ pos : Nat, w' = w.iter s pos ∧ pos ≤ s.size ∧ Hid (∀ (j : Nat) (hj : j < s.size), j < pos → (s[j]'hj).toNat = 48 ∨ (s[j]'hj).toNat = 49)) (fun w' => s.size - w'.iterPos w.heap.size)
    case atStart => exact ⟨0, rfl, Nat.zero_le _, Lib.hid (by intro j _ hj; omega)⟩
    case round =>
      obtain ⟨pos, rfl, hpos, HL⟩ := hrel
      by_cases hp : pos < s.size
      · by_cases ha : s[pos].toNat < 128
        · have hnx : ∀ ty, (Instr.next (.pointer (some ⟨w.heap.size, 0, none⟩)) true ty).run Try.prog (w.iter s pos) = _ := fun ty => run_next_ascii w s pos ty hp ha
          by_cases hb : (s[pos]'hp).toNat = 48 ∨ (s[pos]'hp).toNat = 49
          · have HN : Hid (∀ (j : Nat) (hj : j < s.size), j < pos + 1 → (s[j]'hj).toNat = 48 ∨ (s[j]'hj).toNat = 49) := Lib.hid (fun j hj hjk => by
              by_cases e : j < pos
              · exact HL.out j hj e
              · obtain rfl : j = pos := by omega
                exact hb)
            rcases hb with hb | hb
            all_goals
              go_wp2
              go_roundw
              case rel => exact ⟨pos + 1, rfl, by omega, HN⟩
              case measure => simp; omega
          · have HF := Lib.hid (bits_no hp hb)
            obtain ⟨x, hx⟩ : ∃ x, (s[pos]'hp).toNat = x := ⟨_, rfl⟩
            rw [hx] at hb
            have hm1 : ((x : Int) == 48) = false := by simpa using fun e : (x : Int) = 48 => hb (.inl (by omega))
            have hm2 : ((x : Int) == 49) = false := by simpa using fun e : (x : Int) = 49 => hb (.inr (by omega))
            have hm3 : ((x : Int) != 48) = true := by rw [bne, hm1]; rfl
            have hm4 : ((x : Int) != 49) = true := by rw [bne, hm2]; rfl
            clear hb
            go_wp2
            go_ret
            exact ⟨ret_bool2 HF.out.symm, (Below.refl _ _).alloc (Nat.le_refl _) _⟩
        · have hnx : ∀ ty, (Instr.next (.pointer (some ⟨w.heap.size, 0, none⟩)) true ty).run Try.prog (w.iter s pos) = _ := fun ty => run_next_any w s pos ty hp
          have hdh := (decode_high s pos hp (by omega)).1
          have hle := decode_le s pos
          have HF := Lib.hid (bits_no hp (by omega))
          obtain ⟨x, hx⟩ : ∃ x, (Utf8.decode s pos).1 = x := ⟨_, rfl⟩
          rw [hx] at hdh hle
          have hm1 : ((x : Int) == 48) = false := by simpa using fun e : (x : Int) = 48 => by omega
          have hm2 : ((x : Int) == 49) = false := by simpa using fun e : (x : Int) = 49 => by omega
          have hm3 : ((x : Int) != 48) = true := by rw [bne, hm1]; rfl
          have hm4 : ((x : Int) != 49) = true := by rw [bne, hm2]; rfl
          go_wp2
          go_ret
          exact ⟨ret_bool2 HF.out.symm, (Below.refl _ _).alloc (Nat.le_refl _) _⟩
      · have hnx : ∀ ty, (Instr.next (.pointer (some ⟨w.heap.size, 0, none⟩)) true ty).run Try.prog (w.iter s pos) = _ := fun ty => run_next_end w s pos ty hp
        have HF := Lib.hid (bits_end H5.out (fun j hj => HL.out j hj (by omega)))
        go_wp2
        go_ret
        exact ⟨ret_bool2 HF.out.symm, (Below.refl _ _).alloc (Nat.le_refl _) _⟩
  · have HF := Lib.hid (bits_long h5)
    have hd : decide (512 < (s.size : Int)) = true := decide_eq_true (by omega)
    clear h5
    go_enter Try.func73, Try.ntmps73
    go_wp2
    go_ret
    exact ⟨ret_bool2 HF.out.symm, Below.refl _ _⟩
end Go.Proofs.Ytdmdgkjmecgpeaa
