
/- Texts of bits: the functions that ask for one. -/
import Derived.Test.YtjlifbnenngijaaDoorFri
import Derived.Laws.RangeString
import Derived.Laws.RangeAny
import Derived.WalkSmall
namespace Go.Proofs.YtjlifbnenngijaaDoor
open Go.Proofs.YtjlifbnenngijaaDoor.Flo Go.RowKit

def bitC (c : UInt8) : Bool := decide (c.toNat = 48) || decide (c.toNat = 49)
def bitsB (s : ByteArray) : Bool := decide (s.size ≤ 512) && s.data.toList.all bitC
theorem bits_out {s : ByteArray} (h : bitsB s = true) : s.size ≤ 512 ∧ ∀ (k : Nat) (hk : k < s.size), (s[k]'hk).toNat = 48 ∨ (s[k]'hk).toNat = 49 := by
  unfold bitsB at h
  rw [Bool.and_eq_true] at h
  refine ⟨of_decide_eq_true h.1, fun k hk => ?_⟩
  have h2 := List.all_eq_true.1 h.2 s[k] (List.getElem_mem (l := s.data.toList) (n := k) (by simpa using hk))
  unfold bitC at h2
  rw [Bool.or_eq_true] at h2
  rcases h2 with h2 | h2
  · exact .inl (of_decide_eq_true h2)
  · exact .inr (of_decide_eq_true h2)
theorem bits_no {s : ByteArray} {k : Nat} (hk : k < s.size) (h : ¬ ((s[k]'hk).toNat = 48 ∨ (s[k]'hk).toNat = 49)) : bitsB s = false := by
  cases hb : bitsB s with
  | false => rfl
  | true => exact absurd ((bits_out hb).2 k hk) h
theorem bits_long {s : ByteArray} (h : ¬ s.size ≤ 512) : bitsB s = false := by
  unfold bitsB; rw [decide_eq_false h]; rfl
theorem bits_end {s : ByteArray} (h0 : s.size ≤ 512) (h : ∀ (k : Nat) (hk : k < s.size), (s[k]'hk).toNat = 48 ∨ (s[k]'hk).toNat = 49) : bitsB s = true := by
  unfold bitsB
  rw [decide_eq_true h0, Bool.true_and, List.all_eq_true]
  intro c hc
  obtain ⟨i, hi, rfl⟩ := List.getElem_of_mem hc
  have hi2 : i < s.size := by simpa using hi
  have h1 := h i hi2
  unfold bitC
  have e : s.data.toList[i] = s[i]'hi2 := rfl
  rw [e]
  rcases h1 with h1 | h1
  · rw [decide_eq_true h1]; rfl
  · rw [decide_eq_true h1]; simp
end Go.Proofs.YtjlifbnenngijaaDoor
