
/- Parities: the small functions over words. -/
import Derived.Test.YtkmggoagboikgaaDoorPrx
namespace Go.Proofs.YtkmggoagboikgaaDoor
open Go.Proofs.YtkmggoagboikgaaDoor.Flo Go.RowKit Go.Proofs.YtkmggoagboikgaaDoor.Pr

theorem p2_16 {m : Nat} (h : m ≤ 16) : (1 : Int) ≤ 2 ^ m ∧ (2 : Int) ^ m ≤ 65536 := by
  have h1 : 2 ^ m ≤ 2 ^ 16 := Nat.pow_le_pow_right (by decide) h
  have h2 : 0 < 2 ^ m := Nat.two_pow_pos m
  have e : ((2 ^ m : Nat) : Int) = 2 ^ m := by rw [Int.natCast_pow]; rfl
  rw [← e]
  have h1 : 2 ^ m ≤ 65536 := h1
  omega
def wiB (n : Int) : Bool := decide (1 ≤ n ∧ n ≤ 16)
/-- Numbers of the call's own, or none. -/
theorem own_rowI {w : World} {base : Nat} {T : TypeId} {v : Value} {k : Nat} {L : List Int} (h : w.ownsRow base T 1 v k (L.map (Value.int .i64))) : ∃ a cp, v = .slice a k cp ∧ IRow w a k L := by
  have hl : L.length = k := by simpa using h.1
  by_cases h0 : k = 0
  · subst h0
    rcases h.2 with ⟨e, _⟩ | ⟨g, cap, cur, e, _⟩
    · exact ⟨none, 0, e, hl, .inl rfl⟩
    · exact ⟨_, cap, e, hl, .inl rfl⟩
  · obtain ⟨g, cp, rfl, hg, hgl⟩ := World.ownsRow.form h (by omega)
    exact ⟨_, cp, rfl, (ICl.own h h0).1.row⟩
def nL (l : List Nat) : List Int := l.map (fun x : Nat => (x : Int))
theorem nL_get (l : List Nat) (i : Nat) : (nL l).getD i 0 = ((l.getD i 0 : Nat) : Int) := by
  unfold nL
  rw [List.getD_eq_getElem?_getD, List.getD_eq_getElem?_getD, List.getElem?_map]
  cases l[i]? <;> rfl
theorem nL_on (z : Nat → Nat) (k : Nat) : (nL (lefts z (k + 1))).map (Value.int .i64) = (nL (lefts z k)).map (Value.int .i64) ++ [.int .i64 ((lf z k : Nat) : Int)] := by
  show ((lefts z k ++ [lf z k]).map (fun x : Nat => (x : Int))).map (Value.int .i64) = _
  simp [nL]
theorem rdx_lt {f : Nat → Nat} {x r : Nat} (hx : x < 2 ^ r) : ∀ j, rdx f x j < 2 ^ r
  | 0 => hx
  | j + 1 => by
    have := rdx_lt (f := f) hx j
    show min (rdx f x j) (rdx f x j ^^^ f j) < 2 ^ r
    omega
theorem lf_lt {z : Nat → Nat} {k r : Nat} (h : z k < 2 ^ r) : lf z k < 2 ^ r := rdx_lt h k
theorem lfs_lt {z : Nat → Nat} {k r i : Nat} (h : ∀ j, j < k → z j < 2 ^ r) (hi : i < k) : (lefts z k).getD i 0 < 2 ^ r := by
  rw [lefts_get z k i hi]; exact lf_lt (h i hi)
end Go.Proofs.YtkmggoagboikgaaDoor
