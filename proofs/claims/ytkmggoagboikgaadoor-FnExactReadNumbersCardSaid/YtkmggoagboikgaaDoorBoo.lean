
/- Rows of bits: the laws' helpers, how one is opened. -/
import Derived.Test.YtkmggoagboikgaaDoorMgb
import Derived.Deep.Grids
import Derived.Deep.QuietTactic
import Derived.BigQuiet
namespace Go.Proofs.YtkmggoagboikgaaDoor
open Go.Proofs.YtkmggoagboikgaaDoor.Flo Go.RowKit

/-- A slice value of n bits: the cells that it leads to hold them. -/
def BRow (w : World) (a : Option Addr) (n : Nat) (f : Nat → Bool) : Prop :=
  n = 0 ∨ ∃ b off, a = some ⟨b, off, none⟩ ∧ b < w.heap.size ∧ ∀ i, i < n → w.cell? ⟨b, off + i, none⟩ = some (.bool (f i))
theorem BRow.below {w w' : World} {a : Option Addr} {n : Nat} {f : Nat → Bool} (h : BRow w a n f) (hb : Below w.heap.size w w') : BRow w' a n f := by
  rcases h with h | ⟨b, off, ha, hk, hc⟩
  · exact .inl h
  · exact .inr ⟨b, off, ha, Nat.lt_of_lt_of_le hk hb.size, fun i hi => by rw [hb.cell (p := ⟨b, off + i, none⟩) hk]; exact hc i hi⟩
theorem BRow.drewN {w : World} {a : Option Addr} {n : Nat} {f : Nat → Bool} (h : BRow w a n f) (q : Nat) : BRow (w.drewN q) a n f := h
theorem BRow.drew {w : World} {a : Option Addr} {n : Nat} {f : Nat → Bool} (h : BRow w a n f) : BRow w.drew a n f := h
theorem BRow.drewTo {w w' : World} {a : Option Addr} {n : Nat} {f : Nat → Bool} (h : BRow w a n f) (d : Drew w w') : BRow w' a n f := h.below d.below
theorem BRow.cell {w : World} {a : Option Addr} {n : Nat} {f : Nat → Bool} (h : BRow w a n f) {k : Nat} (hk : k < n) : ∃ b o, a = some ⟨b, o, none⟩ ∧ w.cell? ⟨b, o + k, none⟩ = some (.bool (f k)) := by
  rcases h with h | ⟨b, off, ha, _, hc⟩
  · omega
  · exact ⟨b, off, ha, hc k hk⟩
/-- The entry of a row of bits. -/
def Ent.bl (n : Nat) (f : Nat → Bool) : Ent := .gv n (fun i => .bool (f i))
theorem Mine.brow {w0 w : World} {L : List (Nat × Ent)} {p n : Nat} {f : Nat → Bool} (h : Mine w0 w L) (hm : (p, Ent.bl n f) ∈ L) : BRow w (some ⟨p, 0, none⟩) n f := by
  obtain ⟨_, h2, h3, h4⟩ := h.2.1 _ hm
  exact .inr ⟨p, 0, rfl, h2, fun i hi => by rw [Nat.zero_add]; exact (h4 i hi).1⟩
/-- The cells of a copy, of which k are done. -/
def mixB (f : Nat → Bool) (k n : Nat) : Array Value := ((List.range k).map (fun i => Value.bool (f i)) ++ List.replicate (n - k) (Value.bool false)).toArray
theorem mixB_zero (f : Nat → Bool) (n : Nat) : mixB f 0 n = madeCells #[Value.bool false] n := by
  have e : madeCells #[Value.bool false] n = Array.replicate n (Value.bool false) := by
    apply Array.ext
    · simp [madeCells]
    · intro i h1 h2
      simp [madeCells, Nat.mod_one]
  rw [e]
  simp [mixB]
theorem mixB_size (f : Nat → Bool) {k n : Nat} (h : k ≤ n) : (mixB f k n).size = n := by
  simp [mixB]; omega
theorem mixB_set (f : Nat → Bool) {k n : Nat} (h : k < n) : (mixB f k n).setIfInBounds k (.bool (f k)) = mixB f (k + 1) n := by
  apply Array.ext'
  unfold mixB
  simp only [Array.toList_setIfInBounds]
  have hn : n - k = (n - (k + 1)) + 1 := by omega
  rw [hn, List.replicate_succ, List.set_append_right _ _ (by simp)]
  have hl : k - ((List.range k).map (fun i => Value.bool (f i))).length = 0 := by simp
  rw [hl, List.set_cons_zero, List.range_succ]
  simp
theorem mixB_get (f : Nat → Bool) {n i : Nat} (h : i < n) : (mixB f n n)[i]? = some (.bool (f i)) := by
  unfold mixB
  simp [h]
theorem Tryd.infoB : (Tryd.prog.info? 4).map (fun i => (i.zero, i.size, i.bytes)) = some (some (.bool false), 1, 1) := by kernel_rfl
/-- The marks of bits. -/
def mkB (k0 : Int) (j : Nat) : Bool := decide ((k0 + (j : Int)) % 3 = 0)
section
open Go.ChangeShapes Go.WideShapes Go.Deep
variable {H : Type} {enc : TypeId × Value → H} {P : Program} {w : World} {base : Nat} {held : Bool}
theorem open_brow {t e : TypeId} {fuel : Nat} {a : Option Addr} {len cap : Nat} {x : DataW H × List MemPlace} (ht : P.underlying t = some (.slice e)) (he : P.underlying e = some .bool) (hc : P.cellsOf e = 1)
    (h : DataW.trod enc P w base (fun _ => true) held fuel t [.slice a len cap] = some x) : ∃ f, BRow w a len f := by
  rcases open_bools ht he hc h with ⟨hcs, _⟩ | ⟨y, l, c, S, hcs, _, hl, hm, _, hx⟩
  · simp at hcs
    obtain ⟨rfl, rfl, rfl⟩ := hcs
    exact ⟨fun _ => false, .inl rfl⟩
  · simp at hcs
    obtain ⟨rfl, rfl, rfl⟩ := hcs
    refine ⟨S, ?_⟩
    by_cases h0 : len = 0
    · exact .inl h0
    have h00 := hx 0 (by omega)
    have e0 : y.add 0 = y := by simp [Addr.add]
    rw [e0] at h00
    have hs : y.spot = none := by
      unfold World.cell? at h00
      split at h00
      · split at h00
        · cases h00
        · rename_i hn; cases hy : y.spot with
          | none => rfl
          | some s => rw [hy] at hn; simp at hn
      · cases h00
    have hb : y.block < w.heap.size := by
      unfold World.cell? at h00
      split at h00
      · rename_i hh; exact (Array.getElem?_eq_some_iff.1 hh).1
      · cases h00
    obtain ⟨b, off, spot⟩ := y
    simp at hs
    subst hs
    refine .inr ⟨b, off, rfl, hb, fun i hi => ?_⟩
    have := hx i (by omega)
    rw [show (⟨b, off, none⟩ : Addr).add i = ⟨b, off + i, none⟩ by unfold Addr.add; split <;> simp_all] at this
    exact this
end
end Go.Proofs.YtkmggoagboikgaaDoor
