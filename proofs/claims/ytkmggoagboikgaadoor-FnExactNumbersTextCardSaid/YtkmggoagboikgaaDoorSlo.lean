
/- A slice of 32-bit numbers, opened. -/
import Derived.Test.YtkmggoagboikgaaDoorMgb
import Derived.ProofKit
import Derived.OpenShut
import Derived.ChangeArms
import Derived.Deep.Slices
namespace Go.Proofs.YtkmggoagboikgaaDoor
open Go.ChangeShapes Go.WideShapes Go.Deep

section
variable {H : Type} {enc : TypeId × Value → H} {P : Program} {w : World} {base : Nat} {spare : Nat → Bool} {held : Bool}
theorem trod_float {t : TypeId} {fuel : Nat} {cs : List Value} {x : DataW H × List MemPlace} {k : FloatKind} (ht : P.underlying t = some (.float k)) (h : DataW.trod enc P w base spare held fuel t cs = some x) : ∃ n, cs = [.float k n] ∧ x = (.lit (.float k n), []) ∧ (Lit.float k n).wf = true := by
  cases fuel with
  | zero => simp [DataW.trod] at h
  | succ n =>
    unfold DataW.trod at h
    rw [ht] at h
    split at h <;> simp_all
theorem open_frow {t e : TypeId} {fuel : Nat} {a : Option Addr} {len cap : Nat} {x : DataW H × List MemPlace} (ht : P.underlying t = some (.slice e)) (he : P.underlying e = some (.float .f32)) (hc : P.cellsOf e = 1)
    (h : DataW.trod enc P w base spare held fuel t [.slice a len cap] = some x) : ∃ zs, FRow w a len zs := by
  rcases open_slice1 ht hc h with ⟨hcs, _⟩ | ⟨y, l, c, m, n, V, D, Pl, hcs, _, hl, hm, hmm, _, hx⟩
  · simp at hcs
    obtain ⟨rfl, rfl, rfl⟩ := hcs
    exact ⟨[], rfl, .inl rfl⟩
  · simp at hcs
    obtain ⟨rfl, rfl, rfl⟩ := hcs
    have hlm : len ≤ m := by rw [hmm]; split <;> omega
    have key : ∀ i, ∃ z : Nat, i < len → w.cell? (y.add i) = some (.float .f32 z) := fun i => by
      by_cases hi : i < len
      · obtain ⟨hcell, htr⟩ := hx i (by omega)
        obtain ⟨z, hz, _⟩ := trod_float he htr
        exact ⟨z, fun _ => by rw [hcell]; simp at hz; rw [hz]⟩
      · exact ⟨0, fun h => absurd h hi⟩
    have key2 : ∃ f : Nat → Nat, ∀ i, i < len → w.cell? (y.add i) = some (.float .f32 (f i)) := ⟨fun i => (key i).choose, fun i => (key i).choose_spec⟩
    obtain ⟨f, hf⟩ := key2
    by_cases h0 : len = 0
    · exact ⟨[], by simp [h0], .inl h0⟩
    have h00 : w.cell? y = some (.float .f32 (f 0)) := hf 0 (by omega)
    have hs : y.spot = none := by
      unfold World.cell? at h00
      split at h00
      · split at h00
        · cases h00
        · rename_i hn; cases hy : y.spot with
          | none => rfl
          | some s => rw [hy] at hn; simp at hn
      · cases h00
    have hb : y.block < w.heap.size := by
      unfold World.cell? at h00
      split at h00
      · rename_i hh; exact (Array.getElem?_eq_some_iff.1 hh).1
      · cases h00
    obtain ⟨b, off, spot⟩ := y
    simp at hs
    subst hs
    refine ⟨(List.range len).map f, by simp, .inr ⟨b, off, rfl, hb, fun i hi => ?_⟩⟩
    have := hf i hi
    rw [show (⟨b, off, none⟩ : Addr).add i = ⟨b, off + i, none⟩ by unfold Addr.add; split <;> simp_all] at this
    rw [this]
    simp [List.getD_eq_getElem?_getD, hi]
end
end Go.Proofs.YtkmggoagboikgaaDoor
