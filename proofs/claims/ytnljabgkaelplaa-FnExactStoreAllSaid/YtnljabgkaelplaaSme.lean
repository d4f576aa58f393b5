
/- Equality of rows of numbers and of bits. -/
import Derived.Test.YtnljabgkaelplaaSvw
import Derived.Test.YtnljabgkaelplaaFla
import Derived.Test.YtnljabgkaelplaaSlo
namespace Go.Proofs.Ytnljabgkaelplaa
open Go.Proofs.Ytnljabgkaelplaa.Flo Go.RowKit

def Wf (zs : List Nat) (n : Nat) : Prop := ∀ k, k < n → zs.getD k 0 < 2 ^ 32
def sameAllB (za zb : List Nat) (n m : Nat) : Bool := decide (n = m) && decide (∀ k, k < n → bitsF (za.getD k 0) = bitsF (zb.getD k 0))
theorem same_no {za zb : List Nat} {n m k : Nat} (hk : k < n) (h : ¬ bitsF (za.getD k 0) = bitsF (zb.getD k 0)) : sameAllB za zb n m = false := by
  unfold sameAllB
  rw [decide_eq_false (p := ∀ k, k < n → bitsF (za.getD k 0) = bitsF (zb.getD k 0)) (fun e => h (e k hk))]
  simp
theorem same_yes {za zb : List Nat} {n : Nat} (h : ∀ k, k < n → bitsF (za.getD k 0) = bitsF (zb.getD k 0)) : sameAllB za zb n n = true := by
  unfold sameAllB
  rw [decide_eq_true rfl, decide_eq_true h]; rfl
theorem same_len {za zb : List Nat} {n m : Nat} (h : n ≠ m) : sameAllB za zb n m = false := by
  unfold sameAllB
  rw [decide_eq_false h]; rfl
def eqBB (f g : Nat → Bool) (n m : Nat) : Bool := decide (n = m) && decide (∀ k, k < n → f k = g k)
theorem eqBB_no {f g : Nat → Bool} {n m k : Nat} (hk : k < n) (h : ¬ f k = g k) : eqBB f g n m = false := by
  unfold eqBB; rw [decide_eq_false (p := ∀ k, k < n → f k = g k) (fun e => h (e k hk))]; simp
theorem eqBB_len {f g : Nat → Bool} {n m : Nat} (h : ¬ n = m) : eqBB f g n m = false := by unfold eqBB; rw [decide_eq_false h]; rfl
theorem eqBB_end {f g : Nat → Bool} {n : Nat} (h : ∀ k, k < n → f k = g k) : eqBB f g n n = true := by unfold eqBB; rw [decide_eq_true rfl, decide_eq_true h]; rfl
section
open Go.ChangeShapes Go.WideShapes Go.Deep
variable {H : Type} {enc : TypeId × Value → H} {P : Program} {w : World} {base : Nat} {spare : Nat → Bool} {held : Bool}
theorem open_frow2 {t e : TypeId} {fuel : Nat} {a : Option Addr} {len cap : Nat} {x : DataW H × List MemPlace} (ht : P.underlying t = some (.slice e)) (he : P.underlying e = some (.float .f32)) (hc : P.cellsOf e = 1)
    (h : DataW.trod enc P w base spare held fuel t [.slice a len cap] = some x) : ∃ zs, FRow w a len zs ∧ Wf zs len := by
  rcases open_slice1 ht hc h with ⟨hcs, _⟩ | ⟨y, l, c, m, n, V, D, Pl, hcs, _, hl, hm, hmm, _, hx⟩
  · simp at hcs
    obtain ⟨rfl, rfl, rfl⟩ := hcs
    exact ⟨[], ⟨rfl, .inl rfl⟩, fun k hk => by omega⟩
  · simp at hcs
    obtain ⟨rfl, rfl, rfl⟩ := hcs
    have hlm : len ≤ m := by rw [hmm]; split <;> omega
    have key : ∀ i, ∃ z : Nat, i < len → w.cell? (y.add i) = some (.float .f32 z) ∧ z < 2 ^ 32 := fun i => by
      by_cases hi : i < len
      · obtain ⟨hcell, htr⟩ := hx i (by omega)
        obtain ⟨z, hz, _, hwf⟩ := trod_float he htr
        exact ⟨z, fun _ => ⟨by rw [hcell]; simp at hz; rw [hz], lt32 hwf⟩⟩
      · exact ⟨0, fun h => absurd h hi⟩
    have key2 : ∃ f : Nat → Nat, ∀ i, i < len → w.cell? (y.add i) = some (.float .f32 (f i)) ∧ f i < 2 ^ 32 := ⟨fun i => (key i).choose, fun i => (key i).choose_spec⟩
    obtain ⟨f, hfw⟩ := key2
    have hf : ∀ i, i < len → w.cell? (y.add i) = some (.float .f32 (f i)) := fun i hi => (hfw i hi).1
    by_cases h0 : len = 0
    · exact ⟨[], ⟨by simp [h0], .inl h0⟩, fun k hk => by omega⟩
    have h00 : w.cell? y = some (.float .f32 (f 0)) := hf 0 (by omega)
    have hs : y.spot = none := by
      unfold World.cell? at h00
      split at h00
      · split at h00
        · cases h00
        · rename_i hn; cases hy : y.spot with
          | none => rfl
          | some s => rw [hy] at hn; simp at hn
      · cases h00
    have hb : y.block < w.heap.size := by
      unfold World.cell? at h00
      split at h00
      · rename_i hh; exact (Array.getElem?_eq_some_iff.1 hh).1
      · cases h00
    obtain ⟨b, off, spot⟩ := y
    simp at hs
    subst hs
    refine ⟨(List.range len).map f, ⟨by simp, .inr ⟨b, off, rfl, hb, fun i hi => ?_⟩⟩, fun k hk => by simpa [List.getD_eq_getElem?_getD, hk] using (hfw k hk).2⟩
    have := hf i hi
    rw [show (⟨b, off, none⟩ : Addr).add i = ⟨b, off + i, none⟩ by unfold Addr.add; split <;> simp_all] at this
    rw [this]
    simp [List.getD_eq_getElem?_getD, hi]
end
end Go.Proofs.Ytnljabgkaelplaa
