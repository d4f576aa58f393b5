
/- A range over a function inside a plain loop: the activation's deferred calls are a row of marks; what the function's return does with them. -/
import Derived.RangeFuncNested
import Derived.RangeFuncLeaves
set_option linter.unusedVariables false
namespace Go.Proofs.Ytaefmffmjbabcaa.Lvm
open Go Go.RowKit

/-- The marks of loops that are over, the last one first. -/
def marks (Ds : List Nat) : List Deferred := Ds.map fun D => { target := .collected D, args := #[] }
theorem marks_cons (D : Nat) (Ds : List Nat) : marks (D :: Ds) = { target := .collected D, args := #[] } :: marks Ds := rfl
/-- All their blocks shut. -/
def shutAll : World → List Nat → World
  | W, [] => W
  | W, D :: Ds => shutAll (W.putObj D (.deferred none)) Ds
/-- Each mark's block is there, no two the same, all from B on. -/
def Open (B : Nat) (W : World) (Ds : List Nat) : Prop := Ds.Nodup ∧ ∀ D ∈ Ds, B ≤ D ∧ W.heap[D]? = some (.deferred (some []))
theorem Open.nil (B : Nat) (W : World) : Open B W [] := ⟨List.nodup_nil, fun _ h => by cases h⟩
theorem Open.cons {B D : Nat} {W : World} {Ds : List Nat} (h : Open B W Ds) (hB : B ≤ D) (hD : W.heap[D]? = some (.deferred (some []))) (hn : D ∉ Ds) : Open B W (D :: Ds) :=
  ⟨List.nodup_cons.2 ⟨hn, h.1⟩, fun E hE => by
    rcases List.mem_cons.1 hE with rfl | h2
    · exact ⟨hB, hD⟩
    · exact h.2 E h2⟩
/-- A world in which whatever is no cells lies as it lay. -/
theorem Open.keeps {B : Nat} {W W' : World} {Ds : List Nat} (h : Open B W Ds) (hk : ∀ D, B ≤ D → W.heap[D]? = some (.deferred (some [])) → W'.heap[D]? = some (.deferred (some []))) : Open B W' Ds :=
  ⟨h.1, fun D hD => ⟨(h.2 D hD).1, hk D (h.2 D hD).1 (h.2 D hD).2⟩⟩
theorem Open.lt {B : Nat} {W : World} {Ds : List Nat} (h : Open B W Ds) : ∀ D ∈ Ds, D < W.heap.size := fun D hD => (Array.getElem?_eq_some_iff.1 (h.2 D hD).2).1
theorem shutAll_heap {b : Nat} : ∀ {Ds : List Nat} {W : World}, b ∉ Ds → (shutAll W Ds).heap[b]? = W.heap[b]?
  | [], _, _ => rfl
  | D :: Ds, W, h => by
    rw [List.mem_cons, not_or] at h
    show (shutAll (W.putObj D (.deferred none)) Ds).heap[b]? = _
    rw [shutAll_heap h.2]
    exact World.putObj_heap_other (by omega)
theorem shutAll_below {B : Nat} : ∀ {Ds : List Nat} {W : World}, Open B W Ds → Below B W (shutAll W Ds)
  | [], W, _ => Below.refl _ _
  | D :: Ds, W, h => by
    obtain ⟨hn, hD⟩ := h
    rw [List.nodup_cons] at hn
    have h0 := hD D (List.mem_cons_self ..)
    have h1 : Below B W (W.putObj D (.deferred none)) := (Below.refl B W).grown (grownBy_putObj' W D _) (by have := (Array.getElem?_eq_some_iff.1 h0.2).1; omega) (fun k e => by cases e; exact h0.1)
    refine h1.trans (shutAll_below ⟨hn.2, fun E hE => ⟨(hD E (List.mem_cons_of_mem _ hE)).1, ?_⟩⟩)
    rw [World.putObj_heap_other (fun e => hn.1 (by rw [e] at hE; exact hE))]
    exact (hD E (List.mem_cons_of_mem _ hE)).2
/-- A slice's own row behind them. -/
theorem shutAll_own {B base size k : Nat} {e : TypeId} {v : Value} {xs : List Value} : ∀ {Ds : List Nat} {W : World}, Open B W Ds → W.ownsRow base e size v k xs → (shutAll W Ds).ownsRow base e size v k xs
  | [], _, _, h => h
  | D :: Ds, W, h, ho => by
    obtain ⟨hn, hD⟩ := h
    rw [List.nodup_cons] at hn
    show (shutAll (W.putObj D (.deferred none)) Ds).ownsRow base e size v k xs
    refine shutAll_own (B := B) ⟨hn.2, fun E hE => ⟨(hD E (List.mem_cons_of_mem _ hE)).1, ?_⟩⟩ (ownsRow_putObj ho _ (hD D (List.mem_cons_self ..)).2 rfl)
    rw [World.putObj_heap_other (fun e => hn.1 (by rw [e] at hE; exact hE))]
    exact (hD E (List.mem_cons_of_mem _ hE)).2
/-- **The return behind a plain loop of ranges over functions.** -/
theorem leaves_marks {F : Fence} {n : Nat} {P : Program} {fn : Func} {tmps : Array Value} {R : Ending → World → Prop} {u : FrameMode} (hu : u ≠ .run) {B : Nat} : ∀ {Ds : List Nat} {W : World}, Open B W Ds → LeavesIn F n P fn tmps R [] u (shutAll W Ds) → LeavesInM F n P fn tmps R (marks Ds) u W
  | [], _, _, h => h
  | D :: Ds, W, ho, h => by
    obtain ⟨hn, hD⟩ := ho
    rw [List.nodup_cons] at hn
    refine ⟨hu, .inl ⟨D, _, rfl, run_takeDeferred (hD D (List.mem_cons_self ..)).2, leaves_marks hu (B := B) ⟨hn.2, fun E hE => ⟨(hD E (List.mem_cons_of_mem _ hE)).1, ?_⟩⟩ h⟩⟩
    rw [World.putObj_heap_other (fun e => hn.1 (by rw [e] at hE; exact hE))]
    exact (hD E (List.mem_cons_of_mem _ hE)).2
end Go.Proofs.Ytaefmffmjbabcaa.Lvm
