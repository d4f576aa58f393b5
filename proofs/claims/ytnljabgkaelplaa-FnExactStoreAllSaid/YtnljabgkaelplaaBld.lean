
/- A strings.Builder of the call's own. -/
import Derived.Test.YtnljabgkaelplaaStx
import Derived.Test.YtnljabgkaelplaaShf
import Derived.Test.YtnljabgkaelplaaBlw
import Derived.Test.YtnljabgkaelplaaMgb
import Derived.Lib.OthersKept
namespace Go.Proofs.Ytnljabgkaelplaa
open Go.Proofs.Ytnljabgkaelplaa.Flo Go.RowKit

theorem ownF_below {w w' : World} {B : Nat} {e : TypeId} {v : Value} {n : Nat} {xs : List Value} (h : w.ownsRowF B e 1 v n xs) (hb : Below w.heap.size w w') : w'.ownsRowF B e 1 v n xs := by
  obtain ⟨h1, h2⟩ := h
  refine ⟨h1, ?_⟩
  rcases h2 with h2 | ⟨g, cap, cur, fz, hv, hg, hh, r⟩
  · exact .inl h2
  · exact .inr ⟨g, cap, cur, fz, hv, hg, (hb.block g (Array.getElem?_eq_some_iff.1 hh).1).trans hh, r⟩
theorem bldAt_below {w w' : World} {T e : TypeId} {B b : Nat} {p : Value} {bs : List Value} (h : Lib.BuilderAtF T e B b p bs w) (hb : Below w.heap.size w w') : Lib.BuilderAtF T e B b p bs w' := by
  obtain ⟨h1, v, hh, ho, hne⟩ := h
  exact ⟨h1, v, (hb.block b (Array.getElem?_eq_some_iff.1 hh).1).trans hh, ownF_below ho hb, hne⟩
theorem bld_below {w w' : World} {T e : TypeId} {B b : Nat} {bs : List Value} (h : Lib.IsBuilderF T e B b bs w) (hb : Below w.heap.size w w') : Lib.IsBuilderF T e B b bs w' :=
  h.elim (fun x => .inl (bldAt_below x hb)) (fun x => .inr (bldAt_below x hb))
/-- A builder that holds a text. -/
def Bld (T e : TypeId) (B : Nat) (l : List UInt8) (w : World) : Prop := Lib.IsBuilderF T e B B (Lib.byteCells l) w ∧ B < w.heap.size
theorem Bld.below {T e : TypeId} {B : Nat} {l : List UInt8} {w w' : World} (h : Bld T e B l w) (hb : Below w.heap.size w w') : Bld T e B l w' := ⟨bld_below h.1 hb, Nat.lt_of_lt_of_le h.2 hb.size⟩
theorem Bld.fresh (T e : TypeId) (w : World) : Bld T e w.heap.size [] (w.alloc (.cells #[.pointer none, .slice none 0 0] T)) := ⟨Lib.IsBuilderF.of (Lib.fresh_isBuilder T e w), by simp⟩
theorem bld_string (B : Nat) (l : List UInt8) (w : World) (h : Bld 79 5 B l w) :
    Calls Try.prog 53 #[.pointer (some ⟨B, 0, none⟩)] w fun e w' => e = .returned (.string (txB l)) ∧ Below B w w' :=
  (Any.Builder_String_any_f Try.lays169 Try.Builder_Extra_169 B B l w h.1 (Nat.le_of_lt h.2)).mono fun _ _ ⟨h1, h2⟩ => ⟨h1, h2.2⟩
theorem bld_write (B : Nat) (l s : List UInt8) (w : World) (h : Bld 79 5 B l w) (hl : l.length + s.length ≤ 1048576) :
    Calls Try.prog 46 #[.pointer (some ⟨B, 0, none⟩), .string (txB s)] w fun e w' => ∃ v, e = .returned (.tuple #[v, .nilIface]) ∧ Bld 79 5 B (l ++ s) w' ∧ Below B w w' :=
  (Any.Builder_WriteString_f wsLays wsExtra B B (Lib.byteCells l) (txB s) w h.1 (by rw [Lib.byteCells_length, txB_size]; omega) (Nat.le_of_lt h.2)).mono fun _ _ ⟨h1, h2, h3⟩ =>
    ⟨_, h1, ⟨.inr (by
      have e1 : Lib.byteCells (l ++ s) = Lib.byteCells l ++ Lib.strCells (txB s) := by
        rw [Lib.byteCells_append]; rfl
      rw [e1]; exact h2), Nat.lt_of_lt_of_le h.2 h3.size⟩, h3⟩
end Go.Proofs.Ytnljabgkaelplaa
