
/- Decimal numerals: the functions. -/
import Derived.Test.YtkmggoagboikgaaDoorDcn
import Derived.Test.YtkmggoagboikgaaDoorByt
import Derived.Test.YtkmggoagboikgaaDoorShf
import Derived.Lib.AppendZeros
import Derived.Lib.AppendIntMem
import Derived.Deep.AppendSrc
namespace Go.Proofs.YtkmggoagboikgaaDoor
open Go.Proofs.YtkmggoagboikgaaDoor.Flo Go.RowKit Go.Proofs.YtkmggoagboikgaaDoor.Dcn

theorem belowD (w : World) (o : Obj) : Below w.heap.size w (w.alloc o) := (Below.refl _ _).alloc (Nat.le_refl _) o
/-- A slice value of the bytes l. -/
def ByV (W : World) (v : Value) (l : List UInt8) : Prop :=
  ∃ a cap, v = .slice a l.length cap ∧ (l = [] ∨ ∃ b o, a = some ⟨b, o, none⟩ ∧ b < W.heap.size ∧ ∀ j, j < l.length → W.cell? ⟨b, o + j, none⟩ = some (.int .u8 ((l.getD j 0).toNat : Int)))
theorem ByV.below {W W' : World} {v : Value} {l : List UInt8} (h : ByV W v l) (hb : Below W.heap.size W W') : ByV W' v l := by
  obtain ⟨a, cap, rfl, h⟩ := h
  refine ⟨a, cap, rfl, ?_⟩
  rcases h with h | ⟨b, o, rfl, hlt, hc⟩
  · exact .inl h
  · exact .inr ⟨b, o, rfl, Nat.lt_of_lt_of_le hlt hb.size, fun j hj => by rw [hb.cell (p := ⟨b, o + j, none⟩) hlt]; exact hc j hj⟩
theorem ByV.nil (W : World) (a : Option Addr) (cap : Nat) : ByV W (.slice a 0 cap) [] := ⟨a, cap, rfl, .inl rfl⟩
theorem append_none {P : Program} (w : World) (t ty e : TypeId) (i : TypeInfo) (b : Addr) (l c : Nat) (a : Option Addr) (k : Nat) (hlc : l ≤ c) (ht : P.underlying t = some (.slice e)) (hi : P.info? e = some i) :
    (Builtin.append_ #[t, t] ty #[.slice (some b) l c, .slice a 0 k]).run P w = .ok (.slice (some b) l c) w := by
  cases a with
  | none =>
    have h0 := run_firstCells_none (P := P) w i.size 0 0 k
    simp [Builtin.append_, run_underlying ht, sizeOf, typeInfo, hi, Builtin.lenOf, hlc, h0, storeCells]
  | some x =>
    have h0 := run_firstCells_some (P := P) w i.size 0 x 0 k [] (by simp) (by intro j v hj; simp at hj)
    simp [Builtin.append_, run_underlying ht, sizeOf, typeInfo, hi, Builtin.lenOf, hlc, h0, storeCells]
/-- append([]byte{c}, v...). -/
theorem prepend (W : World) (x : Int) (c : UInt8) (hx : x = (c.toNat : Int)) (v : Value) (l : List UInt8) (hv : ByV W v l) (hl : l.length ≤ 1000000) :
    ∃ v' W2, (∀ ty, (Builtin.append_ #[53, 53] ty #[.slice (some ⟨W.heap.size, 0, none⟩) 1 1, v]).run Tryd.prog (W.alloc (.cells #[.int .u8 x] 5)) = .ok v' W2) ∧ ByV W2 v' (c :: l) ∧ Below W.heap.size W W2 := by
  obtain ⟨i0, hi, hz0, hz1, hz2⟩ := info_parts Tryd.info8
  obtain ⟨a, cap, rfl, hv⟩ := hv
  rcases hv with rfl | ⟨b, o, rfl, hlt, hc⟩
  · refine ⟨_, _, fun ty => append_none (P := Tryd.prog) _ 53 ty 5 i0 ⟨W.heap.size, 0, none⟩ 1 1 a cap (Nat.le_refl _) Tryd.underlying53 hi, ?_, belowD _ _⟩
    refine ⟨_, _, rfl, .inr ⟨_, _, rfl, by simp, fun j hj => ?_⟩⟩
    have hj0 : j = 0 := by simp at hj; omega
    subst hj0
    rw [World.cell?_alloc_at _ _ _ _ rfl, hx]; rfl
  · have hsrc : Src Tryd.prog i0.size 53 (.slice (some ⟨b, o, none⟩) l.length cap) l.length (l.map fun c => Value.int .u8 (c.toNat : Int)) (W.alloc (.cells #[.int .u8 x] 5)) := by
      refine Src.ofSlice _ Tryd.underlying53 _ _ _ _ (by rw [hz1]; simp) (fun j u hu => ?_) (fun u hu => by obtain ⟨_, _, rfl⟩ := List.mem_map.1 hu; rfl)
      have hj : j < l.length := by have := (List.getElem?_eq_some_iff.1 hu).1; simpa using this
      rw [show (⟨b, o, none⟩ : Addr).add j = ⟨b, o + j, none⟩ by unfold Addr.add; split <;> simp_all, World.cell?_alloc_past _ _ _ hlt, hc j hj, ← hu, List.getElem?_map, List.getD_eq_getElem?_getD, List.getElem?_eq_getElem hj]; rfl
    have hold : (Builtin.firstCells i0.size 1 (.slice (some ⟨W.heap.size, 0, none⟩) 1 1)).run Tryd.prog (W.alloc (.cells #[.int .u8 x] 5)).drew = .ok [Value.int .u8 x].toArray (W.alloc (.cells #[.int .u8 x] 5)).drew :=
      run_firstCells_some _ _ 1 ⟨W.heap.size, 0, none⟩ 1 1 [Value.int .u8 x] (by rw [hz1]; rfl) (fun j u hu => by
        have hj : j = 0 := by have := (List.getElem?_eq_some_iff.1 hu).1; simp at this; exact this
        subst hj
        rw [show (⟨W.heap.size, 0, none⟩ : Addr).add 0 = ⟨W.heap.size, 0, none⟩ by unfold Addr.add; split <;> simp_all]
        show (W.alloc (.cells #[.int .u8 x] 5)).cell? ⟨W.heap.size, 0, none⟩ = _
        rw [World.cell?_alloc_at _ _ _ _ rfl]
        simpa using hu)
    have hl0 : 0 < l.length ∨ l.length = 0 := by omega
    rcases hl0 with hl0 | hl0
    · have hr := fun ty => run_append_grow_src (P := Tryd.prog) (W.alloc (.cells #[.int .u8 x] 5)) 53 53 ty 5 i0 (.int .u8 0) Tryd.underlying53 hi hz0 (some ⟨W.heap.size, 0, none⟩) 1 1 [Value.int .u8 x] hold _ l.length _ hsrc (by omega) (by omega)
        (growslice_fits (by omega) (by rw [hz2]; omega))
      refine ⟨_, _, hr, ⟨_, _, by rw [List.length_cons, Nat.add_comm], .inr ⟨_, 0, rfl, by simp, fun j hj => ?_⟩⟩, ?_⟩
      · rw [World.cell?_alloc_at _ _ _ _ (by simp)]
        subst hx
        cases j with
        | zero => rw [Array.getElem?_append_left (by simp)]; simp
        | succ j =>
          have hj2 : j < l.length := by simpa using hj
          rw [Array.getElem?_append_left (by simp; omega)]
          simp [List.getD_eq_getElem?_getD, hj2]
      · exact (((belowD _ _).drew).alloc (by simp) _)
    · have : l = [] := List.eq_nil_of_length_eq_zero hl0
      subst this
      refine ⟨_, _, fun ty => append_none (P := Tryd.prog) _ 53 ty 5 i0 ⟨W.heap.size, 0, none⟩ 1 1 _ cap (Nat.le_refl _) Tryd.underlying53 hi, ?_, belowD _ _⟩
      refine ⟨_, _, rfl, .inr ⟨_, _, rfl, by simp, fun j hj => ?_⟩⟩
      have hj0 : j = 0 := by simp at hj; omega
      subst hj0
      rw [World.cell?_alloc_at _ _ _ _ rfl, hx]; rfl
/-- The text of the bytes. -/
theorem ByV.text {W : World} {v : Value} {l : List UInt8} (h : ByV W v l) (hl : l ≠ []) : (convert 53 9 v).run Tryd.prog W = .ok (.string (txB l)) W := by
  obtain ⟨a, cap, rfl, h⟩ := h
  rcases h with h | ⟨b, o, rfl, _, hc⟩
  · exact absurd h hl
  · exact text_cells W _ _ _ b o _ cap l Tryd.underlying53 Tryd.underlying5 Tryd.underlying9 rfl hc

/-- The table of powers of ten lies in the world that the call has entered, and in each that comes of it. -/
def Pow (w0 : World) : Prop := Lib.TabBelow Tryd.prog w0.heap.size w0 "internal/strconv.uint64pow10" .u64 Lib.pow10Tab
theorem Pow.of {w0 : World} (h : Lib.TabIs Tryd.prog w0 "internal/strconv.uint64pow10" .u64 Lib.pow10Tab) : Pow w0 := Lib.tabBelow_of_tabIs h
end Go.Proofs.YtkmggoagboikgaaDoor
