/- What comes out of a channel: functions. -/
import Derived.Test.YtaalddkpldbdkaaHgi
import Derived.Test.YtaalddkpldbdkaaSmv
namespace Go.Proofs.Ytaalddkpldbdkaa
open Go.Proofs.Ytaalddkpldbdkaa.Flo Go.RowKit

theorem row_num {zs : List Nat} {n k : Nat} (h : rowB zs n = true) (hk : k < n) : PosD ((FloatKind.f32).decode (zs.getD k 0)) ∧ finD ((FloatKind.f32).decode (zs.getD k 0)) = true := by
  obtain ⟨s, m, i, hd, hs, _⟩ := ch_each (row_n h).2 hk
  rw [hd]
  exact ⟨hs, rfl⟩
theorem row_num' {zs : List Nat} {R C i k : Nat} (h : rowsB zs R C = true) (hi : i < R) (hk : k < C) : PosD ((FloatKind.f32).decode (zs.getD (i * C + k) 0)) ∧ finD ((FloatKind.f32).decode (zs.getD (i * C + k) 0)) = true := by
  have := row_num (rows_at h hi) hk
  rwa [sub_get _ _ _ hk] at this
/-- The chance of what comes out, by and by. -/
def thrN (zr zc : List Nat) (C k : Nat) : Nat → Nat
  | 0 => 0
  | i + 1 => (floatBits .add .f32 (thrN zr zc C k i) ((floatBits .mul .f32 (zr.getD i 0) (zc.getD (i * C + k) 0)).getD 0)).getD 0
def thrV (zr zc : List Nat) (R C k : Nat) : Option Nat := cls .f32 (thrN zr zc C k R)
theorem thr_step {zr zc : List Nat} {R C k : Nat} (hr : rowB zr R = true) (hc : rowsB zc R C = true) (hk : k < C) : ∀ i, i ≤ R → PosD ((FloatKind.f32).decode (thrN zr zc C k i)) ∧
    (i < R → ∃ p, floatBits .mul .f32 (zr.getD i 0) (zc.getD (i * C + k) 0) = some p ∧ floatBits .add .f32 (thrN zr zc C k i) p = some (thrN zr zc C k (i + 1)))
  | 0, _ => by
    have h0 : PosD ((FloatKind.f32).decode 0) := by rw [dec_032]; exact .inl rfl
    refine ⟨h0, fun hi => ?_⟩
    obtain ⟨p, hp, hpp⟩ := floatBits_pos (row_num hr hi).1 (row_num' hc hi hk).1 (row_num hr hi).2 (row_num' hc hi hk).2
    obtain ⟨s, hs, _⟩ := floatBits_sum h0 hpp
    refine ⟨p, hp, ?_⟩
    show floatBits .add .f32 0 p = some ((floatBits .add .f32 0 ((floatBits .mul .f32 (zr.getD 0 0) (zc.getD (0 * C + k) 0)).getD 0)).getD 0)
    rw [hp]
    show floatBits .add .f32 0 p = some ((floatBits .add .f32 0 p).getD 0)
    rw [hs]; rfl
  | i + 1, hi => by
    obtain ⟨h1, h2⟩ := thr_step hr hc hk i (by omega)
    obtain ⟨p, hp, hs⟩ := h2 (by omega)
    have hpos : PosD ((FloatKind.f32).decode (thrN zr zc C k (i + 1))) := by
      obtain ⟨q, hq, hqp⟩ := floatBits_pos (row_num hr (show i < R by omega)).1 (row_num' hc (show i < R by omega) hk).1 (row_num hr (show i < R by omega)).2 (row_num' hc (show i < R by omega) hk).2
      rw [hp] at hq
      obtain rfl : p = q := by injection hq
      obtain ⟨t, ht, htp⟩ := floatBits_sum h1 hqp
      rw [hs] at ht
      obtain rfl : thrN zr zc C k (i + 1) = t := by injection ht
      exact htp
    refine ⟨hpos, fun hi2 => ?_⟩
    obtain ⟨q, hq, hqp⟩ := floatBits_pos (row_num hr hi2).1 (row_num' hc hi2 hk).1 (row_num hr hi2).2 (row_num' hc hi2 hk).2
    obtain ⟨t, ht, _⟩ := floatBits_sum hpos hqp
    refine ⟨q, hq, ?_⟩
    show floatBits .add .f32 (thrN zr zc C k (i + 1)) q = some ((floatBits .add .f32 (thrN zr zc C k (i + 1)) ((floatBits .mul .f32 (zr.getD (i + 1) 0) (zc.getD ((i + 1) * C + k) 0)).getD 0)).getD 0)
    rw [hq]
    show floatBits .add .f32 _ q = some ((floatBits .add .f32 _ q).getD 0)
    rw [ht]; rfl
def takeB (r c : Int) (zc : List Nat) (n : Nat) (zr : List Nat) (m : Nat) : Bool := chanB r c zc n && (decide ((m : Int) = r) && rowB zr m)
def okTh (r c : Int) (zc : List Nat) (n : Nat) (zr : List Nat) (m : Nat) : Bool := takeB r c zc n zr m && rowV (thrV zr zc r.toNat c.toNat) c.toNat
theorem take_out {r c : Int} {zc zr : List Nat} {n m : Nat} (h : takeB r c zc n zr m = true) : ∃ R C : Nat, r = R ∧ c = C ∧ n = R * C ∧ (1 ≤ R ∧ R ≤ 8) ∧ (1 ≤ C ∧ C ≤ 8) ∧ rowsB zc R C = true ∧ m = R ∧ rowB zr R = true := by
  unfold takeB at h
  rw [Bool.and_eq_true, Bool.and_eq_true] at h
  obtain ⟨R, C, rfl, rfl, h1, h2, h3, h4⟩ := chan_nat h.1
  have h5 := of_decide_eq_true h.2.1
  obtain rfl : m = R := by omega
  exact ⟨m, C, rfl, rfl, h1, h2, h3, h4, rfl, h.2.2⟩
/-- Cells of numbers, in a block of their own. -/
def FCell (w : World) (p n : Nat) (f : Nat → Nat) : Prop := p < w.heap.size ∧ ∀ j, j < n → w.cell? ⟨p, j, none⟩ = some (.float .f32 (f j)) ∧ w.frozen? ⟨p, j, none⟩ = false
theorem FCell.put {w : World} {p n k z : Nat} {f : Nat → Nat} (h : FCell w p n f) (hk : k < n) : FCell (w.setCell ⟨p, k, none⟩ (.float .f32 z)) p n (fun j => if j = k then z else f j) := by
  refine ⟨by rw [World.size_setCell]; exact h.1, fun j hj => ⟨?_, by rw [World.frozen?_setCell]; exact (h.2 j hj).2⟩⟩
  by_cases e : j = k
  · subst e
    rw [World.cell?_setCell_same (h := (h.2 j hj).1)]; simp
  · rw [World.cell?_setCell_other (h := fun e2 => e (by injection e2 with _ e3 _; exact e3.symm)), (h.2 j hj).1]; simp [e]
theorem FCell.drewN {w : World} {p n : Nat} {f : Nat → Nat} (h : FCell w p n f) (q : Nat) : FCell (w.drewN q) p n f := h
theorem FCell.drew {w : World} {p n : Nat} {f : Nat → Nat} (h : FCell w p n f) : FCell w.drew p n f := h
theorem FCell.eq {w : World} {p n : Nat} {f f' : Nat → Nat} (h : FCell w p n f) (e : ∀ j, j < n → f j = f' j) : FCell w p n f' := ⟨h.1, fun j hj => by rw [← e j hj]; exact h.2 j hj⟩
theorem FCell.below {w w' : World} {p n : Nat} {f : Nat → Nat} (h : FCell w p n f) (hb : Below w.heap.size w w') : FCell w' p n f :=
  ⟨Nat.lt_of_lt_of_le h.1 hb.size, fun j hj => ⟨(hb.cell (p := ⟨p, j, none⟩) h.1).trans (h.2 j hj).1, (hb.frozen (p := ⟨p, j, none⟩) h.1).trans (h.2 j hj).2⟩⟩
theorem FCell.ent {w : World} {p n : Nat} {f : Nat → Nat} {V : Nat → Option Nat} (h : FCell w p n f) (hV : ∀ j, j < n → cls .f32 (f j) = V j) : Ent.ok w p (.cl n V) := by
  refine ⟨(List.range n).map f, fun i hi => ?_, by show ((List.range n).map f).length = n; simp, fun i hi => ?_⟩
  · rw [← hV i hi]; simp [List.getD_eq_getElem?_getD, hi]
  · have hi : i < n := hi
    have e : (Ent.fl n ((List.range n).map f)).cell i = .float .f32 (f i) := by show Value.float .f32 (((List.range n).map f).getD i 0) = _; simp [List.getD_eq_getElem?_getD, hi]
    rw [e]; exact h.2 i hi
theorem rows_far {w : World} {g b off R C : Nat} (h : RowsAt w g b off R C) {p : Addr} (hp : p.block ≠ g) (v : Value) : RowsAt (w.setCell p v) g b off R C :=
  ⟨by rw [World.size_setCell]; exact h.1, fun i hi => by rw [World.cell?_setCell_far _ _ _ _ hp]; exact h.2 i hi⟩
theorem FRow.drew' {w : World} {a : Option Addr} {n : Nat} {zs : List Nat} (h : FRow w a n zs) : FRow w.drew a n zs := h
theorem fcell_new (w : World) (n : Nat) (T : TypeId) : FCell (w.alloc (.cells (madeCells #[Value.float .f32 0] n) T)) w.heap.size n (fun _ => 0) := by
  refine ⟨by simp, fun j hj => ⟨?_, World.frozen?_alloc_at _ _ _ _ rfl⟩⟩
  rw [World.cell?_alloc_at _ _ _ _ rfl, made_eq]
  simp [hj]
end Go.Proofs.Ytaalddkpldbdkaa
