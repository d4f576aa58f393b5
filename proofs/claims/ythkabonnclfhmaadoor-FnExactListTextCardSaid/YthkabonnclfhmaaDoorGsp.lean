
/- What is the call's own: rows and structs in blocks of their own; marks, and what holds them. -/
import Derived.Test.YthkabonnclfhmaaDoorMix
import Derived.Test.YthkabonnclfhmaaDoorIro
namespace Go.Proofs.YthkabonnclfhmaaDoor
open Go.Proofs.YthkabonnclfhmaaDoor.Flo Go.RowKit

theorem FRow.nil (w : World) : FRow w none 0 [] := ⟨rfl, .inl rfl⟩
theorem IRow.nil (w : World) : IRow w none 0 [] := ⟨rfl, .inl rfl⟩
theorem IRow.below {w w' : World} {a : Option Addr} {n : Nat} {zs : List Int} (h : IRow w a n zs) (hb : Below w.heap.size w w') : IRow w' a n zs := by
  obtain ⟨hl, h⟩ := h
  refine ⟨hl, ?_⟩
  rcases h with h | ⟨b, off, ha, hk, hc⟩
  · exact .inl h
  · exact .inr ⟨b, off, ha, Nat.lt_of_lt_of_le hk hb.size, fun i hi => by rw [hb.cell (p := ⟨b, off + i, none⟩) hk]; exact hc i hi⟩
/-- What a block holds. -/
inductive Ent
  | fl (n : Nat) (zs : List Nat)
  | il (n : Nat) (zs : List Int)
  | vs (l : List Value)
  | cl (n : Nat) (V : Nat → Option Nat)
  | gv (n : Nat) (f : Nat → Value)
def Ent.n : Ent → Nat
  | .fl n _ => n
  | .il n _ => n
  | .vs l => l.length
  | .cl n _ => n
  | .gv n _ => n
/-- The cells of a block. -/
def Ent.cell : Ent → Nat → Value
  | .fl _ zs, i => .float .f32 (zs.getD i 0)
  | .il _ zs, i => .int .i64 (zs.getD i 0)
  | .vs l, i => l.getD i (Value.bool false)
  | .cl _ _, _ => Value.bool false
  | .gv _ f, i => f i
def Ent.len : Ent → Prop
  | .fl n zs => zs.length = n
  | .il n zs => zs.length = n
  | .vs _ => True
  | .cl _ _ => True
  | .gv _ _ => True
def Ent.ok0 (w : World) (p : Nat) (e : Ent) : Prop := e.len ∧ ∀ i, i < e.n → w.cell? ⟨p, i, none⟩ = some (e.cell i) ∧ w.frozen? ⟨p, i, none⟩ = false
theorem Ent.ok0.same {w w' : World} {p : Nat} {e : Ent} (h : e.ok0 w p) (hc : ∀ i, w'.cell? ⟨p, i, none⟩ = w.cell? ⟨p, i, none⟩ ∧ w'.frozen? ⟨p, i, none⟩ = w.frozen? ⟨p, i, none⟩) : e.ok0 w' p :=
  ⟨h.1, fun i hi => by rw [(hc i).1, (hc i).2]; exact h.2 i hi⟩
/-- What an entry says; one of classes alone tells its numbers up to which not-a-number. -/
def Ent.ok (w : World) (p : Nat) : Ent → Prop
  | .cl n V => ∃ zs : List Nat, (∀ i, i < n → cls .f32 (zs.getD i 0) = V i) ∧ Ent.ok0 w p (.fl n zs)
  | .fl n zs => Ent.ok0 w p (.fl n zs)
  | .il n zs => Ent.ok0 w p (.il n zs)
  | .vs l => Ent.ok0 w p (.vs l)
  | .gv n f => Ent.ok0 w p (.gv n f)
theorem Ent.ok.same {w w' : World} {p : Nat} {e : Ent} (h : e.ok w p) (hc : ∀ i, w'.cell? ⟨p, i, none⟩ = w.cell? ⟨p, i, none⟩ ∧ w'.frozen? ⟨p, i, none⟩ = w.frozen? ⟨p, i, none⟩) : e.ok w' p := by
  cases e with
  | cl n V => obtain ⟨zs, h1, h2⟩ := h; exact ⟨zs, h1, h2.same hc⟩
  | fl n zs => exact Ent.ok0.same h hc
  | il n zs => exact Ent.ok0.same h hc
  | vs l => exact Ent.ok0.same h hc
  | gv n f => exact Ent.ok0.same h hc
theorem Ent.ok.below {w w' : World} {p : Nat} {e : Ent} (h : e.ok w p) (hp : p < w.heap.size) (hb : Below w.heap.size w w') : e.ok w' p :=
  h.same fun i => ⟨hb.cell (p := ⟨p, i, none⟩) hp, hb.frozen (p := ⟨p, i, none⟩) hp⟩
/-- What has been made since the world w0. -/
def Mine (w0 w : World) (L : List (Nat × Ent)) : Prop :=
  Below w0.heap.size w0 w ∧ (∀ r ∈ L, w0.heap.size ≤ r.1 ∧ r.1 < w.heap.size ∧ r.2.ok w r.1) ∧ (L.map (·.1)).Nodup
theorem Mine.nil (w : World) : Mine w w [] := ⟨Below.refl _ _, (by intro r hr; cases hr), List.nodup_nil⟩
theorem Mine.out {w0 w : World} {L : List (Nat × Ent)} (h : Mine w0 w L) : Below w0.heap.size w0 w := h.1
theorem Mine.below {w0 w w' : World} {L : List (Nat × Ent)} (h : Mine w0 w L) (hb : Below w.heap.size w w') : Mine w0 w' L := by
  refine ⟨Below.next h.1 hb, fun r hr => ?_, h.2.2⟩
  obtain ⟨h1, h2, h3⟩ := h.2.1 r hr
  exact ⟨h1, Nat.lt_of_lt_of_le h2 hb.size, h3.below h2 hb⟩
theorem Mine.drewN {w0 w : World} {L : List (Nat × Ent)} (h : Mine w0 w L) (q : Nat) : Mine w0 (w.drewN q) L := h.below (Below.drewN' (Below.refl _ _) q)
theorem Mine.drew {w0 w : World} {L : List (Nat × Ent)} (h : Mine w0 w L) : Mine w0 w.drew L := by rw [World.drew_is_drewN]; exact h.drewN 1
theorem Mine.push {w0 w w' : World} {L : List (Nat × Ent)} {p : Nat} {e : Ent} (h : Mine w0 w L) (hb : Below w.heap.size w w') (hp : w.heap.size ≤ p) (hp2 : p < w'.heap.size) (he : e.ok w' p) : Mine w0 w' ((p, e) :: L) := by
  have h' := h.below hb
  refine ⟨h'.1, fun r hm => ?_, ?_⟩
  · cases hm with
    | head => exact ⟨Nat.le_trans h.1.size hp, hp2, he⟩
    | tail _ hm => exact h'.2.1 r hm
  · rw [List.map_cons, List.nodup_cons]
    refine ⟨fun hm => ?_, h.2.2⟩
    obtain ⟨r, hr1, hr2⟩ := List.mem_map.1 hm
    have := (h.2.1 r hr1).2.1
    have hr2 : r.1 = p := hr2
    omega
/-- A new block of a callee's. -/
def New (w w' : World) (g : Nat) (e : Ent) : Prop := w.heap.size ≤ g ∧ g < w'.heap.size ∧ e.ok w' g ∧ Below w.heap.size w w'
theorem Mine.add {w0 w w' : World} {L : List (Nat × Ent)} {g : Nat} {e : Ent} (h : Mine w0 w L) (n : New w w' g e) : Mine w0 w' ((g, e) :: L) := h.push n.2.2.2 n.1 n.2.1 n.2.2.1
theorem Ent.vs_new (w : World) (l : List Value) (T : TypeId) : (Ent.vs l).ok (w.alloc (.cells l.toArray T)) w.heap.size := by
  refine ⟨trivial, fun i hi => ⟨?_, World.frozen?_alloc_at _ _ _ _ rfl⟩⟩
  rw [World.cell?_alloc_at _ _ _ _ rfl]
  have hi : i < l.length := hi
  show l.toArray[i]? = some (l.getD i (.bool false))
  rw [List.getD_eq_getElem?_getD, List.getElem?_eq_getElem hi]; simp [hi]
theorem Mine.alloc3 {w0 w : World} {L : List (Nat × Ent)} (h : Mine w0 w L) (x y z : Value) (T : TypeId) : Mine w0 (w.alloc (.cells #[x, y, z] T)) ((w.heap.size, .vs [x, y, z]) :: L) :=
  h.push (below_alloc' w _) (Nat.le_refl _) (by simp) (Ent.vs_new w [x, y, z] T)
  where below_alloc' (w : World) (o : Obj) : Below w.heap.size w (w.alloc o) := (Below.refl _ _).alloc (Nat.le_refl _) o
theorem Mine.keep {w0 W : World} {L : List (Nat × Ent)} {P : Program} {f : FuncId} {args : Array Value} {Q : Ending → World → Prop} (h : Mine w0 W L) (c : Calls P f args W Q) : Calls P f args W (fun e w' => Q e w' ∧ Mine w0 W L) :=
  c.mono fun _ _ q => ⟨q, h⟩
theorem Mine.frow {w0 w : World} {L : List (Nat × Ent)} {p n : Nat} {zs : List Nat} (h : Mine w0 w L) (hm : (p, Ent.fl n zs) ∈ L) : FRow w (some ⟨p, 0, none⟩) n zs := by
  obtain ⟨_, h2, h3, h4⟩ := h.2.1 _ hm
  exact ⟨h3, .inr ⟨p, 0, rfl, h2, fun i hi => by rw [Nat.zero_add]; exact (h4 i hi).1⟩⟩
theorem Mine.crow {w0 w : World} {L : List (Nat × Ent)} {p n : Nat} {V : Nat → Option Nat} (h : Mine w0 w L) (hm : (p, Ent.cl n V) ∈ L) : ∃ zs, FRow w (some ⟨p, 0, none⟩) n zs ∧ ∀ i, i < n → cls .f32 (zs.getD i 0) = V i := by
  obtain ⟨_, h2, zs, hv, h3, h4⟩ := h.2.1 _ hm
  exact ⟨zs, ⟨h3, .inr ⟨p, 0, rfl, h2, fun i hi => by rw [Nat.zero_add]; exact (h4 i hi).1⟩⟩, hv⟩
theorem Mine.irow {w0 w : World} {L : List (Nat × Ent)} {p n : Nat} {zs : List Int} (h : Mine w0 w L) (hm : (p, Ent.il n zs) ∈ L) : IRow w (some ⟨p, 0, none⟩) n zs := by
  obtain ⟨_, h2, h3, h4⟩ := h.2.1 _ hm
  exact ⟨h3, .inr ⟨p, 0, rfl, h2, fun i hi => by rw [Nat.zero_add]; exact (h4 i hi).1⟩⟩
theorem Mine.three {w0 w : World} {L : List (Nat × Ent)} {p : Nat} {x y z : Value} (h : Mine w0 w L) (hm : (p, Ent.vs [x, y, z]) ∈ L) : w.cell? ⟨p, 0, none⟩ = some x ∧ w.cell? ⟨p, 1, none⟩ = some y ∧ w.cell? ⟨p, 2, none⟩ = some z := by
  obtain ⟨_, _, _, h4⟩ := h.2.1 _ hm
  exact ⟨(h4 0 (by decide : (0 : Nat) < 3)).1, (h4 1 (by decide : (1 : Nat) < 3)).1, (h4 2 (by decide : (2 : Nat) < 3)).1⟩
/-- The cells of the structs, here and behind one block more. -/
def Facts (w : World) : List (Nat × Ent) → Prop
  | [] => True
  | (p, .vs [x, y, z]) :: L => (w.cell? ⟨p, 0, none⟩ = some x ∧ w.cell? ⟨p, 1, none⟩ = some y ∧ w.cell? ⟨p, 2, none⟩ = some z ∧ (∀ o, (w.alloc o).cell? ⟨p, 0, none⟩ = some x) ∧ (∀ o, (w.alloc o).cell? ⟨p, 1, none⟩ = some y) ∧ (∀ o, (w.alloc o).cell? ⟨p, 2, none⟩ = some z)) ∧ Facts w L
  | (_, .vs _) :: L => Facts w L
  | (_, .fl _ _) :: L => Facts w L
  | (_, .il _ _) :: L => Facts w L
  | (_, .cl _ _) :: L => Facts w L
  | (_, .gv _ _) :: L => Facts w L
theorem facts_of {w : World} : ∀ {L : List (Nat × Ent)}, (∀ r ∈ L, r.1 < w.heap.size ∧ r.2.ok w r.1) → Facts w L
  | [], _ => trivial
  | (p, e) :: L, h => by
    have ih := facts_of (fun r hr => h r (.tail _ hr))
    have h0 := h (p, e) (.head _)
    cases e with
    | fl n zs => exact ih
    | il n zs => exact ih
    | cl n V => exact ih
    | gv n f => exact ih
    | vs l =>
      match l with
      | [x, y, z] =>
        obtain ⟨hp, _, h4⟩ := h0
        have k0 := (h4 0 (by decide : (0 : Nat) < 3)).1
        have k1 := (h4 1 (by decide : (1 : Nat) < 3)).1
        have k2 := (h4 2 (by decide : (2 : Nat) < 3)).1
        exact ⟨⟨k0, k1, k2, fun o => (World.cell?_alloc_past _ _ _ hp).trans k0, fun o => (World.cell?_alloc_past _ _ _ hp).trans k1, fun o => (World.cell?_alloc_past _ _ _ hp).trans k2⟩, ih⟩
      | [] => exact ih
      | [_] => exact ih
      | [_, _] => exact ih
      | _ :: _ :: _ :: _ :: _ => exact ih
theorem Mine.facts {w0 w : World} {L : List (Nat × Ent)} (h : Mine w0 w L) : Facts w L := facts_of fun r hr => (h.2.1 r hr).2
theorem Ent.fl_ok {w : World} {p n : Nat} {zs : List Nat} (h : FRow w (some ⟨p, 0, none⟩) n zs) (hf : ∀ j, j < n → w.frozen? ⟨p, j, none⟩ = false) : (Ent.fl n zs).ok w p := by
  refine ⟨h.1, fun i hi => ⟨?_, hf i hi⟩⟩
  rcases h.2 with h0 | ⟨b, off, e, _, hc⟩
  · have hi : i < n := hi
    omega
  · injection e with e
    injection e with e1 e2
    subst e1; subst e2
    have := hc i hi
    rw [Nat.zero_add] at this
    exact this
theorem Ent.il_ok {w : World} {p n : Nat} {zs : List Int} (h : IRow w (some ⟨p, 0, none⟩) n zs) (hf : ∀ j, j < n → w.frozen? ⟨p, j, none⟩ = false) : (Ent.il n zs).ok w p := by
  refine ⟨h.1, fun i hi => ⟨?_, hf i hi⟩⟩
  rcases h.2 with h0 | ⟨b, off, e, _, hc⟩
  · have hi : i < n := hi
    omega
  · injection e with e
    injection e with e1 e2
    subst e1; subst e2
    have := hc i hi
    rw [Nat.zero_add] at this
    exact this

theorem ret_i {a b : Int} (h : a = b) : Ending.returned (.int .i64 a) = .returned (.int .i64 b) := by rw [h]
/-- The marks from k0 on. -/
def marks (k0 : Int) (n : Nat) : List Nat := (List.range n).map fun (i : Nat) => floatOfInt .f32 (k0 + (i : Int))
theorem marks_len (k0 : Int) (n : Nat) : (marks k0 n).length = n := by simp [marks]
theorem marks_get (k0 : Int) {n k : Nat} (h : k < n) : (marks k0 n).getD k 0 = floatOfInt .f32 (k0 + (k : Int)) := by
  simp [marks, List.getD_eq_getElem?_getD, h]
def marksI (k0 : Int) (n : Nat) : List Int := (List.range n).map fun (i : Nat) => k0 + (i : Int)
theorem marksI_len (k0 : Int) (n : Nat) : (marksI k0 n).length = n := by simp [marksI]
theorem marksI_get (k0 : Int) {n k : Nat} (h : k < n) : (marksI k0 n).getD k 0 = k0 + (k : Int) := by
  simp [marksI, List.getD_eq_getElem?_getD, h]
/-- A block of which k cells are those of another one. -/
def PM (w : World) (p : Nat) (old new : Ent) (k : Nat) (wr : World) : Prop :=
  wr.heap.size = w.heap.size ∧ (∀ a : Addr, a.block ≠ p → wr.cell? a = w.cell? a ∧ wr.frozen? a = w.frozen? a) ∧
  (∀ j, j < old.n → wr.cell? ⟨p, j, none⟩ = some (if j < k then new.cell j else old.cell j) ∧ wr.frozen? ⟨p, j, none⟩ = false) ∧ ∀ B, B ≤ p → Below B w wr
theorem PM.start {w : World} {p : Nat} {old : Ent} (new : Ent) (h : old.ok0 w p) : PM w p old new 0 w :=
  ⟨rfl, fun a _ => ⟨rfl, rfl⟩, fun j hj => ⟨by rw [if_neg (by omega)]; exact (h.2 j hj).1, (h.2 j hj).2⟩, fun B _ => Below.refl _ _⟩
theorem PM.step {w wr : World} {p k : Nat} {old new : Ent} (h : PM w p old new k wr) (hk : k < old.n) (z : Value) (hz : z = new.cell k) : PM w p old new (k + 1) (wr.setCell ⟨p, k, none⟩ z) := by
  obtain ⟨h1, h2, h3, h4⟩ := h
  refine ⟨by rw [World.size_setCell]; exact h1, fun a ha => ⟨?_, ?_⟩, fun j hj => ⟨?_, ?_⟩, fun B hB => (h4 B hB).setCell hB _⟩
  · rw [World.cell?_setCell_other (h := fun e => ha (by rw [← e]))]; exact (h2 a ha).1
  · rw [World.frozen?_setCell]; exact (h2 a ha).2
  · by_cases e : j = k
    · subst e
      rw [World.cell?_setCell_same (h := (h3 j hj).1), if_pos (by omega), hz]
    · rw [World.cell?_setCell_other (h := fun e2 => e (by injection e2 with _ e3 _; exact e3.symm)), (h3 j hj).1]
      by_cases hjk : j < k
      · rw [if_pos hjk, if_pos (by omega)]
      · rw [if_neg hjk, if_neg (by omega)]
  · rw [World.frozen?_setCell]; exact (h3 j hj).2
/-- A marked row among others. -/
theorem Mine.mark {w0 w wr : World} {L : List (Nat × Ent)} {i p n : Nat} {e old new : Ent} (h : Mine w0 w L) (hi : L[i]? = some (p, e)) (hn : old.n = n) (hn2 : new.n = n) (hl : new.len) (hk : ∀ w p, new.ok0 w p → new.ok w p) (hm : PM w p old new n wr) : Mine w0 wr (L.set i (p, new)) := by
  have hmem : (p, e) ∈ L := List.mem_of_getElem? hi
  obtain ⟨hb1, hb2, _⟩ := h.2.1 _ hmem
  have hb1 : w0.heap.size ≤ p := hb1
  have hb2 : p < w.heap.size := hb2
  obtain ⟨hs, ho, hc, hB⟩ := hm
  have hnew : new.ok wr p := hk _ _ ⟨hl, fun j hj => by have := hc j (by omega); rw [if_pos (by omega)] at this; exact this⟩
  have hil : i < L.length := (List.getElem?_eq_some_iff.1 hi).1
  have hie : L[i] = (p, e) := (List.getElem?_eq_some_iff.1 hi).2
  refine ⟨h.1.trans (hB _ hb1), fun r hr => ?_, ?_⟩
  · obtain ⟨j, hj, hje⟩ := List.getElem_of_mem hr
    rw [List.length_set] at hj
    by_cases e : j = i
    · subst e
      rw [List.getElem_set_self] at hje
      subst hje
      exact ⟨hb1, by rw [hs]; exact hb2, hnew⟩
    · rw [List.getElem_set_ne (fun e2 => e e2.symm)] at hje
      have hrm : r ∈ L := by rw [← hje]; exact List.getElem_mem _
      obtain ⟨c1, c2, c3⟩ := h.2.1 r hrm
      have hne : r.1 ≠ p := by
        intro e2
        have hnd := h.2.2
        have a1 : (L.map (·.1))[j]'(by simpa using hj) = r.1 := by simp [hje]
        have a2 : (L.map (·.1))[i]'(by simpa using hil) = p := by simp [hie]
        have hpw := List.pairwise_iff_getElem.1 hnd
        rcases Nat.lt_trichotomy j i with hl | hl | hl
        · exact hpw j i (by simpa using hj) (by simpa using hil) hl (by rw [a1, a2]; exact e2)
        · exact e hl
        · exact hpw i j (by simpa using hil) (by simpa using hj) hl (by rw [a1, a2]; exact e2.symm)
      exact ⟨c1, by rw [hs]; exact c2, c3.same fun q => ho ⟨r.1, q, none⟩ hne⟩
  · have : (L.set i (p, new)).map (·.1) = L.map (·.1) := by
      rw [List.map_set]
      have : p = (L.map (·.1))[i]'(by simpa using hil) := by simp [hie]
      show (L.map (·.1)).set i p = _
      rw [this, List.set_getElem_self]
    rw [this]; exact h.2.2
theorem toM (a : Option Addr) (n cap : Nat) (zs : List Nat) (w w0 : World) (L : List (Nat × Ent)) (h : Mine w0 w L) (ha : FRow w0 a n zs) (hn : n ≤ 1048576) :
    Calls Tryd.prog 28 #[.slice a n cap] w fun e w' => ∃ p, e = .returned (.slice (some ⟨p, 0, none⟩) n n) ∧ Mine w0 w' ((p, .fl n zs) :: L) := by
  refine (toF a n cap zs w (ha.below h.1) hn).mono ?_
  rintro e w' ⟨he, rfl⟩
  have hb : Below w.heap.size w (w.alloc (.cells (fl zs) 83)) := (Below.refl _ _).alloc (Nat.le_refl _) _
  exact ⟨_, he, h.push hb (Nat.le_refl _) (by simp) (Ent.fl_ok (FRow.new ha.1 _) (fun j _ => World.frozen?_alloc_at _ _ _ _ rfl))⟩
theorem toMI (a : Option Addr) (n cap : Nat) (zs : List Int) (w w0 : World) (L : List (Nat × Ent)) (h : Mine w0 w L) (ha : IRow w0 a n zs) (hn : n ≤ 1048576) :
    Calls Tryd.prog 20 #[.slice a n cap] w fun e w' => ∃ p, e = .returned (.slice (some ⟨p, 0, none⟩) n n) ∧ Mine w0 w' ((p, .il n zs) :: L) := by
  refine (toI a n cap zs w (ha.below h.1) hn).mono ?_
  rintro e w' ⟨he, rfl⟩
  have hb : Below w.heap.size w (w.alloc (.cells (il zs) 2)) := (Below.refl _ _).alloc (Nat.le_refl _) _
  exact ⟨_, he, h.push hb (Nat.le_refl _) (by simp) (Ent.il_ok (IRow.new ha.1 _) (fun j _ => World.frozen?_alloc_at _ _ _ _ rfl))⟩
theorem eqM (p q n cap capb : Nat) (zs : List Nat) (w w0 : World) (L : List (Nat × Ent)) (h : Mine w0 w L) (ha : (p, .fl n zs) ∈ L) (hb : (q, .fl n zs) ∈ L) (hn : n ≤ 1048576) :
    Calls Tryd.prog 30 #[.slice (some ⟨p, 0, none⟩) n cap, .slice (some ⟨q, 0, none⟩) n capb] w fun e w' => e = .returned (.bool true) ∧ Mine w0 w' L := by
  refine (eqF _ _ n cap capb zs w (h.frow ha) (h.frow hb) hn).mono ?_
  rintro e w' ⟨he, d⟩
  exact ⟨he, h.below d.below⟩
theorem eqMC (p q n cap capb : Nat) (V : Nat → Option Nat) (w w0 : World) (L : List (Nat × Ent)) (h : Mine w0 w L) (ha : (p, .cl n V) ∈ L) (hb : (q, .cl n V) ∈ L) (hn : n ≤ 1048576) :
    Calls Tryd.prog 30 #[.slice (some ⟨p, 0, none⟩) n cap, .slice (some ⟨q, 0, none⟩) n capb] w fun e w' => e = .returned (.bool true) ∧ Mine w0 w' L := by
  obtain ⟨za, ha1, ha2⟩ := h.crow ha
  obtain ⟨zb, hb1, hb2⟩ := h.crow hb
  refine (eqC _ _ n cap capb za zb w ha1 hb1 hn (fun k hk => (ha2 k hk).trans (hb2 k hk).symm)).mono ?_
  rintro e w' ⟨he, d⟩
  exact ⟨he, h.below d.below⟩
theorem eqM0 (w w0 : World) (L : List (Nat × Ent)) (h : Mine w0 w L) :
    Calls Tryd.prog 30 #[.slice none 0 0, .slice none 0 0] w fun e w' => e = .returned (.bool true) ∧ Mine w0 w' L := by
  refine (eqF none none 0 0 0 [] w (FRow.nil _) (FRow.nil _) (Nat.zero_le _)).mono ?_
  rintro e w' ⟨he, d⟩
  exact ⟨he, h.below d.below⟩
theorem eqMI (p q n cap capb : Nat) (zs : List Int) (w w0 : World) (L : List (Nat × Ent)) (h : Mine w0 w L) (ha : (p, .il n zs) ∈ L) (hb : (q, .il n zs) ∈ L) (hn : n ≤ 1048576) :
    Calls Tryd.prog 22 #[.slice (some ⟨p, 0, none⟩) n cap, .slice (some ⟨q, 0, none⟩) n capb] w fun e w' => e = .returned (.bool true) ∧ Mine w0 w' L := by
  refine (eqI _ _ n cap capb zs w (h.irow ha) (h.irow hb) hn).mono ?_
  rintro e w' ⟨he, d⟩
  exact ⟨he, h.below d.below⟩
theorem eqMI0 (w w0 : World) (L : List (Nat × Ent)) (h : Mine w0 w L) :
    Calls Tryd.prog 22 #[.slice none 0 0, .slice none 0 0] w fun e w' => e = .returned (.bool true) ∧ Mine w0 w' L := by
  refine (eqI none none 0 0 0 [] w (IRow.nil _) (IRow.nil _) (Nat.zero_le _)).mono ?_
  rintro e w' ⟨he, d⟩
  exact ⟨he, h.below d.below⟩
set_option maxHeartbeats 2000000 in
theorem markM0 (p n cap : Nat) (e : Ent) (zs : List Nat) (k0 : Int) (w w0 : World) (L : List (Nat × Ent)) (i : Nat) (h : Mine w0 w L) (hi : L[i]? = some (p, e)) (ho : (Ent.fl n zs).ok0 w p) (hn : n ≤ 1048576) (hk0 : 0 ≤ k0 ∧ k0 ≤ 4194304) :
    Calls Tryd.prog 33 #[.slice (some ⟨p, 0, none⟩) n cap, .int .i64 k0] w fun e w' => e = .returned (.int .i64 (k0 + (n : Int))) ∧ Mine w0 w' (L.set i (p, .fl n (marks k0 n))) := by
  have HS := Lib.hid h
  have HI := Lib.hid hi
  have HP := Lib.hid (PM.start (.fl n (marks k0 n)) ho)
  obtain ⟨hk1, hk2⟩ := hk0
  clear h hi ho
  go_enter Tryd.func33, Tryd.ntmps33
  go_wp2
  go_loopw [1, 5] (fun kv iv w' => ∃ (k : Nat) (wr : World), k ≤ n ∧ kv = .int .i64 (k0 + (k : Int)) ∧ iv = .int .i64 k ∧ wr = w' ∧ Hid (PM w p (.fl n zs) (.fl n (marks k0 n)) k wr)) (fun _ iv _ => n - (intOf iv).toNat)
  case atStart => exact ⟨0, _, by omega, by simp, rfl, rfl, HP⟩
  case round =>
    obtain ⟨k, wr, hk, rfl, rfl, rfl, HM⟩ := hrel
    by_cases hlt : k < n
    · have hck := (HM.out.2.2.1 k hlt).1
      have hfz := (HM.out.2.2.1 k hlt).2
      have HN := Lib.hid (HM.out.step hlt (.float .f32 (floatOfInt .f32 (k0 + (k : Int)))) (by show _ = Value.float .f32 ((marks k0 n).getD k 0); rw [marks_get _ hlt]))
      have hst : ∀ (a : Addr) (m : Mode) (x : Nat) (w : World), (store a (.float .f32 x) m).run Tryd.prog w = stored Tryd.prog w a (.float .f32 x) m := fun a m x w => run_store Tryd.prog w a (.float .f32 x) m rfl
      generalize (if k < k then (Ent.fl n (marks k0 n)).cell k else (Ent.fl n zs).cell k) = old at hck
      go_wp2
      all_goals
        exact ⟨⟨k + 1, _, by omega, by first | rfl | go_num | (congr 1), by first | rfl | go_num | (congr 1), rfl, HN⟩, by show n - ((k : Int) + 1).toNat < n - (k : Int).toNat; omega⟩
    · obtain rfl : k = n := by omega
      have HR := Lib.hid (HS.out.mark (old := .fl k zs) (new := .fl k (marks k0 k)) HI.out rfl rfl (marks_len _ _) (fun _ _ h => h) HM.out)
      go_wp2
      go_ret
      exact ⟨ret_i rfl, HR.out⟩
theorem markM (p n cap : Nat) (zs : List Nat) (k0 : Int) (w w0 : World) (L : List (Nat × Ent)) (i : Nat) (h : Mine w0 w L) (hi : L[i]? = some (p, .fl n zs)) (hn : n ≤ 1048576) (hk0 : 0 ≤ k0 ∧ k0 ≤ 4194304) :
    Calls Tryd.prog 33 #[.slice (some ⟨p, 0, none⟩) n cap, .int .i64 k0] w fun e w' => e = .returned (.int .i64 (k0 + (n : Int))) ∧ Mine w0 w' (L.set i (p, .fl n (marks k0 n))) :=
  markM0 p n cap _ zs k0 w w0 L i h hi (h.2.1 _ (List.mem_of_getElem? hi)).2.2 hn hk0
theorem markMC (p n cap : Nat) (V : Nat → Option Nat) (k0 : Int) (w w0 : World) (L : List (Nat × Ent)) (i : Nat) (h : Mine w0 w L) (hi : L[i]? = some (p, .cl n V)) (hn : n ≤ 1048576) (hk0 : 0 ≤ k0 ∧ k0 ≤ 4194304) :
    Calls Tryd.prog 33 #[.slice (some ⟨p, 0, none⟩) n cap, .int .i64 k0] w fun e w' => e = .returned (.int .i64 (k0 + (n : Int))) ∧ Mine w0 w' (L.set i (p, .fl n (marks k0 n))) := by
  obtain ⟨_, _, zs, _, ho⟩ := h.2.1 _ (List.mem_of_getElem? hi)
  exact markM0 p n cap _ zs k0 w w0 L i h hi ho hn hk0
theorem markNil (k0 : Int) (w : World) : Calls Tryd.prog 33 #[.slice none 0 0, .int .i64 k0] w fun e w' => e = .returned (.int .i64 k0) ∧ w = w' := by
  go_enter Tryd.func33, Tryd.ntmps33
  go_wp2
  refine wp_loop_rounds 1 ?_
  rw [rounds_succ]
  go_wp2
  go_ret
  exact ⟨rfl, rfl⟩
set_option maxHeartbeats 2000000 in
theorem markMI (p n cap : Nat) (zs : List Int) (k0 : Int) (w w0 : World) (L : List (Nat × Ent)) (i : Nat) (h : Mine w0 w L) (hi : L[i]? = some (p, .il n zs)) (hn : n ≤ 1048576) (hk0 : 0 ≤ k0 ∧ k0 ≤ 4194304) :
    Calls Tryd.prog 25 #[.slice (some ⟨p, 0, none⟩) n cap, .int .i64 k0] w fun e w' => e = .returned (.int .i64 (k0 + (n : Int))) ∧ Mine w0 w' (L.set i (p, .il n (marksI k0 n))) := by
  have HS := Lib.hid h
  have HI := Lib.hid hi
  have HP := Lib.hid (PM.start (.il n (marksI k0 n)) (h.2.1 _ (List.mem_of_getElem? hi)).2.2)
  obtain ⟨hk1, hk2⟩ := hk0
  clear h hi
  go_enter Tryd.func25, Tryd.ntmps25
  go_wp2
  go_loopw [1, 5] (fun kv iv w' => ∃ (k : Nat) (wr : World), k ≤ n ∧ kv = .int .i64 (k0 + (k : Int)) ∧ iv = .int .i64 k ∧ wr = w' ∧ Hid (PM w p (.il n zs) (.il n (marksI k0 n)) k wr)) (fun _ iv _ => n - (intOf iv).toNat)
  case atStart => exact ⟨0, _, by omega, by simp, rfl, rfl, HP⟩
  case round =>
    obtain ⟨k, wr, hk, rfl, rfl, rfl, HM⟩ := hrel
    by_cases hlt : k < n
    · have hck := (HM.out.2.2.1 k hlt).1
      have hfz := (HM.out.2.2.1 k hlt).2
      have HN := Lib.hid (HM.out.step hlt (.int .i64 (k0 + (k : Int))) (by show _ = Value.int .i64 ((marksI k0 n).getD k 0); rw [marksI_get _ hlt]))
      generalize (if k < k then (Ent.il n (marksI k0 n)).cell k else (Ent.il n zs).cell k) = old at hck
      go_wp2
      all_goals
        exact ⟨⟨k + 1, _, by omega, by first | rfl | go_num | (congr 1), by first | rfl | go_num | (congr 1), rfl, HN⟩, by show n - ((k : Int) + 1).toNat < n - (k : Int).toNat; omega⟩
    · obtain rfl : k = n := by omega
      have HR := Lib.hid (HS.out.mark (old := .il k zs) (new := .il k (marksI k0 k)) HI.out rfl rfl (marksI_len _ _) (fun _ _ h => h) HM.out)
      go_wp2
      go_ret
      exact ⟨ret_i rfl, HR.out⟩
theorem markNilI (k0 : Int) (w : World) : Calls Tryd.prog 25 #[.slice none 0 0, .int .i64 k0] w fun e w' => e = .returned (.int .i64 k0) ∧ w = w' := by
  go_enter Tryd.func25, Tryd.ntmps25
  go_wp2
  refine wp_loop_rounds 1 ?_
  rw [rounds_succ]
  go_wp2
  go_ret
  exact ⟨rfl, rfl⟩
set_option maxHeartbeats 2000000 in
theorem heldM (p n cap : Nat) (k0 : Int) (w w0 : World) (L : List (Nat × Ent)) (h : Mine w0 w L) (hm : (p, .fl n (marks k0 n)) ∈ L) (hn : n ≤ 1048576) (hk0 : 0 ≤ k0 ∧ k0 ≤ 4194304) :
    Calls Tryd.prog 34 #[.slice (some ⟨p, 0, none⟩) n cap, .int .i64 k0] w fun e w' => e = .returned (.int .i64 (k0 + (n : Int))) ∧ Mine w0 w' L := by
  have HR := Lib.hid (h.frow hm)
  have HS := Lib.hid h
  obtain ⟨hk1, hk2⟩ := hk0
  clear h hm
  go_enter Tryd.func34, Tryd.ntmps34
  go_wp2
  go_loopw [1, 5] (fun kv iv w' => ∃ k q : Nat, k ≤ n ∧ kv = .int .i64 (k0 + (k : Int)) ∧ iv = .int .i64 k ∧ w' = w.drewN q) (fun _ iv _ => n - (intOf iv).toNat)
  case atStart => exact ⟨0, 0, by omega, by simp, rfl, rfl⟩
  case round =>
    obtain ⟨k, q, hk, rfl, rfl, rfl⟩ := hrel
    by_cases hlt : k < n
    · have hck : w.cell? ⟨p, k, none⟩ = some (.float .f32 (floatOfInt .f32 (k0 + (k : Int)))) := by
        rcases HR.out.2 with h0 | ⟨b, off, e, _, hc⟩
        · omega
        · injection e with e
          injection e with e1 e2
          subst e1; subst e2
          have := hc k hlt
          rw [Nat.zero_add, marks_get _ hlt] at this
          exact this
      have ho : (FloatKind.f32).format.order (floatOfInt .f32 (k0 + (k : Int))) (floatOfInt .f32 (k0 + (k : Int))) = some .eq := order_self (write_notNaN _ (.number _ _ 0) rfl)
      go_wp2
      all_goals
        exact ⟨⟨k + 1, _, by omega, by first | rfl | go_num | (congr 1), by first | rfl | go_num | (congr 1), rfl⟩, by show n - ((k : Int) + 1).toNat < n - (k : Int).toNat; omega⟩
    · obtain rfl : k = n := by omega
      go_wp2
      go_ret
      exact ⟨ret_i rfl, HS.out.drewN _⟩
theorem heldNil (k0 : Int) (w : World) : Calls Tryd.prog 34 #[.slice none 0 0, .int .i64 k0] w fun e w' => e = .returned (.int .i64 k0) ∧ w = w' := by
  go_enter Tryd.func34, Tryd.ntmps34
  go_wp2
  refine wp_loop_rounds 1 ?_
  rw [rounds_succ]
  go_wp2
  go_ret
  exact ⟨rfl, rfl⟩
set_option maxHeartbeats 2000000 in
theorem heldMI (p n cap : Nat) (k0 : Int) (w w0 : World) (L : List (Nat × Ent)) (h : Mine w0 w L) (hm : (p, .il n (marksI k0 n)) ∈ L) (hn : n ≤ 1048576) (hk0 : 0 ≤ k0 ∧ k0 ≤ 4194304) :
    Calls Tryd.prog 26 #[.slice (some ⟨p, 0, none⟩) n cap, .int .i64 k0] w fun e w' => e = .returned (.int .i64 (k0 + (n : Int))) ∧ Mine w0 w' L := by
  have HR := Lib.hid (h.irow hm)
  have HS := Lib.hid h
  obtain ⟨hk1, hk2⟩ := hk0
  clear h hm
  go_enter Tryd.func26, Tryd.ntmps26
  go_wp2
  go_loopw [1, 5] (fun kv iv w' => ∃ k q : Nat, k ≤ n ∧ kv = .int .i64 (k0 + (k : Int)) ∧ iv = .int .i64 k ∧ w' = w.drewN q) (fun _ iv _ => n - (intOf iv).toNat)
  case atStart => exact ⟨0, 0, by omega, by simp, rfl, rfl⟩
  case round =>
    obtain ⟨k, q, hk, rfl, rfl, rfl⟩ := hrel
    by_cases hlt : k < n
    · have hck : w.cell? ⟨p, k, none⟩ = some (.int .i64 (k0 + (k : Int))) := by
        rcases HR.out.2 with h0 | ⟨b, off, e, _, hc⟩
        · omega
        · injection e with e
          injection e with e1 e2
          subst e1; subst e2
          have := hc k hlt
          rw [Nat.zero_add, marksI_get _ hlt] at this
          exact this
      go_wp2
      all_goals
        exact ⟨⟨k + 1, _, by omega, by first | rfl | go_num | (congr 1), by first | rfl | go_num | (congr 1), rfl⟩, by show n - ((k : Int) + 1).toNat < n - (k : Int).toNat; omega⟩
    · obtain rfl : k = n := by omega
      go_wp2
      go_ret
      exact ⟨ret_i rfl, HS.out.drewN _⟩
theorem heldNilI (k0 : Int) (w : World) : Calls Tryd.prog 26 #[.slice none 0 0, .int .i64 k0] w fun e w' => e = .returned (.int .i64 k0) ∧ w = w' := by
  go_enter Tryd.func26, Tryd.ntmps26
  go_wp2
  refine wp_loop_rounds 1 ?_
  rw [rounds_succ]
  go_wp2
  go_ret
  exact ⟨rfl, rfl⟩
end Go.Proofs.YthkabonnclfhmaaDoor
