
/- Desk: the laws' helpers. -/
import Derived.Test.YtjlifbnenngijaaDoorDkv
import Derived.Test.YtjlifbnenngijaaDoorCoy
import Derived.Test.YtjlifbnenngijaaDoorCdm
import Derived.Test.YtjlifbnenngijaaDoorMst
namespace Go.Proofs.YtjlifbnenngijaaDoor
open Go.Proofs.YtjlifbnenngijaaDoor.Flo Go.RowKit

theorem Mine.alloc5 {w0 w : World} {L : List (Nat × Ent)} (h : Mine w0 w L) (x0 x1 x2 x3 x4 : Value) (T : TypeId) : Mine w0 (w.alloc (.cells #[x0, x1, x2, x3, x4] T)) ((w.heap.size, .vs [x0, x1, x2, x3, x4]) :: L) :=
  h.push (belowA _ _) (Nat.le_refl _) (by simp) ⟨trivial, fun i hi => by
    have hi : i < 5 := hi
    refine ⟨?_, World.frozen?_alloc_at _ _ _ _ rfl⟩
    rw [World.cell?_alloc_at _ _ _ _ rfl]
    match i, hi with
    | 0, _ => rfl
    | 1, _ => rfl
    | 2, _ => rfl
    | 3, _ => rfl
    | 4, _ => rfl⟩
def Facts5 (w : World) : List (Nat × Ent) → Prop
  | [] => True
  | (p, .vs [x0, x1, x2, x3, x4]) :: L => (w.cell? ⟨p, 0, none⟩ = some x0 ∧ w.cell? ⟨p, 1, none⟩ = some x1 ∧ w.cell? ⟨p, 2, none⟩ = some x2 ∧ w.cell? ⟨p, 3, none⟩ = some x3 ∧ w.cell? ⟨p, 4, none⟩ = some x4 ∧ w.frozen? ⟨p, 0, none⟩ = false ∧ w.frozen? ⟨p, 1, none⟩ = false ∧ w.frozen? ⟨p, 2, none⟩ = false ∧ w.frozen? ⟨p, 3, none⟩ = false ∧ w.frozen? ⟨p, 4, none⟩ = false) ∧ Facts5 w L
  | (_, .vs _) :: L => Facts5 w L
  | (_, .fl _ _) :: L => Facts5 w L
  | (_, .il _ _) :: L => Facts5 w L
  | (_, .cl _ _) :: L => Facts5 w L
  | (_, .gv _ _) :: L => Facts5 w L
theorem facts5_of {w : World} : ∀ {L : List (Nat × Ent)}, (∀ r ∈ L, r.1 < w.heap.size ∧ r.2.ok w r.1) → Facts5 w L
  | [], _ => trivial
  | (p, e) :: L, h => by
    have ih := facts5_of (fun r hr => h r (.tail _ hr))
    have h0 := h (p, e) (.head _)
    cases e with
    | fl n zs => exact ih
    | il n zs => exact ih
    | cl n V => exact ih
    | gv n f => exact ih
    | vs l =>
      match l with
      | [x0, x1, x2, x3, x4] =>
        obtain ⟨hp, _, h4⟩ := h0
        exact ⟨⟨(h4 0 (by decide : (0 : Nat) < 5)).1, (h4 1 (by decide : (1 : Nat) < 5)).1, (h4 2 (by decide : (2 : Nat) < 5)).1, (h4 3 (by decide : (3 : Nat) < 5)).1, (h4 4 (by decide : (4 : Nat) < 5)).1, (h4 0 (by decide : (0 : Nat) < 5)).2, (h4 1 (by decide : (1 : Nat) < 5)).2, (h4 2 (by decide : (2 : Nat) < 5)).2, (h4 3 (by decide : (3 : Nat) < 5)).2, (h4 4 (by decide : (4 : Nat) < 5)).2⟩, ih⟩
      | [] => exact ih
      | [_] => exact ih
      | [_, _] => exact ih
      | [_, _, _] => exact ih
      | [_, _, _, _] => exact ih
      | _ :: _ :: _ :: _ :: _ :: _ :: _ => exact ih
theorem Mine.facts5 {w0 w : World} {L : List (Nat × Ent)} (h : Mine w0 w L) : Facts5 w L := facts5_of fun r hr => (h.2.1 r hr).2
theorem Mine.box5 {w0 w : World} {L : List (Nat × Ent)} {p : Nat} {x0 x1 x2 x3 x4 : Value} (h : Mine w0 w L) (i : Nat) (hi : L[i]? = some (p, .vs [x0, x1, x2, x3, x4])) :
    (w.cell? ⟨p, 0, none⟩ = some x0 ∧ w.cell? ⟨p, 1, none⟩ = some x1 ∧ w.cell? ⟨p, 2, none⟩ = some x2 ∧ w.cell? ⟨p, 3, none⟩ = some x3 ∧ w.cell? ⟨p, 4, none⟩ = some x4) ∧ (w.frozen? ⟨p, 0, none⟩ = false ∧ w.frozen? ⟨p, 1, none⟩ = false ∧ w.frozen? ⟨p, 2, none⟩ = false ∧ w.frozen? ⟨p, 3, none⟩ = false ∧ w.frozen? ⟨p, 4, none⟩ = false) := by
  obtain ⟨_, hp, _, h4⟩ := h.2.1 _ (List.mem_of_getElem? hi)
  exact ⟨⟨(h4 0 (by decide : (0 : Nat) < 5)).1, (h4 1 (by decide : (1 : Nat) < 5)).1, (h4 2 (by decide : (2 : Nat) < 5)).1, (h4 3 (by decide : (3 : Nat) < 5)).1, (h4 4 (by decide : (4 : Nat) < 5)).1⟩, (h4 0 (by decide : (0 : Nat) < 5)).2, (h4 1 (by decide : (1 : Nat) < 5)).2, (h4 2 (by decide : (2 : Nat) < 5)).2, (h4 3 (by decide : (3 : Nat) < 5)).2, (h4 4 (by decide : (4 : Nat) < 5)).2⟩
/-- A cell of a struct is set. -/
theorem Mine.sv {w0 w : World} {L : List (Nat × Ent)} {p : Nat} {l : List Value} (h : Mine w0 w L) (i k : Nat) (hi : L[i]? = some (p, .vs l)) (hk : k < l.length) (v : Value) :
    Mine w0 (w.setCell ⟨p, k, none⟩ v) (L.set i (p, .vs (l.set k v))) := by
  have h0 := (h.2.1 _ (List.mem_of_getElem? hi)).2.2
  refine h.mark (n := l.length) (old := .vs l) (new := .vs (l.set k v)) hi rfl (by simp [Ent.n]) trivial (fun _ _ h => h) ⟨World.size_setCell _ _ _, fun a ha => ⟨?_, ?_⟩, fun j hj => ⟨?_, ?_⟩, fun B hB => (Below.refl _ _).setCell hB _⟩
  · rw [World.cell?_setCell_other (h := fun e => ha (by rw [← e]))]
  · rw [World.frozen?_setCell]
  · have hj' : j < l.length := hj
    rw [if_pos hj']
    by_cases e : j = k
    · subst e
      rw [World.cell?_setCell_same (h := (h0.2 j hj).1)]
      simp [Ent.cell, hj']
    · rw [World.cell?_setCell_other (h := fun e2 => e (by injection e2 with _ e3 _; exact e3.symm)), (h0.2 j hj).1]
      simp [Ent.cell, Ne.symm e]
  · rw [World.frozen?_setCell]; exact (h0.2 j hj).2
theorem Mine.sub {w0 w : World} {L L' : List (Nat × Ent)} (h : Mine w0 w L) (hs : List.Sublist L' L) : Mine w0 w L' := h.part L' (fun _ hr => hs.subset hr) (fun hn => (hs.map _).nodup hn)
set_option maxRecDepth 100000 in
set_option maxHeartbeats 4000000 in
theorem eqDM (p1 p2 p3 q1 q2 q3 n1 n2 n3 k1 k2 k3 l1 l2 l3 : Nat) (z1 : List Nat) (z2 z3 : List Int) (r : Int) (s : ByteArray) (w w0 : World) (L : List (Nat × Ent)) (h : Mine w0 w L)
    (m1 : (p1, .fl n1 z1) ∈ L) (m2 : (p2, .il n2 z2) ∈ L) (m3 : (p3, .il n3 z3) ∈ L) (o1 : (q1, .fl n1 z1) ∈ L) (o2 : (q2, .il n2 z2) ∈ L) (o3 : (q3, .il n3 z3) ∈ L) (hn1 : n1 ≤ 1048576) (hn2 : n2 ≤ 1048576) (hn3 : n3 ≤ 1048576) :
    Calls Tryd.prog 38 #[.agg #[.slice (some ⟨p1, 0, none⟩) n1 k1, .slice (some ⟨p2, 0, none⟩) n2 k2, .int .i64 r, .slice (some ⟨p3, 0, none⟩) n3 k3, .string s], .agg #[.slice (some ⟨q1, 0, none⟩) n1 l1, .slice (some ⟨q2, 0, none⟩) n2 l2, .int .i64 r, .slice (some ⟨q3, 0, none⟩) n3 l3, .string s]] w fun e w' => e = .returned (.bool true) ∧ Mine w0 w' L := by
  have h3 := (h.alloc5 (.slice (some ⟨p1, 0, none⟩) n1 k1) (.slice (some ⟨p2, 0, none⟩) n2 k2) (.int .i64 r) (.slice (some ⟨p3, 0, none⟩) n3 k3) (.string s) 51).alloc5 (.slice (some ⟨q1, 0, none⟩) n1 l1) (.slice (some ⟨q2, 0, none⟩) n2 l2) (.int .i64 r) (.slice (some ⟨q3, 0, none⟩) n3 l3) (.string s) 51
  have e1 : (w.alloc (.cells #[.slice (some ⟨p1, 0, none⟩) n1 k1, .slice (some ⟨p2, 0, none⟩) n2 k2, .int .i64 r, .slice (some ⟨p3, 0, none⟩) n3 k3, .string s] 51)).heap.size = w.heap.size + 1 := by simp
  rw [e1] at h3
  have HS := Lib.hid h3
  have hs := h3
  have M1 := Lib.hid m1
  have M2 := Lib.hid m2
  have M3 := Lib.hid m3
  have O1 := Lib.hid o1
  have O2 := Lib.hid o2
  have O3 := Lib.hid o3
  obtain ⟨⟨ha0, ha1, ha2, ha3, ha4⟩, fa0, fa1, fa2, fa3, fa4⟩ := hs.box5 0 rfl
  obtain ⟨⟨hb0, hb1, hb2, hb3, hb4⟩, fb0, fb1, fb2, fb3, fb4⟩ := hs.box5 1 rfl
  clear h h3 e1 m1 m2 m3 o1 o2 o3 hs
  go_enter Tryd.func38, Tryd.ntmps38
  go_wp2_with (first | (go_at_call 66; with_reducible refine (eqM p1 q1 n1 k1 l1 z1 _ w0 _ HS.out (List.mem_cons_of_mem _ (List.mem_cons_of_mem _ M1.out)) (List.mem_cons_of_mem _ (List.mem_cons_of_mem _ O1.out)) hn1).mono ?_; rintro e w2 ⟨rfl, hs⟩; obtain ⟨⟨ha0, ha1, ha2, ha3, ha4⟩, fa0, fa1, fa2, fa3, fa4⟩ := hs.box5 0 rfl; obtain ⟨⟨hb0, hb1, hb2, hb3, hb4⟩, fb0, fb1, fb2, fb3, fb4⟩ := hs.box5 1 rfl; have HS := Lib.hid hs; clear hs) | (go_at_call 67; with_reducible refine (eqCM p2 q2 n2 k2 l2 z2 _ w0 _ HS.out (List.mem_cons_of_mem _ (List.mem_cons_of_mem _ M2.out)) (List.mem_cons_of_mem _ (List.mem_cons_of_mem _ O2.out)) hn2).mono ?_; rintro e w2 ⟨rfl, hs⟩; obtain ⟨⟨ha0, ha1, ha2, ha3, ha4⟩, fa0, fa1, fa2, fa3, fa4⟩ := hs.box5 0 rfl; obtain ⟨⟨hb0, hb1, hb2, hb3, hb4⟩, fb0, fb1, fb2, fb3, fb4⟩ := hs.box5 1 rfl; have HS := Lib.hid hs; clear hs) | (go_at_call 14; with_reducible refine (eqYM r p3 q3 n3 k3 l3 z3 _ w0 _ HS.out (List.mem_cons_of_mem _ (List.mem_cons_of_mem _ M3.out)) (List.mem_cons_of_mem _ (List.mem_cons_of_mem _ O3.out)) hn3).mono ?_; rintro e w2 ⟨rfl, hs⟩; obtain ⟨⟨ha0, ha1, ha2, ha3, ha4⟩, fa0, fa1, fa2, fa3, fa4⟩ := hs.box5 0 rfl; obtain ⟨⟨hb0, hb1, hb2, hb3, hb4⟩, fb0, fb1, fb2, fb3, fb4⟩ := hs.box5 1 rfl; have HS := Lib.hid hs; clear hs) | fail)
  go_ret
  first | exact ⟨rfl, HS.out.sub (.cons _ (.cons _ (List.Sublist.refl _)))⟩ | exact ⟨rfl, (HS.out.drewN _).sub (.cons _ (.cons _ (List.Sublist.refl _)))⟩
theorem szYd (r : Int) (a : Option Addr) (n cap : Nat) (w : World) (L : Int) (h0 : 0 ≤ L) (hL : L ≤ 1048576) (hm : n ≤ 9223372036854775807) :
    Calls Tryd.prog 17 #[.agg #[.int .i64 r, .slice a n cap], .int .i64 L] w fun e w' => e = .returned (.int .i64 (if (n : Int) ≤ L then L - n else -1)) ∧ Below w.heap.size w w' := by
  by_cases h : (n : Int) ≤ L
  · rw [if_pos h]; exact szYL r a n cap w L h hL
  · rw [if_neg h]; exact szYL' r a n cap w L (by omega) h0 hL hm
/-- What is left of a size behind a desk. -/
def dkV (n1 n2 n3 : Nat) (s : ByteArray) (L : Int) : Int := if (n1 : Int) + n2 + n3 + s.size ≤ L then L - n1 - n2 - n3 - s.size else -1
end Go.Proofs.YtjlifbnenngijaaDoor
