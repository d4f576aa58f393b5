
/- Desk: the laws' helpers. -/
import Derived.Test.YtdmdgkjmecgpeaaDkv
import Derived.Test.YtdmdgkjmecgpeaaCoy
import Derived.Test.YtdmdgkjmecgpeaaCdm
import Derived.Test.YtdmdgkjmecgpeaaMst
namespace Go.Proofs.Ytdmdgkjmecgpeaa
open Go.Proofs.Ytdmdgkjmecgpeaa.Flo Go.RowKit

theorem Mine.alloc5 {w0 w : World} {L : List (Nat × Ent)} (h : Mine w0 w L) (x0 x1 x2 x3 x4 : Value) (T : TypeId) : Mine w0 (w.alloc (.cells #[x0, x1, x2, x3, x4] T)) ((w.heap.size, .vs [x0, x1, x2, x3, x4]) :: L) :=
  h.push (belowA _ _) (Nat.le_refl _) (by simp) ⟨trivial, fun i hi => by
    have hi : i < 5 := hi
    refine ⟨?_, World.frozen?_alloc_at _ _ _ _ rfl⟩
    rw [World.cell?_alloc_at _ _ _ _ rfl]
    match i, hi with
    | 0, _ => rfl
    | 1, _ => rfl
    | 2, _ => rfl
    | 3, _ => rfl
    | 4, _ => rfl⟩
def Facts5 (w : World) : List (Nat × Ent) → Prop
  | [] => True
  | (p, .vs [x0, x1, x2, x3, x4]) :: L => (w.cell? ⟨p, 0, none⟩ = some x0 ∧ w.cell? ⟨p, 1, none⟩ = some x1 ∧ w.cell? ⟨p, 2, none⟩ = some x2 ∧ w.cell? ⟨p, 3, none⟩ = some x3 ∧ w.cell? ⟨p, 4, none⟩ = some x4 ∧ w.frozen? ⟨p, 0, none⟩ = false ∧ w.frozen? ⟨p, 1, none⟩ = false ∧ w.frozen? ⟨p, 2, none⟩ = false ∧ w.frozen? ⟨p, 3, none⟩ = false ∧ w.frozen? ⟨p, 4, none⟩ = false) ∧ Facts5 w L
  | (_, .vs _) :: L => Facts5 w L
  | (_, .fl _ _) :: L => Facts5 w L
  | (_, .il _ _) :: L => Facts5 w L
  | (_, .cl _ _) :: L => Facts5 w L
  | (_, .gv _ _) :: L => Facts5 w L
theorem facts5_of {w : World} : ∀ {L : List (Nat × Ent)}, (∀ r ∈ L, r.1 < w.heap.size ∧ r.2.ok w r.1) → Facts5 w L
  | [], _ => trivial
  | (p, e) :: L, h => by
    have ih := facts5_of (fun r hr => h r (.tail _ hr))
    have h0 := h (p, e) (.head _)
    cases e with
    | fl n zs => exact ih
    | il n zs => exact ih
    | cl n V => exact ih
    | gv n f => exact ih
    | vs l =>
      match l with
      | [x0, x1, x2, x3, x4] =>
        obtain ⟨hp, _, h4⟩ := h0
        exact ⟨⟨(h4 0 (by decide : (0 : Nat) < 5)).1, (h4 1 (by decide : (1 : Nat) < 5)).1, (h4 2 (by decide : (2 : Nat) < 5)).1, (h4 3 (by decide : (3 : Nat) < 5)).1, (h4 4 (by decide : (4 : Nat) < 5)).1, (h4 0 (by decide : (0 : Nat) < 5)).2, (h4 1 (by decide : (1 : Nat) < 5)).2, (h4 2 (by decide : (2 : Nat) < 5)).2, (h4 3 (by decide : (3 : Nat) < 5)).2, (h4 4 (by decide : (4 : Nat) < 5)).2⟩, ih⟩
      | [] => exact ih
      | [_] => exact ih
      | [_, _] => exact ih
      | [_, _, _] => exact ih
      | [_, _, _, _] => exact ih
      | _ :: _ :: _ :: _ :: _ :: _ :: _ => exact ih
theorem Mine.facts5 {w0 w : World} {L : List (Nat × Ent)} (h : Mine w0 w L) : Facts5 w L := facts5_of fun r hr => (h.2.1 r hr).2
theorem Mine.box5 {w0 w : World} {L : List (Nat × Ent)} {p : Nat} {x0 x1 x2 x3 x4 : Value} (h : Mine w0 w L) (i : Nat) (hi : L[i]? = some (p, .vs [x0, x1, x2, x3, x4])) :
    (w.cell? ⟨p, 0, none⟩ = some x0 ∧ w.cell? ⟨p, 1, none⟩ = some x1 ∧ w.cell? ⟨p, 2, none⟩ = some x2 ∧ w.cell? ⟨p, 3, none⟩ = some x3 ∧ w.cell? ⟨p, 4, none⟩ = some x4) ∧ (w.frozen? ⟨p, 0, none⟩ = false ∧ w.frozen? ⟨p, 1, none⟩ = false ∧ w.frozen? ⟨p, 2, none⟩ = false ∧ w.frozen? ⟨p, 3, none⟩ = false ∧ w.frozen? ⟨p, 4, none⟩ = false) := by
  obtain ⟨_, hp, _, h4⟩ := h.2.1 _ (List.mem_of_getElem? hi)
  exact ⟨⟨(h4 0 (by decide : (0 : Nat) < 5)).1, (h4 1 (by decide : (1 : Nat) < 5)).1, (h4 2 (by decide : (2 : Nat) < 5)).1, (h4 3 (by decide : (3 : Nat) < 5)).1, (h4 4 (by decide : (4 : Nat) < 5)).1⟩, (h4 0 (by decide : (0 : Nat) < 5)).2, (h4 1 (by decide : (1 : Nat) < 5)).2, (h4 2 (by decide : (2 : Nat) < 5)).2, (h4 3 (by decide : (3 : Nat) < 5)).2, (h4 4 (by decide : (4 : Nat) < 5)).2⟩
/-- A cell of a struct is set. -/
theorem Mine.sv {w0 w : World} {L : List (Nat × Ent)} {p : Nat} {l : List Value} (h : Mine w0 w L) (i k : Nat) (hi : L[i]? = some (p, .vs l)) (hk : k < l.length) (v : Value) :
    Mine w0 (w.setCell ⟨p, k, none⟩ v) (L.set i (p, .vs (l.set k v))) := by
  have h0 := (h.2.1 _ (List.mem_of_getElem? hi)).2.2
  refine h.mark (n := l.length) (old := .vs l) (new := .vs (l.set k v)) hi rfl (by simp [Ent.n]) trivial (fun _ _ h => h) ⟨World.size_setCell _ _ _, fun a ha => ⟨?_, ?_⟩, fun j hj => ⟨?_, ?_⟩, fun B hB => (Below.refl _ _).setCell hB _⟩
  · rw [World.cell?_setCell_other (h := fun e => ha (by rw [← e]))]
  · rw [World.frozen?_setCell]
  · have hj' : j < l.length := hj
    rw [if_pos hj']
    by_cases e : j = k
    · subst e
      rw [World.cell?_setCell_same (h := (h0.2 j hj).1)]
      simp [Ent.cell, hj']
    · rw [World.cell?_setCell_other (h := fun e2 => e (by injection e2 with _ e3 _; exact e3.symm)), (h0.2 j hj).1]
      simp [Ent.cell, Ne.symm e]
  · rw [World.frozen?_setCell]; exact (h0.2 j hj).2
theorem Mine.sub {w0 w : World} {L L' : List (Nat × Ent)} (h : Mine w0 w L) (hs : List.Sublist L' L) : Mine w0 w L' := h.part L' (fun _ hr => hs.subset hr) (fun hn => (hs.map _).nodup hn)
set_option maxRecDepth 100000 in
set_option maxHeartbeats 4000000 in
theorem toDM (a1 : Option Addr) (n1 c1 : Nat) (z1 : List Nat) (a2 : Option Addr) (n2 c2 : Nat) (z2 : List Int) (r : Int) (a3 : Option Addr) (n3 c3 : Nat) (z3 : List Int) (s : ByteArray) (w w0 : World) (L : List (Nat × Ent)) (h : Mine w0 w L) (hd : DkIn w0 a1 n1 z1 a2 n2 z2 a3 n3 z3 s) :
    Calls Try.prog 15 #[.agg #[.slice a1 n1 c1, .slice a2 n2 c2, .int .i64 r, .slice a3 n3 c3, .string s]] w fun e w' => ∃ p1 p2 p3, e = .returned (.agg #[.slice (some ⟨p1, 0, none⟩) n1 n1, .slice (some ⟨p2, 0, none⟩) n2 n2, .int .i64 r, .slice (some ⟨p3, 0, none⟩) n3 n3, .string s]) ∧ Mine w0 w' ((p3, .il n3 z3) :: (p2, .il n2 z2) :: (p1, .fl n1 z1) :: L) := by
  have h3 := ((h.alloc5 (.slice a1 n1 c1) (.slice a2 n2 c2) (.int .i64 r) (.slice a3 n3 c3) (.string s) 29).alloc5 (.slice none 0 0) (.slice none 0 0) (.int .i64 0) (.slice none 0 0) (.string ⟨#[]⟩) 35).alloc5 (.slice none 0 0) (.slice none 0 0) (.int .i64 0) (.slice none 0 0) (.string ⟨#[]⟩) 35
  have e1 : (w.alloc (.cells #[.slice a1 n1 c1, .slice a2 n2 c2, .int .i64 r, .slice a3 n3 c3, .string s] 29)).heap.size = w.heap.size + 1 := by simp
  have e2 : ((w.alloc (.cells #[.slice a1 n1 c1, .slice a2 n2 c2, .int .i64 r, .slice a3 n3 c3, .string s] 29)).alloc (.cells #[.slice none 0 0, .slice none 0 0, .int .i64 0, .slice none 0 0, .string ⟨#[]⟩] 35)).heap.size = w.heap.size + 1 + 1 := by simp
  rw [e2, e1] at h3
  have HS := Lib.hid h3
  have HD := Lib.hid hd
  clear h hd h3 e1 e2
  go_enter Try.func15, Try.ntmps15
  go_wp2_with (first | (go_at_call 33; with_reducible refine (toM a1 n1 c1 z1 _ w0 _ HS.out HD.out.f1 HD.out.l1).mono ?_; rintro e w2 ⟨p1, rfl, hs⟩; obtain ⟨⟨ha0, ha1, ha2, ha3, ha4⟩, fa0, fa1, fa2, fa3, fa4⟩ := hs.box5 1 rfl; obtain ⟨⟨hb0, hb1, hb2, hb3, hb4⟩, fb0, fb1, fb2, fb3, fb4⟩ := hs.box5 3 rfl; have HS := Lib.hid (hs.sv 1 0 rfl (by simp) (.slice (some ⟨p1, 0, none⟩) n1 n1)); clear hs) | (go_at_call 69; with_reducible refine (toCM a2 n2 c2 z2 _ w0 _ HS.out HD.out.i2 HD.out.l2).mono ?_; rintro e w3 ⟨p2, rfl, hs⟩; obtain ⟨⟨ha0, ha1, ha2, ha3, ha4⟩, fa0, fa1, fa2, fa3, fa4⟩ := hs.box5 2 rfl; obtain ⟨⟨hb0, hb1, hb2, hb3, hb4⟩, fb0, fb1, fb2, fb3, fb4⟩ := hs.box5 4 rfl; have HS := Lib.hid (hs.sv 2 1 rfl (by simp) (.slice (some ⟨p2, 0, none⟩) n2 n2)); clear hs) | (go_at_call 60; with_reducible refine (toYM r a3 n3 c3 z3 _ w0 _ HS.out HD.out.i3 HD.out.l3).mono ?_; rintro e w4 ⟨p3, rfl, hs⟩; obtain ⟨⟨ha0, ha1, ha2, ha3, ha4⟩, fa0, fa1, fa2, fa3, fa4⟩ := hs.box5 3 rfl; obtain ⟨⟨hb0, hb1, hb2, hb3, hb4⟩, fb0, fb1, fb2, fb3, fb4⟩ := hs.box5 5 rfl; obtain ⟨⟨hc0, hc1, hc2, hc3, hc4⟩, fc0, fc1, fc2, fc3, fc4⟩ := hs.box5 4 rfl; have HS := Lib.hid hs; clear hs) | fail)
  have hfin := (((((((HS.out.sv 3 2 rfl (by simp) (.int .i64 r)).sv 3 3 rfl (by simp) (.slice (some ⟨p3, 0, none⟩) n3 n3)).sv 3 4 rfl (by simp) (.string s)).sv 4 0 rfl (by simp) (.slice (some ⟨p1, 0, none⟩) n1 n1)).sv 4 1 rfl (by simp) (.slice (some ⟨p2, 0, none⟩) n2 n2)).sv 4 2 rfl (by simp) (.int .i64 r)).sv 4 3 rfl (by simp) (.slice (some ⟨p3, 0, none⟩) n3 n3)).sv 4 4 rfl (by simp) (.string s)
  obtain ⟨⟨g0, g1, g2, g3, g4⟩, _⟩ := hfin.box5 4 rfl
  have HFIN := Lib.hid hfin
  clear hfin
  exact bodyPost_ret (v := .agg #[.slice (some ⟨p1, 0, none⟩) n1 n1, .slice (some ⟨p2, 0, none⟩) n2 n2, .int .i64 r, .slice (some ⟨p3, 0, none⟩) n3 n3, .string s]) (by simp [results, Try.results15, go_sem, g0, g1, g2, g3, g4]) rfl
    ⟨p1, p2, p3, rfl, HFIN.out.sub (.cons_cons _ (.cons_cons _ (.cons_cons _ (.cons _ (.cons _ (.cons _ (List.Sublist.refl _)))))))⟩
set_option maxRecDepth 100000 in
set_option maxHeartbeats 4000000 in
theorem eqDM (p1 p2 p3 q1 q2 q3 n1 n2 n3 k1 k2 k3 l1 l2 l3 : Nat) (z1 : List Nat) (z2 z3 : List Int) (r : Int) (s : ByteArray) (w w0 : World) (L : List (Nat × Ent)) (h : Mine w0 w L)
    (m1 : (p1, .fl n1 z1) ∈ L) (m2 : (p2, .il n2 z2) ∈ L) (m3 : (p3, .il n3 z3) ∈ L) (o1 : (q1, .fl n1 z1) ∈ L) (o2 : (q2, .il n2 z2) ∈ L) (o3 : (q3, .il n3 z3) ∈ L) (hn1 : n1 ≤ 1048576) (hn2 : n2 ≤ 1048576) (hn3 : n3 ≤ 1048576) :
    Calls Try.prog 17 #[.agg #[.slice (some ⟨p1, 0, none⟩) n1 k1, .slice (some ⟨p2, 0, none⟩) n2 k2, .int .i64 r, .slice (some ⟨p3, 0, none⟩) n3 k3, .string s], .agg #[.slice (some ⟨q1, 0, none⟩) n1 l1, .slice (some ⟨q2, 0, none⟩) n2 l2, .int .i64 r, .slice (some ⟨q3, 0, none⟩) n3 l3, .string s]] w fun e w' => e = .returned (.bool true) ∧ Mine w0 w' L := by
  have h3 := (h.alloc5 (.slice (some ⟨p1, 0, none⟩) n1 k1) (.slice (some ⟨p2, 0, none⟩) n2 k2) (.int .i64 r) (.slice (some ⟨p3, 0, none⟩) n3 k3) (.string s) 35).alloc5 (.slice (some ⟨q1, 0, none⟩) n1 l1) (.slice (some ⟨q2, 0, none⟩) n2 l2) (.int .i64 r) (.slice (some ⟨q3, 0, none⟩) n3 l3) (.string s) 35
  have e1 : (w.alloc (.cells #[.slice (some ⟨p1, 0, none⟩) n1 k1, .slice (some ⟨p2, 0, none⟩) n2 k2, .int .i64 r, .slice (some ⟨p3, 0, none⟩) n3 k3, .string s] 35)).heap.size = w.heap.size + 1 := by simp
  rw [e1] at h3
  have HS := Lib.hid h3
  have hs := h3
  have M1 := Lib.hid m1
  have M2 := Lib.hid m2
  have M3 := Lib.hid m3
  have O1 := Lib.hid o1
  have O2 := Lib.hid o2
  have O3 := Lib.hid o3
  obtain ⟨⟨ha0, ha1, ha2, ha3, ha4⟩, fa0, fa1, fa2, fa3, fa4⟩ := hs.box5 0 rfl
  obtain ⟨⟨hb0, hb1, hb2, hb3, hb4⟩, fb0, fb1, fb2, fb3, fb4⟩ := hs.box5 1 rfl
  clear h h3 e1 m1 m2 m3 o1 o2 o3 hs
  go_enter Try.func17, Try.ntmps17
  go_wp2_with (first | (go_at_call 37; with_reducible refine (eqM p1 q1 n1 k1 l1 z1 _ w0 _ HS.out (List.mem_cons_of_mem _ (List.mem_cons_of_mem _ M1.out)) (List.mem_cons_of_mem _ (List.mem_cons_of_mem _ O1.out)) hn1).mono ?_; rintro e w2 ⟨rfl, hs⟩; obtain ⟨⟨ha0, ha1, ha2, ha3, ha4⟩, fa0, fa1, fa2, fa3, fa4⟩ := hs.box5 0 rfl; obtain ⟨⟨hb0, hb1, hb2, hb3, hb4⟩, fb0, fb1, fb2, fb3, fb4⟩ := hs.box5 1 rfl; have HS := Lib.hid hs; clear hs) | (go_at_call 74; with_reducible refine (eqCM p2 q2 n2 k2 l2 z2 _ w0 _ HS.out (List.mem_cons_of_mem _ (List.mem_cons_of_mem _ M2.out)) (List.mem_cons_of_mem _ (List.mem_cons_of_mem _ O2.out)) hn2).mono ?_; rintro e w2 ⟨rfl, hs⟩; obtain ⟨⟨ha0, ha1, ha2, ha3, ha4⟩, fa0, fa1, fa2, fa3, fa4⟩ := hs.box5 0 rfl; obtain ⟨⟨hb0, hb1, hb2, hb3, hb4⟩, fb0, fb1, fb2, fb3, fb4⟩ := hs.box5 1 rfl; have HS := Lib.hid hs; clear hs) | (go_at_call 62; with_reducible refine (eqYM r p3 q3 n3 k3 l3 z3 _ w0 _ HS.out (List.mem_cons_of_mem _ (List.mem_cons_of_mem _ M3.out)) (List.mem_cons_of_mem _ (List.mem_cons_of_mem _ O3.out)) hn3).mono ?_; rintro e w2 ⟨rfl, hs⟩; obtain ⟨⟨ha0, ha1, ha2, ha3, ha4⟩, fa0, fa1, fa2, fa3, fa4⟩ := hs.box5 0 rfl; obtain ⟨⟨hb0, hb1, hb2, hb3, hb4⟩, fb0, fb1, fb2, fb3, fb4⟩ := hs.box5 1 rfl; have HS := Lib.hid hs; clear hs) | fail)
  go_ret
  first | exact ⟨rfl, HS.out.sub (.cons _ (.cons _ (List.Sublist.refl _)))⟩ | exact ⟨rfl, (HS.out.drewN _).sub (.cons _ (.cons _ (List.Sublist.refl _)))⟩
set_option maxHeartbeats 1000000 in
theorem szFd (a : Option Addr) (n cap : Nat) (w : World) (L : Int) (h0 : 0 ≤ L) (hL : L ≤ 1048576) (hm : n ≤ 9223372036854775807) :
    Calls Try.prog 66 #[.slice a n cap, .int .i64 L] w fun e w' => e = .returned (.int .i64 (if (n : Int) ≤ L then L - n else -1)) ∧ Below w.heap.size w w' := by
  by_cases h : (n : Int) ≤ L
  · have hd : decide (L - (n : Int) < 0) = false := decide_eq_false (by omega)
    rw [if_pos h]
    go_enter Try.func66, Try.ntmps66
    go_wp2
    go_ret
    exact ⟨rfl, Below.refl _ _⟩
  · have hd : decide (L - (n : Int) < 0) = true := decide_eq_true (by omega)
    rw [if_neg h]
    go_enter Try.func66, Try.ntmps66
    go_wp2
    go_ret
    exact ⟨rfl, Below.refl _ _⟩
theorem szCd (a : Option Addr) (n cap : Nat) (w : World) (L : Int) (h0 : 0 ≤ L) (hL : L ≤ 1048576) (hm : n ≤ 9223372036854775807) :
    Calls Try.prog 67 #[.agg #[.slice a n cap], .int .i64 L] w fun e w' => e = .returned (.int .i64 (if (n : Int) ≤ L then L - n else -1)) ∧ Below w.heap.size w w' := by
  by_cases h : (n : Int) ≤ L
  · rw [if_pos h]; exact szCL a n cap w L h hL
  · rw [if_neg h]; exact szCL' a n cap w L (by omega) h0 hL hm
theorem szYd (r : Int) (a : Option Addr) (n cap : Nat) (w : World) (L : Int) (h0 : 0 ≤ L) (hL : L ≤ 1048576) (hm : n ≤ 9223372036854775807) :
    Calls Try.prog 58 #[.agg #[.int .i64 r, .slice a n cap], .int .i64 L] w fun e w' => e = .returned (.int .i64 (if (n : Int) ≤ L then L - n else -1)) ∧ Below w.heap.size w w' := by
  by_cases h : (n : Int) ≤ L
  · rw [if_pos h]; exact szYL r a n cap w L h hL
  · rw [if_neg h]; exact szYL' r a n cap w L (by omega) h0 hL hm
/-- What is left of a size behind a desk. -/
def dkV (n1 n2 n3 : Nat) (s : ByteArray) (L : Int) : Int := if (n1 : Int) + n2 + n3 + s.size ≤ L then L - n1 - n2 - n3 - s.size else -1
set_option maxRecDepth 100000 in
set_option maxHeartbeats 4000000 in
theorem szDk (a1 : Option Addr) (n1 c1 : Nat) (a2 : Option Addr) (n2 c2 : Nat) (r : Int) (a3 : Option Addr) (n3 c3 : Nat) (s : ByteArray) (w : World) (L : Int) (h0 : 0 ≤ L) (hL : L ≤ 1048576) (b1 : n1 ≤ 9223372036854775807) (b2 : n2 ≤ 9223372036854775807) (b3 : n3 ≤ 9223372036854775807) (b4 : s.size ≤ 9223372036854775807) :
    Calls Try.prog 13 #[.agg #[.slice a1 n1 c1, .slice a2 n2 c2, .int .i64 r, .slice a3 n3 c3, .string s], .int .i64 L] w fun e w' => e = .returned (.int .i64 (dkV n1 n2 n3 s L)) ∧ Below w.heap.size w w' := by
  have HD := Lib.hid (Din.new w (.slice a1 n1 c1) (.slice a2 n2 c2) (.int .i64 r) (.slice a3 n3 c3) (.string s) 29)
  have HW := Lib.hid (belowA w (.cells #[.slice a1 n1 c1, .slice a2 n2 c2, .int .i64 r, .slice a3 n3 c3, .string s] 29))
  have HZ1 := Lib.hid (fun W => szFd a1 n1 c1 W L h0 hL b1)
  by_cases h1 : (n1 : Int) ≤ L
  · rw [if_pos h1] at HZ1
    have d1 : decide (L - (n1 : Int) < 0) = false := decide_eq_false (by omega)
    have HZ2 := Lib.hid (fun W => szCd a2 n2 c2 W (L - n1) (by omega) (by omega) b2)
    by_cases h2 : (n2 : Int) ≤ L - n1
    · rw [if_pos h2] at HZ2
      have d2 : decide (L - (n1 : Int) - (n2 : Int) < 0) = false := decide_eq_false (by omega)
      have HZ3 := Lib.hid (fun W => szYd r a3 n3 c3 W (L - n1 - n2) (by omega) (by omega) b3)
      by_cases h3 : (n3 : Int) ≤ L - n1 - n2
      · rw [if_pos h3] at HZ3
        have d3 : decide (L - (n1 : Int) - (n2 : Int) - (n3 : Int) < 0) = false := decide_eq_false (by omega)
        by_cases h4 : (s.size : Int) ≤ L - n1 - n2 - n3
        · have d4 : decide (L - (n1 : Int) - (n2 : Int) - (n3 : Int) - (s.size : Int) < 0) = false := decide_eq_false (by omega)
          go_enter Try.func13, Try.ntmps13
          go_wp2_with (first | (go_at_call 66; refine (HZ1.out _).mono ?_; rintro e w2 ⟨rfl, hb⟩; have HW := Lib.hid (Below.next HW.out hb); have HD := Lib.hid (HD.out.below hb); obtain ⟨hl9, j0, j1, j2, j3, j4⟩ := HD.out; clear hb) | (go_at_call 67; refine (HZ2.out _).mono ?_; rintro e w2 ⟨rfl, hb⟩; have HW := Lib.hid (Below.next HW.out hb); have HD := Lib.hid (HD.out.below hb); obtain ⟨hl9, j0, j1, j2, j3, j4⟩ := HD.out; clear hb) | (go_at_call 58; refine (HZ3.out _).mono ?_; rintro e w2 ⟨rfl, hb⟩; have HW := Lib.hid (Below.next HW.out hb); have HD := Lib.hid (HD.out.below hb); obtain ⟨hl9, j0, j1, j2, j3, j4⟩ := HD.out; clear hb) | fail)
          go_ret
          exact ⟨by unfold dkV; rw [if_pos (by omega)]; rfl, HW.out⟩
        · have d4 : decide (L - (n1 : Int) - (n2 : Int) - (n3 : Int) - (s.size : Int) < 0) = true := decide_eq_true (by omega)
          go_enter Try.func13, Try.ntmps13
          go_wp2_with (first | (go_at_call 66; refine (HZ1.out _).mono ?_; rintro e w2 ⟨rfl, hb⟩; have HW := Lib.hid (Below.next HW.out hb); have HD := Lib.hid (HD.out.below hb); obtain ⟨hl9, j0, j1, j2, j3, j4⟩ := HD.out; clear hb) | (go_at_call 67; refine (HZ2.out _).mono ?_; rintro e w2 ⟨rfl, hb⟩; have HW := Lib.hid (Below.next HW.out hb); have HD := Lib.hid (HD.out.below hb); obtain ⟨hl9, j0, j1, j2, j3, j4⟩ := HD.out; clear hb) | (go_at_call 58; refine (HZ3.out _).mono ?_; rintro e w2 ⟨rfl, hb⟩; have HW := Lib.hid (Below.next HW.out hb); have HD := Lib.hid (HD.out.below hb); obtain ⟨hl9, j0, j1, j2, j3, j4⟩ := HD.out; clear hb) | fail)
          go_ret
          exact ⟨by unfold dkV; rw [if_neg (by omega)]; rfl, HW.out⟩
      · rw [if_neg h3] at HZ3
        go_enter Try.func13, Try.ntmps13
        go_wp2_with (first | (go_at_call 66; refine (HZ1.out _).mono ?_; rintro e w2 ⟨rfl, hb⟩; have HW := Lib.hid (Below.next HW.out hb); have HD := Lib.hid (HD.out.below hb); obtain ⟨hl9, j0, j1, j2, j3, j4⟩ := HD.out; clear hb) | (go_at_call 67; refine (HZ2.out _).mono ?_; rintro e w2 ⟨rfl, hb⟩; have HW := Lib.hid (Below.next HW.out hb); have HD := Lib.hid (HD.out.below hb); obtain ⟨hl9, j0, j1, j2, j3, j4⟩ := HD.out; clear hb) | (go_at_call 58; refine (HZ3.out _).mono ?_; rintro e w2 ⟨rfl, hb⟩; have HW := Lib.hid (Below.next HW.out hb); have HD := Lib.hid (HD.out.below hb); obtain ⟨hl9, j0, j1, j2, j3, j4⟩ := HD.out; clear hb) | fail)
        go_ret
        exact ⟨by unfold dkV; rw [if_neg (by omega)]; rfl, HW.out⟩
    · rw [if_neg h2] at HZ2
      go_enter Try.func13, Try.ntmps13
      go_wp2_with (first | (go_at_call 66; refine (HZ1.out _).mono ?_; rintro e w2 ⟨rfl, hb⟩; have HW := Lib.hid (Below.next HW.out hb); have HD := Lib.hid (HD.out.below hb); obtain ⟨hl9, j0, j1, j2, j3, j4⟩ := HD.out; clear hb) | (go_at_call 67; refine (HZ2.out _).mono ?_; rintro e w2 ⟨rfl, hb⟩; have HW := Lib.hid (Below.next HW.out hb); have HD := Lib.hid (HD.out.below hb); obtain ⟨hl9, j0, j1, j2, j3, j4⟩ := HD.out; clear hb) | fail)
      go_ret
      exact ⟨by unfold dkV; rw [if_neg (by omega)]; rfl, HW.out⟩
  · rw [if_neg h1] at HZ1
    go_enter Try.func13, Try.ntmps13
    go_wp2_with (first | (go_at_call 66; refine (HZ1.out _).mono ?_; rintro e w2 ⟨rfl, hb⟩; have HW := Lib.hid (Below.next HW.out hb); have HD := Lib.hid (HD.out.below hb); obtain ⟨hl9, j0, j1, j2, j3, j4⟩ := HD.out; clear hb) | fail)
    go_ret
    exact ⟨by unfold dkV; rw [if_neg (by omega)]; rfl, HW.out⟩
end Go.Proofs.Ytdmdgkjmecgpeaa
