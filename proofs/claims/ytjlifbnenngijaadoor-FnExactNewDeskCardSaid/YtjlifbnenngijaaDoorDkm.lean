
/- Desk: marks of the laws. -/
import Derived.Test.YtjlifbnenngijaaDoorDkh
set_option linter.unusedVariables false
namespace Go.Proofs.YtjlifbnenngijaaDoor
open Go.Proofs.YtjlifbnenngijaaDoor.Flo Go.RowKit

set_option maxRecDepth 100000 in
set_option maxHeartbeats 4000000 in
theorem markDM (p1 p2 p3 n1 n2 n3 k1 k2 k3 : Nat) (z1 : List Nat) (z2 z3 : List Int) (r : Int) (s : ByteArray) (k0 : Int) (w w0 : World) (L : List (Nat × Ent)) (i1 i2 i3 : Nat) (h : Mine w0 w L)
    (m1 : L[i1]? = some (p1, .fl n1 z1)) (m2 : L[i2]? = some (p2, .il n2 z2)) (m3 : L[i3]? = some (p3, .il n3 z3)) (h12 : i1 ≠ i2) (h13 : i1 ≠ i3) (h23 : i2 ≠ i3) (hn1 : n1 ≤ 1048576) (hn2 : n2 ≤ 1048576) (hn3 : n3 ≤ 1048576) (hk0 : 0 ≤ k0 ∧ k0 ≤ 1000) :
    Calls Tryd.prog 39 #[.agg #[.slice (some ⟨p1, 0, none⟩) n1 k1, .slice (some ⟨p2, 0, none⟩) n2 k2, .int .i64 r, .slice (some ⟨p3, 0, none⟩) n3 k3, .string s], .int .i64 k0] w fun e w' => e = .returned (.int .i64 (k0 + (n1 : Int) + (n2 : Int) + (n3 : Int))) ∧ Mine w0 w' (((L.set i1 (p1, .fl n1 (marks k0 n1))).set i2 (p2, .il n2 (marksI (k0 + (n1 : Int)) n2))).set i3 (p3, .il n3 (marksI (k0 + (n1 : Int) + (n2 : Int)) n3))) := by
  have h3 := h.alloc5 (.slice (some ⟨p1, 0, none⟩) n1 k1) (.slice (some ⟨p2, 0, none⟩) n2 k2) (.int .i64 r) (.slice (some ⟨p3, 0, none⟩) n3 k3) (.string s) 51
  have HS := Lib.hid h3
  have hs := h3
  have M1 : Hid (((w.heap.size, Ent.vs [.slice (some ⟨p1, 0, none⟩) n1 k1, .slice (some ⟨p2, 0, none⟩) n2 k2, .int .i64 r, .slice (some ⟨p3, 0, none⟩) n3 k3, .string s]) :: L)[i1 + 1]? = some (p1, .fl n1 z1)) := Lib.hid (by simpa using m1)
  have M2 : Hid (((w.heap.size, Ent.vs [.slice (some ⟨p1, 0, none⟩) n1 k1, .slice (some ⟨p2, 0, none⟩) n2 k2, .int .i64 r, .slice (some ⟨p3, 0, none⟩) n3 k3, .string s]) :: (L.set i1 (p1, .fl n1 (marks k0 n1))))[i2 + 1]? = some (p2, .il n2 z2)) := Lib.hid (by rw [List.getElem?_cons_succ, List.getElem?_set_ne h12]; exact m2)
  have M3 : Hid (((w.heap.size, Ent.vs [.slice (some ⟨p1, 0, none⟩) n1 k1, .slice (some ⟨p2, 0, none⟩) n2 k2, .int .i64 r, .slice (some ⟨p3, 0, none⟩) n3 k3, .string s]) :: ((L.set i1 (p1, .fl n1 (marks k0 n1))).set i2 (p2, .il n2 (marksI (k0 + (n1 : Int)) n2))))[i3 + 1]? = some (p3, .il n3 z3)) := Lib.hid (by rw [List.getElem?_cons_succ, List.getElem?_set_ne h23, List.getElem?_set_ne h13]; exact m3)
  obtain ⟨⟨ha0, ha1, ha2, ha3, ha4⟩, fa0, fa1, fa2, fa3, fa4⟩ := hs.box5 0 rfl
  obtain ⟨hk1, hk2⟩ := hk0
  have HK2 : Hid (0 ≤ k0 + (n1 : Int) ∧ k0 + (n1 : Int) ≤ 4194304) := Lib.hid (by omega)
  have HK3 : Hid (0 ≤ k0 + (n1 : Int) + (n2 : Int) ∧ k0 + (n1 : Int) + (n2 : Int) ≤ 4194304) := Lib.hid (by omega)
  have HK1 : Hid (0 ≤ k0 ∧ k0 ≤ 4194304) := Lib.hid (by omega)
  clear h h3 m1 m2 m3 hs h12 h13 h23
  go_enter Tryd.func39, Tryd.ntmps39
  go_wp2_with (first
    | (go_at_call 68; with_reducible refine (markM p1 n1 k1 z1 k0 _ w0 _ (i1 + 1) HS.out M1.out hn1 HK1.out).mono ?_; rintro e w2 ⟨rfl, hs⟩; rw [List.set_cons_succ] at hs; obtain ⟨⟨ha0, ha1, ha2, ha3, ha4⟩, fa0, fa1, fa2, fa3, fa4⟩ := hs.box5 0 rfl; have HS := Lib.hid hs; clear hs)
    | (go_at_call 69; with_reducible refine (markCM p2 n2 k2 z2 (k0 + (n1 : Int)) _ w0 _ (i2 + 1) HS.out M2.out hn2 HK2.out).mono ?_; rintro e w3 ⟨rfl, hs⟩; rw [List.set_cons_succ] at hs; obtain ⟨⟨ha0, ha1, ha2, ha3, ha4⟩, fa0, fa1, fa2, fa3, fa4⟩ := hs.box5 0 rfl; have HS := Lib.hid hs; clear hs)
    | (go_at_call 15; with_reducible refine (markYM r p3 n3 k3 z3 (k0 + (n1 : Int) + (n2 : Int)) _ w0 _ (i3 + 1) HS.out M3.out hn3 HK3.out).mono ?_; rintro e w4 ⟨rfl, hs⟩; rw [List.set_cons_succ] at hs; have HS := Lib.hid hs; clear hs) | fail)
  go_ret
  exact ⟨rfl, HS.out.sub (.cons _ (List.Sublist.refl _))⟩
set_option maxRecDepth 100000 in
set_option maxHeartbeats 4000000 in
theorem heldDM (p1 p2 p3 n1 n2 n3 k1 k2 k3 : Nat) (r : Int) (s : ByteArray) (k0 : Int) (w w0 : World) (L : List (Nat × Ent)) (h : Mine w0 w L)
    (m1 : (p1, .fl n1 (marks k0 n1)) ∈ L) (m2 : (p2, .il n2 (marksI (k0 + (n1 : Int)) n2)) ∈ L) (m3 : (p3, .il n3 (marksI (k0 + (n1 : Int) + (n2 : Int)) n3)) ∈ L) (hn1 : n1 ≤ 1048576) (hn2 : n2 ≤ 1048576) (hn3 : n3 ≤ 1048576) (hk0 : 0 ≤ k0 ∧ k0 ≤ 1000) :
    Calls Tryd.prog 40 #[.agg #[.slice (some ⟨p1, 0, none⟩) n1 k1, .slice (some ⟨p2, 0, none⟩) n2 k2, .int .i64 r, .slice (some ⟨p3, 0, none⟩) n3 k3, .string s], .int .i64 k0] w fun e w' => e = .returned (.int .i64 (k0 + (n1 : Int) + (n2 : Int) + (n3 : Int))) ∧ Mine w0 w' L := by
  have h3 := h.alloc5 (.slice (some ⟨p1, 0, none⟩) n1 k1) (.slice (some ⟨p2, 0, none⟩) n2 k2) (.int .i64 r) (.slice (some ⟨p3, 0, none⟩) n3 k3) (.string s) 51
  have HS := Lib.hid h3
  have hs := h3
  have M1 := Lib.hid m1
  have M2 := Lib.hid m2
  have M3 := Lib.hid m3
  obtain ⟨⟨ha0, ha1, ha2, ha3, ha4⟩, fa0, fa1, fa2, fa3, fa4⟩ := hs.box5 0 rfl
  obtain ⟨hk1, hk2⟩ := hk0
  have HK2 : Hid (0 ≤ k0 + (n1 : Int) ∧ k0 + (n1 : Int) ≤ 4194304) := Lib.hid (by omega)
  have HK3 : Hid (0 ≤ k0 + (n1 : Int) + (n2 : Int) ∧ k0 + (n1 : Int) + (n2 : Int) ≤ 4194304) := Lib.hid (by omega)
  have HK1 : Hid (0 ≤ k0 ∧ k0 ≤ 4194304) := Lib.hid (by omega)
  have d1 : decide (k0 + (n1 : Int) < 0) = false := decide_eq_false (by omega)
  have d2 : decide (k0 + (n1 : Int) + (n2 : Int) < 0) = false := decide_eq_false (by omega)
  have d3 : decide (k0 + (n1 : Int) + (n2 : Int) + (n3 : Int) < 0) = false := decide_eq_false (by omega)
  clear h h3 m1 m2 m3 hs
  go_enter Tryd.func40, Tryd.ntmps40
  go_wp2_with (first
    | (go_at_call 70; with_reducible refine (heldM p1 n1 k1 k0 _ w0 _ HS.out (List.mem_cons_of_mem _ M1.out) hn1 HK1.out).mono ?_; rintro e w2 ⟨rfl, hs⟩; obtain ⟨⟨ha0, ha1, ha2, ha3, ha4⟩, fa0, fa1, fa2, fa3, fa4⟩ := hs.box5 0 rfl; have HS := Lib.hid hs; clear hs)
    | (go_at_call 71; with_reducible refine (heldCM p2 n2 k2 (k0 + (n1 : Int)) _ w0 _ HS.out (List.mem_cons_of_mem _ M2.out) hn2 HK2.out).mono ?_; rintro e w3 ⟨rfl, hs⟩; obtain ⟨⟨ha0, ha1, ha2, ha3, ha4⟩, fa0, fa1, fa2, fa3, fa4⟩ := hs.box5 0 rfl; have HS := Lib.hid hs; clear hs)
    | (go_at_call 16; with_reducible refine (heldYM r p3 n3 k3 (k0 + (n1 : Int) + (n2 : Int)) _ w0 _ HS.out (List.mem_cons_of_mem _ M3.out) hn3 HK3.out).mono ?_; rintro e w4 ⟨rfl, hs⟩; have HS := Lib.hid hs; clear hs) | fail)
  go_ret
  exact ⟨rfl, HS.out.sub (.cons _ (List.Sublist.refl _))⟩
end Go.Proofs.YtjlifbnenngijaaDoor
