
/- Parity: the laws' helpers. -/
import Derived.Test.YtaefmffmjbabcaaCob
namespace Go.Proofs.Ytaefmffmjbabcaa
open Go.Proofs.Ytaefmffmjbabcaa.Flo Go.RowKit

set_option maxHeartbeats 2000000 in
theorem toYM (r : Int) (a : Option Addr) (n cap : Nat) (zs : List Int) (w w0 : World) (L : List (Nat × Ent)) (h : Mine w0 w L) (ha : IRow w0 a n zs) (hn : n ≤ 1048576) :
    Calls Try.prog 15 #[.agg #[.int .i64 r, .slice a n cap]] w fun e w' => ∃ p, e = .returned (.agg #[.int .i64 r, .slice (some ⟨p, 0, none⟩) n n]) ∧ Mine w0 w' ((p, .il n zs) :: L) := by
  have HA := Lib.hid (ha.below h.1)
  have HS := Lib.hid h
  clear h ha
  go_enter Try.func15, Try.ntmps15
  go_wp2_with (first | (go_at_call 25; refine (toI _ _ _ zs _ (by repeat (first | exact HA.out | refine IRow.setCell ?_ _ ?_ | refine IRow.alloc ?_ _)) hn).mono ?_; rintro e w2 ⟨rfl, rfl⟩) | go_in)
  exact bodyPost_ret (v := .agg #[.int .i64 r, .slice (some ⟨w.heap.size + 1 + 1 + 1, 0, none⟩) n n]) (by simp [results, Try.results15, go_sem]) rfl
    ⟨_, rfl, HS.out.push (by repeat (first | exact Below.refl _ _ | refine Below.alloc ?_ (by simp <;> omega) _)) (by first | omega | (simp; done) | (simp; omega)) (by first | (simp; done) | (simp; omega)) (Ent.il_ok (IRow.new' HA.out.1 (by simp) _) (fun j _ => World.frozen?_alloc_at _ _ _ _ (by simp)))⟩
set_option maxHeartbeats 2000000 in
theorem eqYM (r : Int) (p q n cap capb : Nat) (zs : List Int) (w w0 : World) (L : List (Nat × Ent)) (h : Mine w0 w L) (ha : (p, .il n zs) ∈ L) (hb : (q, .il n zs) ∈ L) (hn : n ≤ 1048576) :
    Calls Try.prog 18 #[.agg #[.int .i64 r, .slice (some ⟨p, 0, none⟩) n cap], .agg #[.int .i64 r, .slice (some ⟨q, 0, none⟩) n capb]] w fun e w' => e = .returned (.bool true) ∧ Mine w0 w' L := by
  have HA := Lib.hid (h.irow ha)
  have HB := Lib.hid (h.irow hb)
  have HS := Lib.hid h
  clear ha hb h
  go_enter Try.func18, Try.ntmps18
  go_wp2_with (first | (go_at_call 17; refine (eqI _ _ _ _ _ zs _ ((HA.out.alloc _).alloc _) ((HB.out.alloc _).alloc _) hn).mono ?_; rintro e w2 ⟨rfl, q, rfl⟩) | go_in)
  go_ret
  exact ⟨rfl, HS.out.below (by repeat (first | exact Below.refl _ _ | refine Below.drewN' ?_ _ | refine Below.alloc ?_ (by simp <;> omega) _))⟩
set_option maxHeartbeats 2000000 in
theorem eqYM0 (w w0 : World) (L : List (Nat × Ent)) (h : Mine w0 w L) :
    Calls Try.prog 18 #[.agg #[.int .i64 0, .slice none 0 0], .agg #[.int .i64 0, .slice none 0 0]] w fun e w' => e = .returned (.bool true) ∧ Mine w0 w' L := by
  have HS := Lib.hid h
  clear h
  go_enter Try.func18, Try.ntmps18
  go_wp2_with (first | (go_at_call 17; refine (eqI none none 0 0 0 [] _ (IRow.nil _) (IRow.nil _) (Nat.zero_le _)).mono ?_; rintro e w2 ⟨rfl, q, rfl⟩) | go_in)
  go_ret
  exact ⟨rfl, HS.out.below (by repeat (first | exact Below.refl _ _ | refine Below.drewN' ?_ _ | refine Below.alloc ?_ (by simp <;> omega) _))⟩
set_option maxHeartbeats 2000000 in
theorem markYM (r : Int) (p n cap : Nat) (zs : List Int) (k0 : Int) (w w0 : World) (L : List (Nat × Ent)) (i : Nat) (h : Mine w0 w L) (hi : L[i]? = some (p, .il n zs)) (hn : n ≤ 1048576) (hk0 : 0 ≤ k0 ∧ k0 ≤ 4194304) :
    Calls Try.prog 19 #[.agg #[.int .i64 r, .slice (some ⟨p, 0, none⟩) n cap], .int .i64 k0] w fun e w' => e = .returned (.int .i64 (k0 + (n : Int))) ∧ Mine w0 w' (L.set i (p, .il n (marksI k0 n))) := by
  have HS := Lib.hid (h.below (belowA w (.cells #[.int .i64 r, .slice (some ⟨p, 0, none⟩) n cap] 28)))
  have HI := Lib.hid hi
  obtain ⟨hk1, hk2⟩ := hk0
  clear h hi
  go_enter Try.func19, Try.ntmps19
  go_wp2_with (first | (go_at_call 20; refine (markMI p n cap zs k0 _ w0 L i HS.out HI.out hn ⟨hk1, hk2⟩).mono ?_; rintro e w2 ⟨rfl, hs⟩; have HS := Lib.hid hs; clear hs) | go_in)
  go_ret
  exact ⟨rfl, HS.out⟩
set_option maxHeartbeats 2000000 in
theorem markY0 (k0 : Int) (w w0 : World) (L : List (Nat × Ent)) (h : Mine w0 w L) :
    Calls Try.prog 19 #[.agg #[.int .i64 0, .slice none 0 0], .int .i64 k0] w fun e w' => e = .returned (.int .i64 k0) ∧ Mine w0 w' L := by
  have HS := Lib.hid (h.below (belowA w (.cells #[.int .i64 0, .slice none 0 0] 28)))
  clear h
  go_enter Try.func19, Try.ntmps19
  go_wp2_with (first | (go_at_call 20; refine (markNilI k0 _).mono ?_; rintro e w2 ⟨rfl, rfl⟩) | go_in)
  go_ret
  exact ⟨rfl, HS.out⟩
theorem cellsIY : Try.prog.cellsOf 2 = 1 := by kernel_rfl
theorem cellsSY : Try.prog.cellsOf 22 = 1 := by kernel_rfl
theorem cellsY2 : Try.prog.cellsOf 24 = 2 := by kernel_rfl
section
open Go.ChangeShapes Go.WideShapes Go.Deep
variable {H : Type} {enc : TypeId × Value → H} {w : World} {base : Nat} {spare : Nat → Bool} {held : Bool}
set_option maxRecDepth 100000 in
theorem open_Y {fuel : Nat} {cs : List Value} {x : DataW H × List MemPlace} (h : DataW.trod enc Try.prog w base spare held fuel 24 cs = some x) (hs : cs.length = 2) :
    ∃ r a n cap zs, cs = [.int .i64 r, .slice a n cap] ∧ IRow w a n zs ∧ n ≤ 9223372036854775807 := by
  obtain ⟨y0, y1, m, -, -, h0, h1⟩ := trod_struct2 Try.underlying24 h
  match cs, hs with
  | [v0, v1], _ =>
    simp only [cellsIY, cellsSY, List.drop, List.take] at h0 h1
    obtain ⟨r, e0, _⟩ := trod_i64 Try.underlying2 h0
    rcases open_slice1 Try.underlying22 cellsIY h1 with ⟨e2, _⟩ | ⟨y, l, k, mm, q, V, D, Pl, e2, _, hl, hk, _⟩
    · simp at e0 e2
      subst e0; subst e2
      obtain ⟨zs, hz⟩ := open_irow Try.underlying22 Try.underlying2 cellsIY h1
      exact ⟨r, none, 0, 0, zs, rfl, hz, by omega⟩
    · simp at e0 e2
      subst e0; subst e2
      obtain ⟨zs, hz⟩ := open_irow Try.underlying22 Try.underlying2 cellsIY h1
      unfold maxLen at hk
      exact ⟨r, some y, l, k, zs, rfl, hz, by omega⟩
end
set_option maxHeartbeats 1000000 in
theorem szYL (r : Int) (a : Option Addr) (n cap : Nat) (w : World) (L : Int) (hn : (n : Int) ≤ L) (hL : L ≤ 1048576) :
    Calls Try.prog 13 #[.agg #[.int .i64 r, .slice a n cap], .int .i64 L] w fun e w' => e = .returned (.int .i64 (L - n)) ∧ Below w.heap.size w w' := by
  have hd : decide (L - (n : Int) < 0) = false := decide_eq_false (by omega)
  go_enter Try.func13, Try.ntmps13
  go_wp2
  go_ret
  exact ⟨rfl, by repeat (first | exact Below.refl _ _ | refine Below.alloc ?_ (by simp <;> omega) _)⟩
set_option maxHeartbeats 1000000 in
theorem szYL' (r : Int) (a : Option Addr) (n cap : Nat) (w : World) (L : Int) (hn : L < (n : Int)) (h0 : 0 ≤ L) (hL : L ≤ 1048576) (hm : n ≤ 9223372036854775807) :
    Calls Try.prog 13 #[.agg #[.int .i64 r, .slice a n cap], .int .i64 L] w fun e w' => e = .returned (.int .i64 (-1)) ∧ Below w.heap.size w w' := by
  have hd : decide (L - (n : Int) < 0) = true := decide_eq_true (by omega)
  go_enter Try.func13, Try.ntmps13
  go_wp2
  go_ret
  exact ⟨rfl, by repeat (first | exact Below.refl _ _ | refine Below.alloc ?_ (by simp <;> omega) _)⟩
end Go.Proofs.Ytaefmffmjbabcaa
