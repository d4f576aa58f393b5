/- Channels: the laws' helpers. -/
import Derived.Test.YtffamppflelflaaTbm
import Derived.Test.YtffamppflelflaaTbw
import Derived.Test.YtffamppflelflaaTuw
namespace Go.Proofs.Ytffamppflelflaa
open Go.Proofs.Ytffamppflelflaa.Flo Go.RowKit

set_option maxHeartbeats 2000000 in
theorem toH0 (r c : Int) (a : Option Addr) (n cap : Nat) (zs : List Nat) (w : World) (h : FRow w a n zs) (hn : n ≤ 1048576) :
    Calls Try.prog 17 #[.agg #[.int .i64 r, .int .i64 c, .slice a n cap]] w fun e w' => ∃ p, e = .returned (.agg #[.int .i64 r, .int .i64 c, .slice (some p) n n]) ∧ FRow w' (some p) n zs ∧ Below w.heap.size w w' := by
  have HA := Lib.hid h
  clear h
  go_enter Try.func17, Try.ntmps17
  go_wp2_with (first | (go_at_call 31; refine (toF _ _ _ zs _ (by repeat (first | exact HA.out | refine FRow.setCell ?_ _ ?_ | refine FRow.alloc ?_ _)) hn).mono ?_; rintro e w2 ⟨rfl, rfl⟩) | go_in)
  exact bodyPost_ret (v := .agg #[.int .i64 r, .int .i64 c, .slice (some ⟨w.heap.size + 1 + 1 + 1, 0, none⟩) n n]) (by simp [results, Try.results17, go_sem]) rfl
    ⟨_, rfl, FRow.new' HA.out.1 (by simp) _, by repeat (first | exact Below.refl _ _ | refine Below.alloc ?_ (by simp <;> omega) _)⟩
theorem toH (r c : Int) (a : Option Addr) (n cap : Nat) (zs : List Nat) (w : World) (L : List (Option Addr × Nat × List Nat)) (h : Live w L) (hm : (a, n, zs) ∈ L) (hn : n ≤ 1048576) :
    Calls Try.prog 17 #[.agg #[.int .i64 r, .int .i64 c, .slice a n cap]] w fun e w' => ∃ p, e = .returned (.agg #[.int .i64 r, .int .i64 c, .slice (some p) n n]) ∧ Live w' ((some p, n, zs) :: L) ∧ Below w.heap.size w w' := by
  refine (toH0 r c a n cap zs w (h.get hm) hn).mono ?_
  rintro e w' ⟨p, he, hr, hb⟩
  exact ⟨p, he, (h.below hb).cons hr, hb⟩
set_option maxHeartbeats 2000000 in
theorem eqH (r c : Int) (a b : Option Addr) (n cap capb : Nat) (zs : List Nat) (w : World) (L : List (Option Addr × Nat × List Nat)) (h : Live w L) (ha : (a, n, zs) ∈ L) (hb : (b, n, zs) ∈ L) (hn : n ≤ 1048576) :
    Calls Try.prog 19 #[.agg #[.int .i64 r, .int .i64 c, .slice a n cap], .agg #[.int .i64 r, .int .i64 c, .slice b n capb]] w fun e w' => e = .returned (.bool true) ∧ Live w' L ∧ Below w.heap.size w w' := by
  have HA := Lib.hid (h.get ha)
  have HB := Lib.hid (h.get hb)
  have HL := Lib.hid h
  clear ha hb h
  go_enter Try.func19, Try.ntmps19
  go_wp2_with (first | (go_at_call 33; refine (eqF _ _ _ _ _ zs _ ((HA.out.alloc _).alloc _) ((HB.out.alloc _).alloc _) hn).mono ?_; rintro e w2 ⟨rfl, q, rfl⟩) | go_in)
  go_ret
  have hb : Below w.heap.size w (((w.alloc (.cells #[.int .i64 r, .int .i64 c, .slice a n cap] 27)).alloc (.cells #[.int .i64 r, .int .i64 c, .slice b n capb] 27)).drewN q) := by
    repeat (first | exact Below.refl _ _ | refine Below.drewN' ?_ _ | refine Below.alloc ?_ (by simp <;> omega) _)
  exact ⟨rfl, HL.out.below hb, hb⟩
set_option maxHeartbeats 1000000 in
theorem szH (r c : Int) (a : Option Addr) (n cap : Nat) (w : World) (hn : n ≤ 1048576) :
    Calls Try.prog 15 #[.agg #[.int .i64 r, .int .i64 c, .slice a n cap], .int .i64 1048576] w fun e w' => e = .returned (.int .i64 (1048576 - n)) ∧ Below w.heap.size w w' := by
  go_enter Try.func15, Try.ntmps15
  go_wp2
  go_ret
  exact ⟨rfl, by repeat (first | exact Below.refl _ _ | refine Below.alloc ?_ (by simp <;> omega) _)⟩
set_option maxHeartbeats 1000000 in
theorem szH' (r c : Int) (a : Option Addr) (n cap : Nat) (w : World) (hn : 1048576 < n) (hm : n ≤ 9223372036854775807) :
    Calls Try.prog 15 #[.agg #[.int .i64 r, .int .i64 c, .slice a n cap], .int .i64 1048576] w fun e w' => e = .returned (.int .i64 (-1)) ∧ Below w.heap.size w w' := by
  go_enter Try.func15, Try.ntmps15
  go_wp2
  go_ret
  exact ⟨rfl, by repeat (first | exact Below.refl _ _ | refine Below.alloc ?_ (by simp <;> omega) _)⟩
set_option maxHeartbeats 2000000 in
theorem toHM (r c : Int) (a : Option Addr) (n cap : Nat) (zs : List Nat) (w w0 : World) (L : List (Nat × Ent)) (h : Mine w0 w L) (ha : FRow w0 a n zs) (hn : n ≤ 1048576) :
    Calls Try.prog 17 #[.agg #[.int .i64 r, .int .i64 c, .slice a n cap]] w fun e w' => ∃ p, e = .returned (.agg #[.int .i64 r, .int .i64 c, .slice (some ⟨p, 0, none⟩) n n]) ∧ Mine w0 w' ((p, .fl n zs) :: L) := by
  have HA := Lib.hid (ha.below h.1)
  have HS := Lib.hid h
  clear h ha
  go_enter Try.func17, Try.ntmps17
  go_wp2_with (first | (go_at_call 31; refine (toF _ _ _ zs _ (by repeat (first | exact HA.out | refine FRow.setCell ?_ _ ?_ | refine FRow.alloc ?_ _)) hn).mono ?_; rintro e w2 ⟨rfl, rfl⟩) | go_in)
  exact bodyPost_ret (v := .agg #[.int .i64 r, .int .i64 c, .slice (some ⟨w.heap.size + 1 + 1 + 1, 0, none⟩) n n]) (by simp [results, Try.results17, go_sem]) rfl
    ⟨_, rfl, HS.out.push (by repeat (first | exact Below.refl _ _ | refine Below.alloc ?_ (by simp <;> omega) _)) (by first | omega | (simp; done) | (simp; omega)) (by first | (simp; done) | (simp; omega)) (Ent.fl_ok (FRow.new' HA.out.1 (by simp) _) (fun j _ => World.frozen?_alloc_at _ _ _ _ (by simp)))⟩
set_option maxHeartbeats 2000000 in
theorem eqHM (r c : Int) (p q n cap capb : Nat) (zs : List Nat) (w w0 : World) (L : List (Nat × Ent)) (h : Mine w0 w L) (ha : (p, .fl n zs) ∈ L) (hb : (q, .fl n zs) ∈ L) (hn : n ≤ 1048576) :
    Calls Try.prog 19 #[.agg #[.int .i64 r, .int .i64 c, .slice (some ⟨p, 0, none⟩) n cap], .agg #[.int .i64 r, .int .i64 c, .slice (some ⟨q, 0, none⟩) n capb]] w fun e w' => e = .returned (.bool true) ∧ Mine w0 w' L := by
  have HA := Lib.hid (h.frow ha)
  have HB := Lib.hid (h.frow hb)
  have HS := Lib.hid h
  clear ha hb h
  go_enter Try.func19, Try.ntmps19
  go_wp2_with (first | (go_at_call 33; refine (eqF _ _ _ _ _ zs _ ((HA.out.alloc _).alloc _) ((HB.out.alloc _).alloc _) hn).mono ?_; rintro e w2 ⟨rfl, q, rfl⟩) | go_in)
  go_ret
  exact ⟨rfl, HS.out.below (by repeat (first | exact Below.refl _ _ | refine Below.drewN' ?_ _ | refine Below.alloc ?_ (by simp <;> omega) _))⟩
set_option maxHeartbeats 2000000 in
theorem eqHMC (r c : Int) (p q n cap capb : Nat) (V : Nat → Option Nat) (w w0 : World) (L : List (Nat × Ent)) (h : Mine w0 w L) (ha : (p, .cl n V) ∈ L) (hb : (q, .cl n V) ∈ L) (hn : n ≤ 1048576) :
    Calls Try.prog 19 #[.agg #[.int .i64 r, .int .i64 c, .slice (some ⟨p, 0, none⟩) n cap], .agg #[.int .i64 r, .int .i64 c, .slice (some ⟨q, 0, none⟩) n capb]] w fun e w' => e = .returned (.bool true) ∧ Mine w0 w' L := by
  obtain ⟨za, ha1, ha2⟩ := h.crow ha
  obtain ⟨zb, hb1, hb2⟩ := h.crow hb
  have HA := Lib.hid ha1
  have HB := Lib.hid hb1
  have HC : Hid (∀ k, k < n → cls .f32 (za.getD k 0) = cls .f32 (zb.getD k 0)) := Lib.hid (fun k hk => (ha2 k hk).trans (hb2 k hk).symm)
  have HS := Lib.hid h
  clear ha hb h ha1 ha2 hb1 hb2
  go_enter Try.func19, Try.ntmps19
  go_wp2_with (first | (go_at_call 33; refine (eqC _ _ _ _ _ za zb _ ((HA.out.alloc _).alloc _) ((HB.out.alloc _).alloc _) hn HC.out).mono ?_; rintro e w2 ⟨rfl, q, rfl⟩) | go_in)
  go_ret
  exact ⟨rfl, HS.out.below (by repeat (first | exact Below.refl _ _ | refine Below.drewN' ?_ _ | refine Below.alloc ?_ (by simp <;> omega) _))⟩
set_option maxHeartbeats 2000000 in
theorem eqHM0 (w w0 : World) (L : List (Nat × Ent)) (h : Mine w0 w L) :
    Calls Try.prog 19 #[.agg #[.int .i64 0, .int .i64 0, .slice none 0 0], .agg #[.int .i64 0, .int .i64 0, .slice none 0 0]] w fun e w' => e = .returned (.bool true) ∧ Mine w0 w' L := by
  have HS := Lib.hid h
  clear h
  go_enter Try.func19, Try.ntmps19
  go_wp2_with (first | (go_at_call 33; refine (eqF none none 0 0 0 [] _ (FRow.nil _) (FRow.nil _) (Nat.zero_le _)).mono ?_; rintro e w2 ⟨rfl, q, rfl⟩) | go_in)
  go_ret
  exact ⟨rfl, HS.out.below (by repeat (first | exact Below.refl _ _ | refine Below.drewN' ?_ _ | refine Below.alloc ?_ (by simp <;> omega) _))⟩
set_option maxHeartbeats 2000000 in
theorem markHM (r c : Int) (p n cap : Nat) (zs : List Nat) (k0 : Int) (w w0 : World) (L : List (Nat × Ent)) (i : Nat) (h : Mine w0 w L) (hi : L[i]? = some (p, .fl n zs)) (hn : n ≤ 1048576) (hk0 : 0 ≤ k0 ∧ k0 ≤ 4194304) :
    Calls Try.prog 24 #[.agg #[.int .i64 r, .int .i64 c, .slice (some ⟨p, 0, none⟩) n cap], .int .i64 k0] w fun e w' => e = .returned (.int .i64 (k0 + (n : Int))) ∧ Mine w0 w' (L.set i (p, .fl n (marks k0 n))) := by
  have HS := Lib.hid (h.below (below_alloc w (.cells #[.int .i64 r, .int .i64 c, .slice (some ⟨p, 0, none⟩) n cap] 27)))
  have HI := Lib.hid hi
  obtain ⟨hk1, hk2⟩ := hk0
  clear h hi
  go_enter Try.func24, Try.ntmps24
  go_wp2_with (first | (go_at_call 34; refine (markM p n cap zs k0 _ w0 L i HS.out HI.out hn ⟨hk1, hk2⟩).mono ?_; rintro e w2 ⟨rfl, hs⟩; have HS := Lib.hid hs; clear hs) | go_in)
  go_ret
  exact ⟨rfl, HS.out⟩
set_option maxHeartbeats 2000000 in
theorem markHMC (r c : Int) (p n cap : Nat) (V : Nat → Option Nat) (k0 : Int) (w w0 : World) (L : List (Nat × Ent)) (i : Nat) (h : Mine w0 w L) (hi : L[i]? = some (p, .cl n V)) (hn : n ≤ 1048576) (hk0 : 0 ≤ k0 ∧ k0 ≤ 4194304) :
    Calls Try.prog 24 #[.agg #[.int .i64 r, .int .i64 c, .slice (some ⟨p, 0, none⟩) n cap], .int .i64 k0] w fun e w' => e = .returned (.int .i64 (k0 + (n : Int))) ∧ Mine w0 w' (L.set i (p, .fl n (marks k0 n))) := by
  have HS := Lib.hid (h.below (below_alloc w (.cells #[.int .i64 r, .int .i64 c, .slice (some ⟨p, 0, none⟩) n cap] 27)))
  have HI := Lib.hid hi
  obtain ⟨hk1, hk2⟩ := hk0
  clear h hi
  go_enter Try.func24, Try.ntmps24
  go_wp2_with (first | (go_at_call 34; refine (markMC p n cap V k0 _ w0 L i HS.out HI.out hn ⟨hk1, hk2⟩).mono ?_; rintro e w2 ⟨rfl, hs⟩; have HS := Lib.hid hs; clear hs) | go_in)
  go_ret
  exact ⟨rfl, HS.out⟩
set_option maxHeartbeats 2000000 in
theorem markH0 (k0 : Int) (w w0 : World) (L : List (Nat × Ent)) (h : Mine w0 w L) :
    Calls Try.prog 24 #[.agg #[.int .i64 0, .int .i64 0, .slice none 0 0], .int .i64 k0] w fun e w' => e = .returned (.int .i64 k0) ∧ Mine w0 w' L := by
  have HS := Lib.hid (h.below (below_alloc w (.cells #[.int .i64 0, .int .i64 0, .slice none 0 0] 27)))
  clear h
  go_enter Try.func24, Try.ntmps24
  go_wp2_with (first | (go_at_call 34; refine (markNil k0 _).mono ?_; rintro e w2 ⟨rfl, rfl⟩) | go_in)
  go_ret
  exact ⟨rfl, HS.out⟩
set_option maxHeartbeats 2000000 in
theorem heldHM (r c : Int) (p n cap : Nat) (k0 : Int) (w w0 : World) (L : List (Nat × Ent)) (h : Mine w0 w L) (hm : (p, .fl n (marks k0 n)) ∈ L) (hn : n ≤ 1048576) (hk0 : 0 ≤ k0 ∧ k0 ≤ 4194304) :
    Calls Try.prog 25 #[.agg #[.int .i64 r, .int .i64 c, .slice (some ⟨p, 0, none⟩) n cap], .int .i64 k0] w fun e w' => e = .returned (.int .i64 (k0 + (n : Int))) ∧ Mine w0 w' L := by
  have HS := Lib.hid (h.below (below_alloc w (.cells #[.int .i64 r, .int .i64 c, .slice (some ⟨p, 0, none⟩) n cap] 27)))
  have HI := Lib.hid hm
  obtain ⟨hk1, hk2⟩ := hk0
  clear h hm
  go_enter Try.func25, Try.ntmps25
  go_wp2_with (first | (go_at_call 35; refine (heldM p n cap k0 _ w0 L HS.out HI.out hn ⟨hk1, hk2⟩).mono ?_; rintro e w2 ⟨rfl, hs⟩; have HS := Lib.hid hs; clear hs) | go_in)
  go_ret
  exact ⟨rfl, HS.out⟩
set_option maxHeartbeats 2000000 in
theorem heldH0 (k0 : Int) (w w0 : World) (L : List (Nat × Ent)) (h : Mine w0 w L) (hk0 : 0 ≤ k0) :
    Calls Try.prog 25 #[.agg #[.int .i64 0, .int .i64 0, .slice none 0 0], .int .i64 k0] w fun e w' => e = .returned (.int .i64 k0) ∧ Mine w0 w' L := by
  have HS := Lib.hid (h.below (below_alloc w (.cells #[.int .i64 0, .int .i64 0, .slice none 0 0] 27)))
  clear h
  go_enter Try.func25, Try.ntmps25
  go_wp2_with (first | (go_at_call 35; refine (heldNil k0 _).mono ?_; rintro e w2 ⟨rfl, rfl⟩) | go_in)
  go_ret
  exact ⟨rfl, HS.out⟩
theorem cellsIH : Try.prog.cellsOf 2 = 1 := by kernel_rfl
theorem cellsSH : Try.prog.cellsOf 22 = 1 := by kernel_rfl
theorem cellsFH : Try.prog.cellsOf 32 = 1 := by kernel_rfl
theorem cellsH : Try.prog.cellsOf 24 = 3 := by kernel_rfl
section
open Go.ChangeShapes Go.WideShapes Go.Deep
variable {H : Type} {enc : TypeId × Value → H} {w : World} {base : Nat} {spare : Nat → Bool} {held : Bool}
set_option maxRecDepth 100000 in
theorem open_chan {fuel : Nat} {cs : List Value} {x : DataW H × List MemPlace} (h : DataW.trod enc Try.prog w base spare held fuel 24 cs = some x) (hs : cs.length = 3) :
    ∃ r c a n cap zs, cs = [.int .i64 r, .int .i64 c, .slice a n cap] ∧ FRow w a n zs ∧ n ≤ 9223372036854775807 := by
  obtain ⟨y0, y1, y2, m, -, -, h0, h1, h2⟩ := trod_struct3 Try.underlying24 h
  match cs, hs with
  | [v0, v1, v2], _ =>
    simp only [cellsIH, cellsSH, List.drop, List.take] at h0 h1 h2
    obtain ⟨r, e0, _⟩ := trod_i64 Try.underlying2 h0
    obtain ⟨c, e1, _⟩ := trod_i64 Try.underlying2 h1
    rcases open_slice1 Try.underlying22 cellsFH h2 with ⟨e2, _⟩ | ⟨y, l, k, mm, q, V, D, Pl, e2, _, hl, hk, _⟩
    · simp at e0 e1 e2
      subst e0; subst e1; subst e2
      obtain ⟨zs, hz⟩ := open_frow Try.underlying22 Try.underlying32 cellsFH h2
      exact ⟨r, c, none, 0, 0, zs, rfl, hz, by omega⟩
    · simp at e0 e1 e2
      subst e0; subst e1; subst e2
      obtain ⟨zs, hz⟩ := open_frow Try.underlying22 Try.underlying32 cellsFH h2
      unfold maxLen at hk
      exact ⟨r, c, some y, l, k, zs, rfl, hz, by omega⟩
end
set_option maxHeartbeats 1000000 in
theorem szHL (r c : Int) (a : Option Addr) (n cap : Nat) (w : World) (L : Int) (hn : (n : Int) ≤ L) (hL : L ≤ 1048576) :
    Calls Try.prog 15 #[.agg #[.int .i64 r, .int .i64 c, .slice a n cap], .int .i64 L] w fun e w' => e = .returned (.int .i64 (L - n)) ∧ Below w.heap.size w w' := by
  have hd : decide (L - (n : Int) < 0) = false := decide_eq_false (by omega)
  go_enter Try.func15, Try.ntmps15
  go_wp2
  go_ret
  exact ⟨rfl, by repeat (first | exact Below.refl _ _ | refine Below.alloc ?_ (by simp <;> omega) _)⟩
set_option maxHeartbeats 1000000 in
theorem szHL' (r c : Int) (a : Option Addr) (n cap : Nat) (w : World) (L : Int) (hn : L < (n : Int)) (h0 : 0 ≤ L) (hL : L ≤ 1048576) (hm : n ≤ 9223372036854775807) :
    Calls Try.prog 15 #[.agg #[.int .i64 r, .int .i64 c, .slice a n cap], .int .i64 L] w fun e w' => e = .returned (.int .i64 (-1)) ∧ Below w.heap.size w w' := by
  have hd : decide (L - (n : Int) < 0) = true := decide_eq_true (by omega)
  go_enter Try.func15, Try.ntmps15
  go_wp2
  go_ret
  exact ⟨rfl, by repeat (first | exact Below.refl _ _ | refine Below.alloc ?_ (by simp <;> omega) _)⟩
end Go.Proofs.Ytffamppflelflaa
