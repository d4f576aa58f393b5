/- Tables among what is the call's own: the laws' helpers. -/
import Derived.Test.YtffamppflelflaaRpa
namespace Go.Proofs.Ytffamppflelflaa
open Go.Proofs.Ytffamppflelflaa.Flo Go.RowKit

set_option maxHeartbeats 2000000 in
theorem eqTM (r c : Int) (p q n cap capb : Nat) (zs : List Nat) (w w0 : World) (L : List (Nat × Ent)) (h : Mine w0 w L) (ha : (p, .fl n zs) ∈ L) (hb : (q, .fl n zs) ∈ L) (hn : n ≤ 1048576) :
    Calls Try.prog 38 #[.agg #[.int .i64 r, .int .i64 c, .slice (some ⟨p, 0, none⟩) n cap], .agg #[.int .i64 r, .int .i64 c, .slice (some ⟨q, 0, none⟩) n capb]] w fun e w' => e = .returned (.bool true) ∧ Mine w0 w' L := by
  have HA := Lib.hid (h.frow ha)
  have HB := Lib.hid (h.frow hb)
  have HS := Lib.hid h
  clear ha hb h
  go_enter Try.func38, Try.ntmps38
  go_wp2_with (first | (go_at_call 33; refine (eqF _ _ _ _ _ zs _ ((HA.out.alloc _).alloc _) ((HB.out.alloc _).alloc _) hn).mono ?_; rintro e w2 ⟨rfl, q, rfl⟩) | go_in)
  go_ret
  exact ⟨rfl, HS.out.below (by repeat (first | exact Below.refl _ _ | refine Below.drewN' ?_ _ | refine Below.alloc ?_ (by simp <;> omega) _))⟩
set_option maxHeartbeats 2000000 in
theorem eqTMC (r c : Int) (p q n cap capb : Nat) (V : Nat → Option Nat) (w w0 : World) (L : List (Nat × Ent)) (h : Mine w0 w L) (ha : (p, .cl n V) ∈ L) (hb : (q, .cl n V) ∈ L) (hn : n ≤ 1048576) :
    Calls Try.prog 38 #[.agg #[.int .i64 r, .int .i64 c, .slice (some ⟨p, 0, none⟩) n cap], .agg #[.int .i64 r, .int .i64 c, .slice (some ⟨q, 0, none⟩) n capb]] w fun e w' => e = .returned (.bool true) ∧ Mine w0 w' L := by
  obtain ⟨za, ha1, ha2⟩ := h.crow ha
  obtain ⟨zb, hb1, hb2⟩ := h.crow hb
  have HA := Lib.hid ha1
  have HB := Lib.hid hb1
  have HC : Hid (∀ k, k < n → cls .f32 (za.getD k 0) = cls .f32 (zb.getD k 0)) := Lib.hid (fun k hk => (ha2 k hk).trans (hb2 k hk).symm)
  have HS := Lib.hid h
  clear ha hb h ha1 ha2 hb1 hb2
  go_enter Try.func38, Try.ntmps38
  go_wp2_with (first | (go_at_call 33; refine (eqC _ _ _ _ _ za zb _ ((HA.out.alloc _).alloc _) ((HB.out.alloc _).alloc _) hn HC.out).mono ?_; rintro e w2 ⟨rfl, q, rfl⟩) | go_in)
  go_ret
  exact ⟨rfl, HS.out.below (by repeat (first | exact Below.refl _ _ | refine Below.drewN' ?_ _ | refine Below.alloc ?_ (by simp <;> omega) _))⟩
set_option maxHeartbeats 2000000 in
theorem eqTM0 (w w0 : World) (L : List (Nat × Ent)) (h : Mine w0 w L) :
    Calls Try.prog 38 #[.agg #[.int .i64 0, .int .i64 0, .slice none 0 0], .agg #[.int .i64 0, .int .i64 0, .slice none 0 0]] w fun e w' => e = .returned (.bool true) ∧ Mine w0 w' L := by
  have HS := Lib.hid h
  clear h
  go_enter Try.func38, Try.ntmps38
  go_wp2_with (first | (go_at_call 33; refine (eqF none none 0 0 0 [] _ (FRow.nil _) (FRow.nil _) (Nat.zero_le _)).mono ?_; rintro e w2 ⟨rfl, q, rfl⟩) | go_in)
  go_ret
  exact ⟨rfl, HS.out.below (by repeat (first | exact Below.refl _ _ | refine Below.drewN' ?_ _ | refine Below.alloc ?_ (by simp <;> omega) _))⟩
set_option maxHeartbeats 2000000 in
theorem markTM (r c : Int) (p n cap : Nat) (zs : List Nat) (k0 : Int) (w w0 : World) (L : List (Nat × Ent)) (i : Nat) (h : Mine w0 w L) (hi : L[i]? = some (p, .fl n zs)) (hn : n ≤ 1048576) (hk0 : 0 ≤ k0 ∧ k0 ≤ 4194304) :
    Calls Try.prog 39 #[.agg #[.int .i64 r, .int .i64 c, .slice (some ⟨p, 0, none⟩) n cap], .int .i64 k0] w fun e w' => e = .returned (.int .i64 (k0 + (n : Int))) ∧ Mine w0 w' (L.set i (p, .fl n (marks k0 n))) := by
  have HS := Lib.hid (h.below (below_alloc w (.cells #[.int .i64 r, .int .i64 c, .slice (some ⟨p, 0, none⟩) n cap] 44)))
  have HI := Lib.hid hi
  obtain ⟨hk1, hk2⟩ := hk0
  clear h hi
  go_enter Try.func39, Try.ntmps39
  go_wp2_with (first | (go_at_call 34; refine (markM p n cap zs k0 _ w0 L i HS.out HI.out hn ⟨hk1, hk2⟩).mono ?_; rintro e w2 ⟨rfl, hs⟩; have HS := Lib.hid hs; clear hs) | go_in)
  go_ret
  exact ⟨rfl, HS.out⟩
set_option maxHeartbeats 2000000 in
theorem markTMC (r c : Int) (p n cap : Nat) (V : Nat → Option Nat) (k0 : Int) (w w0 : World) (L : List (Nat × Ent)) (i : Nat) (h : Mine w0 w L) (hi : L[i]? = some (p, .cl n V)) (hn : n ≤ 1048576) (hk0 : 0 ≤ k0 ∧ k0 ≤ 4194304) :
    Calls Try.prog 39 #[.agg #[.int .i64 r, .int .i64 c, .slice (some ⟨p, 0, none⟩) n cap], .int .i64 k0] w fun e w' => e = .returned (.int .i64 (k0 + (n : Int))) ∧ Mine w0 w' (L.set i (p, .fl n (marks k0 n))) := by
  have HS := Lib.hid (h.below (below_alloc w (.cells #[.int .i64 r, .int .i64 c, .slice (some ⟨p, 0, none⟩) n cap] 44)))
  have HI := Lib.hid hi
  obtain ⟨hk1, hk2⟩ := hk0
  clear h hi
  go_enter Try.func39, Try.ntmps39
  go_wp2_with (first | (go_at_call 34; refine (markMC p n cap V k0 _ w0 L i HS.out HI.out hn ⟨hk1, hk2⟩).mono ?_; rintro e w2 ⟨rfl, hs⟩; have HS := Lib.hid hs; clear hs) | go_in)
  go_ret
  exact ⟨rfl, HS.out⟩
set_option maxHeartbeats 2000000 in
theorem markT0 (k0 : Int) (w w0 : World) (L : List (Nat × Ent)) (h : Mine w0 w L) :
    Calls Try.prog 39 #[.agg #[.int .i64 0, .int .i64 0, .slice none 0 0], .int .i64 k0] w fun e w' => e = .returned (.int .i64 k0) ∧ Mine w0 w' L := by
  have HS := Lib.hid (h.below (below_alloc w (.cells #[.int .i64 0, .int .i64 0, .slice none 0 0] 44)))
  clear h
  go_enter Try.func39, Try.ntmps39
  go_wp2_with (first | (go_at_call 34; refine (markNil k0 _).mono ?_; rintro e w2 ⟨rfl, rfl⟩) | go_in)
  go_ret
  exact ⟨rfl, HS.out⟩
set_option maxHeartbeats 2000000 in
theorem heldTM (r c : Int) (p n cap : Nat) (k0 : Int) (w w0 : World) (L : List (Nat × Ent)) (h : Mine w0 w L) (hm : (p, .fl n (marks k0 n)) ∈ L) (hn : n ≤ 1048576) (hk0 : 0 ≤ k0 ∧ k0 ≤ 4194304) :
    Calls Try.prog 40 #[.agg #[.int .i64 r, .int .i64 c, .slice (some ⟨p, 0, none⟩) n cap], .int .i64 k0] w fun e w' => e = .returned (.int .i64 (k0 + (n : Int))) ∧ Mine w0 w' L := by
  have HS := Lib.hid (h.below (below_alloc w (.cells #[.int .i64 r, .int .i64 c, .slice (some ⟨p, 0, none⟩) n cap] 44)))
  have HI := Lib.hid hm
  obtain ⟨hk1, hk2⟩ := hk0
  clear h hm
  go_enter Try.func40, Try.ntmps40
  go_wp2_with (first | (go_at_call 35; refine (heldM p n cap k0 _ w0 L HS.out HI.out hn ⟨hk1, hk2⟩).mono ?_; rintro e w2 ⟨rfl, hs⟩; have HS := Lib.hid hs; clear hs) | go_in)
  go_ret
  exact ⟨rfl, HS.out⟩
set_option maxHeartbeats 2000000 in
theorem heldT0 (k0 : Int) (w w0 : World) (L : List (Nat × Ent)) (h : Mine w0 w L) (hk0 : 0 ≤ k0) :
    Calls Try.prog 40 #[.agg #[.int .i64 0, .int .i64 0, .slice none 0 0], .int .i64 k0] w fun e w' => e = .returned (.int .i64 k0) ∧ Mine w0 w' L := by
  have HS := Lib.hid (h.below (below_alloc w (.cells #[.int .i64 0, .int .i64 0, .slice none 0 0] 44)))
  clear h
  go_enter Try.func40, Try.ntmps40
  go_wp2_with (first | (go_at_call 35; refine (heldNil k0 _).mono ?_; rintro e w2 ⟨rfl, rfl⟩) | go_in)
  go_ret
  exact ⟨rfl, HS.out⟩
end Go.Proofs.Ytffamppflelflaa
