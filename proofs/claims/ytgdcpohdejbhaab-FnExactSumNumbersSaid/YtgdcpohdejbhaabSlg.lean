/- Sums of 32-bit numbers: walks. -/
import Derived.Test.YtgdcpohdejbhaabSlf
namespace Go.Proofs.Ytgdcpohdejbhaab
open Go.Proofs.Ytgdcpohdejbhaab.Flo Go.RowKit

/-- The class of the sum of the first k. -/
def vsum (zs : List Nat) : Nat → Option Nat
  | 0 => cls .f32 0
  | k + 1 => vop .add .f32 (vsum zs k) (cls .f32 (zs.getD k 0))
set_option maxHeartbeats 1000000 in
theorem sumS (a : Option Addr) (n cap : Nat) (zs : List Nat) (w : World) (ha : FRow w a n zs) (hn : n ≤ 1048576) :
    Calls Try.prog 25 #[.slice a n cap] w fun e w' => ∃ r, e = .returned (.float .f32 r) ∧ cls .f32 r = vsum zs n ∧ Drew w w' := by
  have HA := Lib.hid ha
  clear ha
  go_enter Try.func25, Try.ntmps25
  go_wp2
  go_loopw [3, 4] (fun sv iv w' => ∃ k q r : Nat, k ≤ n ∧ sv = .float .f32 r ∧ Hid (cls .f32 r = vsum zs k) ∧ iv = .int .i64 k ∧ w' = w.drewN q) (fun _ iv _ => n - (intOf iv).toNat)
  case atStart => exact ⟨0, 0, 0, by omega, rfl, Lib.hid rfl, rfl, rfl⟩
  case round =>
    obtain ⟨k, q, r, hk, rfl, HR, rfl, rfl⟩ := hrel
    by_cases hlt : k < n
    · rcases HA.out.2 with h0 | ⟨b1, o1, rfl, _, hc1⟩
      · omega
      have hck1 : w.cell? ⟨b1, o1 + k, none⟩ = some (.float .f32 (zs.getD k 0)) := hc1 k hlt
      have HS : ∀ w2, Hid (cls .f32 (fres .add .f32 r (zs.getD k 0) w2) = vsum zs (k + 1)) := fun w2 => Lib.hid (by rw [fres_cls, HR.out]; rfl)
      generalize zs.getD k 0 = x at hck1 HS
      clear hc1 HA
      go_wp2
      exact ⟨⟨k + 1, _, _, by omega, rfl, HS _, by first | rfl | go_num | (congr 1), rfl⟩, by show n - ((k : Int) + 1).toNat < n - (k : Int).toNat; omega⟩
    · obtain rfl : k = n := by omega
      go_wp2
      go_ret
      exact ⟨_, rfl, HR.out, Drew.mk _ _⟩
set_option maxHeartbeats 1000000 in
theorem sumN_spec (a : Option Addr) (n cap : Nat) (zs : List Nat) (w : World) (ha : FRow w a n zs) (hn : n ≤ 256) :
    Calls Try.prog 6 #[.slice a n cap] w fun e w' => ∃ r, e = .returned (.tuple #[.float .f32 r, .bool true]) ∧ cls .f32 r = vsum zs n ∧ Drew w w' := by
  have HA := Lib.hid ha
  clear ha
  have hd : decide ((n : Int) ≤ 256) = true := by simp; omega
  go_enter Try.func6, Try.ntmps6
  go_wp2_with (first | (go_at_call 25; refine (sumS _ _ _ _ _ HA.out (by omega)).mono ?_; rintro e w2 ⟨r, rfl, hr, q, rfl⟩; have HR := Lib.hid hr; clear hr) | go_in)
  go_ret2
  exact ⟨_, rfl, Hid.out (by assumption), Drew.mk _ _⟩
set_option maxHeartbeats 1000000 in
theorem sumN_spec' (a : Option Addr) (n cap : Nat) (w : World) (hn : 256 < n) (hm : n ≤ 1048576) :
    Calls Try.prog 6 #[.slice a n cap] w fun e w' => e = .returned (.tuple #[.float .f32 0, .bool false]) ∧ Drew w w' := by
  have hd : decide ((n : Int) ≤ 256) = false := by simp; omega
  go_enter Try.func6, Try.ntmps6
  go_wp2
  go_ret2
  exact ⟨rfl, Drew.refl _⟩
set_option maxHeartbeats 1000000 in
theorem sumN_impl' (a : Option Addr) (n cap : Nat) (w : World) (hn : 256 < n) (hm : n ≤ 1048576) :
    Calls Try.prog 8 #[.slice a n cap] w fun e w' => e = .returned (.tuple #[.float .f32 0, .bool false]) ∧ Drew w w' := by
  go_enter Try.func8, Try.ntmps8
  go_wp2
  go_ret2
  exact ⟨rfl, Drew.refl _⟩
set_option maxHeartbeats 1000000 in
theorem sumN_impl (a : Option Addr) (n cap : Nat) (zs : List Nat) (w : World) (ha : FRow w a n zs) (hn : n ≤ 256) :
    Calls Try.prog 8 #[.slice a n cap] w fun e w' => ∃ r, e = .returned (.tuple #[.float .f32 r, .bool true]) ∧ cls .f32 r = vsum zs n ∧ Drew w w' := by
  have HA := Lib.hid ha
  clear ha
  go_enter Try.func8, Try.ntmps8
  go_wp2
  go_loopw [4, 12] (fun sv iv w' => ∃ k q r : Nat, k ≤ n ∧ sv = .float .f32 r ∧ Hid (cls .f32 r = vsum zs k) ∧ iv = .int .i64 k ∧ w' = w.drewN q) (fun _ iv _ => n - (intOf iv).toNat)
  case atStart => exact ⟨0, 0, 0, by omega, rfl, Lib.hid rfl, rfl, rfl⟩
  case round =>
    obtain ⟨k, q, r, hk, rfl, HR, rfl, rfl⟩ := hrel
    by_cases hlt : k < n
    · rcases HA.out.2 with h0 | ⟨b1, o1, rfl, _, hc1⟩
      · omega
      have hck1 : w.cell? ⟨b1, o1 + k, none⟩ = some (.float .f32 (zs.getD k 0)) := hc1 k hlt
      have HS : ∀ w2, Hid (cls .f32 (fres .add .f32 r (zs.getD k 0) w2) = vsum zs (k + 1)) := fun w2 => Lib.hid (by rw [fres_cls, HR.out]; rfl)
      generalize zs.getD k 0 = x at hck1 HS
      clear hc1 HA
      go_wp2
      exact ⟨⟨k + 1, _, _, by omega, rfl, HS _, by first | rfl | go_num | (congr 1), rfl⟩, by show n - ((k : Int) + 1).toNat < n - (k : Int).toNat; omega⟩
    · obtain rfl : k = n := by omega
      go_wp2
      go_ret2
      exact ⟨_, rfl, HR.out, Drew.mk _ _⟩
theorem FRow.new' {w : World} {zs : List Nat} {n b : Nat} (h : zs.length = n) (hb : b = w.heap.size) (e : TypeId) : FRow (w.alloc (.cells (fl zs) e)) (some ⟨b, 0, none⟩) n zs := by
  subst hb; exact FRow.new h e
theorem Below.drewN' {B : Nat} {a w : World} (h : Below B a w) (n : Nat) : Below B a (w.drewN n) := ⟨h.os, h.tape, h.output, h.size, h.block⟩
set_option maxHeartbeats 1000000 in
theorem sum_walk (a : Option Addr) (n cap : Nat) (zs : List Nat) (w : World) (ha : FRow w a n zs) :
    Calls Try.prog 3 #[.slice a n cap] w fun e w' => e = .returned (.bool true) ∧ Below w.heap.size w w' := by
  by_cases hm : n ≤ 1048576
  · by_cases hn : n ≤ 256
    · have HA := Lib.hid ha
      have hd : decide (1048576 < (n : Int)) = false := by simp; omega
      clear ha
      go_enter Try.func3, Try.ntmps3
      go_wp2_with (first | (go_at_call 7; refine (toF _ _ _ zs _ (by repeat (first | exact HA.out | refine FRow.drewN ?_ _ | refine FRow.alloc ?_ _)) hm).mono ?_; rintro e w2 ⟨rfl, rfl⟩) | (go_at_call 6; refine (sumN_spec _ _ _ zs _ (FRow.new' HA.out.1 (by simp) _) hn).mono ?_; rintro e w' ⟨r, rfl, hr, q1, rfl⟩; have Hr := Lib.hid hr; clear hr) | (go_at_call 8; refine (sumN_impl _ _ _ zs _ (FRow.new' HA.out.1 (by simp) _) hn).mono ?_; rintro e w' ⟨r2, rfl, hr, q2, rfl⟩; have Hr2 := Lib.hid hr; clear hr) | (go_at_call 9; refine (sameFloat_true _ _ (by rw [cres_wide, cres_wide, Hr.out, Hr2.out]) _).mono ?_; rintro e w2 ⟨rfl, n3, rfl⟩) | (go_at_call 10; refine (eqF _ _ _ _ _ zs _ (((FRow.new' HA.out.1 (by simp) _).drewN _).alloc _) (FRow.new' HA.out.1 (by simp) _) hm).mono ?_; rintro e w2 ⟨rfl, n4, rfl⟩) | go_in)
      go_ret
      exact ⟨rfl, by repeat (first | exact Below.refl _ _ | refine Below.drewN' ?_ _ | refine Below.alloc ?_ (by simp <;> omega) _)⟩
    · have HA := Lib.hid ha
      have hd : decide (1048576 < (n : Int)) = false := by simp; omega
      clear ha
      go_enter Try.func3, Try.ntmps3
      go_wp2_with (first | (go_at_call 7; refine (toF _ _ _ zs _ (by repeat (first | exact HA.out | refine FRow.drewN ?_ _ | refine FRow.alloc ?_ _)) hm).mono ?_; rintro e w2 ⟨rfl, rfl⟩) | (go_at_call 6; refine (sumN_spec' _ _ _ _ (by omega) hm).mono ?_; rintro e w' ⟨rfl, q1, rfl⟩) | (go_at_call 8; refine (sumN_impl' _ _ _ _ (by omega) hm).mono ?_; rintro e w' ⟨rfl, q2, rfl⟩) | (go_at_call 9; refine (sameFloat_true _ _ (by rw [cres_wide, cres_wide]) _).mono ?_; rintro e w2 ⟨rfl, n3, rfl⟩) | (go_at_call 10; refine (eqF _ _ _ _ _ zs _ (((FRow.new' HA.out.1 (by simp) _).drewN _).alloc _) (FRow.new' HA.out.1 (by simp) _) hm).mono ?_; rintro e w2 ⟨rfl, n4, rfl⟩) | go_in)
      go_ret
      exact ⟨rfl, by repeat (first | exact Below.refl _ _ | refine Below.drewN' ?_ _ | refine Below.alloc ?_ (by simp <;> omega) _)⟩
  · go_enter Try.func3, Try.ntmps3
    go_wp2
    go_ret
    exact ⟨rfl, Below.refl _ _⟩
end Go.Proofs.Ytgdcpohdejbhaab
