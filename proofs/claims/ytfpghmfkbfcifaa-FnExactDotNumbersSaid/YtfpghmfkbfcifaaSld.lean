/- Sums of products of 32-bit numbers: walks. -/
import Derived.Test.YtfpghmfkbfcifaaSlg
namespace Go.Proofs.Ytfpghmfkbfcifaa
open Go.Proofs.Ytfpghmfkbfcifaa.Flo Go.RowKit

/-- The class of the sum of the first k products. -/
def vdot (zs ys : List Nat) : Nat → Option Nat
  | 0 => cls .f32 0
  | k + 1 => vop .add .f32 (vdot zs ys k) (vop .mul .f32 (cls .f32 (zs.getD k 0)) (cls .f32 (ys.getD k 0)))
set_option maxHeartbeats 1000000 in
theorem dotS (a b : Option Addr) (n cap capb : Nat) (zs ys : List Nat) (w : World) (ha : FRow w a n zs) (hb : FRow w b n ys) (hn : n ≤ 1048576) :
    Calls Try.prog 27 #[.slice a n cap, .slice b n capb] w fun e w' => ∃ r, e = .returned (.float .f32 r) ∧ cls .f32 r = vdot zs ys n ∧ Drew w w' := by
  have HA := Lib.hid ha
  have HB := Lib.hid hb
  clear ha hb
  go_enter Try.func27, Try.ntmps27
  go_wp2
  go_loopw [5, 6] (fun sv iv w' => ∃ k q r : Nat, k ≤ n ∧ sv = .float .f32 r ∧ Hid (cls .f32 r = vdot zs ys k) ∧ iv = .int .i64 k ∧ w' = w.drewN q) (fun _ iv _ => n - (intOf iv).toNat)
  case atStart => exact ⟨0, 0, 0, by omega, rfl, Lib.hid rfl, rfl, rfl⟩
  case round =>
    obtain ⟨k, q, r, hk, rfl, HR, rfl, rfl⟩ := hrel
    by_cases hlt : k < n
    · rcases HA.out.2 with h0 | ⟨b1, o1, rfl, _, hc1⟩
      · omega
      rcases HB.out.2 with h0 | ⟨b2, o2, rfl, _, hc2⟩
      · omega
      have hck1 : w.cell? ⟨b1, o1 + k, none⟩ = some (.float .f32 (zs.getD k 0)) := hc1 k hlt
      have hck2 : w.cell? ⟨b2, o2 + k, none⟩ = some (.float .f32 (ys.getD k 0)) := hc2 k hlt
      have HS : ∀ w2 w3, Hid (cls .f32 (fres .add .f32 r (fres .mul .f32 (zs.getD k 0) (ys.getD k 0) w2) w3) = vdot zs ys (k + 1)) := fun w2 w3 => Lib.hid (by rw [fres_cls, fres_cls, HR.out]; rfl)
      generalize zs.getD k 0 = x at hck1 HS
      generalize ys.getD k 0 = y at hck2 HS
      clear hc1 hc2 HA HB
      go_wp2
      go_region_with fail
      all_goals
        go_wp2
        exact ⟨⟨k + 1, _, _, by omega, rfl, HS _ _, by first | rfl | go_num | (congr 1), rfl⟩, by show n - ((k : Int) + 1).toNat < n - (k : Int).toNat; omega⟩
    · obtain rfl : k = n := by omega
      go_wp2
      go_ret
      exact ⟨_, rfl, HR.out, Drew.mk _ _⟩
set_option maxHeartbeats 1000000 in
theorem dotN_spec (a b : Option Addr) (n cap capb : Nat) (zs ys : List Nat) (w : World) (ha : FRow w a n zs) (hb : FRow w b n ys) (hn : n ≤ 256) :
    Calls Try.prog 8 #[.slice a n cap, .slice b n capb] w fun e w' => ∃ r, e = .returned (.tuple #[.float .f32 r, .bool true]) ∧ cls .f32 r = vdot zs ys n ∧ Drew w w' := by
  have HA := Lib.hid ha
  have HB := Lib.hid hb
  clear ha hb
  have hd : decide ((n : Int) ≤ 256) = true := by simp; omega
  go_enter Try.func8, Try.ntmps8
  go_wp2_with (first | (go_at_call 27; refine (dotS _ _ _ _ _ zs ys _ HA.out HB.out (by omega)).mono ?_; rintro e w2 ⟨r, rfl, hr, q, rfl⟩; have HR := Lib.hid hr; clear hr) | go_in)
  go_ret2
  exact ⟨_, rfl, HR.out, Drew.mk _ _⟩
set_option maxHeartbeats 1000000 in
theorem dotN_spec' (a b : Option Addr) (n m cap capb : Nat) (w : World) (h : ¬ (n = m ∧ n ≤ 256)) (hn : n ≤ 1048576) :
    Calls Try.prog 8 #[.slice a n cap, .slice b m capb] w fun e w' => e = .returned (.tuple #[.float .f32 0, .bool false]) ∧ Drew w w' := by
  by_cases h256 : n ≤ 256
  · have hd : decide ((n : Int) ≤ 256) = true := by simp; omega
    have hne : ((n : Int) == m) = false := by simp; omega
    go_enter Try.func8, Try.ntmps8
    go_wp2
    go_ret2
    exact ⟨rfl, Drew.refl _⟩
  · have hd : decide ((n : Int) ≤ 256) = false := by simp; omega
    go_enter Try.func8, Try.ntmps8
    go_wp2
    go_ret2
    exact ⟨rfl, Drew.refl _⟩
set_option maxHeartbeats 1000000 in
theorem dotN_impl' (a b : Option Addr) (n m cap capb : Nat) (w : World) (h : ¬ (n = m ∧ n ≤ 256)) (hn : n ≤ 1048576) (hm : m ≤ 1048576) :
    Calls Try.prog 10 #[.slice a n cap, .slice b m capb] w fun e w' => e = .returned (.tuple #[.float .f32 0, .bool false]) ∧ Drew w w' := by
  by_cases he : n = m
  · subst he
    have h256 : 256 < n := by omega
    go_enter Try.func10, Try.ntmps10
    go_wp2
    go_ret2
    exact ⟨rfl, Drew.refl _⟩
  · have hne : ((n : Int) == m) = false := by simp; omega
    go_enter Try.func10, Try.ntmps10
    go_wp2
    go_ret2
    exact ⟨rfl, Drew.refl _⟩
set_option maxHeartbeats 1000000 in
theorem dotN_impl (a b : Option Addr) (n cap capb : Nat) (zs ys : List Nat) (w : World) (ha : FRow w a n zs) (hb : FRow w b n ys) (hn : n ≤ 256) :
    Calls Try.prog 10 #[.slice a n cap, .slice b n capb] w fun e w' => ∃ r, e = .returned (.tuple #[.float .f32 r, .bool true]) ∧ cls .f32 r = vdot zs ys n ∧ Drew w w' := by
  have HA := Lib.hid ha
  have HB := Lib.hid hb
  clear ha hb
  go_enter Try.func10, Try.ntmps10
  go_wp2
  go_loopw [6, 21] (fun sv iv w' => ∃ k q r : Nat, k ≤ n ∧ sv = .float .f32 r ∧ Hid (cls .f32 r = vdot zs ys k) ∧ iv = .int .i64 k ∧ w' = w.drewN q) (fun _ iv _ => n - (intOf iv).toNat)
  case atStart => exact ⟨0, 0, 0, by omega, rfl, Lib.hid rfl, rfl, rfl⟩
  case round =>
    obtain ⟨k, q, r, hk, rfl, HR, rfl, rfl⟩ := hrel
    by_cases hlt : k < n
    · rcases HA.out.2 with h0 | ⟨b1, o1, rfl, _, hc1⟩
      · omega
      rcases HB.out.2 with h0 | ⟨b2, o2, rfl, _, hc2⟩
      · omega
      have hck1 : w.cell? ⟨b1, o1 + k, none⟩ = some (.float .f32 (zs.getD k 0)) := hc1 k hlt
      have hck2 : w.cell? ⟨b2, o2 + k, none⟩ = some (.float .f32 (ys.getD k 0)) := hc2 k hlt
      have HS : ∀ w2 w3, Hid (cls .f32 (fres .add .f32 r (fres .mul .f32 (zs.getD k 0) (ys.getD k 0) w2) w3) = vdot zs ys (k + 1)) := fun w2 w3 => Lib.hid (by rw [fres_cls, fres_cls, HR.out]; rfl)
      generalize zs.getD k 0 = x at hck1 HS
      generalize ys.getD k 0 = y at hck2 HS
      clear hc1 hc2 HA HB
      go_wp2
      all_goals
        go_wp2
        exact ⟨⟨k + 1, _, _, by omega, rfl, HS _ _, by first | rfl | go_num | (congr 1), rfl⟩, by show n - ((k : Int) + 1).toNat < n - (k : Int).toNat; omega⟩
    · obtain rfl : k = n := by omega
      go_wp2
      go_ret2
      exact ⟨_, rfl, HR.out, Drew.mk _ _⟩
end Go.Proofs.Ytfpghmfkbfcifaa
