
/- JoinShares: both sides. -/
import Derived.Test.YtaefmffmjbabcaaJst
set_option linter.unusedVariables false
namespace Go.Proofs.Ytaefmffmjbabcaa
open Go.Proofs.Ytaefmffmjbabcaa.Flo Go.RowKit

def jsV (p : Int) (zs ys : List Int) (n : Nat) (x : Int) : Int := Pol.lg p (fun k => zs.getD k 0) (fun k => ys.getD k 0) n x n
theorem ho_js {p : Int} {zs ys : List Int} {n : Nat} {th no : Nat → Int} (hp : p ∈ Pol.prs) (hn : n ≤ 8) (hz : letP zs p n) (hd : dsP zs n) (h : Pol.Nwt p (fun k => zs.getD k 0) (fun k => ys.getD k 0) n th no) (x : Int) : Pol.ho p th x 8 8 = jsV p zs ys n x :=
  Pol.both hp hn h hz (ds_ne hd) x
set_option maxRecDepth 100000 in
set_option maxHeartbeats 4000000 in
theorem jsSN (p : Int) (a : Option Addr) (n cap : Nat) (zs : List Int) (b : Option Addr) (m capb : Nat) (ys : List Int) (w : World) (ha : IRow w a n zs) (hb : IRow w b m ys) (hn : n ≤ 1048576) (hm : m ≤ 1048576) (hok : shB p zs n ys m = false) :
    Calls Try.prog 29 #[.int .i64 p, .slice a n cap, .slice b m capb] w fun e w' => e = .returned (.tuple #[.int .i64 0, .bool false]) ∧ Below w.heap.size w w' := by
  have HA := Lib.hid ha
  have HB := Lib.hid hb
  have HS : Hid (∀ w2, IRow w2 a n zs → IRow w2 b m ys → Calls Try.prog 74 #[.int .i64 p, .slice a n cap, .slice b m capb] w2 fun e w' => e = .returned (.bool false) ∧ Below w2.heap.size w2 w') := Lib.hid (fun w2 h1 h2 => by have := sh_spec p a n cap zs b m capb ys w2 h1 h2 hn hm; rw [hok] at this; exact this)
  clear ha hb
  go_enter Try.func29, Try.ntmps29
  go_wp2_with (first | (go_at_call 74; (with_reducible refine (HS.out _ HA.out HB.out).mono ?_); rintro e w2 ⟨rfl, hb⟩; have HW := Lib.hid hb; clear hb) | fail)
  exact bodyPost_ret (v := .tuple #[.int .i64 0, .bool false]) (by simp [results, Try.results29, go_sem]) rfl ⟨rfl, HW.out⟩
set_option maxRecDepth 100000 in
set_option maxHeartbeats 4000000 in
theorem jsSY (p : Int) (a : Option Addr) (n cap : Nat) (zs : List Int) (b : Option Addr) (m capb : Nat) (ys : List Int) (w : World) (ha : IRow w a n zs) (hb : IRow w b m ys) (hn : n ≤ 1048576) (hm : m ≤ 1048576) (hok : shB p zs n ys m = true) :
    Calls Try.prog 29 #[.int .i64 p, .slice a n cap, .slice b m capb] w fun e w' => e = .returned (.tuple #[.int .i64 (jsV p zs ys n 0), .bool true]) ∧ Below w.heap.size w w' := by
  have HA := Lib.hid ha
  have HB := Lib.hid hb
  obtain ⟨hp, ⟨hz, hn1, hn8⟩, hy, rfl, hd⟩ := shB_yes hok
  have HS : Hid (∀ w2, IRow w2 a n zs → IRow w2 b n ys → Calls Try.prog 74 #[.int .i64 p, .slice a n cap, .slice b n capb] w2 fun e w' => e = .returned (.bool true) ∧ Below w2.heap.size w2 w') := Lib.hid (fun w2 h1 h2 => by have := sh_spec p a n cap zs b n capb ys w2 h1 h2 hn hm; rw [hok] at this; exact this)
  have HV : Hid (∀ w2, IRow w2 a n zs → IRow w2 b n ys → Calls Try.prog 75 #[.int .i64 p, .slice a n cap, .slice b n capb, .int .i64 0] w2 fun e w' => e = .returned (.int .i64 (jsV p zs ys n 0)) ∧ Below w2.heap.size w2 w') := Lib.hid (fun w2 h1 h2 => (ps_spec p 0 a n cap zs b n capb ys w2 h1 h2 (pr_in hp) hn8 (Nat.le_refl _) (by have := pr_le hp; omega) hz hy (ds_ne hd)).mono (fun e w' ⟨h3, q, h4⟩ => ⟨h3, by rw [h4]; exact Below.drewN' (Below.refl _ _) _⟩))
  clear ha hb hok hp hz hy hd
  go_enter Try.func29, Try.ntmps29
  go_wp2_with (first | (go_at_call 74; (with_reducible refine (HS.out _ HA.out HB.out).mono ?_); rintro e w2 ⟨rfl, hb⟩; have HW := Lib.hid hb; replace HA := Lib.hid (HA.out.below hb); replace HB := Lib.hid (HB.out.below hb); clear hb) | (go_at_call 75; (with_reducible refine (HV.out _ HA.out HB.out).mono ?_); rintro e w3 ⟨rfl, hb⟩; have HW3 := Lib.hid (Below.next HW.out hb); clear hb) | fail)
  exact bodyPost_ret (v := .tuple #[.int .i64 (jsV p zs ys n 0), .bool true]) (by simp [results, Try.results29, go_sem]) rfl ⟨rfl, HW3.out⟩
set_option maxRecDepth 100000 in
set_option maxHeartbeats 4000000 in
theorem jsIN (p : Int) (a : Option Addr) (n cap : Nat) (zs : List Int) (b : Option Addr) (m capb : Nat) (ys : List Int) (w : World) (ha : IRow w a n zs) (hb : IRow w b m ys) (hn : n ≤ 1048576) (hm : m ≤ 1048576) (hcp : n ≤ cap) (hok : shB p zs n ys m = false) :
    Calls Try.prog 30 #[.int .i64 p, .slice a n cap, .slice b m capb] w fun e w' => e = .returned (.tuple #[.int .i64 0, .bool false]) ∧ Below w.heap.size w w' := by
  have HA := Lib.hid ha
  have HB := Lib.hid hb
  have HS : Hid (∀ w2, IRow w2 a n zs → IRow w2 b m ys → Calls Try.prog 76 #[.int .i64 p, .slice a n cap, .slice b m capb] w2 fun e w' => e = .returned (.bool false) ∧ w2 = w') := Lib.hid (fun w2 h1 h2 => by have := sh_impl p a n cap zs b m capb ys w2 h1 h2 hn hm hcp; rw [hok] at this; exact this)
  clear ha hb
  go_enter Try.func30, Try.ntmps30
  go_wp2_with (first | (go_at_call 76; (with_reducible refine (HS.out _ HA.out HB.out).mono ?_); rintro e w' ⟨rfl, hw⟩; subst hw) | fail)
  exact bodyPost_ret (v := .tuple #[.int .i64 0, .bool false]) (by simp [results, Try.results30, go_sem]) rfl ⟨rfl, Below.refl _ _⟩
set_option maxRecDepth 100000 in
set_option maxHeartbeats 4000000 in
theorem jsIY (p : Int) (a : Option Addr) (n cap : Nat) (zs : List Int) (b : Option Addr) (m capb : Nat) (ys : List Int) (w : World) (ha : IRow w a n zs) (hb : IRow w b m ys) (hn : n ≤ 1048576) (hm : m ≤ 1048576) (hcp : n ≤ cap) (hok : shB p zs n ys m = true) :
    Calls Try.prog 30 #[.int .i64 p, .slice a n cap, .slice b m capb] w fun e w' => e = .returned (.tuple #[.int .i64 (jsV p zs ys n 0), .bool true]) ∧ Below w.heap.size w w' := by
  have HA := Lib.hid ha
  have HB := Lib.hid hb
  obtain ⟨hp, ⟨hz, hn1, hn8⟩, hy, rfl, hd⟩ := shB_yes hok
  have hp7 := pr_le hp
  have HS : Hid (∀ w2, IRow w2 a n zs → IRow w2 b n ys → Calls Try.prog 76 #[.int .i64 p, .slice a n cap, .slice b n capb] w2 fun e w' => e = .returned (.bool true) ∧ w2 = w') := Lib.hid (fun w2 h1 h2 => by have := sh_impl p a n cap zs b n capb ys w2 h1 h2 hn hm hcp; rw [hok] at this; exact this)
  have HT : Hid (∀ w2, IRow w2 a n zs → IRow w2 b n ys → Calls Try.prog 77 #[.int .i64 p, .slice a n cap, .slice b n capb] w2 fun e w' => ∃ th, e = .returned (.agg (a8 th)) ∧ Below w2.heap.size w2 w' ∧ (∀ w3, Calls Try.prog 78 #[.agg (a8 th), .int .i64 p, .int .i64 0] w3 fun e w' => e = .returned (.int .i64 (jsV p zs ys n 0)) ∧ Below w3.heap.size w3 w')) := Lib.hid (fun w2 h1 h2 => (pt_impl8 p a n cap zs b n capb ys w2 h1 h2 (pr_in hp) hn8 (Nat.le_refl _) hz hy (ds_ne hd)).mono (fun e w' ⟨th, no, h3, h4, h5⟩ => ⟨th, h3, h4, fun w3 => by rw [← ho_js (pr_in hp) hn8 hz hd h5 0]; exact at_impl p 0 th w3 (by omega) (by omega) (by omega) (by omega) (fun k hk => by have := h5.tin k hk; omega)⟩))
  clear ha hb hok hp hz hy hd
  go_enter Try.func30, Try.ntmps30
  go_wp2_with (first | (go_at_call 76; (with_reducible refine (HS.out _ HA.out HB.out).mono ?_); rintro e w' ⟨rfl, hw⟩; subst hw) | (go_at_call 77; (with_reducible refine (HT.out _ HA.out HB.out).mono ?_); rintro e w2 ⟨th, rfl, hb, hat⟩; have HW := Lib.hid hb; have HAT := Lib.hid hat; clear hb hat; generalize a8 th = T8 at HAT ⊢) | (go_at_call 78; (with_reducible refine (HAT.out _).mono ?_); rintro e w3 ⟨rfl, hb⟩; have HW3 := Lib.hid (Below.next HW.out hb); clear hb) | fail)
  exact bodyPost_ret (v := .tuple #[.int .i64 (jsV p zs ys n 0), .bool true]) (by simp [results, Try.results30, go_sem]) rfl ⟨rfl, HW3.out⟩
end Go.Proofs.Ytaefmffmjbabcaa
