
/- SameParity: the functions. -/
import Derived.Test.YtdmdgkjmecgpeaaScx
import Derived.Test.YtdmdgkjmecgpeaaPig
import Derived.Deep.QuietTactic
import Derived.BigQuiet
namespace Go.Proofs.Ytdmdgkjmecgpeaa
open Go.Proofs.Ytdmdgkjmecgpeaa.Flo Go.RowKit

set_option maxRecDepth 100000 in
set_option maxHeartbeats 4000000 in
theorem sm6 (r : Int) (a : Option Addr) (n cap : Nat) (zs : List Int) (q : Int) (b : Option Addr) (m capb : Nat) (ys : List Int) (w : World) (s t : Nat) (ha : IRow w a n zs) (hb : IRow w b m ys) (hn : n ≤ 1048576) (hm : m ≤ 1048576) (hs0 : w.cell? ⟨s, 0, none⟩ = some (.int .i64 r)) (hs1 : w.cell? ⟨s, 1, none⟩ = some (.slice a n cap)) (ht0 : w.cell? ⟨t, 0, none⟩ = some (.int .i64 q)) (ht1 : w.cell? ⟨t, 1, none⟩ = some (.slice b m capb)) :
    Calls Try.prog 77 #[.pointer (some ⟨s, 0, none⟩), .pointer (some ⟨t, 0, none⟩)] w fun e w' => e = .returned (.bool (skB r q zs ys n m)) ∧ Drew w w' := by
  have HA := Lib.hid ha
  have HB := Lib.hid hb
  clear ha hb
  by_cases hr : r = q
  · subst hr
    have HF := Lib.hid (sk_yes (zs := zs) (ys := ys) (n := n) (m := m) r)
    have hnn : (r == r) = true := by simp
    go_enter Try.func77, Try.ntmps77
    go_wp2
    go_quiet ((go_at_call 76; exact Calls.quiet_of (el_spec _ _ n m _ _ zs ys _ (HA.out.drewN _) (HB.out.drewN _) hn hm)))
    go_wp2
    go_ret
    exact ⟨ret_bool2 HF.out.symm, by first | exact Drew.mk _ _ | exact ⟨_, rfl⟩⟩
  · have HF := Lib.hid (sk_no (zs := zs) (ys := ys) (n := n) (m := m) hr)
    have hnn : (r == q) = false := by simpa using hr
    go_enter Try.func77, Try.ntmps77
    go_wp2
    go_quiet (fail)
    go_wp2
    go_ret
    exact ⟨ret_bool2 HF.out.symm, by first | exact Drew.mk _ _ | exact ⟨_, rfl⟩⟩
set_option maxHeartbeats 4000000 in
theorem sy_impl (r : Int) (a : Option Addr) (n cap : Nat) (zs : List Int) (q : Int) (b : Option Addr) (m capb : Nat) (ys : List Int) (w : World) (ha : IRow w a n zs) (hb : IRow w b m ys) (hn : n ≤ 1048576) (hm : m ≤ 1048576) :
    Calls Try.prog 81 #[.agg #[.int .i64 r, .slice a n cap], .agg #[.int .i64 q, .slice b m capb]] w fun e w' => e = .returned (.bool (skB r q zs ys n m)) ∧ Below w.heap.size w w' := by
  have HA := Lib.hid ((ha.alloc (.cells #[.int .i64 r, .slice a n cap] 33)).alloc (.cells #[.int .i64 q, .slice b m capb] 33))
  have HB := Lib.hid ((hb.alloc (.cells #[.int .i64 r, .slice a n cap] 33)).alloc (.cells #[.int .i64 q, .slice b m capb] 33))
  clear ha hb
  by_cases hr : r = q
  · subst hr
    have HF := Lib.hid (sk_yes (zs := zs) (ys := ys) (n := n) (m := m) r)
    have hnn : (r == r) = true := by simp
    go_enter Try.func81, Try.ntmps81
    go_wp2_with (first | (go_at_call 157; refine (el_impl _ _ n m _ _ zs ys _ HA.out HB.out hn hm).mono ?_; rintro e w' ⟨rfl, q, rfl⟩) | go_in)
    go_ret
    exact ⟨ret_bool2 HF.out.symm, Below.drewN' (Below.alloc (belowA _ _) (by simp) _) _⟩
  · have HF := Lib.hid (sk_no (zs := zs) (ys := ys) (n := n) (m := m) hr)
    have hnn : (r == q) = false := by simpa using hr
    go_enter Try.func81, Try.ntmps81
    go_wp2
    go_ret
    exact ⟨ret_bool2 HF.out.symm, Below.alloc (belowA _ _) (by simp) _⟩
end Go.Proofs.Ytdmdgkjmecgpeaa
