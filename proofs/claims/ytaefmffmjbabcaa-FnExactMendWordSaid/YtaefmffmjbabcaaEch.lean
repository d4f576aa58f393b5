
/- EchelonOf: the functions. -/
import Derived.Test.YtaefmffmjbabcaaEcw
namespace Go.Proofs.Ytaefmffmjbabcaa
open Go.Proofs.Ytaefmffmjbabcaa.Flo Go.RowKit Go.Proofs.Ytaefmffmjbabcaa.Pr

/-- The rows in steps. -/
def ecL (r : Int) (zs : List Int) (n : Nat) : List Int := rI n (ech (zN zs) r.toNat n r.toNat).f
set_option maxRecDepth 100000 in
set_option maxHeartbeats 2000000 in
theorem ech_implN (r : Int) (a : Option Addr) (n cap : Nat) (zs : List Int) (w : World) (h : IRow w a n zs) (hn : n ≤ 1048576) (hok : paB r zs n = false) : Calls Try.prog 111 #[.agg #[.int .i64 r, .slice a n cap]] w (YNone w) := by
  have HA2 : Hid (IRow ((w.alloc (.cells #[.int .i64 r, .slice a n cap] 28)).alloc (.cells #[.int .i64 0, .slice none 0 0] 28)) a n zs) := Lib.hid ((h.alloc _).alloc _)
  have HC := Lib.hid ((Kin.new (w := w) (x := .int .i64 r) (y := .slice a n cap) (T := 28)).below (below_alloc _ (.cells #[.int .i64 0, .slice none 0 0] 28)))
  have HR : Hid (Kin ((w.alloc (.cells #[.int .i64 r, .slice a n cap] 28)).alloc (.cells #[.int .i64 0, .slice none 0 0] 28)) (w.heap.size + 1) (.int .i64 0) (.slice none 0 0)) := Lib.hid (Kin.new' (by simp))
  have HOK := Lib.hid hok
  clear h hok
  go_enter Try.func111, Try.ntmps111
  go_wp2_with (first | (go_at_call 149; refine (vp_impl r _ n cap zs _ HA2.out hn).mono ?_; rw [HOK.out]; rintro e w2 ⟨rfl, hd⟩; have HC2 := Lib.hid (HC.out.below hd); have HR2 := Lib.hid (HR.out.below hd); have HB := Lib.hid (Below.next (Below.alloc (below_alloc _ _) (by simp) _) hd : Below w.heap.size w w2); obtain ⟨hP, hp0, hp1, hpf0, hpf1⟩ := HC2.out; obtain ⟨hQ, hq0, hq1, hqf0, hqf1⟩ := HR2.out; clear hd) | fail)
  obtain ⟨_, hr1, hr2⟩ := HR2.out.res (.int .i64 0) (.slice none 0 0)
  exact bodyPost_ret (v := .tuple #[.agg #[.int .i64 0, .slice none 0 0], .bool false]) (by simp [results, Try.results111, go_sem, hr1, hr2]) rfl
    ⟨rfl, Below.setCell (Below.setCell HB.out (by simp) _) (by simp) _⟩
theorem ech_implY (r : Int) (a : Option Addr) (n cap : Nat) (zs : List Int) (w : World) (h : IRow w a n zs) (hn : n ≤ 1048576) (hok : paB r zs n = true) : Calls Try.prog 111 #[.agg #[.int .i64 r, .slice a n cap]] w (YPost r n (ecL r zs n) w) := ech_impl r a n cap zs w h hn hok
end Go.Proofs.Ytaefmffmjbabcaa
