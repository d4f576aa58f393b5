/- PutCount: the functions (model, none). -/
import Derived.Test.YtopcmbcdmceieaaPcw
namespace Go.Proofs.Ytopcmbcdmceieaa
open Go.Proofs.Ytopcmbcdmceieaa.Flo Go.RowKit

set_option maxRecDepth 100000 in
set_option maxHeartbeats 4000000 in
theorem pc_spec_a (r : Int) (a : Option Addr) (n cap : Nat) (zs : List Int) (l b : Int) (w : World) (h : IRow w a n zs) (hn : n ≤ 1048576) (hok : coB r zs n = false) : Calls Try.prog 33 #[.agg #[.int .i64 r, .slice a n cap], .int .i64 l, .int .i64 b] w (KNone w) := by
  have HA := Lib.hid h
  have HC := Lib.hid ((Kin.new (w := w) (x := .int .i64 r) (y := .slice a n cap) (T := 30)).below (below_alloc _ (.cells #[.int .i64 0, .slice none 0 0] 30)))
  have HR : Hid (Kin ((w.alloc (.cells #[.int .i64 r, .slice a n cap] 30)).alloc (.cells #[.int .i64 0, .slice none 0 0] 30)) (w.heap.size + 1) (.int .i64 0) (.slice none 0 0)) := Lib.hid (Kin.new' (by simp))
  have HA2 : Hid (IRow ((w.alloc (.cells #[.int .i64 r, .slice a n cap] 30)).alloc (.cells #[.int .i64 0, .slice none 0 0] 30)) a n zs) := Lib.hid ((h.alloc _).alloc _)
  have HOK := Lib.hid hok
  clear h hok
  go_enter Try.func33, Try.ntmps33
  go_wp2_with (first | (go_at_call 61; refine (co_spec _ r a n cap zs _ HA2.out hn HC.out.2.1 HC.out.2.2.1).mono ?_; rw [HOK.out]; rintro e w2 ⟨rfl, hd⟩; have HC2 := Lib.hid (HC.out.below hd.below); have HR2 := Lib.hid (HR.out.below hd.below); have HB := Lib.hid (Below.next (Below.alloc (below_alloc _ _) (by simp) _) hd.below : Below w.heap.size w w2); obtain ⟨hP, hp0, hp1, hpf0, hpf1⟩ := HC2.out; obtain ⟨hQ, hq0, hq1, hqf0, hqf1⟩ := HR2.out; clear hd) | go_in)
  obtain ⟨_, hr1, hr2⟩ := HR2.out.res (.int .i64 0) (.slice none 0 0)
  exact bodyPost_ret (v := .tuple #[.agg #[.int .i64 0, .slice none 0 0], .bool false]) (by simp [results, Try.results33, go_sem, hr1, hr2]) rfl
    ⟨rfl, Below.setCell (Below.setCell HB.out (by simp) _) (by simp) _⟩
set_option maxRecDepth 100000 in
set_option maxHeartbeats 4000000 in
theorem pc_spec_b0 (r : Int) (a : Option Addr) (n cap : Nat) (zs : List Int) (l b : Int) (w : World) (h : IRow w a n zs) (hn : n ≤ 1048576) (hok : coB r zs n = true) (hl : ¬ (0 ≤ l ∧ l ≤ r - 1)) : Calls Try.prog 33 #[.agg #[.int .i64 r, .slice a n cap], .int .i64 l, .int .i64 b] w (KNone w) := by
  have HA := Lib.hid h
  have HC := Lib.hid ((Kin.new (w := w) (x := .int .i64 r) (y := .slice a n cap) (T := 30)).below (below_alloc _ (.cells #[.int .i64 0, .slice none 0 0] 30)))
  have HR : Hid (Kin ((w.alloc (.cells #[.int .i64 r, .slice a n cap] 30)).alloc (.cells #[.int .i64 0, .slice none 0 0] 30)) (w.heap.size + 1) (.int .i64 0) (.slice none 0 0)) := Lib.hid (Kin.new' (by simp))
  have HA2 : Hid (IRow ((w.alloc (.cells #[.int .i64 r, .slice a n cap] 30)).alloc (.cells #[.int .i64 0, .slice none 0 0] 30)) a n zs) := Lib.hid ((h.alloc _).alloc _)
  have HOK := Lib.hid hok
  have hr16 := co_out hok
  have hwr : IntKind.i64.wrap (r - 1) = r - 1 := IntWalk.i64_in _ (by omega)
  have HL := Lib.hid hl
  clear h hok hr16
  go_enter Try.func33, Try.ntmps33
  go_wp2_with (first | (go_at_call 61; refine (co_spec _ r a n cap zs _ HA2.out hn HC.out.2.1 HC.out.2.2.1).mono ?_; rw [HOK.out]; rintro e w2 ⟨rfl, hd⟩; have HC2 := Lib.hid (HC.out.below hd.below); have HR2 := Lib.hid (HR.out.below hd.below); have HB := Lib.hid (Below.next (Below.alloc (below_alloc _ _) (by simp) _) hd.below : Below w.heap.size w w2); obtain ⟨hP, hp0, hp1, hpf0, hpf1⟩ := HC2.out; obtain ⟨hQ, hq0, hq1, hqf0, hqf1⟩ := HR2.out; clear hd) | (go_at_call 69; with_reducible refine (in_false l 0 (r - 1) _ HL.out).mono ?_; rintro e w' ⟨rfl, hw⟩; have hw := hw.symm; subst hw) | go_in)
  obtain ⟨_, hr1, hr2⟩ := HR2.out.res (.int .i64 0) (.slice none 0 0)
  exact bodyPost_ret (v := .tuple #[.agg #[.int .i64 0, .slice none 0 0], .bool false]) (by simp [results, Try.results33, go_sem, hr1, hr2]) rfl
    ⟨rfl, Below.setCell (Below.setCell HB.out (by simp) _) (by simp) _⟩
set_option maxRecDepth 100000 in
set_option maxHeartbeats 4000000 in
theorem pc_spec_b1 (r : Int) (a : Option Addr) (n cap : Nat) (zs : List Int) (l b : Int) (w : World) (h : IRow w a n zs) (hn : n ≤ 1048576) (hok : coB r zs n = true) (hl : 0 ≤ l ∧ l ≤ r - 1) (hb : ¬ (0 ≤ b ∧ b ≤ 16384)) : Calls Try.prog 33 #[.agg #[.int .i64 r, .slice a n cap], .int .i64 l, .int .i64 b] w (KNone w) := by
  have HA := Lib.hid h
  have HC := Lib.hid ((Kin.new (w := w) (x := .int .i64 r) (y := .slice a n cap) (T := 30)).below (below_alloc _ (.cells #[.int .i64 0, .slice none 0 0] 30)))
  have HR : Hid (Kin ((w.alloc (.cells #[.int .i64 r, .slice a n cap] 30)).alloc (.cells #[.int .i64 0, .slice none 0 0] 30)) (w.heap.size + 1) (.int .i64 0) (.slice none 0 0)) := Lib.hid (Kin.new' (by simp))
  have HA2 : Hid (IRow ((w.alloc (.cells #[.int .i64 r, .slice a n cap] 30)).alloc (.cells #[.int .i64 0, .slice none 0 0] 30)) a n zs) := Lib.hid ((h.alloc _).alloc _)
  have HOK := Lib.hid hok
  have hr16 := co_out hok
  have hwr : IntKind.i64.wrap (r - 1) = r - 1 := IntWalk.i64_in _ (by omega)
  have HL := Lib.hid hl
  have HBB := Lib.hid hb
  clear h hok hr16
  go_enter Try.func33, Try.ntmps33
  go_wp2_with (first | (go_at_call 61; refine (co_spec _ r a n cap zs _ HA2.out hn HC.out.2.1 HC.out.2.2.1).mono ?_; rw [HOK.out]; rintro e w2 ⟨rfl, hd⟩; have HC2 := Lib.hid (HC.out.below hd.below); have HR2 := Lib.hid (HR.out.below hd.below); have HB := Lib.hid (Below.next (Below.alloc (below_alloc _ _) (by simp) _) hd.below : Below w.heap.size w w2); obtain ⟨hP, hp0, hp1, hpf0, hpf1⟩ := HC2.out; obtain ⟨hQ, hq0, hq1, hqf0, hqf1⟩ := HR2.out; clear hd) | (go_at_call 69; with_reducible refine (in_true l 0 (r - 1) _ HL.out.1 HL.out.2).mono ?_; rintro e w' ⟨rfl, hw⟩; have hw := hw.symm; subst hw) | (go_at_call 69; with_reducible refine (in_false b 0 16384 _ HBB.out).mono ?_; rintro e w' ⟨rfl, hw⟩; have hw := hw.symm; subst hw) | go_in)
  obtain ⟨_, hr1, hr2⟩ := HR2.out.res (.int .i64 0) (.slice none 0 0)
  exact bodyPost_ret (v := .tuple #[.agg #[.int .i64 0, .slice none 0 0], .bool false]) (by simp [results, Try.results33, go_sem, hr1, hr2]) rfl
    ⟨rfl, Below.setCell (Below.setCell HB.out (by simp) _) (by simp) _⟩
end Go.Proofs.Ytopcmbcdmceieaa
