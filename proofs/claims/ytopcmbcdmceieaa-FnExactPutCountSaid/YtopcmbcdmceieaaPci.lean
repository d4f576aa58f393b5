/- PutCount: the functions (program). -/
import Derived.Test.YtopcmbcdmceieaaPcw
namespace Go.Proofs.Ytopcmbcdmceieaa
open Go.Proofs.Ytopcmbcdmceieaa.Flo Go.RowKit

set_option maxRecDepth 100000 in
set_option maxHeartbeats 4000000 in
theorem pc_impl_a (r : Int) (a : Option Addr) (n cap : Nat) (zs : List Int) (l b : Int) (w : World) (h : IRow w a n zs) (hn : n ≤ 1048576) (hok : coB r zs n = false) : Calls Try.prog 34 #[.agg #[.int .i64 r, .slice a n cap], .int .i64 l, .int .i64 b] w (KNone w) := by
  have HA := Lib.hid h
  have HC := Lib.hid ((Kin.new (w := w) (x := .int .i64 r) (y := .slice a n cap) (T := 30)).below (below_alloc _ (.cells #[.int .i64 0, .slice none 0 0] 30)))
  have HR : Hid (Kin ((w.alloc (.cells #[.int .i64 r, .slice a n cap] 30)).alloc (.cells #[.int .i64 0, .slice none 0 0] 30)) (w.heap.size + 1) (.int .i64 0) (.slice none 0 0)) := Lib.hid (Kin.new' (by simp))
  have HA2 : Hid (IRow ((w.alloc (.cells #[.int .i64 r, .slice a n cap] 30)).alloc (.cells #[.int .i64 0, .slice none 0 0] 30)) a n zs) := Lib.hid ((h.alloc _).alloc _)
  have HOK := Lib.hid hok
  clear h hok
  go_enter Try.func34, Try.ntmps34
  go_wp2_with (first | (go_at_call 22; refine (vco_impl r a n cap zs _ HA2.out hn).mono ?_; rw [HOK.out]; rintro e w2 ⟨rfl, hd⟩; have HC2 := Lib.hid (HC.out.below hd); have HR2 := Lib.hid (HR.out.below hd); have HB := Lib.hid (Below.next (Below.alloc (below_alloc _ _) (by simp) _) hd : Below w.heap.size w w2); obtain ⟨hP, hp0, hp1, hpf0, hpf1⟩ := HC2.out; obtain ⟨hQ, hq0, hq1, hqf0, hqf1⟩ := HR2.out; clear hd) | fail)
  obtain ⟨_, hr1, hr2⟩ := HR2.out.res (.int .i64 0) (.slice none 0 0)
  exact bodyPost_ret (v := .tuple #[.agg #[.int .i64 0, .slice none 0 0], .bool false]) (by simp [results, Try.results34, go_sem, hr1, hr2]) rfl
    ⟨rfl, Below.setCell (Below.setCell HB.out (by simp) _) (by simp) _⟩
set_option maxRecDepth 100000 in
set_option maxHeartbeats 4000000 in
theorem pc_impl_b0 (r : Int) (a : Option Addr) (n cap : Nat) (zs : List Int) (l b : Int) (w : World) (h : IRow w a n zs) (hn : n ≤ 1048576) (hok : coB r zs n = true) (hl : l < 0) : Calls Try.prog 34 #[.agg #[.int .i64 r, .slice a n cap], .int .i64 l, .int .i64 b] w (KNone w) := by
  have HA := Lib.hid h
  have HC := Lib.hid ((Kin.new (w := w) (x := .int .i64 r) (y := .slice a n cap) (T := 30)).below (below_alloc _ (.cells #[.int .i64 0, .slice none 0 0] 30)))
  have HR : Hid (Kin ((w.alloc (.cells #[.int .i64 r, .slice a n cap] 30)).alloc (.cells #[.int .i64 0, .slice none 0 0] 30)) (w.heap.size + 1) (.int .i64 0) (.slice none 0 0)) := Lib.hid (Kin.new' (by simp))
  have HA2 : Hid (IRow ((w.alloc (.cells #[.int .i64 r, .slice a n cap] 30)).alloc (.cells #[.int .i64 0, .slice none 0 0] 30)) a n zs) := Lib.hid ((h.alloc _).alloc _)
  have HOK := Lib.hid hok
  have d0 : decide (l < 0) = true := decide_eq_true hl
  clear h hok
  go_enter Try.func34, Try.ntmps34
  go_wp2_with (first | (go_at_call 22; refine (vco_impl r a n cap zs _ HA2.out hn).mono ?_; rw [HOK.out]; rintro e w2 ⟨rfl, hd⟩; have HC2 := Lib.hid (HC.out.below hd); have HR2 := Lib.hid (HR.out.below hd); have HB := Lib.hid (Below.next (Below.alloc (below_alloc _ _) (by simp) _) hd : Below w.heap.size w w2); obtain ⟨hP, hp0, hp1, hpf0, hpf1⟩ := HC2.out; obtain ⟨hQ, hq0, hq1, hqf0, hqf1⟩ := HR2.out; clear hd) | fail)
  obtain ⟨_, hr1, hr2⟩ := HR2.out.res (.int .i64 0) (.slice none 0 0)
  exact bodyPost_ret (v := .tuple #[.agg #[.int .i64 0, .slice none 0 0], .bool false]) (by simp [results, Try.results34, go_sem, hr1, hr2]) rfl
    ⟨rfl, Below.setCell (Below.setCell HB.out (by simp) _) (by simp) _⟩
set_option maxRecDepth 100000 in
set_option maxHeartbeats 4000000 in
theorem pc_impl_b1 (r : Int) (a : Option Addr) (n cap : Nat) (zs : List Int) (l b : Int) (w : World) (h : IRow w a n zs) (hn : n ≤ 1048576) (hok : coB r zs n = true) (hl0 : 0 ≤ l) (hl : r ≤ l) : Calls Try.prog 34 #[.agg #[.int .i64 r, .slice a n cap], .int .i64 l, .int .i64 b] w (KNone w) := by
  have HA := Lib.hid h
  have HC := Lib.hid ((Kin.new (w := w) (x := .int .i64 r) (y := .slice a n cap) (T := 30)).below (below_alloc _ (.cells #[.int .i64 0, .slice none 0 0] 30)))
  have HR : Hid (Kin ((w.alloc (.cells #[.int .i64 r, .slice a n cap] 30)).alloc (.cells #[.int .i64 0, .slice none 0 0] 30)) (w.heap.size + 1) (.int .i64 0) (.slice none 0 0)) := Lib.hid (Kin.new' (by simp))
  have HA2 : Hid (IRow ((w.alloc (.cells #[.int .i64 r, .slice a n cap] 30)).alloc (.cells #[.int .i64 0, .slice none 0 0] 30)) a n zs) := Lib.hid ((h.alloc _).alloc _)
  have HOK := Lib.hid hok
  have d0 : decide (l < 0) = false := decide_eq_false (by omega)
  have d1 : decide (r ≤ l) = true := decide_eq_true hl
  clear h hok
  go_enter Try.func34, Try.ntmps34
  go_wp2_with (first | (go_at_call 22; refine (vco_impl r a n cap zs _ HA2.out hn).mono ?_; rw [HOK.out]; rintro e w2 ⟨rfl, hd⟩; have HC2 := Lib.hid (HC.out.below hd); have HR2 := Lib.hid (HR.out.below hd); have HB := Lib.hid (Below.next (Below.alloc (below_alloc _ _) (by simp) _) hd : Below w.heap.size w w2); obtain ⟨hP, hp0, hp1, hpf0, hpf1⟩ := HC2.out; obtain ⟨hQ, hq0, hq1, hqf0, hqf1⟩ := HR2.out; clear hd) | fail)
  obtain ⟨_, hr1, hr2⟩ := HR2.out.res (.int .i64 0) (.slice none 0 0)
  exact bodyPost_ret (v := .tuple #[.agg #[.int .i64 0, .slice none 0 0], .bool false]) (by simp [results, Try.results34, go_sem, hr1, hr2]) rfl
    ⟨rfl, Below.setCell (Below.setCell HB.out (by simp) _) (by simp) _⟩
set_option maxRecDepth 100000 in
set_option maxHeartbeats 4000000 in
theorem pc_impl_b2 (r : Int) (a : Option Addr) (n cap : Nat) (zs : List Int) (l b : Int) (w : World) (h : IRow w a n zs) (hn : n ≤ 1048576) (hok : coB r zs n = true) (hl0 : 0 ≤ l) (hl : l < r) (hb : b < 0) : Calls Try.prog 34 #[.agg #[.int .i64 r, .slice a n cap], .int .i64 l, .int .i64 b] w (KNone w) := by
  have HA := Lib.hid h
  have HC := Lib.hid ((Kin.new (w := w) (x := .int .i64 r) (y := .slice a n cap) (T := 30)).below (below_alloc _ (.cells #[.int .i64 0, .slice none 0 0] 30)))
  have HR : Hid (Kin ((w.alloc (.cells #[.int .i64 r, .slice a n cap] 30)).alloc (.cells #[.int .i64 0, .slice none 0 0] 30)) (w.heap.size + 1) (.int .i64 0) (.slice none 0 0)) := Lib.hid (Kin.new' (by simp))
  have HA2 : Hid (IRow ((w.alloc (.cells #[.int .i64 r, .slice a n cap] 30)).alloc (.cells #[.int .i64 0, .slice none 0 0] 30)) a n zs) := Lib.hid ((h.alloc _).alloc _)
  have HOK := Lib.hid hok
  have d0 : decide (l < 0) = false := decide_eq_false (by omega)
  have d1 : decide (r ≤ l) = false := decide_eq_false (by omega)
  have d2 : decide (b < 0) = true := decide_eq_true hb
  clear h hok
  go_enter Try.func34, Try.ntmps34
  go_wp2_with (first | (go_at_call 22; refine (vco_impl r a n cap zs _ HA2.out hn).mono ?_; rw [HOK.out]; rintro e w2 ⟨rfl, hd⟩; have HC2 := Lib.hid (HC.out.below hd); have HR2 := Lib.hid (HR.out.below hd); have HB := Lib.hid (Below.next (Below.alloc (below_alloc _ _) (by simp) _) hd : Below w.heap.size w w2); obtain ⟨hP, hp0, hp1, hpf0, hpf1⟩ := HC2.out; obtain ⟨hQ, hq0, hq1, hqf0, hqf1⟩ := HR2.out; clear hd) | fail)
  obtain ⟨_, hr1, hr2⟩ := HR2.out.res (.int .i64 0) (.slice none 0 0)
  exact bodyPost_ret (v := .tuple #[.agg #[.int .i64 0, .slice none 0 0], .bool false]) (by simp [results, Try.results34, go_sem, hr1, hr2]) rfl
    ⟨rfl, Below.setCell (Below.setCell HB.out (by simp) _) (by simp) _⟩
set_option maxRecDepth 100000 in
set_option maxHeartbeats 4000000 in
theorem pc_impl_b3 (r : Int) (a : Option Addr) (n cap : Nat) (zs : List Int) (l b : Int) (w : World) (h : IRow w a n zs) (hn : n ≤ 1048576) (hok : coB r zs n = true) (hl0 : 0 ≤ l) (hl : l < r) (hb : 16384 < b) : Calls Try.prog 34 #[.agg #[.int .i64 r, .slice a n cap], .int .i64 l, .int .i64 b] w (KNone w) := by
  have HA := Lib.hid h
  have HC := Lib.hid ((Kin.new (w := w) (x := .int .i64 r) (y := .slice a n cap) (T := 30)).below (below_alloc _ (.cells #[.int .i64 0, .slice none 0 0] 30)))
  have HR : Hid (Kin ((w.alloc (.cells #[.int .i64 r, .slice a n cap] 30)).alloc (.cells #[.int .i64 0, .slice none 0 0] 30)) (w.heap.size + 1) (.int .i64 0) (.slice none 0 0)) := Lib.hid (Kin.new' (by simp))
  have HA2 : Hid (IRow ((w.alloc (.cells #[.int .i64 r, .slice a n cap] 30)).alloc (.cells #[.int .i64 0, .slice none 0 0] 30)) a n zs) := Lib.hid ((h.alloc _).alloc _)
  have HOK := Lib.hid hok
  have d0 : decide (l < 0) = false := decide_eq_false (by omega)
  have d1 : decide (r ≤ l) = false := decide_eq_false (by omega)
  have d2 : decide (b < 0) = false := decide_eq_false (by omega)
  have d3 : decide (16384 < b) = true := decide_eq_true hb
  clear h hok
  go_enter Try.func34, Try.ntmps34
  go_wp2_with (first | (go_at_call 22; refine (vco_impl r a n cap zs _ HA2.out hn).mono ?_; rw [HOK.out]; rintro e w2 ⟨rfl, hd⟩; have HC2 := Lib.hid (HC.out.below hd); have HR2 := Lib.hid (HR.out.below hd); have HB := Lib.hid (Below.next (Below.alloc (below_alloc _ _) (by simp) _) hd : Below w.heap.size w w2); obtain ⟨hP, hp0, hp1, hpf0, hpf1⟩ := HC2.out; obtain ⟨hQ, hq0, hq1, hqf0, hqf1⟩ := HR2.out; clear hd) | fail)
  obtain ⟨_, hr1, hr2⟩ := HR2.out.res (.int .i64 0) (.slice none 0 0)
  exact bodyPost_ret (v := .tuple #[.agg #[.int .i64 0, .slice none 0 0], .bool false]) (by simp [results, Try.results34, go_sem, hr1, hr2]) rfl
    ⟨rfl, Below.setCell (Below.setCell HB.out (by simp) _) (by simp) _⟩
set_option maxRecDepth 100000 in
set_option maxHeartbeats 8000000 in
theorem pc_impl_yes (r : Int) (a : Option Addr) (n cap : Nat) (zs : List Int) (l b : Int) (w : World) (h : IRow w a n zs) (hn : n ≤ 1048576) (hokA : pcA r zs n l b = true) (hok2 : coB r (pcL zs l b) n = true) : Calls Try.prog 34 #[.agg #[.int .i64 r, .slice a n cap], .int .i64 l, .int .i64 b] w (KPost r n (pcL zs l b) w) := by
  obtain ⟨i0, hi, hz0, hz1, hz2⟩ := info_parts Try.info64
  obtain ⟨hok, ⟨hl0, hl1⟩, ⟨hb0, hb1⟩⟩ := pcA_out hokA
  obtain ⟨hrn, ⟨hn2, hn16⟩, hpp, _⟩ := co_out hok
  obtain ⟨c, rfl⟩ : ∃ c : Nat, l = (c : Int) := ⟨l.toNat, by omega⟩
  have hcn : c < n := by omega
  obtain ⟨b1, o1, rfl, hblt, _⟩ := h.cell' hcn
  have hzc := hpp c hcn
  have HPL : Hid (pcL zs (c : Int) b = zs.set c (zs.getD c 0 + b)) := Lib.hid (by unfold pcL; rw [Int.toNat_natCast])
  have HA := Lib.hid h
  have HC := Lib.hid ((Kin.new (w := w) (x := .int .i64 r) (y := .slice (some ⟨b1, o1, none⟩) n cap) (T := 30)).below (below_alloc _ (.cells #[.int .i64 0, .slice none 0 0] 30)))
  have HR : Hid (Kin ((w.alloc (.cells #[.int .i64 r, .slice (some ⟨b1, o1, none⟩) n cap] 30)).alloc (.cells #[.int .i64 0, .slice none 0 0] 30)) (w.heap.size + 1) (.int .i64 0) (.slice none 0 0)) := Lib.hid (Kin.new' (by simp))
  have HA2 : Hid (IRow ((w.alloc (.cells #[.int .i64 r, .slice (some ⟨b1, o1, none⟩) n cap] 30)).alloc (.cells #[.int .i64 0, .slice none 0 0] 30)) (some ⟨b1, o1, none⟩) n zs) := Lib.hid ((h.alloc _).alloc _)
  have HOK := Lib.hid hok
  have HOK2 := Lib.hid hok2
  have d0 : decide ((c : Int) < 0) = false := decide_eq_false (by omega)
  have d1 : decide (r ≤ (c : Int)) = false := decide_eq_false (by omega)
  have d2 : decide (b < 0) = false := decide_eq_false (by omega)
  have d3 : decide (16384 < b) = false := decide_eq_false (by omega)
  have HZ : Hid (ICl w b1 0 [] → True) := Lib.hid (fun _ => trivial)
  obtain ⟨u, hu⟩ : ∃ u, u = zs.getD c 0 := ⟨_, rfl⟩
  have HU := Lib.hid hu
  have hw3 : IntKind.i64.wrap (u + b) = u + b := IntWalk.i64_in _ (by omega)
  clear h hok hok2 hokA hpp hzc hu
  clear HZ
  go_enter Try.func34, Try.ntmps34
  go_wp2_with (first | (go_at_call 22; refine (vco_impl r _ n cap zs _ HA2.out hn).mono ?_; rw [HOK.out]; rintro e w2 ⟨rfl, hd⟩; have HC2 := Lib.hid (HC.out.below hd); have HR2 := Lib.hid (HR.out.below hd); have HB := Lib.hid (Below.next (Below.alloc (below_alloc _ _) (by simp) _) hd : Below w.heap.size w w2); obtain ⟨hP, hp0, hp1, hpf0, hpf1⟩ := HC2.out; obtain ⟨hQ, hq0, hq1, hqf0, hqf1⟩ := HR2.out; clear hd) | (go_at_call 71; refine (clone_impl b1 o1 n cap zs _ (HA.out.below HB.out) (by omega) hn).mono ?_; rintro e w3 ⟨g, cp, rfl, hnw⟩; have HB3 := Lib.hid (Below.next HB.out hnw.2.2.2); have hgs := hnw.1; have HC3 := Lib.hid (HC2.out.below hnw.2.2.2); have HR3 := Lib.hid (HR2.out.below hnw.2.2.2); have HIC := Lib.hid (ICl.of hnw); obtain ⟨hck, hfk⟩ := HIC.out.cell hcn; rw [← HU.out] at hck; have HIP := Lib.hid (HIC.out.put hcn (u + b)); have hg1 := HIC.out.1; have hw2s : w.heap.size + 1 + 1 ≤ w2.heap.size := (by have := HB.out.size; omega); have HC4 := Lib.hid (HC3.out.far (a := ⟨g, c, none⟩) (by simp; omega) (.int .i64 (u + b))); have HR4 := Lib.hid (HR3.out.far (a := ⟨g, c, none⟩) (by simp; omega) (.int .i64 (u + b))); obtain ⟨hP4, hp40, hp41, hpf40, hpf41⟩ := HC4.out; clear hnw) | (go_at_call 72; refine (k5IY r (some ⟨g, 0, none⟩) n cp (pcL zs (c : Int) b) _ (by have := HIP.out.row; rw [HPL.out, ← HU.out]; exact this) hn HOK2.out).mono ?_; rintro e w6 ⟨rfl, hb6⟩; have HB6 := Lib.hid (Below.next (Below.setCell HB3.out (show w.heap.size ≤ (⟨g, c, none⟩ : Addr).block by show w.heap.size ≤ g; omega) (.int .i64 (u + b))) hb6); have HR6 := Lib.hid (HR4.out.below hb6); have HI6 := Lib.hid (HIP.out.below hb6); obtain ⟨hQ6, hq60, hq61, hqf60, hqf61⟩ := HR6.out; clear hb6) | fail)
  obtain ⟨_, hr1, hr2⟩ := HR6.out.res (.int .i64 r) (.slice (some ⟨g, 0, none⟩) n cp)
  exact bodyPost_ret (v := .tuple #[.agg #[.int .i64 r, .slice (some ⟨g, 0, none⟩) n cp], .bool true]) (by simp [results, Try.results34, go_sem, hr1, hr2]) rfl
    ⟨g, cp, rfl, ICl.new (((show ICl w6 g n (pcL zs (c : Int) b) by rw [HPL.out, ← HU.out]; exact HI6.out).far (by simp; omega) _).far (by simp; omega) _) (by omega) (Below.setCell (Below.setCell HB6.out (by simp) _) (by simp) _)⟩
set_option maxRecDepth 100000 in
set_option maxHeartbeats 8000000 in
theorem pc_impl_no (r : Int) (a : Option Addr) (n cap : Nat) (zs : List Int) (l b : Int) (w : World) (h : IRow w a n zs) (hn : n ≤ 1048576) (hokA : pcA r zs n l b = true) (hok2 : coB r (pcL zs l b) n = false) : Calls Try.prog 34 #[.agg #[.int .i64 r, .slice a n cap], .int .i64 l, .int .i64 b] w (KNone w) := by
  obtain ⟨i0, hi, hz0, hz1, hz2⟩ := info_parts Try.info64
  obtain ⟨hok, ⟨hl0, hl1⟩, ⟨hb0, hb1⟩⟩ := pcA_out hokA
  obtain ⟨hrn, ⟨hn2, hn16⟩, hpp, _⟩ := co_out hok
  obtain ⟨c, rfl⟩ : ∃ c : Nat, l = (c : Int) := ⟨l.toNat, by omega⟩
  have hcn : c < n := by omega
  obtain ⟨b1, o1, rfl, hblt, _⟩ := h.cell' hcn
  have hzc := hpp c hcn
  have HPL : Hid (pcL zs (c : Int) b = zs.set c (zs.getD c 0 + b)) := Lib.hid (by unfold pcL; rw [Int.toNat_natCast])
  have HA := Lib.hid h
  have HC := Lib.hid ((Kin.new (w := w) (x := .int .i64 r) (y := .slice (some ⟨b1, o1, none⟩) n cap) (T := 30)).below (below_alloc _ (.cells #[.int .i64 0, .slice none 0 0] 30)))
  have HR : Hid (Kin ((w.alloc (.cells #[.int .i64 r, .slice (some ⟨b1, o1, none⟩) n cap] 30)).alloc (.cells #[.int .i64 0, .slice none 0 0] 30)) (w.heap.size + 1) (.int .i64 0) (.slice none 0 0)) := Lib.hid (Kin.new' (by simp))
  have HA2 : Hid (IRow ((w.alloc (.cells #[.int .i64 r, .slice (some ⟨b1, o1, none⟩) n cap] 30)).alloc (.cells #[.int .i64 0, .slice none 0 0] 30)) (some ⟨b1, o1, none⟩) n zs) := Lib.hid ((h.alloc _).alloc _)
  have HOK := Lib.hid hok
  have HOK2 := Lib.hid hok2
  have d0 : decide ((c : Int) < 0) = false := decide_eq_false (by omega)
  have d1 : decide (r ≤ (c : Int)) = false := decide_eq_false (by omega)
  have d2 : decide (b < 0) = false := decide_eq_false (by omega)
  have d3 : decide (16384 < b) = false := decide_eq_false (by omega)
  have HZ : Hid (ICl w b1 0 [] → True) := Lib.hid (fun _ => trivial)
  obtain ⟨u, hu⟩ : ∃ u, u = zs.getD c 0 := ⟨_, rfl⟩
  have HU := Lib.hid hu
  have hw3 : IntKind.i64.wrap (u + b) = u + b := IntWalk.i64_in _ (by omega)
  clear h hok hok2 hokA hpp hzc hu
  clear HZ
  go_enter Try.func34, Try.ntmps34
  go_wp2_with (first | (go_at_call 22; refine (vco_impl r _ n cap zs _ HA2.out hn).mono ?_; rw [HOK.out]; rintro e w2 ⟨rfl, hd⟩; have HC2 := Lib.hid (HC.out.below hd); have HR2 := Lib.hid (HR.out.below hd); have HB := Lib.hid (Below.next (Below.alloc (below_alloc _ _) (by simp) _) hd : Below w.heap.size w w2); obtain ⟨hP, hp0, hp1, hpf0, hpf1⟩ := HC2.out; obtain ⟨hQ, hq0, hq1, hqf0, hqf1⟩ := HR2.out; clear hd) | (go_at_call 71; refine (clone_impl b1 o1 n cap zs _ (HA.out.below HB.out) (by omega) hn).mono ?_; rintro e w3 ⟨g, cp, rfl, hnw⟩; have HB3 := Lib.hid (Below.next HB.out hnw.2.2.2); have hgs := hnw.1; have HC3 := Lib.hid (HC2.out.below hnw.2.2.2); have HR3 := Lib.hid (HR2.out.below hnw.2.2.2); have HIC := Lib.hid (ICl.of hnw); obtain ⟨hck, hfk⟩ := HIC.out.cell hcn; rw [← HU.out] at hck; have HIP := Lib.hid (HIC.out.put hcn (u + b)); have hg1 := HIC.out.1; have hw2s : w.heap.size + 1 + 1 ≤ w2.heap.size := (by have := HB.out.size; omega); have HC4 := Lib.hid (HC3.out.far (a := ⟨g, c, none⟩) (by simp; omega) (.int .i64 (u + b))); have HR4 := Lib.hid (HR3.out.far (a := ⟨g, c, none⟩) (by simp; omega) (.int .i64 (u + b))); obtain ⟨hP4, hp40, hp41, hpf40, hpf41⟩ := HC4.out; clear hnw) | (go_at_call 72; refine (k5IN r (some ⟨g, 0, none⟩) n cp (pcL zs (c : Int) b) _ (by have := HIP.out.row; rw [HPL.out, ← HU.out]; exact this) hn HOK2.out).mono ?_; rintro e w6 ⟨rfl, hb6⟩; have HB6 := Lib.hid (Below.next (Below.setCell HB3.out (show w.heap.size ≤ (⟨g, c, none⟩ : Addr).block by show w.heap.size ≤ g; omega) (.int .i64 (u + b))) hb6); have HR6 := Lib.hid (HR4.out.below hb6); have HI6 := Lib.hid (HIP.out.below hb6); obtain ⟨hQ6, hq60, hq61, hqf60, hqf61⟩ := HR6.out; clear hb6) | fail)
  obtain ⟨_, hr1, hr2⟩ := HR6.out.res (.int .i64 0) (.slice none 0 0)
  exact bodyPost_ret (v := .tuple #[.agg #[.int .i64 0, .slice none 0 0], .bool false]) (by simp [results, Try.results34, go_sem, hr1, hr2]) rfl
    ⟨rfl, Below.setCell (Below.setCell HB6.out (by simp) _) (by simp) _⟩
end Go.Proofs.Ytopcmbcdmceieaa
