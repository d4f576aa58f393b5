
/- EchelonOf: the functions. -/
import Derived.Test.YthjijfghbchhpaaEcw
namespace Go.Proofs.Ythjijfghbchhpaa
open Go.Proofs.Ythjijfghbchhpaa.Flo Go.RowKit Go.Proofs.Ythjijfghbchhpaa.Pr

/-- The rows in steps. -/
def ecL (r : Int) (zs : List Int) (n : Nat) : List Int := rI n (ech (zN zs) r.toNat n r.toNat).f
set_option maxRecDepth 100000 in
set_option maxHeartbeats 2000000 in
theorem ech_implN (r : Int) (a : Option Addr) (n cap : Nat) (zs : List Int) (w : World) (h : IRow w a n zs) (hn : n ≤ 1048576) (hok : paB r zs n = false) : Calls Try.prog 25 #[.agg #[.int .i64 r, .slice a n cap]] w (YNone w) := by
  have HA2 : Hid (IRow ((w.alloc (.cells #[.int .i64 r, .slice a n cap] 27)).alloc (.cells #[.int .i64 0, .slice none 0 0] 27)) a n zs) := Lib.hid ((h.alloc _).alloc _)
  have HC := Lib.hid ((Kin.new (w := w) (x := .int .i64 r) (y := .slice a n cap) (T := 27)).below (below_alloc _ (.cells #[.int .i64 0, .slice none 0 0] 27)))
  have HR : Hid (Kin ((w.alloc (.cells #[.int .i64 r, .slice a n cap] 27)).alloc (.cells #[.int .i64 0, .slice none 0 0] 27)) (w.heap.size + 1) (.int .i64 0) (.slice none 0 0)) := Lib.hid (Kin.new' (by simp))
  have HOK := Lib.hid hok
  clear h hok
  go_enter Try.func25, Try.ntmps25
  go_wp2_with (first | (go_at_call 14; refine (vp_impl r _ n cap zs _ HA2.out hn).mono ?_; rw [HOK.out]; rintro e w2 ⟨rfl, hd⟩; have HC2 := Lib.hid (HC.out.below hd); have HR2 := Lib.hid (HR.out.below hd); have HB := Lib.hid (Below.next (Below.alloc (below_alloc _ _) (by simp) _) hd : Below w.heap.size w w2); obtain ⟨hP, hp0, hp1, hpf0, hpf1⟩ := HC2.out; obtain ⟨hQ, hq0, hq1, hqf0, hqf1⟩ := HR2.out; clear hd) | fail)
  obtain ⟨_, hr1, hr2⟩ := HR2.out.res (.int .i64 0) (.slice none 0 0)
  exact bodyPost_ret (v := .tuple #[.agg #[.int .i64 0, .slice none 0 0], .bool false]) (by simp [results, Try.results25, go_sem, hr1, hr2]) rfl
    ⟨rfl, Below.setCell (Below.setCell HB.out (by simp) _) (by simp) _⟩
set_option maxRecDepth 100000 in
set_option maxHeartbeats 2000000 in
theorem ech_specN (r : Int) (a : Option Addr) (n cap : Nat) (zs : List Int) (w : World) (h : IRow w a n zs) (hn : n ≤ 1048576) (hok : paB r zs n = false) : Calls Try.prog 24 #[.agg #[.int .i64 r, .slice a n cap]] w (YNone w) := by
  have HA2 : Hid (IRow ((w.alloc (.cells #[.int .i64 r, .slice a n cap] 27)).alloc (.cells #[.int .i64 0, .slice none 0 0] 27)) a n zs) := Lib.hid ((h.alloc _).alloc _)
  have HC := Lib.hid ((Kin.new (w := w) (x := .int .i64 r) (y := .slice a n cap) (T := 27)).below (below_alloc _ (.cells #[.int .i64 0, .slice none 0 0] 27)))
  have HR : Hid (Kin ((w.alloc (.cells #[.int .i64 r, .slice a n cap] 27)).alloc (.cells #[.int .i64 0, .slice none 0 0] 27)) (w.heap.size + 1) (.int .i64 0) (.slice none 0 0)) := Lib.hid (Kin.new' (by simp))
  have HOK := Lib.hid hok
  clear h hok
  go_enter Try.func24, Try.ntmps24
  go_wp2_with (first | (go_at_call 33; refine (pi_spec _ r _ n cap zs _ HA2.out hn HC.out.1 HC.out.2.1 HC.out.2.2.1).mono ?_; rw [HOK.out]; rintro e w2 ⟨rfl, hd⟩; have HC2 := Lib.hid (HC.out.below hd); have HR2 := Lib.hid (HR.out.below hd); have HB := Lib.hid (Below.next (Below.alloc (below_alloc _ _) (by simp) _) hd : Below w.heap.size w w2); obtain ⟨hP, hp0, hp1, hpf0, hpf1⟩ := HC2.out; obtain ⟨hQ, hq0, hq1, hqf0, hqf1⟩ := HR2.out; clear hd) | fail)
  obtain ⟨_, hr1, hr2⟩ := HR2.out.res (.int .i64 0) (.slice none 0 0)
  exact bodyPost_ret (v := .tuple #[.agg #[.int .i64 0, .slice none 0 0], .bool false]) (by simp [results, Try.results24, go_sem, hr1, hr2]) rfl
    ⟨rfl, Below.setCell (Below.setCell HB.out (by simp) _) (by simp) _⟩
theorem ech_implY (r : Int) (a : Option Addr) (n cap : Nat) (zs : List Int) (w : World) (h : IRow w a n zs) (hn : n ≤ 1048576) (hok : paB r zs n = true) : Calls Try.prog 25 #[.agg #[.int .i64 r, .slice a n cap]] w (YPost r n (ecL r zs n) w) := ech_impl r a n cap zs w h hn hok
set_option maxRecDepth 100000 in
set_option maxHeartbeats 4000000 in
theorem ech_specY (r : Int) (a : Option Addr) (n cap : Nat) (zs : List Int) (w : World) (h : IRow w a n zs) (hn : n ≤ 1048576) (hok : paB r zs n = true) : Calls Try.prog 24 #[.agg #[.int .i64 r, .slice a n cap]] w (YPost r n (ecL r zs n) w) := by
  obtain ⟨⟨hr1, hr2⟩, ⟨hn1, hn2⟩, hwo, _⟩ := pa_out hok
  obtain ⟨m, rfl⟩ : ∃ m : Nat, r = (m : Int) := ⟨r.toNat, by omega⟩
  unfold ecL
  rw [Int.toNat_natCast] at *
  obtain ⟨b1, o1, rfl, _, _⟩ := h.cell' (k := 0) (by omega)
  have HA := Lib.hid h
  have HA2 : Hid (IRow ((w.alloc (.cells #[.int .i64 (m : Int), .slice (some ⟨b1, o1, none⟩) n cap] 27)).alloc (.cells #[.int .i64 0, .slice none 0 0] 27)) (some ⟨b1, o1, none⟩) n zs) := Lib.hid ((h.alloc _).alloc _)
  have HC := Lib.hid ((Kin.new (w := w) (x := .int .i64 (m : Int)) (y := .slice (some ⟨b1, o1, none⟩) n cap) (T := 27)).below (below_alloc _ (.cells #[.int .i64 0, .slice none 0 0] 27)))
  have HR : Hid (Kin ((w.alloc (.cells #[.int .i64 (m : Int), .slice (some ⟨b1, o1, none⟩) n cap] 27)).alloc (.cells #[.int .i64 0, .slice none 0 0] 27)) (w.heap.size + 1) (.int .i64 0) (.slice none 0 0)) := Lib.hid (Kin.new' (by simp))
  have HOK := Lib.hid hok
  have HST : Hid (∀ w2 : World, IRow w2 (some ⟨b1, o1, none⟩) n zs → Calls Try.prog 47 #[.int .i64 (m : Int), .slice (some ⟨b1, o1, none⟩) n cap] w2 fun e w' => ∃ g cp, e = .returned (.tuple #[.slice (some ⟨g, 0, none⟩) n cp, .int .i64 ((ech (zN zs) m n m).k : Int)]) ∧ New w2 w' g (.il n (rI n (ech (zN zs) m n m).f))) := Lib.hid (fun w2 h => st_spec m b1 o1 n cap zs w2 h ⟨by omega, by omega⟩ ⟨hn1, hn2⟩ hwo)
  generalize (ech (zN zs) m n m).k = rk at HST
  clear h hok hwo
  go_enter Try.func24, Try.ntmps24
  go_wp2_with (first | (go_at_call 33; refine (pi_spec _ (m : Int) _ n cap zs _ HA2.out hn HC.out.1 HC.out.2.1 HC.out.2.2.1).mono ?_; rw [HOK.out]; rintro e w2 ⟨rfl, hd⟩; have HC2 := Lib.hid (HC.out.below hd); have HR2 := Lib.hid (HR.out.below hd); have HB := Lib.hid (Below.next (Below.alloc (below_alloc _ _) (by simp) _) hd : Below w.heap.size w w2); obtain ⟨hP, hp0, hp1, hpf0, hpf1⟩ := HC2.out; obtain ⟨hQ, hq0, hq1, hqf0, hqf1⟩ := HR2.out; clear hd) | (go_at_call 47; (with_reducible refine (HST.out _ (HA.out.below HB.out)).mono ?_); rintro e w4 ⟨g, cp, rfl, hnw⟩; have hgs := hnw.1; have HIC := Lib.hid (ICl.of hnw); have HB4 := Lib.hid (Below.next HB.out hnw.2.2.2); have HC4 := Lib.hid (HC2.out.below hnw.2.2.2); have HR4 := Lib.hid (HR2.out.below hnw.2.2.2); obtain ⟨hP4, hp40, hp41, hpf40, hpf41⟩ := HC4.out; obtain ⟨hQ4, hq40, hq41, hqf40, hqf41⟩ := HR4.out; clear hnw) | fail)
  obtain ⟨_, hr1, hr2⟩ := HR4.out.res (.int .i64 (m : Int)) (.slice (some ⟨g, 0, none⟩) n cp)
  exact bodyPost_ret (v := .tuple #[.agg #[.int .i64 (m : Int), .slice (some ⟨g, 0, none⟩) n cp], .bool true]) (by simp [results, Try.results24, go_sem, hr1, hr2]) rfl
    ⟨g, cp, rfl, ICl.new ((HIC.out.far (by simp; omega) _).far (by simp; omega) _) (by omega) (Below.setCell (Below.setCell HB4.out (by simp) _) (by simp) _)⟩
end Go.Proofs.Ythjijfghbchhpaa
