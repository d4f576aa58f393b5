
/- DualOf: the model's function. -/
import Derived.Test.YtaefmffmjbabcaaDub
namespace Go.Proofs.Ytaefmffmjbabcaa
open Go.Proofs.Ytaefmffmjbabcaa.Flo Go.RowKit Go.Proofs.Ytaefmffmjbabcaa.Pr

/-- The rows of the dual code. -/
def duL (r : Int) (zs : List Int) (n : Nat) : List Int := dlF (ech (zN zs) r.toNat n r.toNat).f (tpF (ech (zN zs) r.toNat n r.toNat).f n) n r.toNat
def duB (r : Int) (zs : List Int) (n : Nat) : Bool := paB r zs n && paB r (duL r zs n) (duL r zs n).length
theorem duB_out {r : Int} {zs : List Int} {n : Nat} (h : duB r zs n = true) : paB r zs n = true ∧ paB r (duL r zs n) (duL r zs n).length = true := by
  unfold duB at h; rw [Bool.and_eq_true] at h; exact h
theorem duB_no {r : Int} {zs : List Int} {n : Nat} (h : duB r zs n = false) : paB r zs n = false ∨ (paB r zs n = true ∧ paB r (duL r zs n) (duL r zs n).length = false) := by
  unfold duB at h
  cases ha : paB r zs n with
  | false => exact .inl rfl
  | true => rw [ha] at h; exact .inr ⟨rfl, by simpa using h⟩
theorem du_le (r : Int) (zs : List Int) (n : Nat) : (duL r zs n).length ≤ r.toNat := dlF_len _ _ _ _
set_option maxRecDepth 100000 in
set_option maxHeartbeats 2000000 in
theorem du_specA (r : Int) (a : Option Addr) (n cap : Nat) (zs : List Int) (w : World) (h : IRow w a n zs) (hn : n ≤ 1048576) (hok : paB r zs n = false) : Calls Try.prog 55 #[.agg #[.int .i64 r, .slice a n cap]] w (YNone w) := by
  have HA2 : Hid (IRow ((w.alloc (.cells #[.int .i64 r, .slice a n cap] 28)).alloc (.cells #[.int .i64 0, .slice none 0 0] 28)) a n zs) := Lib.hid ((h.alloc _).alloc _)
  have HC := Lib.hid ((Kin.new (w := w) (x := .int .i64 r) (y := .slice a n cap) (T := 28)).below (below_alloc _ (.cells #[.int .i64 0, .slice none 0 0] 28)))
  have HR : Hid (Kin ((w.alloc (.cells #[.int .i64 r, .slice a n cap] 28)).alloc (.cells #[.int .i64 0, .slice none 0 0] 28)) (w.heap.size + 1) (.int .i64 0) (.slice none 0 0)) := Lib.hid (Kin.new' (by simp))
  have HOK := Lib.hid hok
  clear h hok
  go_enter Try.func55, Try.ntmps55
  go_wp2_with (first | (go_at_call 108; refine (pi_spec _ r _ n cap zs _ HA2.out hn HC.out.1 HC.out.2.1 HC.out.2.2.1).mono ?_; rw [HOK.out]; rintro e w2 ⟨rfl, hd⟩; have HC2 := Lib.hid (HC.out.below hd); have HR2 := Lib.hid (HR.out.below hd); have HB := Lib.hid (Below.next (Below.alloc (below_alloc _ _) (by simp) _) hd : Below w.heap.size w w2); obtain ⟨hP, hp0, hp1, hpf0, hpf1⟩ := HC2.out; obtain ⟨hQ, hq0, hq1, hqf0, hqf1⟩ := HR2.out; clear hd) | fail)
  obtain ⟨_, hr1, hr2⟩ := HR2.out.res (.int .i64 0) (.slice none 0 0)
  exact bodyPost_ret (v := .tuple #[.agg #[.int .i64 0, .slice none 0 0], .bool false]) (by simp [results, Try.results55, go_sem, hr1, hr2]) rfl
    ⟨rfl, Below.setCell (Below.setCell HB.out (by simp) _) (by simp) _⟩
set_option maxRecDepth 100000 in
set_option maxHeartbeats 4000000 in
theorem du_specY (r : Int) (a : Option Addr) (n cap : Nat) (zs : List Int) (w : World) (h : IRow w a n zs) (hn : n ≤ 1048576) (hok : paB r zs n = true) (hok2 : paB r (duL r zs n) (duL r zs n).length = true) : Calls Try.prog 55 #[.agg #[.int .i64 r, .slice a n cap]] w (YPost r (duL r zs n).length (duL r zs n) w) := by
  obtain ⟨⟨hr1, hr2⟩, ⟨hn1, hn2⟩, hwo, _⟩ := pa_out hok
  obtain ⟨m, rfl⟩ : ∃ m : Nat, r = (m : Int) := ⟨r.toNat, by omega⟩
  obtain ⟨b1, o1, rfl, _, _⟩ := h.cell' (k := 0) (by omega)
  have hKle := du_le (m : Int) zs n
  rw [Int.toNat_natCast] at hKle
  have HA2 : Hid (IRow ((w.alloc (.cells #[.int .i64 (m : Int), .slice (some ⟨b1, o1, none⟩) n cap] 28)).alloc (.cells #[.int .i64 0, .slice none 0 0] 28)) (some ⟨b1, o1, none⟩) n zs) := Lib.hid ((h.alloc _).alloc _)
  have HC := Lib.hid ((Kin.new (w := w) (x := .int .i64 (m : Int)) (y := .slice (some ⟨b1, o1, none⟩) n cap) (T := 28)).below (below_alloc _ (.cells #[.int .i64 0, .slice none 0 0] 28)))
  have HR : Hid (Kin ((w.alloc (.cells #[.int .i64 (m : Int), .slice (some ⟨b1, o1, none⟩) n cap] 28)).alloc (.cells #[.int .i64 0, .slice none 0 0] 28)) (w.heap.size + 1) (.int .i64 0) (.slice none 0 0)) := Lib.hid (Kin.new' (by simp))
  have HOK := Lib.hid hok
  have HOK2 := Lib.hid hok2
  have HA := Lib.hid h
  have HPA := Lib.hid hok
  have HDU0 : Hid (∀ w3 : World, IRow w3 (some ⟨b1, o1, none⟩) n zs → w.heap.size < w3.heap.size → w3.cell? ⟨w.heap.size, 0, none⟩ = some (.int .i64 (m : Int)) → w3.cell? ⟨w.heap.size, 1, none⟩ = some (.slice (some ⟨b1, o1, none⟩) n cap) → Calls Try.prog 110 #[.pointer (some ⟨w.heap.size, 0, none⟩)] w3 fun e w' => ∃ v, e = .returned v ∧ w'.ownsRow w3.heap.size 2 1 v (duL (m : Int) zs n).length ((duL (m : Int) zs n).map (Value.int .i64)) ∧ Below w3.heap.size w3 w') := Lib.hid (fun w3 h1 h2 h3 h4 => by
    have := du_spec w.heap.size m b1 o1 n cap zs w3 h1 h2 h3 h4 HPA.out
    unfold duL
    rw [Int.toNat_natCast]
    exact this)
  have hKp : 1 ≤ (duL (m : Int) zs n).length := (pa_out hok2).2.1.1
  generalize duL (m : Int) zs n = DL at HDU0 HOK2 hKle hKp ⊢
  generalize hKL : DL.length = K at HDU0 HOK2 hKle hKp ⊢
  clear h hok hok2 hwo hKL
  go_enter Try.func55, Try.ntmps55
  go_wp2_with (first | (go_at_call 108; refine (pi_spec _ (m : Int) _ n cap zs _ HA2.out hn HC.out.1 HC.out.2.1 HC.out.2.2.1).mono ?_; rw [HOK.out]; rintro e w2 ⟨rfl, hd⟩; have HC2 := Lib.hid (HC.out.below hd); have HR2 := Lib.hid (HR.out.below hd); have HB := Lib.hid (Below.next (Below.alloc (below_alloc _ _) (by simp) _) hd : Below w.heap.size w w2); obtain ⟨hP, hp0, hp1, hpf0, hpf1⟩ := HC2.out; obtain ⟨hQ, hq0, hq1, hqf0, hqf1⟩ := HR2.out; clear hd) | fail)
  have hws : w.heap.size + 1 < w2.heap.size := HR2.out.1
  have HA3 := Lib.hid (HA.out.below HB.out)
  have HDU : Hid (∀ w3 : World, Below w2.heap.size w2 w3 → Calls Try.prog 110 #[.pointer (some ⟨w.heap.size, 0, none⟩)] w3 fun e w' => ∃ v, e = .returned v ∧ w'.ownsRow w3.heap.size 2 1 v K (DL.map (Value.int .i64)) ∧ Below w3.heap.size w3 w') := Lib.hid (fun w3 hb => HDU0.out w3 (HA3.out.below hb) (by have := hb.size; omega) ((HC2.out.below hb).2.1) ((HC2.out.below hb).2.2.1))
  go_region_with (first | (go_at_call 110; (first | (with_reducible refine (HDU.out _ (by repeat (first | exact Below.refl _ _ | refine Below.drew ?_ | refine Below.drewN' ?_ _))).mono ?_) | refine (HDU.out _ (by repeat (first | exact Below.refl _ _ | refine Below.drew ?_ | refine Below.drewN' ?_ _))).mono ?_); rintro e w4 ⟨v, rfl, hown, hb⟩; have hb : Below w2.heap.size w2 w4 := Below.next (by repeat (first | exact Below.refl _ _ | refine Below.drew ?_ | refine Below.drewN' ?_ _)) hb; obtain ⟨g, cp, rfl, hg9, hgl9⟩ := World.ownsRow.form hown (by omega); obtain ⟨hic, hgb⟩ := ICl.own hown (by omega); have hgw : w2.heap.size ≤ g := (by have := hgb; first | exact this | simpa using this); have HIC := Lib.hid hic; have HROW := Lib.hid hic.row; clear hic; have HC4 := Lib.hid (HC2.out.below hb); have HR4 := Lib.hid (HR2.out.below hb); have HB4 := Lib.hid (Below.next HB.out hb); obtain ⟨hP4, hp40, hp41, hpf40, hpf41⟩ := HC4.out; clear hown hb) | (go_at_call 109; refine (p6SY (m : Int) _ K _ DL _ (by first | exact HROW.out | exact HROW.out.drewN _) (by omega) HOK2.out).mono ?_; rintro e w5 ⟨rfl, hb5⟩; have hb5 := (by first | exact hb5 | exact Below.ofDrew hb5 | exact Below.ofDrewN hb5 : Below w4.heap.size w4 w5); have HB5 := Lib.hid (Below.next HB4.out hb5); have HR5 := Lib.hid (HR4.out.below hb5); have HI5 := Lib.hid (HIC.out.below hb5); obtain ⟨hQ5, hq50, hq51, hqf50, hqf51⟩ := HR5.out; clear hb5) | fail)
  all_goals
    go_wp2
    obtain ⟨_, hr1, hr2⟩ := HR5.out.res (.int .i64 (m : Int)) (.slice (some ⟨g, 0, none⟩) K cp)
    exact bodyPost_ret (v := .tuple #[.agg #[.int .i64 (m : Int), .slice (some ⟨g, 0, none⟩) K cp], .bool true]) (by simp [results, Try.results55, go_sem, hr1, hr2]) rfl
      ⟨g, cp, rfl, ICl.new ((HI5.out.far (by simp; omega) _).far (by simp; omega) _) (by omega) (Below.setCell (Below.setCell HB5.out (by simp) _) (by simp) _)⟩
set_option maxRecDepth 100000 in
set_option maxHeartbeats 4000000 in
theorem du_specN (r : Int) (a : Option Addr) (n cap : Nat) (zs : List Int) (w : World) (h : IRow w a n zs) (hn : n ≤ 1048576) (hok : paB r zs n = true) (hok2 : paB r (duL r zs n) (duL r zs n).length = false) : Calls Try.prog 55 #[.agg #[.int .i64 r, .slice a n cap]] w (YNone w) := by
  obtain ⟨⟨hr1, hr2⟩, ⟨hn1, hn2⟩, hwo, _⟩ := pa_out hok
  obtain ⟨m, rfl⟩ : ∃ m : Nat, r = (m : Int) := ⟨r.toNat, by omega⟩
  obtain ⟨b1, o1, rfl, _, _⟩ := h.cell' (k := 0) (by omega)
  have hKle := du_le (m : Int) zs n
  rw [Int.toNat_natCast] at hKle
  have HA2 : Hid (IRow ((w.alloc (.cells #[.int .i64 (m : Int), .slice (some ⟨b1, o1, none⟩) n cap] 28)).alloc (.cells #[.int .i64 0, .slice none 0 0] 28)) (some ⟨b1, o1, none⟩) n zs) := Lib.hid ((h.alloc _).alloc _)
  have HC := Lib.hid ((Kin.new (w := w) (x := .int .i64 (m : Int)) (y := .slice (some ⟨b1, o1, none⟩) n cap) (T := 28)).below (below_alloc _ (.cells #[.int .i64 0, .slice none 0 0] 28)))
  have HR : Hid (Kin ((w.alloc (.cells #[.int .i64 (m : Int), .slice (some ⟨b1, o1, none⟩) n cap] 28)).alloc (.cells #[.int .i64 0, .slice none 0 0] 28)) (w.heap.size + 1) (.int .i64 0) (.slice none 0 0)) := Lib.hid (Kin.new' (by simp))
  have HOK := Lib.hid hok
  have HOK2 := Lib.hid hok2
  have HA := Lib.hid h
  have HPA := Lib.hid hok
  have HDU0 : Hid (∀ w3 : World, IRow w3 (some ⟨b1, o1, none⟩) n zs → w.heap.size < w3.heap.size → w3.cell? ⟨w.heap.size, 0, none⟩ = some (.int .i64 (m : Int)) → w3.cell? ⟨w.heap.size, 1, none⟩ = some (.slice (some ⟨b1, o1, none⟩) n cap) → Calls Try.prog 110 #[.pointer (some ⟨w.heap.size, 0, none⟩)] w3 fun e w' => ∃ v, e = .returned v ∧ w'.ownsRow w3.heap.size 2 1 v (duL (m : Int) zs n).length ((duL (m : Int) zs n).map (Value.int .i64)) ∧ Below w3.heap.size w3 w') := Lib.hid (fun w3 h1 h2 h3 h4 => by
    have := du_spec w.heap.size m b1 o1 n cap zs w3 h1 h2 h3 h4 HPA.out
    unfold duL
    rw [Int.toNat_natCast]
    exact this)
  generalize duL (m : Int) zs n = DL at HDU0 HOK2 hKle ⊢
  generalize hKL : DL.length = K at HDU0 HOK2 hKle ⊢
  clear h hok hok2 hwo hKL
  go_enter Try.func55, Try.ntmps55
  go_wp2_with (first | (go_at_call 108; refine (pi_spec _ (m : Int) _ n cap zs _ HA2.out hn HC.out.1 HC.out.2.1 HC.out.2.2.1).mono ?_; rw [HOK.out]; rintro e w2 ⟨rfl, hd⟩; have HC2 := Lib.hid (HC.out.below hd); have HR2 := Lib.hid (HR.out.below hd); have HB := Lib.hid (Below.next (Below.alloc (below_alloc _ _) (by simp) _) hd : Below w.heap.size w w2); obtain ⟨hP, hp0, hp1, hpf0, hpf1⟩ := HC2.out; obtain ⟨hQ, hq0, hq1, hqf0, hqf1⟩ := HR2.out; clear hd) | fail)
  have hws : w.heap.size + 1 < w2.heap.size := HR2.out.1
  have HA3 := Lib.hid (HA.out.below HB.out)
  have HDU : Hid (∀ w3 : World, Below w2.heap.size w2 w3 → Calls Try.prog 110 #[.pointer (some ⟨w.heap.size, 0, none⟩)] w3 fun e w' => ∃ v, e = .returned v ∧ w'.ownsRow w3.heap.size 2 1 v K (DL.map (Value.int .i64)) ∧ Below w3.heap.size w3 w') := Lib.hid (fun w3 hb => HDU0.out w3 (HA3.out.below hb) (by have := hb.size; omega) ((HC2.out.below hb).2.1) ((HC2.out.below hb).2.2.1))
  go_region_with (first | (go_at_call 110; (first | (with_reducible refine (HDU.out _ (by repeat (first | exact Below.refl _ _ | refine Below.drew ?_ | refine Below.drewN' ?_ _))).mono ?_) | refine (HDU.out _ (by repeat (first | exact Below.refl _ _ | refine Below.drew ?_ | refine Below.drewN' ?_ _))).mono ?_); rintro e w4 ⟨v, rfl, hown, hb⟩; have hb : Below w2.heap.size w2 w4 := Below.next (by repeat (first | exact Below.refl _ _ | refine Below.drew ?_ | refine Below.drewN' ?_ _)) hb; obtain ⟨a9, cp9, rfl, hrow⟩ := own_rowI hown; have HROW := Lib.hid hrow; clear hrow; have HC4 := Lib.hid (HC2.out.below hb); have HR4 := Lib.hid (HR2.out.below hb); have HB4 := Lib.hid (Below.next HB.out hb); obtain ⟨hP4, hp40, hp41, hpf40, hpf41⟩ := HC4.out; clear hown hb) | (go_at_call 109; refine (p6SN (m : Int) _ K _ DL _ (by first | exact HROW.out | exact HROW.out.drewN _) (by omega) HOK2.out).mono ?_; rintro e w5 ⟨rfl, hb5⟩; have hb5 := (by first | exact hb5 | exact Below.ofDrew hb5 | exact Below.ofDrewN hb5 : Below w4.heap.size w4 w5); have HB5 := Lib.hid (Below.next HB4.out hb5); have HR5 := Lib.hid (HR4.out.below hb5); obtain ⟨hQ5, hq50, hq51, hqf50, hqf51⟩ := HR5.out; clear hb5) | fail)
  all_goals
    go_wp2
    obtain ⟨_, hr1, hr2⟩ := HR5.out.res (.int .i64 0) (.slice none 0 0)
    exact bodyPost_ret (v := .tuple #[.agg #[.int .i64 0, .slice none 0 0], .bool false]) (by simp [results, Try.results55, go_sem, hr1, hr2]) rfl
      ⟨rfl, Below.setCell (Below.setCell HB5.out (by simp) _) (by simp) _⟩
theorem du_specYes (r : Int) (a : Option Addr) (n cap : Nat) (zs : List Int) (w : World) (h : IRow w a n zs) (hn : n ≤ 1048576) (hok : duB r zs n = true) : Calls Try.prog 55 #[.agg #[.int .i64 r, .slice a n cap]] w (YPost r (duL r zs n).length (duL r zs n) w) := du_specY r a n cap zs w h hn (duB_out hok).1 (duB_out hok).2
theorem du_specNo (r : Int) (a : Option Addr) (n cap : Nat) (zs : List Int) (w : World) (h : IRow w a n zs) (hn : n ≤ 1048576) (hok : duB r zs n = false) : Calls Try.prog 55 #[.agg #[.int .i64 r, .slice a n cap]] w (YNone w) := by
  rcases duB_no hok with h1 | h1
  · exact du_specA r a n cap zs w h hn h1
  · exact du_specN r a n cap zs w h hn h1.1 h1.2
end Go.Proofs.Ytaefmffmjbabcaa
