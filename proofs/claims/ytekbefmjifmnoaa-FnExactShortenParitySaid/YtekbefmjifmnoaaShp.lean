
/- ShortenParity: the functions. -/
import Derived.Test.YtekbefmjifmnoaaStc
import Derived.Test.YtekbefmjifmnoaaOff
import Derived.Deep.QuietTactic
import Derived.BigQuiet
namespace Go.Proofs.Ytekbefmjifmnoaa
open Go.Proofs.Ytekbefmjifmnoaa.Flo Go.RowKit Go.Proofs.Ytekbefmjifmnoaa.Pr

def shF (r : Int) (zs : List Int) (n : Nat) : Nat → Nat := (ech (zN zs) r.toNat n r.toNat).f
/-- How many rows are left out. -/
def shO (r : Int) (zs : List Int) (n : Nat) : Nat := if (shF r zs n 0).testBit (r.toNat - 1) then 1 else 0
def shB (r : Int) (zs : List Int) (n : Nat) : Bool := paB r zs n && paB (r - 1) ((ecL r zs n).drop (shO r zs n)) (n - shO r zs n)
theorem shB_out {r : Int} {zs : List Int} {n : Nat} (h : shB r zs n = true) : paB r zs n = true ∧ paB (r - 1) ((ecL r zs n).drop (shO r zs n)) (n - shO r zs n) = true := by
  unfold shB at h; rw [Bool.and_eq_true] at h; exact h
theorem shB_no {r : Int} {zs : List Int} {n : Nat} (h : shB r zs n = false) : paB r zs n = false ∨ (paB r zs n = true ∧ paB (r - 1) ((ecL r zs n).drop (shO r zs n)) (n - shO r zs n) = false) := by
  unfold shB at h
  cases ha : paB r zs n with
  | false => exact .inl rfl
  | true => rw [ha] at h; exact .inr ⟨rfl, by simpa using h⟩
def SPost (r : Int) (zs : List Int) (n : Nat) (w : World) (e : Ending) (w' : World) : Prop :=
  ∃ g cp, e = .returned (.tuple #[.agg #[.int .i64 (r - 1), .slice (some ⟨g, shO r zs n, none⟩) (n - shO r zs n) cp], .bool true]) ∧ New w w' g (.il n (ecL r zs n))
/-- The greatest digit, in two ways. -/
theorem top_bit {x m : Nat} (hm : 1 ≤ m) (hx : x < 2 ^ m) : x.testBit (m - 1) = !decide (x < 2 ^ (m - 1)) := by
  obtain ⟨k, rfl⟩ : ∃ k, m = k + 1 := ⟨m - 1, by omega⟩
  rw [Nat.add_sub_cancel]
  by_cases h : x < 2 ^ k
  · rw [decide_eq_true h, Nat.testBit_lt_two_pow h]; rfl
  · rw [decide_eq_false h, Nat.testBit_eq_decide_div_mod_eq]
    have hp : 2 ^ (k + 1) = 2 ^ k * 2 := Nat.pow_succ _ _
    have h1 : x / 2 ^ k = 1 := by
      have hpos := Nat.two_pow_pos k
      apply Nat.le_antisymm
      · have : x / 2 ^ k < 2 := Nat.div_lt_of_lt_mul (by omega)
        omega
      · exact Nat.div_pos (by omega) hpos
    rw [h1]; rfl
theorem wo_castS (x m : Nat) : woB (x : Int) m = decide (x < 2 ^ m) := by
  unfold woB
  have e : ((2 ^ m : Nat) : Int) = 2 ^ m := by rw [Int.natCast_pow]; rfl
  rw [← e]
  by_cases h : x < 2 ^ m
  · rw [decide_eq_true h, decide_eq_true (by omega)]
  · rw [decide_eq_false h, decide_eq_false (by omega)]
set_option maxRecDepth 100000 in
set_option maxHeartbeats 2000000 in
theorem sh_specA (r : Int) (a : Option Addr) (n cap : Nat) (zs : List Int) (w : World) (h : IRow w a n zs) (hn : n ≤ 1048576) (hok : paB r zs n = false) : Calls Try.prog 24 #[.agg #[.int .i64 r, .slice a n cap]] w (YNone w) := by
  have HA2 : Hid (IRow ((w.alloc (.cells #[.int .i64 r, .slice a n cap] 28)).alloc (.cells #[.int .i64 0, .slice none 0 0] 28)) a n zs) := Lib.hid ((h.alloc _).alloc _)
  have HC := Lib.hid ((Kin.new (w := w) (x := .int .i64 r) (y := .slice a n cap) (T := 28)).below (below_alloc _ (.cells #[.int .i64 0, .slice none 0 0] 28)))
  have HR : Hid (Kin ((w.alloc (.cells #[.int .i64 r, .slice a n cap] 28)).alloc (.cells #[.int .i64 0, .slice none 0 0] 28)) (w.heap.size + 1) (.int .i64 0) (.slice none 0 0)) := Lib.hid (Kin.new' (by simp))
  have HOK := Lib.hid hok
  clear h hok
  go_enter Try.func24, Try.ntmps24
  go_wp2_with (first | (go_at_call 48; refine (pi_spec _ r _ n cap zs _ HA2.out hn HC.out.1 HC.out.2.1 HC.out.2.2.1).mono ?_; rw [HOK.out]; rintro e w2 ⟨rfl, hd⟩; have HC2 := Lib.hid (HC.out.below hd); have HR2 := Lib.hid (HR.out.below hd); have HB := Lib.hid (Below.next (Below.alloc (below_alloc _ _) (by simp) _) hd : Below w.heap.size w w2); obtain ⟨hP, hp0, hp1, hpf0, hpf1⟩ := HC2.out; obtain ⟨hQ, hq0, hq1, hqf0, hqf1⟩ := HR2.out; clear hd) | fail)
  obtain ⟨_, hr1, hr2⟩ := HR2.out.res (.int .i64 0) (.slice none 0 0)
  exact bodyPost_ret (v := .tuple #[.agg #[.int .i64 0, .slice none 0 0], .bool false]) (by simp [results, Try.results24, go_sem, hr1, hr2]) rfl
    ⟨rfl, Below.setCell (Below.setCell HB.out (by simp) _) (by simp) _⟩
set_option maxRecDepth 100000 in
set_option maxHeartbeats 4000000 in
theorem sh_specY (r : Int) (a : Option Addr) (n cap : Nat) (zs : List Int) (w : World) (h : IRow w a n zs) (hn : n ≤ 1048576) (hok : paB r zs n = true) (hok2 : paB (r - 1) ((ecL r zs n).drop (shO r zs n)) (n - shO r zs n) = true) : Calls Try.prog 24 #[.agg #[.int .i64 r, .slice a n cap]] w (SPost r zs n w) := by
  obtain ⟨⟨hr1, hr2⟩, ⟨hn1, hn2⟩, hwo, _⟩ := pa_out hok
  obtain ⟨m, rfl⟩ : ∃ m : Nat, r = (m : Int) := ⟨r.toNat, by omega⟩
  unfold SPost
  obtain ⟨b1, o1, rfl, _, _⟩ := h.cell' (k := 0) (by omega)
  have HA := Lib.hid h
  have HA2 : Hid (IRow ((w.alloc (.cells #[.int .i64 (m : Int), .slice (some ⟨b1, o1, none⟩) n cap] 28)).alloc (.cells #[.int .i64 0, .slice none 0 0] 28)) (some ⟨b1, o1, none⟩) n zs) := Lib.hid ((h.alloc _).alloc _)
  have HC := Lib.hid ((Kin.new (w := w) (x := .int .i64 (m : Int)) (y := .slice (some ⟨b1, o1, none⟩) n cap) (T := 28)).below (below_alloc _ (.cells #[.int .i64 0, .slice none 0 0] 28)))
  have HR : Hid (Kin ((w.alloc (.cells #[.int .i64 (m : Int), .slice (some ⟨b1, o1, none⟩) n cap] 28)).alloc (.cells #[.int .i64 0, .slice none 0 0] 28)) (w.heap.size + 1) (.int .i64 0) (.slice none 0 0)) := Lib.hid (Kin.new' (by simp))
  have HOK := Lib.hid hok
  have hF0 : shF (m : Int) zs n 0 < 65536 := by
    unfold shF; rw [Int.toNat_natCast]; rw [Int.toNat_natCast] at hwo
    exact (ech_at (fun j hj => (zN_at hwo hj).2) (by omega) (Nat.le_refl _)).2 0 (by omega)
  have HOD : Hid (shO (m : Int) zs n = if (shF (m : Int) zs n 0).testBit (m - 1) then 1 else 0) := Lib.hid (by unfold shO; rw [Int.toNat_natCast])
  have HST : Hid (∀ w2 : World, IRow w2 (some ⟨b1, o1, none⟩) n zs → Calls Try.prog 49 #[.int .i64 (m : Int), .slice (some ⟨b1, o1, none⟩) n cap] w2 fun e w' => ∃ g cp, n ≤ cp ∧ e = .returned (.tuple #[.slice (some ⟨g, 0, none⟩) n cp, .int .i64 ((ech (zN zs) m n m).k : Int)]) ∧ New w2 w' g (.il n (rI n (shF (m : Int) zs n)))) := Lib.hid (fun w2 h => by
    rw [Int.toNat_natCast] at hwo
    have := st_cap m b1 o1 n cap zs w2 h ⟨by omega, by omega⟩ ⟨hn1, hn2⟩ hwo
    unfold shF
    rw [Int.toNat_natCast]
    exact this)
  have HEL : Hid (ecL (m : Int) zs n = rI n (shF (m : Int) zs n)) := Lib.hid rfl
  rw [HEL.out] at hok2 ⊢
  generalize shF (m : Int) zs n = F at hF0 HOD HST hok2 HEL ⊢
  generalize (ech (zN zs) m n m).k = rk at HST
  generalize shO (m : Int) zs n = o at HOD hok2 ⊢
  clear h hok hwo HEL
  by_cases hm2 : 2 ≤ m
  · have d1 : decide ((m : Int) < 2) = false := decide_eq_false (by omega)
    have hwm : IntKind.i64.wrap ((m : Int) - 1) = (m : Int) - 1 := IntWalk.i64_in _ (by omega)
    have hme : ((m - 1 : Nat) : Int) = (m : Int) - 1 := by omega
    have HH : Hid (∀ w2 : World, Calls Try.prog 50 #[.int .i64 (F 0 : Int), .int .i64 ((m : Int) - 1)] w2 fun e w' => e = .returned (.bool ((F 0).testBit (m - 1))) ∧ w' = w2) := Lib.hid (fun w2 => by rw [← hme]; exact (has_spec (F 0) (m - 1) w2 (by omega) (by omega)).mono fun _ _ h9 => ⟨h9.1, h9.2.symm⟩)
    have hn0 : 0 < n := by omega
    have hn0' : (0 : Int) < (n : Int) := by omega
    have HF0 : Hid ((rI n F).getD 0 0 = ((F 0 : Nat) : Int)) := Lib.hid (rI_get F (by omega))
    clear hme
    cases hb : (F 0).testBit (m - 1) with
    | false =>
      rw [hb] at HOD HH
      have ho : o = 0 := HOD.out
      subst ho
      have HOK2 : Hid (paB ((m : Int) - 1) (rI n F) n = true) := Lib.hid (by have := hok2; rw [Nat.sub_zero] at this; exact this)
      clear hok2 hb HOD
      go_enter Try.func24, Try.ntmps24
      go_wp2_with (first | (go_at_call 48; refine (pi_spec _ (m : Int) _ n cap zs _ HA2.out hn HC.out.1 HC.out.2.1 HC.out.2.2.1).mono ?_; rw [HOK.out]; rintro e w2 ⟨rfl, hd⟩; have HC2 := Lib.hid (HC.out.below hd); have HR2 := Lib.hid (HR.out.below hd); have HB := Lib.hid (Below.next (Below.alloc (below_alloc _ _) (by simp) _) hd : Below w.heap.size w w2); obtain ⟨hP, hp0, hp1, hpf0, hpf1⟩ := HC2.out; obtain ⟨hQ, hq0, hq1, hqf0, hqf1⟩ := HR2.out; clear hd) | (go_at_call 49; (with_reducible refine (HST.out _ (HA.out.below HB.out)).mono ?_); rintro e w4 ⟨g, cp, hcpn, rfl, hnw⟩; have hgs := hnw.1; have HIC := Lib.hid (ICl.of hnw); have HB4 := Lib.hid (Below.next HB.out hnw.2.2.2); have HC4 := Lib.hid (HC2.out.below hnw.2.2.2); have HR4 := Lib.hid (HR2.out.below hnw.2.2.2); obtain ⟨hP4, hp40, hp41, hpf40, hpf41⟩ := HC4.out; obtain ⟨hck0, hcf0⟩ := HIC.out.cell (j := 0) (by omega); rw [HF0.out] at hck0; have hw2s : w.heap.size + 1 + 1 ≤ w2.heap.size := (by have := HR2.out.1; omega); clear hnw) | fail)
      go_quiet ((go_at_call 50; with_reducible exact Calls.quiet_of_same (HH.out _)))
      clear hP4 hp40 hp41 hpf40 hpf41 hck0 hcf0
      rename_i NQ
      have HIX := Lib.hid (show ICl (w4.drewN nq) g n (rI n F) from HIC.out)
      have HCX := Lib.hid (show Kin (w4.drewN nq) w.heap.size (.int .i64 (m : Int)) (.slice (some ⟨b1, o1, none⟩) n cap) from HC4.out)
      have HRX := Lib.hid (show Kin (w4.drewN nq) (w.heap.size + 1) (.int .i64 0) (.slice none 0 0) from HR4.out)
      have HBX := Lib.hid (Below.drewN' HB4.out nq)
      generalize w4.drewN nq = W at HIX HCX HRX HBX ⊢
      obtain ⟨hP5, hp50, hp51, hpf50, hpf51⟩ := HCX.out
      go_wp2_with (first | (go_at_call 51; (with_reducible refine (p6SY ((m : Int) - 1) _ n _ (rI n F) _ HIX.out.row hn HOK2.out).mono ?_); rintro e w8 ⟨rfl, hb8⟩; have HB8 := Lib.hid (Below.next HBX.out hb8); have HR8 := Lib.hid (HRX.out.below hb8); have HI8 := Lib.hid (HIX.out.below hb8); obtain ⟨hQ8, hq80, hq81, hqf80, hqf81⟩ := HR8.out; clear hb8) | fail)
      obtain ⟨_, hr1, hr2⟩ := HR8.out.res (.int .i64 ((m : Int) - 1)) (.slice (some ⟨g, 0, none⟩) n cp)
      exact bodyPost_ret (v := .tuple #[.agg #[.int .i64 ((m : Int) - 1), .slice (some ⟨g, 0, none⟩) n cp], .bool true]) (by simp [results, Try.results24, go_sem, hr1, hr2]) rfl
        ⟨g, cp, rfl, ICl.new ((HI8.out.far (by simp; omega) _).far (by simp; omega) _) (by omega) (Below.setCell (Below.setCell HB8.out (by simp) _) (by simp) _)⟩
    | true =>
      rw [hb] at HOD HH
      have ho : o = 1 := HOD.out
      subst ho
      have HOK2 : Hid (paB ((m : Int) - 1) ((rI n F).drop 1) (n - 1) = true) := Lib.hid hok2
      clear hok2 hb HOD
      go_enter Try.func24, Try.ntmps24
      go_wp2_with (first | (go_at_call 48; refine (pi_spec _ (m : Int) _ n cap zs _ HA2.out hn HC.out.1 HC.out.2.1 HC.out.2.2.1).mono ?_; rw [HOK.out]; rintro e w2 ⟨rfl, hd⟩; have HC2 := Lib.hid (HC.out.below hd); have HR2 := Lib.hid (HR.out.below hd); have HB := Lib.hid (Below.next (Below.alloc (below_alloc _ _) (by simp) _) hd : Below w.heap.size w w2); obtain ⟨hP, hp0, hp1, hpf0, hpf1⟩ := HC2.out; obtain ⟨hQ, hq0, hq1, hqf0, hqf1⟩ := HR2.out; clear hd) | (go_at_call 49; (with_reducible refine (HST.out _ (HA.out.below HB.out)).mono ?_); rintro e w4 ⟨g, cp, hcpn, rfl, hnw⟩; have hgs := hnw.1; have HIC := Lib.hid (ICl.of hnw); have HB4 := Lib.hid (Below.next HB.out hnw.2.2.2); have HC4 := Lib.hid (HC2.out.below hnw.2.2.2); have HR4 := Lib.hid (HR2.out.below hnw.2.2.2); obtain ⟨hP4, hp40, hp41, hpf40, hpf41⟩ := HC4.out; obtain ⟨hck0, hcf0⟩ := HIC.out.cell (j := 0) (by omega); rw [HF0.out] at hck0; have hw2s : w.heap.size + 1 + 1 ≤ w2.heap.size := (by have := HR2.out.1; omega); clear hnw) | fail)
      go_quiet ((go_at_call 50; with_reducible exact Calls.quiet_of_same (HH.out _)))
      clear hP4 hp40 hp41 hpf40 hpf41 hck0 hcf0
      rename_i NQ
      have HIX := Lib.hid (show ICl (w4.drewN nq) g n (rI n F) from HIC.out)
      have HCX := Lib.hid (show Kin (w4.drewN nq) w.heap.size (.int .i64 (m : Int)) (.slice (some ⟨b1, o1, none⟩) n cap) from HC4.out)
      have HRX := Lib.hid (show Kin (w4.drewN nq) (w.heap.size + 1) (.int .i64 0) (.slice none 0 0) from HR4.out)
      have HBX := Lib.hid (Below.drewN' HB4.out nq)
      generalize w4.drewN nq = W at HIX HCX HRX HBX ⊢
      obtain ⟨hP5, hp50, hp51, hpf50, hpf51⟩ := HCX.out
      have hn2' : 1 ≤ n - 1 := (pa_out HOK2.out).2.1.1
      have hcp1 : ¬ cp = 1 := by omega
      have HROW := Lib.hid (irow_off HIX.out.row (o := 1) (by omega))
      go_wp2_with (first | (go_at_call 51; (with_reducible refine (p6SY ((m : Int) - 1) _ (n - 1) _ ((rI n F).drop 1) _ HROW.out (by omega) HOK2.out).mono ?_); rintro e w8 ⟨rfl, hb8⟩; have HB8 := Lib.hid (Below.next HBX.out hb8); have HR8 := Lib.hid (HRX.out.below hb8); have HI8 := Lib.hid (HIX.out.below hb8); obtain ⟨hQ8, hq80, hq81, hqf80, hqf81⟩ := HR8.out; clear hb8) | fail)
      obtain ⟨_, hr1, hr2⟩ := HR8.out.res (.int .i64 ((m : Int) - 1)) (.slice (some ⟨g, 1, none⟩) (n - 1) (cp - 1))
      exact bodyPost_ret (v := .tuple #[.agg #[.int .i64 ((m : Int) - 1), .slice (some ⟨g, 1, none⟩) (n - 1) (cp - 1)], .bool true]) (by simp [results, Try.results24, go_sem, hr1, hr2]) rfl
        ⟨g, cp - 1, rfl, ICl.new ((HI8.out.far (by simp; omega) _).far (by simp; omega) _) (by omega) (Below.setCell (Below.setCell HB8.out (by simp) _) (by simp) _)⟩
  · exact absurd (pa_out hok2).1.1 (by omega)
set_option maxRecDepth 100000 in
set_option maxHeartbeats 4000000 in
theorem sh_specN (r : Int) (a : Option Addr) (n cap : Nat) (zs : List Int) (w : World) (h : IRow w a n zs) (hn : n ≤ 1048576) (hok : paB r zs n = true) (hok2 : paB (r - 1) ((ecL r zs n).drop (shO r zs n)) (n - shO r zs n) = false) : Calls Try.prog 24 #[.agg #[.int .i64 r, .slice a n cap]] w (YNone w) := by
  obtain ⟨⟨hr1, hr2⟩, ⟨hn1, hn2⟩, hwo, _⟩ := pa_out hok
  obtain ⟨m, rfl⟩ : ∃ m : Nat, r = (m : Int) := ⟨r.toNat, by omega⟩
  obtain ⟨b1, o1, rfl, _, _⟩ := h.cell' (k := 0) (by omega)
  have HA := Lib.hid h
  have HA2 : Hid (IRow ((w.alloc (.cells #[.int .i64 (m : Int), .slice (some ⟨b1, o1, none⟩) n cap] 28)).alloc (.cells #[.int .i64 0, .slice none 0 0] 28)) (some ⟨b1, o1, none⟩) n zs) := Lib.hid ((h.alloc _).alloc _)
  have HC := Lib.hid ((Kin.new (w := w) (x := .int .i64 (m : Int)) (y := .slice (some ⟨b1, o1, none⟩) n cap) (T := 28)).below (below_alloc _ (.cells #[.int .i64 0, .slice none 0 0] 28)))
  have HR : Hid (Kin ((w.alloc (.cells #[.int .i64 (m : Int), .slice (some ⟨b1, o1, none⟩) n cap] 28)).alloc (.cells #[.int .i64 0, .slice none 0 0] 28)) (w.heap.size + 1) (.int .i64 0) (.slice none 0 0)) := Lib.hid (Kin.new' (by simp))
  have HOK := Lib.hid hok
  have hF0 : shF (m : Int) zs n 0 < 65536 := by
    unfold shF; rw [Int.toNat_natCast]; rw [Int.toNat_natCast] at hwo
    exact (ech_at (fun j hj => (zN_at hwo hj).2) (by omega) (Nat.le_refl _)).2 0 (by omega)
  have HOD : Hid (shO (m : Int) zs n = if (shF (m : Int) zs n 0).testBit (m - 1) then 1 else 0) := Lib.hid (by unfold shO; rw [Int.toNat_natCast])
  have HST : Hid (∀ w2 : World, IRow w2 (some ⟨b1, o1, none⟩) n zs → Calls Try.prog 49 #[.int .i64 (m : Int), .slice (some ⟨b1, o1, none⟩) n cap] w2 fun e w' => ∃ g cp, n ≤ cp ∧ e = .returned (.tuple #[.slice (some ⟨g, 0, none⟩) n cp, .int .i64 ((ech (zN zs) m n m).k : Int)]) ∧ New w2 w' g (.il n (rI n (shF (m : Int) zs n)))) := Lib.hid (fun w2 h => by
    rw [Int.toNat_natCast] at hwo
    have := st_cap m b1 o1 n cap zs w2 h ⟨by omega, by omega⟩ ⟨hn1, hn2⟩ hwo
    unfold shF
    rw [Int.toNat_natCast]
    exact this)
  have HEL : Hid (ecL (m : Int) zs n = rI n (shF (m : Int) zs n)) := Lib.hid rfl
  rw [HEL.out] at hok2
  generalize shF (m : Int) zs n = F at hF0 HOD HST hok2 HEL
  generalize (ech (zN zs) m n m).k = rk at HST
  generalize shO (m : Int) zs n = o at HOD hok2
  clear h hok hwo HEL
  by_cases hm2 : 2 ≤ m
  · have d1 : decide ((m : Int) < 2) = false := decide_eq_false (by omega)
    have hwm : IntKind.i64.wrap ((m : Int) - 1) = (m : Int) - 1 := IntWalk.i64_in _ (by omega)
    have hme : ((m - 1 : Nat) : Int) = (m : Int) - 1 := by omega
    have HH : Hid (∀ w2 : World, Calls Try.prog 50 #[.int .i64 (F 0 : Int), .int .i64 ((m : Int) - 1)] w2 fun e w' => e = .returned (.bool ((F 0).testBit (m - 1))) ∧ w' = w2) := Lib.hid (fun w2 => by rw [← hme]; exact (has_spec (F 0) (m - 1) w2 (by omega) (by omega)).mono fun _ _ h9 => ⟨h9.1, h9.2.symm⟩)
    have hn0 : 0 < n := by omega
    have hn0' : (0 : Int) < (n : Int) := by omega
    have HF0 : Hid ((rI n F).getD 0 0 = ((F 0 : Nat) : Int)) := Lib.hid (rI_get F (by omega))
    clear hme
    cases hb : (F 0).testBit (m - 1) with
    | false =>
      rw [hb] at HOD HH
      have ho : o = 0 := HOD.out
      subst ho
      have HOK2 : Hid (paB ((m : Int) - 1) (rI n F) n = false) := Lib.hid (by have := hok2; rw [Nat.sub_zero] at this; exact this)
      clear hok2 hb HOD
      go_enter Try.func24, Try.ntmps24
      go_wp2_with (first | (go_at_call 48; refine (pi_spec _ (m : Int) _ n cap zs _ HA2.out hn HC.out.1 HC.out.2.1 HC.out.2.2.1).mono ?_; rw [HOK.out]; rintro e w2 ⟨rfl, hd⟩; have HC2 := Lib.hid (HC.out.below hd); have HR2 := Lib.hid (HR.out.below hd); have HB := Lib.hid (Below.next (Below.alloc (below_alloc _ _) (by simp) _) hd : Below w.heap.size w w2); obtain ⟨hP, hp0, hp1, hpf0, hpf1⟩ := HC2.out; obtain ⟨hQ, hq0, hq1, hqf0, hqf1⟩ := HR2.out; clear hd) | (go_at_call 49; (with_reducible refine (HST.out _ (HA.out.below HB.out)).mono ?_); rintro e w4 ⟨g, cp, hcpn, rfl, hnw⟩; have hgs := hnw.1; have HIC := Lib.hid (ICl.of hnw); have HB4 := Lib.hid (Below.next HB.out hnw.2.2.2); have HC4 := Lib.hid (HC2.out.below hnw.2.2.2); have HR4 := Lib.hid (HR2.out.below hnw.2.2.2); obtain ⟨hP4, hp40, hp41, hpf40, hpf41⟩ := HC4.out; obtain ⟨hck0, hcf0⟩ := HIC.out.cell (j := 0) (by omega); rw [HF0.out] at hck0; have hw2s : w.heap.size + 1 + 1 ≤ w2.heap.size := (by have := HR2.out.1; omega); clear hnw) | fail)
      go_quiet ((go_at_call 50; with_reducible exact Calls.quiet_of_same (HH.out _)))
      clear hP4 hp40 hp41 hpf40 hpf41 hck0 hcf0
      rename_i NQ
      have HIX := Lib.hid (show ICl (w4.drewN nq) g n (rI n F) from HIC.out)
      have HCX := Lib.hid (show Kin (w4.drewN nq) w.heap.size (.int .i64 (m : Int)) (.slice (some ⟨b1, o1, none⟩) n cap) from HC4.out)
      have HRX := Lib.hid (show Kin (w4.drewN nq) (w.heap.size + 1) (.int .i64 0) (.slice none 0 0) from HR4.out)
      have HBX := Lib.hid (Below.drewN' HB4.out nq)
      generalize w4.drewN nq = W at HIX HCX HRX HBX ⊢
      obtain ⟨hP5, hp50, hp51, hpf50, hpf51⟩ := HCX.out
      go_wp2_with (first | (go_at_call 51; (with_reducible refine (p6SN ((m : Int) - 1) _ n _ (rI n F) _ HIX.out.row hn HOK2.out).mono ?_); rintro e w8 ⟨rfl, hb8⟩; have HB8 := Lib.hid (Below.next HBX.out hb8); have HR8 := Lib.hid (HRX.out.below hb8); have HI8 := Lib.hid (HIX.out.below hb8); obtain ⟨hQ8, hq80, hq81, hqf80, hqf81⟩ := HR8.out; clear hb8) | fail)
      obtain ⟨_, hr1, hr2⟩ := HR8.out.res (.int .i64 0) (.slice none 0 0)
      exact bodyPost_ret (v := .tuple #[.agg #[.int .i64 0, .slice none 0 0], .bool false]) (by simp [results, Try.results24, go_sem, hr1, hr2]) rfl
        ⟨rfl, Below.setCell (Below.setCell HB8.out (by simp) _) (by simp) _⟩
    | true =>
      rw [hb] at HOD HH
      have ho : o = 1 := HOD.out
      subst ho
      have HOK2 : Hid (paB ((m : Int) - 1) ((rI n F).drop 1) (n - 1) = false) := Lib.hid hok2
      clear hok2 hb HOD
      go_enter Try.func24, Try.ntmps24
      go_wp2_with (first | (go_at_call 48; refine (pi_spec _ (m : Int) _ n cap zs _ HA2.out hn HC.out.1 HC.out.2.1 HC.out.2.2.1).mono ?_; rw [HOK.out]; rintro e w2 ⟨rfl, hd⟩; have HC2 := Lib.hid (HC.out.below hd); have HR2 := Lib.hid (HR.out.below hd); have HB := Lib.hid (Below.next (Below.alloc (below_alloc _ _) (by simp) _) hd : Below w.heap.size w w2); obtain ⟨hP, hp0, hp1, hpf0, hpf1⟩ := HC2.out; obtain ⟨hQ, hq0, hq1, hqf0, hqf1⟩ := HR2.out; clear hd) | (go_at_call 49; (with_reducible refine (HST.out _ (HA.out.below HB.out)).mono ?_); rintro e w4 ⟨g, cp, hcpn, rfl, hnw⟩; have hgs := hnw.1; have HIC := Lib.hid (ICl.of hnw); have HB4 := Lib.hid (Below.next HB.out hnw.2.2.2); have HC4 := Lib.hid (HC2.out.below hnw.2.2.2); have HR4 := Lib.hid (HR2.out.below hnw.2.2.2); obtain ⟨hP4, hp40, hp41, hpf40, hpf41⟩ := HC4.out; obtain ⟨hck0, hcf0⟩ := HIC.out.cell (j := 0) (by omega); rw [HF0.out] at hck0; have hw2s : w.heap.size + 1 + 1 ≤ w2.heap.size := (by have := HR2.out.1; omega); clear hnw) | fail)
      go_quiet ((go_at_call 50; with_reducible exact Calls.quiet_of_same (HH.out _)))
      clear hP4 hp40 hp41 hpf40 hpf41 hck0 hcf0
      rename_i NQ
      have HIX := Lib.hid (show ICl (w4.drewN nq) g n (rI n F) from HIC.out)
      have HCX := Lib.hid (show Kin (w4.drewN nq) w.heap.size (.int .i64 (m : Int)) (.slice (some ⟨b1, o1, none⟩) n cap) from HC4.out)
      have HRX := Lib.hid (show Kin (w4.drewN nq) (w.heap.size + 1) (.int .i64 0) (.slice none 0 0) from HR4.out)
      have HBX := Lib.hid (Below.drewN' HB4.out nq)
      generalize w4.drewN nq = W at HIX HCX HRX HBX ⊢
      obtain ⟨hP5, hp50, hp51, hpf50, hpf51⟩ := HCX.out
      have HG : Hid (∀ (o9 K9 cap9 : Nat), K9 = n - 1 → (o9 = 1 ∨ n = 1) → Calls Try.prog 51 #[.agg #[.int .i64 ((m : Int) - 1), .slice (some ⟨g, o9, none⟩) K9 cap9]] W fun e w' => e = .returned (.tuple #[.agg #[.int .i64 0, .slice none 0 0], .bool false]) ∧ Below W.heap.size W w') := Lib.hid (fun o9 K9 cap9 hK9 ho9 => by
        subst hK9
        refine p6SN ((m : Int) - 1) _ (n - 1) cap9 ((rI n F).drop 1) W ?_ (by omega) HOK2.out
        have h9 := irow_off HIX.out.row (o := 1) (by omega)
        rcases ho9 with rfl | rfl
        · exact h9
        · exact ⟨h9.1, .inl rfl⟩)
      by_cases hcp1 : cp = 1
      · have hn1' : n = 1 := by omega
        have hz9 : n - 1 = 0 := by omega
        have HZ9 := Lib.hid hz9
        have HN9 := Lib.hid hn1'
        clear hz9 hn1'
        subst hcp1
        go_wp2_with (first | (go_at_call 51; (with_reducible refine (HG.out 1 (n - 1) _ rfl (.inl rfl)).mono ?_); rintro e w8 ⟨rfl, hb8⟩; have HB8 := Lib.hid (Below.next HBX.out hb8); have HR8 := Lib.hid (HRX.out.below hb8); have HI8 := Lib.hid (HIX.out.below hb8); obtain ⟨hQ8, hq80, hq81, hqf80, hqf81⟩ := HR8.out; clear hb8) | (go_at_call 51; (with_reducible refine (HG.out 0 (n - 1) _ rfl (.inr HN9.out)).mono ?_); rintro e w8 ⟨rfl, hb8⟩; have HB8 := Lib.hid (Below.next HBX.out hb8); have HR8 := Lib.hid (HRX.out.below hb8); have HI8 := Lib.hid (HIX.out.below hb8); obtain ⟨hQ8, hq80, hq81, hqf80, hqf81⟩ := HR8.out; clear hb8) | (go_at_call 51; (with_reducible refine (HG.out 0 0 _ HZ9.out.symm (.inr HN9.out)).mono ?_); rintro e w8 ⟨rfl, hb8⟩; have HB8 := Lib.hid (Below.next HBX.out hb8); have HR8 := Lib.hid (HRX.out.below hb8); have HI8 := Lib.hid (HIX.out.below hb8); obtain ⟨hQ8, hq80, hq81, hqf80, hqf81⟩ := HR8.out; clear hb8) | fail)
        obtain ⟨_, hr1, hr2⟩ := HR8.out.res (.int .i64 0) (.slice none 0 0)
        exact bodyPost_ret (v := .tuple #[.agg #[.int .i64 0, .slice none 0 0], .bool false]) (by simp [results, Try.results24, go_sem, hr1, hr2]) rfl
          ⟨rfl, Below.setCell (Below.setCell HB8.out (by simp) _) (by simp) _⟩
      · go_wp2_with (first | (go_at_call 51; (with_reducible refine (HG.out 1 (n - 1) _ rfl (.inl rfl)).mono ?_); rintro e w8 ⟨rfl, hb8⟩; have HB8 := Lib.hid (Below.next HBX.out hb8); have HR8 := Lib.hid (HRX.out.below hb8); have HI8 := Lib.hid (HIX.out.below hb8); obtain ⟨hQ8, hq80, hq81, hqf80, hqf81⟩ := HR8.out; clear hb8) | (go_at_call 51; (with_reducible refine (HG.out 0 (n - 1) _ rfl (.inr HN9.out)).mono ?_); rintro e w8 ⟨rfl, hb8⟩; have HB8 := Lib.hid (Below.next HBX.out hb8); have HR8 := Lib.hid (HRX.out.below hb8); have HI8 := Lib.hid (HIX.out.below hb8); obtain ⟨hQ8, hq80, hq81, hqf80, hqf81⟩ := HR8.out; clear hb8) | (go_at_call 51; (with_reducible refine (HG.out 0 0 _ HZ9.out.symm (.inr HN9.out)).mono ?_); rintro e w8 ⟨rfl, hb8⟩; have HB8 := Lib.hid (Below.next HBX.out hb8); have HR8 := Lib.hid (HRX.out.below hb8); have HI8 := Lib.hid (HIX.out.below hb8); obtain ⟨hQ8, hq80, hq81, hqf80, hqf81⟩ := HR8.out; clear hb8) | fail)
        obtain ⟨_, hr1, hr2⟩ := HR8.out.res (.int .i64 0) (.slice none 0 0)
        exact bodyPost_ret (v := .tuple #[.agg #[.int .i64 0, .slice none 0 0], .bool false]) (by simp [results, Try.results24, go_sem, hr1, hr2]) rfl
          ⟨rfl, Below.setCell (Below.setCell HB8.out (by simp) _) (by simp) _⟩
  · have d1 : decide ((m : Int) < 2) = true := decide_eq_true (by omega)
    go_enter Try.func24, Try.ntmps24
    go_wp2_with (first | (go_at_call 48; refine (pi_spec _ (m : Int) _ n cap zs _ HA2.out hn HC.out.1 HC.out.2.1 HC.out.2.2.1).mono ?_; rw [HOK.out]; rintro e w2 ⟨rfl, hd⟩; have HC2 := Lib.hid (HC.out.below hd); have HR2 := Lib.hid (HR.out.below hd); have HB := Lib.hid (Below.next (Below.alloc (below_alloc _ _) (by simp) _) hd : Below w.heap.size w w2); obtain ⟨hP, hp0, hp1, hpf0, hpf1⟩ := HC2.out; obtain ⟨hQ, hq0, hq1, hqf0, hqf1⟩ := HR2.out; clear hd) | fail)
    obtain ⟨_, hr1, hr2⟩ := HR2.out.res (.int .i64 0) (.slice none 0 0)
    exact bodyPost_ret (v := .tuple #[.agg #[.int .i64 0, .slice none 0 0], .bool false]) (by simp [results, Try.results24, go_sem, hr1, hr2]) rfl
      ⟨rfl, Below.setCell (Below.setCell HB.out (by simp) _) (by simp) _⟩
set_option maxRecDepth 100000 in
set_option maxHeartbeats 2000000 in
theorem sh_implA (r : Int) (a : Option Addr) (n cap : Nat) (zs : List Int) (w : World) (h : IRow w a n zs) (hn : n ≤ 1048576) (hok : paB r zs n = false) : Calls Try.prog 25 #[.agg #[.int .i64 r, .slice a n cap]] w (YNone w) := by
  have HA2 : Hid (IRow ((w.alloc (.cells #[.int .i64 r, .slice a n cap] 28)).alloc (.cells #[.int .i64 0, .slice none 0 0] 28)) a n zs) := Lib.hid ((h.alloc _).alloc _)
  have HC := Lib.hid ((Kin.new (w := w) (x := .int .i64 r) (y := .slice a n cap) (T := 28)).below (below_alloc _ (.cells #[.int .i64 0, .slice none 0 0] 28)))
  have HR : Hid (Kin ((w.alloc (.cells #[.int .i64 r, .slice a n cap] 28)).alloc (.cells #[.int .i64 0, .slice none 0 0] 28)) (w.heap.size + 1) (.int .i64 0) (.slice none 0 0)) := Lib.hid (Kin.new' (by simp))
  have HOK := Lib.hid hok
  clear h hok
  go_enter Try.func25, Try.ntmps25
  go_wp2_with (first | (go_at_call 52; refine (ech_implN r _ n cap zs _ HA2.out hn HOK.out).mono ?_; rintro e w2 ⟨rfl, hd⟩; have HR2 := Lib.hid ((HR.out.below hd).below (below_alloc w2 (.cells #[.int .i64 0, .slice none 0 0] 28))); have HB := Lib.hid (Below.next (Below.next (Below.alloc (below_alloc _ _) (by simp) _) hd : Below w.heap.size w w2) (below_alloc w2 (.cells #[.int .i64 0, .slice none 0 0] 28))); obtain ⟨hQ, hq0, hq1, hqf0, hqf1⟩ := HR2.out; clear hd) | fail)
  obtain ⟨_, hr1, hr2⟩ := HR2.out.res (.int .i64 0) (.slice none 0 0)
  exact bodyPost_ret (v := .tuple #[.agg #[.int .i64 0, .slice none 0 0], .bool false]) (by simp [results, Try.results25, go_sem, hr1, hr2]) rfl
    ⟨rfl, Below.setCell (Below.setCell HB.out (by simp) _) (by simp) _⟩
set_option maxRecDepth 100000 in
set_option maxHeartbeats 4000000 in
theorem sh_implY (r : Int) (a : Option Addr) (n cap : Nat) (zs : List Int) (w : World) (h : IRow w a n zs) (hn : n ≤ 1048576) (hok : paB r zs n = true) (hok2 : paB (r - 1) ((ecL r zs n).drop (shO r zs n)) (n - shO r zs n) = true) : Calls Try.prog 25 #[.agg #[.int .i64 r, .slice a n cap]] w (SPost r zs n w) := by
  obtain ⟨⟨hr1, hr2⟩, ⟨hn1, hn2⟩, hwo, _⟩ := pa_out hok
  obtain ⟨m, rfl⟩ : ∃ m : Nat, r = (m : Int) := ⟨r.toNat, by omega⟩
  unfold SPost
  have HA2 : Hid (IRow ((w.alloc (.cells #[.int .i64 (m : Int), .slice a n cap] 28)).alloc (.cells #[.int .i64 0, .slice none 0 0] 28)) a n zs) := Lib.hid ((h.alloc _).alloc _)
  have HC := Lib.hid ((Kin.new (w := w) (x := .int .i64 (m : Int)) (y := .slice a n cap) (T := 28)).below (below_alloc _ (.cells #[.int .i64 0, .slice none 0 0] 28)))
  have HR : Hid (Kin ((w.alloc (.cells #[.int .i64 (m : Int), .slice a n cap] 28)).alloc (.cells #[.int .i64 0, .slice none 0 0] 28)) (w.heap.size + 1) (.int .i64 0) (.slice none 0 0)) := Lib.hid (Kin.new' (by simp))
  have HOK := Lib.hid hok
  have hFm : shF (m : Int) zs n 0 < 2 ^ m := by
    unfold shF; rw [Int.toNat_natCast]; rw [Int.toNat_natCast] at hwo
    obtain ⟨piv, H⟩ := ech_ok (z := zN zs) (wide := m) (n := n) (fun j hj => (zN_at hwo hj).2) m (Nat.le_refl _)
    exact H.word 0 (by omega)
  have hm1 : 1 ≤ m := by omega
  have hTB := top_bit hm1 hFm
  have hme : ((m - 1 : Nat) : Int) = (m : Int) - 1 := by omega
  have hwm : IntKind.i64.wrap ((m : Int) - 1) = (m : Int) - 1 := IntWalk.i64_in _ (by omega)
  have HWO : Hid (∀ w2 : World, Calls Try.prog 41 #[.int .i64 (shF (m : Int) zs n 0 : Int), .int .i64 ((m : Int) - 1)] w2 fun e w' => e = .returned (.bool (decide (shF (m : Int) zs n 0 < 2 ^ (m - 1)))) ∧ w2 = w') := Lib.hid (fun w2 => by rw [← hme, ← wo_castS]; exact word_impl _ (m - 1) w2 (by omega))
  have HOD : Hid (shO (m : Int) zs n = if (shF (m : Int) zs n 0).testBit (m - 1) then 1 else 0) := Lib.hid (by unfold shO; rw [Int.toNat_natCast])
  have HEC : Hid (∀ w2 : World, IRow w2 a n zs → Calls Try.prog 52 #[.agg #[.int .i64 (m : Int), .slice a n cap]] w2 fun e w' => ∃ g cp, n ≤ cp ∧ e = .returned (.tuple #[.agg #[.int .i64 (m : Int), .slice (some ⟨g, 0, none⟩) n cp], .bool true]) ∧ New w2 w' g (.il n (rI n (shF (m : Int) zs n)))) := Lib.hid (fun w2 h1 => ech_cap (m : Int) a n cap zs w2 h1 hn hok)
  have HEL : Hid (ecL (m : Int) zs n = rI n (shF (m : Int) zs n)) := Lib.hid rfl
  rw [HEL.out] at hok2 ⊢
  generalize shF (m : Int) zs n = F at hFm hTB HWO HOD HEC hok2 HEL ⊢
  generalize shO (m : Int) zs n = o at HOD hok2 ⊢
  have hn0 : 0 < n := by omega
  have hn0' : (0 : Int) < (n : Int) := by omega
  have HF0 : Hid ((rI n F).getD 0 0 = ((F 0 : Nat) : Int)) := Lib.hid (rI_get F (by omega))
  clear h hok hwo HEL hme
  · cases hb : decide (F 0 < 2 ^ (m - 1)) with
    | true =>
      rw [hb] at hTB HWO
      rw [hTB] at HOD
      have ho : o = 0 := HOD.out
      subst ho
      have HOK2 : Hid (paB ((m : Int) - 1) (rI n F) n = true) := Lib.hid (by have := hok2; rw [Nat.sub_zero] at this; exact this)
      clear hok2 hb HOD hTB hFm
      go_enter Try.func25, Try.ntmps25
      go_wp2_with (first | (go_at_call 52; (with_reducible refine (HEC.out _ HA2.out).mono ?_); rintro e w2 ⟨g, cp, hcpn, rfl, hnw⟩; have hgs := hnw.1; have hgl2 := hnw.2.1; have HIC := Lib.hid ((ICl.of hnw).below (below_alloc w2 (.cells #[.int .i64 (m : Int), .slice (some ⟨g, 0, none⟩) n cp] 28))); have HR4 := Lib.hid ((HR.out.below hnw.2.2.2).below (below_alloc w2 (.cells #[.int .i64 (m : Int), .slice (some ⟨g, 0, none⟩) n cp] 28))); have HC4 := Lib.hid ((HC.out.below hnw.2.2.2).below (below_alloc w2 (.cells #[.int .i64 (m : Int), .slice (some ⟨g, 0, none⟩) n cp] 28))); have HB4 := Lib.hid (Below.next (Below.next (Below.alloc (below_alloc _ _) (by simp) _) hnw.2.2.2 : Below w.heap.size w w2) (below_alloc w2 (.cells #[.int .i64 (m : Int), .slice (some ⟨g, 0, none⟩) n cp] 28))); obtain ⟨hP4, hp40, hp41, hpf40, hpf41⟩ := HC4.out; have hw2s : w.heap.size + 1 + 1 ≤ w2.heap.size := (by have := (HR.out.below hnw.2.2.2).1; omega); have hgs' : w.heap.size + 2 ≤ g := (by have := hgs; simp at this; omega); clear hnw) | fail)
      go_quiet (fail)
      clear hP4 hp40 hp41 hpf40 hpf41
      have HIX := Lib.hid (show ICl ((w2.alloc (.cells #[.int .i64 (m : Int), .slice (some ⟨g, 0, none⟩) n cp] 28)).drewN nq) g n (rI n F) from HIC.out)
      have HRX := Lib.hid (show Kin ((w2.alloc (.cells #[.int .i64 (m : Int), .slice (some ⟨g, 0, none⟩) n cp] 28)).drewN nq) (w.heap.size + 1) (.int .i64 0) (.slice none 0 0) from HR4.out)
      have HBX := Lib.hid (Below.drewN' HB4.out nq)
      generalize (w2.alloc (.cells #[.int .i64 (m : Int), .slice (some ⟨g, 0, none⟩) n cp] 28)).drewN nq = W at HIX HRX HBX ⊢
      obtain ⟨hck0, hcf0⟩ := HIX.out.cell (j := 0) (by omega)
      rw [HF0.out] at hck0
      go_wp2_with (first | (go_at_call 41; (with_reducible refine (HWO.out _).mono ?_); rintro e w' ⟨rfl, hw⟩; subst hw) | (go_at_call 53; (with_reducible refine (p6IY ((m : Int) - 1) _ n _ (rI n F) _ HIX.out.row hn HOK2.out).mono ?_); rintro e w8 ⟨rfl, hb8⟩; have HB8 := Lib.hid (Below.next HBX.out hb8); have HR8 := Lib.hid (HRX.out.below hb8); have HI8 := Lib.hid (HIX.out.below hb8); obtain ⟨hQ8, hq80, hq81, hqf80, hqf81⟩ := HR8.out; clear hb8) | fail)
      obtain ⟨_, hr1, hr2⟩ := HR8.out.res (.int .i64 ((m : Int) - 1)) (.slice (some ⟨g, 0, none⟩) n cp)
      exact bodyPost_ret (v := .tuple #[.agg #[.int .i64 ((m : Int) - 1), .slice (some ⟨g, 0, none⟩) n cp], .bool true]) (by simp [results, Try.results25, go_sem, hr1, hr2]) rfl
        ⟨g, cp, rfl, ICl.new ((HI8.out.far (by simp; omega) _).far (by simp; omega) _) (by omega) (Below.setCell (Below.setCell HB8.out (by simp) _) (by simp) _)⟩
    | false =>
      rw [hb] at hTB HWO
      rw [hTB] at HOD
      have ho : o = 1 := HOD.out
      subst ho
      have HOK2 : Hid (paB ((m : Int) - 1) ((rI n F).drop 1) (n - 1) = true) := Lib.hid hok2
      clear hok2 hb HOD hTB hFm
      go_enter Try.func25, Try.ntmps25
      go_wp2_with (first | (go_at_call 52; (with_reducible refine (HEC.out _ HA2.out).mono ?_); rintro e w2 ⟨g, cp, hcpn, rfl, hnw⟩; have hgs := hnw.1; have hgl2 := hnw.2.1; have HIC := Lib.hid ((ICl.of hnw).below (below_alloc w2 (.cells #[.int .i64 (m : Int), .slice (some ⟨g, 0, none⟩) n cp] 28))); have HR4 := Lib.hid ((HR.out.below hnw.2.2.2).below (below_alloc w2 (.cells #[.int .i64 (m : Int), .slice (some ⟨g, 0, none⟩) n cp] 28))); have HC4 := Lib.hid ((HC.out.below hnw.2.2.2).below (below_alloc w2 (.cells #[.int .i64 (m : Int), .slice (some ⟨g, 0, none⟩) n cp] 28))); have HB4 := Lib.hid (Below.next (Below.next (Below.alloc (below_alloc _ _) (by simp) _) hnw.2.2.2 : Below w.heap.size w w2) (below_alloc w2 (.cells #[.int .i64 (m : Int), .slice (some ⟨g, 0, none⟩) n cp] 28))); obtain ⟨hP4, hp40, hp41, hpf40, hpf41⟩ := HC4.out; have hw2s : w.heap.size + 1 + 1 ≤ w2.heap.size := (by have := (HR.out.below hnw.2.2.2).1; omega); have hgs' : w.heap.size + 2 ≤ g := (by have := hgs; simp at this; omega); clear hnw) | fail)
      go_quiet (fail)
      clear hP4 hp40 hp41 hpf40 hpf41
      have HIX := Lib.hid (show ICl ((w2.alloc (.cells #[.int .i64 (m : Int), .slice (some ⟨g, 0, none⟩) n cp] 28)).drewN nq) g n (rI n F) from HIC.out)
      have HRX := Lib.hid (show Kin ((w2.alloc (.cells #[.int .i64 (m : Int), .slice (some ⟨g, 0, none⟩) n cp] 28)).drewN nq) (w.heap.size + 1) (.int .i64 0) (.slice none 0 0) from HR4.out)
      have HBX := Lib.hid (Below.drewN' HB4.out nq)
      generalize (w2.alloc (.cells #[.int .i64 (m : Int), .slice (some ⟨g, 0, none⟩) n cp] 28)).drewN nq = W at HIX HRX HBX ⊢
      obtain ⟨hck0, hcf0⟩ := HIX.out.cell (j := 0) (by omega)
      rw [HF0.out] at hck0
      have hn2' : 1 ≤ n - 1 := (pa_out HOK2.out).2.1.1
      have hcp1 : ¬ cp = 1 := by omega
      have HROW := Lib.hid (irow_off HIX.out.row (o := 1) (by omega))
      go_wp2_with (first | (go_at_call 41; (with_reducible refine (HWO.out _).mono ?_); rintro e w' ⟨rfl, hw⟩; subst hw) | (go_at_call 53; (with_reducible refine (p6IY ((m : Int) - 1) _ (n - 1) _ ((rI n F).drop 1) _ HROW.out (by omega) HOK2.out).mono ?_); rintro e w8 ⟨rfl, hb8⟩; have HB8 := Lib.hid (Below.next HBX.out hb8); have HR8 := Lib.hid (HRX.out.below hb8); have HI8 := Lib.hid (HIX.out.below hb8); obtain ⟨hQ8, hq80, hq81, hqf80, hqf81⟩ := HR8.out; clear hb8) | fail)
      obtain ⟨_, hr1, hr2⟩ := HR8.out.res (.int .i64 ((m : Int) - 1)) (.slice (some ⟨g, 1, none⟩) (n - 1) (cp - 1))
      exact bodyPost_ret (v := .tuple #[.agg #[.int .i64 ((m : Int) - 1), .slice (some ⟨g, 1, none⟩) (n - 1) (cp - 1)], .bool true]) (by simp [results, Try.results25, go_sem, hr1, hr2]) rfl
        ⟨g, cp - 1, rfl, ICl.new ((HI8.out.far (by simp; omega) _).far (by simp; omega) _) (by omega) (Below.setCell (Below.setCell HB8.out (by simp) _) (by simp) _)⟩
set_option maxRecDepth 100000 in
set_option maxHeartbeats 4000000 in
theorem sh_implN (r : Int) (a : Option Addr) (n cap : Nat) (zs : List Int) (w : World) (h : IRow w a n zs) (hn : n ≤ 1048576) (hok : paB r zs n = true) (hok2 : paB (r - 1) ((ecL r zs n).drop (shO r zs n)) (n - shO r zs n) = false) : Calls Try.prog 25 #[.agg #[.int .i64 r, .slice a n cap]] w (YNone w) := by
  obtain ⟨⟨hr1, hr2⟩, ⟨hn1, hn2⟩, hwo, _⟩ := pa_out hok
  obtain ⟨m, rfl⟩ : ∃ m : Nat, r = (m : Int) := ⟨r.toNat, by omega⟩
  have HA2 : Hid (IRow ((w.alloc (.cells #[.int .i64 (m : Int), .slice a n cap] 28)).alloc (.cells #[.int .i64 0, .slice none 0 0] 28)) a n zs) := Lib.hid ((h.alloc _).alloc _)
  have HC := Lib.hid ((Kin.new (w := w) (x := .int .i64 (m : Int)) (y := .slice a n cap) (T := 28)).below (below_alloc _ (.cells #[.int .i64 0, .slice none 0 0] 28)))
  have HR : Hid (Kin ((w.alloc (.cells #[.int .i64 (m : Int), .slice a n cap] 28)).alloc (.cells #[.int .i64 0, .slice none 0 0] 28)) (w.heap.size + 1) (.int .i64 0) (.slice none 0 0)) := Lib.hid (Kin.new' (by simp))
  have HOK := Lib.hid hok
  have hFm : shF (m : Int) zs n 0 < 2 ^ m := by
    unfold shF; rw [Int.toNat_natCast]; rw [Int.toNat_natCast] at hwo
    obtain ⟨piv, H⟩ := ech_ok (z := zN zs) (wide := m) (n := n) (fun j hj => (zN_at hwo hj).2) m (Nat.le_refl _)
    exact H.word 0 (by omega)
  have hm1 : 1 ≤ m := by omega
  have hTB := top_bit hm1 hFm
  have hme : ((m - 1 : Nat) : Int) = (m : Int) - 1 := by omega
  have hwm : IntKind.i64.wrap ((m : Int) - 1) = (m : Int) - 1 := IntWalk.i64_in _ (by omega)
  have HWO : Hid (∀ w2 : World, Calls Try.prog 41 #[.int .i64 (shF (m : Int) zs n 0 : Int), .int .i64 ((m : Int) - 1)] w2 fun e w' => e = .returned (.bool (decide (shF (m : Int) zs n 0 < 2 ^ (m - 1)))) ∧ w2 = w') := Lib.hid (fun w2 => by rw [← hme, ← wo_castS]; exact word_impl _ (m - 1) w2 (by omega))
  have HOD : Hid (shO (m : Int) zs n = if (shF (m : Int) zs n 0).testBit (m - 1) then 1 else 0) := Lib.hid (by unfold shO; rw [Int.toNat_natCast])
  have HEC : Hid (∀ w2 : World, IRow w2 a n zs → Calls Try.prog 52 #[.agg #[.int .i64 (m : Int), .slice a n cap]] w2 fun e w' => ∃ g cp, n ≤ cp ∧ e = .returned (.tuple #[.agg #[.int .i64 (m : Int), .slice (some ⟨g, 0, none⟩) n cp], .bool true]) ∧ New w2 w' g (.il n (rI n (shF (m : Int) zs n)))) := Lib.hid (fun w2 h1 => ech_cap (m : Int) a n cap zs w2 h1 hn hok)
  have HEL : Hid (ecL (m : Int) zs n = rI n (shF (m : Int) zs n)) := Lib.hid rfl
  rw [HEL.out] at hok2
  generalize shF (m : Int) zs n = F at hFm hTB HWO HOD HEC hok2 HEL
  generalize shO (m : Int) zs n = o at HOD hok2
  have hn0 : 0 < n := by omega
  have hn0' : (0 : Int) < (n : Int) := by omega
  have HF0 : Hid ((rI n F).getD 0 0 = ((F 0 : Nat) : Int)) := Lib.hid (rI_get F (by omega))
  clear h hok hwo HEL hme
  · cases hb : decide (F 0 < 2 ^ (m - 1)) with
    | true =>
      rw [hb] at hTB HWO
      rw [hTB] at HOD
      have ho : o = 0 := HOD.out
      subst ho
      have HOK2 : Hid (paB ((m : Int) - 1) (rI n F) n = false) := Lib.hid (by have := hok2; rw [Nat.sub_zero] at this; exact this)
      clear hok2 hb HOD hTB hFm
      go_enter Try.func25, Try.ntmps25
      go_wp2_with (first | (go_at_call 52; (with_reducible refine (HEC.out _ HA2.out).mono ?_); rintro e w2 ⟨g, cp, hcpn, rfl, hnw⟩; have hgs := hnw.1; have hgl2 := hnw.2.1; have HIC := Lib.hid ((ICl.of hnw).below (below_alloc w2 (.cells #[.int .i64 (m : Int), .slice (some ⟨g, 0, none⟩) n cp] 28))); have HR4 := Lib.hid ((HR.out.below hnw.2.2.2).below (below_alloc w2 (.cells #[.int .i64 (m : Int), .slice (some ⟨g, 0, none⟩) n cp] 28))); have HC4 := Lib.hid ((HC.out.below hnw.2.2.2).below (below_alloc w2 (.cells #[.int .i64 (m : Int), .slice (some ⟨g, 0, none⟩) n cp] 28))); have HB4 := Lib.hid (Below.next (Below.next (Below.alloc (below_alloc _ _) (by simp) _) hnw.2.2.2 : Below w.heap.size w w2) (below_alloc w2 (.cells #[.int .i64 (m : Int), .slice (some ⟨g, 0, none⟩) n cp] 28))); obtain ⟨hP4, hp40, hp41, hpf40, hpf41⟩ := HC4.out; have hw2s : w.heap.size + 1 + 1 ≤ w2.heap.size := (by have := (HR.out.below hnw.2.2.2).1; omega); have hgs' : w.heap.size + 2 ≤ g := (by have := hgs; simp at this; omega); clear hnw) | fail)
      go_quiet (fail)
      clear hP4 hp40 hp41 hpf40 hpf41
      have HIX := Lib.hid (show ICl ((w2.alloc (.cells #[.int .i64 (m : Int), .slice (some ⟨g, 0, none⟩) n cp] 28)).drewN nq) g n (rI n F) from HIC.out)
      have HRX := Lib.hid (show Kin ((w2.alloc (.cells #[.int .i64 (m : Int), .slice (some ⟨g, 0, none⟩) n cp] 28)).drewN nq) (w.heap.size + 1) (.int .i64 0) (.slice none 0 0) from HR4.out)
      have HBX := Lib.hid (Below.drewN' HB4.out nq)
      generalize (w2.alloc (.cells #[.int .i64 (m : Int), .slice (some ⟨g, 0, none⟩) n cp] 28)).drewN nq = W at HIX HRX HBX ⊢
      obtain ⟨hck0, hcf0⟩ := HIX.out.cell (j := 0) (by omega)
      rw [HF0.out] at hck0
      go_wp2_with (first | (go_at_call 41; (with_reducible refine (HWO.out _).mono ?_); rintro e w' ⟨rfl, hw⟩; subst hw) | (go_at_call 53; (with_reducible refine (p6IN ((m : Int) - 1) _ n _ (rI n F) _ HIX.out.row hn HOK2.out).mono ?_); rintro e w8 ⟨rfl, hb8⟩; have HB8 := Lib.hid (Below.next HBX.out hb8); have HR8 := Lib.hid (HRX.out.below hb8); have HI8 := Lib.hid (HIX.out.below hb8); obtain ⟨hQ8, hq80, hq81, hqf80, hqf81⟩ := HR8.out; clear hb8) | fail)
      obtain ⟨_, hr1, hr2⟩ := HR8.out.res (.int .i64 0) (.slice none 0 0)
      exact bodyPost_ret (v := .tuple #[.agg #[.int .i64 0, .slice none 0 0], .bool false]) (by simp [results, Try.results25, go_sem, hr1, hr2]) rfl
        ⟨rfl, Below.setCell (Below.setCell HB8.out (by simp) _) (by simp) _⟩
    | false =>
      rw [hb] at hTB HWO
      rw [hTB] at HOD
      have ho : o = 1 := HOD.out
      subst ho
      have HOK2 : Hid (paB ((m : Int) - 1) ((rI n F).drop 1) (n - 1) = false) := Lib.hid hok2
      clear hok2 hb HOD hTB hFm
      go_enter Try.func25, Try.ntmps25
      go_wp2_with (first | (go_at_call 52; (with_reducible refine (HEC.out _ HA2.out).mono ?_); rintro e w2 ⟨g, cp, hcpn, rfl, hnw⟩; have hgs := hnw.1; have hgl2 := hnw.2.1; have HIC := Lib.hid ((ICl.of hnw).below (below_alloc w2 (.cells #[.int .i64 (m : Int), .slice (some ⟨g, 0, none⟩) n cp] 28))); have HR4 := Lib.hid ((HR.out.below hnw.2.2.2).below (below_alloc w2 (.cells #[.int .i64 (m : Int), .slice (some ⟨g, 0, none⟩) n cp] 28))); have HC4 := Lib.hid ((HC.out.below hnw.2.2.2).below (below_alloc w2 (.cells #[.int .i64 (m : Int), .slice (some ⟨g, 0, none⟩) n cp] 28))); have HB4 := Lib.hid (Below.next (Below.next (Below.alloc (below_alloc _ _) (by simp) _) hnw.2.2.2 : Below w.heap.size w w2) (below_alloc w2 (.cells #[.int .i64 (m : Int), .slice (some ⟨g, 0, none⟩) n cp] 28))); obtain ⟨hP4, hp40, hp41, hpf40, hpf41⟩ := HC4.out; have hw2s : w.heap.size + 1 + 1 ≤ w2.heap.size := (by have := (HR.out.below hnw.2.2.2).1; omega); have hgs' : w.heap.size + 2 ≤ g := (by have := hgs; simp at this; omega); clear hnw) | fail)
      go_quiet (fail)
      clear hP4 hp40 hp41 hpf40 hpf41
      have HIX := Lib.hid (show ICl ((w2.alloc (.cells #[.int .i64 (m : Int), .slice (some ⟨g, 0, none⟩) n cp] 28)).drewN nq) g n (rI n F) from HIC.out)
      have HRX := Lib.hid (show Kin ((w2.alloc (.cells #[.int .i64 (m : Int), .slice (some ⟨g, 0, none⟩) n cp] 28)).drewN nq) (w.heap.size + 1) (.int .i64 0) (.slice none 0 0) from HR4.out)
      have HBX := Lib.hid (Below.drewN' HB4.out nq)
      generalize (w2.alloc (.cells #[.int .i64 (m : Int), .slice (some ⟨g, 0, none⟩) n cp] 28)).drewN nq = W at HIX HRX HBX ⊢
      obtain ⟨hck0, hcf0⟩ := HIX.out.cell (j := 0) (by omega)
      rw [HF0.out] at hck0
      have HG : Hid (∀ (o9 K9 cap9 : Nat), K9 = n - 1 → (o9 = 1 ∨ n = 1) → Calls Try.prog 53 #[.agg #[.int .i64 ((m : Int) - 1), .slice (some ⟨g, o9, none⟩) K9 cap9]] W fun e w' => e = .returned (.tuple #[.agg #[.int .i64 0, .slice none 0 0], .bool false]) ∧ Below W.heap.size W w') := Lib.hid (fun o9 K9 cap9 hK9 ho9 => by
        subst hK9
        refine p6IN ((m : Int) - 1) _ (n - 1) cap9 ((rI n F).drop 1) W ?_ (by omega) HOK2.out
        have h9 := irow_off HIX.out.row (o := 1) (by omega)
        rcases ho9 with rfl | rfl
        · exact h9
        · exact ⟨h9.1, .inl rfl⟩)
      by_cases hcp1 : cp = 1
      · have hn1' : n = 1 := by omega
        have hz9 : n - 1 = 0 := by omega
        have HZ9 := Lib.hid hz9
        have HN9 := Lib.hid hn1'
        clear hz9 hn1'
        subst hcp1
        go_wp2_with (first | (go_at_call 41; (with_reducible refine (HWO.out _).mono ?_); rintro e w' ⟨rfl, hw⟩; subst hw) | (go_at_call 53; (with_reducible refine (HG.out 1 (n - 1) _ rfl (.inl rfl)).mono ?_); rintro e w8 ⟨rfl, hb8⟩; have HB8 := Lib.hid (Below.next HBX.out hb8); have HR8 := Lib.hid (HRX.out.below hb8); have HI8 := Lib.hid (HIX.out.below hb8); obtain ⟨hQ8, hq80, hq81, hqf80, hqf81⟩ := HR8.out; clear hb8) | (go_at_call 53; (with_reducible refine (HG.out 0 (n - 1) _ rfl (.inr HN9.out)).mono ?_); rintro e w8 ⟨rfl, hb8⟩; have HB8 := Lib.hid (Below.next HBX.out hb8); have HR8 := Lib.hid (HRX.out.below hb8); have HI8 := Lib.hid (HIX.out.below hb8); obtain ⟨hQ8, hq80, hq81, hqf80, hqf81⟩ := HR8.out; clear hb8) | (go_at_call 53; (with_reducible refine (HG.out 0 0 _ HZ9.out.symm (.inr HN9.out)).mono ?_); rintro e w8 ⟨rfl, hb8⟩; have HB8 := Lib.hid (Below.next HBX.out hb8); have HR8 := Lib.hid (HRX.out.below hb8); have HI8 := Lib.hid (HIX.out.below hb8); obtain ⟨hQ8, hq80, hq81, hqf80, hqf81⟩ := HR8.out; clear hb8) | fail)
        obtain ⟨_, hr1, hr2⟩ := HR8.out.res (.int .i64 0) (.slice none 0 0)
        exact bodyPost_ret (v := .tuple #[.agg #[.int .i64 0, .slice none 0 0], .bool false]) (by simp [results, Try.results25, go_sem, hr1, hr2]) rfl
          ⟨rfl, Below.setCell (Below.setCell HB8.out (by simp) _) (by simp) _⟩
      · go_wp2_with (first | (go_at_call 41; (with_reducible refine (HWO.out _).mono ?_); rintro e w' ⟨rfl, hw⟩; subst hw) | (go_at_call 53; (with_reducible refine (HG.out 1 (n - 1) _ rfl (.inl rfl)).mono ?_); rintro e w8 ⟨rfl, hb8⟩; have HB8 := Lib.hid (Below.next HBX.out hb8); have HR8 := Lib.hid (HRX.out.below hb8); have HI8 := Lib.hid (HIX.out.below hb8); obtain ⟨hQ8, hq80, hq81, hqf80, hqf81⟩ := HR8.out; clear hb8) | (go_at_call 53; (with_reducible refine (HG.out 0 (n - 1) _ rfl (.inr HN9.out)).mono ?_); rintro e w8 ⟨rfl, hb8⟩; have HB8 := Lib.hid (Below.next HBX.out hb8); have HR8 := Lib.hid (HRX.out.below hb8); have HI8 := Lib.hid (HIX.out.below hb8); obtain ⟨hQ8, hq80, hq81, hqf80, hqf81⟩ := HR8.out; clear hb8) | (go_at_call 53; (with_reducible refine (HG.out 0 0 _ HZ9.out.symm (.inr HN9.out)).mono ?_); rintro e w8 ⟨rfl, hb8⟩; have HB8 := Lib.hid (Below.next HBX.out hb8); have HR8 := Lib.hid (HRX.out.below hb8); have HI8 := Lib.hid (HIX.out.below hb8); obtain ⟨hQ8, hq80, hq81, hqf80, hqf81⟩ := HR8.out; clear hb8) | fail)
        obtain ⟨_, hr1, hr2⟩ := HR8.out.res (.int .i64 0) (.slice none 0 0)
        exact bodyPost_ret (v := .tuple #[.agg #[.int .i64 0, .slice none 0 0], .bool false]) (by simp [results, Try.results25, go_sem, hr1, hr2]) rfl
          ⟨rfl, Below.setCell (Below.setCell HB8.out (by simp) _) (by simp) _⟩
theorem sh_specYes (r : Int) (a : Option Addr) (n cap : Nat) (zs : List Int) (w : World) (h : IRow w a n zs) (hn : n ≤ 1048576) (hok : shB r zs n = true) : Calls Try.prog 24 #[.agg #[.int .i64 r, .slice a n cap]] w (SPost r zs n w) := sh_specY r a n cap zs w h hn (shB_out hok).1 (shB_out hok).2
theorem sh_specNo (r : Int) (a : Option Addr) (n cap : Nat) (zs : List Int) (w : World) (h : IRow w a n zs) (hn : n ≤ 1048576) (hok : shB r zs n = false) : Calls Try.prog 24 #[.agg #[.int .i64 r, .slice a n cap]] w (YNone w) := by
  rcases shB_no hok with h1 | h1
  · exact sh_specA r a n cap zs w h hn h1
  · exact sh_specN r a n cap zs w h hn h1.1 h1.2
theorem sh_implYes (r : Int) (a : Option Addr) (n cap : Nat) (zs : List Int) (w : World) (h : IRow w a n zs) (hn : n ≤ 1048576) (hok : shB r zs n = true) : Calls Try.prog 25 #[.agg #[.int .i64 r, .slice a n cap]] w (SPost r zs n w) := sh_implY r a n cap zs w h hn (shB_out hok).1 (shB_out hok).2
theorem sh_implNo (r : Int) (a : Option Addr) (n cap : Nat) (zs : List Int) (w : World) (h : IRow w a n zs) (hn : n ≤ 1048576) (hok : shB r zs n = false) : Calls Try.prog 25 #[.agg #[.int .i64 r, .slice a n cap]] w (YNone w) := by
  rcases shB_no hok with h1 | h1
  · exact sh_implA r a n cap zs w h hn h1
  · exact sh_implN r a n cap zs w h hn h1.1 h1.2
theorem sh_le (r : Int) (zs : List Int) (n : Nat) (h : shB r zs n = true) : shO r zs n ≤ n ∧ n ≤ 8 ∧ (ecL r zs n).length = n := by
  have h1 := (pa_out (shB_out h).1).2.1
  refine ⟨?_, h1.2, rI_len _ _⟩
  unfold shO
  split <;> omega
end Go.Proofs.Ytekbefmjifmnoaa
