
/- Shares: the polynomial through given places, as the program makes it. -/
import Derived.Test.YtaefmffmjbabcaaShs
import Derived.DeepKeys
import Derived.Deep.RegionHeld3
set_option linter.unusedVariables false
namespace Go.Proofs.Ytaefmffmjbabcaa
open Go.Proofs.Ytaefmffmjbabcaa.Flo Go.RowKit

theorem rest_eq {p n : Int} (hp : 0 < p) : (n.tmod p + p).tmod p = n % p := by
  have h1 := Int.emod_nonneg n (show p ≠ 0 by omega)
  have h2 := Int.emod_lt_of_pos n hp
  by_cases h0 : 0 ≤ n
  · rw [Int.tmod_eq_emod_of_nonneg h0, Int.tmod_eq_emod_of_nonneg (by omega), Int.add_emod_right, Int.emod_emod_of_dvd _ (Int.dvd_refl p)]
  · obtain ⟨m, rfl⟩ : ∃ m, n = -m := ⟨-n, by omega⟩
    have h3 := Int.emod_nonneg m (show p ≠ 0 by omega)
    have h4 := Int.emod_lt_of_pos m hp
    have e1 : m.tmod p = m % p := Int.tmod_eq_emod_of_nonneg (by omega)
    rw [Int.neg_tmod, e1, Int.tmod_eq_emod_of_nonneg (by omega)]
    exact Pol.Eqp.iff_emod.1 (by
      obtain ⟨c, hc⟩ := Pol.Eqp.emod (p := p) m
      exact ⟨1 - c, by grind⟩)
set_option maxHeartbeats 2000000 in
theorem ro_impl (p n : Int) (w : World) (hp : 0 < p ∧ p ≤ 257) (hn : -1000000 ≤ n ∧ n ≤ 1000000) : Calls Try.prog 158 #[.int .i64 p, .int .i64 n] w fun e w' => e = .returned (.int .i64 (n % p)) ∧ w = w' := by
  obtain ⟨hp1, hp2⟩ := hp
  have e3 : (n.tmod p + p).tmod p = n % p := rest_eq hp1
  have hpn : (p == 0) = false := by simpa using (show ¬ p = 0 by omega)
  have hb : -257 ≤ n.tmod p ∧ n.tmod p ≤ 257 := by
    by_cases h0 : 0 ≤ n
    · rw [Int.tmod_eq_emod_of_nonneg h0]
      have h1 := Int.emod_nonneg n (show p ≠ 0 by omega)
      have h2 := Int.emod_lt_of_pos n hp1
      omega
    · obtain ⟨m, rfl⟩ : ∃ m, n = -m := ⟨-n, by omega⟩
      have h3 := Int.emod_nonneg m (show p ≠ 0 by omega)
      have h4 := Int.emod_lt_of_pos m hp1
      rw [Int.neg_tmod, Int.tmod_eq_emod_of_nonneg (by omega)]
      omega
  have e2 : IntKind.i64.wrap (n.tmod p + p) = n.tmod p + p := IntWalk.i64_in _ (by omega)
  go_enter Try.func158, Try.ntmps158
  go_wp2
  go_ret
  exact ⟨rfl, rfl⟩
set_option maxHeartbeats 4000000 in
theorem qo_impl (p a b : Int) (q0 : Nat) (w : World) (hp : 0 < p ∧ p ≤ 257) (ha : -300 ≤ a ∧ a ≤ 300) (hb : 0 ≤ b ∧ b ≤ 257) (hq0 : (q0 : Int) < p) (hq : ((q0 : Int) * b - a) % p = 0) :
    Calls Try.prog 126 #[.int .i64 p, .int .i64 a, .int .i64 b] w fun e w' => ∃ q : Nat, e = .returned (.int .i64 (q : Int)) ∧ (q : Int) < p ∧ ((q : Int) * b - a) % p = 0 ∧ w = w' := by
  have HP := Lib.hid hp
  have HA := Lib.hid ha
  have HB := Lib.hid hb
  have HQ := Lib.hid hq
  clear hp ha hb hq
  go_enter Try.func126, Try.ntmps126
  go_wp2
  go_loop [7] (fun iv => ∃ q : Nat, q ≤ q0 ∧ iv = .int .i64 (q : Int)) (fun iv => q0 - (intOf iv).toNat)
  case atStart => exact ⟨0, Nat.zero_le _, rfl⟩
  case round =>
    obtain ⟨q, hqle, rfl⟩ := hrel
    have hm0 : 0 ≤ (q : Int) * b := Int.mul_nonneg (by omega) HB.out.1
    have hm1 : (q : Int) * b ≤ 257 * 257 := Int.mul_le_mul (by have := HP.out; omega) HB.out.2 HB.out.1 (by omega)
    have e1 : IntKind.i64.wrap ((q : Int) * b) = (q : Int) * b := IntWalk.i64_in _ (by omega)
    have e2 : IntKind.i64.wrap ((q : Int) * b - a) = (q : Int) * b - a := IntWalk.i64_in _ (by have := HA.out; omega)
    have HR : Hid (∀ w2, Calls Try.prog 158 #[.int .i64 p, .int .i64 ((q : Int) * b - a)] w2 fun e w' => e = .returned (.int .i64 (((q : Int) * b - a) % p)) ∧ w2 = w') := Lib.hid (fun w2 => ro_impl p _ w2 HP.out (by have := HA.out; omega))
    by_cases hz : ((q : Int) * b - a) % p = 0
    · have HZ := Lib.hid hz
      have HQP : Hid ((q : Int) < p) := Lib.hid (by omega)
      rw [hz] at HR
      clear hz hm0 hm1
      go_wp2_with (first | (go_at_call 158; (with_reducible refine (HR.out _).mono ?_); rintro e w' ⟨rfl, hw⟩; subst hw) | fail)
      go_ret
      exact ⟨q, rfl, HQP.out, HZ.out, rfl⟩
    · have hlt : q < q0 := by
        rcases Nat.lt_or_ge q q0 with h | h
        · exact h
        · obtain rfl : q = q0 := by omega
          exact absurd HQ.out hz
      have hne : (((q : Int) * b - a) % p == 0) = false := by simpa using hz
      have hwq : IntKind.i64.wrap ((q : Int) + 1) = (q : Int) + 1 := IntWalk.i64_in _ (by have := HP.out.2; omega)
      generalize ((q : Int) * b - a) % p = r at HR hne hz
      clear hm0 hm1
      go_wp2_with (first | (go_at_call 158; (with_reducible refine (HR.out _).mono ?_); rintro e w' ⟨rfl, hw⟩; subst hw) | fail)
      go_round
      case rel => exact ⟨q + 1, hlt, by go_num⟩
      case measure => simp [intOf]; omega
theorem plainI8 : Try.prog.plainKey 2 = true := by simp [Program.plainKey, Try.underlying2]
theorem infoI18 : (Try.prog.info? 2).map (·.size) = some 1 := by kernel_rfl
theorem ix_a8 (s : Nat → Int) {i : Nat} (hi : i < 8) (w : World) : (Instr.index 100 (.agg (a8 s)) (.int .i64 (i : Int))).run Try.prog w = .ok (.int .i64 (s i)) w := by
  have hp := run_part_plain (P := Try.prog) w plainI8 (a8_at s hi)
  cases hq : Try.prog.info? 2 with
  | none => have := infoI18; rw [hq] at this; cases this
  | some i0 =>
    have hs : i0.size = 1 := by have := infoI18; rw [hq] at this; simpa using this
    have h1 : (0 : Int) ≤ (i : Int) ∧ (i : Int) < 8 := by omega
    simp [Instr.index, asIntOf, run_underlying Try.underlying100, sizeOf, typeInfo, hq, hs, hi, hp]
/-- The product of x less a number, as far as i rounds have made it. -/
def shF (no : Nat → Int) (k : Nat) : Int := if k = 0 then 0 else no (k - 1)
def wrF (p x : Int) (no : Nat → Int) (i k : Nat) : Int := if k < i then (shF no k - x * no k) % p else if k = i then shF no k else 0
theorem wr_zero (p x : Int) (no : Nat → Int) (k : Nat) : wrF p x no 0 k = 0 := by unfold wrF shF; split <;> simp_all
theorem wr_at (p x : Int) (no : Nat → Int) (i : Nat) : wrF p x no i i = shF no i := by unfold wrF; rw [if_neg (by omega), if_pos rfl]
theorem wr_set (p x : Int) (no : Nat → Int) (i k : Nat) : (if k = i + 1 then no i else if k = i then (shF no i - x * no i) % p else wrF p x no i k) = wrF p x no (i + 1) k := by
  unfold wrF
  by_cases h1 : k = i + 1
  · subst h1; rw [if_pos rfl, if_neg (by omega), if_pos rfl]; simp [shF]
  · rw [if_neg h1]
    by_cases h2 : k = i
    · subst h2; rw [if_pos rfl, if_pos (by omega)]
    · rw [if_neg h2]
      by_cases h3 : k < i
      · rw [if_pos h3, if_pos (by omega)]
      · rw [if_neg h3, if_neg (by omega), if_neg (by omega), if_neg (by omega)]
theorem wr_last (p x : Int) (no : Nat → Int) (k : Nat) (hk : k < 8) : (if k = 7 then (shF no 7 - x * no 7) % p else wrF p x no 7 k) = wrF p x no 8 k := by
  unfold wrF
  by_cases h2 : k = 7
  · subst h2; rw [if_pos rfl, if_pos (by omega)]
  · rw [if_neg h2, if_pos (by omega), if_pos (by omega)]
theorem sh_in {p : Int} {no : Nat → Int} (hn : ∀ k, k < 8 → 0 ≤ no k ∧ no k < p) (hp : 0 < p) {i : Nat} (hi : i < 8) : 0 ≤ shF no i ∧ shF no i < p := by
  unfold shF
  split
  · exact ⟨Int.le_refl 0, hp⟩
  · exact hn _ (by omega)
set_option maxRecDepth 100000 in
set_option maxHeartbeats 4000000 in
theorem wr_impl (p x : Int) (no : Nat → Int) (w : World) (hp : 0 < p ∧ p ≤ 257) (hx : 0 ≤ x ∧ x ≤ 257) (hn : ∀ k, k < 8 → 0 ≤ no k ∧ no k < p) :
    Calls Try.prog 127 #[.agg (a8 no), .int .i64 p, .int .i64 x] w fun e w' => e = .returned (.agg (a8 (fun k => (shF no k - x * no k) % p))) ∧ Below w.heap.size w w' := by
  have HP := Lib.hid hp
  have HX := Lib.hid hx
  have HN := Lib.hid hn
  clear hp hx hn
  have hrng0 := ((A8.new w no 100).alloc (.cells (a8 fun _ => 0) 100)).alloc (.cells (a8 fun _ => 0) 100)
  have hrng := hrng0.range
  rw [z8] at hrng
  go_enter Try.func127, Try.ntmps127
  go_wp2_with (first | (refine load_8 rfl _ rfl w.heap.size (by rfl) no hrng ?_) | fail)
  go_loopw [11] (fun iv w' => ∃ (i : Nat) (wr : World), i ≤ 8 ∧ iv = .int .i64 i ∧ wr = w' ∧ Hid (Below w.heap.size w wr) ∧ Hid (A8 wr (w.heap.size + 1) (fun _ => 0)) ∧ Hid (A8 wr (w.heap.size + 1 + 1) (wrF p x no i))) (fun iv _ => 8 - (intOf iv).toNat)
  case atStart =>
    refine ⟨0, _, by omega, rfl, rfl, Lib.hid ?_, Lib.hid ?_, Lib.hid ?_⟩
    · exact ((below_alloc _ _).alloc (by simp) _).alloc (by simp; omega) _
    · have h := (A8.new (w.alloc (.cells (a8 no) 100)) (fun _ => 0) 100).alloc (.cells (a8 fun _ => 0) 100)
      rw [World.size_alloc] at h
      exact h
    · have h := A8.new ((w.alloc (.cells (a8 no) 100)).alloc (.cells (a8 fun _ => 0) 100)) (fun _ => 0) 100
      rw [World.size_alloc, World.size_alloc] at h
      exact h.congr (fun i _ => (wr_zero p x no i).symm)
  case round =>
    obtain ⟨i, wr, hi, rfl, rfl, HB, H0, HA⟩ := hrel
    by_cases hlt : i < 8
    · have hix := fun W => ix_a8 no hlt W
      obtain ⟨n0, n1⟩ := HN.out i hlt
      obtain ⟨s0, s1⟩ := sh_in HN.out HP.out.1 hlt
      have hc := (HA.out.2 i hlt).1
      have hf := (HA.out.2 i hlt).2
      rw [wr_at] at hc
      obtain ⟨hp1, hp2⟩ := HP.out
      obtain ⟨hx1, hx2⟩ := HX.out
      have hm0 : 0 ≤ x * no i := Int.mul_nonneg hx1 n0
      have hm1 : x * no i ≤ 257 * 257 := Int.mul_le_mul hx2 (by omega) n0 (by omega)
      have e1 : IntKind.i64.wrap (x * no i) = x * no i := IntWalk.i64_in _ (by omega)
      have e2 : IntKind.i64.wrap (shF no i - x * no i) = shF no i - x * no i := IntWalk.i64_in _ (by omega)
      have HR : Hid (∀ w2, Calls Try.prog 158 #[.int .i64 p, .int .i64 (shF no i - x * no i)] w2 fun e w' => e = .returned (.int .i64 ((shF no i - x * no i) % p)) ∧ w2 = w') := Lib.hid (fun w2 => ro_impl p _ w2 HP.out (by omega))
      have hwi : IntKind.i64.wrap ((i : Int) + 1) = (i : Int) + 1 := IntWalk.i64_in _ (by omega)
      by_cases h7 : i + 1 < 8
      · have d1 : decide ((i : Int) + 1 < 8) = true := decide_eq_true (by omega)
        have hA2 := HA.out.set (k := i) ((shF no i - x * no i) % p)
        have hc2 := (hA2.2 (i + 1) h7).1
        have hf2 := (hA2.2 (i + 1) h7).2
        have HA3 := Lib.hid ((hA2.set (k := i + 1) (no i)).congr (g2 := wrF p x no (i + 1)) (fun k _ => wr_set p x no i k))
        have HB3 := Lib.hid ((HB.out.setCell (p := ⟨w.heap.size + 1 + 1, i, none⟩) (by simp; omega) (.int .i64 ((shF no i - x * no i) % p))).setCell (p := ⟨w.heap.size + 1 + 1, i + 1, none⟩) (by simp; omega) (.int .i64 (no i)))
        have H03 := Lib.hid ((H0.out.other (q := w.heap.size + 1 + 1) (k := i) (by omega) (.int .i64 ((shF no i - x * no i) % p))).other (q := w.heap.size + 1 + 1) (k := i + 1) (by omega) (.int .i64 (no i)))
        clear hA2
        generalize (shF no i - x * no i) % p = r at HR HA3 HB3 H03 hc2 hf2
        generalize no i = z at *
        go_wp2_with (first | (go_at_call 158; (with_reducible refine (HR.out _).mono ?_); rintro e w' ⟨rfl, hw⟩; subst hw) | fail)
        exact ⟨⟨i + 1, _, by omega, by first | rfl | go_num | (congr 1), rfl, HB3, H03, HA3⟩, by show 8 - ((i : Int) + 1).toNat < 8 - (i : Int).toNat; omega⟩
      · have d1 : decide ((i : Int) + 1 < 8) = false := decide_eq_false (by omega)
        have HA3 := Lib.hid ((HA.out.set (k := i) ((shF no i - x * no i) % p)).congr (g2 := wrF p x no (i + 1)) (fun k hk => by
          have e7 : i = 7 := by omega
          subst e7
          exact wr_last p x no k hk))
        have HB3 := Lib.hid (HB.out.setCell (p := ⟨w.heap.size + 1 + 1, i, none⟩) (by simp; omega) (.int .i64 ((shF no i - x * no i) % p)))
        have H03 := Lib.hid (H0.out.other (q := w.heap.size + 1 + 1) (k := i) (by omega) (.int .i64 ((shF no i - x * no i) % p)))
        generalize (shF no i - x * no i) % p = r at HR HA3 HB3 H03
        generalize no i = z at *
        go_wp2_with (first | (go_at_call 158; (with_reducible refine (HR.out _).mono ?_); rintro e w' ⟨rfl, hw⟩; subst hw) | fail)
        exact ⟨⟨i + 1, _, by omega, by first | rfl | go_num | (congr 1), rfl, HB3, H03, HA3⟩, by show 8 - ((i : Int) + 1).toNat < 8 - (i : Int).toNat; omega⟩
    · obtain rfl : i = 8 := by omega
      have hrng9 := HA.out.range
      have hth := H0.out.there
      have HQ := Lib.hid (H0.out.setCells (wrF p x no 8)).range
      have HBB := Lib.hid (below_setCells8 (p := w.heap.size + 1) (Nat.le_succ _) (a8 (wrF p x no 8)).toList 0 _ HB.out)
      have HE : Hid (a8 (wrF p x no 8) = a8 (fun k => (shF no k - x * no k) % p)) := Lib.hid (a8_congr (fun k hk => by unfold wrF; rw [if_pos hk]))
      go_wp2_with (first | (refine load_8 rfl _ rfl (w.heap.size + 1 + 1) (by rfl) (wrF p x no 8) hrng9 ?_) | (refine store_8 rfl _ _ rfl (w.heap.size + 1) (by rfl) (wrF p x no 8) (by rfl) hth ?_) | fail)
      rw [← HE.out]
      exact bodyPost_ret (v := .agg (a8 (wrF p x no 8))) (res_8 rfl _ _ _ _ (by rfl) HQ.out) rfl ⟨rfl, HBB.out⟩
/-- What lies where in the loop. -/
def PTh (w wr : World) (p : Int) (ps vs : Nat → Int) (i : Nat) (th no : Nat → Int) : Prop := Below w.heap.size w wr ∧ A8 wr w.heap.size (fun _ => 0) ∧ A8 wr (w.heap.size + 1) th ∧ A8 wr (w.heap.size + 1 + 1) no ∧ Pol.Nwt p ps vs i th no
theorem qz_ex {p v a : Int} (hp : p ∈ Pol.prs) (hv : ¬ Pol.Eqp p v 0) : ∃ q0 : Nat, (q0 : Int) < p ∧ ((q0 : Int) * v - a) % p = 0 := by
  obtain ⟨y, _, hy⟩ := Pol.inv_of hp hv
  have hp0 : 0 < p := by simp [Pol.prs] at hp; omega
  have h1 := Int.emod_nonneg (a * (y : Int)) (show p ≠ 0 by omega)
  have h2 := Int.emod_lt_of_pos (a * (y : Int)) hp0
  refine ⟨(a * (y : Int) % p).toNat, by omega, ?_⟩
  rw [Int.toNat_of_nonneg h1]
  obtain ⟨c, hc⟩ := Pol.Eqp.emod (p := p) (a * (y : Int))
  obtain ⟨d, hd⟩ := (Pol.Eqp.emod (p := p) (v * (y : Int))).symm.trans (Pol.Eqp.of_eq hy)
  have e : Pol.Eqp p (a * (y : Int) % p * v - a) 0 := ⟨c * v + a * d, by grind⟩
  have := Pol.Eqp.iff_emod.1 e
  simpa using this
theorem ne_places {p : Int} (hp : p ∈ Pol.prs) {zs : List Int} {n : Nat} (hz : letP zs p n) (hd : ∀ i j, i < j → j < n → zs.getD j 0 ≠ zs.getD i 0) {i j : Nat} (hi : i < n) (hj : j < n) (hij : i ≠ j) : ¬ Pol.Eqp p (zs.getD j 0 - zs.getD i 0) 0 := fun ⟨c, hc⟩ => by
  have hp0 : 0 < p := by simp [Pol.prs] at hp; omega
  have h1 := hz i hi
  have h2 := hz j hj
  have h3 : c = 0 := by
    rcases Int.lt_trichotomy c 0 with q | q | q
    · have : p * c ≤ p * (-1) := Int.mul_le_mul_of_nonneg_left (by omega) (by omega)
      omega
    · exact q
    · have : p * 1 ≤ p * c := Int.mul_le_mul_of_nonneg_left (by omega) (by omega)
      omega
  subst h3
  rcases Nat.lt_or_gt_of_ne hij with q | q
  · exact hd i j q hj (by omega)
  · exact hd j i q hi (by omega)
theorem pt_ne {p : Int} (hp : p ∈ Pol.prs) {zs ys : List Int} {n i : Nat} {th no : Nat → Int} (h : Pol.Nwt p (fun k => zs.getD k 0) (fun k => ys.getD k 0) i th no) (hi : i < n) (hn : n ≤ 8) (hz : letP zs p n) (hd : ∀ i j, i < j → j < n → zs.getD j 0 ≠ zs.getD i 0) : ¬ Pol.Eqp p (Pol.ho p no (zs.getD i 0) 8 8) 0 := fun h0 => by
  have h1 := (Pol.ho_pv p (zs.getD i 0) 8 no).symm.trans h0
  have h2 := (h.val (by omega) (zs.getD i 0)).symm.trans h1
  exact Pol.pr_ne (Pol.prm_of hp) (Pol.one_ne hp) (fun k => zs.getD k 0) (zs.getD i 0) i (fun j hj => ne_places hp hz hd (show j < n by omega) hi (by omega)) h2
theorem pt_by {p : Int} {th no : Nat → Int} {z y q : Int} (h : (q * Pol.ho p no z 8 8 - (y - Pol.ho p th z 8 8)) % p = 0) : Pol.Eqp p (q * Pol.pv 8 no z) (y - Pol.pv 8 th z) := by
  obtain ⟨c, hc⟩ := Pol.Eqp.iff_emod.2 (show (q * Pol.ho p no z 8 8 - (y - Pol.ho p th z 8 8)) % p = 0 % p by rw [h]; simp)
  obtain ⟨d, hd⟩ := Pol.ho_pv p z 8 no
  obtain ⟨e, he⟩ := Pol.ho_pv p z 8 th
  exact ⟨c - q * d - e, by grind⟩
theorem A8.kept9 {w w' : World} {p n : Nat} {g : Nat → Int} (h : A8 w p g) (hp : p < n) (hb : Below n w w') : A8 w' p g := ⟨Nat.lt_of_lt_of_le h.1 hb.size, fun i hi => ⟨by rw [hb.cell (p := ⟨p, i, none⟩) hp]; exact (h.2 i hi).1, by rw [hb.frozen (p := ⟨p, i, none⟩) hp]; exact (h.2 i hi).2⟩⟩
/-- The sum with a multiple, as far as j rounds have made it. -/
def mxF (p q : Int) (th no : Nat → Int) (j k : Nat) : Int := if k < j then (th k + q * no k) % p else th k
theorem mx_set (p q : Int) (th no : Nat → Int) (j k : Nat) : (if k = j then (th j + q * no j) % p else mxF p q th no j k) = mxF p q th no (j + 1) k := by
  unfold mxF
  by_cases h : k = j
  · subst h; rw [if_pos rfl, if_pos (by omega)]
  · rw [if_neg h]
    by_cases h2 : k < j
    · rw [if_pos h2, if_pos (by omega)]
    · rw [if_neg h2, if_neg (by omega)]
theorem mx_at (p q : Int) (th no : Nat → Int) (j : Nat) : mxF p q th no j j = th j := by unfold mxF; rw [if_neg (by omega)]
def PTm (w wr : World) (th no : Nat → Int) : Prop := Below w.heap.size w wr ∧ A8 wr w.heap.size (fun _ => 0) ∧ A8 wr (w.heap.size + 1) th ∧ A8 wr (w.heap.size + 1 + 1) no
theorem PTm.put {w wr : World} {th no th2 : Nat → Int} {j : Nat} {v : Int} (h : PTm w wr th no) (e : ∀ k, (if k = j then v else th k) = th2 k) : PTm w (wr.setCell ⟨w.heap.size + 1, j, none⟩ (.int .i64 v)) th2 no :=
  ⟨h.1.setCell (p := ⟨w.heap.size + 1, j, none⟩) (by simp) _, h.2.1.other (by omega) _, (h.2.2.1.set (k := j) v).congr (fun k _ => e k), h.2.2.2.other (by omega) _⟩
theorem PTm.below {w W W' : World} {th no : Nat → Int} (h : PTm w W th no) (hb : Below W.heap.size W W') : PTm w W' th no := ⟨Below.next h.1 hb, h.2.1.below hb, h.2.2.1.below hb, h.2.2.2.below hb⟩
theorem A8.setApart {w : World} {p q : Nat} {g : Nat → Int} (h : A8 w p g) (hq : p < q) (vs : List Value) : A8 (w.setCells q 0 vs) p g := h.kept9 hq (below_setCells8 (Nat.le_refl _) vs 0 _ (Below.refl _ _))
theorem st_8 {w : World} {p : Nat} {g : Nat → Int} (h : A8 w p g) (g2 : Nat → Int) : (storeCells ⟨p, 0, none⟩ (a8 g2).toList).run Try.prog w = .ok () (w.setCells p 0 (a8 g2).toList) := by
  have hs : (a8 g2).toList.length = 8 := rfl
  have := run_storeCells_cells (P := Try.prog) p 0 (a8 g2).toList 0 w (fun j hj => by have h1 := (h.2 j (by omega)).1; simp [h1]) (fun j hj => by have h1 := (h.2 j (by omega)).2; simpa using h1) (by intro v hv; simp [a8] at hv; rcases hv with rfl | rfl | rfl | rfl | rfl | rfl | rfl | rfl <;> rfl)
  simpa using this
/-- The same, and the value that is read. -/
def PX (w W : World) (p : Int) (ps vs : Nat → Int) (i : Nat) (th no : Nat → Int) (bb ob : Nat) (y : Int) : Prop := PTh w W p ps vs i th no ∧ bb < w.heap.size ∧ W.cell? ⟨bb, ob, none⟩ = some (.int .i64 y)
theorem PTh.below {w W W' : World} {p : Int} {ps vs : Nat → Int} {i : Nat} {th no : Nat → Int} (h : PTh w W p ps vs i th no) (hb : Below W.heap.size W W') : PTh w W' p ps vs i th no :=
  ⟨Below.next h.1 hb, h.2.1.below hb, h.2.2.1.below hb, h.2.2.2.1.below hb, h.2.2.2.2⟩
theorem PX.below {w W W' : World} {p : Int} {ps vs : Nat → Int} {i : Nat} {th no : Nat → Int} {bb ob : Nat} {y : Int} (h : PX w W p ps vs i th no bb ob y) (hb : Below W.heap.size W W') : PX w W' p ps vs i th no bb ob y :=
  ⟨h.1.below hb, h.2.1, by rw [hb.cell (p := ⟨bb, ob, none⟩) (Nat.lt_of_lt_of_le h.2.1 h.1.1.size)]; exact h.2.2⟩
theorem PX.drewN {w W : World} {p : Int} {ps vs : Nat → Int} {i : Nat} {th no : Nat → Int} {bb ob : Nat} {y : Int} (h : PX w W p ps vs i th no bb ob y) (q : Nat) : PX w (W.drewN q) p ps vs i th no bb ob y := h.below (Below.drewN' (Below.refl _ _) q)
theorem PX.drew {w W : World} {p : Int} {ps vs : Nat → Int} {i : Nat} {th no : Nat → Int} {bb ob : Nat} {y : Int} (h : PX w W p ps vs i th no bb ob y) : PX w W.drew p ps vs i th no bb ob y := by rw [World.drew_is_drewN]; exact h.drewN 1
theorem px_cells {w W : World} {p : Int} {ps vs : Nat → Int} {i : Nat} {th no : Nat → Int} {bb ob : Nat} {y : Int} (h : PX w W p ps vs i th no bb ob y) : W.cell? ⟨w.heap.size + 1, 0, none⟩ = some (.int .i64 (th 0)) ∧ W.cell? ⟨w.heap.size + 1, 1, none⟩ = some (.int .i64 (th 1)) ∧ W.cell? ⟨w.heap.size + 1, 2, none⟩ = some (.int .i64 (th 2)) ∧ W.cell? ⟨w.heap.size + 1, 3, none⟩ = some (.int .i64 (th 3)) ∧ W.cell? ⟨w.heap.size + 1, 4, none⟩ = some (.int .i64 (th 4)) ∧ W.cell? ⟨w.heap.size + 1, 5, none⟩ = some (.int .i64 (th 5)) ∧ W.cell? ⟨w.heap.size + 1, 6, none⟩ = some (.int .i64 (th 6)) ∧ W.cell? ⟨w.heap.size + 1, 7, none⟩ = some (.int .i64 (th 7)) ∧ W.cell? ⟨w.heap.size + 1 + 1, 0, none⟩ = some (.int .i64 (no 0)) ∧ W.cell? ⟨w.heap.size + 1 + 1, 1, none⟩ = some (.int .i64 (no 1)) ∧ W.cell? ⟨w.heap.size + 1 + 1, 2, none⟩ = some (.int .i64 (no 2)) ∧ W.cell? ⟨w.heap.size + 1 + 1, 3, none⟩ = some (.int .i64 (no 3)) ∧ W.cell? ⟨w.heap.size + 1 + 1, 4, none⟩ = some (.int .i64 (no 4)) ∧ W.cell? ⟨w.heap.size + 1 + 1, 5, none⟩ = some (.int .i64 (no 5)) ∧ W.cell? ⟨w.heap.size + 1 + 1, 6, none⟩ = some (.int .i64 (no 6)) ∧ W.cell? ⟨w.heap.size + 1 + 1, 7, none⟩ = some (.int .i64 (no 7)) ∧ W.cell? ⟨bb, ob, none⟩ = some (.int .i64 y) :=
  ⟨(h.1.2.2.1.2 0 (by decide)).1, (h.1.2.2.1.2 1 (by decide)).1, (h.1.2.2.1.2 2 (by decide)).1, (h.1.2.2.1.2 3 (by decide)).1, (h.1.2.2.1.2 4 (by decide)).1, (h.1.2.2.1.2 5 (by decide)).1, (h.1.2.2.1.2 6 (by decide)).1, (h.1.2.2.1.2 7 (by decide)).1, (h.1.2.2.2.1.2 0 (by decide)).1, (h.1.2.2.2.1.2 1 (by decide)).1, (h.1.2.2.2.1.2 2 (by decide)).1, (h.1.2.2.2.1.2 3 (by decide)).1, (h.1.2.2.2.1.2 4 (by decide)).1, (h.1.2.2.2.1.2 5 (by decide)).1, (h.1.2.2.2.1.2 6 (by decide)).1, (h.1.2.2.2.1.2 7 (by decide)).1, h.2.2⟩
set_option maxRecDepth 100000 in
set_option maxHeartbeats 4000000 in
theorem pt_impl8 (p : Int) (a : Option Addr) (n cap : Nat) (zs : List Int) (b : Option Addr) (m capb : Nat) (ys : List Int) (w : World) (ha : IRow w a n zs) (hb : IRow w b m ys) (hp : p ∈ Pol.prs) (hn : n ≤ 8) (hm : n ≤ m)
    (hz : letP zs p n) (hy : letP ys p m) (hd : ∀ i j, i < j → j < n → zs.getD j 0 ≠ zs.getD i 0) :
    Calls Try.prog 77 #[.int .i64 p, .slice a n cap, .slice b m capb] w fun e w' => ∃ th no, e = .returned (.agg (a8 th)) ∧ Below w.heap.size w w' ∧ Pol.Nwt p (fun k => zs.getD k 0) (fun k => ys.getD k 0) n th no := by
  have HA := Lib.hid ha
  have HB := Lib.hid hb
  have HZ := Lib.hid hz
  have HY := Lib.hid hy
  have HPR := Lib.hid hp
  have HD := Lib.hid hd
  have hp2 : 7 ≤ p ∧ p ≤ 257 := by have := hp; simp [Pol.prs] at this; omega
  have HP := Lib.hid hp2
  clear ha hb hz hy hp hd hp2
  go_enter Try.func77, Try.ntmps77
  go_wp2
  go_loopw [17] (fun iv w' => ∃ (i : Nat) (wr : World), i ≤ n ∧ iv = .int .i64 i ∧ wr = w' ∧ Hid (∃ th no, PTh w wr p (fun k => zs.getD k 0) (fun k => ys.getD k 0) i th no)) (fun iv _ => n - (intOf iv).toNat)
  case atStart =>
    refine ⟨0, _, by omega, rfl, rfl, Lib.hid ⟨fun _ => 0, fun k => if k = 0 then 1 else 0, ?_, ?_, ?_, ?_, Pol.Nwt.start (by have := HP.out; omega) _ _⟩⟩
    · exact ((below_alloc _ _).alloc (by simp) _).alloc (by simp; omega) _
    · exact ((A8.new w (fun _ => 0) 100).alloc _).alloc _
    · have h := (A8.new (w.alloc (.cells (a8 fun _ => 0) 100)) (fun _ => 0) 100).alloc (.cells (a8 fun k => if k = 0 then 1 else 0) 100)
      rw [World.size_alloc] at h
      exact h
    · have h := A8.new ((w.alloc (.cells (a8 fun _ => 0) 100)).alloc (.cells (a8 fun _ => 0) 100)) (fun k => if k = 0 then 1 else 0) 100
      rw [World.size_alloc, World.size_alloc] at h
      exact h
  case round =>
    obtain ⟨i, wr, hi, rfl, rfl, ⟨th, no, hpt⟩⟩ := hrel
    have HPT := Lib.hid hpt
    clear hpt
    by_cases hlt : i < n
    · obtain ⟨ba, oa, rfl, hba, hca⟩ := (HA.out.below HPT.out.1).cell' hlt
      obtain ⟨bb, ob, rfl, hbb, hcb0⟩ := HB.out.cell' (show i < m by omega)
      have HX : Hid (PX w wr p (fun k => zs.getD k 0) (fun k => ys.getD k 0) i th no bb (ob + i) (ys.getD i 0)) := Lib.hid ⟨HPT.out, hbb, by rw [HPT.out.1.cell (p := ⟨bb, ob + i, none⟩) hbb]; exact hcb0⟩
      have hcb := HX.out.2.2
      obtain ⟨z0, z1⟩ := HZ.out i hlt
      obtain ⟨y0, y1⟩ := HY.out i (by omega)
      obtain ⟨hp7, hp257⟩ := HP.out
      have hr1 := HPT.out.2.2.1.range
      have hr2 := HPT.out.2.2.2.1.range
      have HT1 : Hid (∀ w2, Calls Try.prog 78 #[.agg (a8 th), .int .i64 p, .int .i64 (zs.getD i 0)] w2 fun e w' => e = .returned (.int .i64 (Pol.ho p th (zs.getD i 0) 8 8)) ∧ Below w2.heap.size w2 w') := Lib.hid (fun w2 => at_impl p _ th w2 (by omega) hp257 z0 (by omega) (fun k hk => by have := HPT.out.2.2.2.2.tin k hk; omega))
      have HT2 : Hid (∀ w2, Calls Try.prog 78 #[.agg (a8 no), .int .i64 p, .int .i64 (zs.getD i 0)] w2 fun e w' => e = .returned (.int .i64 (Pol.ho p no (zs.getD i 0) 8 8)) ∧ Below w2.heap.size w2 w') := Lib.hid (fun w2 => at_impl p _ no w2 (by omega) hp257 z0 (by omega) (fun k hk => by have := HPT.out.2.2.2.2.nin k hk; omega))
      obtain ⟨v10, v11⟩ := Pol.ho_in (show 0 < p by omega) th (zs.getD i 0) 8 8
      obtain ⟨v20, v21⟩ := Pol.ho_in (show 0 < p by omega) no (zs.getD i 0) 8 8
      obtain ⟨q0, hq0, hqz⟩ := qz_ex (a := ys.getD i 0 - Pol.ho p th (zs.getD i 0) 8 8) HPR.out (pt_ne HPR.out HPT.out.2.2.2.2 hlt hn HZ.out HD.out)
      have e5 : IntKind.i64.wrap (ys.getD i 0 - Pol.ho p th (zs.getD i 0) 8 8) = ys.getD i 0 - Pol.ho p th (zs.getD i 0) 8 8 := IntWalk.i64_in _ (by omega)
      have HQO : Hid (∀ w2, Calls Try.prog 126 #[.int .i64 p, .int .i64 (ys.getD i 0 - Pol.ho p th (zs.getD i 0) 8 8), .int .i64 (Pol.ho p no (zs.getD i 0) 8 8)] w2 fun e w' => ∃ q : Nat, e = .returned (.int .i64 (q : Int)) ∧ ((q : Int) < p ∧ Pol.Eqp p ((q : Int) * Pol.pv 8 no (zs.getD i 0)) (ys.getD i 0 - Pol.pv 8 th (zs.getD i 0))) ∧ w2 = w') := Lib.hid (fun w2 => (qo_impl p _ _ q0 w2 (by omega) (by omega) (by omega) hq0 hqz).mono (fun e w' ⟨q, h1, h2, h3, h4⟩ => ⟨q, h1, ⟨h2, pt_by h3⟩, h4⟩))
      clear hqz hcb0 hbb
      generalize hys : ys.getD i 0 = y at hcb HX HQO e5 y0 y1
      generalize hzs : zs.getD i 0 = z at hca HT1 HT2 HQO e5 v10 v11 v20 v21 z0 z1
      generalize Pol.ho p th z 8 8 = v1 at HT1 HQO e5 v10 v11
      generalize Pol.ho p no z 8 8 = v2 at HT2 HQO v20 v21
      go_wp2
      have hint0 : (0 : Int) ≤ (i : Int) := by omega
      have hint1 : (i : Int) < (m : Int) := by omega
      have hint2 : (i : Int) < (n : Int) := by omega
      simp only [a8] at HT1 HT2
      go_region_held3 (fun w' => w'.cell? ⟨w.heap.size + 1, 0, none⟩ = some (.int .i64 (th 0)) ∧ w'.cell? ⟨w.heap.size + 1, 1, none⟩ = some (.int .i64 (th 1)) ∧ w'.cell? ⟨w.heap.size + 1, 2, none⟩ = some (.int .i64 (th 2)) ∧ w'.cell? ⟨w.heap.size + 1, 3, none⟩ = some (.int .i64 (th 3)) ∧ w'.cell? ⟨w.heap.size + 1, 4, none⟩ = some (.int .i64 (th 4)) ∧ w'.cell? ⟨w.heap.size + 1, 5, none⟩ = some (.int .i64 (th 5)) ∧ w'.cell? ⟨w.heap.size + 1, 6, none⟩ = some (.int .i64 (th 6)) ∧ w'.cell? ⟨w.heap.size + 1, 7, none⟩ = some (.int .i64 (th 7)) ∧ w'.cell? ⟨w.heap.size + 1 + 1, 0, none⟩ = some (.int .i64 (no 0)) ∧ w'.cell? ⟨w.heap.size + 1 + 1, 1, none⟩ = some (.int .i64 (no 1)) ∧ w'.cell? ⟨w.heap.size + 1 + 1, 2, none⟩ = some (.int .i64 (no 2)) ∧ w'.cell? ⟨w.heap.size + 1 + 1, 3, none⟩ = some (.int .i64 (no 3)) ∧ w'.cell? ⟨w.heap.size + 1 + 1, 4, none⟩ = some (.int .i64 (no 4)) ∧ w'.cell? ⟨w.heap.size + 1 + 1, 5, none⟩ = some (.int .i64 (no 5)) ∧ w'.cell? ⟨w.heap.size + 1 + 1, 6, none⟩ = some (.int .i64 (no 6)) ∧ w'.cell? ⟨w.heap.size + 1 + 1, 7, none⟩ = some (.int .i64 (no 7)) ∧ w'.cell? ⟨bb, ob + i, none⟩ = some (.int .i64 y)) (first | exact px_cells HX.out | exact px_cells HX.out.drew | exact px_cells (HX.out.drewN _) | go_keep)
        (first | (go_at_call 78; (first | (with_reducible refine (HT1.out _).mono ?_) | (with_reducible refine (HT2.out _).mono ?_)); rintro e w2 ⟨rfl, hb⟩; (first | (have HX2 := Lib.hid (HX.out.below hb)) | (have HX2 := Lib.hid ((HX.out.drewN _).below hb)) | (have HX2 := Lib.hid (HX.out.drew.below hb))); clear hb; have HX := HX2; clear HX2) | (go_at_call 126; (with_reducible refine (HQO.out _).mono ?_); rintro e w' ⟨q, rfl, hq, hw⟩; subst hw; have HG := Lib.hid hq; clear hq) | fail)
      have hr2' := HX.out.1.2.2.2.1.range
      have HM0 : Hid (PTm w w2 (mxF p (q : Int) th no 0) no) := Lib.hid ⟨HX.out.1.1, HX.out.1.2.1, HX.out.1.2.2.1.congr (fun k _ => by unfold mxF; rw [if_neg (by omega)]), HX.out.1.2.2.2.1⟩
      have HNW := Lib.hid HX.out.1.2.2.2.2
      clear HX HT1 HT2 HQO HPT hcb hca e5 hr1 hr2
      go_wp2_with (first | (refine load_8 rfl _ rfl (w.heap.size + 1 + 1) (by rfl) no hr2' ?_) | fail)
      go_loopw [38] (fun iv w' => ∃ (j : Nat) (wj : World), j ≤ 8 ∧ iv = .int .i64 j ∧ wj = w' ∧ Hid (PTm w wj (mxF p (q : Int) th no j) no)) (fun iv _ => 8 - (intOf iv).toNat)
      case atStart => exact ⟨0, _, by omega, rfl, rfl, HM0⟩
      case round =>
        obtain ⟨j, wj, hj, rfl, rfl, HM⟩ := hrel
        by_cases hlj : j < 8
        · have hix := fun W => ix_a8 no hlj W
          obtain ⟨n0, n1⟩ := HNW.out.nin j hlj
          obtain ⟨t0, t1⟩ := HNW.out.tin j hlj
          have hc := (HM.out.2.2.1.2 j hlj).1
          have hf := (HM.out.2.2.1.2 j hlj).2
          rw [mx_at] at hc
          have hq1 := HG.out.1
          have hm0 : 0 ≤ (q : Int) * no j := Int.mul_nonneg (by omega) n0
          have hm1 : (q : Int) * no j ≤ 257 * 257 := Int.mul_le_mul (by omega) (by omega) n0 (by omega)
          have e1 : IntKind.i64.wrap ((q : Int) * no j) = (q : Int) * no j := IntWalk.i64_in _ (by omega)
          have e2 : IntKind.i64.wrap (th j + (q : Int) * no j) = th j + (q : Int) * no j := IntWalk.i64_in _ (by omega)
          have e3 : (th j + (q : Int) * no j).tmod p = (th j + (q : Int) * no j) % p := Int.tmod_eq_emod_of_nonneg (by omega)
          have hpn : (p == 0) = false := by simpa using (show ¬ p = 0 by omega)
          have hwj : IntKind.i64.wrap ((j : Int) + 1) = (j : Int) + 1 := IntWalk.i64_in _ (by omega)
          have HM2 := Lib.hid (HM.out.put (j := j) (mx_set p (q : Int) th no j))
          go_wp2
          exact ⟨⟨j + 1, _, by omega, by first | rfl | go_num | (congr 1), rfl, HM2⟩, by show 8 - ((j : Int) + 1).toNat < 8 - (j : Int).toNat; omega⟩
        · obtain rfl : j = 8 := by omega
          have hr3 := HM.out.2.2.2.range
          have HWR : Hid (∀ w3, Calls Try.prog 127 #[.agg (a8 no), .int .i64 p, .int .i64 z] w3 fun e w' => e = .returned (.agg (a8 (fun k => (shF no k - z * no k) % p))) ∧ Below w3.heap.size w3 w') := Lib.hid (fun w3 => wr_impl p z no w3 (by omega) (by omega) HNW.out.nin)
          have HST := Lib.hid (HNW.out.step (show 1 < p by omega) (show i < 8 by omega) (q : Int) (by show Pol.Eqp p ((q : Int) * Pol.pv 8 no (zs.getD i 0)) (ys.getD i 0 - Pol.pv 8 th (zs.getD i 0)); rw [hzs, hys]; exact HG.out.2))
          have hwi : IntKind.i64.wrap ((i : Int) + 1) = (i : Int) + 1 := IntWalk.i64_in _ (by omega)
          have HGN : Hid (∀ W3, PTm w W3 (mxF p (q : Int) th no 8) no → PTh w (W3.setCells (w.heap.size + 1 + 1) 0 (a8 (fun k => (shF no k - z * no k) % p)).toList) p (fun k => zs.getD k 0) (fun k => ys.getD k 0) (i + 1) (fun k => (th k + (q : Int) * no k) % p) (fun k => (shF no k - z * no k) % p)) := Lib.hid (fun W3 h3 => by
            refine ⟨below_setCells8 (by omega) _ 0 _ h3.1, h3.2.1.setApart (by omega) _, (h3.2.2.1.setApart (by omega) _).congr (fun k hk => by unfold mxF; rw [if_pos hk]), h3.2.2.2.setCells _, ?_⟩
            have := HST.out
            simp only [hzs] at this
            exact this)
          clear HST
          generalize hNX : (fun k => (shF no k - z * no k) % p) = nx at HWR HGN
          go_wp2_with (first | (refine load_8 rfl _ rfl (w.heap.size + 1 + 1) (by rfl) no hr3 ?_) | (go_at_call 127; (with_reducible refine (HWR.out _).mono ?_); rintro e w3 ⟨rfl, hb⟩; have HM3 := Lib.hid (HM.out.below hb); have hst3 := st_8 HM3.out.2.2.2 nx; have hgn := HGN.out _ HM3.out; (obtain ⟨W4, hW4⟩ : ∃ W4, W4 = w3.setCells (w.heap.size + 1 + 1) 0 (a8 nx).toList := ⟨_, rfl⟩); rw [← hW4] at hst3 hgn; have HP4 := Lib.hid hgn; clear hb hW4 hgn) | fail)
          exact ⟨⟨i + 1, _, by omega, by first | rfl | go_num | (congr 1), rfl, Lib.hid ⟨_, _, HP4.out⟩⟩, by show n - ((i : Int) + 1).toNat < n - (i : Int).toNat; omega⟩
    · obtain rfl : i = n := by omega
      have hrng9 := HPT.out.2.2.1.range
      have hth := HPT.out.2.1.there
      have HQ := Lib.hid (HPT.out.2.1.setCells th).range
      have HBB := Lib.hid (below_setCells8 (p := w.heap.size) (Nat.le_refl _) (a8 th).toList 0 _ HPT.out.1)
      have HN9 := Lib.hid HPT.out.2.2.2.2
      go_wp2_with (first | (refine load_8 rfl _ rfl (w.heap.size + 1) (by rfl) th hrng9 ?_) | (refine store_8 rfl _ _ rfl w.heap.size (by rfl) th (by rfl) hth ?_) | fail)
      exact bodyPost_ret (v := .agg (a8 th)) (res_8 rfl _ _ _ _ (by rfl) HQ.out) rfl ⟨_, _, rfl, HBB.out, HN9.out⟩
end Go.Proofs.Ytaefmffmjbabcaa
