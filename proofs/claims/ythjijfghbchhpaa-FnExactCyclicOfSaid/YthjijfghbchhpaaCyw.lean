
/- CyclicOf: the functions. -/
import Derived.Test.YthjijfghbchhpaaRpy
namespace Go.Proofs.Ythjijfghbchhpaa
open Go.Proofs.Ythjijfghbchhpaa.Flo Go.RowKit Go.Proofs.Ythjijfghbchhpaa.Pr

/-- How many times a number is doubled while it is below another one. -/
def cyF (lim x : Nat) : Nat → Nat
  | 0 => 0
  | f + 1 => if x < lim then cyF lim (2 * x) f + 1 else 0
theorem cyF_no {lim x : Nat} (h : ¬ x < lim) : ∀ f, cyF lim x f = 0
  | 0 => rfl
  | _ + 1 => if_neg h
theorem cyF_more {lim : Nat} : ∀ {f x : Nat}, 1 ≤ x → lim ≤ x * 2 ^ f → cyF lim x (f + 1) = cyF lim x f
  | 0, x, _, h => by
    show (if x < lim then _ else 0) = 0
    rw [if_neg (by omega)]
  | f + 1, x, h1, h => by
    show (if x < lim then cyF lim (2 * x) (f + 1) + 1 else 0) = (if x < lim then cyF lim (2 * x) f + 1 else 0)
    rw [cyF_more (f := f) (by omega) (by rw [Nat.pow_succ] at h; rw [Nat.mul_comm 2 x, Nat.mul_assoc, Nat.mul_comm 2 (2 ^ f)]; exact h)]
def cyK (p n : Nat) : Nat := cyF (2 ^ n) p 16
def cyL (p : Nat) : Nat → List Int
  | 0 => []
  | k + 1 => cyL p k ++ [((p * 2 ^ k : Nat) : Int)]
theorem cyL_on (p k : Nat) : (cyL p (k + 1)).map (Value.int .i64) = (cyL p k).map (Value.int .i64) ++ [.int .i64 ((p * 2 ^ k : Nat) : Int)] := by
  show (cyL p k ++ [_]).map (Value.int .i64) = _
  simp
/-- What must hold ahead of the rows. -/
def cyA (n p : Int) : Bool := wiB n && (woB p n.toNat && decide (p % 2 = 1))
def cyB (n p : Int) : Bool := cyA n p && paB n (cyL p.toNat (cyK p.toNat n.toNat)) (cyK p.toNat n.toNat)
theorem cy_le (p n : Nat) : cyK p n ≤ 16 := by
  have : ∀ lim f x, cyF lim x f ≤ f := by
    intro lim f
    induction f with
    | zero => intro x; exact Nat.le_refl _
    | succ f ih =>
      intro x
      show (if x < lim then cyF lim (2 * x) f + 1 else 0) ≤ f + 1
      have := ih (2 * x)
      split <;> omega
  exact this _ _ _
theorem cyA_out {n p : Int} (h : cyA n p = true) : ∃ m x : Nat, n = (m : Int) ∧ p = (x : Int) ∧ 1 ≤ m ∧ m ≤ 16 ∧ x < 2 ^ m ∧ x % 2 = 1 := by
  unfold cyA at h
  rw [Bool.and_eq_true, Bool.and_eq_true] at h
  have h1 : 1 ≤ n ∧ n ≤ 16 := of_decide_eq_true h.1
  obtain ⟨m, rfl⟩ : ∃ m : Nat, n = (m : Int) := ⟨n.toNat, by omega⟩
  have h2 := h.2.1
  rw [Int.toNat_natCast] at h2
  have h2 : 0 ≤ p ∧ p < 2 ^ m := of_decide_eq_true h2
  obtain ⟨x, rfl⟩ : ∃ x : Nat, p = (x : Int) := ⟨p.toNat, by omega⟩
  have h3 : (x : Int) % 2 = 1 := of_decide_eq_true h.2.2
  exact ⟨m, x, rfl, rfl, by omega, by omega, by exact_mod_cast h2.2, by omega⟩
theorem wo_cast (x m : Nat) : woB (x : Int) m = decide (x < 2 ^ m) := by
  unfold woB
  have e : ((2 ^ m : Nat) : Int) = 2 ^ m := by rw [Int.natCast_pow]; rfl
  rw [← e]
  by_cases h : x < 2 ^ m
  · rw [decide_eq_true h, decide_eq_true (by omega)]
  · rw [decide_eq_false h, decide_eq_false (by omega)]
/-- One more doubling. -/
theorem cy_go {x m k K : Nat} (hk : k < 16) (h : k + cyF (2 ^ m) (x * 2 ^ k) (16 - k) = K) (hlt : x * 2 ^ k < 2 ^ m) : k + 1 + cyF (2 ^ m) (x * 2 ^ (k + 1)) (16 - (k + 1)) = K := by
  rw [← h, show 16 - k = (16 - (k + 1)) + 1 by omega]
  show _ = k + (if x * 2 ^ k < 2 ^ m then cyF (2 ^ m) (2 * (x * 2 ^ k)) (16 - (k + 1)) + 1 else 0)
  rw [if_pos hlt, show x * 2 ^ (k + 1) = 2 * (x * 2 ^ k) by rw [Nat.pow_succ, ← Nat.mul_assoc, Nat.mul_comm]]
  omega
theorem cy_end {x m k K : Nat} (h : k + cyF (2 ^ m) (x * 2 ^ k) (16 - k) = K) (hlt : ¬ x * 2 ^ k < 2 ^ m) : k = K := by
  rw [cyF_no hlt] at h; exact h
theorem cy_top {x m k : Nat} (hx : 1 ≤ x) (hm : m ≤ 16) (h : x * 2 ^ k < 2 ^ m) : k < 16 := by
  apply Nat.lt_of_not_le
  intro hk
  have h1 : 2 ^ m ≤ 2 ^ k := Nat.pow_le_pow_right (by decide) (by omega)
  have h2 : 1 * 2 ^ k ≤ x * 2 ^ k := Nat.mul_le_mul_right _ hx
  omega
theorem cyK_pos {x m : Nat} (h : x < 2 ^ m) : 1 ≤ cyK x m := by
  show 1 ≤ (if x < 2 ^ m then cyF (2 ^ m) (2 * x) 15 + 1 else 0)
  rw [if_pos h]; omega
set_option maxRecDepth 100000 in
set_option maxHeartbeats 2000000 in
theorem cy_specA (n p : Int) (w : World) (hok : cyA n p = false) : Calls Try.prog 22 #[.int .i64 n, .int .i64 p] w (YNone w) := by
  unfold cyA at hok
  cases hwi : wiB n with
  | false =>
    have H1 : Hid (¬ (1 ≤ n ∧ n ≤ 16)) := Lib.hid (of_decide_eq_false hwi)
    have HWI := Lib.hid hwi
    clear hok hwi
    go_enter Try.func22, Try.ntmps22
    go_wp2_with (first | (go_at_call 41; (with_reducible refine (in_false n 1 16 _ H1.out).mono ?_); rintro e w' ⟨rfl, hw⟩; have hw := hw.symm; subst hw) | fail)
    exact bodyPost_ret (v := .tuple #[.agg #[.int .i64 0, .slice none 0 0], .bool false]) (by simp [results, Try.results22, go_sem]) rfl ⟨rfl, below_alloc _ _⟩
  | true =>
    rw [hwi] at hok
    have hx : 1 ≤ n ∧ n ≤ 16 := of_decide_eq_true hwi
    obtain ⟨m, rfl⟩ : ∃ m : Nat, n = (m : Int) := ⟨n.toNat, by omega⟩
    have H1 := Lib.hid hx
    have HWI := Lib.hid hwi
    have hm16 : m ≤ 16 := by omega
    rw [Int.toNat_natCast] at hok
    cases hwo : woB p m with
    | false =>
      have HWO : Hid (∀ w2 : World, Calls Try.prog 45 #[.int .i64 p, .int .i64 (m : Int)] w2 fun e w' => e = .returned (.bool false) ∧ w2 = w') := Lib.hid (fun w2 => by have := word_spec p m w2 hm16; rw [hwo] at this; exact this)
      clear hok hwi hwo hx
      go_enter Try.func22, Try.ntmps22
      go_wp2_with (first | (go_at_call 41; (with_reducible refine (in_true (m : Int) 1 16 _ H1.out.1 H1.out.2).mono ?_); rintro e w' ⟨rfl, hw⟩; have hw := hw.symm; subst hw) | (go_at_call 45; (with_reducible refine (HWO.out _).mono ?_); rintro e w' ⟨rfl, hw⟩; subst hw) | fail)
      exact bodyPost_ret (v := .tuple #[.agg #[.int .i64 0, .slice none 0 0], .bool false]) (by simp [results, Try.results22, go_sem]) rfl ⟨rfl, below_alloc _ _⟩
    | true =>
      rw [hwo] at hok
      have hodd : ¬ p % 2 = 1 := by simpa using hok
      have h0 : 0 ≤ p ∧ p < 2 ^ m := of_decide_eq_true hwo
      have hmod : p.tmod 2 = 0 := by rw [Int.tmod_eq_emod_of_nonneg h0.1]; omega
      have HWO : Hid (∀ w2 : World, Calls Try.prog 45 #[.int .i64 p, .int .i64 (m : Int)] w2 fun e w' => e = .returned (.bool true) ∧ w2 = w') := Lib.hid (fun w2 => by have := word_spec p m w2 hm16; rw [hwo] at this; exact this)
      clear hok hwi hwo hx hodd h0
      go_enter Try.func22, Try.ntmps22
      go_wp2_with (first | (go_at_call 41; (with_reducible refine (in_true (m : Int) 1 16 _ H1.out.1 H1.out.2).mono ?_); rintro e w' ⟨rfl, hw⟩; have hw := hw.symm; subst hw) | (go_at_call 45; (with_reducible refine (HWO.out _).mono ?_); rintro e w' ⟨rfl, hw⟩; subst hw) | fail)
      exact bodyPost_ret (v := .tuple #[.agg #[.int .i64 0, .slice none 0 0], .bool false]) (by simp [results, Try.results22, go_sem]) rfl ⟨rfl, below_alloc _ _⟩
set_option maxRecDepth 100000 in
set_option maxHeartbeats 4000000 in
theorem cy_specY (n p : Int) (w : World) (hokA : cyA n p = true) (hok2 : paB n (cyL p.toNat (cyK p.toNat n.toNat)) (cyK p.toNat n.toNat) = true) : Calls Try.prog 22 #[.int .i64 n, .int .i64 p] w (YPost n (cyK p.toNat n.toNat) (cyL p.toNat (cyK p.toNat n.toNat)) w) := by
  obtain ⟨i0, hi, hz0, hz1, hz2⟩ := info_parts Try.info64
  obtain ⟨m, x, rfl, rfl, hm1, hm16, hxm, hodd⟩ := cyA_out hokA
  rw [Int.toNat_natCast, Int.toNat_natCast] at *
  have H1 : Hid (1 ≤ (m : Int) ∧ (m : Int) ≤ 16) := Lib.hid (by omega)
  have HWI : Hid (wiB (m : Int) = true) := Lib.hid (decide_eq_true H1.out)
  have HWO : Hid (∀ (y : Nat) (w2 : World), Calls Try.prog 45 #[.int .i64 (y : Int), .int .i64 (m : Int)] w2 fun e w' => e = .returned (.bool (decide (y < 2 ^ m))) ∧ w2 = w') := Lib.hid (fun y w2 => by have := word_spec (y : Int) m w2 hm16; rw [wo_cast] at this; exact this)
  have HOK2 := Lib.hid hok2
  have hKp := cyK_pos hxm
  have hmod : (x : Int).tmod 2 = 1 := by rw [Int.tmod_eq_emod_of_nonneg (by omega)]; omega
  have hx1 : 1 ≤ x := by omega
  have dx : decide (x < 2 ^ m) = true := decide_eq_true hxm
  have HK0 : Hid (0 + cyF (2 ^ m) (x * 2 ^ 0) (16 - 0) = cyK x m) := Lib.hid (by rw [Nat.pow_zero, Nat.mul_one]; exact Nat.zero_add _)
  generalize cyK x m = K at HOK2 hKp HK0
  clear hokA hok2 hodd hxm
  go_enter Try.func22, Try.ntmps22
  go_wp2_with (first | (go_at_call 41; (with_reducible refine (in_true (m : Int) 1 16 _ H1.out.1 H1.out.2).mono ?_); rintro e w' ⟨rfl, hw⟩; have hw := hw.symm; subst hw) | (go_at_call 45; (with_reducible refine (HWO.out x _).mono ?_); rw [dx]; rintro e w' ⟨rfl, hw⟩; subst hw) | fail)
  go_loopw [7] (fun xv wr0 => ∃ (k : Nat) (v : Value) (wr : World), k ≤ 16 ∧ xv = .int .i64 ((x * 2 ^ k : Nat) : Int) ∧ wr = wr0 ∧ Hid (k + cyF (2 ^ m) (x * 2 ^ k) (16 - k) = K) ∧ Hid (Kin wr w.heap.size (.int .i64 0) (.slice none 0 0)) ∧ Hid (Kin wr (w.heap.size + 1) (.int .i64 (m : Int)) v) ∧ Hid (wr.ownsRow (w.heap.size + 2) 2 1 v k ((cyL x k).map (Value.int .i64))) ∧ Hid (Below w.heap.size w wr) ∧ w.heap.size + 2 ≤ wr.heap.size) (fun xv _ => 65536 - (intOf xv).toNat)
  case atStart => exact ⟨0, .slice none 0 0, _, by omega, by rw [Nat.pow_zero, Nat.mul_one], rfl, HK0, Lib.hid (Kin.below (Kin.new (T := 27)) (by repeat (first | exact Below.refl _ _ | refine Below.drew ?_ | refine Below.drewN' ?_ _ | refine Below.setCell ?_ (by first | (simp; done) | (simp; omega)) _ | refine Below.alloc ?_ (by first | exact Nat.le_refl _ | (simp; done) | (simp; omega)) _))), Lib.hid (by first | exact Kin.new' (by simp) | exact Kin.put2 (Kin.new' (by simp)) _ _ | exact Kin.set0 (Kin.new' (by simp)) _), Lib.hid (World.ownsRow_nil _ _ _ _), Lib.hid (by repeat (first | exact Below.refl _ _ | refine Below.drew ?_ | refine Below.drewN' ?_ _ | refine Below.setCell ?_ (by first | (simp; done) | (simp; omega)) _ | refine Below.alloc ?_ (by first | exact Nat.le_refl _ | (simp; done) | (simp; omega)) _)), by simp⟩
  case round =>
    obtain ⟨k, v, wr, hk, rfl, rfl, HK, HT0, HT1, HO, HW, hsz⟩ := hrel
    obtain ⟨y, hy⟩ : ∃ y, y = x * 2 ^ k := ⟨_, rfl⟩
    have HON := Lib.hid (cyL_on x k)
    by_cases hlt : x * 2 ^ k < 2 ^ m
    · have hk15 := cy_top hx1 hm16 hlt
      have HK2 := Lib.hid (cy_go hk15 HK.out hlt)
      have hpm : 2 ^ m ≤ 65536 := Nat.pow_le_pow_right (by decide) hm16
      have HY2 : Hid (x * 2 ^ (k + 1) = 2 * y) := Lib.hid (by rw [hy, Nat.pow_succ, ← Nat.mul_assoc, Nat.mul_comm])
      have hyp : 1 ≤ y := by rw [hy]; have : 1 * 1 ≤ x * 2 ^ k := Nat.mul_le_mul hx1 (Nat.two_pow_pos k); omega
      rw [← hy] at hlt HON ⊢
      have dy : decide (y < 2 ^ m) = true := decide_eq_true hlt
      have hy16 : y < 65536 := by omega
      have HO1 := Lib.hid HO.out
      have HNE := Lib.hid (own_block HO.out)
      obtain ⟨hP, hp0, hp1, hf0, hf1⟩ := HT1.out
      have hn3 : some (w.heap.size + 1) ≠ v.ownBlock := fun e => by have := own_block HO.out _ e.symm; omega
      have hn4 : some w.heap.size ≠ v.ownBlock := fun e => by have := own_block HO.out _ e.symm; omega
      have hwy : IntKind.i64.wrap (2 * (y : Int)) = 2 * (y : Int) := IntWalk.i64_in _ (by omega)
      clear hy hlt hpm HO
      go_wp2_with (first | (go_at_call 45; (with_reducible refine (HWO.out y _).mono ?_); rw [dy]; rintro e w' ⟨rfl, hw⟩; subst hw) | (at_builtin; refine wpList_append_lies _ rfl _ _ 22 rfl (w.heap.size + 2) 2 i0 (.int .i64 0) 1 8 Try.underlying22 hi hz0 hz1 hz2 rfl (by omega) v k ((cyL x k).map (Value.int .i64)) rfl (World.ownsRow.alloc HO1.out _) ⟨wr.heap.size, 0, none⟩ 1 1 [.int .i64 (y : Int)] rfl rfl (World.news_of_block (cs := #[.int .i64 (y : Int)]) (t := 2) (fr := (0, 0)) (heap_alloc_new _ _)) (by simp [Value.oneCell']) (by omega) (by unfold maxLen; omega) (by omega) (by simp; omega) (wr.heap.size + 1) (by simp) ?_; intro gg cp w1 hown1 hgrow hat hlt3; have HT1' : Hid (Kin w1 (w.heap.size + 1) (.int .i64 (m : Int)) v) := Lib.hid (Kin.grown hgrow hn3 (HT1.out.below (below_alloc _ _))); have HT0' : Hid (Kin w1 w.heap.size (.int .i64 0) (.slice none 0 0)) := Lib.hid (Kin.grown hgrow hn4 (HT0.out.below (below_alloc _ _))); obtain ⟨hP', hp0', hp1', hf0', hf1'⟩ := HT1'.out; have HO2 := Lib.hid hown1; have HG2 := Lib.hid hgrow; clear hown1 hgrow hat hlt3) | fail)
      exact ⟨⟨k + 1, .slice (some ⟨gg, 0, none⟩) (k + 1) cp, _, by omega, by rw [HY2.out]; first | rfl | go_num | (congr 1), rfl, HK2, Lib.hid (HT0'.out.far (by simp) _), Lib.hid (HT1'.out.set _), Lib.hid (own_far (by rw [HON.out]; exact HO2.out) _ _ (by simp)), Lib.hid (Below.setCell (Below.grown (Below.alloc HW.out HW.out.size _) HG2.out (by simp; omega) (fun j hj => Nat.le_trans (by omega) (HNE.out j hj))) (by simp) _), by have := HG2.out.size; simp at this; simp; omega⟩, by show 65536 - (2 * (y : Int)).toNat < 65536 - ((y : Int)).toNat; omega⟩
    · have hkk := cy_end HK.out hlt
      subst hkk
      rw [← hy] at hlt ⊢
      have dy : decide (y < 2 ^ m) = false := decide_eq_false hlt
      obtain ⟨g, cp, rfl, hg, hgl⟩ := World.ownsRow.form HO.out (by omega)
      obtain ⟨hP, hp0, hp1, hf0, hf1⟩ := HT1.out
      obtain ⟨hic, hgb⟩ := ICl.own HO.out (by omega)
      have HIC := Lib.hid hic
      clear hic hy hlt
      go_wp2_with (first | (go_at_call 45; (with_reducible refine (HWO.out y _).mono ?_); rw [dy]; rintro e w' ⟨rfl, hw⟩; subst hw) | (go_at_call 42; refine (p6SY (m : Int) _ k _ (cyL x k) _ HIC.out.row (by omega) HOK2.out).mono ?_; rintro e w4 ⟨rfl, hb⟩; have HB2 := Lib.hid (Below.next HW.out hb); have HR2 := Lib.hid (HT0.out.below hb); have HI2 := Lib.hid (HIC.out.below hb); obtain ⟨hQ, hq0, hq1, hqf0, hqf1⟩ := HR2.out; clear hb) | fail)
      obtain ⟨_, hr1, hr2⟩ := HR2.out.res (.int .i64 (m : Int)) (.slice (some ⟨g, 0, none⟩) k cp)
      exact bodyPost_ret (v := .tuple #[.agg #[.int .i64 (m : Int), .slice (some ⟨g, 0, none⟩) k cp], .bool true]) (by simp [results, Try.results22, go_sem, hr1, hr2]) rfl
        ⟨g, cp, rfl, ICl.new ((HI2.out.far (by simp; omega) _).far (by simp; omega) _) (by omega) (Below.setCell (Below.setCell HB2.out (by simp) _) (by simp) _)⟩
set_option maxRecDepth 100000 in
set_option maxHeartbeats 4000000 in
theorem cy_specN (n p : Int) (w : World) (hokA : cyA n p = true) (hok2 : paB n (cyL p.toNat (cyK p.toNat n.toNat)) (cyK p.toNat n.toNat) = false) : Calls Try.prog 22 #[.int .i64 n, .int .i64 p] w (YNone w) := by
  obtain ⟨i0, hi, hz0, hz1, hz2⟩ := info_parts Try.info64
  obtain ⟨m, x, rfl, rfl, hm1, hm16, hxm, hodd⟩ := cyA_out hokA
  rw [Int.toNat_natCast, Int.toNat_natCast] at *
  have H1 : Hid (1 ≤ (m : Int) ∧ (m : Int) ≤ 16) := Lib.hid (by omega)
  have HWI : Hid (wiB (m : Int) = true) := Lib.hid (decide_eq_true H1.out)
  have HWO : Hid (∀ (y : Nat) (w2 : World), Calls Try.prog 45 #[.int .i64 (y : Int), .int .i64 (m : Int)] w2 fun e w' => e = .returned (.bool (decide (y < 2 ^ m))) ∧ w2 = w') := Lib.hid (fun y w2 => by have := word_spec (y : Int) m w2 hm16; rw [wo_cast] at this; exact this)
  have HOK2 := Lib.hid hok2
  have hKp := cyK_pos hxm
  have hmod : (x : Int).tmod 2 = 1 := by rw [Int.tmod_eq_emod_of_nonneg (by omega)]; omega
  have hx1 : 1 ≤ x := by omega
  have dx : decide (x < 2 ^ m) = true := decide_eq_true hxm
  have HK0 : Hid (0 + cyF (2 ^ m) (x * 2 ^ 0) (16 - 0) = cyK x m) := Lib.hid (by rw [Nat.pow_zero, Nat.mul_one]; exact Nat.zero_add _)
  generalize cyK x m = K at HOK2 hKp HK0
  clear hokA hok2 hodd hxm
  go_enter Try.func22, Try.ntmps22
  go_wp2_with (first | (go_at_call 41; (with_reducible refine (in_true (m : Int) 1 16 _ H1.out.1 H1.out.2).mono ?_); rintro e w' ⟨rfl, hw⟩; have hw := hw.symm; subst hw) | (go_at_call 45; (with_reducible refine (HWO.out x _).mono ?_); rw [dx]; rintro e w' ⟨rfl, hw⟩; subst hw) | fail)
  go_loopw [7] (fun xv wr0 => ∃ (k : Nat) (v : Value) (wr : World), k ≤ 16 ∧ xv = .int .i64 ((x * 2 ^ k : Nat) : Int) ∧ wr = wr0 ∧ Hid (k + cyF (2 ^ m) (x * 2 ^ k) (16 - k) = K) ∧ Hid (Kin wr w.heap.size (.int .i64 0) (.slice none 0 0)) ∧ Hid (Kin wr (w.heap.size + 1) (.int .i64 (m : Int)) v) ∧ Hid (wr.ownsRow (w.heap.size + 2) 2 1 v k ((cyL x k).map (Value.int .i64))) ∧ Hid (Below w.heap.size w wr) ∧ w.heap.size + 2 ≤ wr.heap.size) (fun xv _ => 65536 - (intOf xv).toNat)
  case atStart => exact ⟨0, .slice none 0 0, _, by omega, by rw [Nat.pow_zero, Nat.mul_one], rfl, HK0, Lib.hid (Kin.below (Kin.new (T := 27)) (by repeat (first | exact Below.refl _ _ | refine Below.drew ?_ | refine Below.drewN' ?_ _ | refine Below.setCell ?_ (by first | (simp; done) | (simp; omega)) _ | refine Below.alloc ?_ (by first | exact Nat.le_refl _ | (simp; done) | (simp; omega)) _))), Lib.hid (by first | exact Kin.new' (by simp) | exact Kin.put2 (Kin.new' (by simp)) _ _ | exact Kin.set0 (Kin.new' (by simp)) _), Lib.hid (World.ownsRow_nil _ _ _ _), Lib.hid (by repeat (first | exact Below.refl _ _ | refine Below.drew ?_ | refine Below.drewN' ?_ _ | refine Below.setCell ?_ (by first | (simp; done) | (simp; omega)) _ | refine Below.alloc ?_ (by first | exact Nat.le_refl _ | (simp; done) | (simp; omega)) _)), by simp⟩
  case round =>
    obtain ⟨k, v, wr, hk, rfl, rfl, HK, HT0, HT1, HO, HW, hsz⟩ := hrel
    obtain ⟨y, hy⟩ : ∃ y, y = x * 2 ^ k := ⟨_, rfl⟩
    have HON := Lib.hid (cyL_on x k)
    by_cases hlt : x * 2 ^ k < 2 ^ m
    · have hk15 := cy_top hx1 hm16 hlt
      have HK2 := Lib.hid (cy_go hk15 HK.out hlt)
      have hpm : 2 ^ m ≤ 65536 := Nat.pow_le_pow_right (by decide) hm16
      have HY2 : Hid (x * 2 ^ (k + 1) = 2 * y) := Lib.hid (by rw [hy, Nat.pow_succ, ← Nat.mul_assoc, Nat.mul_comm])
      have hyp : 1 ≤ y := by rw [hy]; have : 1 * 1 ≤ x * 2 ^ k := Nat.mul_le_mul hx1 (Nat.two_pow_pos k); omega
      rw [← hy] at hlt HON ⊢
      have dy : decide (y < 2 ^ m) = true := decide_eq_true hlt
      have hy16 : y < 65536 := by omega
      have HO1 := Lib.hid HO.out
      have HNE := Lib.hid (own_block HO.out)
      obtain ⟨hP, hp0, hp1, hf0, hf1⟩ := HT1.out
      have hn3 : some (w.heap.size + 1) ≠ v.ownBlock := fun e => by have := own_block HO.out _ e.symm; omega
      have hn4 : some w.heap.size ≠ v.ownBlock := fun e => by have := own_block HO.out _ e.symm; omega
      have hwy : IntKind.i64.wrap (2 * (y : Int)) = 2 * (y : Int) := IntWalk.i64_in _ (by omega)
      clear hy hlt hpm HO
      go_wp2_with (first | (go_at_call 45; (with_reducible refine (HWO.out y _).mono ?_); rw [dy]; rintro e w' ⟨rfl, hw⟩; subst hw) | (at_builtin; refine wpList_append_lies _ rfl _ _ 22 rfl (w.heap.size + 2) 2 i0 (.int .i64 0) 1 8 Try.underlying22 hi hz0 hz1 hz2 rfl (by omega) v k ((cyL x k).map (Value.int .i64)) rfl (World.ownsRow.alloc HO1.out _) ⟨wr.heap.size, 0, none⟩ 1 1 [.int .i64 (y : Int)] rfl rfl (World.news_of_block (cs := #[.int .i64 (y : Int)]) (t := 2) (fr := (0, 0)) (heap_alloc_new _ _)) (by simp [Value.oneCell']) (by omega) (by unfold maxLen; omega) (by omega) (by simp; omega) (wr.heap.size + 1) (by simp) ?_; intro gg cp w1 hown1 hgrow hat hlt3; have HT1' : Hid (Kin w1 (w.heap.size + 1) (.int .i64 (m : Int)) v) := Lib.hid (Kin.grown hgrow hn3 (HT1.out.below (below_alloc _ _))); have HT0' : Hid (Kin w1 w.heap.size (.int .i64 0) (.slice none 0 0)) := Lib.hid (Kin.grown hgrow hn4 (HT0.out.below (below_alloc _ _))); obtain ⟨hP', hp0', hp1', hf0', hf1'⟩ := HT1'.out; have HO2 := Lib.hid hown1; have HG2 := Lib.hid hgrow; clear hown1 hgrow hat hlt3) | fail)
      exact ⟨⟨k + 1, .slice (some ⟨gg, 0, none⟩) (k + 1) cp, _, by omega, by rw [HY2.out]; first | rfl | go_num | (congr 1), rfl, HK2, Lib.hid (HT0'.out.far (by simp) _), Lib.hid (HT1'.out.set _), Lib.hid (own_far (by rw [HON.out]; exact HO2.out) _ _ (by simp)), Lib.hid (Below.setCell (Below.grown (Below.alloc HW.out HW.out.size _) HG2.out (by simp; omega) (fun j hj => Nat.le_trans (by omega) (HNE.out j hj))) (by simp) _), by have := HG2.out.size; simp at this; simp; omega⟩, by show 65536 - (2 * (y : Int)).toNat < 65536 - ((y : Int)).toNat; omega⟩
    · have hkk := cy_end HK.out hlt
      subst hkk
      rw [← hy] at hlt ⊢
      have dy : decide (y < 2 ^ m) = false := decide_eq_false hlt
      obtain ⟨g, cp, rfl, hg, hgl⟩ := World.ownsRow.form HO.out (by omega)
      obtain ⟨hP, hp0, hp1, hf0, hf1⟩ := HT1.out
      obtain ⟨hic, hgb⟩ := ICl.own HO.out (by omega)
      have HIC := Lib.hid hic
      clear hic hy hlt
      go_wp2_with (first | (go_at_call 45; (with_reducible refine (HWO.out y _).mono ?_); rw [dy]; rintro e w' ⟨rfl, hw⟩; subst hw) | (go_at_call 42; refine (p6SN (m : Int) _ k _ (cyL x k) _ HIC.out.row (by omega) HOK2.out).mono ?_; rintro e w4 ⟨rfl, hb⟩; have HB2 := Lib.hid (Below.next HW.out hb); have HR2 := Lib.hid (HT0.out.below hb); have HI2 := Lib.hid (HIC.out.below hb); obtain ⟨hQ, hq0, hq1, hqf0, hqf1⟩ := HR2.out; clear hb) | fail)
      obtain ⟨_, hr1, hr2⟩ := HR2.out.res (.int .i64 0) (.slice none 0 0)
      exact bodyPost_ret (v := .tuple #[.agg #[.int .i64 0, .slice none 0 0], .bool false]) (by simp [results, Try.results22, go_sem, hr1, hr2]) rfl
        ⟨rfl, Below.setCell (Below.setCell HB2.out (by simp) _) (by simp) _⟩
set_option maxRecDepth 100000 in
set_option maxHeartbeats 2000000 in
theorem cy_implA (n p : Int) (w : World) (hok : cyA n p = false) : Calls Try.prog 23 #[.int .i64 n, .int .i64 p] w (YNone w) := by
  unfold cyA at hok
  cases hwi : wiB n with
  | false =>
    have H1 : Hid (¬ (1 ≤ n ∧ n ≤ 16)) := Lib.hid (of_decide_eq_false hwi)
    have HWI := Lib.hid hwi
    clear hok hwi
    go_enter Try.func23, Try.ntmps23
    go_wp2_with (first | (go_at_call 35; (with_reducible refine (wide_impl n _).mono ?_); rw [HWI.out]; rintro e w' ⟨rfl, hw⟩; subst hw) | fail)
    exact bodyPost_ret (v := .tuple #[.agg #[.int .i64 0, .slice none 0 0], .bool false]) (by simp [results, Try.results23, go_sem]) rfl ⟨rfl, below_alloc _ _⟩
  | true =>
    rw [hwi] at hok
    have hx : 1 ≤ n ∧ n ≤ 16 := of_decide_eq_true hwi
    obtain ⟨m, rfl⟩ : ∃ m : Nat, n = (m : Int) := ⟨n.toNat, by omega⟩
    have H1 := Lib.hid hx
    have HWI := Lib.hid hwi
    have hm16 : m ≤ 16 := by omega
    rw [Int.toNat_natCast] at hok
    cases hwo : woB p m with
    | false =>
      have HWO : Hid (∀ w2 : World, Calls Try.prog 36 #[.int .i64 p, .int .i64 (m : Int)] w2 fun e w' => e = .returned (.bool false) ∧ w2 = w') := Lib.hid (fun w2 => by have := word_impl p m w2 hm16; rw [hwo] at this; exact this)
      clear hok hwi hwo hx
      go_enter Try.func23, Try.ntmps23
      go_wp2_with (first | (go_at_call 35; (with_reducible refine (wide_impl (m : Int) _).mono ?_); rw [HWI.out]; rintro e w' ⟨rfl, hw⟩; subst hw) | (go_at_call 36; (with_reducible refine (HWO.out _).mono ?_); rintro e w' ⟨rfl, hw⟩; subst hw) | fail)
      exact bodyPost_ret (v := .tuple #[.agg #[.int .i64 0, .slice none 0 0], .bool false]) (by simp [results, Try.results23, go_sem]) rfl ⟨rfl, below_alloc _ _⟩
    | true =>
      rw [hwo] at hok
      have hodd : ¬ p % 2 = 1 := by simpa using hok
      have h0 : 0 ≤ p ∧ p < 2 ^ m := of_decide_eq_true hwo
      have hmod : p.tmod 2 = 0 := by rw [Int.tmod_eq_emod_of_nonneg h0.1]; omega
      have HWO : Hid (∀ w2 : World, Calls Try.prog 36 #[.int .i64 p, .int .i64 (m : Int)] w2 fun e w' => e = .returned (.bool true) ∧ w2 = w') := Lib.hid (fun w2 => by have := word_impl p m w2 hm16; rw [hwo] at this; exact this)
      clear hok hwi hwo hx hodd h0
      go_enter Try.func23, Try.ntmps23
      go_wp2_with (first | (go_at_call 35; (with_reducible refine (wide_impl (m : Int) _).mono ?_); rw [HWI.out]; rintro e w' ⟨rfl, hw⟩; subst hw) | (go_at_call 36; (with_reducible refine (HWO.out _).mono ?_); rintro e w' ⟨rfl, hw⟩; subst hw) | fail)
      exact bodyPost_ret (v := .tuple #[.agg #[.int .i64 0, .slice none 0 0], .bool false]) (by simp [results, Try.results23, go_sem]) rfl ⟨rfl, below_alloc _ _⟩
set_option maxRecDepth 100000 in
set_option maxHeartbeats 4000000 in
theorem cy_implY (n p : Int) (w : World) (hokA : cyA n p = true) (hok2 : paB n (cyL p.toNat (cyK p.toNat n.toNat)) (cyK p.toNat n.toNat) = true) : Calls Try.prog 23 #[.int .i64 n, .int .i64 p] w (YPost n (cyK p.toNat n.toNat) (cyL p.toNat (cyK p.toNat n.toNat)) w) := by
  obtain ⟨i0, hi, hz0, hz1, hz2⟩ := info_parts Try.info64
  obtain ⟨m, x, rfl, rfl, hm1, hm16, hxm, hodd⟩ := cyA_out hokA
  rw [Int.toNat_natCast, Int.toNat_natCast] at *
  have H1 : Hid (1 ≤ (m : Int) ∧ (m : Int) ≤ 16) := Lib.hid (by omega)
  have HWI : Hid (wiB (m : Int) = true) := Lib.hid (decide_eq_true H1.out)
  have HWO : Hid (∀ (y : Nat) (w2 : World), Calls Try.prog 36 #[.int .i64 (y : Int), .int .i64 (m : Int)] w2 fun e w' => e = .returned (.bool (decide (y < 2 ^ m))) ∧ w2 = w') := Lib.hid (fun y w2 => by have := word_impl (y : Int) m w2 hm16; rw [wo_cast] at this; exact this)
  have HOK2 := Lib.hid hok2
  have hKp := cyK_pos hxm
  have hmod : (x : Int).tmod 2 = 1 := by rw [Int.tmod_eq_emod_of_nonneg (by omega)]; omega
  have hx1 : 1 ≤ x := by omega
  have dx : decide (x < 2 ^ m) = true := decide_eq_true hxm
  have HK0 : Hid (0 + cyF (2 ^ m) (x * 2 ^ 0) (16 - 0) = cyK x m) := Lib.hid (by rw [Nat.pow_zero, Nat.mul_one]; exact Nat.zero_add _)
  generalize cyK x m = K at HOK2 hKp HK0
  clear hokA hok2 hodd hxm
  go_enter Try.func23, Try.ntmps23
  go_wp2_with (first | (go_at_call 35; (with_reducible refine (wide_impl (m : Int) _).mono ?_); rw [HWI.out]; rintro e w' ⟨rfl, hw⟩; subst hw) | (go_at_call 36; (with_reducible refine (HWO.out x _).mono ?_); rw [dx]; rintro e w' ⟨rfl, hw⟩; subst hw) | fail)
  go_loopw [6, 7] (fun v0 xv wr0 => ∃ (k : Nat) (v : Value) (wr : World), k ≤ 16 ∧ v = v0 ∧ xv = .int .i64 ((x * 2 ^ k : Nat) : Int) ∧ wr = wr0 ∧ Hid (k + cyF (2 ^ m) (x * 2 ^ k) (16 - k) = K) ∧ Hid (wr.ownsRow (w.heap.size + 1) 2 1 v k ((cyL x k).map (Value.int .i64))) ∧ Hid (Below (w.heap.size + 1) (w.alloc (.cells #[.int .i64 0, .slice none 0 0] 27)) wr) ∧ w.heap.size + 1 ≤ wr.heap.size) (fun _ xv _ => 65536 - (intOf xv).toNat)
  case atStart => exact ⟨0, _, _, by omega, rfl, by rw [Nat.pow_zero, Nat.mul_one], rfl, HK0, Lib.hid (World.ownsRow_nil _ _ _ _), Lib.hid (by have := Below.refl (w.alloc (.cells #[.int .i64 0, .slice none 0 0] 27)).heap.size (w.alloc (.cells #[.int .i64 0, .slice none 0 0] 27)); simpa using this), by simp⟩
  case round =>
    obtain ⟨k, v, wr, hk, rfl, rfl, rfl, HK, HO, HW, hsz⟩ := hrel
    have HB0 := Lib.hid (Below.next (below_alloc w (.cells #[.int .i64 0, .slice none 0 0] 27)) (by simpa using HW.out) : Below w.heap.size w wr)
    obtain ⟨y, hy⟩ : ∃ y, y = x * 2 ^ k := ⟨_, rfl⟩
    have HON := Lib.hid (cyL_on x k)
    by_cases hlt : x * 2 ^ k < 2 ^ m
    · have hk15 := cy_top hx1 hm16 hlt
      have HK2 := Lib.hid (cy_go hk15 HK.out hlt)
      have hpm : 2 ^ m ≤ 65536 := Nat.pow_le_pow_right (by decide) hm16
      have HY2 : Hid (x * 2 ^ (k + 1) = y * 2) := Lib.hid (by rw [hy, Nat.pow_succ, Nat.mul_assoc])
      have hyp : 1 ≤ y := by rw [hy]; have : 1 * 1 ≤ x * 2 ^ k := Nat.mul_le_mul hx1 (Nat.two_pow_pos k); omega
      rw [← hy] at hlt HON ⊢
      have dy : decide (y < 2 ^ m) = true := decide_eq_true hlt
      have hy16 : y < 65536 := by omega
      have HNE := Lib.hid (own_block HO.out)
      have hwy : IntKind.i64.wrap ((y : Int) * 2) = (y : Int) * 2 := IntWalk.i64_in _ (by omega)
      clear hy hlt hpm
      go_wp2_with (first | (go_at_call 36; (with_reducible refine (HWO.out y _).mono ?_); rw [dy]; rintro e w' ⟨rfl, hw⟩; subst hw) | (at_builtin; refine wpList_append_lies _ rfl _ _ 22 rfl (w.heap.size + 1) 2 i0 (.int .i64 0) 1 8 Try.underlying22 hi hz0 hz1 hz2 rfl (by omega) v k ((cyL x k).map (Value.int .i64)) rfl (World.ownsRow.alloc HO.out _) ⟨wr.heap.size, 0, none⟩ 1 1 [.int .i64 (y : Int)] rfl rfl (World.news_of_block (cs := #[.int .i64 (y : Int)]) (t := 2) (fr := (0, 0)) (heap_alloc_new _ _)) (by simp [Value.oneCell']) (by omega) (by unfold maxLen; omega) (by omega) (by simp; omega) (wr.heap.size + 1) (by simp) ?_; intro gg cp w3 hown1 hgrow hat hlt2; have HO2 := Lib.hid hown1; have HG2 := Lib.hid hgrow; clear hown1 hgrow hat hlt2) | fail)
      exact ⟨⟨k + 1, _, _, by omega, rfl, by rw [HY2.out]; first | rfl | go_num | (congr 1), rfl, HK2, Lib.hid (by rw [HON.out]; exact HO2.out), Lib.hid (Below.grown (Below.alloc HW.out hsz _) HG2.out (by simp; omega) HNE.out), by have := HG2.out.size; simp at this; omega⟩, by show 65536 - ((y : Int) * 2).toNat < 65536 - ((y : Int)).toNat; omega⟩
    · have hkk := cy_end HK.out hlt
      subst hkk
      rw [← hy] at hlt ⊢
      have dy : decide (y < 2 ^ m) = false := decide_eq_false hlt
      obtain ⟨g, cp, rfl, hg, hgl⟩ := World.ownsRow.form HO.out (by omega)
      obtain ⟨hic, hgb⟩ := ICl.own HO.out (by omega)
      have HIC := Lib.hid hic
      have HR1 : Hid (Kin wr w.heap.size (.int .i64 0) (.slice none 0 0)) := Lib.hid ((Kin.new (w := w) (x := .int .i64 0) (y := .slice none 0 0) (T := 27)).below (by simpa using HW.out))
      clear hic hy hlt
      go_wp2_with (first | (go_at_call 36; (with_reducible refine (HWO.out y _).mono ?_); rw [dy]; rintro e w' ⟨rfl, hw⟩; subst hw) | (go_at_call 46; refine (p6IY (m : Int) _ k _ (cyL x k) _ HIC.out.row (by omega) HOK2.out).mono ?_; rintro e w4 ⟨rfl, hb⟩; have HB2 := Lib.hid (Below.next HB0.out hb); have HR2 := Lib.hid (HR1.out.below hb); have HI2 := Lib.hid (HIC.out.below hb); obtain ⟨hQ, hq0, hq1, hqf0, hqf1⟩ := HR2.out; clear hb) | fail)
      obtain ⟨_, hr1, hr2⟩ := HR2.out.res (.int .i64 (m : Int)) (.slice (some ⟨g, 0, none⟩) k cp)
      exact bodyPost_ret (v := .tuple #[.agg #[.int .i64 (m : Int), .slice (some ⟨g, 0, none⟩) k cp], .bool true]) (by simp [results, Try.results23, go_sem, hr1, hr2]) rfl
        ⟨g, cp, rfl, ICl.new ((HI2.out.far (by simp; omega) _).far (by simp; omega) _) (by omega) (Below.setCell (Below.setCell HB2.out (by simp) _) (by simp) _)⟩
set_option maxRecDepth 100000 in
set_option maxHeartbeats 4000000 in
theorem cy_implN (n p : Int) (w : World) (hokA : cyA n p = true) (hok2 : paB n (cyL p.toNat (cyK p.toNat n.toNat)) (cyK p.toNat n.toNat) = false) : Calls Try.prog 23 #[.int .i64 n, .int .i64 p] w (YNone w) := by
  obtain ⟨i0, hi, hz0, hz1, hz2⟩ := info_parts Try.info64
  obtain ⟨m, x, rfl, rfl, hm1, hm16, hxm, hodd⟩ := cyA_out hokA
  rw [Int.toNat_natCast, Int.toNat_natCast] at *
  have H1 : Hid (1 ≤ (m : Int) ∧ (m : Int) ≤ 16) := Lib.hid (by omega)
  have HWI : Hid (wiB (m : Int) = true) := Lib.hid (decide_eq_true H1.out)
  have HWO : Hid (∀ (y : Nat) (w2 : World), Calls Try.prog 36 #[.int .i64 (y : Int), .int .i64 (m : Int)] w2 fun e w' => e = .returned (.bool (decide (y < 2 ^ m))) ∧ w2 = w') := Lib.hid (fun y w2 => by have := word_impl (y : Int) m w2 hm16; rw [wo_cast] at this; exact this)
  have HOK2 := Lib.hid hok2
  have hKp := cyK_pos hxm
  have hmod : (x : Int).tmod 2 = 1 := by rw [Int.tmod_eq_emod_of_nonneg (by omega)]; omega
  have hx1 : 1 ≤ x := by omega
  have dx : decide (x < 2 ^ m) = true := decide_eq_true hxm
  have HK0 : Hid (0 + cyF (2 ^ m) (x * 2 ^ 0) (16 - 0) = cyK x m) := Lib.hid (by rw [Nat.pow_zero, Nat.mul_one]; exact Nat.zero_add _)
  generalize cyK x m = K at HOK2 hKp HK0
  clear hokA hok2 hodd hxm
  go_enter Try.func23, Try.ntmps23
  go_wp2_with (first | (go_at_call 35; (with_reducible refine (wide_impl (m : Int) _).mono ?_); rw [HWI.out]; rintro e w' ⟨rfl, hw⟩; subst hw) | (go_at_call 36; (with_reducible refine (HWO.out x _).mono ?_); rw [dx]; rintro e w' ⟨rfl, hw⟩; subst hw) | fail)
  go_loopw [6, 7] (fun v0 xv wr0 => ∃ (k : Nat) (v : Value) (wr : World), k ≤ 16 ∧ v = v0 ∧ xv = .int .i64 ((x * 2 ^ k : Nat) : Int) ∧ wr = wr0 ∧ Hid (k + cyF (2 ^ m) (x * 2 ^ k) (16 - k) = K) ∧ Hid (wr.ownsRow (w.heap.size + 1) 2 1 v k ((cyL x k).map (Value.int .i64))) ∧ Hid (Below (w.heap.size + 1) (w.alloc (.cells #[.int .i64 0, .slice none 0 0] 27)) wr) ∧ w.heap.size + 1 ≤ wr.heap.size) (fun _ xv _ => 65536 - (intOf xv).toNat)
  case atStart => exact ⟨0, _, _, by omega, rfl, by rw [Nat.pow_zero, Nat.mul_one], rfl, HK0, Lib.hid (World.ownsRow_nil _ _ _ _), Lib.hid (by have := Below.refl (w.alloc (.cells #[.int .i64 0, .slice none 0 0] 27)).heap.size (w.alloc (.cells #[.int .i64 0, .slice none 0 0] 27)); simpa using this), by simp⟩
  case round =>
    obtain ⟨k, v, wr, hk, rfl, rfl, rfl, HK, HO, HW, hsz⟩ := hrel
    have HB0 := Lib.hid (Below.next (below_alloc w (.cells #[.int .i64 0, .slice none 0 0] 27)) (by simpa using HW.out) : Below w.heap.size w wr)
    obtain ⟨y, hy⟩ : ∃ y, y = x * 2 ^ k := ⟨_, rfl⟩
    have HON := Lib.hid (cyL_on x k)
    by_cases hlt : x * 2 ^ k < 2 ^ m
    · have hk15 := cy_top hx1 hm16 hlt
      have HK2 := Lib.hid (cy_go hk15 HK.out hlt)
      have hpm : 2 ^ m ≤ 65536 := Nat.pow_le_pow_right (by decide) hm16
      have HY2 : Hid (x * 2 ^ (k + 1) = y * 2) := Lib.hid (by rw [hy, Nat.pow_succ, Nat.mul_assoc])
      have hyp : 1 ≤ y := by rw [hy]; have : 1 * 1 ≤ x * 2 ^ k := Nat.mul_le_mul hx1 (Nat.two_pow_pos k); omega
      rw [← hy] at hlt HON ⊢
      have dy : decide (y < 2 ^ m) = true := decide_eq_true hlt
      have hy16 : y < 65536 := by omega
      have HNE := Lib.hid (own_block HO.out)
      have hwy : IntKind.i64.wrap ((y : Int) * 2) = (y : Int) * 2 := IntWalk.i64_in _ (by omega)
      clear hy hlt hpm
      go_wp2_with (first | (go_at_call 36; (with_reducible refine (HWO.out y _).mono ?_); rw [dy]; rintro e w' ⟨rfl, hw⟩; subst hw) | (at_builtin; refine wpList_append_lies _ rfl _ _ 22 rfl (w.heap.size + 1) 2 i0 (.int .i64 0) 1 8 Try.underlying22 hi hz0 hz1 hz2 rfl (by omega) v k ((cyL x k).map (Value.int .i64)) rfl (World.ownsRow.alloc HO.out _) ⟨wr.heap.size, 0, none⟩ 1 1 [.int .i64 (y : Int)] rfl rfl (World.news_of_block (cs := #[.int .i64 (y : Int)]) (t := 2) (fr := (0, 0)) (heap_alloc_new _ _)) (by simp [Value.oneCell']) (by omega) (by unfold maxLen; omega) (by omega) (by simp; omega) (wr.heap.size + 1) (by simp) ?_; intro gg cp w3 hown1 hgrow hat hlt2; have HO2 := Lib.hid hown1; have HG2 := Lib.hid hgrow; clear hown1 hgrow hat hlt2) | fail)
      exact ⟨⟨k + 1, _, _, by omega, rfl, by rw [HY2.out]; first | rfl | go_num | (congr 1), rfl, HK2, Lib.hid (by rw [HON.out]; exact HO2.out), Lib.hid (Below.grown (Below.alloc HW.out hsz _) HG2.out (by simp; omega) HNE.out), by have := HG2.out.size; simp at this; omega⟩, by show 65536 - ((y : Int) * 2).toNat < 65536 - ((y : Int)).toNat; omega⟩
    · have hkk := cy_end HK.out hlt
      subst hkk
      rw [← hy] at hlt ⊢
      have dy : decide (y < 2 ^ m) = false := decide_eq_false hlt
      obtain ⟨g, cp, rfl, hg, hgl⟩ := World.ownsRow.form HO.out (by omega)
      obtain ⟨hic, hgb⟩ := ICl.own HO.out (by omega)
      have HIC := Lib.hid hic
      have HR1 : Hid (Kin wr w.heap.size (.int .i64 0) (.slice none 0 0)) := Lib.hid ((Kin.new (w := w) (x := .int .i64 0) (y := .slice none 0 0) (T := 27)).below (by simpa using HW.out))
      clear hic hy hlt
      go_wp2_with (first | (go_at_call 36; (with_reducible refine (HWO.out y _).mono ?_); rw [dy]; rintro e w' ⟨rfl, hw⟩; subst hw) | (go_at_call 46; refine (p6IN (m : Int) _ k _ (cyL x k) _ HIC.out.row (by omega) HOK2.out).mono ?_; rintro e w4 ⟨rfl, hb⟩; have HB2 := Lib.hid (Below.next HB0.out hb); have HR2 := Lib.hid (HR1.out.below hb); have HI2 := Lib.hid (HIC.out.below hb); obtain ⟨hQ, hq0, hq1, hqf0, hqf1⟩ := HR2.out; clear hb) | fail)
      obtain ⟨_, hr1, hr2⟩ := HR2.out.res (.int .i64 0) (.slice none 0 0)
      exact bodyPost_ret (v := .tuple #[.agg #[.int .i64 0, .slice none 0 0], .bool false]) (by simp [results, Try.results23, go_sem, hr1, hr2]) rfl
        ⟨rfl, Below.setCell (Below.setCell HB2.out (by simp) _) (by simp) _⟩
theorem cyB_out {n p : Int} (h : cyB n p = true) : cyA n p = true ∧ paB n (cyL p.toNat (cyK p.toNat n.toNat)) (cyK p.toNat n.toNat) = true := by
  unfold cyB at h; rw [Bool.and_eq_true] at h; exact h
theorem cyB_no {n p : Int} (h : cyB n p = false) : cyA n p = false ∨ (cyA n p = true ∧ paB n (cyL p.toNat (cyK p.toNat n.toNat)) (cyK p.toNat n.toNat) = false) := by
  unfold cyB at h
  cases ha : cyA n p with
  | false => exact .inl rfl
  | true => rw [ha] at h; exact .inr ⟨rfl, by simpa using h⟩
theorem cy_specYes (n p : Int) (w : World) (hok : cyB n p = true) : Calls Try.prog 22 #[.int .i64 n, .int .i64 p] w (YPost n (cyK p.toNat n.toNat) (cyL p.toNat (cyK p.toNat n.toNat)) w) := cy_specY n p w (cyB_out hok).1 (cyB_out hok).2
theorem cy_specNo (n p : Int) (w : World) (hok : cyB n p = false) : Calls Try.prog 22 #[.int .i64 n, .int .i64 p] w (YNone w) := by
  rcases cyB_no hok with h | h
  · exact cy_specA n p w h
  · exact cy_specN n p w h.1 h.2
theorem cy_implYes (n p : Int) (w : World) (hok : cyB n p = true) : Calls Try.prog 23 #[.int .i64 n, .int .i64 p] w (YPost n (cyK p.toNat n.toNat) (cyL p.toNat (cyK p.toNat n.toNat)) w) := cy_implY n p w (cyB_out hok).1 (cyB_out hok).2
theorem cy_implNo (n p : Int) (w : World) (hok : cyB n p = false) : Calls Try.prog 23 #[.int .i64 n, .int .i64 p] w (YNone w) := by
  rcases cyB_no hok with h | h
  · exact cy_implA n p w h
  · exact cy_implN n p w h.1 h.2
end Go.Proofs.Ythjijfghbchhpaa
