
/- KeyOfBits: the functions and the law. -/
import Derived.Test.YtekbefmjifmnoaaOdd
namespace Go.Proofs.Ytekbefmjifmnoaa
open Go.Proofs.Ytekbefmjifmnoaa.Flo Go.RowKit Go.Proofs.Ytekbefmjifmnoaa.Pr

def sd (s : Nat) : Nat → Nat
  | 0 => s
  | j + 1 => (1664525 * sd s j + 1013904223) % 4294967296
theorem sd_lt {s : Nat} (h : s < 4294967296) : ∀ j, sd s j < 4294967296
  | 0 => h
  | j + 1 => Nat.mod_lt _ (by decide)
def kw (s j : Nat) : Nat := sd s (j + 1) / 65536
def kwL (s : Nat) : Nat → List Int
  | 0 => []
  | k + 1 => kwL s k ++ [((kw s k : Nat) : Int)]
theorem kwL_on (s k : Nat) : (kwL s (k + 1)).map (Value.int .i64) = (kwL s k).map (Value.int .i64) ++ [.int .i64 ((kw s k : Nat) : Int)] := by
  show (kwL s k ++ [_]).map (Value.int .i64) = _
  simp
theorem kwL_len (s : Nat) : ∀ k, (kwL s k).length = k
  | 0 => rfl
  | k + 1 => by show (kwL s k ++ [_]).length = _; rw [List.length_append, kwL_len s k]; rfl
theorem kwL_get (s : Nat) : ∀ k i, i < k → (kwL s k).getD i 0 = ((kw s i : Nat) : Int)
  | k + 1, i, h => by
    show (kwL s k ++ [_]).getD i 0 = _
    rw [List.getD_eq_getElem?_getD]
    by_cases e : i < k
    · rw [List.getElem?_append_left (by rw [kwL_len]; exact e), ← List.getD_eq_getElem?_getD]
      exact kwL_get s k i e
    · obtain rfl : i = k := by omega
      rw [List.getElem?_append_right (by rw [kwL_len]; omega), kwL_len]
      simp
theorem kw_lt {s : Nat} (h : s < 4294967296) (j : Nat) : kw s j < 65536 := by
  have := sd_lt h (j + 1)
  unfold kw; omega
theorem kw_wo {s n : Nat} (h : s < 4294967296) : woP (kwL s n) n 16 := by
  intro k hk
  rw [kwL_get s n k hk]
  have := kw_lt h k
  have e : (2 : Int) ^ 16 = 65536 := by decide
  rw [e]; omega
theorem kw_od {s n x : Nat} : od (zN (kwL s n)) x n = od (kw s) x n := od_congr (fun j hj => by unfold zN; rw [kwL_get s n j hj, Int.toNat_natCast])
def kbB (b n s : Int) : Bool := woB b 16 && (decide (1 ≤ n ∧ n ≤ 16) && decide (0 ≤ s ∧ s ≤ 4294967295))
theorem kb_out {b n s : Int} (h : kbB b n s = true) : ∃ x m s0 : Nat, b = (x : Int) ∧ n = (m : Int) ∧ s = (s0 : Int) ∧ x < 65536 ∧ 1 ≤ m ∧ m ≤ 16 ∧ s0 < 4294967296 := by
  unfold kbB at h
  rw [Bool.and_eq_true, Bool.and_eq_true] at h
  have h1 : 0 ≤ b ∧ b < 2 ^ 16 := of_decide_eq_true h.1
  have e : (2 : Int) ^ 16 = 65536 := by decide
  rw [e] at h1
  have h2 := of_decide_eq_true h.2.1
  have h3 := of_decide_eq_true h.2.2
  exact ⟨b.toNat, n.toNat, s.toNat, by omega, by omega, by omega, by omega, by omega, by omega, by omega⟩
theorem kb_no {b n s : Int} (h : kbB b n s = false) : woB b 16 = false ∨ (woB b 16 = true ∧ ¬ (1 ≤ n ∧ n ≤ 16)) ∨ (woB b 16 = true ∧ (1 ≤ n ∧ n ≤ 16) ∧ ¬ (0 ≤ s ∧ s ≤ 4294967295)) := by
  unfold kbB at h
  cases h1 : woB b 16 with
  | false => exact .inl rfl
  | true =>
    rw [h1] at h
    by_cases h2 : 1 ≤ n ∧ n ≤ 16
    · rw [decide_eq_true h2] at h
      exact .inr (.inr ⟨rfl, h2, of_decide_eq_false (by simpa using h)⟩)
    · exact .inr (.inl ⟨rfl, h2⟩)
def seB (n : Int) : Bool := decide (0 ≤ n ∧ n ≤ 4294967295)
set_option maxHeartbeats 1000000 in
theorem seed_impl (n : Int) (w : World) : Calls Try.prog 57 #[.int .i64 n] w fun e w' => e = .returned (.bool (seB n)) ∧ w = w' := by
  by_cases h0 : 0 ≤ n
  · have d0 : decide (0 ≤ n) = true := decide_eq_true h0
    by_cases h1 : n < 4294967296
    · have d1 : decide (n < 4294967296) = true := decide_eq_true h1
      have HF : Hid (seB n = true) := Lib.hid (decide_eq_true ⟨h0, by omega⟩)
      clear h0 h1
      go_enter Try.func57, Try.ntmps57
      go_wp2
      go_ret
      exact ⟨ret_bool2 HF.out.symm, rfl⟩
    · have d1 : decide (n < 4294967296) = false := decide_eq_false h1
      have HF : Hid (seB n = false) := Lib.hid (decide_eq_false (fun e => h1 (by omega)))
      clear h0 h1
      go_enter Try.func57, Try.ntmps57
      go_wp2
      go_ret
      exact ⟨ret_bool2 HF.out.symm, rfl⟩
  · have d0 : decide (0 ≤ n) = false := decide_eq_false h0
    have HF : Hid (seB n = false) := Lib.hid (decide_eq_false (fun e => h0 e.1))
    clear h0
    go_enter Try.func57, Try.ntmps57
    go_wp2
    go_ret
    exact ⟨ret_bool2 HF.out.symm, rfl⟩
set_option maxHeartbeats 1000000 in
theorem next_impl (s : Nat) (w : World) (h : s < 4294967296) : Calls Try.prog 58 #[.int .i64 (s : Int)] w fun e w' => e = .returned (.int .i64 (((1664525 * s + 1013904223) % 4294967296 : Nat) : Int)) ∧ w = w' := by
  have hw1 : IntKind.i64.wrap (1664525 * (s : Int)) = 1664525 * (s : Int) := IntWalk.i64_in _ (by omega)
  have hw2 : IntKind.i64.wrap (1664525 * (s : Int) + 1013904223) = 1664525 * (s : Int) + 1013904223 := IntWalk.i64_in _ (by omega)
  have hm : (1664525 * (s : Int) + 1013904223).tmod 4294967296 = (((1664525 * s + 1013904223) % 4294967296 : Nat) : Int) := by rw [Int.tmod_eq_emod_of_nonneg (by omega)]; omega
  generalize (1664525 * s + 1013904223) % 4294967296 = R at hm
  go_enter Try.func58, Try.ntmps58
  go_wp2
  go_ret
  exact ⟨rfl, rfl⟩
set_option maxRecDepth 100000 in
set_option maxHeartbeats 2000000 in
theorem kb_specN (b n s : Int) (w : World) (h : kbB b n s = false) : Calls Try.prog 27 #[.int .i64 b, .int .i64 n, .int .i64 s] w fun e w' => e = .returned (.tuple #[.int .i64 0, .bool false]) ∧ w = w' := by
  rcases kb_no h with h1 | ⟨h1, h2⟩ | ⟨h1, h2, h3⟩
  · have HX : Hid (∀ w2 : World, Calls Try.prog 54 #[.int .i64 b, .int .i64 16] w2 fun e w' => e = .returned (.bool false) ∧ w2 = w') := Lib.hid (fun w2 => by have := word_spec b 16 w2 (by decide); rw [h1, show ((16 : Nat) : Int) = 16 from rfl] at this; exact this)
    clear h h1
    go_enter Try.func27, Try.ntmps27
    go_wp2_with (first | (go_at_call 54; (with_reducible refine (HX.out _).mono ?_); rintro e w' ⟨rfl, hw⟩; subst hw) | fail)
    exact bodyPost_ret (v := .tuple #[.int .i64 0, .bool false]) (by simp [results, Try.results27, go_sem]) rfl ⟨rfl, rfl⟩
  · have HX : Hid (∀ w2 : World, Calls Try.prog 54 #[.int .i64 b, .int .i64 16] w2 fun e w' => e = .returned (.bool true) ∧ w2 = w') := Lib.hid (fun w2 => by have := word_spec b 16 w2 (by decide); rw [h1, show ((16 : Nat) : Int) = 16 from rfl] at this; exact this)
    have H1 := Lib.hid h2
    have HWI : Hid (wiB n = false) := Lib.hid (decide_eq_false h2)
    clear h h1 h2
    go_enter Try.func27, Try.ntmps27
    go_wp2_with (first | (go_at_call 54; (with_reducible refine (HX.out _).mono ?_); rintro e w' ⟨rfl, hw⟩; subst hw) | (go_at_call 55; (with_reducible refine (in_false n 1 16 _ H1.out).mono ?_); rintro e w' ⟨rfl, hw⟩; have hw := hw.symm; subst hw) | fail)
    exact bodyPost_ret (v := .tuple #[.int .i64 0, .bool false]) (by simp [results, Try.results27, go_sem]) rfl ⟨rfl, rfl⟩
  · have HX : Hid (∀ w2 : World, Calls Try.prog 54 #[.int .i64 b, .int .i64 16] w2 fun e w' => e = .returned (.bool true) ∧ w2 = w') := Lib.hid (fun w2 => by have := word_spec b 16 w2 (by decide); rw [h1, show ((16 : Nat) : Int) = 16 from rfl] at this; exact this)
    have H1 := Lib.hid h2
    have H2 := Lib.hid h3
    have HWI : Hid (wiB n = true) := Lib.hid (decide_eq_true h2)
    have HSE : Hid (seB s = false) := Lib.hid (decide_eq_false h3)
    clear h h1 h2 h3
    go_enter Try.func27, Try.ntmps27
    go_wp2_with (first | (go_at_call 54; (with_reducible refine (HX.out _).mono ?_); rintro e w' ⟨rfl, hw⟩; subst hw) | (go_at_call 55; (with_reducible refine (in_true n 1 16 _ H1.out.1 H1.out.2).mono ?_); rintro e w' ⟨rfl, hw⟩; have hw := hw.symm; subst hw) | (go_at_call 55; (with_reducible refine (in_false s 0 4294967295 _ H2.out).mono ?_); rintro e w' ⟨rfl, hw⟩; have hw := hw.symm; subst hw) | fail)
    exact bodyPost_ret (v := .tuple #[.int .i64 0, .bool false]) (by simp [results, Try.results27, go_sem]) rfl ⟨rfl, rfl⟩
set_option maxRecDepth 100000 in
set_option maxHeartbeats 4000000 in
theorem kb_specY (x m s0 : Nat) (w : World) (hx : x < 65536) (hm1 : 1 ≤ m) (hm2 : m ≤ 16) (hs : s0 < 4294967296) : Calls Try.prog 27 #[.int .i64 (x : Int), .int .i64 (m : Int), .int .i64 (s0 : Int)] w fun e w' => e = .returned (.tuple #[.int .i64 (od (kw s0) x m : Int), .bool true]) ∧ Below w.heap.size w w' := by
  have hwx : woB (x : Int) 16 = true := decide_eq_true (by have e : (2 : Int) ^ 16 = 65536 := by decide
                                                           rw [e]; omega)
  have HX : Hid (∀ w2 : World, Calls Try.prog 54 #[.int .i64 (x : Int), .int .i64 16] w2 fun e w' => e = .returned (.bool true) ∧ w2 = w') := Lib.hid (fun w2 => by have := word_spec (x : Int) 16 w2 (by decide); rw [hwx, show ((16 : Nat) : Int) = 16 from rfl] at this; exact this)
  have H1 : Hid (1 ≤ (m : Int) ∧ (m : Int) ≤ 16) := Lib.hid (by omega)
  have H2 : Hid (0 ≤ (s0 : Int) ∧ (s0 : Int) ≤ 4294967295) := Lib.hid (by omega)
  have HWI : Hid (wiB (m : Int) = true) := Lib.hid (decide_eq_true H1.out)
  have HSE : Hid (seB (s0 : Int) = true) := Lib.hid (decide_eq_true H2.out)
  clear hwx
  go_enter Try.func27, Try.ntmps27
  go_wp2_with (first | (go_at_call 54; (with_reducible refine (HX.out _).mono ?_); rintro e w' ⟨rfl, hw⟩; subst hw) | (go_at_call 55; (with_reducible refine (in_true (m : Int) 1 16 _ H1.out.1 H1.out.2).mono ?_); rintro e w' ⟨rfl, hw⟩; have hw := hw.symm; subst hw) | (go_at_call 55; (with_reducible refine (in_true (s0 : Int) 0 4294967295 _ H2.out.1 H2.out.2).mono ?_); rintro e w' ⟨rfl, hw⟩; have hw := hw.symm; subst hw) | fail)
  go_loop [2, 8, 9] (fun sv ov iv => ∃ j : Nat, j ≤ m ∧ sv = .int .i64 (sd s0 j : Int) ∧ ov = .int .i64 (od (kw s0) x j : Int) ∧ iv = .int .i64 j) (fun _ _ iv => m - (intOf iv).toNat)
  case atStart => exact ⟨0, by omega, rfl, rfl, rfl⟩
  case round =>
    obtain ⟨j, hj, rfl, rfl, rfl⟩ := hrel
    by_cases hlt : j < m
    · have hsl := sd_lt hs j
      have HS1 : Hid (sd s0 (j + 1) = (1664525 * sd s0 j + 1013904223) % 4294967296) := Lib.hid rfl
      have hw1 : IntKind.i64.wrap (1664525 * (sd s0 j : Int)) = 1664525 * (sd s0 j : Int) := IntWalk.i64_in _ (by omega)
      have hw2 : IntKind.i64.wrap (1664525 * (sd s0 j : Int) + 1013904223) = 1664525 * (sd s0 j : Int) + 1013904223 := IntWalk.i64_in _ (by omega)
      have hm : (1664525 * (sd s0 j : Int) + 1013904223).tmod 4294967296 = ((sd s0 (j + 1) : Nat) : Int) := by rw [HS1.out, Int.tmod_eq_emod_of_nonneg (by omega)]; omega
      have hdv : ((sd s0 (j + 1) : Nat) : Int).tdiv 65536 = ((kw s0 j : Nat) : Int) := by rw [Int.tdiv_eq_ediv_of_nonneg (by omega)]; unfold kw; omega
      have hkl := kw_lt hs j
      have hand := b_and x (kw s0 j) (by omega) (by omega)
      have hod := od_lt (kw s0) x j
      have hp : 2 ^ j ≤ 2 ^ 15 := Nat.pow_le_pow_right (by decide) (by omega)
      have HY := fun h => od_yes (z := kw s0) (x := x) (j := j) h
      have HN := fun h => od_no (z := kw s0) (x := x) (j := j) h
      rw [Nat.and_comm] at HY HN
      have hal : x &&& kw s0 j < 65536 := Nat.lt_of_le_of_lt Nat.and_le_left hx
      have hor := b_or (od (kw s0) x j) (2 ^ j) (by omega) (by omega)
      have hor0 : bits .or .i64 ((od (kw s0) x j : Nat) : Int) 0 = ((od (kw s0) x j : Nat) : Int) := by
        have h9 := b_or (od (kw s0) x j) 0 (by omega) (by omega)
        rw [Nat.or_zero] at h9
        exact h9
      have hcast := two_cast j
      have hmin : min j 64 = j := by omega
      have hwj : IntKind.i64.wrap ((j : Int) + 1) = (j : Int) + 1 := IntWalk.i64_in _ (by omega)
      have hwk : IntKind.i64.wrap ((kw s0 j : Nat) : Int) = ((kw s0 j : Nat) : Int) := IntWalk.i64_in _ (by omega)
      generalize hS1 : od (kw s0) x (j + 1) = S' at HY HN
      have HS2 := Lib.hid hS1
      clear hS1 HS1
      generalize od (kw s0) x j = S at HY HN hor hor0 hod ⊢
      generalize hSN : sd s0 (j + 1) = sn at hm hdv
      have HSN := Lib.hid hSN
      clear hSN
      generalize sd s0 j = sj at hm hw1 hw2 hsl ⊢
      generalize hP : 2 ^ j = P at HY hor hcast hod hp
      have hwp : IntKind.i64.wrap ((2 : Int) ^ j) = (P : Int) := by rw [← hcast]; exact IntWalk.i64_in _ (by omega)
      have hwp1 : IntKind.i64.wrap (1 * (2 : Int) ^ j) = (P : Int) := by rw [Int.one_mul]; exact hwp
      generalize hQ : S ||| P = Q at HY hor
      generalize kw s0 j = y at hdv hand hal HY HN hkl hwk
      generalize x &&& y = v at hand hal HY HN
      have HV := Lib.hid hal
      have hvl := wt_le v
      clear hP hQ hcast
      by_cases ho : wt v % 2 = 1
      · have hq : (wt v : Int).tmod 2 = 1 := by rw [Int.tmod_eq_emod_of_nonneg (by omega)]; omega
        have HS := Lib.hid (HY ho)
        clear HY HN ho hvl
        go_wp2_with (first | (go_at_call 46; (with_reducible refine (wo_spec v _ HV.out).mono ?_); rintro e w' ⟨rfl, hw⟩; subst hw) | fail)
        go_round
        case rel => exact ⟨j + 1, by omega, val_i (by rw [HSN.out]), val_i (by rw [HS2.out, HS.out]), by go_num⟩
        case measure => simp [intOf]; omega
      · have hq : (wt v : Int).tmod 2 = 0 := by rw [Int.tmod_eq_emod_of_nonneg (by omega)]; omega
        have HS := Lib.hid (HN ho)
        clear HY HN ho hvl
        go_wp2_with (first | (go_at_call 46; (with_reducible refine (wo_spec v _ HV.out).mono ?_); rintro e w' ⟨rfl, hw⟩; subst hw) | fail)
        go_round
        case rel => exact ⟨j + 1, by omega, val_i (by rw [HSN.out]), val_i (by rw [HS2.out, HS.out]), by go_num⟩
        case measure => simp [intOf]; omega
    · obtain rfl : j = m := by omega
      go_wp2
      exact bodyPost_ret (v := .tuple #[.int .i64 (od (kw s0) x j : Int), .bool true]) (by simp [results, Try.results27, go_sem]) rfl ⟨rfl, Below.refl _ _⟩
set_option maxRecDepth 100000 in
set_option maxHeartbeats 2000000 in
theorem kb_implN (b n s : Int) (w : World) (h : kbB b n s = false) : Calls Try.prog 28 #[.int .i64 b, .int .i64 n, .int .i64 s] w fun e w' => e = .returned (.tuple #[.int .i64 0, .bool false]) ∧ w = w' := by
  rcases kb_no h with h1 | ⟨h1, h2⟩ | ⟨h1, h2, h3⟩
  · have HX : Hid (∀ w2 : World, Calls Try.prog 41 #[.int .i64 b, .int .i64 16] w2 fun e w' => e = .returned (.bool false) ∧ w2 = w') := Lib.hid (fun w2 => by have := word_impl b 16 w2 (by decide); rw [h1, show ((16 : Nat) : Int) = 16 from rfl] at this; exact this)
    clear h h1
    go_enter Try.func28, Try.ntmps28
    go_wp2_with (first | (go_at_call 41; (with_reducible refine (HX.out _).mono ?_); rintro e w' ⟨rfl, hw⟩; subst hw) | fail)
    exact bodyPost_ret (v := .tuple #[.int .i64 0, .bool false]) (by simp [results, Try.results28, go_sem]) rfl ⟨rfl, rfl⟩
  · have HX : Hid (∀ w2 : World, Calls Try.prog 41 #[.int .i64 b, .int .i64 16] w2 fun e w' => e = .returned (.bool true) ∧ w2 = w') := Lib.hid (fun w2 => by have := word_impl b 16 w2 (by decide); rw [h1, show ((16 : Nat) : Int) = 16 from rfl] at this; exact this)
    have H1 := Lib.hid h2
    have HWI : Hid (wiB n = false) := Lib.hid (decide_eq_false h2)
    clear h h1 h2
    go_enter Try.func28, Try.ntmps28
    go_wp2_with (first | (go_at_call 41; (with_reducible refine (HX.out _).mono ?_); rintro e w' ⟨rfl, hw⟩; subst hw) | (go_at_call 56; (with_reducible refine (wide_impl n _).mono ?_); rw [HWI.out]; rintro e w' ⟨rfl, hw⟩; subst hw) | fail)
    exact bodyPost_ret (v := .tuple #[.int .i64 0, .bool false]) (by simp [results, Try.results28, go_sem]) rfl ⟨rfl, rfl⟩
  · have HX : Hid (∀ w2 : World, Calls Try.prog 41 #[.int .i64 b, .int .i64 16] w2 fun e w' => e = .returned (.bool true) ∧ w2 = w') := Lib.hid (fun w2 => by have := word_impl b 16 w2 (by decide); rw [h1, show ((16 : Nat) : Int) = 16 from rfl] at this; exact this)
    have H1 := Lib.hid h2
    have H2 := Lib.hid h3
    have HWI : Hid (wiB n = true) := Lib.hid (decide_eq_true h2)
    have HSE : Hid (seB s = false) := Lib.hid (decide_eq_false h3)
    clear h h1 h2 h3
    go_enter Try.func28, Try.ntmps28
    go_wp2_with (first | (go_at_call 41; (with_reducible refine (HX.out _).mono ?_); rintro e w' ⟨rfl, hw⟩; subst hw) | (go_at_call 56; (with_reducible refine (wide_impl n _).mono ?_); rw [HWI.out]; rintro e w' ⟨rfl, hw⟩; subst hw) | (go_at_call 57; (with_reducible refine (seed_impl s _).mono ?_); rw [HSE.out]; rintro e w' ⟨rfl, hw⟩; subst hw) | fail)
    exact bodyPost_ret (v := .tuple #[.int .i64 0, .bool false]) (by simp [results, Try.results28, go_sem]) rfl ⟨rfl, rfl⟩
set_option maxRecDepth 100000 in
set_option maxHeartbeats 4000000 in
theorem kb_implY (x m s0 : Nat) (w : World) (hx : x < 65536) (hm1 : 1 ≤ m) (hm2 : m ≤ 16) (hs : s0 < 4294967296) : Calls Try.prog 28 #[.int .i64 (x : Int), .int .i64 (m : Int), .int .i64 (s0 : Int)] w fun e w' => e = .returned (.tuple #[.int .i64 (od (kw s0) x m : Int), .bool true]) ∧ Below w.heap.size w w' := by
  have hwx : woB (x : Int) 16 = true := decide_eq_true (by have e : (2 : Int) ^ 16 = 65536 := by decide
                                                           rw [e]; omega)
  have HX : Hid (∀ w2 : World, Calls Try.prog 41 #[.int .i64 (x : Int), .int .i64 16] w2 fun e w' => e = .returned (.bool true) ∧ w2 = w') := Lib.hid (fun w2 => by have := word_impl (x : Int) 16 w2 (by decide); rw [hwx, show ((16 : Nat) : Int) = 16 from rfl] at this; exact this)
  have H1 : Hid (1 ≤ (m : Int) ∧ (m : Int) ≤ 16) := Lib.hid (by omega)
  have H2 : Hid (0 ≤ (s0 : Int) ∧ (s0 : Int) ≤ 4294967295) := Lib.hid (by omega)
  have HWI : Hid (wiB (m : Int) = true) := Lib.hid (decide_eq_true H1.out)
  have HSE : Hid (seB (s0 : Int) = true) := Lib.hid (decide_eq_true H2.out)
  clear hwx
  obtain ⟨i0, hi, hz0, hz1, hz2⟩ := info_parts Try.info64
  have HKO := Lib.hid (kw_od (s := s0) (n := m) (x := x))
  have HKW := Lib.hid (kw_wo (n := m) hs)
  go_enter Try.func28, Try.ntmps28
  go_wp2_with (first | (go_at_call 41; (with_reducible refine (HX.out _).mono ?_); rintro e w' ⟨rfl, hw⟩; subst hw) | (go_at_call 56; (with_reducible refine (wide_impl (m : Int) _).mono ?_); rw [HWI.out]; rintro e w' ⟨rfl, hw⟩; subst hw) | (go_at_call 57; (with_reducible refine (seed_impl (s0 : Int) _).mono ?_); rw [HSE.out]; rintro e w' ⟨rfl, hw⟩; subst hw) | fail)
  go_loopw [2, 8, 23] (fun sv v0 iv wr0 => ∃ (k : Nat) (v : Value) (wr : World), k ≤ m ∧ sv = .int .i64 (sd s0 k : Int) ∧ v = v0 ∧ iv = .int .i64 k ∧ wr = wr0 ∧ Hid (wr.ownsRow w.heap.size 2 1 v k ((kwL s0 k).map (Value.int .i64))) ∧ Hid (Below w.heap.size w wr)) (fun _ _ iv _ => m - (intOf iv).toNat)
  case atStart => exact ⟨0, _, _, by omega, rfl, rfl, rfl, rfl, Lib.hid (World.ownsRow_nil _ _ _ _), Lib.hid (Below.refl _ _)⟩
  case round =>
    obtain ⟨k, v, wr, hk, rfl, rfl, rfl, rfl, HO, HW⟩ := hrel
    by_cases hlt : k < m
    · have hsl := sd_lt hs k
      have HSL := Lib.hid hsl
      have HS1 : Hid ((1664525 * sd s0 k + 1013904223) % 4294967296 = sd s0 (k + 1)) := Lib.hid rfl
      have hdv : ((sd s0 (k + 1) : Nat) : Int).tdiv 65536 = ((kw s0 k : Nat) : Int) := by rw [Int.tdiv_eq_ediv_of_nonneg (by omega)]; unfold kw; omega
      have hkl := kw_lt hs k
      have hwk : IntKind.i64.wrap ((kw s0 k : Nat) : Int) = ((kw s0 k : Nat) : Int) := IntWalk.i64_in _ (by omega)
      have hwj : IntKind.i64.wrap ((k : Int) + 1) = (k : Int) + 1 := IntWalk.i64_in _ (by omega)
      have HL := Lib.hid (kwL_on s0 k)
      have HNE := Lib.hid (own_block HO.out)
      have hsz := HW.out.size
      generalize hSN : sd s0 (k + 1) = sn at hdv HS1
      have HSN := Lib.hid hSN
      clear hSN hsl
      generalize sd s0 k = sj at HSL HS1 ⊢
      generalize kw s0 k = y at hdv hkl hwk HL
      go_wp2_with (first | (go_at_call 58; (with_reducible refine (next_impl sj _ HSL.out).mono ?_); rw [HS1.out]; rintro e w' ⟨rfl, hw⟩; subst hw) | (at_builtin; refine wpList_append_lies _ rfl _ _ 22 rfl (w.heap.size) 2 i0 (.int .i64 0) 1 8 Try.underlying22 hi hz0 hz1 hz2 rfl (by omega) v k ((kwL s0 k).map (Value.int .i64)) rfl (World.ownsRow.alloc HO.out _) ⟨wr.heap.size, 0, none⟩ 1 1 [.int .i64 (y : Int)] rfl rfl (World.news_of_block (cs := #[.int .i64 (y : Int)]) (t := 2) (fr := (0, 0)) (heap_alloc_new _ _)) (by simp [Value.oneCell']) (by omega) (by unfold maxLen; omega) (by omega) (by simp; omega) (wr.heap.size + 1) (by simp) ?_; intro gg cp w3 hown1 hgrow hat hlt2; have HO2 := Lib.hid hown1; have HG2 := Lib.hid hgrow; clear hown1 hgrow hat hlt2) | fail)
      exact ⟨⟨k + 1, _, _, by omega, val_i (by rw [HSN.out]), rfl, by first | rfl | go_num | (congr 1), rfl, Lib.hid (by rw [HL.out]; exact HO2.out), Lib.hid (Below.grown (Below.alloc HW.out HW.out.size _) HG2.out (by simp; omega) HNE.out)⟩, by show m - ((k : Int) + 1).toNat < m - (k : Int).toNat; omega⟩
    · obtain rfl : k = m := by omega
      obtain ⟨a2, cp2, rfl, hrow⟩ := own_rowI HO.out
      have HR := Lib.hid hrow
      have HX2 := Lib.hid hx
      clear hrow
      go_wp2_with (first | (go_at_call 42; (with_reducible refine (od_impl2 _ k _ (kwL s0 k) x _ HR.out hm2 HKW.out HX2.out).mono ?_); rw [HKO.out]; rintro e w' ⟨rfl, hw⟩; subst hw) | fail)
      exact bodyPost_ret (v := .tuple #[.int .i64 (od (kw s0) x k : Int), .bool true]) (by simp [results, Try.results28, go_sem]) rfl ⟨rfl, HW.out⟩
set_option maxHeartbeats 2000000 in
theorem kb_walk (b n s : Int) (w : World) (_ : (Lit.int .i64 b).wf = true) (_ : (Lit.int .i64 n).wf = true) (_ : (Lit.int .i64 s).wf = true) :
    Calls Try.prog 7 #[.int .i64 b, .int .i64 n, .int .i64 s] w fun e w' => e = .returned (.bool true) ∧ Below w.heap.size w w' := by
  cases hok : kbB b n s with
  | true =>
    obtain ⟨x, m, s0, rfl, rfl, rfl, hx, hm1, hm2, hs⟩ := kb_out hok
    have HX := Lib.hid hx
    have HM1 := Lib.hid hm1
    have HM2 := Lib.hid hm2
    have HS := Lib.hid hs
    clear hok hx hm1 hm2 hs
    go_enter Try.func7, Try.ntmps7
    go_wp2_with (first | (go_at_call 27; (with_reducible refine (kb_specY x m s0 _ HX.out HM1.out HM2.out HS.out).mono ?_); rintro e w1 ⟨rfl, hb⟩; have HB1 := Lib.hid hb; clear hb) | (go_at_call 28; (with_reducible refine (kb_implY x m s0 _ HX.out HM1.out HM2.out HS.out).mono ?_); rintro e w2 ⟨rfl, hb⟩; have HB2 := Lib.hid hb; clear hb) | fail)
    go_ret
    exact ⟨rfl, Below.next HB1.out HB2.out⟩
  | false =>
    have HN := Lib.hid hok
    clear hok
    go_enter Try.func7, Try.ntmps7
    go_wp2_with (first | (go_at_call 27; (with_reducible refine (kb_specN b n s _ HN.out).mono ?_); rintro e w' ⟨rfl, hw⟩; subst hw) | (go_at_call 28; (with_reducible refine (kb_implN b n s _ HN.out).mono ?_); rintro e w' ⟨rfl, hw⟩; subst hw) | fail)
    go_ret
    exact ⟨rfl, Below.refl _ _⟩
end Go.Proofs.Ytekbefmjifmnoaa
