
/- Drops: the program's word; the iterator over words of 32 digits. -/
import Derived.Test.YtnljabgkaelplaaDoorDrp
import Derived.Test.YtnljabgkaelplaaDoorDge
import Derived.Test.YtnljabgkaelplaaDoorKob
set_option linter.unusedVariables false
namespace Go.Proofs.YtnljabgkaelplaaDoor
open Go.Proofs.YtnljabgkaelplaaDoor.Flo Go.RowKit Go.Shelf Go.Proofs.YtnljabgkaelplaaDoor.Pr
attribute [local go_sem] Oper.semAt_some

theorem b_has (x i : Nat) (hx : x < 2 ^ 62) (hi : i < 62) : bits .and .i64 (x : Int) ((2 ^ i : Nat) : Int) = if x.testBit i then ((2 ^ i : Nat) : Int) else 0 := by
  have hp : 2 ^ i < 2 ^ 62 := Nat.pow_lt_pow_right (by decide) hi
  rw [b_and x (2 ^ i) hx hp]
  have e : x &&& 2 ^ i = if x.testBit i then 2 ^ i else 0 := by
    apply Nat.eq_of_testBit_eq
    intro j
    rw [Nat.testBit_and, Nat.testBit_two_pow]
    by_cases h : i = j
    · subst h
      cases ht : x.testBit i
      · simp
      · simp
    · rw [decide_eq_false h]
      cases x.testBit i
      · simp
      · simp [h]
  rw [e]
  cases x.testBit i <;> rfl
theorem quo_natD (a b : Nat) : ((a : Int)).tdiv (b : Int) = ((a / b : Nat) : Int) := by
  rw [Int.tdiv_eq_ediv_of_nonneg (Int.natCast_nonneg _)]; exact (Int.natCast_ediv a b).symm
set_option maxRecDepth 100000 in
set_option maxHeartbeats 4000000 in
theorem ix_stops5 (k Bw n x : Nat) (hx : x < 2 ^ n) (hn : n ≤ 32) (w0 w : World) (hp : Db w0) (hb : Below w0.heap.size w0 w) (hB : Bw < w.heap.size) (hc : w.cell? ⟨Bw, 0, none⟩ = some (.int .i64 (x : Int))) :
    SeqStopsK Fence.wide k Tryd.prog 71 #[.pointer (some ⟨Bw, 0, none⟩)] (fun i : Fin n => #[Value.int .i64 (i.val : Int)]) (Below w0.heap.size) (fun ys => ys = dgs n x) (fun pre => ∃ rest, dgs n x = pre ++ rest) 32 w := fun l J Jx W hW _ _ hY h0 => by
  have hc' := (hW.cell (p := ⟨Bw, 0, none⟩) hB).trans hc
  have hb' := hb.trans (hW.mono hb.size)
  have hp16 : 2 ^ n ≤ 2 ^ 32 := Nat.pow_le_pow_right (by decide) hn
  have hx16 : x < 4294967296 := by omega
  have hwx : IntKind.u64.wrap (x : Int) = (x : Int) := by rw [IntKind.wrap_u64]; omega
  have HB := Lib.hid hb'
  have HX := Lib.hid hx
  clear hc hB hW hb hb' hx
  refine callsIn_of_wp Tryd.func71 rfl trivial ?_ rfl
  simp only [Tryd.ntmps71, List.size_toArray, List.length_cons, List.length_nil, Nat.reduceAdd, Nat.reduceSub, Array.replicate_succ, Array.replicate_zero, List.push_toArray, List.append_toArray, List.nil_append, List.cons_append]
  gi_wp2
  gi_loopw [3] (fun rv wr => ∃ (pre : List (Fin n)) (y : Nat), y < 4294967296 ∧ rv = .int .u64 (y : Int) ∧ Hid (dgs n x = pre ++ dgs n y) ∧ Hid (y < 2 ^ n) ∧ J pre wr ∧ Hid (Below w0.heap.size w0 wr))
    (fun rv _ => (intOf rv).toNat)
  case atStart => exact ⟨[], x, hx16, rfl, Lib.hid rfl, HX, h0, HB⟩
  case round =>
    obtain ⟨pre, y, hy, rfl, HD, HY2, hJ, HW⟩ := hrel
    by_cases hz : y = 0
    · subst hz
      gi_wp2
      go_end0
      exact ⟨⟨_, rfl⟩, .inl ⟨pre, by have := HD.out; rw [this]; unfold dgs; rw [dg_zero, List.append_nil], hJ⟩⟩
    · obtain ⟨i, hi, hcons⟩ := dgs_cons hz HY2.out (by omega)
      have hne : ((y : Int) == 0) = false := by simp; omega
      have hne' : ((y : Int) != 0) = true := by simp; omega
      have hlen : pre.length < 32 := by
        have h1 := dg_len n n 0 (Nat.zero_add n) x
        have h2 := congrArg List.length HD.out
        rw [hcons, List.length_append, List.length_cons] at h2
        unfold dgs at h2
        omega
      obtain ⟨fn, tmps, assign, body, hy1, hR⟩ := hY pre i wr hJ hlen
      (try dsimp only at hy1)
      rw [hi] at hy1
      have hcl := clw_lt hz
      have hwy : IntKind.u64.wrap ((y : Int) - 1) = ((y - 1 : Nat) : Int) := by rw [IntKind.wrap_u64]; omega
      have hand : bits .and .u64 (y : Int) ((y - 1 : Nat) : Int) = ((clw y : Nat) : Int) := bits_and_u64_nat y (y - 1) (by omega) (by omega)
      have HT : Hid (∀ n2, CallsIn Fence.wide n2 Tryd.prog 72 #[.int .u64 (y : Int)] wr fun e w' => e = .returned (.int .i64 (Lib.ctz 64 y : Nat)) ∧ wr = w') := Lib.hid (fun n2 => callsIn_wide.2 (tz_lib y (by omega) hz w0 wr hp HW.out))
      have HD2 : Hid (dgs n x = (pre ++ [i]) ++ dgs n (clw y)) := Lib.hid (by rw [HD.out, hcons, List.append_assoc]; rfl)
      have HC2 : Hid (clw y < 2 ^ n) := Lib.hid (by have := HY2.out; omega)
      have hcl2 : clw y < 4294967296 := by omega
      have HDn : Hid (∃ rest, dgs n x = (pre ++ [i]) ++ rest) := Lib.hid ⟨_, HD2.out⟩
      generalize hcy : clw y = c at hcl hand HD2 HC2 hcl2
      generalize hpy : y - 1 = y1 at hwy hand
      clear hz hi hcons hlen hcy hpy
      have hFW : ∀ f, Fence.wide.fn f := fun _ => trivial
      have hFD : Fence.wide.depth.isSome = false := rfl
      gi_wp2_with (first | (gi_at_call 72; (with_reducible refine (HT.out _).mono ?_); rintro e w' ⟨rfl, hw⟩; subst hw) | fail)
      refine hR.mono ?_
      rintro e W3 (⟨rfl, hJ3, hk3⟩ | ⟨rfl, hJx3⟩)
      · have HW3 := Lib.hid (HW.out.trans hk3)
        gi_wp2
        go_roundw
        case rel => exact ⟨pre ++ [i], c, hcl2, rfl, HD2, HC2, hJ3, HW3⟩
        case measure => simp [intOf]; omega
      · gi_wp2
        refine bodyPost_ret (results_none rfl _ _ _) rfl ?_
        exact ⟨⟨_, rfl⟩, .inr ⟨pre ++ [i], HDn.out, hJx3⟩⟩
set_option maxHeartbeats 1000000 in
theorem isd_impl (n : Int) (w : World) : Calls Tryd.prog 42 #[.int .i64 n] w fun e w' => e = .returned (.bool (decide (1 ≤ n ∧ n ≤ 32))) ∧ w = w' := by
  by_cases h0 : 1 ≤ n
  · have d0 : decide (1 ≤ n) = true := decide_eq_true h0
    by_cases h1 : n ≤ 32
    · have d1 : decide (n ≤ 32) = true := decide_eq_true h1
      have HF : Hid (decide (1 ≤ n ∧ n ≤ 32) = true) := Lib.hid (decide_eq_true ⟨h0, h1⟩)
      clear h0 h1
      go_enter Tryd.func42, Tryd.ntmps42
      go_wp2
      go_ret
      exact ⟨ret_bool2 HF.out.symm, rfl⟩
    · have d1 : decide (n ≤ 32) = false := decide_eq_false h1
      have HF : Hid (decide (1 ≤ n ∧ n ≤ 32) = false) := Lib.hid (decide_eq_false (fun e => h1 e.2))
      clear h0 h1
      go_enter Tryd.func42, Tryd.ntmps42
      go_wp2
      go_ret
      exact ⟨ret_bool2 HF.out.symm, rfl⟩
  · have d0 : decide (1 ≤ n) = false := decide_eq_false h0
    have HF : Hid (decide (1 ≤ n ∧ n ≤ 32) = false) := Lib.hid (decide_eq_false (fun e => h0 e.1))
    clear h0
    go_enter Tryd.func42, Tryd.ntmps42
    go_wp2
    go_ret
    exact ⟨ret_bool2 HF.out.symm, rfl⟩
set_option maxHeartbeats 1000000 in
theorem dbl_impl (s n : Nat) (w : World) (hs : s < 4294967296) (hn : n ≤ 32) : Calls Tryd.prog 74 #[.int .i64 (s : Int), .int .i64 (n : Int)] w fun e w' => e = .returned (.int .i64 ((dw s n : Nat) : Int)) ∧ w = w' := by
  have hp : s * n ≤ 4294967296 * 32 := Nat.mul_le_mul (Nat.le_of_lt hs) hn
  obtain ⟨q, hq⟩ : ∃ q, s * n = q := ⟨_, rfl⟩
  have hm : (s : Int) * (n : Int) = (q : Int) := by rw [← hq]; exact_mod_cast rfl
  have hw : IntKind.i64.wrap (q : Int) = (q : Int) := IntWalk.i64_in _ (by omega)
  have hd : ((q : Int)).tdiv 4294967296 = ((dw s n : Nat) : Int) := by
    unfold dw; rw [hq]; exact quo_natD q 4294967296
  have hlt : dw s n ≤ 32 := by
    unfold dw; rw [hq]; omega
  have hw2 : IntKind.i64.wrap ((dw s n : Nat) : Int) = ((dw s n : Nat) : Int) := IntWalk.i64_in _ (by omega)
  generalize dw s n = R at hd hlt hw2 ⊢
  clear hp hq
  go_enter Tryd.func74, Tryd.ntmps74
  go_wp2
  go_ret
  exact ⟨rfl, rfl⟩
set_option maxRecDepth 100000 in
set_option maxHeartbeats 8000000 in
theorem wod_impl (n s : Nat) (w : World) (hn : 1 ≤ n ∧ n ≤ 32) (hs : s < 4294967296) :
    Calls Tryd.prog 46 #[.int .i64 (n : Int), .int .i64 (s : Int)] w fun e w' => e = .returned (.int .i64 ((wdr n s : Nat) : Int)) ∧ w = w' := by
  obtain ⟨hn1, hn2⟩ := hn
  have HN1 : Hid (∀ w3 : World, Calls Tryd.prog 73 #[.int .i64 (s : Int)] w3 fun e w' => e = .returned (.int .i64 ((nx s : Nat) : Int)) ∧ w3 = w') := Lib.hid (fun w3 => next_impl s w3 hs)
  have HNX : Hid (∀ (t : Nat) (w3 : World), t < 4294967296 → Calls Tryd.prog 73 #[.int .i64 (t : Int)] w3 fun e w' => e = .returned (.int .i64 ((nx t : Nat) : Int)) ∧ w3 = w') := Lib.hid (fun t w3 h => next_impl t w3 h)
  have HDB : Hid (∀ (t : Nat) (w3 : World), t < 4294967296 → Calls Tryd.prog 74 #[.int .i64 (t : Int), .int .i64 (n : Int)] w3 fun e w' => e = .returned (.int .i64 ((dw t n : Nat) : Int)) ∧ w3 = w') := Lib.hid (fun t w3 h => dbl_impl t n w3 h hn2)
  have HP1 := Lib.hid (HDB.out (nx s))
  have HLT := Lib.hid (nx_lt s)
  have hdl := dw_lt (nx_lt s) (show 0 < n by omega)
  obtain ⟨hK1, hK2⟩ := wk_le (show 0 < n by omega) s
  have HKD : Hid (wk n s = (n + (dw (nx s) n + 1) - 1) / (dw (nx s) n + 1)) := Lib.hid rfl
  have HWD : Hid (wdr n s = wj n s (wk n s)) := Lib.hid (wdr_eq n s)
  have HR0 : Hid (sj s 0 = nx s) := Lib.hid (sj_zero s)
  have HR1 : Hid (wj n s 0 = 0) := Lib.hid (wj_zero n s)
  generalize wk n s = K at hK1 hK2 HKD HWD
  generalize wdr n s = WR at HWD ⊢
  generalize nx s = s1 at HN1 HP1 HLT hdl HKD HR0
  generalize dw s1 n = d at HP1 hdl HKD
  have hwp : IntKind.i64.wrap ((d : Int) + 1) = (d : Int) + 1 := IntWalk.i64_in _ (by omega)
  have hwa : IntKind.i64.wrap ((n : Int) + ((d : Int) + 1)) = (n : Int) + ((d : Int) + 1) := IntWalk.i64_in _ (by omega)
  have hwb : IntKind.i64.wrap ((n : Int) + ((d : Int) + 1) - 1) = (n : Int) + ((d : Int) + 1) - 1 := IntWalk.i64_in _ (by omega)
  have hqk : ((n : Int) + ((d : Int) + 1) - 1).tdiv ((d : Int) + 1) = (K : Int) := by
    have e1 : (n : Int) + ((d : Int) + 1) - 1 = ((n + (d + 1) - 1 : Nat) : Int) := by omega
    have e2 : (d : Int) + 1 = ((d + 1 : Nat) : Int) := by omega
    rw [HKD.out, e1, e2]
    exact quo_natD _ _
  have hd0 : ((d : Int) + 1 == 0) = false := by simp; omega
  have hd0' : ¬ ((d : Int) + 1 = 0) := by omega
  have hwk : IntKind.i64.wrap (K : Int) = (K : Int) := IntWalk.i64_in _ (by omega)
  have hn0 : ((n : Int) == 0) = false := by simp; omega
  have hn0' : ¬ ((n : Int) = 0) := by omega
  clear HKD
  go_enter Tryd.func46, Tryd.ntmps46
  go_wp2_with (first | (go_at_call 73; (with_reducible refine (HN1.out _).mono ?_); rintro e w' ⟨rfl, hw⟩; subst hw) | (go_at_call 74; (with_reducible refine (HP1.out _ HLT.out).mono ?_); rintro e w' ⟨rfl, hw⟩; subst hw) | fail)
  go_loopw [1, 6, 20] (fun sv xv iv w' => ∃ (j : Nat), j ≤ K ∧ sv = .int .i64 ((sj s j : Nat) : Int) ∧ xv = .int .i64 ((wj n s j : Nat) : Int) ∧ iv = .int .i64 (j : Int) ∧ w = w') (fun _ _ iv _ => K - (intOf iv).toNat)
  case atStart => exact ⟨0, by omega, by rw [HR0.out], by rw [HR1.out]; rfl, rfl, rfl⟩
  case round =>
    obtain ⟨j, hj, rfl, rfl, rfl, hw⟩ := hrel
    subst hw
    by_cases hlt : j < K
    · have HSj := Lib.hid (sj_lt s j)
      have hSx := nx_lt (sj s j)
      have hWl := wj_lt (show 0 < n by omega) s j
      have hPn := pl_lt (show 0 < n by omega) (wj n s j) (sj s j)
      have HFR := Lib.hid (wj_free (n := n) (s := s) (j := j) (by omega))
      have HWY := Lib.hid (pl_way (show 0 < n by omega) (wj n s j) (sj s j))
      have HS0 : Hid (sj s (j + 1) = nx (sj s j)) := Lib.hid (sj_succ s j)
      have HS1 : Hid (wj n s (j + 1) = wj n s j ||| 2 ^ pl n (wj n s j) (sj s j)) := Lib.hid (wj_succ n s j)
      have hp32 : 2 ^ n ≤ 2 ^ 32 := Nat.pow_le_pow_right (by decide) hn2
      have hWl2 : wj n s j < 2 ^ 62 := by omega
      have hwl3 : wj n s j < 4294967296 := by omega
      have HN2 := Lib.hid (HNX.out (sj s j))
      have HD2 := Lib.hid (HDB.out (nx (sj s j)))
      generalize pl n (wj n s j) (sj s j) = P at hPn HFR HWY HS1
      generalize wj n s j = W at hWl hWl2 hwl3 HFR HWY HS1 ⊢
      generalize nx (sj s j) = s2 at hSx HWY HS0 HN2 HD2
      generalize sj s j = sv at HSj HN2 ⊢
      have hdn := HWY.out.1
      generalize dw s2 n = a0 at HWY HD2 hdn
      clear hWl hp32
      go_wp2_with (first | (go_at_call 73; (with_reducible refine (HN2.out _ HSj.out).mono ?_); rintro e w' ⟨rfl, hw⟩; subst hw) | (go_at_call 74; (with_reducible refine (HD2.out _ hSx).mono ?_); rintro e w' ⟨rfl, hw⟩; subst hw) | fail)
      go_loopw [7] (fun av w' => ∃ (a : Nat), Hid (DWay n W.testBit P a) ∧ av = .int .i64 (a : Int) ∧ w = w') (fun av _ => dist n (intOf av).toNat P)
      case atStart => exact ⟨a0, HWY, rfl, rfl⟩
      case round =>
        obtain ⟨a, HA, rfl, hw⟩ := hrel
        subst hw
        have han := HA.out.1
        have hmin : min a 64 = a := by omega
        have hp2 : 2 ^ a ≤ 2 ^ 31 := Nat.pow_le_pow_right (by decide) (by omega)
        have hwr : IntKind.i64.wrap ((2 : Int) ^ a) = ((2 ^ a : Nat) : Int) := by
          have e : ((2 ^ a : Nat) : Int) = (2 : Int) ^ a := by simp
          have hp := hp2
          generalize 2 ^ a = pa at e hp
          rw [← e]; exact IntWalk.i64_in _ (by omega)
        have hpos := Nat.two_pow_pos a
        have hbt := b_has W a hWl2 (by omega)
        have hor := b_or W (2 ^ a) hWl2 (by omega)
        have hwm : IntKind.i64.wrap ((a : Int) + 1) = (a : Int) + 1 := IntWalk.i64_in _ (by omega)
        have hmd : ((a : Int) + 1).tmod (n : Int) = (((a + 1) % n : Nat) : Int) := by
          rw [Int.tmod_eq_emod_of_nonneg (by omega)]; simp
        cases hb : W.testBit a with
        | true =>
          rw [hb, if_pos rfl] at hbt
          have hne : (((2 ^ a : Nat) : Int) != 0) = true := (show ∀ pa : Nat, 0 < pa → ((pa : Int) != 0) = true from fun pa h => by simp; omega) _ hpos
          have hne2 : (((2 ^ a : Nat) : Int) == 0) = false := (show ∀ pa : Nat, 0 < pa → ((pa : Int) == 0) = false from fun pa h => by simp; omega) _ hpos
          obtain ⟨h1, h2⟩ := HA.out.step HFR.out hPn hb
          have H1 := Lib.hid h1
          have H2 := Lib.hid h2
          clear h1 h2 hor hb HA
          generalize 2 ^ a = pa at hwr hbt hne hne2 hp2 hpos
          generalize (a + 1) % n = a1 at hmd H1 H2
          go_wp2
          exact ⟨⟨a1, H1, by first | rfl | go_num, by first | rfl | trivial⟩, by simpa [intOf] using H2.out⟩
        | false =>
          rw [hb, if_neg (by decide)] at hbt
          obtain rfl := HA.out.stop hb
          clear hmd hwm hb HA
          have HP2 : Hid (W ||| 2 ^ a = W ||| 2 ^ a) := Lib.hid rfl
          generalize hOR : W ||| 2 ^ a = WO at hor HS1
          clear hOR HP2
          generalize 2 ^ a = pa at hwr hbt hp2 hpos hor
          go_wp2
          exact ⟨⟨j + 1, by omega, by rw [HS0.out], by rw [HS1.out], by first | rfl | go_num | (congr 1), by first | rfl | trivial⟩, by show K - ((j : Int) + 1).toNat < K - (j : Int).toNat; omega⟩
    · obtain rfl : j = K := by omega
      go_wp2
      go_ret
      exact ⟨by rw [HWD.out]; rfl, rfl⟩
end Go.Proofs.YtnljabgkaelplaaDoor
