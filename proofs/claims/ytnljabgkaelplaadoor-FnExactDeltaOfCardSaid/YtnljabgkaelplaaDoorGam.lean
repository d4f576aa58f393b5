
/- GammaOf, DeltaOf: what both answer. -/
import Derived.Test.YtnljabgkaelplaaDoorGap
import Derived.Test.YtnljabgkaelplaaDoorRep
set_option linter.unusedVariables false
set_option linter.unusedSimpArgs false
namespace Go.Proofs.YtnljabgkaelplaaDoor
open Go.Proofs.YtnljabgkaelplaaDoor.Flo Go.RowKit Go.Shelf Go.Proofs.YtnljabgkaelplaaDoor.Pr

def gaB (x : Int) : Bool := decide (1 ≤ x ∧ x ≤ 1000000)
theorem gaB_yes {x : Int} (h : gaB x = true) : ∃ n K : Nat, x = (n : Int) ∧ 1 ≤ n ∧ n ≤ 1000000 ∧ Siz n K := by
  have h1 : 1 ≤ x ∧ x ≤ 1000000 := of_decide_eq_true h
  obtain ⟨K, hK⟩ := siz_ex (n := x.toNat) (by omega)
  exact ⟨x.toNat, K, by omega, by omega, by omega, hK⟩
theorem gaB_no {x : Int} (h : gaB x = false) : ¬ (1 ≤ x ∧ x ≤ 1000000) := of_decide_eq_false h
def gaL (n K : Nat) : List UInt8 := repL 48 (K - 1) ++ digL n K
theorem gaL_len (n K : Nat) (h : 1 ≤ K) : (gaL n K).length = 2 * K - 1 := by
  unfold gaL; rw [List.length_append, repL_len, digL_len]; omega
def deL (n K Q : Nat) : List UInt8 := gaL K Q ++ digL n (K - 1)
theorem deL_len (n K Q : Nat) (h : 1 ≤ Q) : (deL n K Q).length = 2 * Q - 1 + (K - 1) := by
  unfold deL; rw [List.length_append, gaL_len _ _ h, digL_len]
theorem digL_cut (n K : Nat) (h : 1 ≤ K) : (txB (digL n K)).extract 1 K = txB (digL n (K - 1)) := by
  obtain ⟨k, rfl⟩ : ∃ k, K = k + 1 := ⟨K - 1, by omega⟩
  have e : digL n (k + 1) = (if n / 2 ^ k % 2 = 1 then 49 else 48) :: digL n k := rfl
  have hl := digL_len n k
  rw [e, Nat.add_sub_cancel]
  unfold txB
  apply ByteArray.ext
  apply Array.ext'
  simp [ByteArray.data_extract, Array.toList_extract, List.extract, hl]
  exact List.take_of_length_le (by omega)
theorem fi2_impl (n K : Nat) (w0 w : World) (hp : Db w0) (hb : Below w0.heap.size w0 w) (hs : Siz n K) (hn : n ≤ 1000000) :
    Calls Tryd.prog 54 #[.int .i64 (n : Int), .int .i64 2] w fun e w' => e = .returned (.string (txB (digL n K))) ∧ Below w.heap.size w w' := by
  have HF := Lib.hid (fmb_impl n K w0 w hp hb hs hn)
  have hwn : IntKind.u64.wrap (n : Int) = (n : Int) := by rw [IntKind.wrap_u64]; omega
  have hd0 : decide ((n : Int) < 0) = false := decide_eq_false (by omega)
  clear hb hs
  have HI : Hid (Calls Tryd.prog 77 #[.int .i64 (n : Int), .int .i64 2] w fun e w' => e = .returned (.string (txB (digL n K))) ∧ Below w.heap.size w w') := Lib.hid (by
    go_enter Tryd.func77, Tryd.ntmps77
    go_wp2_with (first | (go_at_call 108; (with_reducible refine HF.out.mono ?_); rintro e w2 ⟨rfl, hb⟩; have HB := Lib.hid hb; clear hb) | fail)
    go_ret
    exact ⟨rfl, HB.out⟩)
  go_enter Tryd.func54, Tryd.ntmps54
  go_wp2_with (first | (go_at_call 77; (with_reducible refine HI.out.mono ?_); rintro e w2 ⟨rfl, hb⟩; have HB := Lib.hid hb; clear hb) | fail)
  go_ret
  exact ⟨rfl, HB.out⟩
set_option maxRecDepth 100000 in
set_option maxHeartbeats 4000000 in
theorem gai (n K : Nat) (w0 w : World) (hp : Db w0) (hb : Below w0.heap.size w0 w) (hs : Siz n K) (hn : n ≤ 1000000) (hn1 : 1 ≤ n) :
    Calls Tryd.prog 23 #[.int .i64 (n : Int)] w fun e w' => e = .returned (.tuple #[.string (txB (gaL n K)), .bool true]) ∧ Below w.heap.size w w' := by
  have HF := Lib.hid (fi2_impl n K w0 w hp hb hs hn)
  have hK := siz_le hs hn
  have hK1 := hs.1
  have hts : (txB (digL n K)).size = K := by rw [txB_size, digL_len]
  obtain ⟨k, rfl⟩ : ∃ k, K = k + 1 := ⟨K - 1, by omega⟩
  have HRP : Hid (∀ w2 : World, Calls Tryd.prog 55 #[.string ⟨#[48]⟩, .int .i64 (k : Int)] w2 fun e w' => e = .returned (.string (txB (repL 48 k))) ∧ Below w2.heap.size w2 w') := Lib.hid (fun w2 => rep1 48 k w2 (by omega))
  have hadd := fun W : World => run_tx Tryd.prog (repL 48 k) (digL n (k + 1)) (by rw [repL_len, digL_len]; omega) W
  have HL : Hid (gaL n (k + 1) = repL 48 k ++ digL n (k + 1)) := Lib.hid rfl
  have hsb : ((k + 1 : Nat) : Int) - 1 = (k : Int) := by omega
  clear hb hs
  go_enter Tryd.func23, Tryd.ntmps23
  go_wp2_with (first | (go_at_call 53; (with_reducible refine (isc_yes (n : Int) _ (by omega)).mono ?_); rintro e w' ⟨rfl, hw⟩; subst hw) | (go_at_call 54; (with_reducible refine HF.out.mono ?_); rintro e w2 ⟨rfl, hb⟩; have HB := Lib.hid hb; clear hb) | (go_at_call 55; (with_reducible refine (HRP.out _).mono ?_); rintro e w3 ⟨rfl, hb⟩; have HB2 := Lib.hid (Below.next HB.out hb); clear hb) | fail)
  go_ret2
  exact ⟨by rw [HL.out]; rfl, HB2.out⟩
theorem gaIY (x : Int) (w0 w : World) (hp : Db w0) (hb : Below w0.heap.size w0 w) (n K : Nat) (hx : x = (n : Int) ∧ 1 ≤ n ∧ n ≤ 1000000 ∧ Siz n K) :
    Calls Tryd.prog 23 #[.int .i64 x] w fun e w' => e = .returned (.tuple #[.string (txB (gaL n K)), .bool true]) ∧ Below w.heap.size w w' := by
  obtain ⟨rfl, h1, h2, h3⟩ := hx
  exact gai n K w0 w hp hb h3 h2 h1
theorem gaIN (x : Int) (w0 w : World) (hp : Db w0) (hb : Below w0.heap.size w0 w) (hok : gaB x = false) :
    Calls Tryd.prog 23 #[.int .i64 x] w fun e w' => e = .returned (.tuple #[.string ⟨#[]⟩, .bool false]) ∧ Below w.heap.size w w' := by
  have H1 := Lib.hid (gaB_no hok)
  clear hok
  go_enter Tryd.func23, Tryd.ntmps23
  go_wp2_with (first | (go_at_call 53; (with_reducible refine (isc_no x _ H1.out).mono ?_); rintro e w' ⟨rfl, hw⟩; subst hw) | fail)
  go_ret2
  exact ⟨rfl, Below.refl _ _⟩
set_option maxRecDepth 100000 in
set_option maxHeartbeats 4000000 in
theorem dei (n K Q : Nat) (w0 w : World) (hp : Db w0) (hb : Below w0.heap.size w0 w) (hs : Siz n K) (hq : Siz K Q) (hn : n ≤ 1000000) (hn1 : 1 ≤ n) :
    Calls Tryd.prog 25 #[.int .i64 (n : Int)] w fun e w' => e = .returned (.tuple #[.string (txB (deL n K Q)), .bool true]) ∧ Below w.heap.size w w' := by
  have HF := Lib.hid (fi2_impl n K w0 w hp hb hs hn)
  have hK := siz_le hs hn
  have hK1 := hs.1
  have hQ := siz_le hq (by omega)
  have hQ1 := hq.1
  have hts : (txB (digL n K)).size = K := by rw [txB_size, digL_len]
  have HGA : Hid (∀ w2 : World, Below w.heap.size w w2 → Calls Tryd.prog 23 #[.int .i64 (K : Int)] w2 fun e w' => e = .returned (.tuple #[.string (txB (gaL K Q)), .bool true]) ∧ Below w2.heap.size w2 w') := Lib.hid (fun w2 h2 => gai K Q w0 w2 hp (Below.next hb h2) hq (by omega) hK1)
  have hadd := fun W : World => run_tx Tryd.prog (gaL K Q) (digL n (K - 1)) (by rw [gaL_len _ _ hQ1, digL_len]; omega) W
  have hex := digL_cut n K hK1
  have HL : Hid (deL n K Q = gaL K Q ++ digL n (K - 1)) := Lib.hid rfl
  clear hb hs hq
  generalize gaL K Q = GL at HGA hadd HL
  generalize digL n (K - 1) = DL at hadd hex HL
  generalize txB (digL n K) = TD at HF hts hex
  generalize txB GL = TG at HGA hadd
  generalize txB DL = TE at hadd hex
  go_enter Tryd.func25, Tryd.ntmps25
  go_wp2_with (first | (go_at_call 53; (with_reducible refine (isc_yes (n : Int) _ (by omega)).mono ?_); rintro e w' ⟨rfl, hw⟩; subst hw) | (go_at_call 54; (with_reducible refine HF.out.mono ?_); rintro e w2 ⟨rfl, hb⟩; have HB := Lib.hid hb; clear hb) | (go_at_call 23; (with_reducible refine (HGA.out _ HB.out).mono ?_); rintro e w3 ⟨rfl, hb⟩; have HB2 := Lib.hid (Below.next HB.out hb); clear hb) | fail)
  go_ret2
  exact ⟨by rw [HL.out]; rfl, HB2.out⟩
theorem deIY (x : Int) (w0 w : World) (hp : Db w0) (hb : Below w0.heap.size w0 w) (n K Q : Nat) (hx : (x = (n : Int) ∧ 1 ≤ n ∧ n ≤ 1000000 ∧ Siz n K) ∧ Siz K Q) :
    Calls Tryd.prog 25 #[.int .i64 x] w fun e w' => e = .returned (.tuple #[.string (txB (deL n K Q)), .bool true]) ∧ Below w.heap.size w w' := by
  obtain ⟨⟨rfl, h1, h2, h3⟩, h4⟩ := hx
  exact dei n K Q w0 w hp hb h3 h4 h2 h1
theorem deIN (x : Int) (w0 w : World) (hp : Db w0) (hb : Below w0.heap.size w0 w) (hok : gaB x = false) :
    Calls Tryd.prog 25 #[.int .i64 x] w fun e w' => e = .returned (.tuple #[.string ⟨#[]⟩, .bool false]) ∧ Below w.heap.size w w' := by
  have H1 := Lib.hid (gaB_no hok)
  clear hok
  go_enter Tryd.func25, Tryd.ntmps25
  go_wp2_with (first | (go_at_call 53; (with_reducible refine (isc_no x _ H1.out).mono ?_); rintro e w' ⟨rfl, hw⟩; subst hw) | fail)
  go_ret2
  exact ⟨rfl, Below.refl _ _⟩
theorem deB_yes {x : Int} (h : gaB x = true) : ∃ n K Q : Nat, (x = (n : Int) ∧ 1 ≤ n ∧ n ≤ 1000000 ∧ Siz n K) ∧ Siz K Q := by
  obtain ⟨n, K, h1⟩ := gaB_yes h
  obtain ⟨Q, hQ⟩ := siz_ex h1.2.2.2.1
  exact ⟨n, K, Q, h1, hQ⟩
set_option maxHeartbeats 2000000 in
theorem size_spec (n K : Nat) (w : World) (hs : Siz n K) (hn : n ≤ 1000000) :
    Calls Tryd.prog 102 #[.int .i64 (n : Int)] w fun e w' => e = .returned (.int .i64 (K : Int)) ∧ w = w' := by
  have hK := siz_le hs hn
  have HSD := Lib.hid (fun j => (siz_div (j := j) hs).2.2)
  clear hs
  go_enter Tryd.func102, Tryd.ntmps102
  go_wp2
  go_loopw [0, 3] (fun nv kv w' => ∃ k : Nat, k ≤ K ∧ nv = .int .i64 ((n / 2 ^ k : Nat) : Int) ∧ kv = .int .i64 (k : Int) ∧ w = w') (fun nv _ _ => (intOf nv).toNat)
  case atStart => exact ⟨0, by omega, by rw [Nat.pow_zero, Nat.div_one], rfl, rfl⟩
  case round =>
    obtain ⟨k, hk, rfl, rfl, hw⟩ := hrel
    subst hw
    have hd := HSD.out k
    have hqn : n / 2 ^ k ≤ 1000000 := Nat.le_trans (Nat.div_le_self _ _) hn
    have HQ : Hid (n / 2 ^ k / 2 = n / 2 ^ (k + 1)) := Lib.hid (by rw [Nat.div_div_eq_div_mul, ← Nat.pow_succ])
    generalize n / 2 ^ k = q at hd hqn HQ ⊢
    by_cases hlt : k < K
    · have hq := hd.2 hlt
      have hd1 : decide ((0 : Int) < (q : Int)) = true := decide_eq_true (by omega)
      have hd2 : decide (0 < q) = true := decide_eq_true hq
      have hdv : (q : Int).tdiv 2 = ((q / 2 : Nat) : Int) := by rw [Int.tdiv_eq_ediv_of_nonneg (by omega)]; omega
      have hwq : IntKind.i64.wrap ((q / 2 : Nat) : Int) = ((q / 2 : Nat) : Int) := IntWalk.i64_in _ (by omega)
      have hlt2 : q / 2 < q := by omega
      clear hd
      generalize q / 2 = q2 at hdv hwq hlt2 HQ
      have HLT := Lib.hid hlt2
      go_wp2
      exact ⟨⟨k + 1, by omega, by rw [← HQ.out], by first | rfl | go_num | (congr 1), by first | rfl | trivial⟩, by have := HLT.out; simp [intOf]; omega⟩
    · have hq : ¬ 0 < q := fun e => hlt (hd.1 e)
      obtain rfl : q = 0 := by omega
      obtain rfl : k = K := by omega
      clear hd
      go_wp2
      go_ret
      exact ⟨rfl, rfl⟩
theorem gm_spec (n K : Nat) (w : World) (hs : Siz n K) (hn : n ≤ 1000000) :
    Calls Tryd.prog 101 #[.int .i64 (n : Int)] w fun e w' => e = .returned (.string (txB (gaL n K))) ∧ w = w' := by
  have hK := siz_le hs hn
  have hK1 := hs.1
  have HSZ := Lib.hid (fun w2 => size_spec n K w2 hs hn)
  have HSM := Lib.hid (fun w2 => same_spec 48 (K - 1) w2 (by omega))
  have HDG := Lib.hid (fun w2 => dig_spec n K w2 (by omega) (by omega))
  have hadd := fun W : World => run_tx Tryd.prog (repL 48 (K - 1)) (digL n K) (by rw [repL_len, digL_len]; omega) W
  have HL : Hid (gaL n K = repL 48 (K - 1) ++ digL n K) := Lib.hid rfl
  rw [← HL.out] at hadd
  have hsb : (K : Int) - 1 = ((K - 1 : Nat) : Int) := by omega
  have hwk : IntKind.i64.wrap ((K - 1 : Nat) : Int) = ((K - 1 : Nat) : Int) := IntWalk.i64_in _ (by omega)
  clear hs
  generalize K - 1 = k at HSM HDG hadd HL hsb hwk
  generalize txB (repL 48 k) = T1 at HSM hadd
  generalize txB (digL n K) = T2 at HDG hadd
  go_enter Tryd.func101, Tryd.ntmps101
  go_wp2_with (first | (go_at_call 102; (with_reducible refine (HSZ.out _).mono ?_); rintro e w' ⟨rfl, hw⟩; subst hw) | (go_at_call 100; (with_reducible refine (HSM.out _).mono ?_); rintro e w' ⟨rfl, hw⟩; subst hw) | (go_at_call 103; (with_reducible refine (HDG.out _).mono ?_); rintro e w' ⟨rfl, hw⟩; subst hw) | fail)
  go_ret
  exact ⟨rfl, rfl⟩
set_option maxRecDepth 100000 in
set_option maxHeartbeats 4000000 in
theorem gaSY (x : Int) (w : World) (n K : Nat) (hx : x = (n : Int) ∧ 1 ≤ n ∧ n ≤ 1000000 ∧ Siz n K) :
    Calls Tryd.prog 22 #[.int .i64 x] w fun e w' => e = .returned (.tuple #[.string (txB (gaL n K)), .bool true]) ∧ Below w.heap.size w w' := by
  obtain ⟨rfl, h1, h2, h3⟩ := hx
  have HGM := Lib.hid (fun w2 => gm_spec n K w2 h3 h2)
  have hlen := gaL_len n K h3.1
  have hts : ((txB (gaL n K)).size : Int) ≤ 512 := by rw [txB_size, hlen]; have := siz_le h3 h2; omega
  have hd5 : decide (((txB (gaL n K)).size : Int) ≤ 512) = true := decide_eq_true hts
  have hd6 : decide ((txB (gaL n K)).size ≤ 512) = true := decide_eq_true (by omega)
  clear h3 hlen
  generalize txB (gaL n K) = T at *
  have HNB : Hid (∀ w2 : World, Calls Tryd.prog 76 #[.int .i64 1, .int .i64 0, .int .i64 (n : Int)] w2 fun e w' => e = .returned (.tuple #[.string T, .bool true]) ∧ w2 = w') := Lib.hid (fun w2 => by
    go_enter Tryd.func76, Tryd.ntmps76
    go_wp2_with (first | (go_at_call 101; (with_reducible refine (HGM.out _).mono ?_); rintro e w' ⟨rfl, hw⟩; subst hw) | fail)
    go_ret2
    exact ⟨rfl, rfl⟩)
  have HNM : Hid (∀ w2 : World, Calls Tryd.prog 52 #[.int .i64 1, .int .i64 0, .int .i64 (n : Int)] w2 fun e w' => e = .returned (.tuple #[.string T, .bool true]) ∧ w2 = w') := Lib.hid (fun w2 => by
    go_enter Tryd.func52, Tryd.ntmps52
    go_wp2_with (first | (go_at_call 29; (first | (with_reducible refine (in_true (n : Int) 1 1000000 _ (by omega) (by omega)).mono ?_) | (with_reducible refine (in_true 0 0 20 _ (by decide) (by decide)).mono ?_)); rintro e w' ⟨rfl, hw⟩; have hw := hw.symm; subst hw) | (go_at_call 76; (with_reducible refine (HNB.out _).mono ?_); rintro e w' ⟨rfl, hw⟩; subst hw) | fail)
    go_ret2
    exact ⟨rfl, rfl⟩)
  go_enter Tryd.func22, Tryd.ntmps22
  go_wp2_with (first | (go_at_call 52; (with_reducible refine (HNM.out _).mono ?_); rintro e w' ⟨rfl, hw⟩; subst hw) | fail)
  go_ret2
  exact ⟨rfl, Below.refl _ _⟩
theorem gaSN (x : Int) (w : World) (hok : gaB x = false) : Calls Tryd.prog 22 #[.int .i64 x] w fun e w' => e = .returned (.tuple #[.string ⟨#[]⟩, .bool false]) ∧ Below w.heap.size w w' := by
  have H1 := Lib.hid (gaB_no hok)
  clear hok
  have HNM : Hid (∀ w2, Calls Tryd.prog 52 #[.int .i64 1, .int .i64 0, .int .i64 x] w2 fun e w' => e = .returned (.tuple #[.string ⟨#[]⟩, .bool false]) ∧ w2 = w') := Lib.hid (fun w2 => by
    go_enter Tryd.func52, Tryd.ntmps52
    go_wp2_with (first | (go_at_call 29; (with_reducible refine (in_false x 1 1000000 _ H1.out).mono ?_); rintro e w' ⟨rfl, hw⟩; have hw := hw.symm; subst hw) | fail)
    go_ret2
    exact ⟨rfl, rfl⟩)
  go_enter Tryd.func22, Tryd.ntmps22
  go_wp2_with (first | (go_at_call 52; (with_reducible refine (HNM.out _).mono ?_); rintro e w' ⟨rfl, hw⟩; subst hw) | fail)
  go_ret2
  exact ⟨rfl, Below.refl _ _⟩
set_option maxRecDepth 100000 in
set_option maxHeartbeats 4000000 in
theorem deSY (x : Int) (w : World) (n K Q : Nat) (hx : (x = (n : Int) ∧ 1 ≤ n ∧ n ≤ 1000000 ∧ Siz n K) ∧ Siz K Q) :
    Calls Tryd.prog 24 #[.int .i64 x] w fun e w' => e = .returned (.tuple #[.string (txB (deL n K Q)), .bool true]) ∧ Below w.heap.size w w' := by
  obtain ⟨⟨rfl, h1, h2, h3⟩, h4⟩ := hx
  have hK20 := siz_le h3 h2
  have hQ20 := siz_le h4 (by omega)
  have HSZ := Lib.hid (fun w2 => size_spec n K w2 h3 h2)
  have HGM := Lib.hid (fun w2 => gm_spec K Q w2 h4 (by omega))
  have HDG := Lib.hid (fun w2 => dig_spec n (K - 1) w2 (by omega) (by omega))
  have hK1 := h3.1
  have hadd := fun W : World => run_tx Tryd.prog (gaL K Q) (digL n (K - 1)) (by rw [gaL_len _ _ h4.1, digL_len]; omega) W
  have HL : Hid (deL n K Q = gaL K Q ++ digL n (K - 1)) := Lib.hid rfl
  have hlen := deL_len n K Q h4.1
  have hsb : (K : Int) - 1 = ((K - 1 : Nat) : Int) := by omega
  have hwk : IntKind.i64.wrap ((K - 1 : Nat) : Int) = ((K - 1 : Nat) : Int) := IntWalk.i64_in _ (by omega)
  generalize K - 1 = k at HDG hadd HL hsb hwk hlen
  rw [← HL.out] at hadd
  generalize txB (gaL K Q) = TG at HGM hadd
  generalize txB (digL n k) = TD at HDG hadd
  have hts : ((txB (deL n K Q)).size : Int) ≤ 512 := by rw [txB_size, hlen]; omega
  have hd5 : decide (((txB (deL n K Q)).size : Int) ≤ 512) = true := decide_eq_true hts
  have hd6 : decide ((txB (deL n K Q)).size ≤ 512) = true := decide_eq_true (by omega)
  clear h3 hlen
  generalize txB (deL n K Q) = T at *
  have HNB : Hid (∀ w2 : World, Calls Tryd.prog 76 #[.int .i64 2, .int .i64 0, .int .i64 (n : Int)] w2 fun e w' => e = .returned (.tuple #[.string T, .bool true]) ∧ w2 = w') := Lib.hid (fun w2 => by
    go_enter Tryd.func76, Tryd.ntmps76
    go_wp2_with (first | (go_at_call 102; (with_reducible refine (HSZ.out _).mono ?_); rintro e w' ⟨rfl, hw⟩; subst hw) | (go_at_call 101; (with_reducible refine (HGM.out _).mono ?_); rintro e w' ⟨rfl, hw⟩; subst hw) | (go_at_call 103; (with_reducible refine (HDG.out _).mono ?_); rintro e w' ⟨rfl, hw⟩; subst hw) | fail)
    go_ret2
    exact ⟨rfl, rfl⟩)
  have HNM : Hid (∀ w2 : World, Calls Tryd.prog 52 #[.int .i64 2, .int .i64 0, .int .i64 (n : Int)] w2 fun e w' => e = .returned (.tuple #[.string T, .bool true]) ∧ w2 = w') := Lib.hid (fun w2 => by
    go_enter Tryd.func52, Tryd.ntmps52
    go_wp2_with (first | (go_at_call 29; (first | (with_reducible refine (in_true (n : Int) 1 1000000 _ (by omega) (by omega)).mono ?_) | (with_reducible refine (in_true 0 0 20 _ (by decide) (by decide)).mono ?_)); rintro e w' ⟨rfl, hw⟩; have hw := hw.symm; subst hw) | (go_at_call 76; (with_reducible refine (HNB.out _).mono ?_); rintro e w' ⟨rfl, hw⟩; subst hw) | fail)
    go_ret2
    exact ⟨rfl, rfl⟩)
  go_enter Tryd.func24, Tryd.ntmps24
  go_wp2_with (first | (go_at_call 52; (with_reducible refine (HNM.out _).mono ?_); rintro e w' ⟨rfl, hw⟩; subst hw) | fail)
  go_ret2
  exact ⟨rfl, Below.refl _ _⟩
theorem deSN (x : Int) (w : World) (hok : gaB x = false) : Calls Tryd.prog 24 #[.int .i64 x] w fun e w' => e = .returned (.tuple #[.string ⟨#[]⟩, .bool false]) ∧ Below w.heap.size w w' := by
  have H1 := Lib.hid (gaB_no hok)
  clear hok
  have HNM : Hid (∀ w2, Calls Tryd.prog 52 #[.int .i64 2, .int .i64 0, .int .i64 x] w2 fun e w' => e = .returned (.tuple #[.string ⟨#[]⟩, .bool false]) ∧ w2 = w') := Lib.hid (fun w2 => by
    go_enter Tryd.func52, Tryd.ntmps52
    go_wp2_with (first | (go_at_call 29; (with_reducible refine (in_false x 1 1000000 _ H1.out).mono ?_); rintro e w' ⟨rfl, hw⟩; have hw := hw.symm; subst hw) | fail)
    go_ret2
    exact ⟨rfl, rfl⟩)
  go_enter Tryd.func24, Tryd.ntmps24
  go_wp2_with (first | (go_at_call 52; (with_reducible refine (HNM.out _).mono ?_); rintro e w' ⟨rfl, hw⟩; subst hw) | fail)
  go_ret2
  exact ⟨rfl, Below.refl _ _⟩
def GaOk (x : Int) (n K : Nat) : Prop := x = (n : Int) ∧ 1 ≤ n ∧ n ≤ 1000000 ∧ Siz n K
theorem ga_ok {x : Int} (h : gaB x = true) : ∃ n K, GaOk x n K := gaB_yes h
def DeOk (x : Int) (n K Q : Nat) : Prop := (x = (n : Int) ∧ 1 ≤ n ∧ n ≤ 1000000 ∧ Siz n K) ∧ Siz K Q
theorem de_ok {x : Int} (h : gaB x = true) : ∃ n K Q, DeOk x n K Q := deB_yes h
def gaT (n K : Nat) : ByteArray := txB (gaL n K)
def deT (n K Q : Nat) : ByteArray := txB (deL n K Q)
theorem gaSY2 (x : Int) (w : World) (n K : Nat) (hx : GaOk x n K) : Calls Tryd.prog 22 #[.int .i64 x] w fun e w' => e = .returned (.tuple #[.string (gaT n K), .bool true]) ∧ Below w.heap.size w w' := gaSY x w n K hx
theorem gaIY2 (x : Int) (w0 w : World) (hp : Db w0) (hb : Below w0.heap.size w0 w) (n K : Nat) (hx : GaOk x n K) : Calls Tryd.prog 23 #[.int .i64 x] w fun e w' => e = .returned (.tuple #[.string (gaT n K), .bool true]) ∧ Below w.heap.size w w' := gaIY x w0 w hp hb n K hx
theorem deSY2 (x : Int) (w : World) (n K Q : Nat) (hx : DeOk x n K Q) : Calls Tryd.prog 24 #[.int .i64 x] w fun e w' => e = .returned (.tuple #[.string (deT n K Q), .bool true]) ∧ Below w.heap.size w w' := deSY x w n K Q hx
theorem deIY2 (x : Int) (w0 w : World) (hp : Db w0) (hb : Below w0.heap.size w0 w) (n K Q : Nat) (hx : DeOk x n K Q) : Calls Tryd.prog 25 #[.int .i64 x] w fun e w' => e = .returned (.tuple #[.string (deT n K Q), .bool true]) ∧ Below w.heap.size w w' := deIY x w0 w hp hb n K Q hx
end Go.Proofs.YtnljabgkaelplaaDoor
