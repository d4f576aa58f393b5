/- RiceOf: the functions and the law. -/
import Derived.Test.YtaalddkpldbdkaaUnw
import Derived.Test.YtaalddkpldbdkaaLiv
import Derived.Test.YtaalddkpldbdkaaDig
import Derived.Test.YtaalddkpldbdkaaBts
namespace Go.Proofs.Ytaalddkpldbdkaa
open Go.Proofs.Ytaalddkpldbdkaa.Flo Go.RowKit

theorem bits_tx {l : List UInt8} (h : ∀ c, c ∈ l → c = 48 ∨ c = 49) : bitsB (txB l) = decide (l.length ≤ 512) := by
  unfold bitsB
  rw [txB_size]
  have e : (txB l).data.toList.all bitC = true := by
    rw [List.all_eq_true]
    intro c hc
    have hc2 : c ∈ l := by simpa [txB] using hc
    rcases h c hc2 with rfl | rfl <;> decide
  rw [e, Bool.and_true]
theorem digL_bits (X : Nat) : ∀ k c, c ∈ digL X k → c = 48 ∨ c = 49
  | 0, c, h => by simp [digL] at h
  | k + 1, c, h => by
    unfold digL at h
    rcases List.mem_cons.1 h with h | h
    · subst h
      by_cases e : X / 2 ^ k % 2 = 1
      · rw [if_pos e]; exact .inr rfl
      · rw [if_neg e]; exact .inl rfl
    · exact digL_bits X k c h
theorem repL_mem {x c : UInt8} {n : Nat} (h : c ∈ repL x n) : c = x := List.eq_of_mem_replicate h
theorem unaL_bits (N : Nat) (c : UInt8) (h : c ∈ unaL N) : c = 48 ∨ c = 49 := by
  unfold unaL at h
  rcases List.mem_append.1 h with h | h
  · exact .inr (repL_mem h)
  · exact .inl (by simpa using h)
theorem bn_yes (s : ByteArray) (w : World) (hs : s.size ≤ 1048576) (h : bitsB s = true) :
    Calls Try.prog 74 #[.string s] w fun e w' => e = .returned (.tuple #[.string s, .bool true]) ∧ Below w.heap.size w w' := by
  go_enter Try.func74, Try.ntmps74
  go_wp2_with (first | (go_at_call 53; refine (bt_impl s _ hs).mono ?_; rintro e w2 ⟨rfl, hb⟩; have HB := Lib.hid hb; clear hb) | go_in)
  go_ret2
  exact ⟨rfl, HB.out⟩
theorem bn_no (s : ByteArray) (w : World) (hs : s.size ≤ 1048576) (h : bitsB s = false) :
    Calls Try.prog 74 #[.string s] w fun e w' => e = .returned (.tuple #[.string ⟨#[]⟩, .bool false]) ∧ Below w.heap.size w w' := by
  go_enter Try.func74, Try.ntmps74
  go_wp2_with (first | (go_at_call 53; refine (bt_impl s _ hs).mono ?_; rintro e w2 ⟨rfl, hb⟩; have HB := Lib.hid hb; clear hb) | go_in)
  go_ret2
  exact ⟨rfl, HB.out⟩
def riceL (N K : Nat) : List UInt8 := unaL (N / 2 ^ K) ++ digL N K
def okR (n k : Int) : Bool := decide (1 ≤ n ∧ n ≤ 1000000) && (decide (0 ≤ k ∧ k ≤ 20) && decide ((n - 1).toNat / 2 ^ k.toNat + 1 + k.toNat ≤ 512))
/-- Where a number is told by a quotient and a remainder. -/
theorem okR_cases (n k : Int) : ¬ (1 ≤ n ∧ n ≤ 1000000) ∨ ¬ (0 ≤ k ∧ k ≤ 20) ∨ ∃ N K Q : Nat, n = (N : Int) + 1 ∧ k = (K : Int) ∧ N < 1000000 ∧ K ≤ 20 ∧ N / 2 ^ K = Q ∧ okR n k = decide (Q + 1 + K ≤ 512) := by
  by_cases h1 : 1 ≤ n ∧ n ≤ 1000000
  · by_cases h2 : 0 ≤ k ∧ k ≤ 20
    · refine .inr (.inr ⟨(n - 1).toNat, k.toNat, _, by omega, by omega, by omega, by omega, rfl, ?_⟩)
      unfold okR
      rw [decide_eq_true h1, decide_eq_true h2]; rfl
    · exact .inr (.inl h2)
  · exact .inl h1
theorem okR_n {n k : Int} (h : ¬ (1 ≤ n ∧ n ≤ 1000000)) : okR n k = false := by unfold okR; rw [decide_eq_false h]; rfl
theorem okR_k {n k : Int} (h : ¬ (0 ≤ k ∧ k ≤ 20)) : okR n k = false := by unfold okR; rw [decide_eq_false h]; simp
/-- What is answered. -/
def riceA (n k : Int) : Value := .tuple #[.string (if okR n k then txB (riceL (n - 1).toNat k.toNat) else ⟨#[]⟩), .bool (okR n k)]
theorem riceA_no {n k : Int} (h : okR n k = false) : riceA n k = .tuple #[.string ⟨#[]⟩, .bool false] := by unfold riceA; rw [h]; rfl
theorem riceA_yes {n k : Int} {N K : Nat} (hn : n = (N : Int) + 1) (hk : k = (K : Int)) (h : okR n k = true) : riceA n k = .tuple #[.string (txB (riceL N K)), .bool true] := by
  unfold riceA
  rw [h, if_pos rfl]
  subst hn; subst hk
  have e : ((N : Int) + 1 - 1).toNat = N := by omega
  rw [e]; rfl
set_option maxRecDepth 100000 in
set_option maxHeartbeats 4000000 in
theorem rc_spec (n k : Int) (w : World) :
    Calls Try.prog 34 #[.int .i64 n, .int .i64 k] w fun e w' => e = .returned (riceA n k) ∧ w = w' := by
  rcases okR_cases n k with h | h | ⟨N, K, Q, hn, hk, hN, hK, hQ, hok⟩
  · have HR := Lib.hid (riceA_no (okR_n (k := k) h))
    have H1 := Lib.hid h
    rw [HR.out]
    clear h
    go_enter Try.func34, Try.ntmps34
    go_wp2_with (first | (go_at_call 69; refine (in_false n 1 1000000 _ H1.out).mono ?_; rintro e w' ⟨rfl, rfl⟩) | go_in)
    go_ret2
    exact ⟨rfl, rfl⟩
  · by_cases h1 : 1 ≤ n ∧ n ≤ 1000000
    · have HR := Lib.hid (riceA_no (okR_k (n := n) h))
      have H1 := Lib.hid h1
      have H2 := Lib.hid h
      rw [HR.out]
      clear h h1
      go_enter Try.func34, Try.ntmps34
      go_wp2_with (first | (go_at_call 69; (first | ((with_reducible refine (in_true n 1 1000000 _ H1.out.1 H1.out.2).mono ?_); rintro e w' ⟨rfl, rfl⟩) | ((with_reducible refine (in_false k 0 20 _ H2.out).mono ?_); rintro e w' ⟨rfl, rfl⟩))) | go_in)
      go_ret2
      exact ⟨rfl, rfl⟩
    · have HR := Lib.hid (riceA_no (okR_n (k := k) h1))
      have H1 := Lib.hid h1
      rw [HR.out]
      clear h h1
      go_enter Try.func34, Try.ntmps34
      go_wp2_with (first | (go_at_call 69; refine (in_false n 1 1000000 _ H1.out).mono ?_; rintro e w' ⟨rfl, rfl⟩) | go_in)
      go_ret2
      exact ⟨rfl, rfl⟩
  · have hQN : Q ≤ N := hQ ▸ Nat.div_le_self _ _
    have hw1 : IntKind.i64.wrap ((N : Int) + 1 - 1) = (N : Int) := by rw [IntWalk.i64_in _ (by omega)]; omega
    have hq : (N : Int) / 2 ^ K = (Q : Int) := by rw [← hQ]; norm_cast
    by_cases hq5 : Q < 512
    · have hadd1 : ∀ w : World, (Op.stringOp .add (txB (repL 49 Q)) ⟨#[48]⟩).run Try.prog w = .ok (.string (txB (unaL Q))) w := fun w => run_tx Try.prog _ [48] (by rw [repL_len]; simp; omega) w
      have hadd2 : ∀ w : World, (Op.stringOp .add (txB (unaL Q)) (txB (digL N K))).run Try.prog w = .ok (.string (txB (riceL N K))) w := fun w => by
        rw [run_tx Try.prog (unaL Q) (digL N K) (by rw [unaL_len, digL_len]; omega) w]
        unfold riceL; rw [hQ]
      have hlen : (riceL N K).length = Q + 1 + K := by unfold riceL; rw [hQ, List.length_append, unaL_len, digL_len]
      by_cases h5 : Q + 1 + K ≤ 512
      · have HR := Lib.hid (riceA_yes hn hk (hok.trans (decide_eq_true h5)))
        have hd : decide (((txB (riceL N K)).size : Int) ≤ 512) = true := decide_eq_true (by rw [txB_size, hlen]; omega)
        rw [HR.out]
        subst hn; subst hk
        clear hok hQ hlen
        generalize txB (riceL N K) = U at hadd2 hd
        generalize txB (unaL Q) = V at hadd1 hadd2
        go_enter Try.func34, Try.ntmps34
        go_wp2_with (first | (go_at_call 69; (first | ((with_reducible refine (in_true (K : Int) 0 20 _ (by omega) (by omega)).mono ?_); rintro e w' ⟨rfl, rfl⟩) | ((with_reducible refine (in_true _ 1 1000000 _ (by omega) (by omega)).mono ?_); rintro e w' ⟨rfl, rfl⟩))) | (go_at_call 70; refine (same_spec 49 Q _ (by omega)).mono ?_; rintro e w' ⟨rfl, rfl⟩) | (go_at_call 108; refine (dig_spec N K _ (by omega) (by omega)).mono ?_; rintro e w' ⟨rfl, rfl⟩) | go_in)
        go_ret2
        exact ⟨rfl, rfl⟩
      · have HR := Lib.hid (riceA_no (hok.trans (decide_eq_false h5)))
        have hd : decide (((txB (riceL N K)).size : Int) ≤ 512) = false := decide_eq_false (by rw [txB_size, hlen]; omega)
        rw [HR.out]
        subst hn; subst hk
        clear hok hQ hlen
        generalize txB (riceL N K) = U at hadd2 hd
        generalize txB (unaL Q) = V at hadd1 hadd2
        go_enter Try.func34, Try.ntmps34
        go_wp2_with (first | (go_at_call 69; (first | ((with_reducible refine (in_true (K : Int) 0 20 _ (by omega) (by omega)).mono ?_); rintro e w' ⟨rfl, rfl⟩) | ((with_reducible refine (in_true _ 1 1000000 _ (by omega) (by omega)).mono ?_); rintro e w' ⟨rfl, rfl⟩))) | (go_at_call 70; refine (same_spec 49 Q _ (by omega)).mono ?_; rintro e w' ⟨rfl, rfl⟩) | (go_at_call 108; refine (dig_spec N K _ (by omega) (by omega)).mono ?_; rintro e w' ⟨rfl, rfl⟩) | go_in)
        go_ret2
        exact ⟨rfl, rfl⟩
    · have HR := Lib.hid (riceA_no (hok.trans (decide_eq_false (by omega))))
      have hd : decide (512 ≤ (Q : Int)) = true := decide_eq_true (by omega)
      rw [HR.out]
      subst hn; subst hk
      clear hok hQ
      go_enter Try.func34, Try.ntmps34
      go_wp2_with (first | (go_at_call 69; (first | ((with_reducible refine (in_true (K : Int) 0 20 _ (by omega) (by omega)).mono ?_); rintro e w' ⟨rfl, rfl⟩) | ((with_reducible refine (in_true _ 1 1000000 _ (by omega) (by omega)).mono ?_); rintro e w' ⟨rfl, rfl⟩))) | go_in)
      go_ret2
      exact ⟨rfl, rfl⟩
theorem un_implQ (Q : Nat) (w : World) (h : Q < 512) :
    Calls Try.prog 31 #[.int .i64 ((Q : Int) + 1)] w fun e w' => e = .returned (.tuple #[.string (txB (unaL Q)), .bool true]) ∧ Below w.heap.size w w' := un_impl Q w h
set_option maxRecDepth 100000 in
set_option maxHeartbeats 4000000 in
theorem rc_impl (n k : Int) (w : World) :
    Calls Try.prog 35 #[.int .i64 n, .int .i64 k] w fun e w' => e = .returned (riceA n k) ∧ Below w.heap.size w w' := by
  rcases okR_cases n k with h | h | ⟨N, K, Q, hn, hk, hN, hK, hQ, hok⟩
  · have HR := Lib.hid (riceA_no (okR_n (k := k) h))
    have H1 := Lib.hid h
    rw [HR.out]
    clear h
    go_enter Try.func35, Try.ntmps35
    go_wp2_with (first | (go_at_call 67; refine (isc_no _ _ H1.out).mono ?_; rintro e w' ⟨rfl, rfl⟩) | go_in)
    go_ret2
    exact ⟨rfl, Below.refl _ _⟩
  · by_cases h1 : 1 ≤ n ∧ n ≤ 1000000
    · have HR := Lib.hid (riceA_no (okR_k (n := n) h))
      have H1 := Lib.hid h1
      rw [HR.out]
      clear h1
      by_cases h0 : k < 0
      · have d1 : decide (k < 0) = true := decide_eq_true h0
        clear h h0
        go_enter Try.func35, Try.ntmps35
        go_wp2_with (first | (go_at_call 67; refine (isc_yes _ _ H1.out).mono ?_; rintro e w' ⟨rfl, rfl⟩) | go_in)
        go_ret2
        exact ⟨rfl, Below.refl _ _⟩
      · have d1 : decide (k < 0) = false := decide_eq_false h0
        have d2 : decide (20 < k) = true := decide_eq_true (by omega)
        clear h h0
        go_enter Try.func35, Try.ntmps35
        go_wp2_with (first | (go_at_call 67; refine (isc_yes _ _ H1.out).mono ?_; rintro e w' ⟨rfl, rfl⟩) | go_in)
        go_ret2
        exact ⟨rfl, Below.refl _ _⟩
    · have HR := Lib.hid (riceA_no (okR_n (k := k) h1))
      have H1 := Lib.hid h1
      rw [HR.out]
      clear h h1
      go_enter Try.func35, Try.ntmps35
      go_wp2_with (first | (go_at_call 67; refine (isc_no _ _ H1.out).mono ?_; rintro e w' ⟨rfl, rfl⟩) | go_in)
      go_ret2
      exact ⟨rfl, Below.refl _ _⟩
  · have hQN : Q ≤ N := hQ ▸ Nat.div_le_self _ _
    have hw1 : IntKind.i64.wrap ((N : Int) + 1 - 1) = (N : Int) := by rw [IntWalk.i64_in _ (by omega)]; omega
    have hw2 : IntKind.i64.wrap ((Q : Int) + 1) = (Q : Int) + 1 := IntWalk.i64_in _ (by omega)
    have hq : (N : Int) / 2 ^ K = (Q : Int) := by rw [← hQ]; norm_cast
    have d1 : decide ((K : Int) < 0) = false := decide_eq_false (by omega)
    have d2 : decide (20 < (K : Int)) = false := decide_eq_false (by omega)
    by_cases hq5 : Q < 512
    · have hadd2 : ∀ w : World, (Op.stringOp .add (txB (unaL Q)) (txB (digL N K))).run Try.prog w = .ok (.string (txB (riceL N K))) w := fun w => by
        rw [run_tx Try.prog (unaL Q) (digL N K) (by rw [unaL_len, digL_len]; omega) w]
        unfold riceL; rw [hQ]
      have hlen : (riceL N K).length = Q + 1 + K := by unfold riceL; rw [hQ, List.length_append, unaL_len, digL_len]
      have hbits : bitsB (txB (riceL N K)) = decide (Q + 1 + K ≤ 512) := by
        rw [bits_tx (fun c hc => by
          unfold riceL at hc
          rcases List.mem_append.1 hc with h | h
          · exact unaL_bits _ c h
          · exact digL_bits _ _ c h), hlen]
      have hsz : (txB (riceL N K)).size ≤ 1048576 := by rw [txB_size, hlen]; omega
      by_cases h5 : Q + 1 + K ≤ 512
      · have HR := Lib.hid (riceA_yes hn hk (hok.trans (decide_eq_true h5)))
        have HB := Lib.hid (hbits.trans (decide_eq_true h5))
        rw [HR.out]
        subst hn; subst hk
        clear hok hQ hlen hbits
        generalize txB (riceL N K) = U at hadd2 HB hsz
        go_enter Try.func35, Try.ntmps35
        go_wp2_with (first | (go_at_call 67; refine (isc_yes _ _ (by omega)).mono ?_; rintro e w' ⟨rfl, rfl⟩) | (go_at_call 31; refine (un_implQ Q _ hq5).mono ?_; rintro e w2 ⟨rfl, hb⟩; have HW := Lib.hid hb; clear hb) | (go_at_call 75; refine (dig_impl N K _ (by omega) (by omega)).mono ?_; rintro e w2 ⟨rfl, hb⟩; have HW2 := Lib.hid (Below.next HW.out hb); clear hb) | (go_at_call 74; refine (bn_yes U _ hsz HB.out).mono ?_; rintro e w2 ⟨rfl, hb⟩; have HW3 := Lib.hid (Below.next HW2.out hb); clear hb) | go_in)
        go_ret2
        exact ⟨rfl, HW3.out⟩
      · skip
        have HR := Lib.hid (riceA_no (hok.trans (decide_eq_false h5)))
        have HB := Lib.hid (hbits.trans (decide_eq_false h5))
        rw [HR.out]
        subst hn; subst hk
        clear hok hQ hlen hbits
        generalize txB (riceL N K) = U at hadd2 HB hsz
        go_enter Try.func35, Try.ntmps35
        go_wp2_with (first | (go_at_call 67; refine (isc_yes _ _ (by omega)).mono ?_; rintro e w' ⟨rfl, rfl⟩) | (go_at_call 31; refine (un_implQ Q _ hq5).mono ?_; rintro e w2 ⟨rfl, hb⟩; have HW := Lib.hid hb; clear hb) | (go_at_call 75; refine (dig_impl N K _ (by omega) (by omega)).mono ?_; rintro e w2 ⟨rfl, hb⟩; have HW2 := Lib.hid (Below.next HW.out hb); clear hb) | (go_at_call 74; refine (bn_no U _ hsz HB.out).mono ?_; rintro e w2 ⟨rfl, hb⟩; have HW3 := Lib.hid (Below.next HW2.out hb); clear hb) | go_in)
        go_ret2
        exact ⟨rfl, HW3.out⟩
    · have HR := Lib.hid (riceA_no (hok.trans (decide_eq_false (by omega))))
      have HU : Hid (okU ((Q : Int) + 1) = false) := Lib.hid (decide_eq_false (by omega))
      rw [HR.out]
      subst hn; subst hk
      clear hok hQ
      go_enter Try.func35, Try.ntmps35
      go_wp2_with (first | (go_at_call 67; refine (isc_yes _ _ (by omega)).mono ?_; rintro e w' ⟨rfl, rfl⟩) | (go_at_call 31; refine (un_impl' _ _ HU.out).mono ?_; rintro e w2 ⟨rfl, hb⟩; have HB := Lib.hid hb; clear hb) | go_in)
      go_ret2
      exact ⟨rfl, HB.out⟩
set_option maxHeartbeats 2000000 in
theorem ric_walk (n k : Int) (w : World) (_ : (Lit.int .i64 n).wf = true) (_ : (Lit.int .i64 k).wf = true) :
    Calls Try.prog 9 #[.int .i64 n, .int .i64 k] w fun e w' => e = .returned (.bool true) ∧ Below w.heap.size w w' := by
  obtain ⟨S, B, hA⟩ : ∃ S B, riceA n k = .tuple #[.string S, .bool B] := ⟨_, _, rfl⟩
  have HS : Hid (∀ w, Calls Try.prog 34 #[.int .i64 n, .int .i64 k] w fun e w' => e = .returned (.tuple #[.string S, .bool B]) ∧ w = w') := Lib.hid (fun w => hA ▸ rc_spec n k w)
  have HI : Hid (∀ w, Calls Try.prog 35 #[.int .i64 n, .int .i64 k] w fun e w' => e = .returned (.tuple #[.string S, .bool B]) ∧ Below w.heap.size w w') := Lib.hid (fun w => hA ▸ rc_impl n k w)
  clear hA
  go_enter Try.func9, Try.ntmps9
  go_wp2_with (first | (go_at_call 34; refine (HS.out _).mono ?_; rintro e w' ⟨rfl, rfl⟩) | (go_at_call 35; refine (HI.out _).mono ?_; rintro e w2 ⟨rfl, hb⟩; have HB := Lib.hid hb; clear hb) | go_in)
  go_ret
  exact ⟨rfl, HB.out⟩
end Go.Proofs.Ytaalddkpldbdkaa
