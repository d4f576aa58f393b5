
/- Shares: the value of the polynomial through given places, as the model reckons it. -/
import Derived.Test.YtaefmffmjbabcaaJsw
import Derived.BigQuiet
import Derived.Deep.QuietTactic
set_option linter.unusedVariables false
namespace Go.Proofs.Ytaefmffmjbabcaa
open Go.Proofs.Ytaefmffmjbabcaa.Flo Go.RowKit

theorem ab_in {p : Int} (hp : 0 < p) {ps vs : Nat → Int} {i : Nat} (hv : 0 ≤ vs i ∧ vs i < p) (x : Int) (k : Nat) : 0 ≤ Pol.ab p ps vs i x k ∧ Pol.ab p ps vs i x k < p := by
  induction k with
  | zero => exact hv
  | succ k ih =>
    unfold Pol.ab
    split
    · exact ih
    · exact ⟨Int.emod_nonneg _ (by omega), Int.emod_lt_of_pos _ hp⟩
theorem be_in {p : Int} (hp : 1 < p) (ps : Nat → Int) (i k : Nat) : 0 ≤ Pol.be p ps i k ∧ Pol.be p ps i k < p := by
  induction k with
  | zero => exact ⟨show (0 : Int) ≤ 1 by decide, hp⟩
  | succ k ih =>
    unfold Pol.be
    split
    · exact ih
    · exact ⟨Int.emod_nonneg _ (by omega), Int.emod_lt_of_pos _ (by omega)⟩
theorem lg_in {p : Int} (hp : 0 < p) (ps vs : Nat → Int) (n : Nat) (x : Int) (i : Nat) : 0 ≤ Pol.lg p ps vs n x i ∧ Pol.lg p ps vs n x i < p := by
  cases i with
  | zero => exact ⟨Int.le_refl 0, hp⟩
  | succ i => exact ⟨Int.emod_nonneg _ (by omega), Int.emod_lt_of_pos _ hp⟩
theorem be_ne {p : Int} (hp : p ∈ Pol.prs) {zs : List Int} {n : Nat} (hz : letP zs p n) (hd : ∀ i j, i < j → j < n → zs.getD j 0 ≠ zs.getD i 0) {i : Nat} (hi : i < n) : ¬ Pol.Eqp p (Pol.be p (fun k => zs.getD k 0) i n) 0 := fun k =>
  Pol.px_ne (Pol.prm_of hp) (Pol.one_ne hp) (fun k => zs.getD k 0) i (zs.getD i 0) n (fun j hj hij => ne_places hp hz hd hj hi hij) ((Pol.be_px p (fun k => zs.getD k 0) i n).symm.trans k)
set_option maxHeartbeats 4000000 in
theorem iv_spec (p x : Int) (w : World) (hp : p ∈ Pol.prs) (hx : 0 ≤ x ∧ x < p) (hne : ¬ Pol.Eqp p x 0) : Calls Try.prog 124 #[.int .i64 p, .int .i64 x] w fun e w' => e = .returned (.int .i64 (Pol.iv p x)) ∧ w = w' := by
  have hp2 : 7 ≤ p ∧ p ≤ 257 := by have := hp; simp [Pol.prs] at this; omega
  obtain ⟨_, h0, h1, h2, h3⟩ := Pol.iv_ok hp hne
  obtain ⟨v, hv⟩ : ∃ v : Nat, Pol.iv p x = (v : Int) := ⟨(Pol.iv p x).toNat, by omega⟩
  rw [hv] at h0 h1 h2 h3 ⊢
  have hv1 : 1 ≤ v := by
    rcases Nat.eq_zero_or_pos v with e | e
    · subst e; simp at h2
    · exact e
  have H2 := Lib.hid h2
  have H3 := Lib.hid h3
  have HP := Lib.hid hp2
  have HX := Lib.hid hx
  have H1 := Lib.hid h1
  clear hv h0 h2 h3 hp2 hne h1 hx hp
  go_enter Try.func124, Try.ntmps124
  go_wp2
  go_loop [5] (fun iv => ∃ y : Nat, 1 ≤ y ∧ y ≤ v ∧ iv = .int .i64 (y : Int)) (fun iv => v - (intOf iv).toNat)
  case atStart => exact ⟨1, by omega, by omega, rfl⟩
  case round =>
    obtain ⟨y, hy1, hyv, rfl⟩ := hrel
    obtain ⟨hp7, hp257⟩ := HP.out
    have hp0 : ¬ p = 0 := by omega
    have hm0 : 0 ≤ x * (y : Int) := Int.mul_nonneg HX.out.1 (by omega)
    have hm1 : x * (y : Int) ≤ 257 * 257 := Int.mul_le_mul (by have := HX.out; have := HP.out; omega) (by have := H1.out; have := HP.out; omega) (by omega) (by omega)
    have e1 : IntKind.i64.wrap (x * (y : Int)) = x * (y : Int) := IntWalk.i64_in _ (by omega)
    have e3 : (x * (y : Int)).tmod p = x * (y : Int) % p := Int.tmod_eq_emod_of_nonneg (by omega)
    have hpn : (p == 0) = false := by simpa using (show ¬ p = 0 by have := HP.out; omega)
    by_cases hlt : y < v
    · have hz : x * (y : Int) % p ≠ 1 := H3.out y (by omega)
      have hzb : (x * (y : Int) % p == 1) = false := by simpa using hz
      have hwq : IntKind.i64.wrap ((y : Int) + 1) = (y : Int) + 1 := IntWalk.i64_in _ (by have := HP.out.2; have := H1.out; omega)
      go_wp2
      exact ⟨⟨y + 1, by omega, by omega, by first | rfl | go_num | (congr 1)⟩, by show v - ((y : Int) + 1).toNat < v - (y : Int).toNat; omega⟩
    · obtain rfl : y = v := by omega
      have hz : x * (y : Int) % p = 1 := H2.out
      rw [hz] at e3
      go_wp2
      go_ret
      exact ⟨rfl, rfl⟩
set_option maxRecDepth 100000 in
set_option maxHeartbeats 8000000 in
theorem ps_spec (p x : Int) (a : Option Addr) (n cap : Nat) (zs : List Int) (b : Option Addr) (m capb : Nat) (ys : List Int) (w : World) (ha : IRow w a n zs) (hb : IRow w b m ys) (hp : p ∈ Pol.prs) (hn : n ≤ 8) (hm : n ≤ m) (hx : 0 ≤ x ∧ x < p)
    (hz : letP zs p n) (hy : letP ys p m) (hd : ∀ i j, i < j → j < n → zs.getD j 0 ≠ zs.getD i 0) :
    Calls Try.prog 75 #[.int .i64 p, .slice a n cap, .slice b m capb, .int .i64 x] w fun e w' => e = .returned (.int .i64 (Pol.lg p (fun k => zs.getD k 0) (fun k => ys.getD k 0) n x n)) ∧ ∃ q, w' = w.drewN q := by
  have HA := Lib.hid ha
  have HB := Lib.hid hb
  have HZ := Lib.hid hz
  have HY := Lib.hid hy
  have HPR := Lib.hid hp
  have HD := Lib.hid hd
  have hp2 : 7 ≤ p ∧ p ≤ 257 := by have := hp; simp [Pol.prs] at this; omega
  have HP := Lib.hid hp2
  have HX := Lib.hid hx
  clear ha hb hz hy hp hd hp2 hx
  go_enter Try.func75, Try.ntmps75
  go_wp2
  go_loopw [9, 10] (fun sv iv w' => ∃ (i q : Nat), i ≤ n ∧ sv = .int .i64 (Pol.lg p (fun k => zs.getD k 0) (fun k => ys.getD k 0) n x i) ∧ iv = .int .i64 i ∧ w' = w.drewN q) (fun _ iv _ => n - (intOf iv).toNat)
  case atStart => exact ⟨0, 0, by omega, rfl, rfl, rfl⟩
  case round =>
    obtain ⟨i, q, hi, rfl, rfl, rfl⟩ := hrel
    by_cases hlt : i < n
    · obtain ⟨bb, ob, rfl, hbb, hcb⟩ := HB.out.cell' (show i < m by omega)
      obtain ⟨y0, y1⟩ := HY.out i (by omega)
      have hwi : IntKind.i64.wrap ((i : Int) + 1) = (i : Int) + 1 := IntWalk.i64_in _ (by omega)
      obtain ⟨s0, s1⟩ := lg_in (show 0 < p by have := HP.out; omega) (fun k => zs.getD k 0) (fun k => ys.getD k 0) n x i
      have HLS : Hid (Pol.lg p (fun k => zs.getD k 0) (fun k => ys.getD k 0) n x (i + 1) = (Pol.lg p (fun k => zs.getD k 0) (fun k => ys.getD k 0) n x i + Pol.ab p (fun k => zs.getD k 0) (fun k => ys.getD k 0) i x n * Pol.iv p (Pol.be p (fun k => zs.getD k 0) i n)) % p) := Lib.hid rfl
      generalize Pol.lg p (fun k => zs.getD k 0) (fun k => ys.getD k 0) n x i = S at s0 s1 HLS ⊢
      go_wp2
      go_loopw [11, 12, 13] (fun av bv kv w' => ∃ (k q2 : Nat), k ≤ n ∧ av = .int .i64 (Pol.ab p (fun k => zs.getD k 0) (fun k => ys.getD k 0) i x k) ∧ bv = .int .i64 (Pol.be p (fun k => zs.getD k 0) i k) ∧ kv = .int .i64 k ∧ w' = w.drewN q2) (fun _ _ kv _ => n - (intOf kv).toNat)
      case atStart => exact ⟨0, _, by omega, rfl, rfl, rfl, rfl⟩
      case round =>
        obtain ⟨k, q2, hk, rfl, rfl, rfl, rfl⟩ := hrel
        by_cases hlk : k < n
        · have hwk : IntKind.i64.wrap ((k : Int) + 1) = (k : Int) + 1 := IntWalk.i64_in _ (by omega)
          obtain ⟨ba, oa, rfl, hba, hca⟩ := HA.out.cell' hlk
          by_cases hki : k = i
          · subst hki
            have hab : Hid (Pol.ab p (fun k => zs.getD k 0) (fun k => ys.getD k 0) k x (k + 1) = Pol.ab p (fun k => zs.getD k 0) (fun k => ys.getD k 0) k x k) := Lib.hid (by show (if k = k then _ else _) = _; rw [if_pos rfl])
            have hbe : Hid (Pol.be p (fun k => zs.getD k 0) k (k + 1) = Pol.be p (fun k => zs.getD k 0) k k) := Lib.hid (by show (if k = k then _ else _) = _; rw [if_pos rfl])
            go_wp2
            exact ⟨⟨k + 1, _, by omega, by rw [hab.out], by rw [hbe.out], by first | rfl | go_num | (congr 1), rfl⟩, by show n - ((k : Int) + 1).toNat < n - (k : Int).toNat; omega⟩
          · obtain ⟨ba2, oa2, e2, hba2, hca2⟩ := HA.out.cell' hlt
            have e2' := e2
            injection e2 with e2
            injection e2 with e21 e22
            subst e21; subst e22
            clear e2'
            obtain ⟨k0, k1⟩ := HZ.out k hlk
            obtain ⟨i0, i1⟩ := HZ.out i hlt
            obtain ⟨x0, x1⟩ := HX.out
            obtain ⟨p7, p257⟩ := HP.out
            have hkib : ((k : Int) == (i : Int)) = false := by simpa using (show ¬ (k : Int) = (i : Int) by omega)
            obtain ⟨a0, a1⟩ := ab_in (show 0 < p by omega) (ps := fun k => zs.getD k 0) (vs := fun k => ys.getD k 0) (i := i) ⟨y0, y1⟩ x k
            obtain ⟨b0, b1⟩ := be_in (show 1 < p by omega) (fun k => zs.getD k 0) i k
            have hab : Hid (Pol.ab p (fun k => zs.getD k 0) (fun k => ys.getD k 0) i x (k + 1) = Pol.ab p (fun k => zs.getD k 0) (fun k => ys.getD k 0) i x k * ((x - zs.getD k 0 + p) % p) % p) := Lib.hid (by show (if k = i then _ else _) = _; rw [if_neg hki])
            have hbe : Hid (Pol.be p (fun k => zs.getD k 0) i (k + 1) = Pol.be p (fun k => zs.getD k 0) i k * ((zs.getD i 0 - zs.getD k 0 + p) % p) % p) := Lib.hid (by show (if k = i then _ else _) = _; rw [if_neg hki])
            generalize Pol.ab p (fun k => zs.getD k 0) (fun k => ys.getD k 0) i x k = A at a0 a1 hab ⊢
            generalize Pol.be p (fun k => zs.getD k 0) i k = B at b0 b1 hbe ⊢
            generalize zs.getD k 0 = zk at hca k0 k1 hab hbe
            generalize zs.getD i 0 = zi at hca2 i0 i1 hbe
            have e1 : IntKind.i64.wrap (x - zk) = x - zk := IntWalk.i64_in _ (by omega)
            have e2 : IntKind.i64.wrap (x - zk + p) = x - zk + p := IntWalk.i64_in _ (by omega)
            have e3 : (x - zk + p).tmod p = (x - zk + p) % p := Int.tmod_eq_emod_of_nonneg (by omega)
            have f1 : IntKind.i64.wrap (zi - zk) = zi - zk := IntWalk.i64_in _ (by omega)
            have f2 : IntKind.i64.wrap (zi - zk + p) = zi - zk + p := IntWalk.i64_in _ (by omega)
            have f3 : (zi - zk + p).tmod p = (zi - zk + p) % p := Int.tmod_eq_emod_of_nonneg (by omega)
            have r0 := Int.emod_nonneg (x - zk + p) (show p ≠ 0 by omega)
            have r1 := Int.emod_lt_of_pos (x - zk + p) (show 0 < p by omega)
            have t0 := Int.emod_nonneg (zi - zk + p) (show p ≠ 0 by omega)
            have t1 := Int.emod_lt_of_pos (zi - zk + p) (show 0 < p by omega)
            generalize (x - zk + p) % p = R at e3 r0 r1 hab
            generalize (zi - zk + p) % p = T at f3 t0 t1 hbe
            have m0 : 0 ≤ A * R := Int.mul_nonneg a0 r0
            have m1 : A * R ≤ 257 * 257 := Int.mul_le_mul (by omega) (by omega) r0 (by omega)
            have n0 : 0 ≤ B * T := Int.mul_nonneg b0 t0
            have n1 : B * T ≤ 257 * 257 := Int.mul_le_mul (by omega) (by omega) t0 (by omega)
            have e4 : IntKind.i64.wrap (A * R) = A * R := IntWalk.i64_in _ (by omega)
            have e5 : (A * R).tmod p = A * R % p := Int.tmod_eq_emod_of_nonneg m0
            have f4 : IntKind.i64.wrap (B * T) = B * T := IntWalk.i64_in _ (by omega)
            have f5 : (B * T).tmod p = B * T % p := Int.tmod_eq_emod_of_nonneg n0
            have hpn : (p == 0) = false := by simpa using (show ¬ p = 0 by omega)
            have hint0 : (0 : Int) ≤ (k : Int) := by omega
            have hint1 : (k : Int) < (n : Int) := by omega
            have hint2 : (0 : Int) ≤ (i : Int) := by omega
            have hint3 : (i : Int) < (n : Int) := by omega
            go_wp2
            go_quiet (fail)
            go_wp2
            exact ⟨⟨k + 1, _, by omega, by rw [hab.out], by rw [hbe.out], by first | rfl | go_num | (congr 1), rfl⟩, by show n - ((k : Int) + 1).toNat < n - (k : Int).toNat; omega⟩
        · obtain rfl : k = n := by omega
          obtain ⟨p7, p257⟩ := HP.out
          have hnb := be_ne HPR.out HZ.out HD.out hlt
          obtain ⟨a0, a1⟩ := ab_in (show 0 < p by omega) (ps := fun k => zs.getD k 0) (vs := fun k => ys.getD k 0) (i := i) ⟨y0, y1⟩ x k
          obtain ⟨b0, b1⟩ := be_in (show 1 < p by omega) (fun k => zs.getD k 0) i k
          obtain ⟨_, v0, v1, _, _⟩ := Pol.iv_ok HPR.out hnb
          have HIV : Hid (∀ w2, Calls Try.prog 124 #[.int .i64 p, .int .i64 (Pol.be p (fun k => zs.getD k 0) i k)] w2 fun e w' => e = .returned (.int .i64 (Pol.iv p (Pol.be p (fun k => zs.getD k 0) i k))) ∧ w2 = w') := Lib.hid (fun w2 => iv_spec p _ w2 HPR.out ⟨b0, b1⟩ hnb)
          clear hnb
          generalize Pol.ab p (fun k => zs.getD k 0) (fun k => ys.getD k 0) i x k = A at a0 a1 HLS ⊢
          generalize Pol.be p (fun k => zs.getD k 0) i k = B at b0 b1 HLS HIV v0 v1 ⊢
          generalize Pol.iv p B = V at v0 v1 HLS HIV
          have m0 : 0 ≤ A * V := Int.mul_nonneg a0 v0
          have m1 : A * V ≤ 257 * 257 := Int.mul_le_mul (by omega) (by omega) v0 (by omega)
          have e1 : IntKind.i64.wrap (A * V) = A * V := IntWalk.i64_in _ (by omega)
          have e2 : IntKind.i64.wrap (S + A * V) = S + A * V := IntWalk.i64_in _ (by omega)
          have e3 : (S + A * V).tmod p = (S + A * V) % p := Int.tmod_eq_emod_of_nonneg (by omega)
          have hpn : ¬ p = 0 := by omega
          go_wp2_with (first | (go_at_call 124; (with_reducible refine (HIV.out _).mono ?_); rintro e w' ⟨rfl, hw⟩; subst hw) | fail)
          exact ⟨⟨i + 1, _, by omega, by rw [HLS.out], by first | rfl | go_num | (congr 1), rfl⟩, by show k - ((i : Int) + 1).toNat < k - (i : Int).toNat; omega⟩
    · obtain rfl : i = n := by omega
      go_wp2
      go_ret
      exact ⟨rfl, _, rfl⟩
end Go.Proofs.Ytaefmffmjbabcaa
