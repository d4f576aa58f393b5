/- Phasors: the plain side. -/
import Derived.Test.YtgdcpohdejbhaacFln
namespace Go.Proofs.Ytgdcpohdejbhaac
open Go.Proofs.Ytgdcpohdejbhaac.Flo Go.RowKit

/-- The numbers 1/4 and 2 in units of 2 ^ -1074. -/
@[irreducible] def Qv : Nat := 2 ^ 1072
@[irreducible] def Q8 : Nat := 2 ^ 1075
theorem Qv_split (a b : Nat) (h : a + b = 1072) : Qv = 2 ^ a * 2 ^ b := by rw [← Nat.pow_add, h]; unfold Qv; rfl
theorem Qv_pow (a : Nat) (h : a = 1072) : Qv = 2 ^ a := by subst h; unfold Qv; rfl
theorem Q8_pow' (a : Nat) (h : a = 1075) : Q8 = 2 ^ a := by subst h; unfold Q8; rfl
/-- A number in units of 2 ^ -1074. -/
def val (x : Nat) : Nat := match (FloatKind.f64).decode x with
  | .number _ m i => m * 2 ^ (i + 1074).toNat
  | _ => 0
/-- Not below 0. -/
def NN (x : Nat) : Prop := ∃ s m i, (FloatKind.f64).decode x = .number s m i ∧ (s = false ∨ m = 0)
theorem val_of {x : Nat} {s : Bool} {m : Nat} {i : Int} (h : (FloatKind.f64).decode x = .number s m i) : val x = m * 2 ^ (i + 1074).toNat := by
  unfold val; rw [h]

theorem num64n {x : Nat} {s : Bool} {m : Nat} {i : Int} (h : (FloatKind.f64).decode x = .number s m i) : i = -1074 ∨ 2 ^ 52 ≤ m := by
  unfold FloatKind.decode FloatKind.format Ieee.Format.read at h
  dsimp only at h
  have h1 : Ieee.double.binade = 2 ^ 52 := rfl
  have h3 : Ieee.double.leastPlace = -1074 := rfl
  generalize x % Ieee.double.signWeight = r at h
  rw [h1, h3] at h
  split at h
  · injection h with _ hm he
    left; omega
  · split at h
    · injection h with _ hm he
      right; omega
    · split at h <;> cases h

theorem dec_c025 : (FloatKind.f64).decode c025 = .number false (2 ^ 52) (-54) := by decide +kernel

theorem scale {m n : Nat} {i j b : Int} (hi : b ≤ i) (hj : b ≤ j) (hb : -1074 ≤ b) : (n * 2 ^ (j - b).toNat ≤ m * 2 ^ (i - b).toNat) ↔ (n * 2 ^ (j + 1074).toNat ≤ m * 2 ^ (i + 1074).toNat) := by
  have e1 : (j + 1074).toNat = (j - b).toNat + (b + 1074).toNat := by omega
  have e2 : (i + 1074).toNat = (i - b).toNat + (b + 1074).toNat := by omega
  rw [e1, e2, Nat.pow_add, Nat.pow_add, ← Nat.mul_assoc, ← Nat.mul_assoc]
  exact ⟨fun h => Nat.mul_le_mul_right _ h, fun h => Nat.le_of_mul_le_mul_right h (Nat.two_pow_pos _)⟩

theorem ge025 {x : Nat} (h : NN x) : vge (some x) (some c025) = decide (Qv ≤ val x) := by
  obtain ⟨s, m, i, hd, hs⟩ := h
  have hn := num64 hd
  have e : Qv = 2 ^ 52 * 2 ^ ((-54 : Int) + 1074).toNat := Qv_split _ _ (by omega)
  show ((FloatKind.f64).format.order x c025 == some .gt || (FloatKind.f64).format.order x c025 == some .eq) = _
  rw [order_num hd dec_c025, cmp_ge, val_of hd, e, signed_false]
  refine decide_eq_decide.2 ?_
  rw [← scale (b := min i (-54)) (by omega) (by omega) (by omega)]
  rcases hs with rfl | rfl
  · rw [signed_false]; exact Int.ofNat_le
  · rw [signed_zero, Nat.zero_mul]
    exact ⟨fun h => Int.ofNat_le.1 h, fun h => Int.ofNat_le.2 h⟩

theorem q_sub {x : Nat} (h : NN x) (h1 : Qv ≤ val x) (h2 : val x ≤ Q8) : ∃ x', vop .sub .f64 (some x) (some c025) = some x' ∧ NN x' ∧ val x' + Qv = val x := by
  obtain ⟨s, m, i, hd, hs⟩ := h
  have hn := num64 hd
  rw [val_of hd] at h1 h2 ⊢
  have hm0 : m ≠ 0 := by rintro rfl; rw [Nat.zero_mul] at h1; exact absurd h1 (by have := Qv_pow _ rfl; have h3 := Nat.two_pow_pos 1072; omega)
  obtain rfl := hs.resolve_right hm0
  have hlo : -54 ≤ i := by
    have : Qv < 2 ^ (53 + (i + 1074).toNat) := by
      rw [Nat.pow_add]; exact Nat.lt_of_le_of_lt h1 (Nat.mul_lt_mul_of_pos_right hn.1 (Nat.two_pow_pos _))
    obtain ⟨A, hA⟩ : ∃ A, A = 1072 := ⟨_, rfl⟩
    rw [Qv_pow A hA] at this
    have := (Nat.pow_lt_pow_iff_right (by omega : 1 < 2)).1 this
    omega
  have hmn : 2 ^ 52 ≤ m := (num64n hd).resolve_left (by omega)
  have hhi : i ≤ -51 := by
    have : 2 ^ (52 + (i + 1074).toNat) ≤ Q8 := by
      rw [Nat.pow_add]; exact Nat.le_trans (Nat.mul_le_mul_right _ hmn) h2
    obtain ⟨A, hA⟩ : ∃ A, A = 1075 := ⟨_, rfl⟩
    rw [Q8_pow' A hA] at this
    have := (Nat.pow_le_pow_iff_right (by omega : 1 < 2)).1 this
    omega
  obtain ⟨j, hj⟩ : ∃ j : Nat, i = -54 + j := ⟨(i + 54).toNat, by omega⟩
  subst hj
  have hj3 : j ≤ 3 := by omega
  have hv : (-54 + (j : Int) + 1074).toNat = 1020 + j := by omega
  rw [hv] at h1 h2 ⊢
  have hq : 2 ^ (52 - j) ≤ m := Nat.le_trans (Nat.pow_le_pow_right (by omega) (by omega)) hmn
  have hsum : ((FloatKind.f64).decode x).sum ((FloatKind.f64).decode c025).opposite = some (.number false ((m - 2 ^ (52 - j)) <<< j) (-54)) := by
    rw [hd, dec_c025]
    show some (Ieee.Datum.number _ _ _) = _
    have hb : min (-54 + (j : Int)) (-54) = -54 := by omega
    have e1 : (-54 + (j : Int) - -54).toNat = j := by omega
    have e2 : Ieee.signed (!false) (2 ^ 52) ((-54 : Int) - -54).toNat = -((2 ^ 52 : Nat) : Int) := rfl
    rw [hb, e1, signed_false, e2]
    have hp : 2 ^ 52 = 2 ^ (52 - j) * 2 ^ j := by rw [← Nat.pow_add]; congr 1; omega
    have hge : 2 ^ 52 ≤ m * 2 ^ j := by rw [hp]; exact Nat.mul_le_mul_right _ hq
    have e3 : (m - 2 ^ (52 - j)) <<< j = m * 2 ^ j - 2 ^ 52 := by
      rw [Nat.shiftLeft_eq, Nat.sub_mul, ← hp]
    rw [e3]
    generalize m * 2 ^ j = a at *
    generalize 2 ^ 52 = c at *
    have e4 : ((a : Int) + -(c : Int)).natAbs = a - c := by omega
    rw [e4]
    congr 2
    split
    · rfl
    · exact decide_eq_false (by omega)
  refine ⟨(FloatKind.f64).format.nearest false ((m - 2 ^ (52 - j)) <<< j) (-54), ?_, ?_⟩
  · show ((((FloatKind.f64).decode x).sum ((FloatKind.f64).decode c025).opposite).map (FloatKind.f64).format.write) = _
    rw [hsum]; rfl
  · have hpow : Qv = 2 ^ (52 - j) * 2 ^ (1020 + j) := Qv_split _ _ (by omega)
    by_cases hz : m - 2 ^ (52 - j) = 0
    · rw [hz]
      have e0 : (FloatKind.f64).format.nearest false (0 <<< j) (-54) = 0 := by
        rw [Nat.shiftLeft_eq, Nat.zero_mul]; decide +kernel
      have hd0 : (FloatKind.f64).decode 0 = .number false 0 (-1074) := by decide +kernel
      rw [e0]
      refine ⟨⟨_, _, _, hd0, .inl rfl⟩, ?_⟩
      rw [val_of hd0, Nat.zero_mul, Nat.zero_add, hpow]
      have : m = 2 ^ (52 - j) := by omega
      rw [← this]
    · have hl : (m - 2 ^ (52 - j)).log2 ≤ 52 := by
        have := (Nat.log2_lt hz).2 (Nat.lt_of_le_of_lt (Nat.sub_le _ _) hn.1 : m - 2 ^ (52 - j) < 2 ^ 53)
        omega
      have hd' := exact64 false (m - 2 ^ (52 - j)) j (-54) hz hl (by omega) (by omega)
      refine ⟨⟨_, _, _, hd', .inl rfl⟩, ?_⟩
      rw [val_of hd', Nat.shiftLeft_eq, Nat.mul_assoc, ← Nat.pow_add]
      have e5 : 52 - (m - 2 ^ (52 - j)).log2 + (-54 + (j : Int) + ((m - 2 ^ (52 - j)).log2 : Int) - 52 + 1074).toNat = 1020 + j := by omega
      rw [e5, hpow, ← Nat.add_mul]
      congr 1
      omega

def quarterF : Nat → Option Nat → Int → Option Nat × Int
  | 0, a, q => (a, q)
  | n + 1, a, q => if vge a (some c025) then quarterF n (vop .sub .f64 a (some c025)) (q + 1) else (a, q)
theorem quarterF_stop {a : Option Nat} (h : vge a (some c025) = false) (n : Nat) (q : Int) : quarterF n a q = (a, q) := by
  cases n with
  | zero => rfl
  | succ n => simp [quarterF, h]
theorem quarterF_go {a : Option Nat} (h : vge a (some c025) = true) (n : Nat) (q : Int) : quarterF (n + 1) a q = quarterF n (vop .sub .f64 a (some c025)) (q + 1) := by
  simp [quarterF, h]

theorem NN_le {x : Nat} (h : NN x) (hv : val x ≤ Q8) : Le 1 ((FloatKind.f64).decode x) := by
  obtain ⟨s, m, i, hd, _⟩ := h
  have hn := num64 hd
  rw [val_of hd] at hv
  rw [hd]
  refine leN_of 1074 (by omega) (by omega) ?_
  rw [Q8_pow' ((1 : Int) + ((1074 : Nat) : Int)).toNat (by decide)] at hv; exact hv

theorem le_val {x : Nat} {s : Bool} {m : Nat} {i : Int} (hd : (FloatKind.f64).decode x = .number s m i) (h : leN 1 m i) : val x ≤ Q8 := by
  have hn := num64 hd
  rw [val_of hd]
  rw [Q8_pow' ((1 : Int) + ((1074 : Nat) : Int)).toNat (by decide)]; exact h 1074 (by omega) (by omega)

theorem small_of_le {d : Ieee.Datum} (h : Le 3 d) : smallD d = true := by
  cases d with
  | number s m i =>
    unfold smallD
    refine decide_eq_true ?_
    rw [Nat.shiftLeft_eq, Nat.shiftLeft_eq]
    have hk := h (0 - min i 0).toNat (by omega) (by omega)
    have e1 : (i + ((0 - min i 0).toNat : Int)).toNat = (i - min i 0).toNat := by omega
    have e2 : (3 + ((0 - min i 0).toNat : Int)).toNat = 3 + (0 - min i 0).toNat := by omega
    rw [e1, e2, Nat.pow_add] at hk
    exact Nat.lt_of_le_of_lt hk (Nat.mul_lt_mul_of_pos_right (by decide) (Nat.two_pow_pos _))
  | infinity => exact h.elim
  | nan => exact h.elim

/-- What is left of turns is not below 0, and at most 1. -/
theorem rest_NN {y : Nat} (h : smallD ((FloatKind.f64).decode y) = true) : ∃ f, restV y = some f ∧ NN f ∧ val f ≤ Q8 := by
  obtain ⟨r, hr, hle⟩ := restF_le h
  cases hd : (FloatKind.f64).decode r with
  | infinity => rw [hd] at hle; exact hle.elim
  | nan => rw [hd] at hle; exact hle.elim
  | number s m i =>
    rw [hd] at hle
    have hv : vlt (restF y) (some 0) = (sgn (.number s m i) == some .lt) := by
      rw [hr]
      show ((FloatKind.f64).format.order r 0 == some .lt) = _
      rw [order_zero, hd]
    cases hb : vlt (restF y) (some 0) with
    | false =>
      have hV : restV y = some r := by unfold restV; rw [hb, hr]; rfl
      refine ⟨r, hV, ⟨s, m, i, hd, ?_⟩, le_val hd (leN_mono hle (by decide))⟩
      by_cases hm : m = 0
      · exact .inr hm
      · left
        rw [hv, sgn_num hm] at hb
        cases s
        · rfl
        · exact absurd hb (by decide)
    | true =>
      have hm : m ≠ 0 := by
        rintro rfl
        rw [hv, show sgn (.number s 0 i) = some .eq from rfl] at hb
        exact absurd hb (by decide)
      have hs : s = true := by
        rw [hv, sgn_num hm] at hb
        cases s
        · exact absurd hb (by decide)
        · rfl
      subst hs
      have hV : restV y = vop .add .f64 (some r) (some c1) := by unfold restV; rw [hb, hr]; rfl
      have hs1 : leN 0 m i := hle
      -- 1 less what is below it
      have hsum : ((FloatKind.f64).decode r).sum ((FloatKind.f64).decode c1) = some (.number false (2 ^ 52 * 2 ^ (-52 - min i (-52)).toNat - m * 2 ^ (i - min i (-52)).toNat) (min i (-52))) ∧ leN 0 (2 ^ 52 * 2 ^ (-52 - min i (-52)).toNat - m * 2 ^ (i - min i (-52)).toNat) (min i (-52)) := by
        rw [hd, dec_c1]
        have e1 : Ieee.signed true m (i - min i (-52)).toNat = -((m * 2 ^ (i - min i (-52)).toNat : Nat) : Int) := by
          unfold Ieee.signed; rw [Nat.shiftLeft_eq]; rfl
        have hmc : m * 2 ^ (i - min i (-52)).toNat ≤ 2 ^ 52 * 2 ^ (-52 - min i (-52)).toNat := by
          have hk := hs1 (0 - min i (-52)).toNat (by omega) (by omega)
          have e2 : (i + ((0 - min i (-52)).toNat : Int)).toNat = (i - min i (-52)).toNat := by omega
          have e3 : (0 + ((0 - min i (-52)).toNat : Int)).toNat = 52 + (-52 - min i (-52)).toNat := by omega
          rw [e2, e3, Nat.pow_add] at hk
          exact hk
        have hc : 2 ^ 52 * 2 ^ (-52 - min i (-52)).toNat = 2 ^ (52 + (-52 - min i (-52)).toNat) := (Nat.pow_add ..).symm
        constructor
        · show some (Ieee.Datum.number _ _ _) = _
          rw [e1, signed_false]
          generalize m * 2 ^ (i - min i (-52)).toNat = a at *
          generalize 2 ^ 52 * 2 ^ (-52 - min i (-52)).toNat = c at *
          have e4 : (-(a : Int) + (c : Int)).natAbs = c - a := by omega
          rw [e4]
          congr 2
          split
          · rfl
          · exact decide_eq_false (by omega)
        · refine leN_of (0 - min i (-52)).toNat (by omega) (by omega) ?_
          have e5 : (min i (-52) + ((0 - min i (-52)).toNat : Int)).toNat = 0 := by omega
          have e6 : (0 + ((0 - min i (-52)).toNat : Int)).toNat = 52 + (-52 - min i (-52)).toNat := by omega
          rw [e5, e6, Nat.pow_zero, Nat.mul_one, ← hc]
          omega
      obtain ⟨hsum, hl⟩ := hsum
      have hw := nearest_le .f64 false _ _ 0 hl ⟨by decide, by decide⟩
      refine ⟨(FloatKind.f64).format.nearest false (2 ^ 52 * 2 ^ (-52 - min i (-52)).toNat - m * 2 ^ (i - min i (-52)).toNat) (min i (-52)), ?_, ?_⟩
      · rw [hV]
        show ((((FloatKind.f64).decode r).sum ((FloatKind.f64).decode c1)).map (FloatKind.f64).format.write) = _
        rw [hsum]; rfl
      · generalize (FloatKind.f64).format.nearest false (2 ^ 52 * 2 ^ (-52 - min i (-52)).toNat - m * 2 ^ (i - min i (-52)).toNat) (min i (-52)) = f at *
        cases hdf : (FloatKind.f64).decode f with
        | number t n j =>
          rw [hdf] at hw
          exact ⟨⟨t, n, j, hdf, .inl hw.2⟩, le_val hdf (leN_mono hw.1 (by decide))⟩
        | infinity => rw [hdf] at hw; exact hw.1.elim
        | nan => rw [hdf] at hw; exact hw.1.elim
end Go.Proofs.Ytgdcpohdejbhaac
