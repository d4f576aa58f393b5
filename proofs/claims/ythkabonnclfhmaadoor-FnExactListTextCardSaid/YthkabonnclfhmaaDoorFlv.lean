
/- Floats: bounds that rounding keeps; plain facts, no program. -/
import Derived.Test.YthkabonnclfhmaaDoorFlo
namespace Go.Proofs.YthkabonnclfhmaaDoor.Flo
open Go

/-- 'at most 2 ^ E in size': a number 'm * 2 ^ i'. -/
def leN (E : Int) (m : Nat) (i : Int) : Prop := ∀ K : Nat, 0 ≤ i + K → 0 ≤ E + K → m * 2 ^ (i + K).toNat ≤ 2 ^ (E + K).toNat
/-- 'at least 2 ^ F in size'. -/
def geN (F : Int) (m : Nat) (i : Int) : Prop := m ≠ 0 ∧ F ≤ (m.log2 : Int) + i

theorem pow_split {a b : Int} (ha : 0 ≤ a) (hb : 0 ≤ b) : (2 : Nat) ^ (a + b).toNat = 2 ^ a.toNat * 2 ^ b.toNat := by
  rw [← Nat.pow_add]; congr 1; omega

theorem leN_of {E i : Int} {m : Nat} (K : Nat) (hi : 0 ≤ i + K) (hE : 0 ≤ E + K) (h : m * 2 ^ (i + K).toNat ≤ 2 ^ (E + K).toNat) : leN E m i := by
  intro L hiL hEL
  -- K and L differ by a common factor
  by_cases hKL : K ≤ L
  · have e1 : i + L = (i + K) + ((L - K : Nat) : Int) := by omega
    have e2 : E + L = (E + K) + ((L - K : Nat) : Int) := by omega
    rw [e1, e2, pow_split hi (by omega), pow_split hE (by omega), ← Nat.mul_assoc]
    exact Nat.mul_le_mul_right _ h
  · have e1 : i + K = (i + L) + ((K - L : Nat) : Int) := by omega
    have e2 : E + K = (E + L) + ((K - L : Nat) : Int) := by omega
    rw [e1, e2, pow_split hiL (by omega), pow_split hEL (by omega), ← Nat.mul_assoc] at h
    exact Nat.le_of_mul_le_mul_right h (Nat.two_pow_pos _)

theorem leN_mono {E F i : Int} {m : Nat} (h : leN E m i) (hEF : E ≤ F) : leN F m i := by
  refine leN_of (max (-i).toNat (-E).toNat) (by omega) (by omega) ?_
  exact Nat.le_trans (h _ (by omega) (by omega)) (Nat.pow_le_pow_right (by omega) (by omega))

theorem leN_log {E i : Int} {m : Nat} (h : leN E m i) : m = 0 ∨ (m.log2 : Int) + i ≤ E := by
  by_cases h0 : m = 0
  · exact .inl h0
  · right
    have hk := h (max (-i).toNat (-E).toNat) (by omega) (by omega)
    generalize hK : max (-i).toNat (-E).toNat = K at hk
    have h1 : 2 ^ m.log2 ≤ m := Nat.log2_self_le h0
    have h2 : 2 ^ (m.log2 + (i + K).toNat) ≤ 2 ^ (E + K).toNat := by
      rw [Nat.pow_add]; exact Nat.le_trans (Nat.mul_le_mul_right _ h1) hk
    have := (Nat.pow_le_pow_iff_right (by omega : 1 < 2)).1 h2
    omega

theorem leN_of_log {E i : Int} {m : Nat} (h : m = 0 ∨ (m.log2 : Int) + i < E) : leN E m i := by
  refine leN_of (max (-i).toNat (-E).toNat) (by omega) (by omega) ?_
  generalize hK : max (-i).toNat (-E).toNat = K
  rcases h with rfl | h
  · simp
  · have h1 := log2_lt m
    calc m * 2 ^ (i + K).toNat ≤ 2 ^ (m.log2 + 1) * 2 ^ (i + K).toNat := Nat.mul_le_mul_right _ (Nat.le_of_lt h1)
      _ = 2 ^ (m.log2 + 1 + (i + K).toNat) := (Nat.pow_add ..).symm
      _ ≤ 2 ^ (E + K).toNat := Nat.pow_le_pow_right (by omega) (by omega)

theorem cut_even_le (neg : Bool) (n drop C : Nat) (h : n ≤ C * 2 ^ drop) : Ieee.Toward.even.cut neg n drop ≤ C := by
  unfold Ieee.Toward.cut
  simp only [Nat.shiftLeft_eq, Nat.one_mul]
  by_cases hl : drop ≤ n.log2 + 2
  · rw [Nat.min_eq_left hl]
    have hp := Nat.two_pow_pos drop
    have hdm := Nat.div_add_mod n (2 ^ drop)
    have hlow : n / 2 ^ drop ≤ C := Nat.div_le_of_le_mul (by rw [Nat.mul_comm]; exact h)
    by_cases he : n / 2 ^ drop = C
    · have hr : n % 2 ^ drop = 0 := by
        rw [he, Nat.mul_comm] at hdm
        omega
      rw [hr, he]
      have : ((2 ^ drop == 2 * 0) && C % 2 == 1) = false := by
        have : (2 ^ drop == 2 * 0) = false := by simp
        rw [this]; rfl
      have h2 : decide (2 ^ drop < 2 * 0) = false := decide_eq_false (by omega)
      rw [this, h2]; simp
    · have hb : ∀ b : Bool, b.toNat ≤ 1 := by decide
      have := hb (decide (2 ^ drop < 2 * (n % 2 ^ drop)) || (2 ^ drop == 2 * (n % 2 ^ drop) && n / 2 ^ drop % 2 == 1))
      omega
  · rw [Nat.min_eq_right (by omega)]
    have h1 := log2_lt n
    have h2 : n < 2 ^ (n.log2 + 2) := Nat.lt_of_lt_of_le h1 (Nat.pow_le_pow_right (by omega) (by omega))
    rw [Nat.div_eq_of_lt h2, Nat.mod_eq_of_lt h2]
    have h3 : decide (2 ^ (n.log2 + 2) < 2 * n) = false := decide_eq_false (by rw [Nat.pow_succ]; omega)
    have h4 : (2 ^ (n.log2 + 2) == 2 * n) = false := by
      rw [beq_eq_false_iff_ne]; rw [Nat.pow_succ]; omega
    rw [h3, h4]; simp

theorem cut_even_ge (neg : Bool) (n drop C : Nat) (h : C * 2 ^ drop ≤ n) : C ≤ Ieee.Toward.even.cut neg n drop := by
  unfold Ieee.Toward.cut
  simp only [Nat.shiftLeft_eq, Nat.one_mul]
  by_cases hl : drop ≤ n.log2 + 2
  · rw [Nat.min_eq_left hl]
    have : C ≤ n / 2 ^ drop := (Nat.le_div_iff_mul_le (Nat.two_pow_pos _)).2 h
    exact Nat.le_trans this (Nat.le_add_right _ _)
  · have h1 := log2_lt n
    have h2 : n < 2 ^ drop := Nat.lt_of_lt_of_le h1 (Nat.pow_le_pow_right (by omega) (by omega))
    have hC : C = 0 := by
      by_cases hC : C = 0
      · exact hC
      · have h3 : 1 * 2 ^ drop ≤ C * 2 ^ drop := Nat.mul_le_mul_right _ (by omega)
        rw [Nat.one_mul] at h3
        exact absurd (Nat.le_trans h3 h) (by omega)
    rw [hC]; exact Nat.zero_le _

/-- A datum is a number, at most 2 ^ E. -/
def Le (E : Int) : Ieee.Datum → Prop
  | .number _ m i => leN E m i
  | _ => False

/-- The exponents at which a kind is of full precision. -/
def Norm (k : FloatKind) (E : Int) : Prop := match k with
  | .f32 => -126 ≤ E ∧ E ≤ 127
  | .f64 => -1022 ≤ E ∧ E ≤ 1023

/-- What the exponent's rung is, and how the kind's figures hang together. -/
theorem figures (k : FloatKind) : k.format.binade = 2 ^ k.format.fractionBits ∧ 0 < k.format.binade ∧
    (∀ E, Norm k E → k.format.leastPlace + k.format.fractionBits ≤ E ∧ ((E - k.format.fractionBits - k.format.leastPlace).toNat + 1) * k.format.binade < k.format.infRung) := by
  refine ⟨rfl, Nat.two_pow_pos _, fun E hE => ?_⟩
  cases k
  · have h1 : (FloatKind.f32).format.leastPlace = -149 := rfl
    have h2 : (FloatKind.f32).format.fractionBits = 23 := rfl
    have h3 : (FloatKind.f32).format.binade = 2 ^ 23 := rfl
    have h4 : (FloatKind.f32).format.infRung = 255 * 2 ^ 23 := rfl
    have := hE.1; have := hE.2
    rw [h1, h2, h3, h4]
    refine ⟨by omega, Nat.mul_lt_mul_of_pos_right (by omega) (Nat.two_pow_pos _)⟩
  · have h1 : (FloatKind.f64).format.leastPlace = -1074 := rfl
    have h2 : (FloatKind.f64).format.fractionBits = 52 := rfl
    have h3 : (FloatKind.f64).format.binade = 2 ^ 52 := rfl
    have h4 : (FloatKind.f64).format.infRung = 2047 * 2 ^ 52 := rfl
    have := hE.1; have := hE.2
    rw [h1, h2, h3, h4]
    refine ⟨by omega, Nat.mul_lt_mul_of_pos_right (by omega) (Nat.two_pow_pos _)⟩

/-- ROUNDING KEEPS 'at most 2 ^ E'. -/
theorem nearest_le (k : FloatKind) (neg : Bool) (mag : Nat) (place E : Int) (h : leN E mag place) (hE : Norm k E) :
    Le E (k.decode (k.format.nearest neg mag place)) ∧ (k.decode (k.format.nearest neg mag place)).neg = neg := by
  obtain ⟨hbi, hpos, hfig⟩ := figures k
  obtain ⟨hlo, hhi⟩ := hfig E hE
  unfold FloatKind.decode
  generalize k.format = f at *
  unfold Ieee.Format.nearest
  dsimp only
  by_cases hm : mag = 0
  · rw [if_pos hm, read_word f neg 0 (Nat.two_pow_pos _), if_pos hpos]
    refine ⟨?_, rfl⟩
    intro K _ _; simp
  rw [if_neg hm]
  have hlog := (leN_log h).resolve_left hm
  have hself := log2_lt mag
  generalize hlast : max (place + (mag.log2 : Int) - f.fractionBits) f.leastPlace = last
  have hl1 : f.leastPlace ≤ last := by omega
  have hl2 : last ≤ E - f.fractionBits := by omega
  have hl3 : place + (mag.log2 : Int) - f.fractionBits ≤ last := by omega
  -- what is kept, against any bound
  have hkept : ∀ C : Nat, mag * 2 ^ (place - last).toNat ≤ C * 2 ^ (last - place).toNat → Ieee.Toward.even.cut neg (mag <<< (place - last).toNat) (last - place).toNat ≤ C := by
    intro C hC
    exact cut_even_le neg _ _ C (by rw [Nat.shiftLeft_eq]; exact hC)
  have hk2 := hkept (2 ^ (f.fractionBits + 1)) (by
    rw [← Nat.pow_add]
    calc mag * 2 ^ (place - last).toNat ≤ 2 ^ (mag.log2 + 1) * 2 ^ (place - last).toNat := Nat.mul_le_mul_right _ (Nat.le_of_lt hself)
      _ = 2 ^ (mag.log2 + 1 + (place - last).toNat) := (Nat.pow_add ..).symm
      _ ≤ _ := Nat.pow_le_pow_right (by omega) (by omega))
  have hk1 : last = E - f.fractionBits → Ieee.Toward.even.cut neg (mag <<< (place - last).toNat) (last - place).toNat ≤ 2 ^ f.fractionBits := by
    intro hle
    refine hkept _ ?_
    have hK := h ((-place).toNat + (-E).toNat + (-last).toNat) (by omega) (by omega)
    generalize hKK : (-place).toNat + (-E).toNat + (-last).toNat = K at hK
    have e1 : (place - last).toNat + (min place last + K).toNat = (place + K).toNat := by omega
    have e2 : f.fractionBits + (last - place).toNat + (min place last + K).toNat = (E + K).toNat := by omega
    refine Nat.le_of_mul_le_mul_right (c := 2 ^ (min place last + K).toNat) ?_ (Nat.two_pow_pos _)
    rw [Nat.mul_assoc, ← Nat.pow_add, e1, Nat.mul_assoc, ← Nat.pow_add, ← Nat.pow_add, ← Nat.add_assoc, e2]
    exact hK
  clear hkept
  generalize Ieee.Toward.even.cut neg (mag <<< (place - last).toNat) (last - place).toNat = kept at *
  generalize hB : f.binade = B at *
  generalize hN : (E - f.fractionBits - f.leastPlace).toNat + 1 = N at *
  have hrung : (last - f.leastPlace).toNat * B + kept ≤ N * B := by
    by_cases hle : last = E - f.fractionBits
    · have h1 := hk1 hle
      rw [← hbi] at h1
      have h2 : (last - f.leastPlace).toNat + 1 ≤ N := by omega
      have := Nat.mul_le_mul_right B h2
      rw [Nat.add_mul, Nat.one_mul] at this
      omega
    · rw [Nat.pow_succ, ← hbi] at hk2
      have h2 : (last - f.leastPlace).toNat + 2 ≤ N := by omega
      have := Nat.mul_le_mul_right B h2
      rw [Nat.add_mul] at this
      omega
  generalize (last - f.leastPlace).toNat * B + kept = rung at hrung
  have hlt : rung < f.infRung := by omega
  rw [Nat.min_eq_left (Nat.le_of_lt hlt), read_word f neg rung (Nat.lt_trans hlt f.infRung_lt), hB]
  by_cases h1 : rung < B
  · rw [if_pos h1]
    refine ⟨leN_of_log ?_, rfl⟩
    by_cases h0 : rung = 0
    · exact .inl h0
    · right
      have := (Nat.log2_lt h0).2 (by rw [← hbi]; exact h1 : rung < 2 ^ f.fractionBits)
      omega
  · rw [if_neg h1, if_pos hlt]
    refine ⟨?_, rfl⟩
    show leN E (B + rung % B) _
    have hr : rung % B < B := Nat.mod_lt _ hpos
    have hdm := Nat.div_add_mod rung B
    have hdiv : rung / B ≤ N := Nat.div_le_of_le_mul (by rw [Nat.mul_comm]; exact hrung)
    have hge : 1 ≤ rung / B := (Nat.le_div_iff_mul_le hpos).2 (by omega)
    by_cases hq : rung / B = N
    · have hr0 : rung % B = 0 := by
        rw [hq, Nat.mul_comm] at hdm; omega
      rw [hq, hr0, Nat.add_zero, hbi]
      refine leN_of ((-E).toNat + (-f.leastPlace).toNat) (by omega) (by omega) ?_
      rw [← Nat.pow_add]
      exact Nat.pow_le_pow_right (by omega) (by omega)
    · refine leN_of_log (.inr ?_)
      have hlog := (Nat.log2_lt (n := B + rung % B) (by omega)).2 (show B + rung % B < 2 ^ (f.fractionBits + 1) by rw [Nat.pow_succ, ← hbi]; omega)
      omega

/-! ### Operations on what is bounded -/
def VLe (k : FloatKind) (E : Int) (a : Option Nat) : Prop := ∃ b, a = some b ∧ Le E (k.decode b)
theorem Le.mono {E F : Int} {d : Ieee.Datum} (h : Le E d) (hEF : E ≤ F) : Le F d := by
  cases d with
  | number s m i => exact leN_mono h hEF
  | infinity => exact h
  | nan => exact h
theorem VLe.mono {k : FloatKind} {E F : Int} {a : Option Nat} (h : VLe k E a) (hEF : E ≤ F) : VLe k F a := by
  obtain ⟨b, e, hb⟩ := h; exact ⟨b, e, hb.mono hEF⟩
theorem Le.opposite {E : Int} {d : Ieee.Datum} (h : Le E d) : Le E d.opposite := by cases d <;> exact h
theorem Le.bd {E : Int} {d : Ieee.Datum} (h : Le E d) : Bd E d := by
  cases d with
  | number s m i => exact leN_log h
  | infinity => exact h
  | nan => exact h
theorem Bd.le {E : Int} {d : Ieee.Datum} (h : Bd E d) : Le (E + 1) d := by
  cases d with
  | number s m i => exact leN_of_log (by simp only [Bd] at h; omega)
  | infinity => exact h
  | nan => exact h
theorem VLe.vb {k : FloatKind} {E : Int} {a : Option Nat} (h : VLe k E a) : VB k E a := by
  obtain ⟨b, e, hb⟩ := h; exact ⟨b, e, hb.bd⟩
theorem VLe.okn {E : Int} {a : Option Nat} (h : VLe .f64 E a) (hE : E ≤ 125) : Okn a := okn_of_bd h.vb hE

theorem write_le {k : FloatKind} {E : Int} {d : Ieee.Datum} (h : Le E d) (hE : Norm k E) : Le E (k.decode (k.format.write d)) := by
  cases d with
  | number s m i => exact (nearest_le k s m i E h hE).1
  | infinity => exact h.elim
  | nan => exact h.elim

theorem leN_mul {E F i j : Int} {m n : Nat} (h1 : leN E m i) (h2 : leN F n j) : leN (E + F) (m * n) (i + j) := by
  obtain ⟨K, hK1, hK2⟩ : ∃ K : Nat, 0 ≤ i + K ∧ 0 ≤ E + K := ⟨(-i).toNat + (-E).toNat, by omega, by omega⟩
  obtain ⟨L, hL1, hL2⟩ : ∃ L : Nat, 0 ≤ j + L ∧ 0 ≤ F + L := ⟨(-j).toNat + (-F).toNat, by omega, by omega⟩
  have k1 := h1 K hK1 hK2
  have k2 := h2 L hL1 hL2
  refine leN_of (K + L) (by omega) (by omega) ?_
  have e1 : i + j + ((K + L : Nat) : Int) = (i + K) + (j + L) := by omega
  have e2 : E + F + ((K + L : Nat) : Int) = (E + K) + (F + L) := by omega
  rw [e1, e2, pow_split hK1 hL1, pow_split hK2 hL2]
  generalize 2 ^ (i + K).toNat = a at *
  generalize 2 ^ (j + L).toNat = b at *
  have e3 : m * n * (a * b) = (m * a) * (n * b) := by simp only [Nat.mul_assoc, Nat.mul_left_comm]
  rw [e3]
  exact Nat.mul_le_mul k1 k2

theorem vmul_le {k : FloatKind} {E F : Int} {a b : Option Nat} (ha : VLe k E a) (hb : VLe k F b) (h : Norm k (E + F)) : VLe k (E + F) (vop .mul k a b) := by
  obtain ⟨x, rfl, hx⟩ := ha
  obtain ⟨y, rfl, hy⟩ := hb
  show VLe k _ ((((k.decode x).product (k.decode y)).map k.format.write))
  cases hdx : k.decode x with
  | number s m i =>
    cases hdy : k.decode y with
    | number t n j =>
      rw [hdx] at hx; rw [hdy] at hy
      exact ⟨_, rfl, write_le (d := .number (s ^^ t) (m * n) (i + j)) (leN_mul hx hy) h⟩
    | infinity => rw [hdy] at hy; exact hy.elim
    | nan => rw [hdy] at hy; exact hy.elim
  | infinity => rw [hdx] at hx; exact hx.elim
  | nan => rw [hdx] at hx; exact hx.elim

theorem sum_le {d e : Ieee.Datum} {E F : Int} (hd : Le E d) (he : Le F e) : ∃ r, d.sum e = some r ∧ Le (max E F + 1) r := by
  cases d with
  | number s m i =>
    cases e with
    | number t n j =>
      refine ⟨_, rfl, ?_⟩
      show leN _ _ _
      have hle : (Ieee.signed s m (i - min i j).toNat + Ieee.signed t n (j - min i j).toNat).natAbs ≤ m <<< (i - min i j).toNat + n <<< (j - min i j).toNat := by
        have := Int.natAbs_add_le (Ieee.signed s m (i - min i j).toNat) (Ieee.signed t n (j - min i j).toNat)
        rw [signed_natAbs, signed_natAbs] at this
        exact this
      generalize (Ieee.signed s m (i - min i j).toNat + Ieee.signed t n (j - min i j).toNat).natAbs = g at hle
      generalize hK : (-i).toNat + (-j).toNat + (-E).toNat + (-F).toNat = K
      refine leN_of K (by omega) (by omega) ?_
      have k1 := hd K (by omega) (by omega)
      have k2 := he K (by omega) (by omega)
      rw [Nat.shiftLeft_eq, Nat.shiftLeft_eq] at hle
      have e1 : (i - min i j).toNat + (min i j + K).toNat = (i + K).toNat := by omega
      have e2 : (j - min i j).toNat + (min i j + K).toNat = (j + K).toNat := by omega
      calc g * 2 ^ (min i j + K).toNat ≤ (m * 2 ^ (i - min i j).toNat + n * 2 ^ (j - min i j).toNat) * 2 ^ (min i j + K).toNat := Nat.mul_le_mul_right _ hle
        _ = m * 2 ^ (i + K).toNat + n * 2 ^ (j + K).toNat := by rw [Nat.add_mul, Nat.mul_assoc, Nat.mul_assoc, ← Nat.pow_add, ← Nat.pow_add, e1, e2]
        _ ≤ 2 ^ (E + K).toNat + 2 ^ (F + K).toNat := Nat.add_le_add k1 k2
        _ ≤ 2 ^ (max E F + K).toNat + 2 ^ (max E F + K).toNat := Nat.add_le_add (Nat.pow_le_pow_right (by omega) (by omega)) (Nat.pow_le_pow_right (by omega) (by omega))
        _ = 2 ^ ((max E F + K).toNat + 1) := by rw [Nat.pow_succ]; omega
        _ = _ := by congr 1; omega
    | infinity => exact he.elim
    | nan => exact he.elim
  | infinity => exact hd.elim
  | nan => exact hd.elim

theorem vadd_le {k : FloatKind} {E F : Int} {a b : Option Nat} (ha : VLe k E a) (hb : VLe k F b) (h : Norm k (max E F + 1)) : VLe k (max E F + 1) (vop .add k a b) := by
  obtain ⟨x, rfl, hx⟩ := ha
  obtain ⟨y, rfl, hy⟩ := hb
  obtain ⟨r, hr, hb⟩ := sum_le hx hy
  show VLe k _ ((((k.decode x).sum (k.decode y)).map k.format.write))
  rw [hr]
  exact ⟨_, rfl, write_le hb h⟩
theorem vsub_le {k : FloatKind} {E F : Int} {a b : Option Nat} (ha : VLe k E a) (hb : VLe k F b) (h : Norm k (max E F + 1)) : VLe k (max E F + 1) (vop .sub k a b) := by
  obtain ⟨x, rfl, hx⟩ := ha
  obtain ⟨y, rfl, hy⟩ := hb
  obtain ⟨r, hr, hb⟩ := sum_le hx hy.opposite
  show VLe k _ ((((k.decode x).sum (k.decode y).opposite).map k.format.write))
  rw [hr]
  exact ⟨_, rfl, write_le hb h⟩

theorem quotient_log {c : Nat} {x y : Ieee.Datum} {E F : Int} (hx : Bd E x) (hy : Lo F y) : ∃ r, x.quotient c y = some r ∧ Bd (E - F) r := by
  cases x with
  | number s m i =>
    cases y with
    | number t n j =>
      simp only [Bd] at hx
      simp only [Lo] at hy
      obtain ⟨hn, hF⟩ := hy
      simp only [Ieee.Datum.quotient, if_neg hn]
      generalize hmo : c + n.log2 - m.log2 = more
      refine ⟨_, rfl, ?_⟩
      simp only [Bd]
      rcases hx with rfl | hx
      · left; simp
      · have h1 : m <<< more < 2 ^ (m.log2 + 1 + more) := log2_shl_lt (by omega)
        have h2 : 2 ^ n.log2 ≤ n := Nat.log2_self_le hn
        have h3 : m <<< more / n < 2 ^ (m.log2 + 1 + more - n.log2) ∨ m <<< more / n = 0 := by
          by_cases hlt : n.log2 ≤ m.log2 + 1 + more
          · left
            rw [Nat.div_lt_iff_lt_mul (by omega)]
            calc m <<< more < 2 ^ (m.log2 + 1 + more) := h1
              _ = 2 ^ (m.log2 + 1 + more - n.log2) * 2 ^ n.log2 := by rw [← Nat.pow_add]; congr 1; omega
              _ ≤ _ := Nat.mul_le_mul_left _ h2
          · right
            exact Nat.div_eq_of_lt (Nat.lt_of_lt_of_le h1 (Nat.le_trans (Nat.pow_le_pow_right (by omega) (by omega)) h2))
        have hb : (m <<< more % n != 0).toNat ≤ 1 := by cases (m <<< more % n != 0) <;> simp
        have h4 : 2 * (m <<< more / n) + (m <<< more % n != 0).toNat < 2 ^ (m.log2 + 1 + more - n.log2 + 1) := by
          rw [Nat.pow_succ]
          have := Nat.two_pow_pos (m.log2 + 1 + more - n.log2)
          omega
        generalize 2 * (m <<< more / n) + (m <<< more % n != 0).toNat = g at h4
        by_cases hg : g = 0
        · exact .inl hg
        · right
          have := (Nat.log2_lt hg).2 h4
          omega
    | infinity => exact hy.elim
    | nan => exact hy.elim
  | infinity => exact hx.elim
  | nan => exact hx.elim

theorem vquo_le {k : FloatKind} {E F : Int} {a b : Option Nat} (ha : VLe k E a) (hl : VL k F b) (h : Norm k (E - F + 1)) : VLe k (E - F + 1) (vop .quo k a b) := by
  obtain ⟨x, rfl, hx⟩ := ha
  obtain ⟨y, rfl, hy⟩ := hl
  obtain ⟨r, hr, hb⟩ := quotient_log (c := k.format.fractionBits + 2) hx.bd hy
  show VLe k _ ((((k.decode x).quotient (k.format.fractionBits + 2) (k.decode y)).map k.format.write))
  rw [hr]
  exact ⟨_, rfl, write_le hb.le h⟩

theorem vsqrt_le {E : Int} {a : Option Nat} (h : VLe .f64 E a) (hE : Norm .f64 (E / 2 + 2)) : vsqrt a = none ∨ VLe .f64 (E / 2 + 2) (vsqrt a) := by
  obtain ⟨x, rfl, hx⟩ := h
  unfold vsqrt Ieee.Format.sqrt
  simp only [Option.bind_some]
  cases hr : ((FloatKind.f64).format.read x).root ((FloatKind.f64).format.fractionBits + 2) with
  | none => exact .inl rfl
  | some r =>
    right
    exact ⟨_, rfl, write_le (k := .f64) ((root_bd hx.bd hr).le.mono (by omega)) hE⟩

theorem vwide_le {E : Int} {a : Option Nat} (h : VLe .f32 E a) (hE : Norm .f64 E) : VLe .f64 E (vwide a) := by
  obtain ⟨b, rfl, hb⟩ := h
  unfold vwide floatToFloatBits
  simp only [Option.bind_some]
  rw [if_neg (by decide)]
  cases hd : (FloatKind.f32).decode b with
  | nan => rw [hd] at hb; exact hb.elim
  | infinity s => rw [hd] at hb; exact hb.elim
  | number s m e =>
    rw [hd] at hb
    have hw := write_le (k := .f64) (d := .number s m e) hb hE
    have hni : ((FloatKind.f64).decode ((FloatKind.f64).encode (.number s m e))).isInfinity = false := by
      unfold FloatKind.encode
      cases hx : (FloatKind.f64).decode ((FloatKind.f64).format.write (.number s m e)) with
      | number => rfl
      | infinity => rw [hx] at hw; exact hw.elim
      | nan => rfl
    simp only [hni, Bool.false_eq_true, if_false]
    exact ⟨_, rfl, hw⟩

/-! ### Integers as 64-bit numbers -/
/-- What a small whole number is written as: itself. -/
theorem read_whole (neg : Bool) (q : Nat) (h0 : q ≠ 0) (h : q.log2 ≤ 52) :
    (FloatKind.f64).decode ((FloatKind.f64).format.nearest neg q 0) = .number neg (q <<< (52 - q.log2)) ((q.log2 : Int) - 52) := by
  have h1 : (FloatKind.f64).format.leastPlace = -1074 := rfl
  have h2 : (FloatKind.f64).format.fractionBits = 52 := rfl
  have h3 : (FloatKind.f64).format.binade = 2 ^ 52 := rfl
  have h4 : (FloatKind.f64).format.infRung = 2047 * 2 ^ 52 := rfl
  have h5 := (FloatKind.f64).format.infRung_lt
  unfold FloatKind.decode
  generalize (FloatKind.f64).format = f at *
  unfold Ieee.Format.nearest
  dsimp only
  rw [if_neg h0, h1, h2]
  have hlast : max (0 + (q.log2 : Int) - (52 : Nat)) (-1074) = (q.log2 : Int) - 52 := by omega
  rw [hlast]
  have e1 : (0 - ((q.log2 : Int) - 52)).toNat = 52 - q.log2 := by omega
  have e2 : (((q.log2 : Int) - 52) - 0).toNat = 0 := by omega
  rw [e1, e2]
  have hlo : 2 ^ 52 ≤ q <<< (52 - q.log2) := by
    rw [Nat.shiftLeft_eq]
    calc 2 ^ 52 = 2 ^ q.log2 * 2 ^ (52 - q.log2) := by rw [← Nat.pow_add]; congr 1; omega
      _ ≤ _ := Nat.mul_le_mul_right _ (Nat.log2_self_le h0)
  have hhi : q <<< (52 - q.log2) < 2 ^ 53 := log2_shl_lt (by omega)
  generalize q <<< (52 - q.log2) = K at *
  have hcut : Ieee.Toward.even.cut neg K 0 = K :=
    Nat.le_antisymm (cut_even_le neg K 0 K (by omega)) (cut_even_ge neg K 0 K (by omega))
  rw [hcut, h3]
  generalize hp : ((q.log2 : Int) - 52 - -1074).toNat = p
  have hr : p * 2 ^ 52 + K < f.infRung := by rw [h4]; omega
  rw [Nat.min_eq_left (Nat.le_of_lt hr), read_word f neg _ (Nat.lt_trans hr h5), h3, if_neg (by omega), if_pos hr, h1]
  have hm : (p * 2 ^ 52 + K) % 2 ^ 52 = K - 2 ^ 52 := by omega
  have hd : (p * 2 ^ 52 + K) / 2 ^ 52 = p + 1 := by omega
  have h6 : 2 ^ 52 + (K - 2 ^ 52) = K := by omega
  have h7 : (-1074 : Int) + ((p + 1 - 1 : Nat) : Int) = (q.log2 : Int) - 52 := by omega
  rw [hm, hd, h6, h7]

/-- A datum is a number nearer to 0 than 2 ^ 52. -/
def smallD : Ieee.Datum → Bool
  | .number _ m i => decide (m <<< (i - min i 0).toNat < 2 ^ 52 <<< (0 - min i 0).toNat)
  | _ => false

/-- What is left of a number when its places behind the point are cut off. -/
def floorD : Ieee.Datum → Nat
  | .number s m i => Ieee.Toward.zero.cut s (m <<< i.toNat) (-i).toNat
  | _ => 0

theorem cut_zero (s : Bool) (n drop : Nat) : Ieee.Toward.zero.cut s n drop = n / 2 ^ drop := by
  unfold Ieee.Toward.cut
  simp only [Nat.shiftLeft_eq, Nat.one_mul]
  by_cases hl : drop ≤ n.log2 + 2
  · rw [Nat.min_eq_left hl]; simp
  · rw [Nat.min_eq_right (by omega)]
    have h1 := log2_lt n
    have h2 : n < 2 ^ (n.log2 + 2) := Nat.lt_of_lt_of_le h1 (Nat.pow_le_pow_right (by omega) (by omega))
    have h3 : n < 2 ^ drop := Nat.lt_of_lt_of_le h2 (Nat.pow_le_pow_right (by omega) (by omega))
    rw [Nat.div_eq_of_lt h2, Nat.div_eq_of_lt h3]; simp

/-- The floor lies just below the number, both scaled alike. -/
theorem floor_spec (m : Nat) (i : Int) (K : Nat) (hK : 0 ≤ i + K) :
    (m <<< i.toNat / 2 ^ (-i).toNat) * 2 ^ K ≤ m * 2 ^ (i + K).toNat ∧ m * 2 ^ (i + K).toNat < (m <<< i.toNat / 2 ^ (-i).toNat + 1) * 2 ^ K := by
  rw [Nat.shiftLeft_eq]
  by_cases hi : 0 ≤ i
  · have e : (-i).toNat = 0 := by omega
    have e2 : (i + K).toNat = i.toNat + K := by omega
    rw [e, e2, Nat.pow_zero, Nat.div_one, Nat.pow_add, ← Nat.mul_assoc]
    refine ⟨Nat.le_refl _, Nat.mul_lt_mul_of_pos_right (by omega) (Nat.two_pow_pos _)⟩
  · have e : i.toNat = 0 := by omega
    rw [e, Nat.pow_zero, Nat.mul_one]
    have e2 : K = (-i).toNat + (i + K).toNat := by omega
    have hp := Nat.two_pow_pos (-i).toNat
    have h1 : m / 2 ^ (-i).toNat * 2 ^ (-i).toNat ≤ m := Nat.div_mul_le_self m _
    have h2 : m < (m / 2 ^ (-i).toNat + 1) * 2 ^ (-i).toNat := by
      have := Nat.lt_div_mul_add (a := m) hp
      rw [Nat.add_mul, Nat.one_mul]; omega
    have hp2 := Nat.two_pow_pos (i + K).toNat
    generalize (i + (K : Int)).toNat = c at *
    rw [e2, Nat.pow_add, ← Nat.mul_assoc, ← Nat.mul_assoc]
    exact ⟨Nat.mul_le_mul_right _ h1, Nat.mul_lt_mul_of_pos_right h2 hp2⟩

theorem small_floor {s : Bool} {m : Nat} {i : Int} (h : smallD (.number s m i) = true) : m <<< i.toNat / 2 ^ (-i).toNat < 2 ^ 52 := by
  have h := of_decide_eq_true h
  rw [Nat.shiftLeft_eq, Nat.shiftLeft_eq] at h
  obtain ⟨h1, _⟩ := floor_spec m i (0 - min i 0).toNat (by omega)
  have e : (i + ((0 - min i 0).toNat : Int)).toNat = (i - min i 0).toNat := by omega
  rw [e] at h1
  exact Nat.lt_of_mul_lt_mul_right (Nat.lt_of_le_of_lt h1 h)

def truncI (y : Nat) : Int := (((FloatKind.f64).decode y).toInt .zero).getD 0

theorem trunc_small {y : Nat} (h : smallD ((FloatKind.f64).decode y) = true) : floatToIntVal .f64 y .i64 = some (truncI y) := by
  cases hd : (FloatKind.f64).decode y with
  | number s m i =>
    rw [hd] at h
    have hf := small_floor h
    have e : ((Ieee.Datum.number s m i).toInt .zero) = some (Ieee.signed s (m <<< i.toNat / 2 ^ (-i).toNat) 0) := by
      unfold Ieee.Datum.toInt Ieee.Datum.integral
      simp only [cut_zero]
    unfold floatToIntVal truncI
    rw [hd, e]
    generalize m <<< i.toNat / 2 ^ (-i).toNat = q at hf
    have hs := signed_natAbs s q 0
    rw [Nat.shiftLeft_zero] at hs
    simp only [Option.getD_some]
    rw [if_pos]
    have h1 : IntKind.i64.min = -9223372036854775808 := rfl
    have h2 : IntKind.i64.max = 9223372036854775807 := rfl
    rw [h1, h2]
    omega
  | infinity s => rw [hd] at h; cases h
  | nan s t => rw [hd] at h; cases h

/-- What some turns are, less whole ones. -/
def restF (y : Nat) : Option Nat := vop .sub .f64 (some y) (some (floatOfInt .f64 (truncI y)))

theorem cls_int (k : FloatKind) (n : Int) : cls k (floatOfInt k n) = some (floatOfInt k n) := cls_of_not (write_notNaN k.format (.number (n < 0) n.natAbs 0) rfl)

theorem signed_zero (s : Bool) (u : Nat) : Ieee.signed s 0 u = 0 := by
  unfold Ieee.signed; cases s <;> simp

theorem restF_le {y : Nat} (h : smallD ((FloatKind.f64).decode y) = true) : VLe .f64 0 (restF y) := by
  have hN : Norm .f64 0 := ⟨by decide, by decide⟩
  show VLe .f64 0 (((((FloatKind.f64).decode y).sum ((FloatKind.f64).decode (floatOfInt .f64 (truncI y))).opposite).map (FloatKind.f64).format.write))
  cases hd : (FloatKind.f64).decode y with
  | number s m i =>
    rw [hd] at h
    have hf := small_floor h
    have hq : truncI y = Ieee.signed s (m <<< i.toNat / 2 ^ (-i).toNat) 0 := by
      unfold truncI
      rw [hd]
      unfold Ieee.Datum.toInt Ieee.Datum.integral
      simp only [cut_zero, Option.getD_some]
    have hsp := fun K hK => floor_spec m i K hK
    generalize m <<< i.toNat / 2 ^ (-i).toNat = q at *
    have hs := signed_natAbs s q 0
    rw [Nat.shiftLeft_zero, ← hq] at hs
    -- the floor, written
    have hw : ∃ t n j, (FloatKind.f64).decode (floatOfInt .f64 (truncI y)) = .number t n j ∧ (q = 0 → n = 0) ∧ (q ≠ 0 → t = s) ∧ j ≤ 0 ∧ ∀ K : Nat, 0 ≤ j + K → n * 2 ^ (j + K).toNat = q * 2 ^ K := by
      by_cases h0 : q = 0
      · have hz : truncI y = 0 := by omega
        rw [hz]
        refine ⟨false, 0, -1074, by decide +kernel, fun _ => rfl, fun h => absurd h0 h, by omega, fun K _ => by rw [h0]; simp⟩
      · have hl : q.log2 ≤ 52 := by
          have := (Nat.log2_lt h0).2 hf; omega
        have hneg : decide (truncI y < 0) = s := by
          rw [hq]
          unfold Ieee.signed
          rw [Nat.shiftLeft_zero]
          cases s
          · simp
          · simp; omega
        refine ⟨s, q <<< (52 - q.log2), (q.log2 : Int) - 52, ?_, fun h => absurd h h0, fun _ => rfl, ?_, ?_⟩
        · show (FloatKind.f64).decode ((FloatKind.f64).format.nearest (decide (truncI y < 0)) (truncI y).natAbs 0) = _
          rw [hneg, hs]
          exact read_whole s q h0 hl
        · omega
        · intro K hK
          rw [Nat.shiftLeft_eq, Nat.mul_assoc, ← Nat.pow_add]
          congr 2
          omega
    obtain ⟨t, n, j, hw, hz, ht, hj, hn⟩ := hw
    rw [hw]
    refine ⟨_, rfl, write_le (d := .number _ _ (min i j)) ?_ hN⟩
    show leN 0 _ _
    obtain ⟨K, hKi, hKj⟩ : ∃ K : Nat, 0 ≤ i + K ∧ 0 ≤ j + K := ⟨(-i).toNat + (-j).toNat, by omega, by omega⟩
    refine leN_of K (by omega) (by omega) ?_
    obtain ⟨h1, h2⟩ := hsp K hKi
    have hn := hn K hKj
    rw [← hn] at h1
    rw [Nat.add_mul, ← hn, Nat.one_mul] at h2
    have e1 : (i - min i j).toNat + (min i j + K).toNat = (i + K).toNat := by omega
    have e2 : (j - min i j).toNat + (min i j + K).toNat = (j + K).toNat := by omega
    have e3 : ((0 : Int) + K).toNat = K := by omega
    rw [← e1, ← e2, Nat.pow_add, Nat.pow_add, ← Nat.mul_assoc, ← Nat.mul_assoc] at h2
    rw [← e1, ← e2, Nat.pow_add, Nat.pow_add, ← Nat.mul_assoc, ← Nat.mul_assoc] at h1
    rw [e3]
    have hp := Nat.two_pow_pos (min i j + (K : Int)).toNat
    have hle := Nat.le_of_mul_le_mul_right h1 hp
    have hA : (Ieee.signed s m (i - min i j).toNat + Ieee.signed (!t) n (j - min i j).toNat).natAbs = m * 2 ^ (i - min i j).toNat - n * 2 ^ (j - min i j).toNat := by
      by_cases h0 : q = 0
      · rw [hz h0, signed_zero, Int.add_zero, signed_natAbs, Nat.shiftLeft_eq]; simp
      · rw [ht h0]
        unfold Ieee.signed
        rw [Nat.shiftLeft_eq, Nat.shiftLeft_eq]
        generalize m * 2 ^ (i - min i j).toNat = a at *
        generalize n * 2 ^ (j - min i j).toNat = b at *
        cases s <;> simp <;> omega
    show (Ieee.signed s m (i - min i j).toNat + Ieee.signed (!t) n (j - min i j).toNat).natAbs * _ ≤ _
    rw [hA, Nat.sub_mul]
    omega
  | infinity s => rw [hd] at h; cases h
  | nan s t => rw [hd] at h; cases h

/-! ### What is finite -/
def finD : Ieee.Datum → Bool
  | .number .. => true
  | _ => false

def absD : Ieee.Datum → Ieee.Datum
  | .number _ m i => .number false m i
  | .infinity _ => .infinity false
  | .nan _ t => .nan false t

theorem decode_abs (x : Nat) : (FloatKind.f64).decode (x % 2 ^ 63) = absD ((FloatKind.f64).decode x) := by
  unfold FloatKind.decode Ieee.Format.read
  have h1 : (FloatKind.f64).format.signWeight = 2 ^ 63 := rfl
  rw [h1]
  have h2 : x % 2 ^ 63 / 2 ^ 63 % 2 = 0 := by omega
  have h3 : x % 2 ^ 63 % 2 ^ 63 = x % 2 ^ 63 := by omega
  dsimp only
  rw [h2, h3]
  split
  · rfl
  · split
    · rfl
    · split <;> rfl

theorem num64 {x : Nat} {s : Bool} {m : Nat} {i : Int} (h : (FloatKind.f64).decode x = .number s m i) : m < 2 ^ 53 ∧ -1074 ≤ i ∧ i ≤ 971 := by
  unfold FloatKind.decode FloatKind.format Ieee.Format.read at h
  dsimp only at h
  have h1 : Ieee.double.binade = 2 ^ 52 := rfl
  have h2 : Ieee.double.infRung = 2047 * 2 ^ 52 := rfl
  have h3 : Ieee.double.leastPlace = -1074 := rfl
  generalize x % Ieee.double.signWeight = r at h
  rw [h1, h2, h3] at h
  split at h
  · injection h with _ hm he
    subst hm he
    omega
  · split at h
    · injection h with _ hm he
      subst hm he
      omega
    · split at h <;> cases h

theorem dec_max : (FloatKind.f64).decode 9218868437227405311 = .number false (2 ^ 53 - 1) 971 := by decide +kernel

/-- 'math.IsInf' of an absolute value. -/
theorem order_max (x : Nat) : ((FloatKind.f64).format.order (x % 2 ^ 63) 9218868437227405311 == some .gt) = (match (FloatKind.f64).decode x with | .infinity _ => true | _ => false) := by
  have h1 := decode_abs x
  have h2 := dec_max
  unfold FloatKind.decode at h1 h2
  unfold Ieee.Format.order
  rw [h1, h2]
  unfold FloatKind.decode
  cases hd : (FloatKind.f64).format.read x with
  | number s m i =>
    have hn := num64 (x := x) hd
    unfold absD Ieee.Datum.order
    have hb : min i 971 = i := by omega
    simp only [hb]
    rw [Int.sub_self]
    have hle : Ieee.signed false m (0 : Int).toNat ≤ Ieee.signed false (2 ^ 53 - 1) (971 - i).toNat := by
      unfold Ieee.signed
      simp only [Bool.false_eq_true, if_false, Int.toNat_zero, Nat.shiftLeft_eq]
      have h1 : (2 ^ 53 - 1) * 1 ≤ (2 ^ 53 - 1) * 2 ^ (971 - i).toNat := Nat.mul_le_mul_left _ (Nat.two_pow_pos _)
      exact Int.ofNat_le.2 (by omega)
    generalize Ieee.signed false m (0 : Int).toNat = a at *
    generalize Ieee.signed false (2 ^ 53 - 1) (971 - i).toNat = b at *
    have : compare a b ≠ .gt := by
      intro h
      rw [Int.compare_eq_gt] at h
      omega
    simp [this]
  | infinity s => rfl
  | nan s t => rfl

/-- A finite number less itself is +0; another one has no difference from itself. -/
theorem sub_self_bits (k : FloatKind) (x : Nat) (w : World) : (k.format.order (fres .sub k x x w) 0 == some .eq) = finD (k.decode x) := by
  have h0 : cls k 0 = some 0 := by cases k <;> decide +kernel
  rw [order_cls, fres_cls, h0, vop_cls]
  have hsum : floatBits .sub k x x = ((k.decode x).sum (k.decode x).opposite).map k.format.write := rfl
  rw [hsum]
  cases hd : k.decode x with
  | number s m i =>
    have e : (Ieee.Datum.number s m i).sum (Ieee.Datum.number s m i).opposite = some (.number false 0 i) := by
      unfold Ieee.Datum.opposite Ieee.Datum.sum
      have hz : Ieee.signed s m (i - min i i).toNat + Ieee.signed (!s) m (i - min i i).toNat = 0 := by
        unfold Ieee.signed; cases s <;> simp <;> omega
      simp only [hz, if_true]
      cases s <;> simp
    rw [e]
    have hw : k.format.write (.number false 0 i) = 0 := by
      unfold Ieee.Format.write Ieee.Format.nearest
      simp [Ieee.Format.word]
    simp only [Option.map_some, hw]
    show _ = true
    cases k <;> decide +kernel
  | infinity s =>
    have e : (Ieee.Datum.infinity s).sum (Ieee.Datum.infinity s).opposite = none := by
      unfold Ieee.Datum.opposite Ieee.Datum.sum; cases s <;> rfl
    rw [e]; rfl
  | nan s t => rfl

/-- The tests of what lies nearer to 0 than 2 ^ 52. -/
theorem dec_c52 : (FloatKind.f64).decode 4841369599423283200 = .number false (2 ^ 52) 0 := by decide +kernel
theorem dec_m52 : (FloatKind.f64).decode 14064741636278059008 = .number true (2 ^ 52) 0 := by decide +kernel

theorem order_num {x y : Nat} {s t : Bool} {m n : Nat} {i j : Int} (hx : (FloatKind.f64).decode x = .number s m i) (hy : (FloatKind.f64).decode y = .number t n j) :
    (FloatKind.f64).format.order x y = some (compare (Ieee.signed s m (i - min i j).toNat) (Ieee.signed t n (j - min i j).toNat)) := by
  unfold FloatKind.decode at hx hy
  unfold Ieee.Format.order
  rw [hx, hy]
  rfl

def geB (k : FloatKind) (x y : Nat) : Bool := k.format.order x y == some .gt || k.format.order x y == some .eq
def leB (k : FloatKind) (x y : Nat) : Bool := k.format.order x y == some .lt || k.format.order x y == some .eq

theorem cmp_ge {a b : Int} : (some (compare a b) == some Ordering.gt || some (compare a b) == some Ordering.eq) = decide (b ≤ a) := by
  rcases Int.lt_trichotomy a b with h | h | h
  · have : compare a b = .lt := Int.compare_eq_lt.2 h
    rw [this, decide_eq_false (by omega)]; rfl
  · subst h
    have : compare a a = .eq := Int.compare_eq_eq.2 rfl
    rw [this, decide_eq_true (by omega)]; rfl
  · have : compare a b = .gt := Int.compare_eq_gt.2 h
    rw [this, decide_eq_true (by omega)]; rfl
theorem cmp_le {a b : Int} : (some (compare a b) == some Ordering.lt || some (compare a b) == some Ordering.eq) = decide (a ≤ b) := by
  rcases Int.lt_trichotomy a b with h | h | h
  · have : compare a b = .lt := Int.compare_eq_lt.2 h
    rw [this, decide_eq_true (by omega)]; rfl
  · subst h
    have : compare a a = .eq := Int.compare_eq_eq.2 rfl
    rw [this, decide_eq_true (by omega)]; rfl
  · have : compare a b = .gt := Int.compare_eq_gt.2 h
    rw [this, decide_eq_false (by omega)]; rfl

theorem abs_ge {x : Nat} (h : finD ((FloatKind.f64).decode x) = true) : geB .f64 (x % 2 ^ 63) 4841369599423283200 = !smallD ((FloatKind.f64).decode x) := by
  cases hd : (FloatKind.f64).decode x with
  | number s m i =>
    have h1 := decode_abs x
    rw [hd] at h1
    unfold geB
    rw [order_num h1 dec_c52, cmp_ge]
    unfold smallD Ieee.signed
    simp only [Bool.false_eq_true, if_false]
    rw [← decide_not]
    exact decide_eq_decide.2 (by rw [Int.ofNat_le]; omega)
  | infinity s => rw [hd] at h; cases h
  | nan s t => rw [hd] at h; cases h

theorem both_ge {x : Nat} (h : finD ((FloatKind.f64).decode x) = true) : (geB .f64 x 4841369599423283200 || leB .f64 x 14064741636278059008) = !smallD ((FloatKind.f64).decode x) := by
  cases hd : (FloatKind.f64).decode x with
  | number s m i =>
    unfold geB leB
    rw [order_num hd dec_c52, order_num hd dec_m52, cmp_ge, cmp_le]
    unfold smallD Ieee.signed
    simp only [Bool.false_eq_true, if_false, if_true]
    rw [← decide_not]
    have hp : 0 < 2 ^ 52 <<< (0 - min i 0).toNat := by rw [Nat.shiftLeft_eq]; exact Nat.mul_pos (by omega) (Nat.two_pow_pos _)
    generalize 2 ^ 52 <<< (0 - min i 0).toNat = c at *
    generalize m <<< (i - min i 0).toNat = a at *
    rw [← Bool.decide_or]
    refine decide_eq_decide.2 ?_
    cases s <;> simp <;> omega
  | infinity s => rw [hd] at h; cases h
  | nan s t => rw [hd] at h; cases h
end Go.Proofs.YthkabonnclfhmaaDoor.Flo
