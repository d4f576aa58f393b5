
/- Logarithms: the plain side. -/
import Derived.Test.YthkabonnclfhmaaDoorFls
namespace Go.Proofs.YthkabonnclfhmaaDoor
open Go.Proofs.YthkabonnclfhmaaDoor.Flo Go.RowKit

theorem log2_shl_eq (q t : Nat) (h : q ≠ 0) : (q <<< t).log2 = q.log2 + t := by
  have h1 := log2_shl q t h
  have h2 : 2 ^ (q.log2 + t) ≤ q <<< t := by
    rw [Nat.shiftLeft_eq, Nat.pow_add]; exact Nat.mul_le_mul_right _ (Nat.log2_self_le h)
  have h0 : q <<< t ≠ 0 := by have := Nat.two_pow_pos (q.log2 + t); omega
  have h3 := (Nat.le_log2 h0).2 h2
  omega

/-- What has at most 53 digits is written as it is. -/
theorem exact64 (neg : Bool) (q t : Nat) (place : Int) (h0 : q ≠ 0) (h : q.log2 ≤ 52) (hlo : -1074 ≤ place + t + q.log2 - 52) (hhi : place + t + q.log2 ≤ 1023) :
    (FloatKind.f64).decode ((FloatKind.f64).format.nearest neg (q <<< t) place) = .number neg (q <<< (52 - q.log2)) (place + t + q.log2 - 52) := by
  have h1 : (FloatKind.f64).format.leastPlace = -1074 := rfl
  have h2 : (FloatKind.f64).format.fractionBits = 52 := rfl
  have h3 : (FloatKind.f64).format.binade = 2 ^ 52 := rfl
  have h4 : (FloatKind.f64).format.infRung = 2047 * 2 ^ 52 := rfl
  have h5 := (FloatKind.f64).format.infRung_lt
  unfold FloatKind.decode
  generalize (FloatKind.f64).format = f at *
  unfold Ieee.Format.nearest
  dsimp only
  have hne : q <<< t ≠ 0 := by rw [Nat.shiftLeft_eq]; exact Nat.mul_ne_zero h0 (by have := Nat.two_pow_pos t; omega)
  rw [if_neg hne, h1, h2, log2_shl_eq q t h0]
  have hlast : max (place + ((q.log2 + t : Nat) : Int) - (52 : Nat)) (-1074) = place + t + q.log2 - 52 := by omega
  rw [hlast]
  generalize hL : place + t + q.log2 - 52 = last
  have hlo2 : 2 ^ 52 ≤ q <<< (52 - q.log2) := by
    rw [Nat.shiftLeft_eq]
    calc 2 ^ 52 = 2 ^ q.log2 * 2 ^ (52 - q.log2) := by rw [← Nat.pow_add]; congr 1; omega
      _ ≤ _ := Nat.mul_le_mul_right _ (Nat.log2_self_le h0)
  have hhi2 : q <<< (52 - q.log2) < 2 ^ 53 := log2_shl_lt (by omega)
  have heq : q <<< t <<< (place - last).toNat = q <<< (52 - q.log2) * 2 ^ (last - place).toNat := by
    rw [Nat.shiftLeft_eq, Nat.shiftLeft_eq, Nat.shiftLeft_eq, Nat.mul_assoc, Nat.mul_assoc, ← Nat.pow_add, ← Nat.pow_add]
    congr 2
    omega
  generalize q <<< (52 - q.log2) = K at *
  have hcut : Ieee.Toward.even.cut neg (q <<< t <<< (place - last).toNat) (last - place).toNat = K :=
    Nat.le_antisymm (cut_even_le neg _ _ K (Nat.le_of_eq heq)) (cut_even_ge neg _ _ K (Nat.le_of_eq heq.symm))
  rw [hcut, h3]
  generalize hp : (last - -1074).toNat = p
  have hp2 : p ≤ 2045 := by omega
  have hr : p * 2 ^ 52 + K < f.infRung := by rw [h4]; omega
  rw [Nat.min_eq_left (Nat.le_of_lt hr), read_word f neg _ (Nat.lt_trans hr h5), h3, if_neg (by omega), if_pos hr, h1]
  have hm : (p * 2 ^ 52 + K) % 2 ^ 52 = K - 2 ^ 52 := by omega
  have hd : (p * 2 ^ 52 + K) / 2 ^ 52 = p + 1 := by omega
  have h6 : 2 ^ 52 + (K - 2 ^ 52) = K := by omega
  have h7 : (-1074 : Int) + ((p + 1 - 1 : Nat) : Int) = last := by omega
  rw [hm, hd, h6, h7]

/-- A number above 0 whose leading digit is at the place E. -/
def PosE (x : Nat) (E : Int) : Prop := ∃ m i, (FloatKind.f64).decode x = .number false m i ∧ m ≠ 0 ∧ m.log2 ≤ 52 ∧ (m.log2 : Int) + i = E

def c2 : Nat := 4611686018427387904
def c15 : Nat := 4609434218613702656
def c075 : Nat := 4604930618986332160
def cln2 : Nat := 4604418534313441775
theorem dec_c2 : (FloatKind.f64).decode c2 = .number false (2 ^ 52) (-51) := by decide +kernel
theorem dec_c15 : (FloatKind.f64).decode c15 = .number false (3 * 2 ^ 51) (-52) := by decide +kernel
theorem dec_c075 : (FloatKind.f64).decode c075 = .number false (3 * 2 ^ 51) (-53) := by decide +kernel
theorem cls_c2 : cls .f64 c2 = some c2 := by decide +kernel
theorem cls_c15 : cls .f64 c15 = some c15 := by decide +kernel
theorem cls_c075 : cls .f64 c075 = some c075 := by decide +kernel
theorem cls_cln2 : cls .f64 cln2 = some cln2 := by decide +kernel

theorem PosE.mk_of {q : Nat} {place : Int} {t : Nat} (h0 : q ≠ 0) (h : q.log2 ≤ 52) (hlo : -1000 ≤ place + t + q.log2) (hhi : place + t + q.log2 ≤ 1000) :
    PosE ((FloatKind.f64).format.nearest false (q <<< t) place) (place + t + q.log2) := by
  refine ⟨_, _, exact64 false q t place h0 h (by omega) (by omega), ?_, ?_, ?_⟩
  · rw [Nat.shiftLeft_eq]; exact Nat.mul_ne_zero h0 (by have := Nat.two_pow_pos (52 - q.log2); omega)
  · rw [log2_shl_eq _ _ h0]; omega
  · rw [log2_shl_eq _ _ h0]; omega

theorem halve_pos {x : Nat} {E : Int} (h : PosE x E) (hlo : -900 ≤ E) (hhi : E ≤ 900) : ∃ x', vop .quo .f64 (some x) (some c2) = some x' ∧ PosE x' (E - 1) := by
  obtain ⟨m, i, hd, h0, hl, hE⟩ := h
  have hq : ((FloatKind.f64).decode x).quotient ((FloatKind.f64).format.fractionBits + 2) ((FloatKind.f64).decode c2) = some (.number false (m <<< (55 - m.log2)) (i + 51 - (106 - m.log2 : Nat) - 1)) := by
    rw [hd, dec_c2]
    have hf : (FloatKind.f64).format.fractionBits = 52 := rfl
    rw [hf]
    have hlog : (2 ^ 52).log2 = 52 := by decide +kernel
    have hne : ¬ (2 : Nat) ^ 52 = 0 := by decide
    simp only [Ieee.Datum.quotient]
    rw [if_neg hne, hlog]
    have hmore : 52 + 2 + 52 - m.log2 = 106 - m.log2 := by omega
    rw [hmore]
    have hdiv : m <<< (106 - m.log2) = m <<< (54 - m.log2) * 2 ^ 52 := by
      rw [Nat.shiftLeft_eq, Nat.shiftLeft_eq, Nat.mul_assoc, ← Nat.pow_add]; congr 2; omega
    rw [hdiv, Nat.mul_div_cancel _ (by decide), Nat.mul_mod_left]
    have h2 : 2 * m <<< (54 - m.log2) + (0 != 0).toNat = m <<< (55 - m.log2) := by
      have e : 55 - m.log2 = (54 - m.log2) + 1 := by omega
      rw [e, Nat.shiftLeft_eq, Nat.shiftLeft_eq, Nat.pow_succ]
      show 2 * (m * 2 ^ (54 - m.log2)) + 0 = _
      rw [Nat.add_zero, Nat.mul_comm 2, Nat.mul_assoc]
    rw [h2]
    congr 2
  refine ⟨(FloatKind.f64).format.nearest false (m <<< (55 - m.log2)) (i + 51 - (106 - m.log2 : Nat) - 1), ?_, ?_⟩
  · show ((((FloatKind.f64).decode x).quotient ((FloatKind.f64).format.fractionBits + 2) ((FloatKind.f64).decode c2)).map (FloatKind.f64).format.write) = _
    rw [hq]; rfl
  · have := PosE.mk_of (q := m) (t := 55 - m.log2) (place := i + 51 - (106 - m.log2 : Nat) - 1) h0 hl (by omega) (by omega)
    have e : (i + 51 - (106 - m.log2 : Nat) - 1) + ((55 - m.log2 : Nat) : Int) + (m.log2 : Int) = E - 1 := by omega
    rw [e] at this
    exact this

theorem double_pos {x : Nat} {E : Int} (h : PosE x E) (hlo : -900 ≤ E) (hhi : E ≤ 900) : ∃ x', vop .mul .f64 (some x) (some c2) = some x' ∧ PosE x' (E + 1) := by
  obtain ⟨m, i, hd, h0, hl, hE⟩ := h
  have hq : ((FloatKind.f64).decode x).product ((FloatKind.f64).decode c2) = some (.number false (m <<< 52) (i + -51)) := by
    rw [hd, dec_c2, Nat.shiftLeft_eq]; rfl
  refine ⟨(FloatKind.f64).format.nearest false (m <<< 52) (i + -51), ?_, ?_⟩
  · show ((((FloatKind.f64).decode x).product ((FloatKind.f64).decode c2)).map (FloatKind.f64).format.write) = _
    rw [hq]; rfl
  · have := PosE.mk_of (q := m) (t := 52) (place := i + -51) h0 hl (by omega) (by omega)
    have e : (i + -51) + ((52 : Nat) : Int) + (m.log2 : Int) = E + 1 := by omega
    rw [e] at this
    exact this

theorem signed_false (m u : Nat) : Ieee.signed false m u = ((m * 2 ^ u : Nat) : Int) := by
  unfold Ieee.signed; rw [Nat.shiftLeft_eq]; simp

/-- Against 3 * 2 ^ (p + 51): a number of the leading place E. -/
theorem cmp_three {m : Nat} {i p : Int} (h0 : m ≠ 0) :
    (3 * 2 ^ 51 * 2 ^ (p - min i p).toNat ≤ m * 2 ^ (i - min i p).toNat → p + 52 ≤ (m.log2 : Int) + i) ∧ (m * 2 ^ (i - min i p).toNat < 3 * 2 ^ 51 * 2 ^ (p - min i p).toNat → (m.log2 : Int) + i ≤ p + 52) := by
  have h1 := log2_lt m
  have h2 := Nat.log2_self_le h0
  constructor
  · intro h
    have h3 : 2 ^ (52 + (p - min i p).toNat) < 2 ^ (m.log2 + 1 + (i - min i p).toNat) := by
      calc 2 ^ (52 + (p - min i p).toNat) = 2 ^ 52 * 2 ^ (p - min i p).toNat := Nat.pow_add ..
        _ ≤ 3 * 2 ^ 51 * 2 ^ (p - min i p).toNat := Nat.mul_le_mul_right _ (by decide)
        _ ≤ m * 2 ^ (i - min i p).toNat := h
        _ < 2 ^ (m.log2 + 1) * 2 ^ (i - min i p).toNat := Nat.mul_lt_mul_of_pos_right h1 (Nat.two_pow_pos _)
        _ = _ := (Nat.pow_add ..).symm
    have := (Nat.pow_lt_pow_iff_right (by omega : 1 < 2)).1 h3
    omega
  · intro h
    have h3 : 2 ^ (m.log2 + (i - min i p).toNat) < 2 ^ (53 + (p - min i p).toNat) := by
      calc 2 ^ (m.log2 + (i - min i p).toNat) = 2 ^ m.log2 * 2 ^ (i - min i p).toNat := Nat.pow_add ..
        _ ≤ m * 2 ^ (i - min i p).toNat := Nat.mul_le_mul_right _ h2
        _ < 3 * 2 ^ 51 * 2 ^ (p - min i p).toNat := h
        _ ≤ 2 ^ 53 * 2 ^ (p - min i p).toNat := Nat.mul_le_mul_right _ (by decide)
        _ = _ := (Nat.pow_add ..).symm
    have := (Nat.pow_lt_pow_iff_right (by omega : 1 < 2)).1 h3
    omega

theorem ge15 {x : Nat} {E : Int} (h : PosE x E) : (vge (some x) (some c15) = true → 0 ≤ E) ∧ (vge (some x) (some c15) = false → E ≤ 0) := by
  obtain ⟨m, i, hd, h0, hl, hE⟩ := h
  have hc := cmp_three (i := i) (p := -52) h0
  have hv : vge (some x) (some c15) = decide (3 * 2 ^ 51 * 2 ^ (-52 - min i (-52)).toNat ≤ m * 2 ^ (i - min i (-52)).toNat) := by
    show ((FloatKind.f64).format.order x c15 == some .gt || (FloatKind.f64).format.order x c15 == some .eq) = _
    rw [order_num hd dec_c15, cmp_ge, signed_false, signed_false]
    exact decide_eq_decide.2 Int.ofNat_le
  rw [hv]
  constructor
  · intro h; have := hc.1 (of_decide_eq_true h); omega
  · intro h; have := hc.2 (by have := of_decide_eq_false h; omega); omega

theorem cmp_lt {a b : Int} : (some (compare a b) == some Ordering.lt) = decide (a < b) := by
  rcases Int.lt_trichotomy a b with h | h | h
  · have : compare a b = .lt := Int.compare_eq_lt.2 h
    rw [this, decide_eq_true h]; rfl
  · subst h
    have : compare a a = .eq := Int.compare_eq_eq.2 rfl
    rw [this, decide_eq_false (by omega)]; rfl
  · have : compare a b = .gt := Int.compare_eq_gt.2 h
    rw [this, decide_eq_false (by omega)]; rfl

theorem lt075 {x : Nat} {E : Int} (h : PosE x E) : (vlt (some x) (some c075) = true → E ≤ -1) ∧ (vlt (some x) (some c075) = false → -1 ≤ E) := by
  obtain ⟨m, i, hd, h0, hl, hE⟩ := h
  have hc := cmp_three (i := i) (p := -53) h0
  have hv : vlt (some x) (some c075) = decide (m * 2 ^ (i - min i (-53)).toNat < 3 * 2 ^ 51 * 2 ^ (-53 - min i (-53)).toNat) := by
    show ((FloatKind.f64).format.order x c075 == some .lt) = _
    rw [order_num hd dec_c075, cmp_lt, signed_false, signed_false]
    exact decide_eq_decide.2 Int.ofNat_lt
  rw [hv]
  constructor
  · intro h; have := hc.2 (of_decide_eq_true h); omega
  · intro h; have := hc.1 (by have := of_decide_eq_false h; omega); omega

def halveF : Nat → Option Nat → Int → Option Nat × Int
  | 0, a, e => (a, e)
  | n + 1, a, e => if vge a (some c15) then halveF n (vop .quo .f64 a (some c2)) (e + 1) else (a, e)
def doubleF : Nat → Option Nat → Int → Option Nat × Int
  | 0, a, e => (a, e)
  | n + 1, a, e => if vlt a (some c075) then doubleF n (vop .mul .f64 a (some c2)) (e - 1) else (a, e)
theorem halveF_stop {a : Option Nat} (h : vge a (some c15) = false) (n : Nat) (e : Int) : halveF n a e = (a, e) := by
  cases n with
  | zero => rfl
  | succ n => simp [halveF, h]
theorem halveF_go {a : Option Nat} (h : vge a (some c15) = true) (n : Nat) (e : Int) : halveF (n + 1) a e = halveF n (vop .quo .f64 a (some c2)) (e + 1) := by
  simp [halveF, h]
theorem doubleF_stop {a : Option Nat} (h : vlt a (some c075) = false) (n : Nat) (e : Int) : doubleF n a e = (a, e) := by
  cases n with
  | zero => rfl
  | succ n => simp [doubleF, h]
theorem doubleF_go {a : Option Nat} (h : vlt a (some c075) = true) (n : Nat) (e : Int) : doubleF (n + 1) a e = doubleF n (vop .mul .f64 a (some c2)) (e - 1) := by
  simp [doubleF, h]

theorem halveF_spec : ∀ (n : Nat) (x : Nat) (E e : Int), PosE x E → E < n → -200 ≤ E → E ≤ 200 → ∃ x' E', halveF n (some x) e = (some x', E + e - E') ∧ PosE x' E' ∧ E' ≤ 0 ∧ -200 ≤ E' := by
  intro n
  induction n with
  | zero => intro x E e h hn hlo _; exact ⟨x, E, by simp only [halveF]; congr 1; omega, h, by omega, hlo⟩
  | succ n ih =>
    intro x E e h hn hlo hhi
    cases hb : vge (some x) (some c15) with
    | false =>
      have := (ge15 h).2 hb
      exact ⟨x, E, by rw [halveF_stop hb]; congr 1; omega, h, this, hlo⟩
    | true =>
      have hE := (ge15 h).1 hb
      obtain ⟨x', hx', hp⟩ := halve_pos h (by omega) (by omega)
      obtain ⟨x2, E2, h2, hp2, hle, hlo2⟩ := ih x' (E - 1) (e + 1) hp (by omega) (by omega) (by omega)
      refine ⟨x2, E2, ?_, hp2, hle, hlo2⟩
      rw [halveF_go hb, hx', h2]
      congr 1; omega

theorem doubleF_spec : ∀ (n : Nat) (x : Nat) (E e : Int), PosE x E → -E ≤ n → E ≤ 0 → -200 ≤ E → ∃ x' E', doubleF n (some x) e = (some x', E + e - E') ∧ PosE x' E' ∧ E' ≤ 0 ∧ -1 ≤ E' := by
  intro n
  induction n with
  | zero => intro x E e h hn hhi _; exact ⟨x, E, by simp only [doubleF]; congr 1; omega, h, hhi, by omega⟩
  | succ n ih =>
    intro x E e h hn hhi hlo
    cases hb : vlt (some x) (some c075) with
    | false =>
      have := (lt075 h).2 hb
      exact ⟨x, E, by rw [doubleF_stop hb]; congr 1; omega, h, hhi, this⟩
    | true =>
      have hE := (lt075 h).1 hb
      obtain ⟨x', hx', hp⟩ := double_pos h (by omega) (by omega)
      obtain ⟨x2, E2, h2, hp2, hle, hlo2⟩ := ih x' (E + 1) (e - 1) hp (by omega) (by omega) (by omega)
      refine ⟨x2, E2, ?_, hp2, hle, hlo2⟩
      rw [doubleF_go hb, hx', h2]
      congr 1; omega

def stL (u : Option Nat) (k : Int) (q : Option Nat) : Option Nat := vop .add .f64 (vop .quo .f64 (some c1) (some (floatOfInt .f64 k))) (vop .mul .f64 u q)
/-- The series of the logarithm: after the steps 25, 23, .., 27 - 2 j. -/
def serL (u : Option Nat) : Nat → Option Nat
  | 0 => some 0
  | j + 1 => stL u (25 - 2 * (j : Int)) (serL u j)
def sV (a : Option Nat) : Option Nat := vop .quo .f64 (vop .sub .f64 a (some c1)) (vop .add .f64 a (some c1))
def logV (a : Option Nat) (e : Int) : Option Nat :=
  vop .add .f64 (vop .mul .f64 (some c2) (vop .mul .f64 (sV a) (serL (vop .mul .f64 (sV a) (sV a)) 13))) (vop .mul .f64 (some (floatOfInt .f64 e)) (some cln2))
def logT (x : Nat) : Option Nat × Int := doubleF 3000 (halveF 3000 (some x) 0).1 (halveF 3000 (some x) 0).2
/-- The logarithm of a number above 0. -/
def logW (x : Nat) : Option Nat := logV (logT x).1 (logT x).2

theorem PosE.le {x : Nat} {E : Int} (h : PosE x E) : VLe .f64 (E + 1) (some x) := by
  obtain ⟨m, i, hd, h0, hl, hE⟩ := h
  exact ⟨x, rfl, by rw [hd]; exact leN_of_log (.inr (by omega))⟩

/-- ROUNDING KEEPS THE LEADING PLACE FROM BELOW. -/
theorem nearest_lo (neg : Bool) (mag : Nat) (place E F : Int) (h0 : mag ≠ 0) (h : leN E mag place) (hE : Norm .f64 E) (hF : F ≤ (mag.log2 : Int) + place) (hF2 : -1022 ≤ F) :
    Lo F ((FloatKind.f64).decode ((FloatKind.f64).format.nearest neg mag place)) := by
  have hle := (nearest_le .f64 neg mag place E h hE).1
  have h1 : (FloatKind.f64).format.leastPlace = -1074 := rfl
  have h2 : (FloatKind.f64).format.fractionBits = 52 := rfl
  have h3 : (FloatKind.f64).format.binade = 2 ^ 52 := rfl
  have h5 := (FloatKind.f64).format.infRung_lt
  have h6 := read_inf .f64 neg
  unfold FloatKind.decode at hle ⊢
  generalize (FloatKind.f64).format = f at *
  unfold Ieee.Format.nearest at hle ⊢
  dsimp only at hle ⊢
  rw [if_neg h0, h1, h2] at hle ⊢
  have hlast : max (place + (mag.log2 : Int) - (52 : Nat)) (-1074) = place + mag.log2 - 52 := by omega
  rw [hlast] at hle ⊢
  generalize hL : place + (mag.log2 : Int) - 52 = last at hle ⊢
  have hge : 2 ^ 52 ≤ Ieee.Toward.even.cut neg (mag <<< (place - last).toNat) (last - place).toNat := by
    refine cut_even_ge neg _ _ _ ?_
    rw [Nat.shiftLeft_eq, ← Nat.pow_add]
    calc 2 ^ (52 + (last - place).toNat) = 2 ^ (mag.log2 + (place - last).toNat) := by congr 1; omega
      _ = 2 ^ mag.log2 * 2 ^ (place - last).toNat := Nat.pow_add ..
      _ ≤ _ := Nat.mul_le_mul_right _ (Nat.log2_self_le h0)
  generalize Ieee.Toward.even.cut neg (mag <<< (place - last).toNat) (last - place).toNat = K at hle hge ⊢
  rw [h3] at hle ⊢
  generalize hp : (last - -1074).toNat = p at hle ⊢
  by_cases hr : p * 2 ^ 52 + K < f.infRung
  · rw [Nat.min_eq_left (Nat.le_of_lt hr), read_word f neg _ (Nat.lt_trans hr h5), h3, if_neg (by omega), if_pos hr, h1]
    refine ⟨by omega, ?_⟩
    have hm : 2 ^ 52 ≤ 2 ^ 52 + (p * 2 ^ 52 + K) % 2 ^ 52 := Nat.le_add_right _ _
    have hl := (Nat.le_log2 (by omega : 2 ^ 52 + (p * 2 ^ 52 + K) % 2 ^ 52 ≠ 0)).2 hm
    omega
  · rw [Nat.min_eq_right (by omega), h6] at hle
    exact hle.elim

theorem add1_lo {x : Nat} {E : Int} (h : PosE x E) (hE : E ≤ 0) (hE2 : -1 ≤ E) : VL .f64 0 (vop .add .f64 (some x) (some c1)) := by
  obtain ⟨m, i, hd, h0, hl, hEi⟩ := h
  have hs : ((FloatKind.f64).decode x).sum ((FloatKind.f64).decode c1) = some (.number false (m * 2 ^ (i - min i (-52)).toNat + 2 ^ 52 * 2 ^ (-52 - min i (-52)).toNat) (min i (-52))) := by
    rw [hd, dec_c1]
    show some (Ieee.Datum.number _ _ _) = _
    rw [signed_false, signed_false]
    have hpos : 0 < m * 2 ^ (i - min i (-52)).toNat := Nat.mul_pos (by omega) (Nat.two_pow_pos _)
    generalize m * 2 ^ (i - min i (-52)).toNat = a at *
    generalize 2 ^ 52 * 2 ^ (-52 - min i (-52)).toNat = b at *
    have e1 : ¬ ((a : Int) + (b : Int) = 0) := by omega
    have e2 : ((a : Int) + (b : Int)).natAbs = a + b := by omega
    rw [e2]
    congr 2
    rw [if_neg e1]
    exact decide_eq_false (by omega)
  -- the sum is at least 1 and at most 2 ^ 2; its leading digit stays when it is rounded
  generalize hM : m * 2 ^ (i - min i (-52)).toNat + 2 ^ 52 * 2 ^ (-52 - min i (-52)).toNat = M at hs
  have hge : 2 ^ (52 + (-52 - min i (-52)).toNat) ≤ M := by rw [← hM, Nat.pow_add]; omega
  have hM0 : M ≠ 0 := by have := Nat.two_pow_pos (52 + (-52 - min i (-52)).toNat); omega
  have hlog : 52 + (-52 - min i (-52)).toNat ≤ M.log2 := (Nat.le_log2 hM0).2 hge
  refine ⟨_, show vop .add .f64 (some x) (some c1) = some ((FloatKind.f64).format.write (.number false M (min i (-52)))) from ?_, ?_⟩
  · show ((((FloatKind.f64).decode x).sum ((FloatKind.f64).decode c1)).map (FloatKind.f64).format.write) = _
    rw [hs]; rfl
  · have hx : Le 1 ((FloatKind.f64).decode x) := by rw [hd]; exact leN_of_log (.inr (by omega))
    have h1 : Le 0 ((FloatKind.f64).decode c1) := by rw [dec_c1]; exact leN_of 52 (by decide) (by decide) (by decide)
    obtain ⟨r, hr, hle⟩ := sum_le hx h1
    rw [hs] at hr
    cases hr
    exact nearest_lo false M (min i (-52)) 2 0 hM0 hle ⟨by decide, by decide⟩ (by omega) (by decide)

theorem le_c2 : VLe .f64 1 (some c2) := ⟨_, rfl, by rw [dec_c2]; exact leN_of 51 (by decide) (by decide) (by decide)⟩
theorem le_cln2 : VLe .f64 0 (some cln2) := ⟨_, rfl, by rw [show (FloatKind.f64).decode cln2 = .number false 6243314768165359 (-53) by decide +kernel]; exact leN_of 53 (by decide) (by decide) (by decide)⟩

/-- x - 1 of a number of the leading place 0 or less: at most 1. -/
theorem sub1_le {x : Nat} {E : Int} (h : PosE x E) (hE : E ≤ 0) : VLe .f64 0 (vop .sub .f64 (some x) (some c1)) := by
  obtain ⟨m, i, hd, h0, hl, hEi⟩ := h
  show VLe .f64 0 (((((FloatKind.f64).decode x).sum ((FloatKind.f64).decode c1).opposite).map (FloatKind.f64).format.write))
  rw [hd, dec_c1]
  refine ⟨_, rfl, write_le (d := .number _ _ (min i (-52))) ?_ ⟨by decide, by decide⟩⟩
  show leN 0 (Ieee.signed false m (i - min i (-52)).toNat + Ieee.signed true (2 ^ 52) (-52 - min i (-52)).toNat).natAbs (min i (-52))
  have e1 : Ieee.signed true (2 ^ 52) (-52 - min i (-52)).toNat = -((2 ^ 52 * 2 ^ (-52 - min i (-52)).toNat : Nat) : Int) := by
    unfold Ieee.signed; rw [Nat.shiftLeft_eq]; rfl
  rw [e1, signed_false]
  have hm : m * 2 ^ (i - min i (-52)).toNat ≤ 2 * (2 ^ 52 * 2 ^ (-52 - min i (-52)).toNat) := by
    calc m * 2 ^ (i - min i (-52)).toNat ≤ 2 ^ (m.log2 + 1) * 2 ^ (i - min i (-52)).toNat := Nat.mul_le_mul_right _ (Nat.le_of_lt (log2_lt m))
      _ = 2 ^ (m.log2 + 1 + (i - min i (-52)).toNat) := (Nat.pow_add ..).symm
      _ ≤ 2 ^ (1 + (52 + (-52 - min i (-52)).toNat)) := Nat.pow_le_pow_right (by omega) (by omega)
      _ = _ := by rw [Nat.pow_add, Nat.pow_add, Nat.pow_one]
  have hp : 0 < 2 ^ (-52 - min i (-52)).toNat := Nat.two_pow_pos _
  have hc : 2 ^ 52 * 2 ^ (-52 - min i (-52)).toNat = 2 ^ (52 + (-52 - min i (-52)).toNat) := (Nat.pow_add ..).symm
  generalize hC : 2 ^ 52 * 2 ^ (-52 - min i (-52)).toNat = C at *
  generalize m * 2 ^ (i - min i (-52)).toNat = a at *
  have hab : ((a : Int) + -(C : Int)).natAbs ≤ C := by omega
  refine leN_of ((-i).toNat + 52) (by omega) (by omega) ?_
  calc ((a : Int) + -(C : Int)).natAbs * 2 ^ (min i (-52) + ((-i).toNat + 52 : Nat)).toNat ≤ C * 2 ^ (min i (-52) + ((-i).toNat + 52 : Nat)).toNat := Nat.mul_le_mul_right _ hab
    _ = 2 ^ (52 + (-52 - min i (-52)).toNat + (min i (-52) + ((-i).toNat + 52 : Nat)).toNat) := by rw [hc, ← Nat.pow_add]
    _ ≤ _ := Nat.pow_le_pow_right (by omega) (by omega)

theorem sV_le {x : Nat} {E : Int} (h : PosE x E) (hE : E ≤ 0) (hE2 : -1 ≤ E) : VLe .f64 1 (sV (some x)) :=
  vquo_le (E := 0) (F := 0) (sub1_le h hE) (add1_lo h hE hE2) ⟨by decide, by decide⟩

theorem int_lo {n : Nat} (h0 : n ≠ 0) (h : n.log2 ≤ 52) : VL .f64 0 (some (floatOfInt .f64 (n : Int))) := by
  refine ⟨_, rfl, ?_⟩
  have e : floatOfInt .f64 (n : Int) = (FloatKind.f64).format.nearest false n 0 := by
    show (FloatKind.f64).format.nearest (decide ((n : Int) < 0)) (n : Int).natAbs 0 = _
    rw [Int.natAbs_natCast, decide_eq_false (by omega)]
  rw [e, read_whole false n h0 h]
  exact ⟨by rw [Nat.shiftLeft_eq]; exact Nat.mul_ne_zero h0 (by have := Nat.two_pow_pos (52 - n.log2); omega), by rw [log2_shl_eq _ _ h0]; omega⟩

theorem stL_le {u q : Option Nat} {E : Int} {j : Nat} (hu : VLe .f64 2 u) (hq : VLe .f64 E q) (hE0 : 0 ≤ E) (hE : E ≤ 900) (hj : j < 13) : VLe .f64 (E + 3) (stL u (25 - 2 * (j : Int)) q) := by
  have hk : (25 - 2 * (j : Int)) = ((25 - 2 * j : Nat) : Int) := by omega
  have hl : VL .f64 0 (some (floatOfInt .f64 (25 - 2 * (j : Int)))) := by
    rw [hk]
    refine int_lo (by omega) ?_
    have := (Nat.log2_lt (n := 25 - 2 * j) (by omega)).2 (show 25 - 2 * j < 2 ^ 53 by omega)
    omega
  have h1 := vquo_le (E := 0) (F := 0) le_c1 hl ⟨by decide, by decide⟩
  have h2 := vmul_le hu hq (show Norm .f64 (2 + E) from ⟨by omega, by omega⟩)
  exact (vadd_le h1 h2 (show Norm .f64 (max (0 - 0 + 1) (2 + E) + 1) from ⟨by omega, by omega⟩)).mono (by omega)

theorem le_0 : VLe .f64 0 (some 0) := ⟨0, rfl, by rw [show (FloatKind.f64).decode 0 = .number false 0 (-1074) by decide +kernel]; exact leN_of_log (.inl rfl)⟩
theorem serL_le {u : Option Nat} (hu : VLe .f64 2 u) : ∀ j : Nat, j ≤ 13 → VLe .f64 (3 * (j : Int)) (serL u j) := by
  intro j
  induction j with
  | zero => intro _; exact le_0
  | succ j ih =>
    intro hj
    exact (stL_le hu (ih (by omega)) (by omega) (by omega) (by omega)).mono (by omega)

theorem int_le {e : Int} (h1 : -1000 ≤ e) (h2 : e ≤ 1000) : VLe .f64 10 (some (floatOfInt .f64 e)) := by
  refine ⟨_, rfl, ?_⟩
  refine (nearest_le .f64 (decide (e < 0)) e.natAbs 0 10 (leN_of 0 (by decide) (by decide) ?_) ⟨by decide, by decide⟩).1
  show e.natAbs * 2 ^ 0 ≤ 2 ^ 10
  omega

theorem logW_le {x : Nat} {E : Int} (h : PosE x E) (hlo : -200 ≤ E) (hhi : E ≤ 200) : VLe .f64 42 (logW x) := by
  obtain ⟨x1, E1, h1, hp1, hle1, hlo1⟩ := halveF_spec 3000 x E 0 h (by omega) hlo hhi
  obtain ⟨x2, E2, h2, hp2, hle2, hlo2⟩ := doubleF_spec 3000 x1 E1 (E + 0 - E1) hp1 (by omega) hle1 hlo1
  have hT : logT x = (some x2, E1 + (E + 0 - E1) - E2) := by unfold logT; rw [h1]; exact h2
  unfold logW
  rw [hT]
  have hs := sV_le hp2 hle2 hlo2
  have hu := vmul_le hs hs (show Norm .f64 (1 + 1) from ⟨by decide, by decide⟩)
  have hq := serL_le hu 13 (by decide)
  have hsq := vmul_le hs hq (show Norm .f64 (1 + 3 * ((13 : Nat) : Int)) from ⟨by decide, by decide⟩)
  have h2s := vmul_le le_c2 hsq (show Norm .f64 (1 + (1 + 3 * ((13 : Nat) : Int))) from ⟨by decide, by decide⟩)
  have he := vmul_le (int_le (e := E1 + (E + 0 - E1) - E2) (by omega) (by omega)) le_cln2 (show Norm .f64 (10 + 0) from ⟨by decide, by decide⟩)
  exact (vadd_le h2s he (show Norm .f64 _ from ⟨by decide, by decide⟩)).mono (by decide)
end Go.Proofs.YthkabonnclfhmaaDoor
