/- Angles: the plain side. -/
import Derived.Test.YtgdcpohdejbhaacFlr
namespace Go.Proofs.Ytgdcpohdejbhaac
open Go.Proofs.Ytgdcpohdejbhaac.Flo Go.RowKit

def c8 : Nat := 4620693217682128896
theorem cls_c8 : cls .f64 c8 = some c8 := by decide +kernel
theorem le_c8 : VLe .f64 3 (some c8) := ⟨_, rfl, by rw [show (FloatKind.f64).decode c8 = .number false (2 ^ 52) (-49) by decide +kernel]; exact leN_of 49 (by decide) (by decide) (by decide)⟩
theorem lo_c2pi : VL .f64 2 (some c2pi) := ⟨_, rfl, by rw [show (FloatKind.f64).decode c2pi = .number false 7074237752028440 (-50) by decide +kernel]; exact ⟨by decide, by decide +kernel⟩⟩
def stT (t : Option Nat) : Option Nat := vop .quo .f64 t (vop .add .f64 (some c1) (vsqrt (vop .add .f64 (some c1) (vop .mul .f64 t t))))
def itT (t : Option Nat) : Nat → Option Nat
  | 0 => t
  | j + 1 => stT (itT t j)
def stA (u : Option Nat) (k : Int) (p : Option Nat) : Option Nat := vop .sub .f64 (vop .quo .f64 (some c1) (some (floatOfInt .f64 k))) (vop .mul .f64 u p)
def serA (u : Option Nat) : Nat → Option Nat
  | 0 => some 0
  | j + 1 => stA u (15 - 2 * (j : Int)) (serA u j)
def steepV (t : Option Nat) : Option Nat :=
  vop .quo .f64 (vop .mul .f64 (some c8) (vop .mul .f64 (itT t 3) (serA (vop .mul .f64 (itT t 3) (itT t 3)) 8))) (some c2pi)
def angV (over xn yn : Bool) (t : Option Nat) : Option Nat :=
  let a1 := if over then vop .sub .f64 (some c025) (steepV t) else steepV t
  let a2 := if xn then vop .sub .f64 (some c05) a1 else a1
  if yn then a2.map (Op.negFloat .f64) else a2

/-- A number of no sign, at most 2 ^ E. -/
def NNe (E : Int) (a : Option Nat) : Prop := ∃ b m i, a = some b ∧ (FloatKind.f64).decode b = .number false m i ∧ leN E m i
theorem NNe.vle {E : Int} {a : Option Nat} (h : NNe E a) : VLe .f64 E a := by
  obtain ⟨b, m, i, rfl, hd, hl⟩ := h
  exact ⟨b, rfl, by rw [hd]; exact hl⟩
theorem NNe.of_write {E : Int} {mag : Nat} {place : Int} (h : leN E mag place) (hE : Norm .f64 E) : NNe E (some ((FloatKind.f64).format.nearest false mag place)) := by
  have hw := nearest_le .f64 false mag place E h hE
  cases hd : (FloatKind.f64).decode ((FloatKind.f64).format.nearest false mag place) with
  | number s m i =>
    rw [hd] at hw
    obtain ⟨h1, h2⟩ := hw
    have h2 : s = false := h2
    subst h2
    exact ⟨_, m, i, rfl, hd, h1⟩
  | infinity => rw [hd] at hw; exact hw.1.elim
  | nan => rw [hd] at hw; exact hw.1.elim

theorem sq_NNe {E : Int} {t : Option Nat} (h : VLe .f64 E t) (hE : Norm .f64 (E + E)) : NNe (E + E) (vop .mul .f64 t t) := by
  obtain ⟨b, rfl, hl⟩ := h
  cases hd : (FloatKind.f64).decode b with
  | number s m i =>
    rw [hd] at hl
    have e : vop .mul .f64 (some b) (some b) = some ((FloatKind.f64).format.nearest false (m * m) (i + i)) := by
      show ((((FloatKind.f64).decode b).product ((FloatKind.f64).decode b)).map (FloatKind.f64).format.write) = _
      rw [hd]
      show some ((FloatKind.f64).format.nearest (s ^^ s) (m * m) (i + i)) = _
      rw [Bool.xor_self]
    rw [e]
    exact NNe.of_write (leN_mul hl hl) hE
  | infinity => rw [hd] at hl; exact hl.elim
  | nan => rw [hd] at hl; exact hl.elim

theorem one_add {E : Int} {a : Option Nat} (h : NNe E a) (hE0 : 0 ≤ E) (hE : E ≤ 900) : NNe (E + 1) (vop .add .f64 (some c1) a) ∧ VL .f64 0 (vop .add .f64 (some c1) a) := by
  obtain ⟨b, m, i, rfl, hd, hl⟩ := h
  have hs : ((FloatKind.f64).decode c1).sum ((FloatKind.f64).decode b) = some (.number false (2 ^ 52 * 2 ^ (-52 - min (-52) i).toNat + m * 2 ^ (i - min (-52) i).toNat) (min (-52) i)) := by
    rw [hd, dec_c1]
    show some (Ieee.Datum.number _ _ _) = _
    rw [signed_false, signed_false]
    have hpos : 0 < 2 ^ 52 * 2 ^ (-52 - min (-52) i).toNat := Nat.mul_pos (by omega) (Nat.two_pow_pos _)
    generalize m * 2 ^ (i - min (-52) i).toNat = a at *
    generalize 2 ^ 52 * 2 ^ (-52 - min (-52) i).toNat = c at *
    have e1 : ¬ ((c : Int) + (a : Int) = 0) := by omega
    have e2 : ((c : Int) + (a : Int)).natAbs = c + a := by omega
    rw [e2]
    congr 2
    rw [if_neg e1]
    exact decide_eq_false (by omega)
  obtain ⟨r, hr, hle⟩ := sum_le (E := 0) (F := E) (d := (FloatKind.f64).decode c1) (e := (FloatKind.f64).decode b) (by rw [dec_c1]; exact leN_of 52 (by decide) (by decide) (by decide)) (by rw [hd]; exact hl)
  rw [hs] at hr
  cases hr
  have hle : leN (max 0 E + 1) _ _ := hle
  have e : vop .add .f64 (some c1) (some b) = some ((FloatKind.f64).format.nearest false (2 ^ 52 * 2 ^ (-52 - min (-52) i).toNat + m * 2 ^ (i - min (-52) i).toNat) (min (-52) i)) := by
    show ((((FloatKind.f64).decode c1).sum ((FloatKind.f64).decode b)).map (FloatKind.f64).format.write) = _
    rw [hs]; rfl
  have hN : Norm .f64 (E + 1) := ⟨by omega, by omega⟩
  have hle2 := leN_mono hle (show max 0 E + 1 ≤ E + 1 by omega)
  rw [e]
  refine ⟨NNe.of_write hle2 hN, _, rfl, ?_⟩
  generalize hM : 2 ^ 52 * 2 ^ (-52 - min (-52) i).toNat + m * 2 ^ (i - min (-52) i).toNat = M at *
  have hge : 2 ^ (52 + (-52 - min (-52) i).toNat) ≤ M := by rw [← hM, Nat.pow_add]; exact Nat.le_add_right _ _
  have hM0 : M ≠ 0 := by have := Nat.two_pow_pos (52 + (-52 - min (-52) i).toNat); omega
  have hlog : 52 + (-52 - min (-52) i).toNat ≤ M.log2 := (Nat.le_log2 hM0).2 hge
  exact nearest_lo false M (min (-52) i) (E + 1) 0 hM0 hle2 hN (by omega) (by decide)

theorem sqrt_NNe {E : Int} {a : Option Nat} (h : NNe E a) (hl : VL .f64 0 a) (hE0 : 0 ≤ E) (hE : E ≤ 900) : NNe (E + 2) (vsqrt a) := by
  obtain ⟨b, m, i, rfl, hd, hle⟩ := h
  obtain ⟨b', e, hlo⟩ := hl
  cases e
  rw [hd] at hlo
  have hm : m ≠ 0 := hlo.1
  unfold vsqrt Ieee.Format.sqrt
  simp only [Option.bind_some]
  have hd2 : (FloatKind.f64).format.read b = .number false m i := hd
  cases hr : ((FloatKind.f64).format.read b).root ((FloatKind.f64).format.fractionBits + 2) with
  | none =>
    rw [hd2] at hr
    simp [Ieee.Datum.root, hm] at hr
  | some r =>
    have hb := root_bd (d := (FloatKind.f64).format.read b) (E := E) (by rw [hd2]; exact leN_log hle) hr
    rw [hd2] at hr
    simp only [Ieee.Datum.root, if_neg hm, Bool.false_eq_true, if_false] at hr
    cases hr
    have := hb.le.mono (F := E + 2) (by omega)
    exact NNe.of_write this ⟨by omega, by omega⟩

theorem stT_le {E : Int} {t : Option Nat} (h : VLe .f64 E t) (hE0 : 0 ≤ E) (hE : E ≤ 20) : VLe .f64 (E + 1) (stT t) := by
  have h1 := sq_NNe h (show Norm .f64 (E + E) from ⟨by omega, by omega⟩)
  have h2 := one_add h1 (by omega) (by omega)
  have h3 := sqrt_NNe h2.1 h2.2 (by omega) (by omega)
  have h4 := one_add h3 (by omega) (by omega)
  exact (vquo_le h h4.2 (show Norm .f64 (E - 0 + 1) from ⟨by omega, by omega⟩)).mono (by omega)

theorem stA_le {u p : Option Nat} {E : Int} {j : Nat} (hu : VLe .f64 8 u) (hp : VLe .f64 E p) (hE0 : 0 ≤ E) (hE : E ≤ 900) (hj : j < 8) : VLe .f64 (E + 9) (stA u (15 - 2 * (j : Int)) p) := by
  have hk : (15 - 2 * (j : Int)) = ((15 - 2 * j : Nat) : Int) := by omega
  have hl : VL .f64 0 (some (floatOfInt .f64 (15 - 2 * (j : Int)))) := by
    rw [hk]
    refine int_lo (by omega) ?_
    have := (Nat.log2_lt (n := 15 - 2 * j) (by omega)).2 (show 15 - 2 * j < 2 ^ 53 by omega)
    omega
  have h1 := vquo_le (E := 0) (F := 0) le_c1 hl ⟨by decide, by decide⟩
  have h2 := vmul_le hu hp (show Norm .f64 (8 + E) from ⟨by omega, by omega⟩)
  exact (vsub_le h1 h2 (show Norm .f64 (max (0 - 0 + 1) (8 + E) + 1) from ⟨by omega, by omega⟩)).mono (by omega)
theorem serA_le {u : Option Nat} (hu : VLe .f64 8 u) : ∀ j : Nat, j ≤ 8 → VLe .f64 (9 * (j : Int)) (serA u j) := by
  intro j
  induction j with
  | zero => intro _; exact le_0
  | succ j ih =>
    intro hj
    exact (stA_le hu (ih (by omega)) (by omega) (by omega) (by omega)).mono (by omega)
theorem steepV_le {t : Option Nat} (h : VLe .f64 1 t) : VLe .f64 79 (steepV t) := by
  have h1 := stT_le h (by decide) (by decide)
  have h2 := stT_le h1 (by decide) (by decide)
  have h3 : VLe .f64 4 (itT t 3) := stT_le h2 (by decide) (by decide)
  have hu := vmul_le h3 h3 (show Norm .f64 (4 + 4) from ⟨by decide, by decide⟩)
  have hs := serA_le hu 8 (by decide)
  have h4 := vmul_le h3 hs (show Norm .f64 (4 + 9 * ((8 : Nat) : Int)) from ⟨by decide, by decide⟩)
  have h5 := vmul_le le_c8 h4 (show Norm .f64 (3 + (4 + 9 * ((8 : Nat) : Int))) from ⟨by decide, by decide⟩)
  exact (vquo_le h5 lo_c2pi ⟨by decide, by decide⟩).mono (by decide)
theorem angV_le {t : Option Nat} (h : VLe .f64 1 t) (over xn yn : Bool) : VLe .f64 81 (angV over xn yn t) := by
  have h0 := steepV_le h
  have h1 : VLe .f64 80 (if over then vop .sub .f64 (some c025) (steepV t) else steepV t) := ite_le ((vsub_le le_c025 h0 ⟨by decide, by decide⟩).mono (by decide)) (h0.mono (by decide))
  have h2 : VLe .f64 81 (if xn then vop .sub .f64 (some c05) (if over then vop .sub .f64 (some c025) (steepV t) else steepV t) else (if over then vop .sub .f64 (some c025) (steepV t) else steepV t)) :=
    ite_le ((vsub_le le_c05 h1 ⟨by decide, by decide⟩).mono (by decide)) (h1.mono (by decide))
  unfold angV
  refine ite_le ?_ h2
  obtain ⟨b, hb, hl⟩ := h2
  refine ⟨Op.negFloat .f64 b, by rw [hb]; rfl, ?_⟩
  rw [decode_neg]
  exact hl.opposite

/-- The quotient of a number and one that is not less. -/
theorem quo_le1 {a b : Nat} {s t : Bool} {m n : Nat} {i j : Int} (ha : (FloatKind.f64).decode a = .number s m i) (hb : (FloatKind.f64).decode b = .number t n j) (h0 : n ≠ 0) (h : m * 2 ^ (i + 1074).toNat ≤ n * 2 ^ (j + 1074).toNat) :
    VLe .f64 1 (vop .quo .f64 (some a) (some b)) := by
  have hi := num64 ha
  have hj := num64 hb
  have hlog : m = 0 ∨ (m.log2 : Int) + i ≤ (n.log2 : Int) + j := by
    by_cases hm : m = 0
    · exact .inl hm
    · right
      have h1 := Nat.log2_self_le hm
      have h2 := log2_lt n
      have : 2 ^ (m.log2 + (i + 1074).toNat) < 2 ^ (n.log2 + 1 + (j + 1074).toNat) := by
        rw [Nat.pow_add, Nat.pow_add 2 (n.log2 + 1)]
        exact Nat.lt_of_le_of_lt (Nat.le_trans (Nat.mul_le_mul_right _ h1) h) (Nat.mul_lt_mul_of_pos_right h2 (Nat.two_pow_pos _))
      have := (Nat.pow_lt_pow_iff_right (by omega : 1 < 2)).1 this
      omega
  obtain ⟨r, hr, hbd⟩ := quotient_log (c := (FloatKind.f64).format.fractionBits + 2) (x := (FloatKind.f64).decode a) (y := (FloatKind.f64).decode b) (E := (n.log2 : Int) + j) (F := (n.log2 : Int) + j) (by rw [ha]; exact hlog) (by rw [hb]; exact ⟨h0, Int.le_refl _⟩)
  show VLe .f64 1 ((((FloatKind.f64).decode a).quotient ((FloatKind.f64).format.fractionBits + 2) ((FloatKind.f64).decode b)).map (FloatKind.f64).format.write)
  rw [hr]
  exact ⟨_, rfl, write_le (hbd.le.mono (by omega)) ⟨by decide, by decide⟩⟩
end Go.Proofs.Ytgdcpohdejbhaac
