
/- Logarithms: the laws. -/
import Derived.Test.YthkabonnclfhmaaDoorFlm
namespace Go.Proofs.YthkabonnclfhmaaDoor
open Go.Proofs.YthkabonnclfhmaaDoor.Flo Go.RowKit
attribute [local go_sem] call_from32
attribute [local go_sem] call_bits32

/-! ### Signs -/
def sgn : Ieee.Datum → Option Ordering
  | .number s m _ => some (if m = 0 then .eq else if s then .lt else .gt)
  | .infinity s => some (if s then .lt else .gt)
  | .nan .. => none
theorem sgn_num {s : Bool} {m : Nat} {i : Int} (h : m ≠ 0) : sgn (.number s m i) = some (if s then .lt else .gt) := by
  show some (if m = 0 then _ else _) = _
  rw [if_neg h]
theorem order_zero (k : FloatKind) (x : Nat) : k.format.order x 0 = sgn (k.decode x) := by
  have h0 : k.format.read 0 = .number false 0 k.format.leastPlace := by cases k <;> decide +kernel
  unfold Ieee.Format.order FloatKind.decode
  rw [h0]
  cases hd : k.format.read x with
  | number s m i =>
    show some (compare _ _) = some _
    have e : Ieee.signed false 0 (k.format.leastPlace - min i k.format.leastPlace).toNat = 0 := signed_zero _ _
    rw [e]
    unfold Ieee.signed
    rw [Nat.shiftLeft_eq]
    have hp := Nat.two_pow_pos (i - min i k.format.leastPlace).toNat
    generalize 2 ^ (i - min i k.format.leastPlace).toNat = c at *
    by_cases hm : m = 0
    · subst hm
      rw [if_pos rfl]
      cases s <;> simp
    · rw [if_neg hm]
      have hpos : 0 < m * c := Nat.mul_pos (by omega) hp
      cases s
      · exact congrArg some (Int.compare_eq_gt.2 (by simp; omega))
      · exact congrArg some (Int.compare_eq_lt.2 (by simp; omega))
  | infinity s => rfl
  | nan s t => rfl

theorem num32 {x : Nat} {s : Bool} {m : Nat} {i : Int} (h : (FloatKind.f32).decode x = .number s m i) : m < 2 ^ 24 ∧ -149 ≤ i ∧ i ≤ 104 := by
  unfold FloatKind.decode FloatKind.format Ieee.Format.read at h
  dsimp only at h
  have h1 : Ieee.single.binade = 2 ^ 23 := rfl
  have h2 : Ieee.single.infRung = 255 * 2 ^ 23 := rfl
  have h3 : Ieee.single.leastPlace = -149 := rfl
  generalize x % Ieee.single.signWeight = r at h
  rw [h1, h2, h3] at h
  split at h
  · injection h with _ hm he
    subst hm he
    omega
  · split at h
    · injection h with _ hm he
      subst hm he
      omega
    · split at h <;> cases h

/-- A 32-bit number, not a zero, in 64 bits. -/
theorem wide_num {x : Nat} {s : Bool} {m : Nat} {i : Int} (h : (FloatKind.f32).decode x = .number s m i) (h0 : m ≠ 0) :
    ∃ y, vwide (cls .f32 x) = some y ∧ (FloatKind.f64).decode y = .number s (m <<< (52 - m.log2)) (i + m.log2 - 52) := by
  have hn := num32 h
  have hl := (Nat.log2_lt h0).2 hn.1
  have hx := exact64 s m 0 i h0 (by omega) (by omega) (by omega)
  rw [Nat.shiftLeft_zero] at hx
  have e : i + ((0 : Nat) : Int) + (m.log2 : Int) - 52 = i + m.log2 - 52 := by omega
  rw [e] at hx
  refine ⟨(FloatKind.f64).format.nearest s m i, ?_, hx⟩
  rw [cls_of_not (by rw [h]; rfl)]
  unfold vwide floatToFloatBits
  simp only [Option.bind_some]
  rw [if_neg (by decide), h]
  have hni : ((FloatKind.f64).decode ((FloatKind.f64).encode (.number s m i))).isInfinity = false := by
    show ((FloatKind.f64).decode ((FloatKind.f64).format.nearest s m i)).isInfinity = false
    rw [hx]; rfl
  simp only [hni, Bool.false_eq_true, if_false]
  rfl

/-- What is not a number, or a zero, in 64 bits. -/
theorem wide_inf {x : Nat} {s : Bool} (h : (FloatKind.f32).decode x = .infinity s) : vwide (cls .f32 x) = some ((FloatKind.f64).encode (.infinity s)) := by
  rw [cls_of_not (by rw [h]; rfl)]
  unfold vwide floatToFloatBits
  simp only [Option.bind_some]
  rw [if_neg (by decide), h]
theorem wide_zero {x : Nat} {s : Bool} {i : Int} (h : (FloatKind.f32).decode x = .number s 0 i) : vwide (cls .f32 x) = some ((FloatKind.f64).format.word s 0) := by
  rw [cls_of_not (by rw [h]; rfl)]
  unfold vwide floatToFloatBits
  simp only [Option.bind_some]
  rw [if_neg (by decide), h]
  have e : (FloatKind.f64).encode (.number s 0 i) = (FloatKind.f64).format.word s 0 := by
    unfold FloatKind.encode Ieee.Format.write Ieee.Format.nearest
    simp
  dsimp only
  rw [e]
  cases s <;> rfl
theorem wide_nan {x : Nat} (h : ((FloatKind.f32).decode x).isNaN = true) : vwide (cls .f32 x) = none := by
  unfold cls; rw [if_pos h]; rfl

theorem cres_of {x y : Nat} (h : vwide (cls .f32 x) = some y) (w : World) : cres .f32 x .f64 w = y := (cls_some ((cres_wide x w).trans h)).1
theorem wide_sgn (x : Nat) (w : World) : sgn ((FloatKind.f64).decode (cres .f32 x .f64 w)) = sgn ((FloatKind.f32).decode x) := by
  cases hd : (FloatKind.f32).decode x with
  | number s m i =>
    by_cases h0 : m = 0
    · subst h0
      rw [cres_of (wide_zero hd)]
      cases s <;> rfl
    · obtain ⟨y, hy, hdy⟩ := wide_num hd h0
      rw [cres_of hy, hdy]
      have : m <<< (52 - m.log2) ≠ 0 := by rw [Nat.shiftLeft_eq]; exact Nat.mul_ne_zero h0 (by have := Nat.two_pow_pos (52 - m.log2); omega)
      rw [sgn_num this, sgn_num h0]
  | infinity s =>
    rw [cres_of (wide_inf hd)]
    cases s <;> rfl
  | nan s t =>
    have h := cls_none ((cres_wide x w).trans (wide_nan (x := x) (by rw [hd]; rfl)))
    cases hd2 : (FloatKind.f64).decode (cres .f32 x .f64 w) with
    | number => rw [hd2] at h; cases h
    | infinity => rw [hd2] at h; cases h
    | nan => rfl

theorem pos_wide {x : Nat} {m : Nat} {i : Int} (h : (FloatKind.f32).decode x = .number false m i) (h0 : m ≠ 0) :
    ∃ y X, vwide (cls .f32 x) = some y ∧ PosE y X ∧ -200 ≤ X ∧ X ≤ 200 := by
  obtain ⟨y, hy, hd⟩ := wide_num h h0
  have hn := num32 h
  have hl := (Nat.log2_lt h0).2 hn.1
  refine ⟨y, (m.log2 : Int) + i, hy, ⟨_, _, hd, ?_, ?_, ?_⟩, by omega, by omega⟩
  · rw [Nat.shiftLeft_eq]; exact Nat.mul_ne_zero h0 (by have := Nat.two_pow_pos (52 - m.log2); omega)
  · rw [log2_shl_eq _ _ h0]; omega
  · rw [log2_shl_eq _ _ h0]; omega

theorem pos_max {y : Nat} {X : Int} (h : PosE y X) : ((FloatKind.f64).format.order y 9218868437227405311 == some .gt) = false := by
  obtain ⟨m, i, hd, _⟩ := h
  have h1 := order_max y
  have h2 : (FloatKind.f64).decode (y % 2 ^ 63) = (FloatKind.f64).decode y := by rw [decode_abs, hd]; rfl
  unfold FloatKind.decode at h2
  unfold Ieee.Format.order at h1 ⊢
  rw [h2] at h1
  rw [h1]
  rw [hd]
theorem pos_sgn {y : Nat} {X : Int} (h : PosE y X) : sgn ((FloatKind.f64).decode y) = some .gt ∧ ((FloatKind.f64).decode y).isNaN = false := by
  obtain ⟨m, i, hd, h0, _⟩ := h
  rw [hd]
  exact ⟨by rw [sgn_num h0]; rfl, rfl⟩

/-- The logarithm of a 32-bit number. -/
def logR (x : Nat) : Option Nat := match (FloatKind.f32).decode x with
  | .number s m _ => if m = 0 then some 4286578688 else if s then none else vnarrow (logW ((vwide (cls .f32 x)).getD 0))
  | .infinity s => if s then none else some 2139095040
  | .nan .. => none
theorem logR_pos {x m y : Nat} {i : Int} (h : (FloatKind.f32).decode x = .number false m i) (h0 : m ≠ 0) (hy : vwide (cls .f32 x) = some y) : logR x = vnarrow (logW y) := by
  unfold logR; rw [h]; dsimp only; rw [if_neg h0, hy]; rfl
theorem logR_neg {x m : Nat} {i : Int} (h : (FloatKind.f32).decode x = .number true m i) (h0 : m ≠ 0) : logR x = none := by
  unfold logR; rw [h]; dsimp only; rw [if_neg h0]; rfl
theorem logR_zero {x : Nat} {s : Bool} {i : Int} (h : (FloatKind.f32).decode x = .number s 0 i) : logR x = some 4286578688 := by
  unfold logR; rw [h]; rfl
theorem logR_inf {x : Nat} {s : Bool} (h : (FloatKind.f32).decode x = .infinity s) : logR x = if s then none else some 2139095040 := by
  unfold logR; rw [h]
theorem logR_nan {x : Nat} {s : Bool} {t : Nat} (h : (FloatKind.f32).decode x = .nan s t) : logR x = none := by
  unfold logR; rw [h]
theorem cls_nan64' : cls .f64 9221120237041090561 = none := by decide +kernel
theorem inf_wide_max : ((FloatKind.f64).format.order ((FloatKind.f64).encode (.infinity false)) 9218868437227405311 == some .gt) = true := by decide +kernel
theorem inf32 (w : World) : cres .f64 9218868437227405312 .f32 w = 2139095040 := by
  have h : floatToFloatBits .f64 9218868437227405312 .f32 = some 2139095040 := by decide +kernel
  unfold cres; rw [h]
theorem ninf32 (w : World) : cres .f64 18442240474082181120 .f32 w = 4286578688 := by
  have h : floatToFloatBits .f64 18442240474082181120 .f32 = some 4286578688 := by decide +kernel
  unfold cres; rw [h]

end Go.Proofs.YthkabonnclfhmaaDoor
