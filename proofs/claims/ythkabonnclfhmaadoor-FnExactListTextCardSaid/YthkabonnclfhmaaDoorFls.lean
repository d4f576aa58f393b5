
/- Sines of turns. -/
import Derived.Test.YthkabonnclfhmaaDoorFlx
namespace Go.Proofs.YthkabonnclfhmaaDoor
open Go.Proofs.YthkabonnclfhmaaDoor.Flo Go.RowKit

@[go_sem] theorem unary_fneg (k : FloatKind) (b : Nat) : Op.unary .neg (.float k b) = pure (.float k (Op.negFloat k b)) := rfl

def c1 : Nat := 4607182418800017408
def c05 : Nat := 4602678819172646912
def c025 : Nat := 4598175219545276416
def c2pi : Nat := 4618760256179416344
theorem dec_c1 : (FloatKind.f64).decode c1 = .number false (2 ^ 52) (-52) := by decide +kernel
theorem le_c1 : VLe .f64 0 (some c1) := ⟨_, rfl, by rw [dec_c1]; exact leN_of 52 (by decide) (by decide) (by decide)⟩
theorem le_c05 : VLe .f64 (-1) (some c05) := ⟨_, rfl, by rw [show (FloatKind.f64).decode c05 = .number false (2 ^ 52) (-53) by decide +kernel]; exact leN_of 53 (by decide) (by decide) (by decide)⟩
theorem le_c025 : VLe .f64 (-2) (some c025) := ⟨_, rfl, by rw [show (FloatKind.f64).decode c025 = .number false (2 ^ 52) (-54) by decide +kernel]; exact leN_of 54 (by decide) (by decide) (by decide)⟩
theorem le_c2pi : VLe .f64 3 (some c2pi) := ⟨_, rfl, by rw [show (FloatKind.f64).decode c2pi = .number false 7074237752028440 (-50) by decide +kernel]; exact leN_of 50 (by decide) (by decide) (by decide)⟩
theorem cls_c1 : cls .f64 c1 = some c1 := by decide +kernel
theorem cls_c05 : cls .f64 c05 = some c05 := by decide +kernel
theorem cls_c025 : cls .f64 c025 = some c025 := by decide +kernel
theorem cls_c2pi : cls .f64 c2pi = some c2pi := by decide +kernel
theorem cls_0 : cls .f64 0 = some 0 := by decide +kernel

def vlt (a b : Option Nat) : Bool := vord .f64 a b == some .lt
def vgt (a b : Option Nat) : Bool := vord .f64 a b == some .gt
def vge (a b : Option Nat) : Bool := vord .f64 a b == some .gt || vord .f64 a b == some .eq

/-- A number's opposite. -/
theorem neg_cls {b : Nat} (w : World) (x y : Nat) (op : BinOp) (h : b = fres op .f64 x y w) : cls .f64 (Op.negFloat .f64 b) = (vop op .f64 (cls .f64 x) (cls .f64 y)).map (Op.negFloat .f64) := by
  have hc : cls .f64 b = vop op .f64 (cls .f64 x) (cls .f64 y) := by rw [h]; exact fres_cls ..
  rw [← hc]
  have hlt : b < 2 ^ 64 := by rw [h]; exact fres_lt ..
  have hk : Op.negFloat .f64 b = b ^^^ 2 ^ 63 := rfl
  have hx : (b ^^^ 2 ^ 63) % 2 ^ 63 = b % 2 ^ 63 := by rw [Nat.xor_mod_two_pow]; simp
  have hn : ∀ c d : Nat, c % 2 ^ 63 = d % 2 ^ 63 → ((FloatKind.f64).decode c).isNaN = ((FloatKind.f64).decode d).isNaN := by
    intro c d hcd
    unfold FloatKind.decode Ieee.Format.read
    have h1 : (FloatKind.f64).format.signWeight = 2 ^ 63 := rfl
    rw [h1, hcd]
    dsimp only
    split
    · rfl
    · split
      · rfl
      · split <;> rfl
  unfold cls
  rw [hk, hn _ _ hx]
  split <;> rfl

def restV (y : Nat) : Option Nat := if vlt (restF y) (some 0) then vop .add .f64 (restF y) (some c1) else restF y
def halfV (f : Option Nat) : Option Nat := if vge f (some c05) then vop .sub .f64 f (some c05) else f
def foldV (f : Option Nat) : Option Nat := if vgt f (some c025) then vop .sub .f64 (some c05) f else f
def stS (u : Option Nat) (k : Nat) (p : Option Nat) : Option Nat :=
  vop .sub .f64 (some c1) (vop .quo .f64 (vop .mul .f64 u p) (some (floatOfInt .f64 ((2 * k * (2 * k + 1) : Nat) : Int))))
/-- The series: after the steps 8, 7, .., 9 - j. -/
def serS (u : Option Nat) : Nat → Option Nat
  | 0 => some c1
  | j + 1 => stS u (8 - j) (serS u j)
def zV (f : Option Nat) : Option Nat := vop .mul .f64 f (some c2pi)
def sinF (f : Option Nat) : Option Nat :=
  let z := zV (foldV (halfV f))
  let r := vop .mul .f64 z (serS (vop .mul .f64 z z) 8)
  if vge f (some c05) then r.map (Op.negFloat .f64) else r
/-- The sine of some turns that are nearer to 0 than 2 ^ 52. -/
def sineV (y : Nat) : Option Nat := sinF (restV y)

theorem ite_le {k : FloatKind} {E : Int} {c : Bool} {a b : Option Nat} (ha : VLe k E a) (hb : VLe k E b) : VLe k E (if c then a else b) := by
  cases c
  · exact hb
  · exact ha
theorem restV_le {y : Nat} (h : smallD ((FloatKind.f64).decode y) = true) : VLe .f64 1 (restV y) :=
  ite_le (vadd_le (restF_le h) le_c1 ⟨by decide, by decide⟩) ((restF_le h).mono (by decide))
theorem halfV_le {f : Option Nat} (h : VLe .f64 1 f) : VLe .f64 2 (halfV f) :=
  ite_le (vsub_le h le_c05 ⟨by decide, by decide⟩) (h.mono (by decide))
theorem foldV_le {f : Option Nat} (h : VLe .f64 2 f) : VLe .f64 3 (foldV f) :=
  ite_le (vsub_le le_c05 h ⟨by decide, by decide⟩) (h.mono (by decide))
theorem zV_le {f : Option Nat} (h : VLe .f64 3 f) : VLe .f64 6 (zV f) := vmul_le h le_c2pi ⟨by decide, by decide⟩

theorem stS_le {u p : Option Nat} {E : Int} {k : Nat} (hu : VLe .f64 12 u) (hp : VLe .f64 E p) (hE0 : 0 ≤ E) (hE : E ≤ 900) (hk1 : 1 ≤ k) (hk : k ≤ 8) : VLe .f64 (E + 12) (stS u k p) := by
  have hm := vmul_le hu hp (show Norm .f64 (12 + E) from ⟨by omega, by omega⟩)
  have hl : VL .f64 2 (some (floatOfInt .f64 ((2 * k * (2 * k + 1) : Nat) : Int))) := by
    refine ⟨_, rfl, ?_⟩
    have : k = 1 ∨ k = 2 ∨ k = 3 ∨ k = 4 ∨ k = 5 ∨ k = 6 ∨ k = 7 ∨ k = 8 := by omega
    rcases this with rfl | rfl | rfl | rfl | rfl | rfl | rfl | rfl
    · rw [show (FloatKind.f64).decode (floatOfInt .f64 ((2 * 1 * (2 * 1 + 1) : Nat) : Int)) = .number false (6 <<< 50) (-50) by decide +kernel]; exact ⟨by decide, by decide +kernel⟩
    · rw [show (FloatKind.f64).decode (floatOfInt .f64 ((2 * 2 * (2 * 2 + 1) : Nat) : Int)) = .number false (20 <<< 48) (-48) by decide +kernel]; exact ⟨by decide, by decide +kernel⟩
    · rw [show (FloatKind.f64).decode (floatOfInt .f64 ((2 * 3 * (2 * 3 + 1) : Nat) : Int)) = .number false (42 <<< 47) (-47) by decide +kernel]; exact ⟨by decide, by decide +kernel⟩
    · rw [show (FloatKind.f64).decode (floatOfInt .f64 ((2 * 4 * (2 * 4 + 1) : Nat) : Int)) = .number false (72 <<< 46) (-46) by decide +kernel]; exact ⟨by decide, by decide +kernel⟩
    · rw [show (FloatKind.f64).decode (floatOfInt .f64 ((2 * 5 * (2 * 5 + 1) : Nat) : Int)) = .number false (110 <<< 46) (-46) by decide +kernel]; exact ⟨by decide, by decide +kernel⟩
    · rw [show (FloatKind.f64).decode (floatOfInt .f64 ((2 * 6 * (2 * 6 + 1) : Nat) : Int)) = .number false (156 <<< 45) (-45) by decide +kernel]; exact ⟨by decide, by decide +kernel⟩
    · rw [show (FloatKind.f64).decode (floatOfInt .f64 ((2 * 7 * (2 * 7 + 1) : Nat) : Int)) = .number false (210 <<< 45) (-45) by decide +kernel]; exact ⟨by decide, by decide +kernel⟩
    · rw [show (FloatKind.f64).decode (floatOfInt .f64 ((2 * 8 * (2 * 8 + 1) : Nat) : Int)) = .number false (272 <<< 44) (-44) by decide +kernel]; exact ⟨by decide, by decide +kernel⟩
  have hq := vquo_le hm hl (show Norm .f64 (12 + E - 2 + 1) from ⟨by omega, by omega⟩)
  exact (vsub_le le_c1 (hq.mono (F := E + 11) (by omega)) (show Norm .f64 (max 0 (E + 11) + 1) from ⟨by omega, by omega⟩)).mono (by omega)

theorem serS_le {u : Option Nat} (hu : VLe .f64 12 u) : ∀ j : Nat, j ≤ 8 → VLe .f64 (12 * (j : Int)) (serS u j) := by
  intro j
  induction j with
  | zero => intro _; exact le_c1
  | succ j ih =>
    intro hj
    exact (stS_le hu (ih (by omega)) (by omega) (by omega) (by omega : 1 ≤ 8 - j) (by omega)).mono (by omega)

theorem decode_neg (b : Nat) : (FloatKind.f64).decode (Op.negFloat .f64 b) = ((FloatKind.f64).decode b).opposite := by
  have hk : Op.negFloat .f64 b = b ^^^ 2 ^ 63 := rfl
  have hx : (b ^^^ 2 ^ 63) % 2 ^ 63 = b % 2 ^ 63 := by rw [Nat.xor_mod_two_pow]; simp
  have hd : (b ^^^ 2 ^ 63) / 2 ^ 63 = (b / 2 ^ 63) ^^^ 1 := by
    rw [← Nat.shiftRight_eq_div_pow, Nat.shiftRight_xor_distrib, Nat.shiftRight_eq_div_pow, Nat.shiftRight_eq_div_pow]
  have hp : ((b / 2 ^ 63) ^^^ 1) % 2 = 1 - b / 2 ^ 63 % 2 := by
    have := Nat.xor_mod_two_pow (a := b / 2 ^ 63) (b := 1) (n := 1)
    rw [Nat.pow_one] at this
    rw [this]
    have : b / 2 ^ 63 % 2 = 0 ∨ b / 2 ^ 63 % 2 = 1 := by omega
    rcases this with h | h <;> rw [h] <;> rfl
  rw [hk]
  unfold FloatKind.decode Ieee.Format.read
  have h1 : (FloatKind.f64).format.signWeight = 2 ^ 63 := rfl
  rw [h1, hx, hd]
  dsimp only
  have hs : (((b / 2 ^ 63) ^^^ 1) % 2 == 1) = !(b / 2 ^ 63 % 2 == 1) := by
    rw [hp]
    have : b / 2 ^ 63 % 2 = 0 ∨ b / 2 ^ 63 % 2 = 1 := by omega
    rcases this with h | h <;> rw [h] <;> rfl
  rw [hs]
  split
  · rfl
  · split
    · rfl
    · split <;> rfl

theorem sinF_le {f : Option Nat} (h : VLe .f64 1 f) : VLe .f64 102 (sinF f) := by
  have hz := zV_le (foldV_le (halfV_le h))
  have hu : VLe .f64 12 (vop .mul .f64 (zV (foldV (halfV f))) (zV (foldV (halfV f)))) := vmul_le hz hz ⟨by decide, by decide⟩
  have hr : VLe .f64 102 (vop .mul .f64 (zV (foldV (halfV f))) (serS (vop .mul .f64 (zV (foldV (halfV f))) (zV (foldV (halfV f)))) 8)) :=
    vmul_le hz (serS_le hu 8 (by decide)) ⟨by decide, by decide⟩
  unfold sinF
  refine ite_le ?_ hr
  obtain ⟨b, hb, hl⟩ := hr
  refine ⟨Op.negFloat .f64 b, by rw [hb]; rfl, ?_⟩
  rw [decode_neg]
  exact hl.opposite
theorem sineV_le {y : Nat} (h : smallD ((FloatKind.f64).decode y) = true) : VLe .f64 102 (sineV y) := sinF_le (restV_le h)

/-! ### The walks -/
theorem stS_cls {ub pb : Nat} {U Q : Option Nat} (hu : cls .f64 ub = U) (hp : cls .f64 pb = Q) {k : Int} {j : Nat} (hk : k = 8 - (j : Int)) (hj : j < 8) (w1 w2 w3 : World) :
    cls .f64 (fres .sub .f64 4607182418800017408 (fres .quo .f64 (fres .mul .f64 ub pb w1) (floatOfInt .f64 (wrap64 (2 * k * (2 * k + 1)))) w2) w3) = stS U (8 - j) Q := by
  have hm : wrap64 (2 * k * (2 * k + 1)) = ((2 * (8 - j) * (2 * (8 - j) + 1) : Nat) : Int) := by
    have : j = 0 ∨ j = 1 ∨ j = 2 ∨ j = 3 ∨ j = 4 ∨ j = 5 ∨ j = 6 ∨ j = 7 := by omega
    rcases this with rfl | rfl | rfl | rfl | rfl | rfl | rfl | rfl <;> subst hk <;> decide +kernel
  rw [hm, fres_cls, fres_cls, fres_cls, hu, hp, cls_int, show cls .f64 4607182418800017408 = some c1 from cls_c1]
  rfl

theorem lt_rest (y : Nat) (w : World) : ((FloatKind.f64).format.order (fres .sub .f64 y (floatOfInt .f64 (truncI y)) w) 0 == some .lt) = vlt (if ((FloatKind.f64).decode y).isNaN then none else restF y) (some 0) := by
  rw [order_cls, fres_cls, cls_0, cls_int]
  unfold vlt cls
  split <;> rfl


theorem cls_nan32 : cls .f32 2143289344 = none := by decide +kernel
theorem sq_cls {f : Nat} {X : Option Nat} (h : cls .f64 f = X) (w : World) : cls .f64 (fres .mul .f64 f f w) = vop .mul .f64 X X := by
  rw [fres_cls, h]

end Go.Proofs.YthkabonnclfhmaaDoor
