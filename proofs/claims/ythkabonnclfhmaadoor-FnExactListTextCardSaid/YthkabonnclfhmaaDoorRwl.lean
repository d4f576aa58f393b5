
/- Logarithms of chances, and entropies: plain facts and walks. -/
import Derived.Test.YthkabonnclfhmaaDoorRww
import Derived.Test.YthkabonnclfhmaaDoorFlp
namespace Go.Proofs.YthkabonnclfhmaaDoor
open Go.Proofs.YthkabonnclfhmaaDoor.Flo Go.RowKit
attribute [local go_sem] call_from32
attribute [local go_sem] call_bits32

theorem vnarrow_le {E : Int} {a : Option Nat} (h : VLe .f64 E a) (hE : Norm .f32 E) : VLe .f32 E (vnarrow a) := by
  obtain ⟨b, rfl, hb⟩ := h
  unfold vnarrow floatToFloatBits
  simp only [Option.bind_some]
  rw [if_neg (by decide)]
  cases hd : (FloatKind.f64).decode b with
  | nan => rw [hd] at hb; exact hb.elim
  | infinity s => rw [hd] at hb; exact hb.elim
  | number s m e =>
    rw [hd] at hb
    have hw := write_le (k := .f32) (d := .number s m e) hb hE
    have hni : ((FloatKind.f32).decode ((FloatKind.f32).encode (.number s m e))).isInfinity = false := by
      unfold FloatKind.encode
      cases hx : (FloatKind.f32).decode ((FloatKind.f32).format.write (.number s m e)) with
      | number => rfl
      | infinity => rw [hx] at hw; exact hw.elim
      | nan => rfl
    simp only [hni, Bool.false_eq_true, if_false]
    exact ⟨_, rfl, hw⟩

theorem logR_le {x m : Nat} {i : Int} (h : (FloatKind.f32).decode x = .number false m i) (h0 : m ≠ 0) : VLe .f32 42 (logR x) := by
  obtain ⟨y, X, hy, hp, hlo, hhi⟩ := pos_wide h h0
  rw [logR_pos h h0 hy]
  exact vnarrow_le (logW_le hp hlo hhi) ⟨by decide, by decide⟩

def cln232 : Nat := 1060205080
theorem cls_cln232 : cls .f32 cln232 = some cln232 := by decide +kernel
theorem lo_cln232 : VL .f32 (-1) (some cln232) := ⟨_, rfl, by
  rw [show (FloatKind.f32).decode cln232 = .number false 11629080 (-24) by decide +kernel]; exact ⟨by decide, by decide⟩⟩
/-- The bits of a number. -/
def bitsV (x : Nat) : Option Nat := vop .quo .f32 (logR x) (some cln232)
theorem bitsV_le {x m : Nat} {i : Int} (h : (FloatKind.f32).decode x = .number false m i) (h0 : m ≠ 0) : VLe .f32 44 (bitsV x) :=
  (vquo_le (logR_le h h0) lo_cln232 ⟨by decide, by decide⟩).mono (by decide)
theorem bits_cls {l x : Nat} (h : cls .f32 l = logR x) (w : World) : cls .f32 (fres .quo .f32 l 1060205080 w) = bitsV x := by
  rw [fres_cls, h]
  exact congrArg _ cls_cln232

theorem le_fin {E : Int} {r : Nat} {a : Option Nat} (h : VLe .f32 E a) (hr : cls .f32 r = a) : finD ((FloatKind.f32).decode r) = true := by
  obtain ⟨b, rfl, hb⟩ := h
  obtain ⟨rfl, _⟩ := cls_some hr
  cases hd : (FloatKind.f32).decode r with
  | number => rfl
  | infinity => rw [hd] at hb; exact hb.elim
  | nan => rw [hd] at hb; exact hb.elim

/-- Equal to 0. -/
def zeroB (z : Nat) : Bool := (FloatKind.f32).format.order z 0 == some .eq
theorem num_order (z : Nat) {s : Bool} {m : Nat} {i : Int} (hd : (FloatKind.f32).decode z = .number s m i) (hs : s = false ∨ m = 0) :
    (m = 0 ∧ (FloatKind.f32).format.order z 0 = some .eq) ∨ (s = false ∧ m ≠ 0 ∧ (FloatKind.f32).format.order z 0 = some .gt) := by
  have e : (FloatKind.f32).format.order z 0 = ((FloatKind.f32).decode z).order ((FloatKind.f32).decode 0) := rfl
  by_cases h0 : m = 0
  · left
    refine ⟨h0, ?_⟩
    rw [e, hd, dec_032, order_0, h0, signed_zero]; rfl
  · right
    have hs := hs.resolve_right h0
    subst hs
    refine ⟨rfl, h0, ?_⟩
    rw [e, hd, dec_032, order_0, signed_false']
    have : 0 < m * 2 ^ (i - min i (-149)).toNat := Nat.mul_pos (by omega) (Nat.two_pow_pos _)
    generalize m * 2 ^ (i - min i (-149)).toNat = p at this
    show some (compareOfLessAndEq _ _) = _
    unfold compareOfLessAndEq
    rw [if_neg (by omega), if_neg (by omega)]

/-- The class of the sum of the first k terms: those of chances of 0 are left out. -/
def vterms (zs : List Nat) (T : Nat → Option Nat) : Nat → Option Nat
  | 0 => cls .f32 0
  | k + 1 => if zeroB (zs.getD k 0) then vterms zs T k else vop .add .f32 (vterms zs T k) (T k)
theorem vterms_le {zs : List Nat} {T : Nat → Option Nat} {E : Int} {n : Nat} (hE : 0 ≤ E) (hE2 : E + n ≤ 127) (h : ∀ k, k < n → zeroB (zs.getD k 0) = false → VLe .f32 E (T k)) : ∀ k, k ≤ n → VLe .f32 (E + k) (vterms zs T k) := by
  intro k
  induction k with
  | zero => intro _; exact ⟨0, cls_032, by rw [dec_032]; exact leN_of_log (.inl rfl)⟩
  | succ k ih =>
    intro hk
    have hi := ih (by omega)
    unfold vterms
    by_cases hz : zeroB (zs.getD k 0) = true
    · rw [if_pos hz]; exact hi.mono (by omega)
    · rw [if_neg hz]
      exact (vadd_le hi (h k (by omega) (by simpa using hz)) ⟨by omega, by omega⟩).mono (by omega)
/-- A term of an entropy. -/
def entT (zs : List Nat) (k : Nat) : Option Nat := vop .mul .f32 (cls .f32 (zs.getD k 0)) (bitsV (zs.getD k 0))
def entV (zs : List Nat) (n : Nat) : Option Nat := vop .sub .f32 (cls .f32 0) (vterms zs (entT zs) n)
theorem entV_le {zs : List Nat} {n : Nat} (h : chS zs n = true) (hn : n ≤ 64) : VLe .f32 127 (entV zs n) := by
  have hT : ∀ k, k < n → zeroB (zs.getD k 0) = false → VLe .f32 45 (entT zs k) := fun k hk hz => by
    obtain ⟨s, m, i, hd, hs, hle⟩ := ch_each h hk
    rcases num_order _ hd hs with ⟨_, h1⟩ | ⟨rfl, h0, _⟩
    · unfold zeroB at hz; rw [h1] at hz; cases hz
    · exact vmul_le hle (bitsV_le hd h0) ⟨by decide, by decide⟩
  have hS := vterms_le (zs := zs) (n := n) (by decide : (0:Int) ≤ 45) (by omega) hT n (Nat.le_refl _)
  have h0 : VLe .f32 0 (cls .f32 0) := ⟨0, cls_032, by rw [dec_032]; exact leN_of_log (.inl rfl)⟩
  exact (vsub_le h0 hS ⟨by omega, by omega⟩).mono (by omega)

end Go.Proofs.YthkabonnclfhmaaDoor
