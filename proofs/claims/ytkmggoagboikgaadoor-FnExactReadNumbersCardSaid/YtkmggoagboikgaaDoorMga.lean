/- Texts of this place that stand together: XFlo XFlv XRwv XFlw XFlx XFls XFll XFlt XFlu XFlm XFln. -/
import Derived.Laws.FloatArith
import Derived.Deep.Draws
import Derived.Laws.NewFold
import Derived.Test.YtkmggoagboikgaaDoorChecked
import Derived.WalkKit
import Derived.WalkLawsBesides
import Derived.Laws.BitsAllLaws
import Derived.Lib.Hide

/- Floats up to which not-a-number: plain facts, no program. -/
namespace Go.Proofs.YtkmggoagboikgaaDoor.Flo
open Go

theorem format_eq (k : FloatKind) : k.format = Ieee.single ∨ k.format = Ieee.double := by cases k <;> simp [FloatKind.format]

/-- The number of a word, up to which not-a-number: none of one, else its bits. -/
def cls (k : FloatKind) (b : Nat) : Option Nat := if (k.decode b).isNaN then none else some b

theorem read_word (f : Ieee.Format) (neg : Bool) (rung : Nat) (h : rung < f.signWeight) :
    f.read (f.word neg rung) =
      if rung < f.binade then .number neg rung f.leastPlace
      else if rung < f.infRung then .number neg (f.binade + rung % f.binade) (f.leastPlace + (rung / f.binade - 1 : Nat))
      else if rung = f.infRung then .infinity neg else .nan neg (rung - f.infRung) := by
  have hs : 0 < f.signWeight := Nat.two_pow_pos _
  have h1 : f.word neg rung % f.signWeight = rung := by
    unfold Ieee.Format.word; split
    · rw [Nat.add_mod_left, Nat.mod_eq_of_lt h]
    · exact Nat.mod_eq_of_lt h
  have h2 : (f.word neg rung / f.signWeight % 2 == 1) = neg := by
    unfold Ieee.Format.word; split
    · rename_i hn
      rw [Nat.add_div_left _ hs, Nat.div_eq_of_lt h]; simp [hn]
    · rename_i hn
      rw [Nat.div_eq_of_lt h]; simpa using hn
  unfold Ieee.Format.read
  simp only [h1, h2]

theorem read_word_le (f : Ieee.Format) (neg : Bool) (rung : Nat) (h : rung ≤ f.infRung) : (f.read (f.word neg rung)).isNaN = false := by
  rw [read_word f neg rung (Nat.lt_of_le_of_lt h f.infRung_lt)]
  split
  · rfl
  · split
    · rfl
    · rw [if_pos (by omega)]; rfl

theorem nearest_notNaN (f : Ieee.Format) (neg : Bool) (mag : Nat) (place : Int) : (f.read (f.nearest neg mag place)).isNaN = false := by
  unfold Ieee.Format.nearest
  dsimp only
  split
  · exact read_word_le f neg 0 (Nat.zero_le _)
  · exact read_word_le f neg _ (Nat.min_le_right ..)

theorem write_notNaN (f : Ieee.Format) (d : Ieee.Datum) (h : d.isNaN = false) : (f.read (f.write d)).isNaN = false := by
  cases d with
  | number neg mag place => exact nearest_notNaN f neg mag place
  | infinity neg => exact read_word_le f neg _ (Nat.le_refl _)
  | nan => cases h

theorem sum_notNaN {a b d : Ieee.Datum} (h : a.sum b = some d) : d.isNaN = false := by
  cases a <;> cases b <;> simp [Ieee.Datum.sum] at h
  · subst h; rfl
  · subst h; rfl
  · subst h; rfl
  · obtain ⟨_, rfl⟩ := h; rfl
theorem product_notNaN {a b d : Ieee.Datum} (h : a.product b = some d) : d.isNaN = false := by
  cases a <;> cases b <;> simp [Ieee.Datum.product] at h
  · subst h; rfl
  · obtain ⟨_, rfl⟩ := h; rfl
  · obtain ⟨_, rfl⟩ := h; rfl
  · subst h; rfl
theorem quotient_notNaN {n : Nat} {a b d : Ieee.Datum} (h : a.quotient n b = some d) : d.isNaN = false := by
  unfold Ieee.Datum.quotient at h
  split at h
  · cases h
  · cases h
  · cases h
  · cases h; rfl
  · cases h; rfl
  · split at h
    · split at h
      · cases h
      · cases h; rfl
    · cases h; rfl
theorem root_notNaN {n : Nat} {a d : Ieee.Datum} (h : a.root n = some d) : d.isNaN = false := by
  unfold Ieee.Datum.root at h
  split at h
  · cases h
  · split at h
    · cases h
    · cases h; rfl
  · split at h
    · cases h; rfl
    · split at h
      · cases h
      · cases h; rfl

theorem map_write_notNaN {f : Ieee.Format} {o : Option Ieee.Datum} {r : Nat} (h : o.map f.write = some r) (hd : ∀ d, o = some d → d.isNaN = false) : (f.read r).isNaN = false := by
  cases o with
  | none => cases h
  | some d => cases h; exact write_notNaN f d (hd d rfl)

theorem opposite_isNaN (d : Ieee.Datum) : d.opposite.isNaN = d.isNaN := by cases d <;> rfl

/-- A VALID OPERATION GIVES NO NOT-A-NUMBER. -/
theorem floatBits_notNaN {op : BinOp} {k : FloatKind} {x y r : Nat} (h : floatBits op k x y = some r) : (k.decode r).isNaN = false := by
  unfold floatBits at h
  unfold FloatKind.decode
  split at h
  · exact map_write_notNaN h fun d hd => sum_notNaN hd
  · exact map_write_notNaN h fun d hd => sum_notNaN hd
  · exact map_write_notNaN h fun d hd => product_notNaN hd
  · exact map_write_notNaN h fun d hd => quotient_notNaN hd
  · cases h

theorem floatBits_nan_left {op : BinOp} {k : FloatKind} {x y : Nat} (h : (k.decode x).isNaN = true) : floatBits op k x y = none := by
  unfold FloatKind.decode at h
  cases hx : k.format.read x with
  | number => rw [hx] at h; cases h
  | infinity => rw [hx] at h; cases h
  | nan s t =>
    unfold floatBits
    cases op <;> simp [Ieee.Format.add, Ieee.Format.sub, Ieee.Format.mul, Ieee.Format.div, hx, Ieee.Datum.sum, Ieee.Datum.product, Ieee.Datum.quotient]

theorem floatBits_nan_right {op : BinOp} {k : FloatKind} {x y : Nat} (h : (k.decode y).isNaN = true) : floatBits op k x y = none := by
  unfold FloatKind.decode at h
  cases hy : k.format.read y with
  | number => rw [hy] at h; cases h
  | infinity => rw [hy] at h; cases h
  | nan s t =>
    unfold floatBits
    cases op <;> cases hx : k.format.read x <;> simp [Ieee.Format.add, Ieee.Format.sub, Ieee.Format.mul, Ieee.Format.div, hx, hy, Ieee.Datum.opposite, Ieee.Datum.sum, Ieee.Datum.product, Ieee.Datum.quotient]

/-- An operation on numbers up to which not-a-number. -/
def vop (op : BinOp) (k : FloatKind) (a b : Option Nat) : Option Nat := a.bind fun x => b.bind fun y => floatBits op k x y

theorem vop_cls (op : BinOp) (k : FloatKind) (x y : Nat) : vop op k (cls k x) (cls k y) = floatBits op k x y := by
  unfold vop cls
  by_cases hx : (k.decode x).isNaN = true
  · simp [hx, floatBits_nan_left hx]
  · by_cases hy : (k.decode y).isNaN = true
    · simp [hx, hy, floatBits_nan_right hy]
    · simp [hx, hy]

/-! ### What the model draws for a not-a-number is one -/
theorem cut_nan32 (t : Nat) : ((FloatKind.f32).decode ((t % 2) * 2 ^ 31 + 0x7f800000 + 1 + (t / 2) % (2 ^ 23 - 1))).isNaN = true := by
  have e : (t % 2) * 2 ^ 31 + 0x7f800000 + 1 + (t / 2) % (2 ^ 23 - 1) = Ieee.single.word (t % 2 == 1) (0x7f800000 + 1 + (t / 2) % (2 ^ 23 - 1)) := by
    unfold Ieee.Format.word
    have : Ieee.single.signWeight = 2 ^ 31 := rfl
    rw [this]
    split
    · rename_i h; have : t % 2 = 1 := by simpa using h
      omega
    · rename_i h; have : t % 2 = 0 := by have := (by simpa using h : ¬ t % 2 = 1); omega
      omega
  rw [e]
  show (Ieee.single.read _).isNaN = true
  have hr : (t / 2) % (2 ^ 23 - 1) < 2 ^ 23 - 1 := Nat.mod_lt _ (by decide)
  rw [read_word Ieee.single _ _ (by show _ < 2 ^ 31; omega)]
  have h1 : Ieee.single.binade = 2 ^ 23 := rfl
  have h2 : Ieee.single.infRung = 0x7f800000 := rfl
  rw [h1, h2, if_neg (by omega), if_neg (by omega), if_neg (by omega)]
  rfl

theorem cut_nan64 (t : Nat) : ((FloatKind.f64).decode ((t % 2) * 2 ^ 63 + 0x7ff0000000000000 + 1 + (t / 2) % (2 ^ 52 - 1))).isNaN = true := by
  have e : (t % 2) * 2 ^ 63 + 0x7ff0000000000000 + 1 + (t / 2) % (2 ^ 52 - 1) = Ieee.double.word (t % 2 == 1) (0x7ff0000000000000 + 1 + (t / 2) % (2 ^ 52 - 1)) := by
    unfold Ieee.Format.word
    have : Ieee.double.signWeight = 2 ^ 63 := rfl
    rw [this]
    split
    · rename_i h; have : t % 2 = 1 := by simpa using h
      omega
    · rename_i h; have : t % 2 = 0 := by have := (by simpa using h : ¬ t % 2 = 1); omega
      omega
  rw [e]
  show (Ieee.double.read _).isNaN = true
  have hr : (t / 2) % (2 ^ 52 - 1) < 2 ^ 52 - 1 := Nat.mod_lt _ (by decide)
  rw [read_word Ieee.double _ _ (by show _ < 2 ^ 63; omega)]
  have h1 : Ieee.double.binade = 2 ^ 52 := rfl
  have h2 : Ieee.double.infRung = 0x7ff0000000000000 := rfl
  rw [h1, h2, if_neg (by omega), if_neg (by omega), if_neg (by omega)]
  rfl

/-- What is drawn for a not-a-number of kind k. -/
def drawn (k : FloatKind) (t : Nat) : Nat :=
  match k with
  | .f32 => (t % 2) * 2 ^ 31 + 0x7f800000 + 1 + (t / 2) % (2 ^ 23 - 1)
  | .f64 => (t % 2) * 2 ^ 63 + 0x7ff0000000000000 + 1 + (t / 2) % (2 ^ 52 - 1)

theorem cls_drawn (k : FloatKind) (t : Nat) : cls k (drawn k t) = none := by
  cases k
  · exact if_pos (cut_nan32 t)
  · exact if_pos (cut_nan64 t)
theorem drawn_lt (k : FloatKind) (t : Nat) : drawn k t < 2 ^ k.format.width := by
  cases k
  · show (t % 2) * 2 ^ 31 + 0x7f800000 + 1 + (t / 2) % (2 ^ 23 - 1) < 2 ^ 32
    omega
  · show (t % 2) * 2 ^ 63 + 0x7ff0000000000000 + 1 + (t / 2) % (2 ^ 52 - 1) < 2 ^ 64
    omega

/-! ### The walk's rules: an operation's bits, and how many draws it makes -/
/-- The bits that an operation leaves in a world. -/
def fres (op : BinOp) (k : FloatKind) (x y : Nat) (w : World) : Nat :=
  match floatBits op k x y with
  | some r => r
  | none => drawn k (w.tape w.drawn (.nanBits k x y))
/-- How many draws it makes. -/
def fcnt (op : BinOp) (k : FloatKind) (x y : Nat) : Nat := if (floatBits op k x y).isSome then 0 else 1

theorem fres_cls (op : BinOp) (k : FloatKind) (x y : Nat) (w : World) : cls k (fres op k x y w) = vop op k (cls k x) (cls k y) := by
  rw [vop_cls]
  unfold fres
  cases h : floatBits op k x y with
  | none => exact cls_drawn k _
  | some r => simp [cls, floatBits_notNaN h]

theorem fres_lt (op : BinOp) (k : FloatKind) (x y : Nat) (w : World) : fres op k x y w < 2 ^ k.format.width := by
  unfold fres
  split
  · rename_i r h
    have := floatBits_wf h
    cases k
    · have h2 : r < 4294967296 := by simpa [Lit.wf] using this
      exact h2
    · have h2 : r < 18446744073709551616 := by simpa [Lit.wf] using this
      exact h2
  · exact drawn_lt k _

section
variable {P : Program} (w : World)
theorem run_fop (op : BinOp) (hop : op = .add ∨ op = .sub ∨ op = .mul ∨ op = .quo) (t : TypeId) (k : FloatKind) (x y : Nat) :
    (binOp op t (.float k x) (.float k y)).run P w = .ok (.float k (fres op k x y w)) (w.drewN (fcnt op k x y)) := by
  cases h : floatBits op k x y with
  | some r =>
    rw [run_float_arith w op t k x y r h]
    simp [fres, fcnt, h, World.drewN_zero]
  | none =>
    have e : fres op k x y w = (Question.nanBits k x y).cut (w.tape w.drawn (.nanBits k x y)) := by
      unfold fres; rw [h]; cases k <;> rfl
    rw [e]
    simp only [fcnt, h, Option.isSome_none, Bool.false_eq_true, if_false, ← World.drew_is_drewN]
    unfold floatBits at h
    rcases hop with rfl | rfl | rfl | rfl <;> simp only at h <;> simp [binOp, Op.floatArith, h, Question.forced]
@[go_sem] theorem run_fadd (t : TypeId) (k : FloatKind) (x y : Nat) : (binOp .add t (.float k x) (.float k y)).run P w = .ok (.float k (fres .add k x y w)) (w.drewN (fcnt .add k x y)) := run_fop w .add (by simp) t k x y
@[go_sem] theorem run_fsub (t : TypeId) (k : FloatKind) (x y : Nat) : (binOp .sub t (.float k x) (.float k y)).run P w = .ok (.float k (fres .sub k x y w)) (w.drewN (fcnt .sub k x y)) := run_fop w .sub (by simp) t k x y
@[go_sem] theorem run_fmul (t : TypeId) (k : FloatKind) (x y : Nat) : (binOp .mul t (.float k x) (.float k y)).run P w = .ok (.float k (fres .mul k x y w)) (w.drewN (fcnt .mul k x y)) := run_fop w .mul (by simp) t k x y
@[go_sem] theorem run_fquo (t : TypeId) (k : FloatKind) (x y : Nat) : (binOp .quo t (.float k x) (.float k y)).run P w = .ok (.float k (fres .quo k x y w)) (w.drewN (fcnt .quo k x y)) := run_fop w .quo (by simp) t k x y
end

/-! ### Conversions between the kinds -/
/-- The bits that a conversion leaves in a world. -/
def cres (s : FloatKind) (b : Nat) (k : FloatKind) (w : World) : Nat :=
  match floatToFloatBits s b k with
  | some r => r
  | none => if (s.decode b).isNaN then drawn k (w.tape w.drawn (.nanConv k b)) else w.tape w.drawn (.floatToFloat b) % 2 ^ 32
def ccnt (s : FloatKind) (b : Nat) (k : FloatKind) : Nat := if (floatToFloatBits s b k).isSome then 0 else 1

section
variable {P : Program} (w : World)
@[go_sem] theorem run_fconv (src dst : TypeId) (s k : FloatKind) (b : Nat) (hs : (P.underlying src).isSome = true) (hd : P.underlying dst = some (.float k)) :
    (convert src dst (.float s b)).run P w = .ok (.float k (cres s b k w)) (w.drewN (ccnt s b k)) := by
  cases h : floatToFloatBits s b k with
  | some r =>
    rw [run_convert_float_float w src dst s k b r hs hd h]
    simp [cres, ccnt, h, World.drewN_zero]
  | none =>
    obtain ⟨u, hs'⟩ := Option.isSome_iff_exists.1 hs
    unfold floatToFloatBits at h
    split at h
    · cases h
    · rename_i ne
      have hn : floatToFloatBits s b k = none := by unfold floatToFloatBits; rw [if_neg ne]; exact h
      split at h
      · rename_i ng fr he
        have e : cres s b k w = (Question.nanConv k b).cut (w.tape w.drawn (.nanConv k b)) := by
          unfold cres; rw [hn]; simp only [he, Ieee.Datum.isNaN, if_true]; cases k <;> rfl
        rw [e]
        simp only [ccnt, hn, Option.isSome_none, Bool.false_eq_true, if_false, ← World.drew_is_drewN]
        cases u <;> simp [convert, run_underlying hs', run_underlying hd, Conv.floatToFloat, ne, he, Question.forced]
      · cases h
      · rename_i ng m e0 he
        split at h
        · rename_i ho
          have e : cres s b k w = (Question.floatToFloat b).cut (w.tape w.drawn (.floatToFloat b)) := by
            unfold cres; rw [hn]; simp only [he, Ieee.Datum.isNaN]; rfl
          rw [e]
          simp only [ccnt, hn, Option.isSome_none, Bool.false_eq_true, if_false, ← World.drew_is_drewN]
          cases u <;> simp [convert, run_underlying hs', run_underlying hd, Conv.floatToFloat, ne, he, ho, Question.forced]
        · cases h
end

/-- 'float64(x)' of a 32-bit number. -/
def vwide (a : Option Nat) : Option Nat := a.bind fun b => floatToFloatBits .f32 b .f64
/-- 'float32(x)' of a 64-bit number that is not too great. -/
def vnarrow (a : Option Nat) : Option Nat := a.bind fun b => floatToFloatBits .f64 b .f32

theorem binade_le (k : FloatKind) : k.format.binade < k.format.infRung := by cases k <;> decide

theorem read_inf (k : FloatKind) (neg : Bool) : (k.format.read (k.format.word neg k.format.infRung)) = .infinity neg := by
  have h := binade_le k
  rw [read_word k.format neg _ k.format.infRung_lt, if_neg (by omega), if_neg (by omega), if_pos rfl]

/-! ### Bounds: 'below 2 ^ (E + 1)' -/
/-- A datum that is a number of absolute value below 2 ^ (E + 1). -/
def Bd (E : Int) : Ieee.Datum → Prop
  | .number _ m i => m = 0 ∨ (m.log2 : Int) + i ≤ E
  | _ => False

theorem cut_le (neg : Bool) (n drop c : Nat) (h0 : drop = 0 → n ≤ 2 ^ c) (h1 : 0 < drop → n < 2 ^ (c + drop)) : Ieee.Toward.even.cut neg n drop ≤ 2 ^ c := by
  unfold Ieee.Toward.cut
  simp only [Nat.shiftLeft_eq, Nat.one_mul]
  by_cases hd : drop = 0
  · subst hd
    have hm : min 0 (n.log2 + 2) = 0 := by omega
    rw [hm]
    simp only [Nat.pow_zero, Nat.div_one, Nat.mod_one]
    have := h0 rfl
    simpa using this
  · have h1 := h1 (by omega)
    have hp : 0 < 2 ^ c := Nat.two_pow_pos _
    have hlow : n / 2 ^ min drop (n.log2 + 2) < 2 ^ c := by
      by_cases hl : drop ≤ n.log2 + 2
      · rw [Nat.min_eq_left hl]
        rw [Nat.div_lt_iff_lt_mul (Nat.two_pow_pos _), ← Nat.pow_add]
        exact h1
      · rw [Nat.min_eq_right (by omega)]
        have : n < 2 ^ (n.log2 + 2) := Nat.lt_of_lt_of_le Nat.lt_log2_self (Nat.pow_le_pow_right (by omega) (by omega))
        rw [Nat.div_eq_of_lt this]; exact hp
    have hb : ∀ b : Bool, b.toNat ≤ 1 := by decide
    have := hb (decide (2 ^ min drop (n.log2 + 2) < 2 * (n % 2 ^ min drop (n.log2 + 2))) || (2 ^ min drop (n.log2 + 2) == 2 * (n % 2 ^ min drop (n.log2 + 2)) && n / 2 ^ min drop (n.log2 + 2) % 2 == 1))
    omega

theorem log2_lt (m : Nat) : m < 2 ^ (m.log2 + 1) := Nat.lt_log2_self

/-- Rounding: what lies below 2 ^ (E + 1) is written as what is at most 2 ^ (E + 1). -/
theorem nearest_bd (k : FloatKind) (neg : Bool) (mag : Nat) (place E : Int) (h : mag = 0 ∨ (mag.log2 : Int) + place ≤ E)
    (hlo : k.format.leastPlace + k.format.fractionBits ≤ E) (hhi : E + 2 ≤ (2 : Int) ^ (k.format.exponentBits - 1) - 1) :
    Bd (E + 1) (k.format.read (k.format.nearest neg mag place)) ∧ (k.format.read (k.format.nearest neg mag place)).neg = neg := by
  have hfb : ∀ r, r < k.format.binade → r.log2 + 1 ≤ k.format.fractionBits ∨ r = 0 := by
    intro r hr
    by_cases h0 : r = 0
    · exact .inr h0
    · left
      have := (Nat.log2_lt h0).2 hr
      exact this
  have hbi : k.format.binade = 2 ^ k.format.fractionBits := rfl
  have hle : k.format.leastPlace = 2 - (2 : Int) ^ (k.format.exponentBits - 1) - k.format.fractionBits := rfl
  have hinf : (k.format.infRung : Int) = ((2 : Int) ^ (k.format.exponentBits - 1) * 2 - 1) * k.format.binade := by cases k <;> decide
  generalize hf : k.format = f at *
  unfold Ieee.Format.nearest
  dsimp only
  by_cases hm : mag = 0
  · rw [if_pos hm, read_word f neg 0 (Nat.two_pow_pos _), if_pos (show 0 < f.binade from Nat.two_pow_pos _)]
    exact ⟨.inl rfl, rfl⟩
  rw [if_neg hm]
  have h := h.resolve_left hm
  have hself := log2_lt mag
  generalize hlast : max (place + (mag.log2 : Int) - f.fractionBits) f.leastPlace = last
  have hl1 : f.leastPlace ≤ last := by omega
  have hl2 : last ≤ E - f.fractionBits := by omega
  have hl3 : place + (mag.log2 : Int) - f.fractionBits ≤ last := by omega
  have hkept : Ieee.Toward.even.cut neg (mag <<< (place - last).toNat) (last - place).toNat ≤ 2 ^ (f.fractionBits + 1) := by
    refine cut_le neg _ _ _ ?_ ?_
    · intro hd
      have : mag <<< (place - last).toNat < 2 ^ (mag.log2 + 1 + (place - last).toNat) := by
        rw [Nat.shiftLeft_eq, Nat.pow_add]
        exact Nat.mul_lt_mul_of_pos_right hself (Nat.two_pow_pos _)
      exact Nat.le_of_lt (Nat.lt_of_lt_of_le this (Nat.pow_le_pow_right (by omega) (by omega)))
    · intro hd
      have e0 : (place - last).toNat = 0 := by omega
      rw [e0, Nat.shiftLeft_zero]
      exact Nat.lt_of_lt_of_le hself (Nat.pow_le_pow_right (by omega) (by omega))
  generalize Ieee.Toward.even.cut neg (mag <<< (place - last).toNat) (last - place).toNat = kept at hkept
  have hk2 : kept ≤ 2 * f.binade := by rw [hbi]; rw [Nat.pow_succ] at hkept; omega
  have hpos : 0 < f.binade := by rw [hbi]; exact Nat.two_pow_pos _
  generalize hB : f.binade = B at *
  have hq : (last - f.leastPlace).toNat ≤ (E - f.fractionBits - f.leastPlace).toNat := by omega
  have hr1 : (last - f.leastPlace).toNat * B + kept ≤ ((E - f.fractionBits - f.leastPlace).toNat + 2) * B := by
    have := Nat.mul_le_mul_right B hq
    rw [Nat.add_mul]; omega
  generalize hrung : (last - f.leastPlace).toNat * B + kept = rung at hr1
  have hlt : rung < f.infRung := by
    have hN : ((E - f.fractionBits - f.leastPlace).toNat + 2 : Int) ≤ (2 : Int) ^ (f.exponentBits - 1) * 2 - 2 := by omega
    have : (((E - f.fractionBits - f.leastPlace).toNat + 2 : Nat) : Int) * (B : Int) ≤ ((2 : Int) ^ (f.exponentBits - 1) * 2 - 2) * (B : Int) :=
      Int.mul_le_mul_of_nonneg_right (by omega) (by omega)
    have h2 : (rung : Int) ≤ (((E - f.fractionBits - f.leastPlace).toNat + 2 : Nat) : Int) * (B : Int) := by
      rw [← Int.natCast_mul]; exact Int.ofNat_le.2 hr1
    have h3 : ((2 : Int) ^ (f.exponentBits - 1) * 2 - 1) * (B : Int) = ((2 : Int) ^ (f.exponentBits - 1) * 2 - 2) * (B : Int) + B := by
      have : ((2 : Int) ^ (f.exponentBits - 1) * 2 - 1) = ((2 : Int) ^ (f.exponentBits - 1) * 2 - 2) + 1 := by omega
      rw [this, Int.add_mul, Int.one_mul]
    omega
  rw [Nat.min_eq_left (Nat.le_of_lt hlt)]
  rw [read_word f neg rung (Nat.lt_trans hlt f.infRung_lt), hB]
  by_cases h1 : rung < B
  · rw [if_pos h1]
    refine ⟨?_, rfl⟩
    rcases hfb rung h1 with h2 | h2
    · right; omega
    · exact .inl h2
  · rw [if_neg h1, if_pos hlt]
    refine ⟨.inr ?_, rfl⟩
    have hr : rung % B < B := Nat.mod_lt _ hpos
    have hlog : (B + rung % B).log2 < f.fractionBits + 1 := (Nat.log2_lt (by omega)).2 (by rw [Nat.pow_succ, ← hbi]; omega)
    have hdiv : rung / B ≤ (E - f.fractionBits - f.leastPlace).toNat + 2 := Nat.div_le_of_le_mul (by rw [Nat.mul_comm]; exact hr1)
    omega

/-- A number up to which not-a-number, below 2 ^ (E + 1). -/
def VB (k : FloatKind) (E : Int) (a : Option Nat) : Prop := ∃ b, a = some b ∧ Bd E (k.decode b)

theorem Bd.mono {E F : Int} {d : Ieee.Datum} (h : Bd E d) (hEF : E ≤ F) : Bd F d := by
  cases d <;> simp only [Bd] at h ⊢
  omega
theorem VB.mono {k : FloatKind} {E F : Int} {a : Option Nat} (h : VB k E a) (hEF : E ≤ F) : VB k F a :=
  let ⟨b, e, hb⟩ := h; ⟨b, e, hb.mono hEF⟩

/-- E lies where numbers of the kind are of full precision and not too great. -/
def Fit (k : FloatKind) (E : Int) : Prop := match k with
  | .f32 => -126 ≤ E ∧ E ≤ 125
  | .f64 => -1022 ≤ E ∧ E ≤ 1021

theorem write_bd (k : FloatKind) (neg : Bool) (mag : Nat) (place E : Int) (h : mag = 0 ∨ (mag.log2 : Int) + place ≤ E) (hE : Fit k E) :
    Bd (E + 1) (k.decode (k.format.write (.number neg mag place))) ∧ (k.decode (k.format.write (.number neg mag place))).neg = neg := by
  refine nearest_bd k neg mag place E h ?_ ?_
  · cases k
    · show (-149 : Int) + 23 ≤ E; have := hE.1; omega
    · show (-1074 : Int) + 52 ≤ E; have := hE.1; omega
  · cases k
    · show E + 2 ≤ 127; have := hE.2; omega
    · show E + 2 ≤ 1023; have := hE.2; omega

theorem log2_mul_le (m n : Nat) : (m * n).log2 ≤ m.log2 + n.log2 + 1 := by
  by_cases h : m * n = 0
  · rw [h]; simp
  · have := (Nat.log2_lt h (k := m.log2 + n.log2 + 2)).2 (by
      calc m * n < 2 ^ (m.log2 + 1) * 2 ^ (n.log2 + 1) := Nat.mul_lt_mul'' (log2_lt m) (log2_lt n)
        _ = 2 ^ (m.log2 + n.log2 + 2) := by rw [← Nat.pow_add]; congr 1; omega)
    omega

theorem signed_natAbs (s : Bool) (m u : Nat) : (Ieee.signed s m u).natAbs = m <<< u := by
  unfold Ieee.signed
  cases s
  · exact Int.natAbs_natCast _
  · exact (Int.natAbs_neg _).trans (Int.natAbs_natCast _)

theorem vmul_bd {k : FloatKind} {E F : Int} {a b : Option Nat} (ha : VB k E a) (hb : VB k F b) (h : Fit k (E + F + 1)) : VB k (E + F + 2) (vop .mul k a b) := by
  obtain ⟨x, rfl, hx⟩ := ha
  obtain ⟨y, rfl, hy⟩ := hb
  unfold FloatKind.decode at hx hy
  show VB k _ (floatBits .mul k x y)
  unfold floatBits Ieee.Format.mul
  cases hdx : k.format.read x with
  | number s m i =>
    cases hdy : k.format.read y with
    | number t n j =>
      rw [hdx] at hx; rw [hdy] at hy
      simp only [Bd] at hx hy
      simp only [Ieee.Datum.product, Option.map_some]
      have := write_bd k (s ^^ t) (m * n) (i + j) (E + F + 1) (by
        rcases hx with rfl | hx
        · left; simp
        · rcases hy with rfl | hy
          · left; simp
          · right; have := log2_mul_le m n; omega) h
      exact ⟨_, rfl, this.1.mono (by omega)⟩
    | infinity => rw [hdy] at hy; exact hy.elim
    | nan => rw [hdy] at hy; exact hy.elim
  | infinity => rw [hdx] at hx; exact hx.elim
  | nan => rw [hdx] at hx; exact hx.elim

theorem log2_shl_lt {m u : Nat} {c : Nat} (h : m = 0 ∨ m.log2 + u < c) : m <<< u < 2 ^ c := by
  rw [Nat.shiftLeft_eq]
  rcases h with rfl | h
  · simp; exact Nat.two_pow_pos _
  · calc m * 2 ^ u < 2 ^ (m.log2 + 1) * 2 ^ u := Nat.mul_lt_mul_of_pos_right (log2_lt m) (Nat.two_pow_pos _)
      _ = 2 ^ (m.log2 + 1 + u) := (Nat.pow_add ..).symm
      _ ≤ 2 ^ c := Nat.pow_le_pow_right (by omega) (by omega)

theorem sum_bd {d e : Ieee.Datum} {E F : Int} (hd : Bd E d) (he : Bd F e) : ∃ r, d.sum e = some r ∧ Bd (max E F + 1) r := by
  cases d with
  | number s m i =>
    cases e with
    | number t n j =>
      simp only [Bd] at hd he
      refine ⟨_, rfl, ?_⟩
      simp only [Bd]
      by_cases h0 : (Ieee.signed s m (i - min i j).toNat + Ieee.signed t n (j - min i j).toNat).natAbs = 0
      · exact .inl h0
      · right
        have hle : (Ieee.signed s m (i - min i j).toNat + Ieee.signed t n (j - min i j).toNat).natAbs ≤ m <<< (i - min i j).toNat + n <<< (j - min i j).toNat := by
          have := Int.natAbs_add_le (Ieee.signed s m (i - min i j).toNat) (Ieee.signed t n (j - min i j).toNat)
          rw [signed_natAbs, signed_natAbs] at this
          exact this
        generalize (Ieee.signed s m (i - min i j).toNat + Ieee.signed t n (j - min i j).toNat).natAbs = g at h0 hle
        generalize hc : (max E F + 1 - min i j).toNat = c
        by_cases hmn : m = 0 ∧ n = 0
        · obtain ⟨rfl, rfl⟩ := hmn; simp at hle; omega
        have h1 : m <<< (i - min i j).toNat < 2 ^ c := log2_shl_lt (by omega)
        have h2 : n <<< (j - min i j).toNat < 2 ^ c := log2_shl_lt (by omega)
        have h3 : g < 2 ^ (c + 1) := by rw [Nat.pow_succ]; omega
        have := (Nat.log2_lt h0).2 h3
        omega
    | infinity => exact he.elim
    | nan => exact he.elim
  | infinity => exact hd.elim
  | nan => exact hd.elim

theorem Bd.opposite {E : Int} {d : Ieee.Datum} (h : Bd E d) : Bd E d.opposite := by cases d <;> exact h

theorem write_of_bd {k : FloatKind} {E : Int} {d : Ieee.Datum} (h : Bd E d) (hE : Fit k E) : Bd (E + 1) (k.decode (k.format.write d)) := by
  cases d with
  | number s m i => exact (write_bd k s m i E h hE).1
  | infinity => exact h.elim
  | nan => exact h.elim

theorem vadd_bd {k : FloatKind} {E F : Int} {a b : Option Nat} (ha : VB k E a) (hb : VB k F b) (h : Fit k (max E F + 1)) : VB k (max E F + 2) (vop .add k a b) := by
  obtain ⟨x, rfl, hx⟩ := ha
  obtain ⟨y, rfl, hy⟩ := hb
  obtain ⟨r, hr, hb⟩ := sum_bd hx hy
  show VB k _ ((((k.decode x).sum (k.decode y)).map k.format.write))
  rw [hr]
  exact ⟨_, rfl, (write_of_bd hb h).mono (by omega)⟩

theorem vsub_bd {k : FloatKind} {E F : Int} {a b : Option Nat} (ha : VB k E a) (hb : VB k F b) (h : Fit k (max E F + 1)) : VB k (max E F + 2) (vop .sub k a b) := by
  obtain ⟨x, rfl, hx⟩ := ha
  obtain ⟨y, rfl, hy⟩ := hb
  obtain ⟨r, hr, hb⟩ := sum_bd hx hy.opposite
  show VB k _ ((((k.decode x).sum (k.decode y).opposite).map k.format.write))
  rw [hr]
  exact ⟨_, rfl, (write_of_bd hb h).mono (by omega)⟩

/-- At least 2 ^ F. -/
def Lo (F : Int) : Ieee.Datum → Prop
  | .number _ m i => m ≠ 0 ∧ F ≤ (m.log2 : Int) + i
  | _ => False
def VL (k : FloatKind) (F : Int) (a : Option Nat) : Prop := ∃ b, a = some b ∧ Lo F (k.decode b)

theorem vquo_bd {k : FloatKind} {E F G : Int} {a b : Option Nat} (ha : VB k E a) (hb : VB k G b) (hl : VL k F b) (h : Fit k (E - F + 1)) : VB k (E - F + 2) (vop .quo k a b) := by
  obtain ⟨x, rfl, hx⟩ := ha
  obtain ⟨y, rfl, hy⟩ := hb
  obtain ⟨y', e, hly⟩ := hl
  cases e
  unfold FloatKind.decode at hx hy hly
  show VB k _ (floatBits .quo k x y)
  unfold floatBits Ieee.Format.div
  cases hdx : k.format.read x with
  | number s m i =>
    cases hdy : k.format.read y with
    | number t n j =>
      rw [hdx] at hx; rw [hdy] at hly
      simp only [Bd] at hx
      simp only [Lo] at hly
      obtain ⟨hn, hF⟩ := hly
      simp only [Ieee.Datum.quotient, if_neg hn, Option.map_some]
      generalize hc : k.format.fractionBits + 2 = c
      generalize hmo : c + n.log2 - m.log2 = more
      have := write_bd k (s ^^ t) (2 * (m <<< more / n) + (m <<< more % n != 0).toNat) (i - j - more - 1) (E - F + 1) (by
        rcases hx with rfl | hx
        · left; simp
        · right
          have h1 : m <<< more < 2 ^ (m.log2 + 1 + more) := log2_shl_lt (by omega)
          have h2 : 2 ^ n.log2 ≤ n := Nat.log2_self_le hn
          have h3 : m <<< more / n < 2 ^ (m.log2 + 1 + more - n.log2) ∨ m <<< more / n = 0 := by
            by_cases hlt : n.log2 ≤ m.log2 + 1 + more
            · left
              rw [Nat.div_lt_iff_lt_mul (by omega)]
              calc m <<< more < 2 ^ (m.log2 + 1 + more) := h1
                _ = 2 ^ (m.log2 + 1 + more - n.log2) * 2 ^ n.log2 := by rw [← Nat.pow_add]; congr 1; omega
                _ ≤ _ := Nat.mul_le_mul_left _ h2
            · right
              exact Nat.div_eq_of_lt (Nat.lt_of_lt_of_le h1 (Nat.le_trans (Nat.pow_le_pow_right (by omega) (by omega)) h2))
          have hb : (m <<< more % n != 0).toNat ≤ 1 := by cases (m <<< more % n != 0) <;> simp
          have h4 : 2 * (m <<< more / n) + (m <<< more % n != 0).toNat < 2 ^ (m.log2 + 1 + more - n.log2 + 1) := by
            rw [Nat.pow_succ]
            have := Nat.two_pow_pos (m.log2 + 1 + more - n.log2)
            omega
          generalize 2 * (m <<< more / n) + (m <<< more % n != 0).toNat = g at h4
          by_cases hg : g = 0
          · subst hg; simp; omega
          · have := (Nat.log2_lt hg).2 h4
            omega) h
      exact ⟨_, rfl, this.1.mono (by omega)⟩
    | infinity => rw [hdy] at hy; exact hy.elim
    | nan => rw [hdy] at hy; exact hy.elim
  | infinity => rw [hdx] at hx; exact hx.elim
  | nan => rw [hdx] at hx; exact hx.elim

/-! ### Widening and narrowing -/
theorem read32_bd (b : Nat) {s : Bool} {m : Nat} {e : Int} (h : (FloatKind.f32).decode b = .number s m e) : Bd 127 ((FloatKind.f32).decode b) := by
  rw [h]
  unfold FloatKind.decode FloatKind.format Ieee.Format.read at h
  dsimp only at h
  have h1 : Ieee.single.binade = 2 ^ 23 := rfl
  have h2 : Ieee.single.infRung = 255 * 2 ^ 23 := rfl
  have h3 : Ieee.single.leastPlace = -149 := rfl
  generalize b % Ieee.single.signWeight = r at h
  rw [h1, h2, h3] at h
  split at h
  · rename_i hr
    injection h with _ hm he
    subst hm he
    by_cases h0 : r = 0
    · exact .inl h0
    · right; have := (Nat.log2_lt h0).2 hr; omega
  · split at h
    · rename_i hr
      injection h with _ hm he
      subst hm he
      right
      have := (Nat.log2_lt (n := 2 ^ 23 + r % 2 ^ 23) (by omega)).2 (show 2 ^ 23 + r % 2 ^ 23 < 2 ^ 24 by omega)
      omega
    · split at h <;> cases h

theorem cls_some {k : FloatKind} {b x : Nat} (h : cls k b = some x) : b = x ∧ (k.decode x).isNaN = false := by
  unfold cls at h
  split at h
  · cases h
  · rename_i hn; cases h; exact ⟨rfl, by simpa using hn⟩
theorem cls_none {k : FloatKind} {b : Nat} (h : cls k b = none) : (k.decode b).isNaN = true := by
  unfold cls at h
  split at h
  · assumption
  · cases h
theorem cls_of_not {k : FloatKind} {b : Nat} (h : (k.decode b).isNaN = false) : cls k b = some b := by simp [cls, h]

theorem wide_some {b : Nat} (h : ((FloatKind.f32).decode b).isNaN = false) : ∃ r, floatToFloatBits .f32 b .f64 = some r ∧ ((FloatKind.f64).decode r).isNaN = false ∧ (∀ E, 0 ≤ E → Bd E ((FloatKind.f32).decode b) → Bd (E + 1) ((FloatKind.f64).decode r)) := by
  unfold floatToFloatBits
  rw [if_neg (by decide)]
  cases hd : (FloatKind.f32).decode b with
  | nan => rw [hd] at h; cases h
  | infinity s => exact ⟨_, rfl, write_notNaN _ _ rfl, fun _ _ hb => hb.elim⟩
  | number s m e =>
    have hb := read32_bd b hd
    rw [hd] at hb
    have hw := (write_bd .f64 s m e 127 hb ⟨by decide, by decide⟩).1
    have hni : ((FloatKind.f64).decode ((FloatKind.f64).encode (.number s m e))).isInfinity = false := by
      unfold FloatKind.encode
      cases hx : (FloatKind.f64).decode ((FloatKind.f64).format.write (.number s m e)) with
      | number => rfl
      | infinity => rw [hx] at hw; exact hw.elim
      | nan => rfl
    simp only [hni, Bool.false_eq_true, if_false]
    refine ⟨_, rfl, write_notNaN _ _ rfl, fun E hE hbE => ?_⟩
    by_cases hE2 : E ≤ 127
    · exact (write_bd .f64 s m e E hbE ⟨by omega, by omega⟩).1
    · exact hw.mono (by omega)

theorem cres_wide (b : Nat) (w : World) : cls .f64 (cres .f32 b .f64 w) = vwide (cls .f32 b) := by
  cases hb : cls .f32 b with
  | none =>
    have hn := cls_none hb
    have : floatToFloatBits .f32 b .f64 = none := by
      unfold floatToFloatBits
      rw [if_neg (by decide)]
      cases hd : (FloatKind.f32).decode b with
      | nan => rfl
      | infinity s => rw [hd] at hn; cases hn
      | number s m e => rw [hd] at hn; cases hn
    unfold cres
    rw [this]
    simp only [hn, if_true, cls_drawn]
    rfl
  | some x =>
    obtain ⟨rfl, hn⟩ := cls_some hb
    obtain ⟨r, hr, hnr, _⟩ := wide_some hn
    unfold cres vwide
    rw [hr]
    simp [hr, cls_of_not hnr]

theorem vwide_some {x : Nat} (h : ((FloatKind.f32).decode x).isNaN = false) : ∃ r, vwide (some x) = some r := by
  obtain ⟨r, hr, _⟩ := wide_some h
  exact ⟨r, by simpa [vwide] using hr⟩

theorem vwide_bd {E : Int} {a : Option Nat} (h : VB .f32 E a) (hE : 0 ≤ E) : VB .f64 (E + 1) (vwide a) := by
  obtain ⟨b, rfl, hb⟩ := h
  have hn : ((FloatKind.f32).decode b).isNaN = false := by
    cases hd : (FloatKind.f32).decode b with
    | nan => rw [hd] at hb; exact hb.elim
    | infinity s => rfl
    | number s m e => rfl
  obtain ⟨r, hr, _, hbd⟩ := wide_some hn
  exact ⟨r, by simpa [vwide] using hr, hbd E hE hb⟩

/-- A 64-bit number that is not too great for a 32-bit one: one of which the narrowing is told. -/
def Okn (a : Option Nat) : Prop := a = none ∨ ∃ r, vnarrow a = some r

theorem cres_narrow {b : Nat} (h : Okn (cls .f64 b)) (w : World) : cls .f32 (cres .f64 b .f32 w) = vnarrow (cls .f64 b) := by
  cases hb : cls .f64 b with
  | none =>
    have hn := cls_none hb
    have : floatToFloatBits .f64 b .f32 = none := by
      unfold floatToFloatBits
      rw [if_neg (by decide)]
      cases hd : (FloatKind.f64).decode b with
      | nan => rfl
      | infinity s => rw [hd] at hn; cases hn
      | number s m e => rw [hd] at hn; cases hn
    unfold cres
    rw [this]
    simp only [hn, if_true, cls_drawn]
    rfl
  | some x =>
    obtain ⟨rfl, hn⟩ := cls_some hb
    rw [hb] at h
    obtain ⟨r, hr⟩ := h.resolve_left (by simp)
    have hr' : floatToFloatBits .f64 b .f32 = some r := by simpa [vnarrow] using hr
    have hnr : ((FloatKind.f32).decode r).isNaN = false := by
      unfold floatToFloatBits at hr'
      rw [if_neg (by decide)] at hr'
      split at hr'
      · cases hr'
      · cases hr'; exact write_notNaN _ _ rfl
      · split at hr'
        · cases hr'
        · cases hr'; exact write_notNaN _ _ rfl
    unfold cres
    rw [hr', hr, ]
    exact cls_of_not hnr

theorem narrow_eq {b : Nat} {a : Option Nat} (hb : cls .f64 b = a) (h : Okn a) (w : World) : cls .f32 (cres .f64 b .f32 w) = vnarrow a := by
  subst hb; exact cres_narrow h w

theorem okn_of_bd {E : Int} {a : Option Nat} (h : VB .f64 E a) (hE : E ≤ 125) : Okn a := by
  obtain ⟨b, rfl, hb⟩ := h
  right
  unfold vnarrow floatToFloatBits
  simp only [Option.bind_some]
  rw [if_neg (by decide)]
  cases hd : (FloatKind.f64).decode b with
  | nan => rw [hd] at hb; exact hb.elim
  | infinity s => rw [hd] at hb; exact hb.elim
  | number s m e =>
    rw [hd] at hb
    have hw := (write_bd .f32 s m e 125 (hb.mono hE) ⟨by decide, by decide⟩).1
    have hni : ((FloatKind.f32).decode ((FloatKind.f32).encode (.number s m e))).isInfinity = false := by
      unfold FloatKind.encode
      cases hx : (FloatKind.f32).decode ((FloatKind.f32).format.write (.number s m e)) with
      | number => rfl
      | infinity => rw [hx] at hw; exact hw.elim
      | nan => rfl
    simp only [hni, Bool.false_eq_true, if_false]
    exact ⟨_, rfl⟩

/-! ### Comparisons -/
def vord (k : FloatKind) (a b : Option Nat) : Option Ordering := a.bind fun x => b.bind fun y => k.format.order x y

theorem order_cls (k : FloatKind) (x y : Nat) : k.format.order x y = vord k (cls k x) (cls k y) := by
  unfold vord cls FloatKind.decode Ieee.Format.order
  cases hx : k.format.read x <;> cases hy : k.format.read y <;> simp [Ieee.Datum.isNaN, Ieee.Datum.order, hx, hy]

theorem order_self {k : FloatKind} {x : Nat} (h : (k.decode x).isNaN = false) : k.format.order x x = some .eq := by
  unfold FloatKind.decode at h
  unfold Ieee.Format.order
  cases hx : k.format.read x with
  | number s m e => simp [Ieee.Datum.order]
  | infinity s => simp [Ieee.Datum.order]
  | nan => rw [hx] at h; cases h

theorem order_nan {k : FloatKind} {x y : Nat} (h : (k.decode x).isNaN = true) : k.format.order x y = none := by
  unfold FloatKind.decode at h
  unfold Ieee.Format.order
  cases hx : k.format.read x with
  | number s m e => rw [hx] at h; cases h
  | infinity s => rw [hx] at h; cases h
  | nan => simp [Ieee.Datum.order]

/-! ### The square root -/
def sres (x : Nat) (w : World) : Nat :=
  match (FloatKind.f64).format.sqrt x with
  | some r => r
  | none => drawn .f64 (w.tape w.drawn (.nanBits .f64 x x))
def scnt (x : Nat) : Nat := if ((FloatKind.f64).format.sqrt x).isSome then 0 else 1
def vsqrt (a : Option Nat) : Option Nat := a.bind fun x => (FloatKind.f64).format.sqrt x

theorem run_sqrt_entry (P : Program) (x : Nat) (w : World) : (Extern.MathSqrt.sqrt #[.float .f64 x]).run P w = .ok (.float .f64 (sres x w)) (w.drewN (scnt x)) := by
  change Sem.run P (match (FloatKind.f64).format.sqrt x with
    | some r => pure (Value.float .f64 r)
    | none => (choose (.nanBits .f64 x x) >>= fun b => pure (Value.float .f64 b))) w = _
  cases h : (FloatKind.f64).format.sqrt x with
  | some r => simp [h, sres, scnt, World.drewN_zero]
  | none =>
    have e : sres x w = (Question.nanBits .f64 x x).cut (w.tape w.drawn (.nanBits .f64 x x)) := by unfold sres; rw [h]; rfl
    rw [e]
    simp [h, scnt, ← World.drew_is_drewN, Question.forced]

theorem sres_cls (x : Nat) (w : World) : cls .f64 (sres x w) = vsqrt (cls .f64 x) := by
  cases hx : cls .f64 x with
  | none =>
    have hn := cls_none hx
    have : (FloatKind.f64).format.sqrt x = none := by
      unfold FloatKind.decode at hn
      unfold Ieee.Format.sqrt
      cases hd : (FloatKind.f64).format.read x with
      | nan => rfl
      | infinity s => rw [hd] at hn; cases hn
      | number s m e => rw [hd] at hn; cases hn
    unfold sres; rw [this]; exact cls_drawn _ _
  | some y =>
    obtain ⟨rfl, hn⟩ := cls_some hx
    show _ = (FloatKind.f64).format.sqrt x
    unfold sres
    cases h : (FloatKind.f64).format.sqrt x with
    | none => exact cls_drawn _ _
    | some r => exact cls_of_not (map_write_notNaN (f := (FloatKind.f64).format) h fun d hd => root_notNaN hd)

theorem rootFrom_lt (n : Nat) : ∀ t r, Ieee.Datum.rootFrom n t r < r + 2 ^ t := by
  intro t
  induction t with
  | zero => intro r; simp [Ieee.Datum.rootFrom]
  | succ t ih =>
    intro r
    simp only [Ieee.Datum.rootFrom]
    have hp : 2 ^ (t + 1) = 2 ^ t + 2 ^ t := by rw [Nat.pow_succ]; omega
    split
    · have := ih (r + 1 <<< t)
      rw [Nat.shiftLeft_eq, Nat.one_mul] at this ⊢
      omega
    · have := ih r
      have := Nat.two_pow_pos t
      omega

theorem log2_shl (m u : Nat) (h : m ≠ 0) : (m <<< u).log2 ≤ m.log2 + u := by
  have h1 : m <<< u < 2 ^ (m.log2 + u + 1) := log2_shl_lt (by omega)
  have h0 : m <<< u ≠ 0 := by rw [Nat.shiftLeft_eq]; exact Nat.mul_ne_zero h (by have := Nat.two_pow_pos u; omega)
  have := (Nat.log2_lt h0).2 h1
  omega

theorem root_bd {c : Nat} {d r : Ieee.Datum} {E : Int} (hd : Bd E d) (h : d.root c = some r) : Bd (E / 2 + 1) r := by
  cases d with
  | number s m i =>
    unfold Ieee.Datum.root at h
    dsimp only at h
    split at h
    · rename_i h0
      cases h
      exact .inl h0
    · rename_i h0
      split at h
      · cases h
      · cases h
        have hd := hd.resolve_left h0
        simp only [Bd]
        generalize hmore : 2 * c - m.log2 + ((i - (2 * c - m.log2 : Nat)) % 2).toNat = more
        have hl := log2_shl m more h0
        generalize m <<< more = n at hl
        have hw := rootFrom_lt n (n.log2 / 2 + 1) 0
        generalize Ieee.Datum.rootFrom n (n.log2 / 2 + 1) 0 = whole at hw
        have hb : (whole * whole != n).toNat ≤ 1 := by cases (whole * whole != n) <;> simp
        generalize (whole * whole != n).toNat = bit at hb
        by_cases hz : 2 * whole + bit = 0
        · exact .inl hz
        · right
          have h4 : 2 * whole + bit < 2 ^ (n.log2 / 2 + 2) := by
            rw [Nat.pow_succ]; omega
          have h5 := (Nat.log2_lt hz).2 h4
          have hcast : (((n.log2 / 2 : Nat) : Int)) ≤ ((m.log2 + more : Nat) : Int) / 2 := by omega
          omega
  | infinity => exact hd.elim
  | nan => exact hd.elim

theorem vsqrt_bd {E : Int} {a : Option Nat} (h : VB .f64 E a) (hE : 0 ≤ E) (hE2 : E ≤ 1000) : vsqrt a = none ∨ VB .f64 (E / 2 + 2) (vsqrt a) := by
  obtain ⟨x, rfl, hx⟩ := h
  unfold vsqrt Ieee.Format.sqrt
  simp only [Option.bind_some]
  cases hr : ((FloatKind.f64).format.read x).root ((FloatKind.f64).format.fractionBits + 2) with
  | none => exact .inl rfl
  | some r =>
    right
    exact ⟨_, rfl, (write_of_bd (k := .f64) (root_bd hx hr) (show Fit .f64 (E / 2 + 1) from ⟨by omega, by omega⟩)).mono (by omega)⟩

theorem vsqrt_wide_okn (b : Nat) : Okn (vsqrt (vwide (cls .f32 b))) := by
  cases hb : cls .f32 b with
  | none => exact .inl rfl
  | some x =>
    obtain ⟨rfl, hn⟩ := cls_some hb
    cases hd : (FloatKind.f32).decode b with
    | nan => rw [hd] at hn; cases hn
    | number s m e =>
      have := vwide_bd (a := some b) ⟨b, rfl, read32_bd b hd⟩ (by decide)
      rcases vsqrt_bd this (by decide) (by decide) with h | h
      · exact .inl h
      · exact okn_of_bd h (by decide)
    | infinity s =>
      have e : vwide (some b) = some ((FloatKind.f64).encode (.infinity s)) := by
        unfold vwide floatToFloatBits
        simp only [Option.bind_some]
        rw [if_neg (by decide), hd]
      rw [e]
      cases s
      · exact .inr ⟨(FloatKind.f32).encode (.infinity false), by decide +kernel⟩
      · exact .inl (by decide +kernel)

end Go.Proofs.YtkmggoagboikgaaDoor.Flo


/- Floats: bounds that rounding keeps; plain facts, no program. -/
namespace Go.Proofs.YtkmggoagboikgaaDoor.Flo
open Go

/-- 'at most 2 ^ E in size': a number 'm * 2 ^ i'. -/
def leN (E : Int) (m : Nat) (i : Int) : Prop := ∀ K : Nat, 0 ≤ i + K → 0 ≤ E + K → m * 2 ^ (i + K).toNat ≤ 2 ^ (E + K).toNat
/-- 'at least 2 ^ F in size'. -/
def geN (F : Int) (m : Nat) (i : Int) : Prop := m ≠ 0 ∧ F ≤ (m.log2 : Int) + i

theorem pow_split {a b : Int} (ha : 0 ≤ a) (hb : 0 ≤ b) : (2 : Nat) ^ (a + b).toNat = 2 ^ a.toNat * 2 ^ b.toNat := by
  rw [← Nat.pow_add]; congr 1; omega

theorem leN_of {E i : Int} {m : Nat} (K : Nat) (hi : 0 ≤ i + K) (hE : 0 ≤ E + K) (h : m * 2 ^ (i + K).toNat ≤ 2 ^ (E + K).toNat) : leN E m i := by
  intro L hiL hEL
  -- K and L differ by a common factor
  by_cases hKL : K ≤ L
  · have e1 : i + L = (i + K) + ((L - K : Nat) : Int) := by omega
    have e2 : E + L = (E + K) + ((L - K : Nat) : Int) := by omega
    rw [e1, e2, pow_split hi (by omega), pow_split hE (by omega), ← Nat.mul_assoc]
    exact Nat.mul_le_mul_right _ h
  · have e1 : i + K = (i + L) + ((K - L : Nat) : Int) := by omega
    have e2 : E + K = (E + L) + ((K - L : Nat) : Int) := by omega
    rw [e1, e2, pow_split hiL (by omega), pow_split hEL (by omega), ← Nat.mul_assoc] at h
    exact Nat.le_of_mul_le_mul_right h (Nat.two_pow_pos _)

theorem leN_mono {E F i : Int} {m : Nat} (h : leN E m i) (hEF : E ≤ F) : leN F m i := by
  refine leN_of (max (-i).toNat (-E).toNat) (by omega) (by omega) ?_
  exact Nat.le_trans (h _ (by omega) (by omega)) (Nat.pow_le_pow_right (by omega) (by omega))

theorem leN_log {E i : Int} {m : Nat} (h : leN E m i) : m = 0 ∨ (m.log2 : Int) + i ≤ E := by
  by_cases h0 : m = 0
  · exact .inl h0
  · right
    have hk := h (max (-i).toNat (-E).toNat) (by omega) (by omega)
    generalize hK : max (-i).toNat (-E).toNat = K at hk
    have h1 : 2 ^ m.log2 ≤ m := Nat.log2_self_le h0
    have h2 : 2 ^ (m.log2 + (i + K).toNat) ≤ 2 ^ (E + K).toNat := by
      rw [Nat.pow_add]; exact Nat.le_trans (Nat.mul_le_mul_right _ h1) hk
    have := (Nat.pow_le_pow_iff_right (by omega : 1 < 2)).1 h2
    omega

theorem leN_of_log {E i : Int} {m : Nat} (h : m = 0 ∨ (m.log2 : Int) + i < E) : leN E m i := by
  refine leN_of (max (-i).toNat (-E).toNat) (by omega) (by omega) ?_
  generalize hK : max (-i).toNat (-E).toNat = K
  rcases h with rfl | h
  · simp
  · have h1 := log2_lt m
    calc m * 2 ^ (i + K).toNat ≤ 2 ^ (m.log2 + 1) * 2 ^ (i + K).toNat := Nat.mul_le_mul_right _ (Nat.le_of_lt h1)
      _ = 2 ^ (m.log2 + 1 + (i + K).toNat) := (Nat.pow_add ..).symm
      _ ≤ 2 ^ (E + K).toNat := Nat.pow_le_pow_right (by omega) (by omega)

theorem cut_even_le (neg : Bool) (n drop C : Nat) (h : n ≤ C * 2 ^ drop) : Ieee.Toward.even.cut neg n drop ≤ C := by
  unfold Ieee.Toward.cut
  simp only [Nat.shiftLeft_eq, Nat.one_mul]
  by_cases hl : drop ≤ n.log2 + 2
  · rw [Nat.min_eq_left hl]
    have hp := Nat.two_pow_pos drop
    have hdm := Nat.div_add_mod n (2 ^ drop)
    have hlow : n / 2 ^ drop ≤ C := Nat.div_le_of_le_mul (by rw [Nat.mul_comm]; exact h)
    by_cases he : n / 2 ^ drop = C
    · have hr : n % 2 ^ drop = 0 := by
        rw [he, Nat.mul_comm] at hdm
        omega
      rw [hr, he]
      have : ((2 ^ drop == 2 * 0) && C % 2 == 1) = false := by
        have : (2 ^ drop == 2 * 0) = false := by simp
        rw [this]; rfl
      have h2 : decide (2 ^ drop < 2 * 0) = false := decide_eq_false (by omega)
      rw [this, h2]; simp
    · have hb : ∀ b : Bool, b.toNat ≤ 1 := by decide
      have := hb (decide (2 ^ drop < 2 * (n % 2 ^ drop)) || (2 ^ drop == 2 * (n % 2 ^ drop) && n / 2 ^ drop % 2 == 1))
      omega
  · rw [Nat.min_eq_right (by omega)]
    have h1 := log2_lt n
    have h2 : n < 2 ^ (n.log2 + 2) := Nat.lt_of_lt_of_le h1 (Nat.pow_le_pow_right (by omega) (by omega))
    rw [Nat.div_eq_of_lt h2, Nat.mod_eq_of_lt h2]
    have h3 : decide (2 ^ (n.log2 + 2) < 2 * n) = false := decide_eq_false (by rw [Nat.pow_succ]; omega)
    have h4 : (2 ^ (n.log2 + 2) == 2 * n) = false := by
      rw [beq_eq_false_iff_ne]; rw [Nat.pow_succ]; omega
    rw [h3, h4]; simp

theorem cut_even_ge (neg : Bool) (n drop C : Nat) (h : C * 2 ^ drop ≤ n) : C ≤ Ieee.Toward.even.cut neg n drop := by
  unfold Ieee.Toward.cut
  simp only [Nat.shiftLeft_eq, Nat.one_mul]
  by_cases hl : drop ≤ n.log2 + 2
  · rw [Nat.min_eq_left hl]
    have : C ≤ n / 2 ^ drop := (Nat.le_div_iff_mul_le (Nat.two_pow_pos _)).2 h
    exact Nat.le_trans this (Nat.le_add_right _ _)
  · have h1 := log2_lt n
    have h2 : n < 2 ^ drop := Nat.lt_of_lt_of_le h1 (Nat.pow_le_pow_right (by omega) (by omega))
    have hC : C = 0 := by
      by_cases hC : C = 0
      · exact hC
      · have h3 : 1 * 2 ^ drop ≤ C * 2 ^ drop := Nat.mul_le_mul_right _ (by omega)
        rw [Nat.one_mul] at h3
        exact absurd (Nat.le_trans h3 h) (by omega)
    rw [hC]; exact Nat.zero_le _

/-- A datum is a number, at most 2 ^ E. -/
def Le (E : Int) : Ieee.Datum → Prop
  | .number _ m i => leN E m i
  | _ => False

/-- The exponents at which a kind is of full precision. -/
def Norm (k : FloatKind) (E : Int) : Prop := match k with
  | .f32 => -126 ≤ E ∧ E ≤ 127
  | .f64 => -1022 ≤ E ∧ E ≤ 1023

/-- What the exponent's rung is, and how the kind's figures hang together. -/
theorem figures (k : FloatKind) : k.format.binade = 2 ^ k.format.fractionBits ∧ 0 < k.format.binade ∧
    (∀ E, Norm k E → k.format.leastPlace + k.format.fractionBits ≤ E ∧ ((E - k.format.fractionBits - k.format.leastPlace).toNat + 1) * k.format.binade < k.format.infRung) := by
  refine ⟨rfl, Nat.two_pow_pos _, fun E hE => ?_⟩
  cases k
  · have h1 : (FloatKind.f32).format.leastPlace = -149 := rfl
    have h2 : (FloatKind.f32).format.fractionBits = 23 := rfl
    have h3 : (FloatKind.f32).format.binade = 2 ^ 23 := rfl
    have h4 : (FloatKind.f32).format.infRung = 255 * 2 ^ 23 := rfl
    have := hE.1; have := hE.2
    rw [h1, h2, h3, h4]
    refine ⟨by omega, Nat.mul_lt_mul_of_pos_right (by omega) (Nat.two_pow_pos _)⟩
  · have h1 : (FloatKind.f64).format.leastPlace = -1074 := rfl
    have h2 : (FloatKind.f64).format.fractionBits = 52 := rfl
    have h3 : (FloatKind.f64).format.binade = 2 ^ 52 := rfl
    have h4 : (FloatKind.f64).format.infRung = 2047 * 2 ^ 52 := rfl
    have := hE.1; have := hE.2
    rw [h1, h2, h3, h4]
    refine ⟨by omega, Nat.mul_lt_mul_of_pos_right (by omega) (Nat.two_pow_pos _)⟩

/-- ROUNDING KEEPS 'at most 2 ^ E'. -/
theorem nearest_le (k : FloatKind) (neg : Bool) (mag : Nat) (place E : Int) (h : leN E mag place) (hE : Norm k E) :
    Le E (k.decode (k.format.nearest neg mag place)) ∧ (k.decode (k.format.nearest neg mag place)).neg = neg := by
  obtain ⟨hbi, hpos, hfig⟩ := figures k
  obtain ⟨hlo, hhi⟩ := hfig E hE
  unfold FloatKind.decode
  generalize k.format = f at *
  unfold Ieee.Format.nearest
  dsimp only
  by_cases hm : mag = 0
  · rw [if_pos hm, read_word f neg 0 (Nat.two_pow_pos _), if_pos hpos]
    refine ⟨?_, rfl⟩
    intro K _ _; simp
  rw [if_neg hm]
  have hlog := (leN_log h).resolve_left hm
  have hself := log2_lt mag
  generalize hlast : max (place + (mag.log2 : Int) - f.fractionBits) f.leastPlace = last
  have hl1 : f.leastPlace ≤ last := by omega
  have hl2 : last ≤ E - f.fractionBits := by omega
  have hl3 : place + (mag.log2 : Int) - f.fractionBits ≤ last := by omega
  -- what is kept, against any bound
  have hkept : ∀ C : Nat, mag * 2 ^ (place - last).toNat ≤ C * 2 ^ (last - place).toNat → Ieee.Toward.even.cut neg (mag <<< (place - last).toNat) (last - place).toNat ≤ C := by
    intro C hC
    exact cut_even_le neg _ _ C (by rw [Nat.shiftLeft_eq]; exact hC)
  have hk2 := hkept (2 ^ (f.fractionBits + 1)) (by
    rw [← Nat.pow_add]
    calc mag * 2 ^ (place - last).toNat ≤ 2 ^ (mag.log2 + 1) * 2 ^ (place - last).toNat := Nat.mul_le_mul_right _ (Nat.le_of_lt hself)
      _ = 2 ^ (mag.log2 + 1 + (place - last).toNat) := (Nat.pow_add ..).symm
      _ ≤ _ := Nat.pow_le_pow_right (by omega) (by omega))
  have hk1 : last = E - f.fractionBits → Ieee.Toward.even.cut neg (mag <<< (place - last).toNat) (last - place).toNat ≤ 2 ^ f.fractionBits := by
    intro hle
    refine hkept _ ?_
    have hK := h ((-place).toNat + (-E).toNat + (-last).toNat) (by omega) (by omega)
    generalize hKK : (-place).toNat + (-E).toNat + (-last).toNat = K at hK
    have e1 : (place - last).toNat + (min place last + K).toNat = (place + K).toNat := by omega
    have e2 : f.fractionBits + (last - place).toNat + (min place last + K).toNat = (E + K).toNat := by omega
    refine Nat.le_of_mul_le_mul_right (c := 2 ^ (min place last + K).toNat) ?_ (Nat.two_pow_pos _)
    rw [Nat.mul_assoc, ← Nat.pow_add, e1, Nat.mul_assoc, ← Nat.pow_add, ← Nat.pow_add, ← Nat.add_assoc, e2]
    exact hK
  clear hkept
  generalize Ieee.Toward.even.cut neg (mag <<< (place - last).toNat) (last - place).toNat = kept at *
  generalize hB : f.binade = B at *
  generalize hN : (E - f.fractionBits - f.leastPlace).toNat + 1 = N at *
  have hrung : (last - f.leastPlace).toNat * B + kept ≤ N * B := by
    by_cases hle : last = E - f.fractionBits
    · have h1 := hk1 hle
      rw [← hbi] at h1
      have h2 : (last - f.leastPlace).toNat + 1 ≤ N := by omega
      have := Nat.mul_le_mul_right B h2
      rw [Nat.add_mul, Nat.one_mul] at this
      omega
    · rw [Nat.pow_succ, ← hbi] at hk2
      have h2 : (last - f.leastPlace).toNat + 2 ≤ N := by omega
      have := Nat.mul_le_mul_right B h2
      rw [Nat.add_mul] at this
      omega
  generalize (last - f.leastPlace).toNat * B + kept = rung at hrung
  have hlt : rung < f.infRung := by omega
  rw [Nat.min_eq_left (Nat.le_of_lt hlt), read_word f neg rung (Nat.lt_trans hlt f.infRung_lt), hB]
  by_cases h1 : rung < B
  · rw [if_pos h1]
    refine ⟨leN_of_log ?_, rfl⟩
    by_cases h0 : rung = 0
    · exact .inl h0
    · right
      have := (Nat.log2_lt h0).2 (by rw [← hbi]; exact h1 : rung < 2 ^ f.fractionBits)
      omega
  · rw [if_neg h1, if_pos hlt]
    refine ⟨?_, rfl⟩
    show leN E (B + rung % B) _
    have hr : rung % B < B := Nat.mod_lt _ hpos
    have hdm := Nat.div_add_mod rung B
    have hdiv : rung / B ≤ N := Nat.div_le_of_le_mul (by rw [Nat.mul_comm]; exact hrung)
    have hge : 1 ≤ rung / B := (Nat.le_div_iff_mul_le hpos).2 (by omega)
    by_cases hq : rung / B = N
    · have hr0 : rung % B = 0 := by
        rw [hq, Nat.mul_comm] at hdm; omega
      rw [hq, hr0, Nat.add_zero, hbi]
      refine leN_of ((-E).toNat + (-f.leastPlace).toNat) (by omega) (by omega) ?_
      rw [← Nat.pow_add]
      exact Nat.pow_le_pow_right (by omega) (by omega)
    · refine leN_of_log (.inr ?_)
      have hlog := (Nat.log2_lt (n := B + rung % B) (by omega)).2 (show B + rung % B < 2 ^ (f.fractionBits + 1) by rw [Nat.pow_succ, ← hbi]; omega)
      omega

/-! ### Operations on what is bounded -/
def VLe (k : FloatKind) (E : Int) (a : Option Nat) : Prop := ∃ b, a = some b ∧ Le E (k.decode b)
theorem Le.mono {E F : Int} {d : Ieee.Datum} (h : Le E d) (hEF : E ≤ F) : Le F d := by
  cases d with
  | number s m i => exact leN_mono h hEF
  | infinity => exact h
  | nan => exact h
theorem VLe.mono {k : FloatKind} {E F : Int} {a : Option Nat} (h : VLe k E a) (hEF : E ≤ F) : VLe k F a := by
  obtain ⟨b, e, hb⟩ := h; exact ⟨b, e, hb.mono hEF⟩
theorem Le.opposite {E : Int} {d : Ieee.Datum} (h : Le E d) : Le E d.opposite := by cases d <;> exact h
theorem Le.bd {E : Int} {d : Ieee.Datum} (h : Le E d) : Bd E d := by
  cases d with
  | number s m i => exact leN_log h
  | infinity => exact h
  | nan => exact h
theorem Bd.le {E : Int} {d : Ieee.Datum} (h : Bd E d) : Le (E + 1) d := by
  cases d with
  | number s m i => exact leN_of_log (by simp only [Bd] at h; omega)
  | infinity => exact h
  | nan => exact h
theorem VLe.vb {k : FloatKind} {E : Int} {a : Option Nat} (h : VLe k E a) : VB k E a := by
  obtain ⟨b, e, hb⟩ := h; exact ⟨b, e, hb.bd⟩
theorem VLe.okn {E : Int} {a : Option Nat} (h : VLe .f64 E a) (hE : E ≤ 125) : Okn a := okn_of_bd h.vb hE

theorem write_le {k : FloatKind} {E : Int} {d : Ieee.Datum} (h : Le E d) (hE : Norm k E) : Le E (k.decode (k.format.write d)) := by
  cases d with
  | number s m i => exact (nearest_le k s m i E h hE).1
  | infinity => exact h.elim
  | nan => exact h.elim

theorem leN_mul {E F i j : Int} {m n : Nat} (h1 : leN E m i) (h2 : leN F n j) : leN (E + F) (m * n) (i + j) := by
  obtain ⟨K, hK1, hK2⟩ : ∃ K : Nat, 0 ≤ i + K ∧ 0 ≤ E + K := ⟨(-i).toNat + (-E).toNat, by omega, by omega⟩
  obtain ⟨L, hL1, hL2⟩ : ∃ L : Nat, 0 ≤ j + L ∧ 0 ≤ F + L := ⟨(-j).toNat + (-F).toNat, by omega, by omega⟩
  have k1 := h1 K hK1 hK2
  have k2 := h2 L hL1 hL2
  refine leN_of (K + L) (by omega) (by omega) ?_
  have e1 : i + j + ((K + L : Nat) : Int) = (i + K) + (j + L) := by omega
  have e2 : E + F + ((K + L : Nat) : Int) = (E + K) + (F + L) := by omega
  rw [e1, e2, pow_split hK1 hL1, pow_split hK2 hL2]
  generalize 2 ^ (i + K).toNat = a at *
  generalize 2 ^ (j + L).toNat = b at *
  have e3 : m * n * (a * b) = (m * a) * (n * b) := by simp only [Nat.mul_assoc, Nat.mul_left_comm]
  rw [e3]
  exact Nat.mul_le_mul k1 k2

theorem vmul_le {k : FloatKind} {E F : Int} {a b : Option Nat} (ha : VLe k E a) (hb : VLe k F b) (h : Norm k (E + F)) : VLe k (E + F) (vop .mul k a b) := by
  obtain ⟨x, rfl, hx⟩ := ha
  obtain ⟨y, rfl, hy⟩ := hb
  show VLe k _ ((((k.decode x).product (k.decode y)).map k.format.write))
  cases hdx : k.decode x with
  | number s m i =>
    cases hdy : k.decode y with
    | number t n j =>
      rw [hdx] at hx; rw [hdy] at hy
      exact ⟨_, rfl, write_le (d := .number (s ^^ t) (m * n) (i + j)) (leN_mul hx hy) h⟩
    | infinity => rw [hdy] at hy; exact hy.elim
    | nan => rw [hdy] at hy; exact hy.elim
  | infinity => rw [hdx] at hx; exact hx.elim
  | nan => rw [hdx] at hx; exact hx.elim

theorem sum_le {d e : Ieee.Datum} {E F : Int} (hd : Le E d) (he : Le F e) : ∃ r, d.sum e = some r ∧ Le (max E F + 1) r := by
  cases d with
  | number s m i =>
    cases e with
    | number t n j =>
      refine ⟨_, rfl, ?_⟩
      show leN _ _ _
      have hle : (Ieee.signed s m (i - min i j).toNat + Ieee.signed t n (j - min i j).toNat).natAbs ≤ m <<< (i - min i j).toNat + n <<< (j - min i j).toNat := by
        have := Int.natAbs_add_le (Ieee.signed s m (i - min i j).toNat) (Ieee.signed t n (j - min i j).toNat)
        rw [signed_natAbs, signed_natAbs] at this
        exact this
      generalize (Ieee.signed s m (i - min i j).toNat + Ieee.signed t n (j - min i j).toNat).natAbs = g at hle
      generalize hK : (-i).toNat + (-j).toNat + (-E).toNat + (-F).toNat = K
      refine leN_of K (by omega) (by omega) ?_
      have k1 := hd K (by omega) (by omega)
      have k2 := he K (by omega) (by omega)
      rw [Nat.shiftLeft_eq, Nat.shiftLeft_eq] at hle
      have e1 : (i - min i j).toNat + (min i j + K).toNat = (i + K).toNat := by omega
      have e2 : (j - min i j).toNat + (min i j + K).toNat = (j + K).toNat := by omega
      calc g * 2 ^ (min i j + K).toNat ≤ (m * 2 ^ (i - min i j).toNat + n * 2 ^ (j - min i j).toNat) * 2 ^ (min i j + K).toNat := Nat.mul_le_mul_right _ hle
        _ = m * 2 ^ (i + K).toNat + n * 2 ^ (j + K).toNat := by rw [Nat.add_mul, Nat.mul_assoc, Nat.mul_assoc, ← Nat.pow_add, ← Nat.pow_add, e1, e2]
        _ ≤ 2 ^ (E + K).toNat + 2 ^ (F + K).toNat := Nat.add_le_add k1 k2
        _ ≤ 2 ^ (max E F + K).toNat + 2 ^ (max E F + K).toNat := Nat.add_le_add (Nat.pow_le_pow_right (by omega) (by omega)) (Nat.pow_le_pow_right (by omega) (by omega))
        _ = 2 ^ ((max E F + K).toNat + 1) := by rw [Nat.pow_succ]; omega
        _ = _ := by congr 1; omega
    | infinity => exact he.elim
    | nan => exact he.elim
  | infinity => exact hd.elim
  | nan => exact hd.elim

theorem vadd_le {k : FloatKind} {E F : Int} {a b : Option Nat} (ha : VLe k E a) (hb : VLe k F b) (h : Norm k (max E F + 1)) : VLe k (max E F + 1) (vop .add k a b) := by
  obtain ⟨x, rfl, hx⟩ := ha
  obtain ⟨y, rfl, hy⟩ := hb
  obtain ⟨r, hr, hb⟩ := sum_le hx hy
  show VLe k _ ((((k.decode x).sum (k.decode y)).map k.format.write))
  rw [hr]
  exact ⟨_, rfl, write_le hb h⟩
theorem vsub_le {k : FloatKind} {E F : Int} {a b : Option Nat} (ha : VLe k E a) (hb : VLe k F b) (h : Norm k (max E F + 1)) : VLe k (max E F + 1) (vop .sub k a b) := by
  obtain ⟨x, rfl, hx⟩ := ha
  obtain ⟨y, rfl, hy⟩ := hb
  obtain ⟨r, hr, hb⟩ := sum_le hx hy.opposite
  show VLe k _ ((((k.decode x).sum (k.decode y).opposite).map k.format.write))
  rw [hr]
  exact ⟨_, rfl, write_le hb h⟩

theorem quotient_log {c : Nat} {x y : Ieee.Datum} {E F : Int} (hx : Bd E x) (hy : Lo F y) : ∃ r, x.quotient c y = some r ∧ Bd (E - F) r := by
  cases x with
  | number s m i =>
    cases y with
    | number t n j =>
      simp only [Bd] at hx
      simp only [Lo] at hy
      obtain ⟨hn, hF⟩ := hy
      simp only [Ieee.Datum.quotient, if_neg hn]
      generalize hmo : c + n.log2 - m.log2 = more
      refine ⟨_, rfl, ?_⟩
      simp only [Bd]
      rcases hx with rfl | hx
      · left; simp
      · have h1 : m <<< more < 2 ^ (m.log2 + 1 + more) := log2_shl_lt (by omega)
        have h2 : 2 ^ n.log2 ≤ n := Nat.log2_self_le hn
        have h3 : m <<< more / n < 2 ^ (m.log2 + 1 + more - n.log2) ∨ m <<< more / n = 0 := by
          by_cases hlt : n.log2 ≤ m.log2 + 1 + more
          · left
            rw [Nat.div_lt_iff_lt_mul (by omega)]
            calc m <<< more < 2 ^ (m.log2 + 1 + more) := h1
              _ = 2 ^ (m.log2 + 1 + more - n.log2) * 2 ^ n.log2 := by rw [← Nat.pow_add]; congr 1; omega
              _ ≤ _ := Nat.mul_le_mul_left _ h2
          · right
            exact Nat.div_eq_of_lt (Nat.lt_of_lt_of_le h1 (Nat.le_trans (Nat.pow_le_pow_right (by omega) (by omega)) h2))
        have hb : (m <<< more % n != 0).toNat ≤ 1 := by cases (m <<< more % n != 0) <;> simp
        have h4 : 2 * (m <<< more / n) + (m <<< more % n != 0).toNat < 2 ^ (m.log2 + 1 + more - n.log2 + 1) := by
          rw [Nat.pow_succ]
          have := Nat.two_pow_pos (m.log2 + 1 + more - n.log2)
          omega
        generalize 2 * (m <<< more / n) + (m <<< more % n != 0).toNat = g at h4
        by_cases hg : g = 0
        · exact .inl hg
        · right
          have := (Nat.log2_lt hg).2 h4
          omega
    | infinity => exact hy.elim
    | nan => exact hy.elim
  | infinity => exact hx.elim
  | nan => exact hx.elim

theorem vquo_le {k : FloatKind} {E F : Int} {a b : Option Nat} (ha : VLe k E a) (hl : VL k F b) (h : Norm k (E - F + 1)) : VLe k (E - F + 1) (vop .quo k a b) := by
  obtain ⟨x, rfl, hx⟩ := ha
  obtain ⟨y, rfl, hy⟩ := hl
  obtain ⟨r, hr, hb⟩ := quotient_log (c := k.format.fractionBits + 2) hx.bd hy
  show VLe k _ ((((k.decode x).quotient (k.format.fractionBits + 2) (k.decode y)).map k.format.write))
  rw [hr]
  exact ⟨_, rfl, write_le hb.le h⟩

theorem vsqrt_le {E : Int} {a : Option Nat} (h : VLe .f64 E a) (hE : Norm .f64 (E / 2 + 2)) : vsqrt a = none ∨ VLe .f64 (E / 2 + 2) (vsqrt a) := by
  obtain ⟨x, rfl, hx⟩ := h
  unfold vsqrt Ieee.Format.sqrt
  simp only [Option.bind_some]
  cases hr : ((FloatKind.f64).format.read x).root ((FloatKind.f64).format.fractionBits + 2) with
  | none => exact .inl rfl
  | some r =>
    right
    exact ⟨_, rfl, write_le (k := .f64) ((root_bd hx.bd hr).le.mono (by omega)) hE⟩

theorem vwide_le {E : Int} {a : Option Nat} (h : VLe .f32 E a) (hE : Norm .f64 E) : VLe .f64 E (vwide a) := by
  obtain ⟨b, rfl, hb⟩ := h
  unfold vwide floatToFloatBits
  simp only [Option.bind_some]
  rw [if_neg (by decide)]
  cases hd : (FloatKind.f32).decode b with
  | nan => rw [hd] at hb; exact hb.elim
  | infinity s => rw [hd] at hb; exact hb.elim
  | number s m e =>
    rw [hd] at hb
    have hw := write_le (k := .f64) (d := .number s m e) hb hE
    have hni : ((FloatKind.f64).decode ((FloatKind.f64).encode (.number s m e))).isInfinity = false := by
      unfold FloatKind.encode
      cases hx : (FloatKind.f64).decode ((FloatKind.f64).format.write (.number s m e)) with
      | number => rfl
      | infinity => rw [hx] at hw; exact hw.elim
      | nan => rfl
    simp only [hni, Bool.false_eq_true, if_false]
    exact ⟨_, rfl, hw⟩

/-! ### Integers as 64-bit numbers -/
/-- What a small whole number is written as: itself. -/
theorem read_whole (neg : Bool) (q : Nat) (h0 : q ≠ 0) (h : q.log2 ≤ 52) :
    (FloatKind.f64).decode ((FloatKind.f64).format.nearest neg q 0) = .number neg (q <<< (52 - q.log2)) ((q.log2 : Int) - 52) := by
  have h1 : (FloatKind.f64).format.leastPlace = -1074 := rfl
  have h2 : (FloatKind.f64).format.fractionBits = 52 := rfl
  have h3 : (FloatKind.f64).format.binade = 2 ^ 52 := rfl
  have h4 : (FloatKind.f64).format.infRung = 2047 * 2 ^ 52 := rfl
  have h5 := (FloatKind.f64).format.infRung_lt
  unfold FloatKind.decode
  generalize (FloatKind.f64).format = f at *
  unfold Ieee.Format.nearest
  dsimp only
  rw [if_neg h0, h1, h2]
  have hlast : max (0 + (q.log2 : Int) - (52 : Nat)) (-1074) = (q.log2 : Int) - 52 := by omega
  rw [hlast]
  have e1 : (0 - ((q.log2 : Int) - 52)).toNat = 52 - q.log2 := by omega
  have e2 : (((q.log2 : Int) - 52) - 0).toNat = 0 := by omega
  rw [e1, e2]
  have hlo : 2 ^ 52 ≤ q <<< (52 - q.log2) := by
    rw [Nat.shiftLeft_eq]
    calc 2 ^ 52 = 2 ^ q.log2 * 2 ^ (52 - q.log2) := by rw [← Nat.pow_add]; congr 1; omega
      _ ≤ _ := Nat.mul_le_mul_right _ (Nat.log2_self_le h0)
  have hhi : q <<< (52 - q.log2) < 2 ^ 53 := log2_shl_lt (by omega)
  generalize q <<< (52 - q.log2) = K at *
  have hcut : Ieee.Toward.even.cut neg K 0 = K :=
    Nat.le_antisymm (cut_even_le neg K 0 K (by omega)) (cut_even_ge neg K 0 K (by omega))
  rw [hcut, h3]
  generalize hp : ((q.log2 : Int) - 52 - -1074).toNat = p
  have hr : p * 2 ^ 52 + K < f.infRung := by rw [h4]; omega
  rw [Nat.min_eq_left (Nat.le_of_lt hr), read_word f neg _ (Nat.lt_trans hr h5), h3, if_neg (by omega), if_pos hr, h1]
  have hm : (p * 2 ^ 52 + K) % 2 ^ 52 = K - 2 ^ 52 := by omega
  have hd : (p * 2 ^ 52 + K) / 2 ^ 52 = p + 1 := by omega
  have h6 : 2 ^ 52 + (K - 2 ^ 52) = K := by omega
  have h7 : (-1074 : Int) + ((p + 1 - 1 : Nat) : Int) = (q.log2 : Int) - 52 := by omega
  rw [hm, hd, h6, h7]

/-- A datum is a number nearer to 0 than 2 ^ 52. -/
def smallD : Ieee.Datum → Bool
  | .number _ m i => decide (m <<< (i - min i 0).toNat < 2 ^ 52 <<< (0 - min i 0).toNat)
  | _ => false

/-- What is left of a number when its places behind the point are cut off. -/
def floorD : Ieee.Datum → Nat
  | .number s m i => Ieee.Toward.zero.cut s (m <<< i.toNat) (-i).toNat
  | _ => 0

theorem cut_zero (s : Bool) (n drop : Nat) : Ieee.Toward.zero.cut s n drop = n / 2 ^ drop := by
  unfold Ieee.Toward.cut
  simp only [Nat.shiftLeft_eq, Nat.one_mul]
  by_cases hl : drop ≤ n.log2 + 2
  · rw [Nat.min_eq_left hl]; simp
  · rw [Nat.min_eq_right (by omega)]
    have h1 := log2_lt n
    have h2 : n < 2 ^ (n.log2 + 2) := Nat.lt_of_lt_of_le h1 (Nat.pow_le_pow_right (by omega) (by omega))
    have h3 : n < 2 ^ drop := Nat.lt_of_lt_of_le h2 (Nat.pow_le_pow_right (by omega) (by omega))
    rw [Nat.div_eq_of_lt h2, Nat.div_eq_of_lt h3]; simp

/-- The floor lies just below the number, both scaled alike. -/
theorem floor_spec (m : Nat) (i : Int) (K : Nat) (hK : 0 ≤ i + K) :
    (m <<< i.toNat / 2 ^ (-i).toNat) * 2 ^ K ≤ m * 2 ^ (i + K).toNat ∧ m * 2 ^ (i + K).toNat < (m <<< i.toNat / 2 ^ (-i).toNat + 1) * 2 ^ K := by
  rw [Nat.shiftLeft_eq]
  by_cases hi : 0 ≤ i
  · have e : (-i).toNat = 0 := by omega
    have e2 : (i + K).toNat = i.toNat + K := by omega
    rw [e, e2, Nat.pow_zero, Nat.div_one, Nat.pow_add, ← Nat.mul_assoc]
    refine ⟨Nat.le_refl _, Nat.mul_lt_mul_of_pos_right (by omega) (Nat.two_pow_pos _)⟩
  · have e : i.toNat = 0 := by omega
    rw [e, Nat.pow_zero, Nat.mul_one]
    have e2 : K = (-i).toNat + (i + K).toNat := by omega
    have hp := Nat.two_pow_pos (-i).toNat
    have h1 : m / 2 ^ (-i).toNat * 2 ^ (-i).toNat ≤ m := Nat.div_mul_le_self m _
    have h2 : m < (m / 2 ^ (-i).toNat + 1) * 2 ^ (-i).toNat := by
      have := Nat.lt_div_mul_add (a := m) hp
      rw [Nat.add_mul, Nat.one_mul]; omega
    have hp2 := Nat.two_pow_pos (i + K).toNat
    generalize (i + (K : Int)).toNat = c at *
    rw [e2, Nat.pow_add, ← Nat.mul_assoc, ← Nat.mul_assoc]
    exact ⟨Nat.mul_le_mul_right _ h1, Nat.mul_lt_mul_of_pos_right h2 hp2⟩

theorem small_floor {s : Bool} {m : Nat} {i : Int} (h : smallD (.number s m i) = true) : m <<< i.toNat / 2 ^ (-i).toNat < 2 ^ 52 := by
  have h := of_decide_eq_true h
  rw [Nat.shiftLeft_eq, Nat.shiftLeft_eq] at h
  obtain ⟨h1, _⟩ := floor_spec m i (0 - min i 0).toNat (by omega)
  have e : (i + ((0 - min i 0).toNat : Int)).toNat = (i - min i 0).toNat := by omega
  rw [e] at h1
  exact Nat.lt_of_mul_lt_mul_right (Nat.lt_of_le_of_lt h1 h)

def truncI (y : Nat) : Int := (((FloatKind.f64).decode y).toInt .zero).getD 0

theorem trunc_small {y : Nat} (h : smallD ((FloatKind.f64).decode y) = true) : floatToIntVal .f64 y .i64 = some (truncI y) := by
  cases hd : (FloatKind.f64).decode y with
  | number s m i =>
    rw [hd] at h
    have hf := small_floor h
    have e : ((Ieee.Datum.number s m i).toInt .zero) = some (Ieee.signed s (m <<< i.toNat / 2 ^ (-i).toNat) 0) := by
      unfold Ieee.Datum.toInt Ieee.Datum.integral
      simp only [cut_zero]
    unfold floatToIntVal truncI
    rw [hd, e]
    generalize m <<< i.toNat / 2 ^ (-i).toNat = q at hf
    have hs := signed_natAbs s q 0
    rw [Nat.shiftLeft_zero] at hs
    simp only [Option.getD_some]
    rw [if_pos]
    have h1 : IntKind.i64.min = -9223372036854775808 := rfl
    have h2 : IntKind.i64.max = 9223372036854775807 := rfl
    rw [h1, h2]
    omega
  | infinity s => rw [hd] at h; cases h
  | nan s t => rw [hd] at h; cases h

/-- What some turns are, less whole ones. -/
def restF (y : Nat) : Option Nat := vop .sub .f64 (some y) (some (floatOfInt .f64 (truncI y)))

theorem cls_int (k : FloatKind) (n : Int) : cls k (floatOfInt k n) = some (floatOfInt k n) := cls_of_not (write_notNaN k.format (.number (n < 0) n.natAbs 0) rfl)

theorem signed_zero (s : Bool) (u : Nat) : Ieee.signed s 0 u = 0 := by
  unfold Ieee.signed; cases s <;> simp

theorem restF_le {y : Nat} (h : smallD ((FloatKind.f64).decode y) = true) : VLe .f64 0 (restF y) := by
  have hN : Norm .f64 0 := ⟨by decide, by decide⟩
  show VLe .f64 0 (((((FloatKind.f64).decode y).sum ((FloatKind.f64).decode (floatOfInt .f64 (truncI y))).opposite).map (FloatKind.f64).format.write))
  cases hd : (FloatKind.f64).decode y with
  | number s m i =>
    rw [hd] at h
    have hf := small_floor h
    have hq : truncI y = Ieee.signed s (m <<< i.toNat / 2 ^ (-i).toNat) 0 := by
      unfold truncI
      rw [hd]
      unfold Ieee.Datum.toInt Ieee.Datum.integral
      simp only [cut_zero, Option.getD_some]
    have hsp := fun K hK => floor_spec m i K hK
    generalize m <<< i.toNat / 2 ^ (-i).toNat = q at *
    have hs := signed_natAbs s q 0
    rw [Nat.shiftLeft_zero, ← hq] at hs
    -- the floor, written
    have hw : ∃ t n j, (FloatKind.f64).decode (floatOfInt .f64 (truncI y)) = .number t n j ∧ (q = 0 → n = 0) ∧ (q ≠ 0 → t = s) ∧ j ≤ 0 ∧ ∀ K : Nat, 0 ≤ j + K → n * 2 ^ (j + K).toNat = q * 2 ^ K := by
      by_cases h0 : q = 0
      · have hz : truncI y = 0 := by omega
        rw [hz]
        refine ⟨false, 0, -1074, by decide +kernel, fun _ => rfl, fun h => absurd h0 h, by omega, fun K _ => by rw [h0]; simp⟩
      · have hl : q.log2 ≤ 52 := by
          have := (Nat.log2_lt h0).2 hf; omega
        have hneg : decide (truncI y < 0) = s := by
          rw [hq]
          unfold Ieee.signed
          rw [Nat.shiftLeft_zero]
          cases s
          · simp
          · simp; omega
        refine ⟨s, q <<< (52 - q.log2), (q.log2 : Int) - 52, ?_, fun h => absurd h h0, fun _ => rfl, ?_, ?_⟩
        · show (FloatKind.f64).decode ((FloatKind.f64).format.nearest (decide (truncI y < 0)) (truncI y).natAbs 0) = _
          rw [hneg, hs]
          exact read_whole s q h0 hl
        · omega
        · intro K hK
          rw [Nat.shiftLeft_eq, Nat.mul_assoc, ← Nat.pow_add]
          congr 2
          omega
    obtain ⟨t, n, j, hw, hz, ht, hj, hn⟩ := hw
    rw [hw]
    refine ⟨_, rfl, write_le (d := .number _ _ (min i j)) ?_ hN⟩
    show leN 0 _ _
    obtain ⟨K, hKi, hKj⟩ : ∃ K : Nat, 0 ≤ i + K ∧ 0 ≤ j + K := ⟨(-i).toNat + (-j).toNat, by omega, by omega⟩
    refine leN_of K (by omega) (by omega) ?_
    obtain ⟨h1, h2⟩ := hsp K hKi
    have hn := hn K hKj
    rw [← hn] at h1
    rw [Nat.add_mul, ← hn, Nat.one_mul] at h2
    have e1 : (i - min i j).toNat + (min i j + K).toNat = (i + K).toNat := by omega
    have e2 : (j - min i j).toNat + (min i j + K).toNat = (j + K).toNat := by omega
    have e3 : ((0 : Int) + K).toNat = K := by omega
    rw [← e1, ← e2, Nat.pow_add, Nat.pow_add, ← Nat.mul_assoc, ← Nat.mul_assoc] at h2
    rw [← e1, ← e2, Nat.pow_add, Nat.pow_add, ← Nat.mul_assoc, ← Nat.mul_assoc] at h1
    rw [e3]
    have hp := Nat.two_pow_pos (min i j + (K : Int)).toNat
    have hle := Nat.le_of_mul_le_mul_right h1 hp
    have hA : (Ieee.signed s m (i - min i j).toNat + Ieee.signed (!t) n (j - min i j).toNat).natAbs = m * 2 ^ (i - min i j).toNat - n * 2 ^ (j - min i j).toNat := by
      by_cases h0 : q = 0
      · rw [hz h0, signed_zero, Int.add_zero, signed_natAbs, Nat.shiftLeft_eq]; simp
      · rw [ht h0]
        unfold Ieee.signed
        rw [Nat.shiftLeft_eq, Nat.shiftLeft_eq]
        generalize m * 2 ^ (i - min i j).toNat = a at *
        generalize n * 2 ^ (j - min i j).toNat = b at *
        cases s <;> simp <;> omega
    show (Ieee.signed s m (i - min i j).toNat + Ieee.signed (!t) n (j - min i j).toNat).natAbs * _ ≤ _
    rw [hA, Nat.sub_mul]
    omega
  | infinity s => rw [hd] at h; cases h
  | nan s t => rw [hd] at h; cases h

/-! ### What is finite -/
def finD : Ieee.Datum → Bool
  | .number .. => true
  | _ => false

def absD : Ieee.Datum → Ieee.Datum
  | .number _ m i => .number false m i
  | .infinity _ => .infinity false
  | .nan _ t => .nan false t

theorem decode_abs (x : Nat) : (FloatKind.f64).decode (x % 2 ^ 63) = absD ((FloatKind.f64).decode x) := by
  unfold FloatKind.decode Ieee.Format.read
  have h1 : (FloatKind.f64).format.signWeight = 2 ^ 63 := rfl
  rw [h1]
  have h2 : x % 2 ^ 63 / 2 ^ 63 % 2 = 0 := by omega
  have h3 : x % 2 ^ 63 % 2 ^ 63 = x % 2 ^ 63 := by omega
  dsimp only
  rw [h2, h3]
  split
  · rfl
  · split
    · rfl
    · split <;> rfl

theorem num64 {x : Nat} {s : Bool} {m : Nat} {i : Int} (h : (FloatKind.f64).decode x = .number s m i) : m < 2 ^ 53 ∧ -1074 ≤ i ∧ i ≤ 971 := by
  unfold FloatKind.decode FloatKind.format Ieee.Format.read at h
  dsimp only at h
  have h1 : Ieee.double.binade = 2 ^ 52 := rfl
  have h2 : Ieee.double.infRung = 2047 * 2 ^ 52 := rfl
  have h3 : Ieee.double.leastPlace = -1074 := rfl
  generalize x % Ieee.double.signWeight = r at h
  rw [h1, h2, h3] at h
  split at h
  · injection h with _ hm he
    subst hm he
    omega
  · split at h
    · injection h with _ hm he
      subst hm he
      omega
    · split at h <;> cases h

theorem dec_max : (FloatKind.f64).decode 9218868437227405311 = .number false (2 ^ 53 - 1) 971 := by decide +kernel

/-- 'math.IsInf' of an absolute value. -/
theorem order_max (x : Nat) : ((FloatKind.f64).format.order (x % 2 ^ 63) 9218868437227405311 == some .gt) = (match (FloatKind.f64).decode x with | .infinity _ => true | _ => false) := by
  have h1 := decode_abs x
  have h2 := dec_max
  unfold FloatKind.decode at h1 h2
  unfold Ieee.Format.order
  rw [h1, h2]
  unfold FloatKind.decode
  cases hd : (FloatKind.f64).format.read x with
  | number s m i =>
    have hn := num64 (x := x) hd
    unfold absD Ieee.Datum.order
    have hb : min i 971 = i := by omega
    simp only [hb]
    rw [Int.sub_self]
    have hle : Ieee.signed false m (0 : Int).toNat ≤ Ieee.signed false (2 ^ 53 - 1) (971 - i).toNat := by
      unfold Ieee.signed
      simp only [Bool.false_eq_true, if_false, Int.toNat_zero, Nat.shiftLeft_eq]
      have h1 : (2 ^ 53 - 1) * 1 ≤ (2 ^ 53 - 1) * 2 ^ (971 - i).toNat := Nat.mul_le_mul_left _ (Nat.two_pow_pos _)
      exact Int.ofNat_le.2 (by omega)
    generalize Ieee.signed false m (0 : Int).toNat = a at *
    generalize Ieee.signed false (2 ^ 53 - 1) (971 - i).toNat = b at *
    have : compare a b ≠ .gt := by
      intro h
      rw [Int.compare_eq_gt] at h
      omega
    simp [this]
  | infinity s => rfl
  | nan s t => rfl

/-- A finite number less itself is +0; another one has no difference from itself. -/
theorem sub_self_bits (k : FloatKind) (x : Nat) (w : World) : (k.format.order (fres .sub k x x w) 0 == some .eq) = finD (k.decode x) := by
  have h0 : cls k 0 = some 0 := by cases k <;> decide +kernel
  rw [order_cls, fres_cls, h0, vop_cls]
  have hsum : floatBits .sub k x x = ((k.decode x).sum (k.decode x).opposite).map k.format.write := rfl
  rw [hsum]
  cases hd : k.decode x with
  | number s m i =>
    have e : (Ieee.Datum.number s m i).sum (Ieee.Datum.number s m i).opposite = some (.number false 0 i) := by
      unfold Ieee.Datum.opposite Ieee.Datum.sum
      have hz : Ieee.signed s m (i - min i i).toNat + Ieee.signed (!s) m (i - min i i).toNat = 0 := by
        unfold Ieee.signed; cases s <;> simp <;> omega
      simp only [hz, if_true]
      cases s <;> simp
    rw [e]
    have hw : k.format.write (.number false 0 i) = 0 := by
      unfold Ieee.Format.write Ieee.Format.nearest
      simp [Ieee.Format.word]
    simp only [Option.map_some, hw]
    show _ = true
    cases k <;> decide +kernel
  | infinity s =>
    have e : (Ieee.Datum.infinity s).sum (Ieee.Datum.infinity s).opposite = none := by
      unfold Ieee.Datum.opposite Ieee.Datum.sum; cases s <;> rfl
    rw [e]; rfl
  | nan s t => rfl

/-- The tests of what lies nearer to 0 than 2 ^ 52. -/
theorem dec_c52 : (FloatKind.f64).decode 4841369599423283200 = .number false (2 ^ 52) 0 := by decide +kernel
theorem dec_m52 : (FloatKind.f64).decode 14064741636278059008 = .number true (2 ^ 52) 0 := by decide +kernel

theorem order_num {x y : Nat} {s t : Bool} {m n : Nat} {i j : Int} (hx : (FloatKind.f64).decode x = .number s m i) (hy : (FloatKind.f64).decode y = .number t n j) :
    (FloatKind.f64).format.order x y = some (compare (Ieee.signed s m (i - min i j).toNat) (Ieee.signed t n (j - min i j).toNat)) := by
  unfold FloatKind.decode at hx hy
  unfold Ieee.Format.order
  rw [hx, hy]
  rfl

def geB (k : FloatKind) (x y : Nat) : Bool := k.format.order x y == some .gt || k.format.order x y == some .eq
def leB (k : FloatKind) (x y : Nat) : Bool := k.format.order x y == some .lt || k.format.order x y == some .eq

theorem cmp_ge {a b : Int} : (some (compare a b) == some Ordering.gt || some (compare a b) == some Ordering.eq) = decide (b ≤ a) := by
  rcases Int.lt_trichotomy a b with h | h | h
  · have : compare a b = .lt := Int.compare_eq_lt.2 h
    rw [this, decide_eq_false (by omega)]; rfl
  · subst h
    have : compare a a = .eq := Int.compare_eq_eq.2 rfl
    rw [this, decide_eq_true (by omega)]; rfl
  · have : compare a b = .gt := Int.compare_eq_gt.2 h
    rw [this, decide_eq_true (by omega)]; rfl
theorem cmp_le {a b : Int} : (some (compare a b) == some Ordering.lt || some (compare a b) == some Ordering.eq) = decide (a ≤ b) := by
  rcases Int.lt_trichotomy a b with h | h | h
  · have : compare a b = .lt := Int.compare_eq_lt.2 h
    rw [this, decide_eq_true (by omega)]; rfl
  · subst h
    have : compare a a = .eq := Int.compare_eq_eq.2 rfl
    rw [this, decide_eq_true (by omega)]; rfl
  · have : compare a b = .gt := Int.compare_eq_gt.2 h
    rw [this, decide_eq_false (by omega)]; rfl

theorem abs_ge {x : Nat} (h : finD ((FloatKind.f64).decode x) = true) : geB .f64 (x % 2 ^ 63) 4841369599423283200 = !smallD ((FloatKind.f64).decode x) := by
  cases hd : (FloatKind.f64).decode x with
  | number s m i =>
    have h1 := decode_abs x
    rw [hd] at h1
    unfold geB
    rw [order_num h1 dec_c52, cmp_ge]
    unfold smallD Ieee.signed
    simp only [Bool.false_eq_true, if_false]
    rw [← decide_not]
    exact decide_eq_decide.2 (by rw [Int.ofNat_le]; omega)
  | infinity s => rw [hd] at h; cases h
  | nan s t => rw [hd] at h; cases h

theorem both_ge {x : Nat} (h : finD ((FloatKind.f64).decode x) = true) : (geB .f64 x 4841369599423283200 || leB .f64 x 14064741636278059008) = !smallD ((FloatKind.f64).decode x) := by
  cases hd : (FloatKind.f64).decode x with
  | number s m i =>
    unfold geB leB
    rw [order_num hd dec_c52, order_num hd dec_m52, cmp_ge, cmp_le]
    unfold smallD Ieee.signed
    simp only [Bool.false_eq_true, if_false, if_true]
    rw [← decide_not]
    have hp : 0 < 2 ^ 52 <<< (0 - min i 0).toNat := by rw [Nat.shiftLeft_eq]; exact Nat.mul_pos (by omega) (Nat.two_pow_pos _)
    generalize 2 ^ 52 <<< (0 - min i 0).toNat = c at *
    generalize m <<< (i - min i 0).toNat = a at *
    rw [← Bool.decide_or]
    refine decide_eq_decide.2 ?_
    cases s <;> simp <;> omega
  | infinity s => rw [hd] at h; cases h
  | nan s t => rw [hd] at h; cases h
end Go.Proofs.YtkmggoagboikgaaDoor.Flo


/- Rows of chances: plain facts, no program. -/
namespace Go.Proofs.YtkmggoagboikgaaDoor.Flo
open Go

/-! ### Opposites -/
theorem signed_not (s : Bool) (m u : Nat) : Ieee.signed (!s) m u = - Ieee.signed s m u := by cases s <;> simp [Ieee.signed]

/-- Two data that are each other's opposite, but for a zero's sign. -/
def Opp : Ieee.Datum → Ieee.Datum → Prop
  | .number s m i, .number t n j => m = n ∧ i = j ∧ (t = !s ∨ m = 0)
  | .infinity s, .infinity t => t = !s
  | _, _ => False

theorem sum_comm (a b : Ieee.Datum) : a.sum b = b.sum a := by
  cases a with
  | number s m i => cases b with
    | number t n j =>
      have hm : min i j = min j i := Int.min_comm ..
      simp only [Ieee.Datum.sum, hm, Int.add_comm, Bool.and_comm]
    | infinity t => rfl
    | nan => rfl
  | infinity s => cases b with
    | number t n j => rfl
    | infinity t =>
      simp only [Ieee.Datum.sum]
      by_cases h : s = t
      · rw [if_pos h, if_pos h.symm, h]
      · rw [if_neg h, if_neg (fun e => h e.symm)]
    | nan => rfl
  | nan => cases b <;> rfl

theorem sum_opp (a b : Ieee.Datum) : match a.sum b, a.opposite.sum b.opposite with
    | some r, some r' => Opp r r'
    | none, none => True
    | _, _ => False := by
  cases a with
  | number s m i => cases b with
    | number t n j =>
      simp only [Ieee.Datum.sum, Ieee.Datum.opposite, Opp]
      rw [signed_not, signed_not, ← Int.neg_add, Int.natAbs_neg]
      generalize Ieee.signed s m (i - min i j).toNat + Ieee.signed t n (j - min i j).toNat = g
      refine ⟨rfl, trivial, ?_⟩
      by_cases h0 : g = 0
      · right; rw [h0]; rfl
      · left
        rw [if_neg h0, if_neg (by omega)]
        by_cases hg : g < 0
        · rw [decide_eq_true hg, decide_eq_false (by omega)]; rfl
        · rw [decide_eq_false hg, decide_eq_true (by omega)]; rfl
    | infinity t => simp [Ieee.Datum.sum, Ieee.Datum.opposite, Opp]
    | nan => simp [Ieee.Datum.sum, Ieee.Datum.opposite]
  | infinity s => cases b with
    | number t n j => simp [Ieee.Datum.sum, Ieee.Datum.opposite, Opp]
    | infinity t => cases s <;> cases t <;> simp [Ieee.Datum.sum, Ieee.Datum.opposite, Opp]
    | nan => simp [Ieee.Datum.sum, Ieee.Datum.opposite]
  | nan => cases b <;> simp [Ieee.Datum.sum, Ieee.Datum.opposite]

theorem opposite_opposite (a : Ieee.Datum) : a.opposite.opposite = a := by cases a <;> simp [Ieee.Datum.opposite]

/-- The rung that a magnitude is rounded to, at most infinity's. -/
theorem nearest_rung (f : Ieee.Format) (mag : Nat) (place : Int) : ∃ r, r ≤ f.infRung ∧ (mag = 0 → r = 0) ∧ ∀ neg, f.nearest neg mag place = f.word neg r := by
  by_cases h : mag = 0
  · exact ⟨0, Nat.zero_le _, fun _ => rfl, fun neg => by unfold Ieee.Format.nearest; rw [if_pos h]⟩
  · refine ⟨min ((max (place + mag.log2 - f.fractionBits) f.leastPlace - f.leastPlace).toNat * f.binade + Ieee.Toward.even.cut false (mag <<< (place - max (place + mag.log2 - f.fractionBits) f.leastPlace).toNat) (max (place + mag.log2 - f.fractionBits) f.leastPlace - place).toNat) f.infRung, Nat.min_le_right .., fun e => absurd e h, fun neg => ?_⟩
    unfold Ieee.Format.nearest
    rw [if_neg h]
    rfl

theorem write_opp (k : FloatKind) {r r' : Ieee.Datum} (h : Opp r r') : Opp (k.decode (k.format.write r)) (k.decode (k.format.write r')) := by
  have hpos : 0 < k.format.binade := Nat.two_pow_pos _
  have hbi := binade_le k
  unfold FloatKind.decode
  generalize k.format = f at *
  cases r with
  | number s m i => cases r' with
    | number t n j =>
      obtain ⟨rfl, rfl, hs⟩ := h
      obtain ⟨q, hq, hq0, hw⟩ := nearest_rung f m i
      show Opp (f.read (f.nearest s m i)) (f.read (f.nearest t m i))
      rw [hw, hw, read_word f s q (Nat.lt_of_le_of_lt hq f.infRung_lt), read_word f t q (Nat.lt_of_le_of_lt hq f.infRung_lt)]
      by_cases h1 : q < f.binade
      · rw [if_pos h1, if_pos h1]
        exact ⟨rfl, rfl, hs.imp id hq0⟩
      · have hm : t = !s := hs.resolve_right fun h0 => h1 (by rw [hq0 h0]; exact hpos)
        rw [if_neg h1, if_neg h1]
        by_cases h2 : q < f.infRung
        · rw [if_pos h2, if_pos h2]
          exact ⟨rfl, rfl, .inl hm⟩
        · rw [if_neg h2, if_neg h2, if_pos (by omega), if_pos (by omega)]
          exact hm
    | infinity => exact h.elim
    | nan => exact h.elim
  | infinity s => cases r' with
    | number => exact h.elim
    | infinity t =>
      show Opp (f.read (f.word s f.infRung)) (f.read (f.word t f.infRung))
      have e : ∀ t, f.read (f.word t f.infRung) = .infinity t := fun t => by
        rw [read_word f t _ f.infRung_lt, if_neg (by omega), if_neg (by omega), if_pos rfl]
      rw [e, e]
      exact h
    | nan => exact h.elim
  | nan => cases r' <;> exact h.elim

/-! ### Comparisons on numbers up to which not-a-number -/
def lt32 (a b : Option Nat) : Bool := vord .f32 a b == some .lt
def gt32 (a b : Option Nat) : Bool := vord .f32 a b == some .gt
def ge32 (a b : Option Nat) : Bool := vord .f32 a b == some .gt || vord .f32 a b == some .eq
def le32 (a b : Option Nat) : Bool := vord .f32 a b == some .lt || vord .f32 a b == some .eq

def one32 : Nat := 1065353216
def c001 : Nat := 981668463
def m001 : Nat := 3129152111
theorem cls_one32 : cls .f32 one32 = some one32 := by decide +kernel
theorem cls_c001 : cls .f32 c001 = some c001 := by decide +kernel
theorem cls_m001 : cls .f32 m001 = some m001 := by decide +kernel
theorem cls_032 : cls .f32 0 = some 0 := by decide +kernel
theorem dec_one32 : (FloatKind.f32).decode one32 = .number false (2 ^ 23) (-23) := by decide +kernel
theorem dec_c001 : (FloatKind.f32).decode c001 = .number false 8589935 (-33) := by decide +kernel
theorem dec_m001 : (FloatKind.f32).decode m001 = .number true 8589935 (-33) := by decide +kernel
theorem dec_032 : (FloatKind.f32).decode 0 = .number false 0 (-149) := by decide +kernel

theorem order_opp {a b : Ieee.Datum} (h : Opp a b) : (a.order (.number true 8589935 (-33)) == some .gt || a.order (.number true 8589935 (-33)) == some .eq) = (b.order (.number false 8589935 (-33)) == some .lt || b.order (.number false 8589935 (-33)) == some .eq) := by
  cases a with
  | number s m i => cases b with
    | number t n j =>
      obtain ⟨rfl, rfl, hs⟩ := h
      simp only [Ieee.Datum.order]
      rw [cmp_ge, cmp_le]
      generalize hu : (i - min i (-33)).toNat = u
      generalize hv : (-33 - min i (-33)).toNat = v
      have e1 : Ieee.signed true 8589935 v = - Ieee.signed false 8589935 v := signed_not false _ _
      have e2 : Ieee.signed t m u = - Ieee.signed s m u := by
        rcases hs with rfl | rfl
        · exact signed_not ..
        · rw [signed_zero, signed_zero]; rfl
      rw [e1, e2]
      exact decide_eq_decide.2 (by omega)
    | infinity => exact h.elim
    | nan => exact h.elim
  | infinity s => cases b with
    | number => exact h.elim
    | infinity t =>
      have h : t = !s := h
      subst h
      cases s <;> rfl
    | nan => exact h.elim
  | nan => cases b <;> exact h.elim

/-- 's - 1 >= -0.001' and '1 - s <= 0.001'. -/
theorem near_eq (s : Option Nat) : ge32 (vop .sub .f32 s (some one32)) (some m001) = le32 (vop .sub .f32 (some one32) s) (some c001) := by
  cases s with
  | none => rfl
  | some x =>
    have h := sum_opp ((FloatKind.f32).decode x) ((FloatKind.f32).decode one32).opposite
    rw [opposite_opposite, sum_comm ((FloatKind.f32).decode x).opposite] at h
    show ge32 (((((FloatKind.f32).decode x).sum ((FloatKind.f32).decode one32).opposite).map (FloatKind.f32).format.write)) _ = le32 (((((FloatKind.f32).decode one32).sum ((FloatKind.f32).decode x).opposite).map (FloatKind.f32).format.write)) _
    revert h
    cases ((FloatKind.f32).decode x).sum ((FloatKind.f32).decode one32).opposite with
    | none =>
      cases ((FloatKind.f32).decode one32).sum ((FloatKind.f32).decode x).opposite with
      | none => intro _; rfl
      | some r' => intro h; exact h.elim
    | some r =>
      cases ((FloatKind.f32).decode one32).sum ((FloatKind.f32).decode x).opposite with
      | none => intro h; exact h.elim
      | some r' =>
        intro h
        have := order_opp (write_opp .f32 h)
        unfold ge32 le32 vord
        simp only [Option.map_some, Option.bind_some]
        unfold Ieee.Format.order
        rw [← dec_m001, ← dec_c001] at this
        exact this

/-! ### Numbers of at least 0 -/
def PosD : Ieee.Datum → Prop
  | .number s m _ => s = false ∨ m = 0
  | .infinity s => s = false
  | .nan .. => False
def VPos (k : FloatKind) (a : Option Nat) : Prop := ∃ b, a = some b ∧ PosD (k.decode b)
/-- At least 2 ^ F. -/
def BigD (F : Int) : Ieee.Datum → Prop
  | .number s m i => s = false ∧ m ≠ 0 ∧ F ≤ (m.log2 : Int) + i
  | .infinity s => s = false
  | .nan .. => False
def VBig (k : FloatKind) (F : Int) (a : Option Nat) : Prop := ∃ b, a = some b ∧ BigD F (k.decode b)

theorem signed_false' (m u : Nat) : Ieee.signed false m u = ((m * 2 ^ u : Nat) : Int) := by
  unfold Ieee.signed; rw [if_neg (by decide), Nat.shiftLeft_eq]

theorem posD_signed {s : Bool} {m : Nat} (h : s = false ∨ m = 0) (u : Nat) : Ieee.signed s m u = ((m * 2 ^ u : Nat) : Int) := by
  rcases h with rfl | rfl
  · exact signed_false' ..
  · rw [signed_zero]; simp

theorem sum_pos {a b : Ieee.Datum} (ha : PosD a) (hb : PosD b) : ∃ r, a.sum b = some r ∧ PosD r := by
  cases a with
  | number s m i => cases b with
    | number t n j =>
      refine ⟨_, rfl, ?_⟩
      show _ ∨ _
      rw [posD_signed ha, posD_signed hb]
      generalize m * 2 ^ _ = p
      generalize n * 2 ^ _ = q
      by_cases h0 : ((p : Int) + q = 0)
      · right; rw [h0]; rfl
      · left; rw [if_neg h0]; exact decide_eq_false (by omega)
    | infinity t => exact ⟨_, rfl, hb⟩
    | nan => exact hb.elim
  | infinity s => cases b with
    | number t n j => exact ⟨_, rfl, ha⟩
    | infinity t =>
      have ha : s = false := ha
      have hb : t = false := hb
      subst ha; subst hb
      exact ⟨_, rfl, rfl⟩
    | nan => exact hb.elim
  | nan => exact ha.elim

theorem write_pos (k : FloatKind) {r : Ieee.Datum} (h : PosD r) : PosD (k.decode (k.format.write r)) := by
  have hpos : 0 < k.format.binade := Nat.two_pow_pos _
  have hbi := binade_le k
  unfold FloatKind.decode
  generalize k.format = f at *
  cases r with
  | number s m i =>
    obtain ⟨q, hq, hq0, hw⟩ := nearest_rung f m i
    show PosD (f.read (f.nearest s m i))
    rw [hw, read_word f s q (Nat.lt_of_le_of_lt hq f.infRung_lt)]
    by_cases h1 : q < f.binade
    · rw [if_pos h1]; exact h.imp id hq0
    · have hm : s = false := h.resolve_right fun h0 => h1 (by rw [hq0 h0]; exact hpos)
      rw [if_neg h1]
      by_cases h2 : q < f.infRung
      · rw [if_pos h2]; exact .inl hm
      · rw [if_neg h2, if_pos (by omega)]; exact hm
  | infinity s =>
    show PosD (f.read (f.word s f.infRung))
    rw [read_word f s _ f.infRung_lt, if_neg (by omega), if_neg (by omega), if_pos rfl]
    exact h
  | nan => exact h.elim

theorem vadd_pos {k : FloatKind} {a b : Option Nat} (ha : VPos k a) (hb : VPos k b) : VPos k (vop .add k a b) := by
  obtain ⟨x, rfl, hx⟩ := ha
  obtain ⟨y, rfl, hy⟩ := hb
  obtain ⟨r, hr, hb⟩ := sum_pos hx hy
  show VPos k ((((k.decode x).sum (k.decode y)).map k.format.write))
  rw [hr]
  exact ⟨_, rfl, write_pos k hb⟩

/-- ROUNDING KEEPS 'at least 2 ^ F'. -/
theorem write_big (k : FloatKind) {F : Int} {r : Ieee.Datum} (h : BigD F r) (hF : Norm k F) : BigD F (k.decode (k.format.write r)) := by
  obtain ⟨hbi, hpos, hfig⟩ := figures k
  obtain ⟨hlo, hhi⟩ := hfig F hF
  have hbl := binade_le k
  unfold FloatKind.decode
  generalize k.format = f at *
  cases r with
  | nan => exact h.elim
  | infinity s =>
    show BigD F (f.read (f.word s f.infRung))
    rw [read_word f s _ f.infRung_lt, if_neg (by omega), if_neg (by omega), if_pos rfl]
    exact h
  | number s m i =>
    obtain ⟨rfl, h0, hl⟩ := h
    show BigD F (f.read (f.nearest false m i))
    unfold Ieee.Format.nearest
    rw [if_neg h0]
    dsimp only
    generalize hlast : max (i + (m.log2 : Int) - f.fractionBits) f.leastPlace = last
    have e : last = i + (m.log2 : Int) - f.fractionBits := by omega
    have hk : 2 ^ f.fractionBits ≤ Ieee.Toward.even.cut false (m <<< (i - last).toNat) (last - i).toNat := by
      refine cut_even_ge false _ _ _ ?_
      rw [Nat.shiftLeft_eq, ← Nat.pow_add]
      calc 2 ^ (f.fractionBits + (last - i).toNat) = 2 ^ (m.log2 + (i - last).toNat) := by congr 1; omega
        _ = 2 ^ m.log2 * 2 ^ (i - last).toNat := Nat.pow_add ..
        _ ≤ _ := Nat.mul_le_mul_right _ (Nat.log2_self_le h0)
    generalize Ieee.Toward.even.cut false (m <<< (i - last).toNat) (last - i).toNat = kept at hk
    rw [← hbi] at hk
    generalize hB : f.binade = B at *
    have hN : ((F - f.fractionBits - f.leastPlace).toNat + 1) * B ≤ (last - f.leastPlace).toNat * B + kept := by
      have h2 : (F - f.fractionBits - f.leastPlace).toNat ≤ (last - f.leastPlace).toNat := by omega
      have := Nat.mul_le_mul_right B h2
      rw [Nat.add_mul, Nat.one_mul]
      omega
    generalize (last - f.leastPlace).toNat * B + kept = rung at hN
    have hBr : B ≤ rung := by rw [Nat.add_mul, Nat.one_mul] at hN; omega
    by_cases hr : rung < f.infRung
    · rw [Nat.min_eq_left (Nat.le_of_lt hr), read_word f false rung (Nat.lt_trans hr f.infRung_lt), hB, if_neg (by omega), if_pos hr]
      refine ⟨rfl, by omega, ?_⟩
      have hd : (F - f.fractionBits - f.leastPlace).toNat + 1 ≤ rung / B := (Nat.le_div_iff_mul_le hpos).2 hN
      have hg : f.fractionBits ≤ (B + rung % B).log2 := (Nat.le_log2 (by omega)).2 (by rw [← hbi]; omega)
      omega
    · rw [Nat.min_eq_right (by omega), read_word f false _ f.infRung_lt, hB, if_neg (by omega), if_neg (by omega), if_pos rfl]
      rfl

theorem sum_big {F : Int} {a b : Ieee.Datum} (ha : BigD F a) (hb : PosD b) : ∃ r, a.sum b = some r ∧ BigD F r := by
  cases a with
  | nan => exact ha.elim
  | infinity s => cases b with
    | number t n j => exact ⟨_, rfl, ha⟩
    | infinity t =>
      have ha : s = false := ha
      have hb : t = false := hb
      subst ha; subst hb
      exact ⟨_, rfl, rfl⟩
    | nan => exact hb.elim
  | number s m i => cases b with
    | infinity t => exact ⟨_, rfl, hb⟩
    | nan => exact hb.elim
    | number t n j =>
      obtain ⟨rfl, h0, hl⟩ := ha
      refine ⟨_, rfl, ?_⟩
      rw [signed_false', posD_signed hb]
      have hp := Nat.two_pow_pos (i - min i j).toNat
      have hm : 0 < m * 2 ^ (i - min i j).toNat := Nat.mul_pos (by omega) hp
      have hge : 2 ^ (m.log2 + (i - min i j).toNat) ≤ m * 2 ^ (i - min i j).toNat := by
        rw [Nat.pow_add]; exact Nat.mul_le_mul_right _ (Nat.log2_self_le h0)
      generalize m * 2 ^ (i - min i j).toNat = p at *
      generalize n * 2 ^ (j - min i j).toNat = q at *
      have e : ((p : Int) + q).natAbs = p + q := by omega
      refine ⟨?_, by omega, ?_⟩
      · rw [if_neg (by omega)]; exact decide_eq_false (by omega)
      · rw [e]
        have : m.log2 + (i - min i j).toNat ≤ (p + q).log2 := (Nat.le_log2 (by omega)).2 (by omega)
        omega

theorem vadd_big {k : FloatKind} {F : Int} {a b : Option Nat} (ha : VBig k F a) (hb : VPos k b) (hF : Norm k F) : VBig k F (vop .add k a b) := by
  obtain ⟨x, rfl, hx⟩ := ha
  obtain ⟨y, rfl, hy⟩ := hb
  obtain ⟨r, hr, hb⟩ := sum_big hx hy
  show VBig k F ((((k.decode x).sum (k.decode y)).map k.format.write))
  rw [hr]
  exact ⟨_, rfl, write_big k hb hF⟩
theorem vadd_big' {k : FloatKind} {F : Int} {a b : Option Nat} (ha : VPos k a) (hb : VBig k F b) (hF : Norm k F) : VBig k F (vop .add k a b) := by
  obtain ⟨x, rfl, hx⟩ := ha
  obtain ⟨y, rfl, hy⟩ := hb
  obtain ⟨r, hr, hb⟩ := sum_big hy hx
  show VBig k F ((((k.decode x).sum (k.decode y)).map k.format.write))
  rw [sum_comm, hr]
  exact ⟨_, rfl, write_big k hb hF⟩

/-- 's - 1' of s at least 2 is at least 1. -/
theorem sub1_big {a : Option Nat} (ha : VBig .f32 1 a) : VBig .f32 0 (vop .sub .f32 a (some one32)) := by
  obtain ⟨x, rfl, hx⟩ := ha
  show VBig .f32 0 ((((FloatKind.f32).decode x).sum ((FloatKind.f32).decode one32).opposite).map (FloatKind.f32).format.write)
  rw [dec_one32]
  cases hd : (FloatKind.f32).decode x with
  | nan => rw [hd] at hx; exact hx.elim
  | infinity s =>
    rw [hd] at hx
    have : s = false := hx
    subst this
    refine ⟨_, rfl, ?_⟩
    rw [show (FloatKind.f32).decode ((FloatKind.f32).format.write (.infinity false)) = .infinity false by decide +kernel]; rfl
  | number s m i =>
    rw [hd] at hx
    obtain ⟨rfl, h0, hl⟩ := hx
    refine ⟨_, rfl, write_big .f32 (F := 0) ?_ ⟨by decide, by decide⟩⟩
    show BigD 0 (.number _ _ _)
    rw [signed_false', show Ieee.signed (!false) (2 ^ 23) (-23 - min i (-23)).toNat = -((2 ^ 23 * 2 ^ (-23 - min i (-23)).toNat : Nat) : Int) by rw [signed_not, signed_false']]
    have hge : 2 ^ (m.log2 + (i - min i (-23)).toNat) ≤ m * 2 ^ (i - min i (-23)).toNat := by
      rw [Nat.pow_add]; exact Nat.mul_le_mul_right _ (Nat.log2_self_le h0)
    rw [← Nat.pow_add]
    have hq : 2 * 2 ^ (23 + (-23 - min i (-23)).toNat) ≤ 2 ^ (m.log2 + (i - min i (-23)).toNat) := by
      rw [Nat.mul_comm, ← Nat.pow_succ]
      exact Nat.pow_le_pow_right (by omega) (by omega)
    have hp := Nat.two_pow_pos (23 + (-23 - min i (-23)).toNat)
    generalize m * 2 ^ (i - min i (-23)).toNat = p at *
    generalize hQ : 2 ^ (23 + (-23 - min i (-23)).toNat) = q at *
    generalize 2 ^ (m.log2 + (i - min i (-23)).toNat) = r at *
    have e : ((p : Int) + -(q : Int)).natAbs = p - q := by omega
    refine ⟨?_, by omega, ?_⟩
    · rw [if_neg (by omega)]; exact decide_eq_false (by omega)
    · rw [e]
      have : 23 + (-23 - min i (-23)).toNat ≤ (p - q).log2 := (Nat.le_log2 (by omega)).2 (by omega)
      omega

theorem big_not_le {a : Option Nat} (ha : VBig .f32 0 a) : le32 a (some c001) = false := by
  obtain ⟨x, rfl, hx⟩ := ha
  unfold le32 vord
  simp only [Option.bind_some]
  show (((FloatKind.f32).decode x).order ((FloatKind.f32).decode c001) == some .lt || ((FloatKind.f32).decode x).order ((FloatKind.f32).decode c001) == some .eq) = false
  rw [dec_c001]
  cases hd : (FloatKind.f32).decode x with
  | nan => rw [hd] at hx; exact hx.elim
  | infinity s =>
    rw [hd] at hx
    have : s = false := hx
    subst this
    rfl
  | number s m i =>
    rw [hd] at hx
    obtain ⟨rfl, h0, hl⟩ := hx
    simp only [Ieee.Datum.order]
    rw [cmp_le, signed_false', signed_false']
    refine decide_eq_false ?_
    have hge : 2 ^ (m.log2 + (i - min i (-33)).toNat) ≤ m * 2 ^ (i - min i (-33)).toNat := by
      rw [Nat.pow_add]; exact Nat.mul_le_mul_right _ (Nat.log2_self_le h0)
    have hq : 2 ^ (33 + (-33 - min i (-33)).toNat) ≤ 2 ^ (m.log2 + (i - min i (-33)).toNat) := Nat.pow_le_pow_right (by omega) (by omega)
    have hlt : 8589935 * 2 ^ (-33 - min i (-33)).toNat < 2 ^ (33 + (-33 - min i (-33)).toNat) := by
      rw [Nat.pow_add]; exact Nat.mul_lt_mul_of_pos_right (by decide) (Nat.two_pow_pos _)
    generalize 2 ^ (m.log2 + (i - min i (-33)).toNat) = r at *
    generalize m * 2 ^ (i - min i (-33)).toNat = p at *
    generalize 8589935 * 2 ^ (-33 - min i (-33)).toNat = q at *
    generalize 2 ^ (33 + (-33 - min i (-33)).toNat) = t at *
    omega

/-! ### What is never near 1: not-a-numbers and infinities -/
def Bad (a : Option Nat) : Prop := a = none ∨ ∃ b s, a = some b ∧ (FloatKind.f32).decode b = .infinity s

theorem bad_add {a : Option Nat} (h : Bad a) (b : Option Nat) : Bad (vop .add .f32 a b) := by
  rcases h with rfl | ⟨x, s, rfl, hx⟩
  · exact .inl rfl
  · cases b with
    | none => exact .inl rfl
    | some y =>
      show Bad ((((FloatKind.f32).decode x).sum ((FloatKind.f32).decode y)).map (FloatKind.f32).format.write)
      rw [hx]
      cases (FloatKind.f32).decode y with
      | number t n j => exact .inr ⟨_, s, rfl, by cases s <;> decide +kernel⟩
      | infinity t =>
        cases s <;> cases t
        · exact .inr ⟨_, false, rfl, by decide +kernel⟩
        · exact .inl rfl
        · exact .inl rfl
        · exact .inr ⟨_, true, rfl, by decide +kernel⟩
      | nan => exact .inl rfl
theorem bad_add' {a : Option Nat} (h : Bad a) (b : Option Nat) : Bad (vop .add .f32 b a) := by
  have e : vop .add .f32 b a = vop .add .f32 a b := by
    cases a with
    | none => cases b <;> rfl
    | some x => cases b with
      | none => rfl
      | some y =>
        show ((((FloatKind.f32).decode y).sum ((FloatKind.f32).decode x)).map (FloatKind.f32).format.write) = ((((FloatKind.f32).decode x).sum ((FloatKind.f32).decode y)).map (FloatKind.f32).format.write)
        rw [sum_comm]
  rw [e]; exact bad_add h b

/-- 'near 1', as it is told of a sum. -/
def nearB (s : Option Nat) : Bool := ge32 (vop .sub .f32 s (some one32)) (some m001) && le32 (vop .sub .f32 s (some one32)) (some c001)

theorem bad_not_near {s : Option Nat} (h : Bad s) : nearB s = false := by
  rcases h with rfl | ⟨x, s, rfl, hx⟩
  · rfl
  · have e : vop .sub .f32 (some x) (some one32) = some ((FloatKind.f32).format.write (.infinity s)) := by
      show ((((FloatKind.f32).decode x).sum ((FloatKind.f32).decode one32).opposite).map (FloatKind.f32).format.write) = _
      rw [hx, dec_one32]; rfl
    unfold nearB
    rw [e]
    cases s <;> decide +kernel
theorem big_not_near {s : Option Nat} (h : VBig .f32 1 s) : nearB s = false := by
  unfold nearB
  rw [big_not_le (sub1_big h), Bool.and_false]

/-! ### Rows -/
/-- The class of the sum of the first k. -/
def vsum (zs : List Nat) : Nat → Option Nat
  | 0 => cls .f32 0
  | k + 1 => vop .add .f32 (vsum zs k) (cls .f32 (zs.getD k 0))
/-- Not less than 0. -/
def notNeg (z : Nat) : Bool := !((FloatKind.f32).format.order z 0 == some .lt)
/-- Finite, and at least 0. -/
def leastB (z : Nat) : Bool := finD ((FloatKind.f32).decode z) && ((FloatKind.f32).format.order z 0 == some .gt || (FloatKind.f32).format.order z 0 == some .eq)
def chB (zs : List Nat) (n : Nat) : Bool := decide (∀ k, k < n → notNeg (zs.getD k 0) = true) && nearB (vsum zs n)
def chS (zs : List Nat) (n : Nat) : Bool := decide (∀ k, k < n → leastB (zs.getD k 0) = true) && nearB (vsum zs n)

theorem order_0 (s : Bool) (m : Nat) (i : Int) : (Ieee.Datum.number s m i).order (.number false 0 (-149)) = some (compare (Ieee.signed s m (i - min i (-149)).toNat) 0) := by
  simp only [Ieee.Datum.order]
  rw [signed_zero]

theorem least_pos {z : Nat} (h : leastB z = true) : PosD ((FloatKind.f32).decode z) ∧ finD ((FloatKind.f32).decode z) = true := by
  unfold leastB at h
  rw [Bool.and_eq_true] at h
  refine ⟨?_, h.1⟩
  obtain ⟨h1, h2⟩ := h
  have h2 : (((FloatKind.f32).decode z).order ((FloatKind.f32).decode 0) == some .gt || ((FloatKind.f32).decode z).order ((FloatKind.f32).decode 0) == some .eq) = true := h2
  rw [dec_032] at h2
  cases hd : (FloatKind.f32).decode z with
  | nan => rw [hd] at h1; cases h1
  | infinity => rw [hd] at h1; cases h1
  | number s m i =>
    rw [hd, order_0, cmp_ge] at h2
    have h2 := of_decide_eq_true h2
    by_cases h0 : m = 0
    · exact .inr h0
    · left
      cases s with
      | false => rfl
      | true =>
        exfalso
        have : Ieee.signed true m (i - min i (-149)).toNat = -((m * 2 ^ (i - min i (-149)).toNat : Nat) : Int) := by
          have := signed_not false m (i - min i (-149)).toNat
          rw [signed_false'] at this; exact this
        have hp : 0 < m * 2 ^ (i - min i (-149)).toNat := Nat.mul_pos (by omega) (Nat.two_pow_pos _)
        omega

theorem least_notNeg {z : Nat} (h : leastB z = true) : notNeg z = true := by
  unfold leastB at h
  rw [Bool.and_eq_true] at h
  unfold notNeg
  obtain ⟨_, h2⟩ := h
  revert h2
  cases (FloatKind.f32).format.order z 0 with
  | none => intro h; cases h
  | some o => cases o <;> intro h <;> first | rfl | cases h

theorem notNeg_cases {z : Nat} (h : notNeg z = true) : leastB z = true ∨ Bad (cls .f32 z) := by
  have h' : (((FloatKind.f32).decode z).order ((FloatKind.f32).decode 0) == some .lt) = false := by
    unfold notNeg at h
    have : (!(((FloatKind.f32).decode z).order ((FloatKind.f32).decode 0) == some .lt)) = true := h
    simpa using this
  rw [dec_032] at h'
  cases hd : (FloatKind.f32).decode z with
  | nan s t => right; left; unfold cls; rw [hd]; rfl
  | infinity s => right; right; exact ⟨z, s, by unfold cls; rw [hd]; rfl, hd⟩
  | number s m i =>
    left
    unfold leastB
    have e : ((FloatKind.f32).format.order z 0 == some .gt || (FloatKind.f32).format.order z 0 == some .eq) = (((FloatKind.f32).decode z).order ((FloatKind.f32).decode 0) == some .gt || ((FloatKind.f32).decode z).order ((FloatKind.f32).decode 0) == some .eq) := rfl
    rw [e, dec_032, hd, order_0, cmp_ge]
    rw [hd, order_0] at h'
    have : finD (Ieee.Datum.number s m i) = true := rfl
    rw [this, Bool.true_and]
    refine decide_eq_true ?_
    rcases Int.lt_trichotomy (Ieee.signed s m (i - min i (-149)).toNat) 0 with hl | hl | hl
    · exfalso
      have : compare (Ieee.signed s m (i - min i (-149)).toNat) 0 = .lt := by
        show compareOfLessAndEq _ _ = _
        unfold compareOfLessAndEq
        rw [if_pos hl]
      rw [this] at h'; cases h'
    · omega
    · omega

theorem vsum_bad {zs : List Nat} {k : Nat} (hb : Bad (cls .f32 (zs.getD k 0))) : ∀ n, k < n → Bad (vsum zs n) := by
  intro n
  induction n with
  | zero => intro h; omega
  | succ n ih =>
    intro h
    by_cases e : k = n
    · subst e; exact bad_add' hb _
    · exact bad_add (ih (by omega)) _

/-- BOTH SAY THE SAME OF A LIST. -/
theorem ch_eq (zs : List Nat) (n : Nat) : chB zs n = chS zs n := by
  unfold chB chS
  by_cases hb : nearB (vsum zs n) = true
  · rw [hb, Bool.and_true, Bool.and_true]
    refine decide_eq_decide.2 ⟨fun h k hk => ?_, fun h k hk => least_notNeg (h k hk)⟩
    rcases notNeg_cases (h k hk) with h1 | h1
    · exact h1
    · rw [bad_not_near (vsum_bad h1 n hk)] at hb; cases hb
  · rw [Bool.not_eq_true] at hb
    rw [hb, Bool.and_false, Bool.and_false]

theorem cls_pos {z : Nat} (h : PosD ((FloatKind.f32).decode z)) : VPos .f32 (cls .f32 z) := by
  refine ⟨z, cls_of_not ?_, h⟩
  cases hd : (FloatKind.f32).decode z with
  | nan => rw [hd] at h; exact h.elim
  | number => rfl
  | infinity => rfl

theorem vsum_pos {zs : List Nat} : ∀ n, (∀ k, k < n → leastB (zs.getD k 0) = true) → VPos .f32 (vsum zs n) := by
  intro n
  induction n with
  | zero => intro _; exact ⟨0, cls_032, by rw [dec_032]; exact .inl rfl⟩
  | succ n ih => intro h; exact vadd_pos (ih fun k hk => h k (by omega)) (cls_pos (least_pos (h n (by omega))).1)

theorem vsum_big {zs : List Nat} {j : Nat} (hj : VBig .f32 1 (cls .f32 (zs.getD j 0))) : ∀ n, j < n → (∀ k, k < n → leastB (zs.getD k 0) = true) → VBig .f32 1 (vsum zs n) := by
  intro n
  induction n with
  | zero => intro h; omega
  | succ n ih =>
    intro h hl
    by_cases e : j = n
    · subst e; exact vadd_big' (vsum_pos _ fun k hk => hl k (by omega)) hj ⟨by decide, by decide⟩
    · exact vadd_big (ih (by omega) fun k hk => hl k (by omega)) (cls_pos (least_pos (hl n (by omega))).1) ⟨by decide, by decide⟩

/-- What a chance of a list of chances is: a number of at least 0, at most 2. -/
theorem ch_each {zs : List Nat} {n : Nat} (h : chS zs n = true) {k : Nat} (hk : k < n) : ∃ s m i, (FloatKind.f32).decode (zs.getD k 0) = .number s m i ∧ (s = false ∨ m = 0) ∧ VLe .f32 1 (cls .f32 (zs.getD k 0)) := by
  unfold chS at h
  rw [Bool.and_eq_true] at h
  have hl := of_decide_eq_true h.1
  obtain ⟨hp, hf⟩ := least_pos (hl k hk)
  cases hd : (FloatKind.f32).decode (zs.getD k 0) with
  | nan => rw [hd] at hf; cases hf
  | infinity => rw [hd] at hf; cases hf
  | number s m i =>
    rw [hd] at hp
    refine ⟨s, m, i, rfl, hp, ⟨zs.getD k 0, cls_of_not (by rw [hd]; rfl), ?_⟩⟩
    rw [hd]
    by_cases hb : m = 0 ∨ (m.log2 : Int) + i < 1
    · exact leN_of_log hb
    · exfalso
      have h0 : m ≠ 0 := fun e => hb (.inl e)
      have hs : s = false := Or.resolve_right hp h0
      have := vsum_big (j := k) ⟨zs.getD k 0, cls_of_not (by rw [hd]; rfl), by rw [hd]; exact ⟨hs, h0, by omega⟩⟩ n hk hl
      rw [big_not_near this] at h
      cases h.2
end Go.Proofs.YtkmggoagboikgaaDoor.Flo


/- Walks over small functions on floats. -/
namespace Go.Proofs.YtkmggoagboikgaaDoor
open Go.Proofs.YtkmggoagboikgaaDoor.Flo Go.RowKit

/-- At most some draws lie between two worlds. -/
def Drew (w w' : World) : Prop := ∃ n, w' = w.drewN n
theorem Drew.refl (w : World) : Drew w w := ⟨0, rfl⟩
theorem Drew.mk (w : World) (n : Nat) : Drew w (w.drewN n) := ⟨n, rfl⟩
theorem Drew.below {w w' : World} (h : Drew w w') : Below w.heap.size w w' := by
  obtain ⟨n, rfl⟩ := h
  exact (Below.refl _ _).trans ⟨rfl, rfl, rfl, Nat.le_refl _, fun _ _ => rfl⟩

/-- 'sameFloat' of two numbers that are the same up to which not-a-number. -/
theorem sameFloat_true (a b : Nat) (h : cls .f64 a = cls .f64 b) (w : World) :
    Calls Tryd.prog 17 #[.float .f64 a, .float .f64 b] w fun e w' => e = .returned (.bool true) ∧ Drew w w' := by
  cases ha : cls .f64 a with
  | none =>
    have h1 := order_nan (k := .f64) (y := a) (cls_none ha)
    have h2 := order_nan (k := .f64) (y := b) (cls_none (h ▸ ha))
    go_enter Tryd.func17, Tryd.ntmps17
    go_wp2
    go_ret
    exact ⟨rfl, Drew.refl _⟩
  | some x =>
    obtain ⟨rfl, hn⟩ := cls_some ha
    obtain ⟨rfl, _⟩ := cls_some (h ▸ ha)
    have h1 := order_self hn
    clear ha h
    by_cases h0 : (FloatKind.f64).format.order b 0 = some .eq
    · go_enter Tryd.func17, Tryd.ntmps17
      go_wp2
      go_ret
      exact ⟨by simp [order_cls, fres_cls], Drew.mk _ _⟩
    · have h3 : ((FloatKind.f64).format.order b 0 == some .eq) = false := by simpa using h0
      go_enter Tryd.func17, Tryd.ntmps17
      go_wp2
      go_ret
      exact ⟨rfl, Drew.refl _⟩


end Go.Proofs.YtkmggoagboikgaaDoor


/- Walks over the library's small functions on floats, and what is finite. -/
namespace Go.Proofs.YtkmggoagboikgaaDoor
open Go.Proofs.YtkmggoagboikgaaDoor.Flo Go.RowKit

theorem call_bits32 (x : Nat) (w : World) : (callFunc 34 #[.float .f32 x]).run Tryd.prog w = .ok (.value (.int .u32 x)) w := by
  rw [run_callFunc_extern Tryd.func34 (by kernel_rfl) (by kernel_rfl) (by kernel_rfl) (e := Extern.MathFloatBits.float32bits) (by kernel_rfl)]
  rfl
theorem call_from32 (n : Int) (w : World) : (callFunc 41 #[.int .u32 n]).run Tryd.prog w = .ok (.value (.float .f32 n.toNat)) w := by
  rw [run_callFunc_extern Tryd.func41 (by kernel_rfl) (by kernel_rfl) (by kernel_rfl) (e := Extern.MathFloatBits.float32frombits) (by kernel_rfl)]
  rfl
theorem ret_float {k : FloatKind} {a b : Nat} (h : a = b) : Ending.returned (.float k a) = .returned (.float k b) := by rw [h]
theorem ret_bool' {a b : Bool} (h : a = b) : Ending.returned (.bool a) = .returned (.bool b) := by rw [h]
end Go.Proofs.YtkmggoagboikgaaDoor


/- Sines of turns. -/
namespace Go.Proofs.YtkmggoagboikgaaDoor
open Go.Proofs.YtkmggoagboikgaaDoor.Flo Go.RowKit

@[go_sem] theorem unary_fneg (k : FloatKind) (b : Nat) : Op.unary .neg (.float k b) = pure (.float k (Op.negFloat k b)) := rfl

def c1 : Nat := 4607182418800017408
def c05 : Nat := 4602678819172646912
def c025 : Nat := 4598175219545276416
def c2pi : Nat := 4618760256179416344
theorem dec_c1 : (FloatKind.f64).decode c1 = .number false (2 ^ 52) (-52) := by decide +kernel
theorem le_c1 : VLe .f64 0 (some c1) := ⟨_, rfl, by rw [dec_c1]; exact leN_of 52 (by decide) (by decide) (by decide)⟩
theorem le_c05 : VLe .f64 (-1) (some c05) := ⟨_, rfl, by rw [show (FloatKind.f64).decode c05 = .number false (2 ^ 52) (-53) by decide +kernel]; exact leN_of 53 (by decide) (by decide) (by decide)⟩
theorem le_c025 : VLe .f64 (-2) (some c025) := ⟨_, rfl, by rw [show (FloatKind.f64).decode c025 = .number false (2 ^ 52) (-54) by decide +kernel]; exact leN_of 54 (by decide) (by decide) (by decide)⟩
theorem le_c2pi : VLe .f64 3 (some c2pi) := ⟨_, rfl, by rw [show (FloatKind.f64).decode c2pi = .number false 7074237752028440 (-50) by decide +kernel]; exact leN_of 50 (by decide) (by decide) (by decide)⟩
theorem cls_c1 : cls .f64 c1 = some c1 := by decide +kernel
theorem cls_c05 : cls .f64 c05 = some c05 := by decide +kernel
theorem cls_c025 : cls .f64 c025 = some c025 := by decide +kernel
theorem cls_c2pi : cls .f64 c2pi = some c2pi := by decide +kernel
theorem cls_0 : cls .f64 0 = some 0 := by decide +kernel

def vlt (a b : Option Nat) : Bool := vord .f64 a b == some .lt
def vgt (a b : Option Nat) : Bool := vord .f64 a b == some .gt
def vge (a b : Option Nat) : Bool := vord .f64 a b == some .gt || vord .f64 a b == some .eq

/-- A number's opposite. -/
theorem neg_cls {b : Nat} (w : World) (x y : Nat) (op : BinOp) (h : b = fres op .f64 x y w) : cls .f64 (Op.negFloat .f64 b) = (vop op .f64 (cls .f64 x) (cls .f64 y)).map (Op.negFloat .f64) := by
  have hc : cls .f64 b = vop op .f64 (cls .f64 x) (cls .f64 y) := by rw [h]; exact fres_cls ..
  rw [← hc]
  have hlt : b < 2 ^ 64 := by rw [h]; exact fres_lt ..
  have hk : Op.negFloat .f64 b = b ^^^ 2 ^ 63 := rfl
  have hx : (b ^^^ 2 ^ 63) % 2 ^ 63 = b % 2 ^ 63 := by rw [Nat.xor_mod_two_pow]; simp
  have hn : ∀ c d : Nat, c % 2 ^ 63 = d % 2 ^ 63 → ((FloatKind.f64).decode c).isNaN = ((FloatKind.f64).decode d).isNaN := by
    intro c d hcd
    unfold FloatKind.decode Ieee.Format.read
    have h1 : (FloatKind.f64).format.signWeight = 2 ^ 63 := rfl
    rw [h1, hcd]
    dsimp only
    split
    · rfl
    · split
      · rfl
      · split <;> rfl
  unfold cls
  rw [hk, hn _ _ hx]
  split <;> rfl

def restV (y : Nat) : Option Nat := if vlt (restF y) (some 0) then vop .add .f64 (restF y) (some c1) else restF y
def halfV (f : Option Nat) : Option Nat := if vge f (some c05) then vop .sub .f64 f (some c05) else f
def foldV (f : Option Nat) : Option Nat := if vgt f (some c025) then vop .sub .f64 (some c05) f else f
def stS (u : Option Nat) (k : Nat) (p : Option Nat) : Option Nat :=
  vop .sub .f64 (some c1) (vop .quo .f64 (vop .mul .f64 u p) (some (floatOfInt .f64 ((2 * k * (2 * k + 1) : Nat) : Int))))
/-- The series: after the steps 8, 7, .., 9 - j. -/
def serS (u : Option Nat) : Nat → Option Nat
  | 0 => some c1
  | j + 1 => stS u (8 - j) (serS u j)
def zV (f : Option Nat) : Option Nat := vop .mul .f64 f (some c2pi)
def sinF (f : Option Nat) : Option Nat :=
  let z := zV (foldV (halfV f))
  let r := vop .mul .f64 z (serS (vop .mul .f64 z z) 8)
  if vge f (some c05) then r.map (Op.negFloat .f64) else r
/-- The sine of some turns that are nearer to 0 than 2 ^ 52. -/
def sineV (y : Nat) : Option Nat := sinF (restV y)

theorem ite_le {k : FloatKind} {E : Int} {c : Bool} {a b : Option Nat} (ha : VLe k E a) (hb : VLe k E b) : VLe k E (if c then a else b) := by
  cases c
  · exact hb
  · exact ha
theorem restV_le {y : Nat} (h : smallD ((FloatKind.f64).decode y) = true) : VLe .f64 1 (restV y) :=
  ite_le (vadd_le (restF_le h) le_c1 ⟨by decide, by decide⟩) ((restF_le h).mono (by decide))
theorem halfV_le {f : Option Nat} (h : VLe .f64 1 f) : VLe .f64 2 (halfV f) :=
  ite_le (vsub_le h le_c05 ⟨by decide, by decide⟩) (h.mono (by decide))
theorem foldV_le {f : Option Nat} (h : VLe .f64 2 f) : VLe .f64 3 (foldV f) :=
  ite_le (vsub_le le_c05 h ⟨by decide, by decide⟩) (h.mono (by decide))
theorem zV_le {f : Option Nat} (h : VLe .f64 3 f) : VLe .f64 6 (zV f) := vmul_le h le_c2pi ⟨by decide, by decide⟩

theorem stS_le {u p : Option Nat} {E : Int} {k : Nat} (hu : VLe .f64 12 u) (hp : VLe .f64 E p) (hE0 : 0 ≤ E) (hE : E ≤ 900) (hk1 : 1 ≤ k) (hk : k ≤ 8) : VLe .f64 (E + 12) (stS u k p) := by
  have hm := vmul_le hu hp (show Norm .f64 (12 + E) from ⟨by omega, by omega⟩)
  have hl : VL .f64 2 (some (floatOfInt .f64 ((2 * k * (2 * k + 1) : Nat) : Int))) := by
    refine ⟨_, rfl, ?_⟩
    have : k = 1 ∨ k = 2 ∨ k = 3 ∨ k = 4 ∨ k = 5 ∨ k = 6 ∨ k = 7 ∨ k = 8 := by omega
    rcases this with rfl | rfl | rfl | rfl | rfl | rfl | rfl | rfl
    · rw [show (FloatKind.f64).decode (floatOfInt .f64 ((2 * 1 * (2 * 1 + 1) : Nat) : Int)) = .number false (6 <<< 50) (-50) by decide +kernel]; exact ⟨by decide, by decide +kernel⟩
    · rw [show (FloatKind.f64).decode (floatOfInt .f64 ((2 * 2 * (2 * 2 + 1) : Nat) : Int)) = .number false (20 <<< 48) (-48) by decide +kernel]; exact ⟨by decide, by decide +kernel⟩
    · rw [show (FloatKind.f64).decode (floatOfInt .f64 ((2 * 3 * (2 * 3 + 1) : Nat) : Int)) = .number false (42 <<< 47) (-47) by decide +kernel]; exact ⟨by decide, by decide +kernel⟩
    · rw [show (FloatKind.f64).decode (floatOfInt .f64 ((2 * 4 * (2 * 4 + 1) : Nat) : Int)) = .number false (72 <<< 46) (-46) by decide +kernel]; exact ⟨by decide, by decide +kernel⟩
    · rw [show (FloatKind.f64).decode (floatOfInt .f64 ((2 * 5 * (2 * 5 + 1) : Nat) : Int)) = .number false (110 <<< 46) (-46) by decide +kernel]; exact ⟨by decide, by decide +kernel⟩
    · rw [show (FloatKind.f64).decode (floatOfInt .f64 ((2 * 6 * (2 * 6 + 1) : Nat) : Int)) = .number false (156 <<< 45) (-45) by decide +kernel]; exact ⟨by decide, by decide +kernel⟩
    · rw [show (FloatKind.f64).decode (floatOfInt .f64 ((2 * 7 * (2 * 7 + 1) : Nat) : Int)) = .number false (210 <<< 45) (-45) by decide +kernel]; exact ⟨by decide, by decide +kernel⟩
    · rw [show (FloatKind.f64).decode (floatOfInt .f64 ((2 * 8 * (2 * 8 + 1) : Nat) : Int)) = .number false (272 <<< 44) (-44) by decide +kernel]; exact ⟨by decide, by decide +kernel⟩
  have hq := vquo_le hm hl (show Norm .f64 (12 + E - 2 + 1) from ⟨by omega, by omega⟩)
  exact (vsub_le le_c1 (hq.mono (F := E + 11) (by omega)) (show Norm .f64 (max 0 (E + 11) + 1) from ⟨by omega, by omega⟩)).mono (by omega)

theorem serS_le {u : Option Nat} (hu : VLe .f64 12 u) : ∀ j : Nat, j ≤ 8 → VLe .f64 (12 * (j : Int)) (serS u j) := by
  intro j
  induction j with
  | zero => intro _; exact le_c1
  | succ j ih =>
    intro hj
    exact (stS_le hu (ih (by omega)) (by omega) (by omega) (by omega : 1 ≤ 8 - j) (by omega)).mono (by omega)

theorem decode_neg (b : Nat) : (FloatKind.f64).decode (Op.negFloat .f64 b) = ((FloatKind.f64).decode b).opposite := by
  have hk : Op.negFloat .f64 b = b ^^^ 2 ^ 63 := rfl
  have hx : (b ^^^ 2 ^ 63) % 2 ^ 63 = b % 2 ^ 63 := by rw [Nat.xor_mod_two_pow]; simp
  have hd : (b ^^^ 2 ^ 63) / 2 ^ 63 = (b / 2 ^ 63) ^^^ 1 := by
    rw [← Nat.shiftRight_eq_div_pow, Nat.shiftRight_xor_distrib, Nat.shiftRight_eq_div_pow, Nat.shiftRight_eq_div_pow]
  have hp : ((b / 2 ^ 63) ^^^ 1) % 2 = 1 - b / 2 ^ 63 % 2 := by
    have := Nat.xor_mod_two_pow (a := b / 2 ^ 63) (b := 1) (n := 1)
    rw [Nat.pow_one] at this
    rw [this]
    have : b / 2 ^ 63 % 2 = 0 ∨ b / 2 ^ 63 % 2 = 1 := by omega
    rcases this with h | h <;> rw [h] <;> rfl
  rw [hk]
  unfold FloatKind.decode Ieee.Format.read
  have h1 : (FloatKind.f64).format.signWeight = 2 ^ 63 := rfl
  rw [h1, hx, hd]
  dsimp only
  have hs : (((b / 2 ^ 63) ^^^ 1) % 2 == 1) = !(b / 2 ^ 63 % 2 == 1) := by
    rw [hp]
    have : b / 2 ^ 63 % 2 = 0 ∨ b / 2 ^ 63 % 2 = 1 := by omega
    rcases this with h | h <;> rw [h] <;> rfl
  rw [hs]
  split
  · rfl
  · split
    · rfl
    · split <;> rfl

theorem sinF_le {f : Option Nat} (h : VLe .f64 1 f) : VLe .f64 102 (sinF f) := by
  have hz := zV_le (foldV_le (halfV_le h))
  have hu : VLe .f64 12 (vop .mul .f64 (zV (foldV (halfV f))) (zV (foldV (halfV f)))) := vmul_le hz hz ⟨by decide, by decide⟩
  have hr : VLe .f64 102 (vop .mul .f64 (zV (foldV (halfV f))) (serS (vop .mul .f64 (zV (foldV (halfV f))) (zV (foldV (halfV f)))) 8)) :=
    vmul_le hz (serS_le hu 8 (by decide)) ⟨by decide, by decide⟩
  unfold sinF
  refine ite_le ?_ hr
  obtain ⟨b, hb, hl⟩ := hr
  refine ⟨Op.negFloat .f64 b, by rw [hb]; rfl, ?_⟩
  rw [decode_neg]
  exact hl.opposite
theorem sineV_le {y : Nat} (h : smallD ((FloatKind.f64).decode y) = true) : VLe .f64 102 (sineV y) := sinF_le (restV_le h)

/-! ### The walks -/
theorem stS_cls {ub pb : Nat} {U Q : Option Nat} (hu : cls .f64 ub = U) (hp : cls .f64 pb = Q) {k : Int} {j : Nat} (hk : k = 8 - (j : Int)) (hj : j < 8) (w1 w2 w3 : World) :
    cls .f64 (fres .sub .f64 4607182418800017408 (fres .quo .f64 (fres .mul .f64 ub pb w1) (floatOfInt .f64 (wrap64 (2 * k * (2 * k + 1)))) w2) w3) = stS U (8 - j) Q := by
  have hm : wrap64 (2 * k * (2 * k + 1)) = ((2 * (8 - j) * (2 * (8 - j) + 1) : Nat) : Int) := by
    have : j = 0 ∨ j = 1 ∨ j = 2 ∨ j = 3 ∨ j = 4 ∨ j = 5 ∨ j = 6 ∨ j = 7 := by omega
    rcases this with rfl | rfl | rfl | rfl | rfl | rfl | rfl | rfl <;> subst hk <;> decide +kernel
  rw [hm, fres_cls, fres_cls, fres_cls, hu, hp, cls_int, show cls .f64 4607182418800017408 = some c1 from cls_c1]
  rfl

theorem lt_rest (y : Nat) (w : World) : ((FloatKind.f64).format.order (fres .sub .f64 y (floatOfInt .f64 (truncI y)) w) 0 == some .lt) = vlt (if ((FloatKind.f64).decode y).isNaN then none else restF y) (some 0) := by
  rw [order_cls, fres_cls, cls_0, cls_int]
  unfold vlt cls
  split <;> rfl


theorem cls_nan32 : cls .f32 2143289344 = none := by decide +kernel
theorem sq_cls {f : Nat} {X : Option Nat} (h : cls .f64 f = X) (w : World) : cls .f64 (fres .mul .f64 f f w) = vop .mul .f64 X X := by
  rw [fres_cls, h]

end Go.Proofs.YtkmggoagboikgaaDoor


/- Logarithms: the plain side. -/
namespace Go.Proofs.YtkmggoagboikgaaDoor
open Go.Proofs.YtkmggoagboikgaaDoor.Flo Go.RowKit

theorem log2_shl_eq (q t : Nat) (h : q ≠ 0) : (q <<< t).log2 = q.log2 + t := by
  have h1 := log2_shl q t h
  have h2 : 2 ^ (q.log2 + t) ≤ q <<< t := by
    rw [Nat.shiftLeft_eq, Nat.pow_add]; exact Nat.mul_le_mul_right _ (Nat.log2_self_le h)
  have h0 : q <<< t ≠ 0 := by have := Nat.two_pow_pos (q.log2 + t); omega
  have h3 := (Nat.le_log2 h0).2 h2
  omega

/-- What has at most 53 digits is written as it is. -/
theorem exact64 (neg : Bool) (q t : Nat) (place : Int) (h0 : q ≠ 0) (h : q.log2 ≤ 52) (hlo : -1074 ≤ place + t + q.log2 - 52) (hhi : place + t + q.log2 ≤ 1023) :
    (FloatKind.f64).decode ((FloatKind.f64).format.nearest neg (q <<< t) place) = .number neg (q <<< (52 - q.log2)) (place + t + q.log2 - 52) := by
  have h1 : (FloatKind.f64).format.leastPlace = -1074 := rfl
  have h2 : (FloatKind.f64).format.fractionBits = 52 := rfl
  have h3 : (FloatKind.f64).format.binade = 2 ^ 52 := rfl
  have h4 : (FloatKind.f64).format.infRung = 2047 * 2 ^ 52 := rfl
  have h5 := (FloatKind.f64).format.infRung_lt
  unfold FloatKind.decode
  generalize (FloatKind.f64).format = f at *
  unfold Ieee.Format.nearest
  dsimp only
  have hne : q <<< t ≠ 0 := by rw [Nat.shiftLeft_eq]; exact Nat.mul_ne_zero h0 (by have := Nat.two_pow_pos t; omega)
  rw [if_neg hne, h1, h2, log2_shl_eq q t h0]
  have hlast : max (place + ((q.log2 + t : Nat) : Int) - (52 : Nat)) (-1074) = place + t + q.log2 - 52 := by omega
  rw [hlast]
  generalize hL : place + t + q.log2 - 52 = last
  have hlo2 : 2 ^ 52 ≤ q <<< (52 - q.log2) := by
    rw [Nat.shiftLeft_eq]
    calc 2 ^ 52 = 2 ^ q.log2 * 2 ^ (52 - q.log2) := by rw [← Nat.pow_add]; congr 1; omega
      _ ≤ _ := Nat.mul_le_mul_right _ (Nat.log2_self_le h0)
  have hhi2 : q <<< (52 - q.log2) < 2 ^ 53 := log2_shl_lt (by omega)
  have heq : q <<< t <<< (place - last).toNat = q <<< (52 - q.log2) * 2 ^ (last - place).toNat := by
    rw [Nat.shiftLeft_eq, Nat.shiftLeft_eq, Nat.shiftLeft_eq, Nat.mul_assoc, Nat.mul_assoc, ← Nat.pow_add, ← Nat.pow_add]
    congr 2
    omega
  generalize q <<< (52 - q.log2) = K at *
  have hcut : Ieee.Toward.even.cut neg (q <<< t <<< (place - last).toNat) (last - place).toNat = K :=
    Nat.le_antisymm (cut_even_le neg _ _ K (Nat.le_of_eq heq)) (cut_even_ge neg _ _ K (Nat.le_of_eq heq.symm))
  rw [hcut, h3]
  generalize hp : (last - -1074).toNat = p
  have hp2 : p ≤ 2045 := by omega
  have hr : p * 2 ^ 52 + K < f.infRung := by rw [h4]; omega
  rw [Nat.min_eq_left (Nat.le_of_lt hr), read_word f neg _ (Nat.lt_trans hr h5), h3, if_neg (by omega), if_pos hr, h1]
  have hm : (p * 2 ^ 52 + K) % 2 ^ 52 = K - 2 ^ 52 := by omega
  have hd : (p * 2 ^ 52 + K) / 2 ^ 52 = p + 1 := by omega
  have h6 : 2 ^ 52 + (K - 2 ^ 52) = K := by omega
  have h7 : (-1074 : Int) + ((p + 1 - 1 : Nat) : Int) = last := by omega
  rw [hm, hd, h6, h7]

/-- A number above 0 whose leading digit is at the place E. -/
def PosE (x : Nat) (E : Int) : Prop := ∃ m i, (FloatKind.f64).decode x = .number false m i ∧ m ≠ 0 ∧ m.log2 ≤ 52 ∧ (m.log2 : Int) + i = E

def c2 : Nat := 4611686018427387904
def c15 : Nat := 4609434218613702656
def c075 : Nat := 4604930618986332160
def cln2 : Nat := 4604418534313441775
theorem dec_c2 : (FloatKind.f64).decode c2 = .number false (2 ^ 52) (-51) := by decide +kernel
theorem dec_c15 : (FloatKind.f64).decode c15 = .number false (3 * 2 ^ 51) (-52) := by decide +kernel
theorem dec_c075 : (FloatKind.f64).decode c075 = .number false (3 * 2 ^ 51) (-53) := by decide +kernel
theorem cls_c2 : cls .f64 c2 = some c2 := by decide +kernel
theorem cls_c15 : cls .f64 c15 = some c15 := by decide +kernel
theorem cls_c075 : cls .f64 c075 = some c075 := by decide +kernel
theorem cls_cln2 : cls .f64 cln2 = some cln2 := by decide +kernel

theorem PosE.mk_of {q : Nat} {place : Int} {t : Nat} (h0 : q ≠ 0) (h : q.log2 ≤ 52) (hlo : -1000 ≤ place + t + q.log2) (hhi : place + t + q.log2 ≤ 1000) :
    PosE ((FloatKind.f64).format.nearest false (q <<< t) place) (place + t + q.log2) := by
  refine ⟨_, _, exact64 false q t place h0 h (by omega) (by omega), ?_, ?_, ?_⟩
  · rw [Nat.shiftLeft_eq]; exact Nat.mul_ne_zero h0 (by have := Nat.two_pow_pos (52 - q.log2); omega)
  · rw [log2_shl_eq _ _ h0]; omega
  · rw [log2_shl_eq _ _ h0]; omega

theorem halve_pos {x : Nat} {E : Int} (h : PosE x E) (hlo : -900 ≤ E) (hhi : E ≤ 900) : ∃ x', vop .quo .f64 (some x) (some c2) = some x' ∧ PosE x' (E - 1) := by
  obtain ⟨m, i, hd, h0, hl, hE⟩ := h
  have hq : ((FloatKind.f64).decode x).quotient ((FloatKind.f64).format.fractionBits + 2) ((FloatKind.f64).decode c2) = some (.number false (m <<< (55 - m.log2)) (i + 51 - (106 - m.log2 : Nat) - 1)) := by
    rw [hd, dec_c2]
    have hf : (FloatKind.f64).format.fractionBits = 52 := rfl
    rw [hf]
    have hlog : (2 ^ 52).log2 = 52 := by decide +kernel
    have hne : ¬ (2 : Nat) ^ 52 = 0 := by decide
    simp only [Ieee.Datum.quotient]
    rw [if_neg hne, hlog]
    have hmore : 52 + 2 + 52 - m.log2 = 106 - m.log2 := by omega
    rw [hmore]
    have hdiv : m <<< (106 - m.log2) = m <<< (54 - m.log2) * 2 ^ 52 := by
      rw [Nat.shiftLeft_eq, Nat.shiftLeft_eq, Nat.mul_assoc, ← Nat.pow_add]; congr 2; omega
    rw [hdiv, Nat.mul_div_cancel _ (by decide), Nat.mul_mod_left]
    have h2 : 2 * m <<< (54 - m.log2) + (0 != 0).toNat = m <<< (55 - m.log2) := by
      have e : 55 - m.log2 = (54 - m.log2) + 1 := by omega
      rw [e, Nat.shiftLeft_eq, Nat.shiftLeft_eq, Nat.pow_succ]
      show 2 * (m * 2 ^ (54 - m.log2)) + 0 = _
      rw [Nat.add_zero, Nat.mul_comm 2, Nat.mul_assoc]
    rw [h2]
    congr 2
  refine ⟨(FloatKind.f64).format.nearest false (m <<< (55 - m.log2)) (i + 51 - (106 - m.log2 : Nat) - 1), ?_, ?_⟩
  · show ((((FloatKind.f64).decode x).quotient ((FloatKind.f64).format.fractionBits + 2) ((FloatKind.f64).decode c2)).map (FloatKind.f64).format.write) = _
    rw [hq]; rfl
  · have := PosE.mk_of (q := m) (t := 55 - m.log2) (place := i + 51 - (106 - m.log2 : Nat) - 1) h0 hl (by omega) (by omega)
    have e : (i + 51 - (106 - m.log2 : Nat) - 1) + ((55 - m.log2 : Nat) : Int) + (m.log2 : Int) = E - 1 := by omega
    rw [e] at this
    exact this

theorem double_pos {x : Nat} {E : Int} (h : PosE x E) (hlo : -900 ≤ E) (hhi : E ≤ 900) : ∃ x', vop .mul .f64 (some x) (some c2) = some x' ∧ PosE x' (E + 1) := by
  obtain ⟨m, i, hd, h0, hl, hE⟩ := h
  have hq : ((FloatKind.f64).decode x).product ((FloatKind.f64).decode c2) = some (.number false (m <<< 52) (i + -51)) := by
    rw [hd, dec_c2, Nat.shiftLeft_eq]; rfl
  refine ⟨(FloatKind.f64).format.nearest false (m <<< 52) (i + -51), ?_, ?_⟩
  · show ((((FloatKind.f64).decode x).product ((FloatKind.f64).decode c2)).map (FloatKind.f64).format.write) = _
    rw [hq]; rfl
  · have := PosE.mk_of (q := m) (t := 52) (place := i + -51) h0 hl (by omega) (by omega)
    have e : (i + -51) + ((52 : Nat) : Int) + (m.log2 : Int) = E + 1 := by omega
    rw [e] at this
    exact this

theorem signed_false (m u : Nat) : Ieee.signed false m u = ((m * 2 ^ u : Nat) : Int) := by
  unfold Ieee.signed; rw [Nat.shiftLeft_eq]; simp

/-- Against 3 * 2 ^ (p + 51): a number of the leading place E. -/
theorem cmp_three {m : Nat} {i p : Int} (h0 : m ≠ 0) :
    (3 * 2 ^ 51 * 2 ^ (p - min i p).toNat ≤ m * 2 ^ (i - min i p).toNat → p + 52 ≤ (m.log2 : Int) + i) ∧ (m * 2 ^ (i - min i p).toNat < 3 * 2 ^ 51 * 2 ^ (p - min i p).toNat → (m.log2 : Int) + i ≤ p + 52) := by
  have h1 := log2_lt m
  have h2 := Nat.log2_self_le h0
  constructor
  · intro h
    have h3 : 2 ^ (52 + (p - min i p).toNat) < 2 ^ (m.log2 + 1 + (i - min i p).toNat) := by
      calc 2 ^ (52 + (p - min i p).toNat) = 2 ^ 52 * 2 ^ (p - min i p).toNat := Nat.pow_add ..
        _ ≤ 3 * 2 ^ 51 * 2 ^ (p - min i p).toNat := Nat.mul_le_mul_right _ (by decide)
        _ ≤ m * 2 ^ (i - min i p).toNat := h
        _ < 2 ^ (m.log2 + 1) * 2 ^ (i - min i p).toNat := Nat.mul_lt_mul_of_pos_right h1 (Nat.two_pow_pos _)
        _ = _ := (Nat.pow_add ..).symm
    have := (Nat.pow_lt_pow_iff_right (by omega : 1 < 2)).1 h3
    omega
  · intro h
    have h3 : 2 ^ (m.log2 + (i - min i p).toNat) < 2 ^ (53 + (p - min i p).toNat) := by
      calc 2 ^ (m.log2 + (i - min i p).toNat) = 2 ^ m.log2 * 2 ^ (i - min i p).toNat := Nat.pow_add ..
        _ ≤ m * 2 ^ (i - min i p).toNat := Nat.mul_le_mul_right _ h2
        _ < 3 * 2 ^ 51 * 2 ^ (p - min i p).toNat := h
        _ ≤ 2 ^ 53 * 2 ^ (p - min i p).toNat := Nat.mul_le_mul_right _ (by decide)
        _ = _ := (Nat.pow_add ..).symm
    have := (Nat.pow_lt_pow_iff_right (by omega : 1 < 2)).1 h3
    omega

theorem ge15 {x : Nat} {E : Int} (h : PosE x E) : (vge (some x) (some c15) = true → 0 ≤ E) ∧ (vge (some x) (some c15) = false → E ≤ 0) := by
  obtain ⟨m, i, hd, h0, hl, hE⟩ := h
  have hc := cmp_three (i := i) (p := -52) h0
  have hv : vge (some x) (some c15) = decide (3 * 2 ^ 51 * 2 ^ (-52 - min i (-52)).toNat ≤ m * 2 ^ (i - min i (-52)).toNat) := by
    show ((FloatKind.f64).format.order x c15 == some .gt || (FloatKind.f64).format.order x c15 == some .eq) = _
    rw [order_num hd dec_c15, cmp_ge, signed_false, signed_false]
    exact decide_eq_decide.2 Int.ofNat_le
  rw [hv]
  constructor
  · intro h; have := hc.1 (of_decide_eq_true h); omega
  · intro h; have := hc.2 (by have := of_decide_eq_false h; omega); omega

theorem cmp_lt {a b : Int} : (some (compare a b) == some Ordering.lt) = decide (a < b) := by
  rcases Int.lt_trichotomy a b with h | h | h
  · have : compare a b = .lt := Int.compare_eq_lt.2 h
    rw [this, decide_eq_true h]; rfl
  · subst h
    have : compare a a = .eq := Int.compare_eq_eq.2 rfl
    rw [this, decide_eq_false (by omega)]; rfl
  · have : compare a b = .gt := Int.compare_eq_gt.2 h
    rw [this, decide_eq_false (by omega)]; rfl

theorem lt075 {x : Nat} {E : Int} (h : PosE x E) : (vlt (some x) (some c075) = true → E ≤ -1) ∧ (vlt (some x) (some c075) = false → -1 ≤ E) := by
  obtain ⟨m, i, hd, h0, hl, hE⟩ := h
  have hc := cmp_three (i := i) (p := -53) h0
  have hv : vlt (some x) (some c075) = decide (m * 2 ^ (i - min i (-53)).toNat < 3 * 2 ^ 51 * 2 ^ (-53 - min i (-53)).toNat) := by
    show ((FloatKind.f64).format.order x c075 == some .lt) = _
    rw [order_num hd dec_c075, cmp_lt, signed_false, signed_false]
    exact decide_eq_decide.2 Int.ofNat_lt
  rw [hv]
  constructor
  · intro h; have := hc.2 (of_decide_eq_true h); omega
  · intro h; have := hc.1 (by have := of_decide_eq_false h; omega); omega

def halveF : Nat → Option Nat → Int → Option Nat × Int
  | 0, a, e => (a, e)
  | n + 1, a, e => if vge a (some c15) then halveF n (vop .quo .f64 a (some c2)) (e + 1) else (a, e)
def doubleF : Nat → Option Nat → Int → Option Nat × Int
  | 0, a, e => (a, e)
  | n + 1, a, e => if vlt a (some c075) then doubleF n (vop .mul .f64 a (some c2)) (e - 1) else (a, e)
theorem halveF_stop {a : Option Nat} (h : vge a (some c15) = false) (n : Nat) (e : Int) : halveF n a e = (a, e) := by
  cases n with
  | zero => rfl
  | succ n => simp [halveF, h]
theorem halveF_go {a : Option Nat} (h : vge a (some c15) = true) (n : Nat) (e : Int) : halveF (n + 1) a e = halveF n (vop .quo .f64 a (some c2)) (e + 1) := by
  simp [halveF, h]
theorem doubleF_stop {a : Option Nat} (h : vlt a (some c075) = false) (n : Nat) (e : Int) : doubleF n a e = (a, e) := by
  cases n with
  | zero => rfl
  | succ n => simp [doubleF, h]
theorem doubleF_go {a : Option Nat} (h : vlt a (some c075) = true) (n : Nat) (e : Int) : doubleF (n + 1) a e = doubleF n (vop .mul .f64 a (some c2)) (e - 1) := by
  simp [doubleF, h]

theorem halveF_spec : ∀ (n : Nat) (x : Nat) (E e : Int), PosE x E → E < n → -200 ≤ E → E ≤ 200 → ∃ x' E', halveF n (some x) e = (some x', E + e - E') ∧ PosE x' E' ∧ E' ≤ 0 ∧ -200 ≤ E' := by
  intro n
  induction n with
  | zero => intro x E e h hn hlo _; exact ⟨x, E, by simp only [halveF]; congr 1; omega, h, by omega, hlo⟩
  | succ n ih =>
    intro x E e h hn hlo hhi
    cases hb : vge (some x) (some c15) with
    | false =>
      have := (ge15 h).2 hb
      exact ⟨x, E, by rw [halveF_stop hb]; congr 1; omega, h, this, hlo⟩
    | true =>
      have hE := (ge15 h).1 hb
      obtain ⟨x', hx', hp⟩ := halve_pos h (by omega) (by omega)
      obtain ⟨x2, E2, h2, hp2, hle, hlo2⟩ := ih x' (E - 1) (e + 1) hp (by omega) (by omega) (by omega)
      refine ⟨x2, E2, ?_, hp2, hle, hlo2⟩
      rw [halveF_go hb, hx', h2]
      congr 1; omega

theorem doubleF_spec : ∀ (n : Nat) (x : Nat) (E e : Int), PosE x E → -E ≤ n → E ≤ 0 → -200 ≤ E → ∃ x' E', doubleF n (some x) e = (some x', E + e - E') ∧ PosE x' E' ∧ E' ≤ 0 ∧ -1 ≤ E' := by
  intro n
  induction n with
  | zero => intro x E e h hn hhi _; exact ⟨x, E, by simp only [doubleF]; congr 1; omega, h, hhi, by omega⟩
  | succ n ih =>
    intro x E e h hn hhi hlo
    cases hb : vlt (some x) (some c075) with
    | false =>
      have := (lt075 h).2 hb
      exact ⟨x, E, by rw [doubleF_stop hb]; congr 1; omega, h, hhi, this⟩
    | true =>
      have hE := (lt075 h).1 hb
      obtain ⟨x', hx', hp⟩ := double_pos h (by omega) (by omega)
      obtain ⟨x2, E2, h2, hp2, hle, hlo2⟩ := ih x' (E + 1) (e - 1) hp (by omega) (by omega) (by omega)
      refine ⟨x2, E2, ?_, hp2, hle, hlo2⟩
      rw [doubleF_go hb, hx', h2]
      congr 1; omega

def stL (u : Option Nat) (k : Int) (q : Option Nat) : Option Nat := vop .add .f64 (vop .quo .f64 (some c1) (some (floatOfInt .f64 k))) (vop .mul .f64 u q)
/-- The series of the logarithm: after the steps 25, 23, .., 27 - 2 j. -/
def serL (u : Option Nat) : Nat → Option Nat
  | 0 => some 0
  | j + 1 => stL u (25 - 2 * (j : Int)) (serL u j)
def sV (a : Option Nat) : Option Nat := vop .quo .f64 (vop .sub .f64 a (some c1)) (vop .add .f64 a (some c1))
def logV (a : Option Nat) (e : Int) : Option Nat :=
  vop .add .f64 (vop .mul .f64 (some c2) (vop .mul .f64 (sV a) (serL (vop .mul .f64 (sV a) (sV a)) 13))) (vop .mul .f64 (some (floatOfInt .f64 e)) (some cln2))
def logT (x : Nat) : Option Nat × Int := doubleF 3000 (halveF 3000 (some x) 0).1 (halveF 3000 (some x) 0).2
/-- The logarithm of a number above 0. -/
def logW (x : Nat) : Option Nat := logV (logT x).1 (logT x).2

theorem PosE.le {x : Nat} {E : Int} (h : PosE x E) : VLe .f64 (E + 1) (some x) := by
  obtain ⟨m, i, hd, h0, hl, hE⟩ := h
  exact ⟨x, rfl, by rw [hd]; exact leN_of_log (.inr (by omega))⟩

/-- ROUNDING KEEPS THE LEADING PLACE FROM BELOW. -/
theorem nearest_lo (neg : Bool) (mag : Nat) (place E F : Int) (h0 : mag ≠ 0) (h : leN E mag place) (hE : Norm .f64 E) (hF : F ≤ (mag.log2 : Int) + place) (hF2 : -1022 ≤ F) :
    Lo F ((FloatKind.f64).decode ((FloatKind.f64).format.nearest neg mag place)) := by
  have hle := (nearest_le .f64 neg mag place E h hE).1
  have h1 : (FloatKind.f64).format.leastPlace = -1074 := rfl
  have h2 : (FloatKind.f64).format.fractionBits = 52 := rfl
  have h3 : (FloatKind.f64).format.binade = 2 ^ 52 := rfl
  have h5 := (FloatKind.f64).format.infRung_lt
  have h6 := read_inf .f64 neg
  unfold FloatKind.decode at hle ⊢
  generalize (FloatKind.f64).format = f at *
  unfold Ieee.Format.nearest at hle ⊢
  dsimp only at hle ⊢
  rw [if_neg h0, h1, h2] at hle ⊢
  have hlast : max (place + (mag.log2 : Int) - (52 : Nat)) (-1074) = place + mag.log2 - 52 := by omega
  rw [hlast] at hle ⊢
  generalize hL : place + (mag.log2 : Int) - 52 = last at hle ⊢
  have hge : 2 ^ 52 ≤ Ieee.Toward.even.cut neg (mag <<< (place - last).toNat) (last - place).toNat := by
    refine cut_even_ge neg _ _ _ ?_
    rw [Nat.shiftLeft_eq, ← Nat.pow_add]
    calc 2 ^ (52 + (last - place).toNat) = 2 ^ (mag.log2 + (place - last).toNat) := by congr 1; omega
      _ = 2 ^ mag.log2 * 2 ^ (place - last).toNat := Nat.pow_add ..
      _ ≤ _ := Nat.mul_le_mul_right _ (Nat.log2_self_le h0)
  generalize Ieee.Toward.even.cut neg (mag <<< (place - last).toNat) (last - place).toNat = K at hle hge ⊢
  rw [h3] at hle ⊢
  generalize hp : (last - -1074).toNat = p at hle ⊢
  by_cases hr : p * 2 ^ 52 + K < f.infRung
  · rw [Nat.min_eq_left (Nat.le_of_lt hr), read_word f neg _ (Nat.lt_trans hr h5), h3, if_neg (by omega), if_pos hr, h1]
    refine ⟨by omega, ?_⟩
    have hm : 2 ^ 52 ≤ 2 ^ 52 + (p * 2 ^ 52 + K) % 2 ^ 52 := Nat.le_add_right _ _
    have hl := (Nat.le_log2 (by omega : 2 ^ 52 + (p * 2 ^ 52 + K) % 2 ^ 52 ≠ 0)).2 hm
    omega
  · rw [Nat.min_eq_right (by omega), h6] at hle
    exact hle.elim

theorem add1_lo {x : Nat} {E : Int} (h : PosE x E) (hE : E ≤ 0) (hE2 : -1 ≤ E) : VL .f64 0 (vop .add .f64 (some x) (some c1)) := by
  obtain ⟨m, i, hd, h0, hl, hEi⟩ := h
  have hs : ((FloatKind.f64).decode x).sum ((FloatKind.f64).decode c1) = some (.number false (m * 2 ^ (i - min i (-52)).toNat + 2 ^ 52 * 2 ^ (-52 - min i (-52)).toNat) (min i (-52))) := by
    rw [hd, dec_c1]
    show some (Ieee.Datum.number _ _ _) = _
    rw [signed_false, signed_false]
    have hpos : 0 < m * 2 ^ (i - min i (-52)).toNat := Nat.mul_pos (by omega) (Nat.two_pow_pos _)
    generalize m * 2 ^ (i - min i (-52)).toNat = a at *
    generalize 2 ^ 52 * 2 ^ (-52 - min i (-52)).toNat = b at *
    have e1 : ¬ ((a : Int) + (b : Int) = 0) := by omega
    have e2 : ((a : Int) + (b : Int)).natAbs = a + b := by omega
    rw [e2]
    congr 2
    rw [if_neg e1]
    exact decide_eq_false (by omega)
  -- the sum is at least 1 and at most 2 ^ 2; its leading digit stays when it is rounded
  generalize hM : m * 2 ^ (i - min i (-52)).toNat + 2 ^ 52 * 2 ^ (-52 - min i (-52)).toNat = M at hs
  have hge : 2 ^ (52 + (-52 - min i (-52)).toNat) ≤ M := by rw [← hM, Nat.pow_add]; omega
  have hM0 : M ≠ 0 := by have := Nat.two_pow_pos (52 + (-52 - min i (-52)).toNat); omega
  have hlog : 52 + (-52 - min i (-52)).toNat ≤ M.log2 := (Nat.le_log2 hM0).2 hge
  refine ⟨_, show vop .add .f64 (some x) (some c1) = some ((FloatKind.f64).format.write (.number false M (min i (-52)))) from ?_, ?_⟩
  · show ((((FloatKind.f64).decode x).sum ((FloatKind.f64).decode c1)).map (FloatKind.f64).format.write) = _
    rw [hs]; rfl
  · have hx : Le 1 ((FloatKind.f64).decode x) := by rw [hd]; exact leN_of_log (.inr (by omega))
    have h1 : Le 0 ((FloatKind.f64).decode c1) := by rw [dec_c1]; exact leN_of 52 (by decide) (by decide) (by decide)
    obtain ⟨r, hr, hle⟩ := sum_le hx h1
    rw [hs] at hr
    cases hr
    exact nearest_lo false M (min i (-52)) 2 0 hM0 hle ⟨by decide, by decide⟩ (by omega) (by decide)

theorem le_c2 : VLe .f64 1 (some c2) := ⟨_, rfl, by rw [dec_c2]; exact leN_of 51 (by decide) (by decide) (by decide)⟩
theorem le_cln2 : VLe .f64 0 (some cln2) := ⟨_, rfl, by rw [show (FloatKind.f64).decode cln2 = .number false 6243314768165359 (-53) by decide +kernel]; exact leN_of 53 (by decide) (by decide) (by decide)⟩

/-- x - 1 of a number of the leading place 0 or less: at most 1. -/
theorem sub1_le {x : Nat} {E : Int} (h : PosE x E) (hE : E ≤ 0) : VLe .f64 0 (vop .sub .f64 (some x) (some c1)) := by
  obtain ⟨m, i, hd, h0, hl, hEi⟩ := h
  show VLe .f64 0 (((((FloatKind.f64).decode x).sum ((FloatKind.f64).decode c1).opposite).map (FloatKind.f64).format.write))
  rw [hd, dec_c1]
  refine ⟨_, rfl, write_le (d := .number _ _ (min i (-52))) ?_ ⟨by decide, by decide⟩⟩
  show leN 0 (Ieee.signed false m (i - min i (-52)).toNat + Ieee.signed true (2 ^ 52) (-52 - min i (-52)).toNat).natAbs (min i (-52))
  have e1 : Ieee.signed true (2 ^ 52) (-52 - min i (-52)).toNat = -((2 ^ 52 * 2 ^ (-52 - min i (-52)).toNat : Nat) : Int) := by
    unfold Ieee.signed; rw [Nat.shiftLeft_eq]; rfl
  rw [e1, signed_false]
  have hm : m * 2 ^ (i - min i (-52)).toNat ≤ 2 * (2 ^ 52 * 2 ^ (-52 - min i (-52)).toNat) := by
    calc m * 2 ^ (i - min i (-52)).toNat ≤ 2 ^ (m.log2 + 1) * 2 ^ (i - min i (-52)).toNat := Nat.mul_le_mul_right _ (Nat.le_of_lt (log2_lt m))
      _ = 2 ^ (m.log2 + 1 + (i - min i (-52)).toNat) := (Nat.pow_add ..).symm
      _ ≤ 2 ^ (1 + (52 + (-52 - min i (-52)).toNat)) := Nat.pow_le_pow_right (by omega) (by omega)
      _ = _ := by rw [Nat.pow_add, Nat.pow_add, Nat.pow_one]
  have hp : 0 < 2 ^ (-52 - min i (-52)).toNat := Nat.two_pow_pos _
  have hc : 2 ^ 52 * 2 ^ (-52 - min i (-52)).toNat = 2 ^ (52 + (-52 - min i (-52)).toNat) := (Nat.pow_add ..).symm
  generalize hC : 2 ^ 52 * 2 ^ (-52 - min i (-52)).toNat = C at *
  generalize m * 2 ^ (i - min i (-52)).toNat = a at *
  have hab : ((a : Int) + -(C : Int)).natAbs ≤ C := by omega
  refine leN_of ((-i).toNat + 52) (by omega) (by omega) ?_
  calc ((a : Int) + -(C : Int)).natAbs * 2 ^ (min i (-52) + ((-i).toNat + 52 : Nat)).toNat ≤ C * 2 ^ (min i (-52) + ((-i).toNat + 52 : Nat)).toNat := Nat.mul_le_mul_right _ hab
    _ = 2 ^ (52 + (-52 - min i (-52)).toNat + (min i (-52) + ((-i).toNat + 52 : Nat)).toNat) := by rw [hc, ← Nat.pow_add]
    _ ≤ _ := Nat.pow_le_pow_right (by omega) (by omega)

theorem sV_le {x : Nat} {E : Int} (h : PosE x E) (hE : E ≤ 0) (hE2 : -1 ≤ E) : VLe .f64 1 (sV (some x)) :=
  vquo_le (E := 0) (F := 0) (sub1_le h hE) (add1_lo h hE hE2) ⟨by decide, by decide⟩

theorem int_lo {n : Nat} (h0 : n ≠ 0) (h : n.log2 ≤ 52) : VL .f64 0 (some (floatOfInt .f64 (n : Int))) := by
  refine ⟨_, rfl, ?_⟩
  have e : floatOfInt .f64 (n : Int) = (FloatKind.f64).format.nearest false n 0 := by
    show (FloatKind.f64).format.nearest (decide ((n : Int) < 0)) (n : Int).natAbs 0 = _
    rw [Int.natAbs_natCast, decide_eq_false (by omega)]
  rw [e, read_whole false n h0 h]
  exact ⟨by rw [Nat.shiftLeft_eq]; exact Nat.mul_ne_zero h0 (by have := Nat.two_pow_pos (52 - n.log2); omega), by rw [log2_shl_eq _ _ h0]; omega⟩

theorem stL_le {u q : Option Nat} {E : Int} {j : Nat} (hu : VLe .f64 2 u) (hq : VLe .f64 E q) (hE0 : 0 ≤ E) (hE : E ≤ 900) (hj : j < 13) : VLe .f64 (E + 3) (stL u (25 - 2 * (j : Int)) q) := by
  have hk : (25 - 2 * (j : Int)) = ((25 - 2 * j : Nat) : Int) := by omega
  have hl : VL .f64 0 (some (floatOfInt .f64 (25 - 2 * (j : Int)))) := by
    rw [hk]
    refine int_lo (by omega) ?_
    have := (Nat.log2_lt (n := 25 - 2 * j) (by omega)).2 (show 25 - 2 * j < 2 ^ 53 by omega)
    omega
  have h1 := vquo_le (E := 0) (F := 0) le_c1 hl ⟨by decide, by decide⟩
  have h2 := vmul_le hu hq (show Norm .f64 (2 + E) from ⟨by omega, by omega⟩)
  exact (vadd_le h1 h2 (show Norm .f64 (max (0 - 0 + 1) (2 + E) + 1) from ⟨by omega, by omega⟩)).mono (by omega)

theorem le_0 : VLe .f64 0 (some 0) := ⟨0, rfl, by rw [show (FloatKind.f64).decode 0 = .number false 0 (-1074) by decide +kernel]; exact leN_of_log (.inl rfl)⟩
theorem serL_le {u : Option Nat} (hu : VLe .f64 2 u) : ∀ j : Nat, j ≤ 13 → VLe .f64 (3 * (j : Int)) (serL u j) := by
  intro j
  induction j with
  | zero => intro _; exact le_0
  | succ j ih =>
    intro hj
    exact (stL_le hu (ih (by omega)) (by omega) (by omega) (by omega)).mono (by omega)

theorem int_le {e : Int} (h1 : -1000 ≤ e) (h2 : e ≤ 1000) : VLe .f64 10 (some (floatOfInt .f64 e)) := by
  refine ⟨_, rfl, ?_⟩
  refine (nearest_le .f64 (decide (e < 0)) e.natAbs 0 10 (leN_of 0 (by decide) (by decide) ?_) ⟨by decide, by decide⟩).1
  show e.natAbs * 2 ^ 0 ≤ 2 ^ 10
  omega

theorem logW_le {x : Nat} {E : Int} (h : PosE x E) (hlo : -200 ≤ E) (hhi : E ≤ 200) : VLe .f64 42 (logW x) := by
  obtain ⟨x1, E1, h1, hp1, hle1, hlo1⟩ := halveF_spec 3000 x E 0 h (by omega) hlo hhi
  obtain ⟨x2, E2, h2, hp2, hle2, hlo2⟩ := doubleF_spec 3000 x1 E1 (E + 0 - E1) hp1 (by omega) hle1 hlo1
  have hT : logT x = (some x2, E1 + (E + 0 - E1) - E2) := by unfold logT; rw [h1]; exact h2
  unfold logW
  rw [hT]
  have hs := sV_le hp2 hle2 hlo2
  have hu := vmul_le hs hs (show Norm .f64 (1 + 1) from ⟨by decide, by decide⟩)
  have hq := serL_le hu 13 (by decide)
  have hsq := vmul_le hs hq (show Norm .f64 (1 + 3 * ((13 : Nat) : Int)) from ⟨by decide, by decide⟩)
  have h2s := vmul_le le_c2 hsq (show Norm .f64 (1 + (1 + 3 * ((13 : Nat) : Int))) from ⟨by decide, by decide⟩)
  have he := vmul_le (int_le (e := E1 + (E + 0 - E1) - E2) (by omega) (by omega)) le_cln2 (show Norm .f64 (10 + 0) from ⟨by decide, by decide⟩)
  exact (vadd_le h2s he (show Norm .f64 _ from ⟨by decide, by decide⟩)).mono (by decide)
end Go.Proofs.YtkmggoagboikgaaDoor


/- Sines of turns: the model's walk, and the law. -/
namespace Go.Proofs.YtkmggoagboikgaaDoor
open Go.Proofs.YtkmggoagboikgaaDoor.Flo Go.RowKit

end Go.Proofs.YtkmggoagboikgaaDoor


/- The sine of turns: the law. -/
namespace Go.Proofs.YtkmggoagboikgaaDoor
open Go.Proofs.YtkmggoagboikgaaDoor.Flo Go.RowKit

end Go.Proofs.YtkmggoagboikgaaDoor


/- Logarithms: the walks. -/
namespace Go.Proofs.YtkmggoagboikgaaDoor
open Go.Proofs.YtkmggoagboikgaaDoor.Flo Go.RowKit

def exV : Value → Int
  | .float _ b => match (FloatKind.f64).decode b with | .number _ m i => (m.log2 : Int) + i | _ => 0
  | _ => 0
theorem exV_of {x : Nat} {E : Int} (h : PosE x E) : exV (.float .f64 x) = E := by
  obtain ⟨m, i, hd, _, _, hE⟩ := h
  show (match (FloatKind.f64).decode x with | .number _ m i => (m.log2 : Int) + i | _ => 0) = E
  rw [hd]; exact hE
theorem fres_of {op : BinOp} {x c x' : Nat} (h : vop op .f64 (some x) (some c) = some x') (w : World) : fres op .f64 x c w = x' := by
  have h2 : floatBits op .f64 x c = some x' := h
  unfold fres; rw [h2]
theorem s_cls {x : Nat} {a : Option Nat} (h : cls .f64 x = a) (w1 w2 w3 : World) : cls .f64 (fres .quo .f64 (fres .sub .f64 x 4607182418800017408 w1) (fres .add .f64 x 4607182418800017408 w2) w3) = sV a := by
  rw [fres_cls, fres_cls, fres_cls, h, show cls .f64 4607182418800017408 = some c1 from cls_c1]; rfl
theorem stL_cls {ub qb : Nat} {U Q : Option Nat} (hu : cls .f64 ub = U) (hq : cls .f64 qb = Q) {k : Int} {j : Nat} (hk : k = 25 - 2 * (j : Int)) (w1 w2 w3 : World) :
    cls .f64 (fres .add .f64 (fres .quo .f64 4607182418800017408 (floatOfInt .f64 k) w1) (fres .mul .f64 ub qb w2) w3) = stL U (25 - 2 * (j : Int)) Q := by
  rw [fres_cls, fres_cls, fres_cls, hu, hq, cls_int, show cls .f64 4607182418800017408 = some c1 from cls_c1, hk]; rfl
theorem log_end {s q : Nat} {a : Option Nat} {e : Int} (hs : cls .f64 s = sV a) (hq : cls .f64 q = serL (vop .mul .f64 (sV a) (sV a)) 13) (w1 w2 w3 w4 : World) :
    cls .f64 (fres .add .f64 (fres .mul .f64 4611686018427387904 (fres .mul .f64 s q w1) w2) (fres .mul .f64 (floatOfInt .f64 e) 4604418534313441775 w3) w4) = logV (a, e).1 (a, e).2 := by
  rw [fres_cls, fres_cls, fres_cls, fres_cls, hs, hq, cls_int, show cls .f64 4611686018427387904 = some c2 from cls_c2, show cls .f64 4604418534313441775 = some cln2 from cls_cln2]; rfl

end Go.Proofs.YtkmggoagboikgaaDoor


/- Logarithms: the laws. -/
namespace Go.Proofs.YtkmggoagboikgaaDoor
open Go.Proofs.YtkmggoagboikgaaDoor.Flo Go.RowKit
attribute [local go_sem] call_from32
attribute [local go_sem] call_bits32

/-! ### Signs -/
def sgn : Ieee.Datum → Option Ordering
  | .number s m _ => some (if m = 0 then .eq else if s then .lt else .gt)
  | .infinity s => some (if s then .lt else .gt)
  | .nan .. => none
theorem sgn_num {s : Bool} {m : Nat} {i : Int} (h : m ≠ 0) : sgn (.number s m i) = some (if s then .lt else .gt) := by
  show some (if m = 0 then _ else _) = _
  rw [if_neg h]
theorem order_zero (k : FloatKind) (x : Nat) : k.format.order x 0 = sgn (k.decode x) := by
  have h0 : k.format.read 0 = .number false 0 k.format.leastPlace := by cases k <;> decide +kernel
  unfold Ieee.Format.order FloatKind.decode
  rw [h0]
  cases hd : k.format.read x with
  | number s m i =>
    show some (compare _ _) = some _
    have e : Ieee.signed false 0 (k.format.leastPlace - min i k.format.leastPlace).toNat = 0 := signed_zero _ _
    rw [e]
    unfold Ieee.signed
    rw [Nat.shiftLeft_eq]
    have hp := Nat.two_pow_pos (i - min i k.format.leastPlace).toNat
    generalize 2 ^ (i - min i k.format.leastPlace).toNat = c at *
    by_cases hm : m = 0
    · subst hm
      rw [if_pos rfl]
      cases s <;> simp
    · rw [if_neg hm]
      have hpos : 0 < m * c := Nat.mul_pos (by omega) hp
      cases s
      · exact congrArg some (Int.compare_eq_gt.2 (by simp; omega))
      · exact congrArg some (Int.compare_eq_lt.2 (by simp; omega))
  | infinity s => rfl
  | nan s t => rfl

theorem num32 {x : Nat} {s : Bool} {m : Nat} {i : Int} (h : (FloatKind.f32).decode x = .number s m i) : m < 2 ^ 24 ∧ -149 ≤ i ∧ i ≤ 104 := by
  unfold FloatKind.decode FloatKind.format Ieee.Format.read at h
  dsimp only at h
  have h1 : Ieee.single.binade = 2 ^ 23 := rfl
  have h2 : Ieee.single.infRung = 255 * 2 ^ 23 := rfl
  have h3 : Ieee.single.leastPlace = -149 := rfl
  generalize x % Ieee.single.signWeight = r at h
  rw [h1, h2, h3] at h
  split at h
  · injection h with _ hm he
    subst hm he
    omega
  · split at h
    · injection h with _ hm he
      subst hm he
      omega
    · split at h <;> cases h

/-- A 32-bit number, not a zero, in 64 bits. -/
theorem wide_num {x : Nat} {s : Bool} {m : Nat} {i : Int} (h : (FloatKind.f32).decode x = .number s m i) (h0 : m ≠ 0) :
    ∃ y, vwide (cls .f32 x) = some y ∧ (FloatKind.f64).decode y = .number s (m <<< (52 - m.log2)) (i + m.log2 - 52) := by
  have hn := num32 h
  have hl := (Nat.log2_lt h0).2 hn.1
  have hx := exact64 s m 0 i h0 (by omega) (by omega) (by omega)
  rw [Nat.shiftLeft_zero] at hx
  have e : i + ((0 : Nat) : Int) + (m.log2 : Int) - 52 = i + m.log2 - 52 := by omega
  rw [e] at hx
  refine ⟨(FloatKind.f64).format.nearest s m i, ?_, hx⟩
  rw [cls_of_not (by rw [h]; rfl)]
  unfold vwide floatToFloatBits
  simp only [Option.bind_some]
  rw [if_neg (by decide), h]
  have hni : ((FloatKind.f64).decode ((FloatKind.f64).encode (.number s m i))).isInfinity = false := by
    show ((FloatKind.f64).decode ((FloatKind.f64).format.nearest s m i)).isInfinity = false
    rw [hx]; rfl
  simp only [hni, Bool.false_eq_true, if_false]
  rfl

/-- What is not a number, or a zero, in 64 bits. -/
theorem wide_inf {x : Nat} {s : Bool} (h : (FloatKind.f32).decode x = .infinity s) : vwide (cls .f32 x) = some ((FloatKind.f64).encode (.infinity s)) := by
  rw [cls_of_not (by rw [h]; rfl)]
  unfold vwide floatToFloatBits
  simp only [Option.bind_some]
  rw [if_neg (by decide), h]
theorem wide_zero {x : Nat} {s : Bool} {i : Int} (h : (FloatKind.f32).decode x = .number s 0 i) : vwide (cls .f32 x) = some ((FloatKind.f64).format.word s 0) := by
  rw [cls_of_not (by rw [h]; rfl)]
  unfold vwide floatToFloatBits
  simp only [Option.bind_some]
  rw [if_neg (by decide), h]
  have e : (FloatKind.f64).encode (.number s 0 i) = (FloatKind.f64).format.word s 0 := by
    unfold FloatKind.encode Ieee.Format.write Ieee.Format.nearest
    simp
  dsimp only
  rw [e]
  cases s <;> rfl
theorem wide_nan {x : Nat} (h : ((FloatKind.f32).decode x).isNaN = true) : vwide (cls .f32 x) = none := by
  unfold cls; rw [if_pos h]; rfl

theorem cres_of {x y : Nat} (h : vwide (cls .f32 x) = some y) (w : World) : cres .f32 x .f64 w = y := (cls_some ((cres_wide x w).trans h)).1
theorem wide_sgn (x : Nat) (w : World) : sgn ((FloatKind.f64).decode (cres .f32 x .f64 w)) = sgn ((FloatKind.f32).decode x) := by
  cases hd : (FloatKind.f32).decode x with
  | number s m i =>
    by_cases h0 : m = 0
    · subst h0
      rw [cres_of (wide_zero hd)]
      cases s <;> rfl
    · obtain ⟨y, hy, hdy⟩ := wide_num hd h0
      rw [cres_of hy, hdy]
      have : m <<< (52 - m.log2) ≠ 0 := by rw [Nat.shiftLeft_eq]; exact Nat.mul_ne_zero h0 (by have := Nat.two_pow_pos (52 - m.log2); omega)
      rw [sgn_num this, sgn_num h0]
  | infinity s =>
    rw [cres_of (wide_inf hd)]
    cases s <;> rfl
  | nan s t =>
    have h := cls_none ((cres_wide x w).trans (wide_nan (x := x) (by rw [hd]; rfl)))
    cases hd2 : (FloatKind.f64).decode (cres .f32 x .f64 w) with
    | number => rw [hd2] at h; cases h
    | infinity => rw [hd2] at h; cases h
    | nan => rfl

theorem pos_wide {x : Nat} {m : Nat} {i : Int} (h : (FloatKind.f32).decode x = .number false m i) (h0 : m ≠ 0) :
    ∃ y X, vwide (cls .f32 x) = some y ∧ PosE y X ∧ -200 ≤ X ∧ X ≤ 200 := by
  obtain ⟨y, hy, hd⟩ := wide_num h h0
  have hn := num32 h
  have hl := (Nat.log2_lt h0).2 hn.1
  refine ⟨y, (m.log2 : Int) + i, hy, ⟨_, _, hd, ?_, ?_, ?_⟩, by omega, by omega⟩
  · rw [Nat.shiftLeft_eq]; exact Nat.mul_ne_zero h0 (by have := Nat.two_pow_pos (52 - m.log2); omega)
  · rw [log2_shl_eq _ _ h0]; omega
  · rw [log2_shl_eq _ _ h0]; omega

theorem pos_max {y : Nat} {X : Int} (h : PosE y X) : ((FloatKind.f64).format.order y 9218868437227405311 == some .gt) = false := by
  obtain ⟨m, i, hd, _⟩ := h
  have h1 := order_max y
  have h2 : (FloatKind.f64).decode (y % 2 ^ 63) = (FloatKind.f64).decode y := by rw [decode_abs, hd]; rfl
  unfold FloatKind.decode at h2
  unfold Ieee.Format.order at h1 ⊢
  rw [h2] at h1
  rw [h1]
  rw [hd]
theorem pos_sgn {y : Nat} {X : Int} (h : PosE y X) : sgn ((FloatKind.f64).decode y) = some .gt ∧ ((FloatKind.f64).decode y).isNaN = false := by
  obtain ⟨m, i, hd, h0, _⟩ := h
  rw [hd]
  exact ⟨by rw [sgn_num h0]; rfl, rfl⟩

/-- The logarithm of a 32-bit number. -/
def logR (x : Nat) : Option Nat := match (FloatKind.f32).decode x with
  | .number s m _ => if m = 0 then some 4286578688 else if s then none else vnarrow (logW ((vwide (cls .f32 x)).getD 0))
  | .infinity s => if s then none else some 2139095040
  | .nan .. => none
theorem logR_pos {x m y : Nat} {i : Int} (h : (FloatKind.f32).decode x = .number false m i) (h0 : m ≠ 0) (hy : vwide (cls .f32 x) = some y) : logR x = vnarrow (logW y) := by
  unfold logR; rw [h]; dsimp only; rw [if_neg h0, hy]; rfl
theorem logR_neg {x m : Nat} {i : Int} (h : (FloatKind.f32).decode x = .number true m i) (h0 : m ≠ 0) : logR x = none := by
  unfold logR; rw [h]; dsimp only; rw [if_neg h0]; rfl
theorem logR_zero {x : Nat} {s : Bool} {i : Int} (h : (FloatKind.f32).decode x = .number s 0 i) : logR x = some 4286578688 := by
  unfold logR; rw [h]; rfl
theorem logR_inf {x : Nat} {s : Bool} (h : (FloatKind.f32).decode x = .infinity s) : logR x = if s then none else some 2139095040 := by
  unfold logR; rw [h]
theorem logR_nan {x : Nat} {s : Bool} {t : Nat} (h : (FloatKind.f32).decode x = .nan s t) : logR x = none := by
  unfold logR; rw [h]
theorem cls_nan64' : cls .f64 9221120237041090561 = none := by decide +kernel
theorem inf_wide_max : ((FloatKind.f64).format.order ((FloatKind.f64).encode (.infinity false)) 9218868437227405311 == some .gt) = true := by decide +kernel
theorem inf32 (w : World) : cres .f64 9218868437227405312 .f32 w = 2139095040 := by
  have h : floatToFloatBits .f64 9218868437227405312 .f32 = some 2139095040 := by decide +kernel
  unfold cres; rw [h]
theorem ninf32 (w : World) : cres .f64 18442240474082181120 .f32 w = 4286578688 := by
  have h : floatToFloatBits .f64 18442240474082181120 .f32 = some 4286578688 := by decide +kernel
  unfold cres; rw [h]

end Go.Proofs.YtkmggoagboikgaaDoor
