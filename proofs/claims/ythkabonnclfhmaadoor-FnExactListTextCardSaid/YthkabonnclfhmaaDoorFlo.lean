
/- Floats up to which not-a-number: plain facts, no program. -/
import Derived.Laws.FloatArith
import Derived.Deep.Draws
import Derived.Laws.NewFold
namespace Go.Proofs.YthkabonnclfhmaaDoor.Flo
open Go

theorem format_eq (k : FloatKind) : k.format = Ieee.single ∨ k.format = Ieee.double := by cases k <;> simp [FloatKind.format]

/-- The number of a word, up to which not-a-number: none of one, else its bits. -/
def cls (k : FloatKind) (b : Nat) : Option Nat := if (k.decode b).isNaN then none else some b

theorem read_word (f : Ieee.Format) (neg : Bool) (rung : Nat) (h : rung < f.signWeight) :
    f.read (f.word neg rung) =
      if rung < f.binade then .number neg rung f.leastPlace
      else if rung < f.infRung then .number neg (f.binade + rung % f.binade) (f.leastPlace + (rung / f.binade - 1 : Nat))
      else if rung = f.infRung then .infinity neg else .nan neg (rung - f.infRung) := by
  have hs : 0 < f.signWeight := Nat.two_pow_pos _
  have h1 : f.word neg rung % f.signWeight = rung := by
    unfold Ieee.Format.word; split
    · rw [Nat.add_mod_left, Nat.mod_eq_of_lt h]
    · exact Nat.mod_eq_of_lt h
  have h2 : (f.word neg rung / f.signWeight % 2 == 1) = neg := by
    unfold Ieee.Format.word; split
    · rename_i hn
      rw [Nat.add_div_left _ hs, Nat.div_eq_of_lt h]; simp [hn]
    · rename_i hn
      rw [Nat.div_eq_of_lt h]; simpa using hn
  unfold Ieee.Format.read
  simp only [h1, h2]

theorem read_word_le (f : Ieee.Format) (neg : Bool) (rung : Nat) (h : rung ≤ f.infRung) : (f.read (f.word neg rung)).isNaN = false := by
  rw [read_word f neg rung (Nat.lt_of_le_of_lt h f.infRung_lt)]
  split
  · rfl
  · split
    · rfl
    · rw [if_pos (by omega)]; rfl

theorem nearest_notNaN (f : Ieee.Format) (neg : Bool) (mag : Nat) (place : Int) : (f.read (f.nearest neg mag place)).isNaN = false := by
  unfold Ieee.Format.nearest
  dsimp only
  split
  · exact read_word_le f neg 0 (Nat.zero_le _)
  · exact read_word_le f neg _ (Nat.min_le_right ..)

theorem write_notNaN (f : Ieee.Format) (d : Ieee.Datum) (h : d.isNaN = false) : (f.read (f.write d)).isNaN = false := by
  cases d with
  | number neg mag place => exact nearest_notNaN f neg mag place
  | infinity neg => exact read_word_le f neg _ (Nat.le_refl _)
  | nan => cases h

theorem sum_notNaN {a b d : Ieee.Datum} (h : a.sum b = some d) : d.isNaN = false := by
  cases a <;> cases b <;> simp [Ieee.Datum.sum] at h
  · subst h; rfl
  · subst h; rfl
  · subst h; rfl
  · obtain ⟨_, rfl⟩ := h; rfl
theorem product_notNaN {a b d : Ieee.Datum} (h : a.product b = some d) : d.isNaN = false := by
  cases a <;> cases b <;> simp [Ieee.Datum.product] at h
  · subst h; rfl
  · obtain ⟨_, rfl⟩ := h; rfl
  · obtain ⟨_, rfl⟩ := h; rfl
  · subst h; rfl
theorem quotient_notNaN {n : Nat} {a b d : Ieee.Datum} (h : a.quotient n b = some d) : d.isNaN = false := by
  unfold Ieee.Datum.quotient at h
  split at h
  · cases h
  · cases h
  · cases h
  · cases h; rfl
  · cases h; rfl
  · split at h
    · split at h
      · cases h
      · cases h; rfl
    · cases h; rfl
theorem root_notNaN {n : Nat} {a d : Ieee.Datum} (h : a.root n = some d) : d.isNaN = false := by
  unfold Ieee.Datum.root at h
  split at h
  · cases h
  · split at h
    · cases h
    · cases h; rfl
  · split at h
    · cases h; rfl
    · split at h
      · cases h
      · cases h; rfl

theorem map_write_notNaN {f : Ieee.Format} {o : Option Ieee.Datum} {r : Nat} (h : o.map f.write = some r) (hd : ∀ d, o = some d → d.isNaN = false) : (f.read r).isNaN = false := by
  cases o with
  | none => cases h
  | some d => cases h; exact write_notNaN f d (hd d rfl)

theorem opposite_isNaN (d : Ieee.Datum) : d.opposite.isNaN = d.isNaN := by cases d <;> rfl

/-- A VALID OPERATION GIVES NO NOT-A-NUMBER. -/
theorem floatBits_notNaN {op : BinOp} {k : FloatKind} {x y r : Nat} (h : floatBits op k x y = some r) : (k.decode r).isNaN = false := by
  unfold floatBits at h
  unfold FloatKind.decode
  split at h
  · exact map_write_notNaN h fun d hd => sum_notNaN hd
  · exact map_write_notNaN h fun d hd => sum_notNaN hd
  · exact map_write_notNaN h fun d hd => product_notNaN hd
  · exact map_write_notNaN h fun d hd => quotient_notNaN hd
  · cases h

theorem floatBits_nan_left {op : BinOp} {k : FloatKind} {x y : Nat} (h : (k.decode x).isNaN = true) : floatBits op k x y = none := by
  unfold FloatKind.decode at h
  cases hx : k.format.read x with
  | number => rw [hx] at h; cases h
  | infinity => rw [hx] at h; cases h
  | nan s t =>
    unfold floatBits
    cases op <;> simp [Ieee.Format.add, Ieee.Format.sub, Ieee.Format.mul, Ieee.Format.div, hx, Ieee.Datum.sum, Ieee.Datum.product, Ieee.Datum.quotient]

theorem floatBits_nan_right {op : BinOp} {k : FloatKind} {x y : Nat} (h : (k.decode y).isNaN = true) : floatBits op k x y = none := by
  unfold FloatKind.decode at h
  cases hy : k.format.read y with
  | number => rw [hy] at h; cases h
  | infinity => rw [hy] at h; cases h
  | nan s t =>
    unfold floatBits
    cases op <;> cases hx : k.format.read x <;> simp [Ieee.Format.add, Ieee.Format.sub, Ieee.Format.mul, Ieee.Format.div, hx, hy, Ieee.Datum.opposite, Ieee.Datum.sum, Ieee.Datum.product, Ieee.Datum.quotient]

/-- An operation on numbers up to which not-a-number. -/
def vop (op : BinOp) (k : FloatKind) (a b : Option Nat) : Option Nat := a.bind fun x => b.bind fun y => floatBits op k x y

theorem vop_cls (op : BinOp) (k : FloatKind) (x y : Nat) : vop op k (cls k x) (cls k y) = floatBits op k x y := by
  unfold vop cls
  by_cases hx : (k.decode x).isNaN = true
  · simp [hx, floatBits_nan_left hx]
  · by_cases hy : (k.decode y).isNaN = true
    · simp [hx, hy, floatBits_nan_right hy]
    · simp [hx, hy]

/-! ### What the model draws for a not-a-number is one -/
theorem cut_nan32 (t : Nat) : ((FloatKind.f32).decode ((t % 2) * 2 ^ 31 + 0x7f800000 + 1 + (t / 2) % (2 ^ 23 - 1))).isNaN = true := by
  have e : (t % 2) * 2 ^ 31 + 0x7f800000 + 1 + (t / 2) % (2 ^ 23 - 1) = Ieee.single.word (t % 2 == 1) (0x7f800000 + 1 + (t / 2) % (2 ^ 23 - 1)) := by
    unfold Ieee.Format.word
    have : Ieee.single.signWeight = 2 ^ 31 := rfl
    rw [this]
    split
    · rename_i h; have : t % 2 = 1 := by simpa using h
      omega
    · rename_i h; have : t % 2 = 0 := by have := (by simpa using h : ¬ t % 2 = 1); omega
      omega
  rw [e]
  show (Ieee.single.read _).isNaN = true
  have hr : (t / 2) % (2 ^ 23 - 1) < 2 ^ 23 - 1 := Nat.mod_lt _ (by decide)
  rw [read_word Ieee.single _ _ (by show _ < 2 ^ 31; omega)]
  have h1 : Ieee.single.binade = 2 ^ 23 := rfl
  have h2 : Ieee.single.infRung = 0x7f800000 := rfl
  rw [h1, h2, if_neg (by omega), if_neg (by omega), if_neg (by omega)]
  rfl

theorem cut_nan64 (t : Nat) : ((FloatKind.f64).decode ((t % 2) * 2 ^ 63 + 0x7ff0000000000000 + 1 + (t / 2) % (2 ^ 52 - 1))).isNaN = true := by
  have e : (t % 2) * 2 ^ 63 + 0x7ff0000000000000 + 1 + (t / 2) % (2 ^ 52 - 1) = Ieee.double.word (t % 2 == 1) (0x7ff0000000000000 + 1 + (t / 2) % (2 ^ 52 - 1)) := by
    unfold Ieee.Format.word
    have : Ieee.double.signWeight = 2 ^ 63 := rfl
    rw [this]
    split
    · rename_i h; have : t % 2 = 1 := by simpa using h
      omega
    · rename_i h; have : t % 2 = 0 := by have := (by simpa using h : ¬ t % 2 = 1); omega
      omega
  rw [e]
  show (Ieee.double.read _).isNaN = true
  have hr : (t / 2) % (2 ^ 52 - 1) < 2 ^ 52 - 1 := Nat.mod_lt _ (by decide)
  rw [read_word Ieee.double _ _ (by show _ < 2 ^ 63; omega)]
  have h1 : Ieee.double.binade = 2 ^ 52 := rfl
  have h2 : Ieee.double.infRung = 0x7ff0000000000000 := rfl
  rw [h1, h2, if_neg (by omega), if_neg (by omega), if_neg (by omega)]
  rfl

/-- What is drawn for a not-a-number of kind k. -/
def drawn (k : FloatKind) (t : Nat) : Nat :=
  match k with
  | .f32 => (t % 2) * 2 ^ 31 + 0x7f800000 + 1 + (t / 2) % (2 ^ 23 - 1)
  | .f64 => (t % 2) * 2 ^ 63 + 0x7ff0000000000000 + 1 + (t / 2) % (2 ^ 52 - 1)

theorem cls_drawn (k : FloatKind) (t : Nat) : cls k (drawn k t) = none := by
  cases k
  · exact if_pos (cut_nan32 t)
  · exact if_pos (cut_nan64 t)
theorem drawn_lt (k : FloatKind) (t : Nat) : drawn k t < 2 ^ k.format.width := by
  cases k
  · show (t % 2) * 2 ^ 31 + 0x7f800000 + 1 + (t / 2) % (2 ^ 23 - 1) < 2 ^ 32
    omega
  · show (t % 2) * 2 ^ 63 + 0x7ff0000000000000 + 1 + (t / 2) % (2 ^ 52 - 1) < 2 ^ 64
    omega

/-! ### The walk's rules: an operation's bits, and how many draws it makes -/
/-- The bits that an operation leaves in a world. -/
def fres (op : BinOp) (k : FloatKind) (x y : Nat) (w : World) : Nat :=
  match floatBits op k x y with
  | some r => r
  | none => drawn k (w.tape w.drawn (.nanBits k x y))
/-- How many draws it makes. -/
def fcnt (op : BinOp) (k : FloatKind) (x y : Nat) : Nat := if (floatBits op k x y).isSome then 0 else 1

theorem fres_cls (op : BinOp) (k : FloatKind) (x y : Nat) (w : World) : cls k (fres op k x y w) = vop op k (cls k x) (cls k y) := by
  rw [vop_cls]
  unfold fres
  cases h : floatBits op k x y with
  | none => exact cls_drawn k _
  | some r => simp [cls, floatBits_notNaN h]

theorem fres_lt (op : BinOp) (k : FloatKind) (x y : Nat) (w : World) : fres op k x y w < 2 ^ k.format.width := by
  unfold fres
  split
  · rename_i r h
    have := floatBits_wf h
    cases k
    · have h2 : r < 4294967296 := by simpa [Lit.wf] using this
      exact h2
    · have h2 : r < 18446744073709551616 := by simpa [Lit.wf] using this
      exact h2
  · exact drawn_lt k _

section
variable {P : Program} (w : World)
theorem run_fop (op : BinOp) (hop : op = .add ∨ op = .sub ∨ op = .mul ∨ op = .quo) (t : TypeId) (k : FloatKind) (x y : Nat) :
    (binOp op t (.float k x) (.float k y)).run P w = .ok (.float k (fres op k x y w)) (w.drewN (fcnt op k x y)) := by
  cases h : floatBits op k x y with
  | some r =>
    rw [run_float_arith w op t k x y r h]
    simp [fres, fcnt, h, World.drewN_zero]
  | none =>
    have e : fres op k x y w = (Question.nanBits k x y).cut (w.tape w.drawn (.nanBits k x y)) := by
      unfold fres; rw [h]; cases k <;> rfl
    rw [e]
    simp only [fcnt, h, Option.isSome_none, Bool.false_eq_true, if_false, ← World.drew_is_drewN]
    unfold floatBits at h
    rcases hop with rfl | rfl | rfl | rfl <;> simp only at h <;> simp [binOp, Op.floatArith, h, Question.forced]
@[go_sem] theorem run_fadd (t : TypeId) (k : FloatKind) (x y : Nat) : (binOp .add t (.float k x) (.float k y)).run P w = .ok (.float k (fres .add k x y w)) (w.drewN (fcnt .add k x y)) := run_fop w .add (by simp) t k x y
@[go_sem] theorem run_fsub (t : TypeId) (k : FloatKind) (x y : Nat) : (binOp .sub t (.float k x) (.float k y)).run P w = .ok (.float k (fres .sub k x y w)) (w.drewN (fcnt .sub k x y)) := run_fop w .sub (by simp) t k x y
@[go_sem] theorem run_fmul (t : TypeId) (k : FloatKind) (x y : Nat) : (binOp .mul t (.float k x) (.float k y)).run P w = .ok (.float k (fres .mul k x y w)) (w.drewN (fcnt .mul k x y)) := run_fop w .mul (by simp) t k x y
@[go_sem] theorem run_fquo (t : TypeId) (k : FloatKind) (x y : Nat) : (binOp .quo t (.float k x) (.float k y)).run P w = .ok (.float k (fres .quo k x y w)) (w.drewN (fcnt .quo k x y)) := run_fop w .quo (by simp) t k x y
end

/-! ### Conversions between the kinds -/
/-- The bits that a conversion leaves in a world. -/
def cres (s : FloatKind) (b : Nat) (k : FloatKind) (w : World) : Nat :=
  match floatToFloatBits s b k with
  | some r => r
  | none => if (s.decode b).isNaN then drawn k (w.tape w.drawn (.nanConv k b)) else w.tape w.drawn (.floatToFloat b) % 2 ^ 32
def ccnt (s : FloatKind) (b : Nat) (k : FloatKind) : Nat := if (floatToFloatBits s b k).isSome then 0 else 1

section
variable {P : Program} (w : World)
@[go_sem] theorem run_fconv (src dst : TypeId) (s k : FloatKind) (b : Nat) (hs : (P.underlying src).isSome = true) (hd : P.underlying dst = some (.float k)) :
    (convert src dst (.float s b)).run P w = .ok (.float k (cres s b k w)) (w.drewN (ccnt s b k)) := by
  cases h : floatToFloatBits s b k with
  | some r =>
    rw [run_convert_float_float w src dst s k b r hs hd h]
    simp [cres, ccnt, h, World.drewN_zero]
  | none =>
    obtain ⟨u, hs'⟩ := Option.isSome_iff_exists.1 hs
    unfold floatToFloatBits at h
    split at h
    · cases h
    · rename_i ne
      have hn : floatToFloatBits s b k = none := by unfold floatToFloatBits; rw [if_neg ne]; exact h
      split at h
      · rename_i ng fr he
        have e : cres s b k w = (Question.nanConv k b).cut (w.tape w.drawn (.nanConv k b)) := by
          unfold cres; rw [hn]; simp only [he, Ieee.Datum.isNaN, if_true]; cases k <;> rfl
        rw [e]
        simp only [ccnt, hn, Option.isSome_none, Bool.false_eq_true, if_false, ← World.drew_is_drewN]
        cases u <;> simp [convert, run_underlying hs', run_underlying hd, Conv.floatToFloat, ne, he, Question.forced]
      · cases h
      · rename_i ng m e0 he
        split at h
        · rename_i ho
          have e : cres s b k w = (Question.floatToFloat b).cut (w.tape w.drawn (.floatToFloat b)) := by
            unfold cres; rw [hn]; simp only [he, Ieee.Datum.isNaN]; rfl
          rw [e]
          simp only [ccnt, hn, Option.isSome_none, Bool.false_eq_true, if_false, ← World.drew_is_drewN]
          cases u <;> simp [convert, run_underlying hs', run_underlying hd, Conv.floatToFloat, ne, he, ho, Question.forced]
        · cases h
end

/-- 'float64(x)' of a 32-bit number. -/
def vwide (a : Option Nat) : Option Nat := a.bind fun b => floatToFloatBits .f32 b .f64
/-- 'float32(x)' of a 64-bit number that is not too great. -/
def vnarrow (a : Option Nat) : Option Nat := a.bind fun b => floatToFloatBits .f64 b .f32

theorem binade_le (k : FloatKind) : k.format.binade < k.format.infRung := by cases k <;> decide

theorem read_inf (k : FloatKind) (neg : Bool) : (k.format.read (k.format.word neg k.format.infRung)) = .infinity neg := by
  have h := binade_le k
  rw [read_word k.format neg _ k.format.infRung_lt, if_neg (by omega), if_neg (by omega), if_pos rfl]

/-! ### Bounds: 'below 2 ^ (E + 1)' -/
/-- A datum that is a number of absolute value below 2 ^ (E + 1). -/
def Bd (E : Int) : Ieee.Datum → Prop
  | .number _ m i => m = 0 ∨ (m.log2 : Int) + i ≤ E
  | _ => False

theorem cut_le (neg : Bool) (n drop c : Nat) (h0 : drop = 0 → n ≤ 2 ^ c) (h1 : 0 < drop → n < 2 ^ (c + drop)) : Ieee.Toward.even.cut neg n drop ≤ 2 ^ c := by
  unfold Ieee.Toward.cut
  simp only [Nat.shiftLeft_eq, Nat.one_mul]
  by_cases hd : drop = 0
  · subst hd
    have hm : min 0 (n.log2 + 2) = 0 := by omega
    rw [hm]
    simp only [Nat.pow_zero, Nat.div_one, Nat.mod_one]
    have := h0 rfl
    simpa using this
  · have h1 := h1 (by omega)
    have hp : 0 < 2 ^ c := Nat.two_pow_pos _
    have hlow : n / 2 ^ min drop (n.log2 + 2) < 2 ^ c := by
      by_cases hl : drop ≤ n.log2 + 2
      · rw [Nat.min_eq_left hl]
        rw [Nat.div_lt_iff_lt_mul (Nat.two_pow_pos _), ← Nat.pow_add]
        exact h1
      · rw [Nat.min_eq_right (by omega)]
        have : n < 2 ^ (n.log2 + 2) := Nat.lt_of_lt_of_le Nat.lt_log2_self (Nat.pow_le_pow_right (by omega) (by omega))
        rw [Nat.div_eq_of_lt this]; exact hp
    have hb : ∀ b : Bool, b.toNat ≤ 1 := by decide
    have := hb (decide (2 ^ min drop (n.log2 + 2) < 2 * (n % 2 ^ min drop (n.log2 + 2))) || (2 ^ min drop (n.log2 + 2) == 2 * (n % 2 ^ min drop (n.log2 + 2)) && n / 2 ^ min drop (n.log2 + 2) % 2 == 1))
    omega

theorem log2_lt (m : Nat) : m < 2 ^ (m.log2 + 1) := Nat.lt_log2_self

/-- Rounding: what lies below 2 ^ (E + 1) is written as what is at most 2 ^ (E + 1). -/
theorem nearest_bd (k : FloatKind) (neg : Bool) (mag : Nat) (place E : Int) (h : mag = 0 ∨ (mag.log2 : Int) + place ≤ E)
    (hlo : k.format.leastPlace + k.format.fractionBits ≤ E) (hhi : E + 2 ≤ (2 : Int) ^ (k.format.exponentBits - 1) - 1) :
    Bd (E + 1) (k.format.read (k.format.nearest neg mag place)) ∧ (k.format.read (k.format.nearest neg mag place)).neg = neg := by
  have hfb : ∀ r, r < k.format.binade → r.log2 + 1 ≤ k.format.fractionBits ∨ r = 0 := by
    intro r hr
    by_cases h0 : r = 0
    · exact .inr h0
    · left
      have := (Nat.log2_lt h0).2 hr
      exact this
  have hbi : k.format.binade = 2 ^ k.format.fractionBits := rfl
  have hle : k.format.leastPlace = 2 - (2 : Int) ^ (k.format.exponentBits - 1) - k.format.fractionBits := rfl
  have hinf : (k.format.infRung : Int) = ((2 : Int) ^ (k.format.exponentBits - 1) * 2 - 1) * k.format.binade := by cases k <;> decide
  generalize hf : k.format = f at *
  unfold Ieee.Format.nearest
  dsimp only
  by_cases hm : mag = 0
  · rw [if_pos hm, read_word f neg 0 (Nat.two_pow_pos _), if_pos (show 0 < f.binade from Nat.two_pow_pos _)]
    exact ⟨.inl rfl, rfl⟩
  rw [if_neg hm]
  have h := h.resolve_left hm
  have hself := log2_lt mag
  generalize hlast : max (place + (mag.log2 : Int) - f.fractionBits) f.leastPlace = last
  have hl1 : f.leastPlace ≤ last := by omega
  have hl2 : last ≤ E - f.fractionBits := by omega
  have hl3 : place + (mag.log2 : Int) - f.fractionBits ≤ last := by omega
  have hkept : Ieee.Toward.even.cut neg (mag <<< (place - last).toNat) (last - place).toNat ≤ 2 ^ (f.fractionBits + 1) := by
    refine cut_le neg _ _ _ ?_ ?_
    · intro hd
      have : mag <<< (place - last).toNat < 2 ^ (mag.log2 + 1 + (place - last).toNat) := by
        rw [Nat.shiftLeft_eq, Nat.pow_add]
        exact Nat.mul_lt_mul_of_pos_right hself (Nat.two_pow_pos _)
      exact Nat.le_of_lt (Nat.lt_of_lt_of_le this (Nat.pow_le_pow_right (by omega) (by omega)))
    · intro hd
      have e0 : (place - last).toNat = 0 := by omega
      rw [e0, Nat.shiftLeft_zero]
      exact Nat.lt_of_lt_of_le hself (Nat.pow_le_pow_right (by omega) (by omega))
  generalize Ieee.Toward.even.cut neg (mag <<< (place - last).toNat) (last - place).toNat = kept at hkept
  have hk2 : kept ≤ 2 * f.binade := by rw [hbi]; rw [Nat.pow_succ] at hkept; omega
  have hpos : 0 < f.binade := by rw [hbi]; exact Nat.two_pow_pos _
  generalize hB : f.binade = B at *
  have hq : (last - f.leastPlace).toNat ≤ (E - f.fractionBits - f.leastPlace).toNat := by omega
  have hr1 : (last - f.leastPlace).toNat * B + kept ≤ ((E - f.fractionBits - f.leastPlace).toNat + 2) * B := by
    have := Nat.mul_le_mul_right B hq
    rw [Nat.add_mul]; omega
  generalize hrung : (last - f.leastPlace).toNat * B + kept = rung at hr1
  have hlt : rung < f.infRung := by
    have hN : ((E - f.fractionBits - f.leastPlace).toNat + 2 : Int) ≤ (2 : Int) ^ (f.exponentBits - 1) * 2 - 2 := by omega
    have : (((E - f.fractionBits - f.leastPlace).toNat + 2 : Nat) : Int) * (B : Int) ≤ ((2 : Int) ^ (f.exponentBits - 1) * 2 - 2) * (B : Int) :=
      Int.mul_le_mul_of_nonneg_right (by omega) (by omega)
    have h2 : (rung : Int) ≤ (((E - f.fractionBits - f.leastPlace).toNat + 2 : Nat) : Int) * (B : Int) := by
      rw [← Int.natCast_mul]; exact Int.ofNat_le.2 hr1
    have h3 : ((2 : Int) ^ (f.exponentBits - 1) * 2 - 1) * (B : Int) = ((2 : Int) ^ (f.exponentBits - 1) * 2 - 2) * (B : Int) + B := by
      have : ((2 : Int) ^ (f.exponentBits - 1) * 2 - 1) = ((2 : Int) ^ (f.exponentBits - 1) * 2 - 2) + 1 := by omega
      rw [this, Int.add_mul, Int.one_mul]
    omega
  rw [Nat.min_eq_left (Nat.le_of_lt hlt)]
  rw [read_word f neg rung (Nat.lt_trans hlt f.infRung_lt), hB]
  by_cases h1 : rung < B
  · rw [if_pos h1]
    refine ⟨?_, rfl⟩
    rcases hfb rung h1 with h2 | h2
    · right; omega
    · exact .inl h2
  · rw [if_neg h1, if_pos hlt]
    refine ⟨.inr ?_, rfl⟩
    have hr : rung % B < B := Nat.mod_lt _ hpos
    have hlog : (B + rung % B).log2 < f.fractionBits + 1 := (Nat.log2_lt (by omega)).2 (by rw [Nat.pow_succ, ← hbi]; omega)
    have hdiv : rung / B ≤ (E - f.fractionBits - f.leastPlace).toNat + 2 := Nat.div_le_of_le_mul (by rw [Nat.mul_comm]; exact hr1)
    omega

/-- A number up to which not-a-number, below 2 ^ (E + 1). -/
def VB (k : FloatKind) (E : Int) (a : Option Nat) : Prop := ∃ b, a = some b ∧ Bd E (k.decode b)

theorem Bd.mono {E F : Int} {d : Ieee.Datum} (h : Bd E d) (hEF : E ≤ F) : Bd F d := by
  cases d <;> simp only [Bd] at h ⊢
  omega
theorem VB.mono {k : FloatKind} {E F : Int} {a : Option Nat} (h : VB k E a) (hEF : E ≤ F) : VB k F a :=
  let ⟨b, e, hb⟩ := h; ⟨b, e, hb.mono hEF⟩

/-- E lies where numbers of the kind are of full precision and not too great. -/
def Fit (k : FloatKind) (E : Int) : Prop := match k with
  | .f32 => -126 ≤ E ∧ E ≤ 125
  | .f64 => -1022 ≤ E ∧ E ≤ 1021

theorem write_bd (k : FloatKind) (neg : Bool) (mag : Nat) (place E : Int) (h : mag = 0 ∨ (mag.log2 : Int) + place ≤ E) (hE : Fit k E) :
    Bd (E + 1) (k.decode (k.format.write (.number neg mag place))) ∧ (k.decode (k.format.write (.number neg mag place))).neg = neg := by
  refine nearest_bd k neg mag place E h ?_ ?_
  · cases k
    · show (-149 : Int) + 23 ≤ E; have := hE.1; omega
    · show (-1074 : Int) + 52 ≤ E; have := hE.1; omega
  · cases k
    · show E + 2 ≤ 127; have := hE.2; omega
    · show E + 2 ≤ 1023; have := hE.2; omega

theorem log2_mul_le (m n : Nat) : (m * n).log2 ≤ m.log2 + n.log2 + 1 := by
  by_cases h : m * n = 0
  · rw [h]; simp
  · have := (Nat.log2_lt h (k := m.log2 + n.log2 + 2)).2 (by
      calc m * n < 2 ^ (m.log2 + 1) * 2 ^ (n.log2 + 1) := Nat.mul_lt_mul'' (log2_lt m) (log2_lt n)
        _ = 2 ^ (m.log2 + n.log2 + 2) := by rw [← Nat.pow_add]; congr 1; omega)
    omega

theorem signed_natAbs (s : Bool) (m u : Nat) : (Ieee.signed s m u).natAbs = m <<< u := by
  unfold Ieee.signed
  cases s
  · exact Int.natAbs_natCast _
  · exact (Int.natAbs_neg _).trans (Int.natAbs_natCast _)

theorem vmul_bd {k : FloatKind} {E F : Int} {a b : Option Nat} (ha : VB k E a) (hb : VB k F b) (h : Fit k (E + F + 1)) : VB k (E + F + 2) (vop .mul k a b) := by
  obtain ⟨x, rfl, hx⟩ := ha
  obtain ⟨y, rfl, hy⟩ := hb
  unfold FloatKind.decode at hx hy
  show VB k _ (floatBits .mul k x y)
  unfold floatBits Ieee.Format.mul
  cases hdx : k.format.read x with
  | number s m i =>
    cases hdy : k.format.read y with
    | number t n j =>
      rw [hdx] at hx; rw [hdy] at hy
      simp only [Bd] at hx hy
      simp only [Ieee.Datum.product, Option.map_some]
      have := write_bd k (s ^^ t) (m * n) (i + j) (E + F + 1) (by
        rcases hx with rfl | hx
        · left; simp
        · rcases hy with rfl | hy
          · left; simp
          · right; have := log2_mul_le m n; omega) h
      exact ⟨_, rfl, this.1.mono (by omega)⟩
    | infinity => rw [hdy] at hy; exact hy.elim
    | nan => rw [hdy] at hy; exact hy.elim
  | infinity => rw [hdx] at hx; exact hx.elim
  | nan => rw [hdx] at hx; exact hx.elim

theorem log2_shl_lt {m u : Nat} {c : Nat} (h : m = 0 ∨ m.log2 + u < c) : m <<< u < 2 ^ c := by
  rw [Nat.shiftLeft_eq]
  rcases h with rfl | h
  · simp; exact Nat.two_pow_pos _
  · calc m * 2 ^ u < 2 ^ (m.log2 + 1) * 2 ^ u := Nat.mul_lt_mul_of_pos_right (log2_lt m) (Nat.two_pow_pos _)
      _ = 2 ^ (m.log2 + 1 + u) := (Nat.pow_add ..).symm
      _ ≤ 2 ^ c := Nat.pow_le_pow_right (by omega) (by omega)

theorem sum_bd {d e : Ieee.Datum} {E F : Int} (hd : Bd E d) (he : Bd F e) : ∃ r, d.sum e = some r ∧ Bd (max E F + 1) r := by
  cases d with
  | number s m i =>
    cases e with
    | number t n j =>
      simp only [Bd] at hd he
      refine ⟨_, rfl, ?_⟩
      simp only [Bd]
      by_cases h0 : (Ieee.signed s m (i - min i j).toNat + Ieee.signed t n (j - min i j).toNat).natAbs = 0
      · exact .inl h0
      · right
        have hle : (Ieee.signed s m (i - min i j).toNat + Ieee.signed t n (j - min i j).toNat).natAbs ≤ m <<< (i - min i j).toNat + n <<< (j - min i j).toNat := by
          have := Int.natAbs_add_le (Ieee.signed s m (i - min i j).toNat) (Ieee.signed t n (j - min i j).toNat)
          rw [signed_natAbs, signed_natAbs] at this
          exact this
        generalize (Ieee.signed s m (i - min i j).toNat + Ieee.signed t n (j - min i j).toNat).natAbs = g at h0 hle
        generalize hc : (max E F + 1 - min i j).toNat = c
        by_cases hmn : m = 0 ∧ n = 0
        · obtain ⟨rfl, rfl⟩ := hmn; simp at hle; omega
        have h1 : m <<< (i - min i j).toNat < 2 ^ c := log2_shl_lt (by omega)
        have h2 : n <<< (j - min i j).toNat < 2 ^ c := log2_shl_lt (by omega)
        have h3 : g < 2 ^ (c + 1) := by rw [Nat.pow_succ]; omega
        have := (Nat.log2_lt h0).2 h3
        omega
    | infinity => exact he.elim
    | nan => exact he.elim
  | infinity => exact hd.elim
  | nan => exact hd.elim

theorem Bd.opposite {E : Int} {d : Ieee.Datum} (h : Bd E d) : Bd E d.opposite := by cases d <;> exact h

theorem write_of_bd {k : FloatKind} {E : Int} {d : Ieee.Datum} (h : Bd E d) (hE : Fit k E) : Bd (E + 1) (k.decode (k.format.write d)) := by
  cases d with
  | number s m i => exact (write_bd k s m i E h hE).1
  | infinity => exact h.elim
  | nan => exact h.elim

theorem vadd_bd {k : FloatKind} {E F : Int} {a b : Option Nat} (ha : VB k E a) (hb : VB k F b) (h : Fit k (max E F + 1)) : VB k (max E F + 2) (vop .add k a b) := by
  obtain ⟨x, rfl, hx⟩ := ha
  obtain ⟨y, rfl, hy⟩ := hb
  obtain ⟨r, hr, hb⟩ := sum_bd hx hy
  show VB k _ ((((k.decode x).sum (k.decode y)).map k.format.write))
  rw [hr]
  exact ⟨_, rfl, (write_of_bd hb h).mono (by omega)⟩

theorem vsub_bd {k : FloatKind} {E F : Int} {a b : Option Nat} (ha : VB k E a) (hb : VB k F b) (h : Fit k (max E F + 1)) : VB k (max E F + 2) (vop .sub k a b) := by
  obtain ⟨x, rfl, hx⟩ := ha
  obtain ⟨y, rfl, hy⟩ := hb
  obtain ⟨r, hr, hb⟩ := sum_bd hx hy.opposite
  show VB k _ ((((k.decode x).sum (k.decode y).opposite).map k.format.write))
  rw [hr]
  exact ⟨_, rfl, (write_of_bd hb h).mono (by omega)⟩

/-- At least 2 ^ F. -/
def Lo (F : Int) : Ieee.Datum → Prop
  | .number _ m i => m ≠ 0 ∧ F ≤ (m.log2 : Int) + i
  | _ => False
def VL (k : FloatKind) (F : Int) (a : Option Nat) : Prop := ∃ b, a = some b ∧ Lo F (k.decode b)

theorem vquo_bd {k : FloatKind} {E F G : Int} {a b : Option Nat} (ha : VB k E a) (hb : VB k G b) (hl : VL k F b) (h : Fit k (E - F + 1)) : VB k (E - F + 2) (vop .quo k a b) := by
  obtain ⟨x, rfl, hx⟩ := ha
  obtain ⟨y, rfl, hy⟩ := hb
  obtain ⟨y', e, hly⟩ := hl
  cases e
  unfold FloatKind.decode at hx hy hly
  show VB k _ (floatBits .quo k x y)
  unfold floatBits Ieee.Format.div
  cases hdx : k.format.read x with
  | number s m i =>
    cases hdy : k.format.read y with
    | number t n j =>
      rw [hdx] at hx; rw [hdy] at hly
      simp only [Bd] at hx
      simp only [Lo] at hly
      obtain ⟨hn, hF⟩ := hly
      simp only [Ieee.Datum.quotient, if_neg hn, Option.map_some]
      generalize hc : k.format.fractionBits + 2 = c
      generalize hmo : c + n.log2 - m.log2 = more
      have := write_bd k (s ^^ t) (2 * (m <<< more / n) + (m <<< more % n != 0).toNat) (i - j - more - 1) (E - F + 1) (by
        rcases hx with rfl | hx
        · left; simp
        · right
          have h1 : m <<< more < 2 ^ (m.log2 + 1 + more) := log2_shl_lt (by omega)
          have h2 : 2 ^ n.log2 ≤ n := Nat.log2_self_le hn
          have h3 : m <<< more / n < 2 ^ (m.log2 + 1 + more - n.log2) ∨ m <<< more / n = 0 := by
            by_cases hlt : n.log2 ≤ m.log2 + 1 + more
            · left
              rw [Nat.div_lt_iff_lt_mul (by omega)]
              calc m <<< more < 2 ^ (m.log2 + 1 + more) := h1
                _ = 2 ^ (m.log2 + 1 + more - n.log2) * 2 ^ n.log2 := by rw [← Nat.pow_add]; congr 1; omega
                _ ≤ _ := Nat.mul_le_mul_left _ h2
            · right
              exact Nat.div_eq_of_lt (Nat.lt_of_lt_of_le h1 (Nat.le_trans (Nat.pow_le_pow_right (by omega) (by omega)) h2))
          have hb : (m <<< more % n != 0).toNat ≤ 1 := by cases (m <<< more % n != 0) <;> simp
          have h4 : 2 * (m <<< more / n) + (m <<< more % n != 0).toNat < 2 ^ (m.log2 + 1 + more - n.log2 + 1) := by
            rw [Nat.pow_succ]
            have := Nat.two_pow_pos (m.log2 + 1 + more - n.log2)
            omega
          generalize 2 * (m <<< more / n) + (m <<< more % n != 0).toNat = g at h4
          by_cases hg : g = 0
          · subst hg; simp; omega
          · have := (Nat.log2_lt hg).2 h4
            omega) h
      exact ⟨_, rfl, this.1.mono (by omega)⟩
    | infinity => rw [hdy] at hy; exact hy.elim
    | nan => rw [hdy] at hy; exact hy.elim
  | infinity => rw [hdx] at hx; exact hx.elim
  | nan => rw [hdx] at hx; exact hx.elim

/-! ### Widening and narrowing -/
theorem read32_bd (b : Nat) {s : Bool} {m : Nat} {e : Int} (h : (FloatKind.f32).decode b = .number s m e) : Bd 127 ((FloatKind.f32).decode b) := by
  rw [h]
  unfold FloatKind.decode FloatKind.format Ieee.Format.read at h
  dsimp only at h
  have h1 : Ieee.single.binade = 2 ^ 23 := rfl
  have h2 : Ieee.single.infRung = 255 * 2 ^ 23 := rfl
  have h3 : Ieee.single.leastPlace = -149 := rfl
  generalize b % Ieee.single.signWeight = r at h
  rw [h1, h2, h3] at h
  split at h
  · rename_i hr
    injection h with _ hm he
    subst hm he
    by_cases h0 : r = 0
    · exact .inl h0
    · right; have := (Nat.log2_lt h0).2 hr; omega
  · split at h
    · rename_i hr
      injection h with _ hm he
      subst hm he
      right
      have := (Nat.log2_lt (n := 2 ^ 23 + r % 2 ^ 23) (by omega)).2 (show 2 ^ 23 + r % 2 ^ 23 < 2 ^ 24 by omega)
      omega
    · split at h <;> cases h

theorem cls_some {k : FloatKind} {b x : Nat} (h : cls k b = some x) : b = x ∧ (k.decode x).isNaN = false := by
  unfold cls at h
  split at h
  · cases h
  · rename_i hn; cases h; exact ⟨rfl, by simpa using hn⟩
theorem cls_none {k : FloatKind} {b : Nat} (h : cls k b = none) : (k.decode b).isNaN = true := by
  unfold cls at h
  split at h
  · assumption
  · cases h
theorem cls_of_not {k : FloatKind} {b : Nat} (h : (k.decode b).isNaN = false) : cls k b = some b := by simp [cls, h]

theorem wide_some {b : Nat} (h : ((FloatKind.f32).decode b).isNaN = false) : ∃ r, floatToFloatBits .f32 b .f64 = some r ∧ ((FloatKind.f64).decode r).isNaN = false ∧ (∀ E, 0 ≤ E → Bd E ((FloatKind.f32).decode b) → Bd (E + 1) ((FloatKind.f64).decode r)) := by
  unfold floatToFloatBits
  rw [if_neg (by decide)]
  cases hd : (FloatKind.f32).decode b with
  | nan => rw [hd] at h; cases h
  | infinity s => exact ⟨_, rfl, write_notNaN _ _ rfl, fun _ _ hb => hb.elim⟩
  | number s m e =>
    have hb := read32_bd b hd
    rw [hd] at hb
    have hw := (write_bd .f64 s m e 127 hb ⟨by decide, by decide⟩).1
    have hni : ((FloatKind.f64).decode ((FloatKind.f64).encode (.number s m e))).isInfinity = false := by
      unfold FloatKind.encode
      cases hx : (FloatKind.f64).decode ((FloatKind.f64).format.write (.number s m e)) with
      | number => rfl
      | infinity => rw [hx] at hw; exact hw.elim
      | nan => rfl
    simp only [hni, Bool.false_eq_true, if_false]
    refine ⟨_, rfl, write_notNaN _ _ rfl, fun E hE hbE => ?_⟩
    by_cases hE2 : E ≤ 127
    · exact (write_bd .f64 s m e E hbE ⟨by omega, by omega⟩).1
    · exact hw.mono (by omega)

theorem cres_wide (b : Nat) (w : World) : cls .f64 (cres .f32 b .f64 w) = vwide (cls .f32 b) := by
  cases hb : cls .f32 b with
  | none =>
    have hn := cls_none hb
    have : floatToFloatBits .f32 b .f64 = none := by
      unfold floatToFloatBits
      rw [if_neg (by decide)]
      cases hd : (FloatKind.f32).decode b with
      | nan => rfl
      | infinity s => rw [hd] at hn; cases hn
      | number s m e => rw [hd] at hn; cases hn
    unfold cres
    rw [this]
    simp only [hn, if_true, cls_drawn]
    rfl
  | some x =>
    obtain ⟨rfl, hn⟩ := cls_some hb
    obtain ⟨r, hr, hnr, _⟩ := wide_some hn
    unfold cres vwide
    rw [hr]
    simp [hr, cls_of_not hnr]

theorem vwide_some {x : Nat} (h : ((FloatKind.f32).decode x).isNaN = false) : ∃ r, vwide (some x) = some r := by
  obtain ⟨r, hr, _⟩ := wide_some h
  exact ⟨r, by simpa [vwide] using hr⟩

theorem vwide_bd {E : Int} {a : Option Nat} (h : VB .f32 E a) (hE : 0 ≤ E) : VB .f64 (E + 1) (vwide a) := by
  obtain ⟨b, rfl, hb⟩ := h
  have hn : ((FloatKind.f32).decode b).isNaN = false := by
    cases hd : (FloatKind.f32).decode b with
    | nan => rw [hd] at hb; exact hb.elim
    | infinity s => rfl
    | number s m e => rfl
  obtain ⟨r, hr, _, hbd⟩ := wide_some hn
  exact ⟨r, by simpa [vwide] using hr, hbd E hE hb⟩

/-- A 64-bit number that is not too great for a 32-bit one: one of which the narrowing is told. -/
def Okn (a : Option Nat) : Prop := a = none ∨ ∃ r, vnarrow a = some r

theorem cres_narrow {b : Nat} (h : Okn (cls .f64 b)) (w : World) : cls .f32 (cres .f64 b .f32 w) = vnarrow (cls .f64 b) := by
  cases hb : cls .f64 b with
  | none =>
    have hn := cls_none hb
    have : floatToFloatBits .f64 b .f32 = none := by
      unfold floatToFloatBits
      rw [if_neg (by decide)]
      cases hd : (FloatKind.f64).decode b with
      | nan => rfl
      | infinity s => rw [hd] at hn; cases hn
      | number s m e => rw [hd] at hn; cases hn
    unfold cres
    rw [this]
    simp only [hn, if_true, cls_drawn]
    rfl
  | some x =>
    obtain ⟨rfl, hn⟩ := cls_some hb
    rw [hb] at h
    obtain ⟨r, hr⟩ := h.resolve_left (by simp)
    have hr' : floatToFloatBits .f64 b .f32 = some r := by simpa [vnarrow] using hr
    have hnr : ((FloatKind.f32).decode r).isNaN = false := by
      unfold floatToFloatBits at hr'
      rw [if_neg (by decide)] at hr'
      split at hr'
      · cases hr'
      · cases hr'; exact write_notNaN _ _ rfl
      · split at hr'
        · cases hr'
        · cases hr'; exact write_notNaN _ _ rfl
    unfold cres
    rw [hr', hr, ]
    exact cls_of_not hnr

theorem narrow_eq {b : Nat} {a : Option Nat} (hb : cls .f64 b = a) (h : Okn a) (w : World) : cls .f32 (cres .f64 b .f32 w) = vnarrow a := by
  subst hb; exact cres_narrow h w

theorem okn_of_bd {E : Int} {a : Option Nat} (h : VB .f64 E a) (hE : E ≤ 125) : Okn a := by
  obtain ⟨b, rfl, hb⟩ := h
  right
  unfold vnarrow floatToFloatBits
  simp only [Option.bind_some]
  rw [if_neg (by decide)]
  cases hd : (FloatKind.f64).decode b with
  | nan => rw [hd] at hb; exact hb.elim
  | infinity s => rw [hd] at hb; exact hb.elim
  | number s m e =>
    rw [hd] at hb
    have hw := (write_bd .f32 s m e 125 (hb.mono hE) ⟨by decide, by decide⟩).1
    have hni : ((FloatKind.f32).decode ((FloatKind.f32).encode (.number s m e))).isInfinity = false := by
      unfold FloatKind.encode
      cases hx : (FloatKind.f32).decode ((FloatKind.f32).format.write (.number s m e)) with
      | number => rfl
      | infinity => rw [hx] at hw; exact hw.elim
      | nan => rfl
    simp only [hni, Bool.false_eq_true, if_false]
    exact ⟨_, rfl⟩

/-! ### Comparisons -/
def vord (k : FloatKind) (a b : Option Nat) : Option Ordering := a.bind fun x => b.bind fun y => k.format.order x y

theorem order_cls (k : FloatKind) (x y : Nat) : k.format.order x y = vord k (cls k x) (cls k y) := by
  unfold vord cls FloatKind.decode Ieee.Format.order
  cases hx : k.format.read x <;> cases hy : k.format.read y <;> simp [Ieee.Datum.isNaN, Ieee.Datum.order, hx, hy]

theorem order_self {k : FloatKind} {x : Nat} (h : (k.decode x).isNaN = false) : k.format.order x x = some .eq := by
  unfold FloatKind.decode at h
  unfold Ieee.Format.order
  cases hx : k.format.read x with
  | number s m e => simp [Ieee.Datum.order]
  | infinity s => simp [Ieee.Datum.order]
  | nan => rw [hx] at h; cases h

theorem order_nan {k : FloatKind} {x y : Nat} (h : (k.decode x).isNaN = true) : k.format.order x y = none := by
  unfold FloatKind.decode at h
  unfold Ieee.Format.order
  cases hx : k.format.read x with
  | number s m e => rw [hx] at h; cases h
  | infinity s => rw [hx] at h; cases h
  | nan => simp [Ieee.Datum.order]

/-! ### The square root -/
def sres (x : Nat) (w : World) : Nat :=
  match (FloatKind.f64).format.sqrt x with
  | some r => r
  | none => drawn .f64 (w.tape w.drawn (.nanBits .f64 x x))
def scnt (x : Nat) : Nat := if ((FloatKind.f64).format.sqrt x).isSome then 0 else 1
def vsqrt (a : Option Nat) : Option Nat := a.bind fun x => (FloatKind.f64).format.sqrt x

theorem run_sqrt_entry (P : Program) (x : Nat) (w : World) : (Extern.MathSqrt.sqrt #[.float .f64 x]).run P w = .ok (.float .f64 (sres x w)) (w.drewN (scnt x)) := by
  change Sem.run P (match (FloatKind.f64).format.sqrt x with
    | some r => pure (Value.float .f64 r)
    | none => (choose (.nanBits .f64 x x) >>= fun b => pure (Value.float .f64 b))) w = _
  cases h : (FloatKind.f64).format.sqrt x with
  | some r => simp [h, sres, scnt, World.drewN_zero]
  | none =>
    have e : sres x w = (Question.nanBits .f64 x x).cut (w.tape w.drawn (.nanBits .f64 x x)) := by unfold sres; rw [h]; rfl
    rw [e]
    simp [h, scnt, ← World.drew_is_drewN, Question.forced]

theorem sres_cls (x : Nat) (w : World) : cls .f64 (sres x w) = vsqrt (cls .f64 x) := by
  cases hx : cls .f64 x with
  | none =>
    have hn := cls_none hx
    have : (FloatKind.f64).format.sqrt x = none := by
      unfold FloatKind.decode at hn
      unfold Ieee.Format.sqrt
      cases hd : (FloatKind.f64).format.read x with
      | nan => rfl
      | infinity s => rw [hd] at hn; cases hn
      | number s m e => rw [hd] at hn; cases hn
    unfold sres; rw [this]; exact cls_drawn _ _
  | some y =>
    obtain ⟨rfl, hn⟩ := cls_some hx
    show _ = (FloatKind.f64).format.sqrt x
    unfold sres
    cases h : (FloatKind.f64).format.sqrt x with
    | none => exact cls_drawn _ _
    | some r => exact cls_of_not (map_write_notNaN (f := (FloatKind.f64).format) h fun d hd => root_notNaN hd)

theorem rootFrom_lt (n : Nat) : ∀ t r, Ieee.Datum.rootFrom n t r < r + 2 ^ t := by
  intro t
  induction t with
  | zero => intro r; simp [Ieee.Datum.rootFrom]
  | succ t ih =>
    intro r
    simp only [Ieee.Datum.rootFrom]
    have hp : 2 ^ (t + 1) = 2 ^ t + 2 ^ t := by rw [Nat.pow_succ]; omega
    split
    · have := ih (r + 1 <<< t)
      rw [Nat.shiftLeft_eq, Nat.one_mul] at this ⊢
      omega
    · have := ih r
      have := Nat.two_pow_pos t
      omega

theorem log2_shl (m u : Nat) (h : m ≠ 0) : (m <<< u).log2 ≤ m.log2 + u := by
  have h1 : m <<< u < 2 ^ (m.log2 + u + 1) := log2_shl_lt (by omega)
  have h0 : m <<< u ≠ 0 := by rw [Nat.shiftLeft_eq]; exact Nat.mul_ne_zero h (by have := Nat.two_pow_pos u; omega)
  have := (Nat.log2_lt h0).2 h1
  omega

theorem root_bd {c : Nat} {d r : Ieee.Datum} {E : Int} (hd : Bd E d) (h : d.root c = some r) : Bd (E / 2 + 1) r := by
  cases d with
  | number s m i =>
    unfold Ieee.Datum.root at h
    dsimp only at h
    split at h
    · rename_i h0
      cases h
      exact .inl h0
    · rename_i h0
      split at h
      · cases h
      · cases h
        have hd := hd.resolve_left h0
        simp only [Bd]
        generalize hmore : 2 * c - m.log2 + ((i - (2 * c - m.log2 : Nat)) % 2).toNat = more
        have hl := log2_shl m more h0
        generalize m <<< more = n at hl
        have hw := rootFrom_lt n (n.log2 / 2 + 1) 0
        generalize Ieee.Datum.rootFrom n (n.log2 / 2 + 1) 0 = whole at hw
        have hb : (whole * whole != n).toNat ≤ 1 := by cases (whole * whole != n) <;> simp
        generalize (whole * whole != n).toNat = bit at hb
        by_cases hz : 2 * whole + bit = 0
        · exact .inl hz
        · right
          have h4 : 2 * whole + bit < 2 ^ (n.log2 / 2 + 2) := by
            rw [Nat.pow_succ]; omega
          have h5 := (Nat.log2_lt hz).2 h4
          have hcast : (((n.log2 / 2 : Nat) : Int)) ≤ ((m.log2 + more : Nat) : Int) / 2 := by omega
          omega
  | infinity => exact hd.elim
  | nan => exact hd.elim

theorem vsqrt_bd {E : Int} {a : Option Nat} (h : VB .f64 E a) (hE : 0 ≤ E) (hE2 : E ≤ 1000) : vsqrt a = none ∨ VB .f64 (E / 2 + 2) (vsqrt a) := by
  obtain ⟨x, rfl, hx⟩ := h
  unfold vsqrt Ieee.Format.sqrt
  simp only [Option.bind_some]
  cases hr : ((FloatKind.f64).format.read x).root ((FloatKind.f64).format.fractionBits + 2) with
  | none => exact .inl rfl
  | some r =>
    right
    exact ⟨_, rfl, (write_of_bd (k := .f64) (root_bd hx hr) (show Fit .f64 (E / 2 + 1) from ⟨by omega, by omega⟩)).mono (by omega)⟩

theorem vsqrt_wide_okn (b : Nat) : Okn (vsqrt (vwide (cls .f32 b))) := by
  cases hb : cls .f32 b with
  | none => exact .inl rfl
  | some x =>
    obtain ⟨rfl, hn⟩ := cls_some hb
    cases hd : (FloatKind.f32).decode b with
    | nan => rw [hd] at hn; cases hn
    | number s m e =>
      have := vwide_bd (a := some b) ⟨b, rfl, read32_bd b hd⟩ (by decide)
      rcases vsqrt_bd this (by decide) (by decide) with h | h
      · exact .inl h
      · exact okn_of_bd h (by decide)
    | infinity s =>
      have e : vwide (some b) = some ((FloatKind.f64).encode (.infinity s)) := by
        unfold vwide floatToFloatBits
        simp only [Option.bind_some]
        rw [if_neg (by decide), hd]
      rw [e]
      cases s
      · exact .inr ⟨(FloatKind.f32).encode (.infinity false), by decide +kernel⟩
      · exact .inl (by decide +kernel)

end Go.Proofs.YthkabonnclfhmaaDoor.Flo
