
/- Rows of chances: plain facts, no program. -/
import Derived.Test.YthkabonnclfhmaaDoorFlv
namespace Go.Proofs.YthkabonnclfhmaaDoor.Flo
open Go

/-! ### Opposites -/
theorem signed_not (s : Bool) (m u : Nat) : Ieee.signed (!s) m u = - Ieee.signed s m u := by cases s <;> simp [Ieee.signed]

/-- Two data that are each other's opposite, but for a zero's sign. -/
def Opp : Ieee.Datum → Ieee.Datum → Prop
  | .number s m i, .number t n j => m = n ∧ i = j ∧ (t = !s ∨ m = 0)
  | .infinity s, .infinity t => t = !s
  | _, _ => False

theorem sum_comm (a b : Ieee.Datum) : a.sum b = b.sum a := by
  cases a with
  | number s m i => cases b with
    | number t n j =>
      have hm : min i j = min j i := Int.min_comm ..
      simp only [Ieee.Datum.sum, hm, Int.add_comm, Bool.and_comm]
    | infinity t => rfl
    | nan => rfl
  | infinity s => cases b with
    | number t n j => rfl
    | infinity t =>
      simp only [Ieee.Datum.sum]
      by_cases h : s = t
      · rw [if_pos h, if_pos h.symm, h]
      · rw [if_neg h, if_neg (fun e => h e.symm)]
    | nan => rfl
  | nan => cases b <;> rfl

theorem sum_opp (a b : Ieee.Datum) : match a.sum b, a.opposite.sum b.opposite with
    | some r, some r' => Opp r r'
    | none, none => True
    | _, _ => False := by
  cases a with
  | number s m i => cases b with
    | number t n j =>
      simp only [Ieee.Datum.sum, Ieee.Datum.opposite, Opp]
      rw [signed_not, signed_not, ← Int.neg_add, Int.natAbs_neg]
      generalize Ieee.signed s m (i - min i j).toNat + Ieee.signed t n (j - min i j).toNat = g
      refine ⟨rfl, trivial, ?_⟩
      by_cases h0 : g = 0
      · right; rw [h0]; rfl
      · left
        rw [if_neg h0, if_neg (by omega)]
        by_cases hg : g < 0
        · rw [decide_eq_true hg, decide_eq_false (by omega)]; rfl
        · rw [decide_eq_false hg, decide_eq_true (by omega)]; rfl
    | infinity t => simp [Ieee.Datum.sum, Ieee.Datum.opposite, Opp]
    | nan => simp [Ieee.Datum.sum, Ieee.Datum.opposite]
  | infinity s => cases b with
    | number t n j => simp [Ieee.Datum.sum, Ieee.Datum.opposite, Opp]
    | infinity t => cases s <;> cases t <;> simp [Ieee.Datum.sum, Ieee.Datum.opposite, Opp]
    | nan => simp [Ieee.Datum.sum, Ieee.Datum.opposite]
  | nan => cases b <;> simp [Ieee.Datum.sum, Ieee.Datum.opposite]

theorem opposite_opposite (a : Ieee.Datum) : a.opposite.opposite = a := by cases a <;> simp [Ieee.Datum.opposite]

/-- The rung that a magnitude is rounded to, at most infinity's. -/
theorem nearest_rung (f : Ieee.Format) (mag : Nat) (place : Int) : ∃ r, r ≤ f.infRung ∧ (mag = 0 → r = 0) ∧ ∀ neg, f.nearest neg mag place = f.word neg r := by
  by_cases h : mag = 0
  · exact ⟨0, Nat.zero_le _, fun _ => rfl, fun neg => by unfold Ieee.Format.nearest; rw [if_pos h]⟩
  · refine ⟨min ((max (place + mag.log2 - f.fractionBits) f.leastPlace - f.leastPlace).toNat * f.binade + Ieee.Toward.even.cut false (mag <<< (place - max (place + mag.log2 - f.fractionBits) f.leastPlace).toNat) (max (place + mag.log2 - f.fractionBits) f.leastPlace - place).toNat) f.infRung, Nat.min_le_right .., fun e => absurd e h, fun neg => ?_⟩
    unfold Ieee.Format.nearest
    rw [if_neg h]
    rfl

theorem write_opp (k : FloatKind) {r r' : Ieee.Datum} (h : Opp r r') : Opp (k.decode (k.format.write r)) (k.decode (k.format.write r')) := by
  have hpos : 0 < k.format.binade := Nat.two_pow_pos _
  have hbi := binade_le k
  unfold FloatKind.decode
  generalize k.format = f at *
  cases r with
  | number s m i => cases r' with
    | number t n j =>
      obtain ⟨rfl, rfl, hs⟩ := h
      obtain ⟨q, hq, hq0, hw⟩ := nearest_rung f m i
      show Opp (f.read (f.nearest s m i)) (f.read (f.nearest t m i))
      rw [hw, hw, read_word f s q (Nat.lt_of_le_of_lt hq f.infRung_lt), read_word f t q (Nat.lt_of_le_of_lt hq f.infRung_lt)]
      by_cases h1 : q < f.binade
      · rw [if_pos h1, if_pos h1]
        exact ⟨rfl, rfl, hs.imp id hq0⟩
      · have hm : t = !s := hs.resolve_right fun h0 => h1 (by rw [hq0 h0]; exact hpos)
        rw [if_neg h1, if_neg h1]
        by_cases h2 : q < f.infRung
        · rw [if_pos h2, if_pos h2]
          exact ⟨rfl, rfl, .inl hm⟩
        · rw [if_neg h2, if_neg h2, if_pos (by omega), if_pos (by omega)]
          exact hm
    | infinity => exact h.elim
    | nan => exact h.elim
  | infinity s => cases r' with
    | number => exact h.elim
    | infinity t =>
      show Opp (f.read (f.word s f.infRung)) (f.read (f.word t f.infRung))
      have e : ∀ t, f.read (f.word t f.infRung) = .infinity t := fun t => by
        rw [read_word f t _ f.infRung_lt, if_neg (by omega), if_neg (by omega), if_pos rfl]
      rw [e, e]
      exact h
    | nan => exact h.elim
  | nan => cases r' <;> exact h.elim

/-! ### Comparisons on numbers up to which not-a-number -/
def lt32 (a b : Option Nat) : Bool := vord .f32 a b == some .lt
def gt32 (a b : Option Nat) : Bool := vord .f32 a b == some .gt
def ge32 (a b : Option Nat) : Bool := vord .f32 a b == some .gt || vord .f32 a b == some .eq
def le32 (a b : Option Nat) : Bool := vord .f32 a b == some .lt || vord .f32 a b == some .eq

def one32 : Nat := 1065353216
def c001 : Nat := 981668463
def m001 : Nat := 3129152111
theorem cls_one32 : cls .f32 one32 = some one32 := by decide +kernel
theorem cls_c001 : cls .f32 c001 = some c001 := by decide +kernel
theorem cls_m001 : cls .f32 m001 = some m001 := by decide +kernel
theorem cls_032 : cls .f32 0 = some 0 := by decide +kernel
theorem dec_one32 : (FloatKind.f32).decode one32 = .number false (2 ^ 23) (-23) := by decide +kernel
theorem dec_c001 : (FloatKind.f32).decode c001 = .number false 8589935 (-33) := by decide +kernel
theorem dec_m001 : (FloatKind.f32).decode m001 = .number true 8589935 (-33) := by decide +kernel
theorem dec_032 : (FloatKind.f32).decode 0 = .number false 0 (-149) := by decide +kernel

theorem order_opp {a b : Ieee.Datum} (h : Opp a b) : (a.order (.number true 8589935 (-33)) == some .gt || a.order (.number true 8589935 (-33)) == some .eq) = (b.order (.number false 8589935 (-33)) == some .lt || b.order (.number false 8589935 (-33)) == some .eq) := by
  cases a with
  | number s m i => cases b with
    | number t n j =>
      obtain ⟨rfl, rfl, hs⟩ := h
      simp only [Ieee.Datum.order]
      rw [cmp_ge, cmp_le]
      generalize hu : (i - min i (-33)).toNat = u
      generalize hv : (-33 - min i (-33)).toNat = v
      have e1 : Ieee.signed true 8589935 v = - Ieee.signed false 8589935 v := signed_not false _ _
      have e2 : Ieee.signed t m u = - Ieee.signed s m u := by
        rcases hs with rfl | rfl
        · exact signed_not ..
        · rw [signed_zero, signed_zero]; rfl
      rw [e1, e2]
      exact decide_eq_decide.2 (by omega)
    | infinity => exact h.elim
    | nan => exact h.elim
  | infinity s => cases b with
    | number => exact h.elim
    | infinity t =>
      have h : t = !s := h
      subst h
      cases s <;> rfl
    | nan => exact h.elim
  | nan => cases b <;> exact h.elim

/-- 's - 1 >= -0.001' and '1 - s <= 0.001'. -/
theorem near_eq (s : Option Nat) : ge32 (vop .sub .f32 s (some one32)) (some m001) = le32 (vop .sub .f32 (some one32) s) (some c001) := by
  cases s with
  | none => rfl
  | some x =>
    have h := sum_opp ((FloatKind.f32).decode x) ((FloatKind.f32).decode one32).opposite
    rw [opposite_opposite, sum_comm ((FloatKind.f32).decode x).opposite] at h
    show ge32 (((((FloatKind.f32).decode x).sum ((FloatKind.f32).decode one32).opposite).map (FloatKind.f32).format.write)) _ = le32 (((((FloatKind.f32).decode one32).sum ((FloatKind.f32).decode x).opposite).map (FloatKind.f32).format.write)) _
    revert h
    cases ((FloatKind.f32).decode x).sum ((FloatKind.f32).decode one32).opposite with
    | none =>
      cases ((FloatKind.f32).decode one32).sum ((FloatKind.f32).decode x).opposite with
      | none => intro _; rfl
      | some r' => intro h; exact h.elim
    | some r =>
      cases ((FloatKind.f32).decode one32).sum ((FloatKind.f32).decode x).opposite with
      | none => intro h; exact h.elim
      | some r' =>
        intro h
        have := order_opp (write_opp .f32 h)
        unfold ge32 le32 vord
        simp only [Option.map_some, Option.bind_some]
        unfold Ieee.Format.order
        rw [← dec_m001, ← dec_c001] at this
        exact this

/-! ### Numbers of at least 0 -/
def PosD : Ieee.Datum → Prop
  | .number s m _ => s = false ∨ m = 0
  | .infinity s => s = false
  | .nan .. => False
def VPos (k : FloatKind) (a : Option Nat) : Prop := ∃ b, a = some b ∧ PosD (k.decode b)
/-- At least 2 ^ F. -/
def BigD (F : Int) : Ieee.Datum → Prop
  | .number s m i => s = false ∧ m ≠ 0 ∧ F ≤ (m.log2 : Int) + i
  | .infinity s => s = false
  | .nan .. => False
def VBig (k : FloatKind) (F : Int) (a : Option Nat) : Prop := ∃ b, a = some b ∧ BigD F (k.decode b)

theorem signed_false' (m u : Nat) : Ieee.signed false m u = ((m * 2 ^ u : Nat) : Int) := by
  unfold Ieee.signed; rw [if_neg (by decide), Nat.shiftLeft_eq]

theorem posD_signed {s : Bool} {m : Nat} (h : s = false ∨ m = 0) (u : Nat) : Ieee.signed s m u = ((m * 2 ^ u : Nat) : Int) := by
  rcases h with rfl | rfl
  · exact signed_false' ..
  · rw [signed_zero]; simp

theorem sum_pos {a b : Ieee.Datum} (ha : PosD a) (hb : PosD b) : ∃ r, a.sum b = some r ∧ PosD r := by
  cases a with
  | number s m i => cases b with
    | number t n j =>
      refine ⟨_, rfl, ?_⟩
      show _ ∨ _
      rw [posD_signed ha, posD_signed hb]
      generalize m * 2 ^ _ = p
      generalize n * 2 ^ _ = q
      by_cases h0 : ((p : Int) + q = 0)
      · right; rw [h0]; rfl
      · left; rw [if_neg h0]; exact decide_eq_false (by omega)
    | infinity t => exact ⟨_, rfl, hb⟩
    | nan => exact hb.elim
  | infinity s => cases b with
    | number t n j => exact ⟨_, rfl, ha⟩
    | infinity t =>
      have ha : s = false := ha
      have hb : t = false := hb
      subst ha; subst hb
      exact ⟨_, rfl, rfl⟩
    | nan => exact hb.elim
  | nan => exact ha.elim

theorem write_pos (k : FloatKind) {r : Ieee.Datum} (h : PosD r) : PosD (k.decode (k.format.write r)) := by
  have hpos : 0 < k.format.binade := Nat.two_pow_pos _
  have hbi := binade_le k
  unfold FloatKind.decode
  generalize k.format = f at *
  cases r with
  | number s m i =>
    obtain ⟨q, hq, hq0, hw⟩ := nearest_rung f m i
    show PosD (f.read (f.nearest s m i))
    rw [hw, read_word f s q (Nat.lt_of_le_of_lt hq f.infRung_lt)]
    by_cases h1 : q < f.binade
    · rw [if_pos h1]; exact h.imp id hq0
    · have hm : s = false := h.resolve_right fun h0 => h1 (by rw [hq0 h0]; exact hpos)
      rw [if_neg h1]
      by_cases h2 : q < f.infRung
      · rw [if_pos h2]; exact .inl hm
      · rw [if_neg h2, if_pos (by omega)]; exact hm
  | infinity s =>
    show PosD (f.read (f.word s f.infRung))
    rw [read_word f s _ f.infRung_lt, if_neg (by omega), if_neg (by omega), if_pos rfl]
    exact h
  | nan => exact h.elim

theorem vadd_pos {k : FloatKind} {a b : Option Nat} (ha : VPos k a) (hb : VPos k b) : VPos k (vop .add k a b) := by
  obtain ⟨x, rfl, hx⟩ := ha
  obtain ⟨y, rfl, hy⟩ := hb
  obtain ⟨r, hr, hb⟩ := sum_pos hx hy
  show VPos k ((((k.decode x).sum (k.decode y)).map k.format.write))
  rw [hr]
  exact ⟨_, rfl, write_pos k hb⟩

/-- ROUNDING KEEPS 'at least 2 ^ F'. -/
theorem write_big (k : FloatKind) {F : Int} {r : Ieee.Datum} (h : BigD F r) (hF : Norm k F) : BigD F (k.decode (k.format.write r)) := by
  obtain ⟨hbi, hpos, hfig⟩ := figures k
  obtain ⟨hlo, hhi⟩ := hfig F hF
  have hbl := binade_le k
  unfold FloatKind.decode
  generalize k.format = f at *
  cases r with
  | nan => exact h.elim
  | infinity s =>
    show BigD F (f.read (f.word s f.infRung))
    rw [read_word f s _ f.infRung_lt, if_neg (by omega), if_neg (by omega), if_pos rfl]
    exact h
  | number s m i =>
    obtain ⟨rfl, h0, hl⟩ := h
    show BigD F (f.read (f.nearest false m i))
    unfold Ieee.Format.nearest
    rw [if_neg h0]
    dsimp only
    generalize hlast : max (i + (m.log2 : Int) - f.fractionBits) f.leastPlace = last
    have e : last = i + (m.log2 : Int) - f.fractionBits := by omega
    have hk : 2 ^ f.fractionBits ≤ Ieee.Toward.even.cut false (m <<< (i - last).toNat) (last - i).toNat := by
      refine cut_even_ge false _ _ _ ?_
      rw [Nat.shiftLeft_eq, ← Nat.pow_add]
      calc 2 ^ (f.fractionBits + (last - i).toNat) = 2 ^ (m.log2 + (i - last).toNat) := by congr 1; omega
        _ = 2 ^ m.log2 * 2 ^ (i - last).toNat := Nat.pow_add ..
        _ ≤ _ := Nat.mul_le_mul_right _ (Nat.log2_self_le h0)
    generalize Ieee.Toward.even.cut false (m <<< (i - last).toNat) (last - i).toNat = kept at hk
    rw [← hbi] at hk
    generalize hB : f.binade = B at *
    have hN : ((F - f.fractionBits - f.leastPlace).toNat + 1) * B ≤ (last - f.leastPlace).toNat * B + kept := by
      have h2 : (F - f.fractionBits - f.leastPlace).toNat ≤ (last - f.leastPlace).toNat := by omega
      have := Nat.mul_le_mul_right B h2
      rw [Nat.add_mul, Nat.one_mul]
      omega
    generalize (last - f.leastPlace).toNat * B + kept = rung at hN
    have hBr : B ≤ rung := by rw [Nat.add_mul, Nat.one_mul] at hN; omega
    by_cases hr : rung < f.infRung
    · rw [Nat.min_eq_left (Nat.le_of_lt hr), read_word f false rung (Nat.lt_trans hr f.infRung_lt), hB, if_neg (by omega), if_pos hr]
      refine ⟨rfl, by omega, ?_⟩
      have hd : (F - f.fractionBits - f.leastPlace).toNat + 1 ≤ rung / B := (Nat.le_div_iff_mul_le hpos).2 hN
      have hg : f.fractionBits ≤ (B + rung % B).log2 := (Nat.le_log2 (by omega)).2 (by rw [← hbi]; omega)
      omega
    · rw [Nat.min_eq_right (by omega), read_word f false _ f.infRung_lt, hB, if_neg (by omega), if_neg (by omega), if_pos rfl]
      rfl

theorem sum_big {F : Int} {a b : Ieee.Datum} (ha : BigD F a) (hb : PosD b) : ∃ r, a.sum b = some r ∧ BigD F r := by
  cases a with
  | nan => exact ha.elim
  | infinity s => cases b with
    | number t n j => exact ⟨_, rfl, ha⟩
    | infinity t =>
      have ha : s = false := ha
      have hb : t = false := hb
      subst ha; subst hb
      exact ⟨_, rfl, rfl⟩
    | nan => exact hb.elim
  | number s m i => cases b with
    | infinity t => exact ⟨_, rfl, hb⟩
    | nan => exact hb.elim
    | number t n j =>
      obtain ⟨rfl, h0, hl⟩ := ha
      refine ⟨_, rfl, ?_⟩
      rw [signed_false', posD_signed hb]
      have hp := Nat.two_pow_pos (i - min i j).toNat
      have hm : 0 < m * 2 ^ (i - min i j).toNat := Nat.mul_pos (by omega) hp
      have hge : 2 ^ (m.log2 + (i - min i j).toNat) ≤ m * 2 ^ (i - min i j).toNat := by
        rw [Nat.pow_add]; exact Nat.mul_le_mul_right _ (Nat.log2_self_le h0)
      generalize m * 2 ^ (i - min i j).toNat = p at *
      generalize n * 2 ^ (j - min i j).toNat = q at *
      have e : ((p : Int) + q).natAbs = p + q := by omega
      refine ⟨?_, by omega, ?_⟩
      · rw [if_neg (by omega)]; exact decide_eq_false (by omega)
      · rw [e]
        have : m.log2 + (i - min i j).toNat ≤ (p + q).log2 := (Nat.le_log2 (by omega)).2 (by omega)
        omega

theorem vadd_big {k : FloatKind} {F : Int} {a b : Option Nat} (ha : VBig k F a) (hb : VPos k b) (hF : Norm k F) : VBig k F (vop .add k a b) := by
  obtain ⟨x, rfl, hx⟩ := ha
  obtain ⟨y, rfl, hy⟩ := hb
  obtain ⟨r, hr, hb⟩ := sum_big hx hy
  show VBig k F ((((k.decode x).sum (k.decode y)).map k.format.write))
  rw [hr]
  exact ⟨_, rfl, write_big k hb hF⟩
theorem vadd_big' {k : FloatKind} {F : Int} {a b : Option Nat} (ha : VPos k a) (hb : VBig k F b) (hF : Norm k F) : VBig k F (vop .add k a b) := by
  obtain ⟨x, rfl, hx⟩ := ha
  obtain ⟨y, rfl, hy⟩ := hb
  obtain ⟨r, hr, hb⟩ := sum_big hy hx
  show VBig k F ((((k.decode x).sum (k.decode y)).map k.format.write))
  rw [sum_comm, hr]
  exact ⟨_, rfl, write_big k hb hF⟩

/-- 's - 1' of s at least 2 is at least 1. -/
theorem sub1_big {a : Option Nat} (ha : VBig .f32 1 a) : VBig .f32 0 (vop .sub .f32 a (some one32)) := by
  obtain ⟨x, rfl, hx⟩ := ha
  show VBig .f32 0 ((((FloatKind.f32).decode x).sum ((FloatKind.f32).decode one32).opposite).map (FloatKind.f32).format.write)
  rw [dec_one32]
  cases hd : (FloatKind.f32).decode x with
  | nan => rw [hd] at hx; exact hx.elim
  | infinity s =>
    rw [hd] at hx
    have : s = false := hx
    subst this
    refine ⟨_, rfl, ?_⟩
    rw [show (FloatKind.f32).decode ((FloatKind.f32).format.write (.infinity false)) = .infinity false by decide +kernel]; rfl
  | number s m i =>
    rw [hd] at hx
    obtain ⟨rfl, h0, hl⟩ := hx
    refine ⟨_, rfl, write_big .f32 (F := 0) ?_ ⟨by decide, by decide⟩⟩
    show BigD 0 (.number _ _ _)
    rw [signed_false', show Ieee.signed (!false) (2 ^ 23) (-23 - min i (-23)).toNat = -((2 ^ 23 * 2 ^ (-23 - min i (-23)).toNat : Nat) : Int) by rw [signed_not, signed_false']]
    have hge : 2 ^ (m.log2 + (i - min i (-23)).toNat) ≤ m * 2 ^ (i - min i (-23)).toNat := by
      rw [Nat.pow_add]; exact Nat.mul_le_mul_right _ (Nat.log2_self_le h0)
    rw [← Nat.pow_add]
    have hq : 2 * 2 ^ (23 + (-23 - min i (-23)).toNat) ≤ 2 ^ (m.log2 + (i - min i (-23)).toNat) := by
      rw [Nat.mul_comm, ← Nat.pow_succ]
      exact Nat.pow_le_pow_right (by omega) (by omega)
    have hp := Nat.two_pow_pos (23 + (-23 - min i (-23)).toNat)
    generalize m * 2 ^ (i - min i (-23)).toNat = p at *
    generalize hQ : 2 ^ (23 + (-23 - min i (-23)).toNat) = q at *
    generalize 2 ^ (m.log2 + (i - min i (-23)).toNat) = r at *
    have e : ((p : Int) + -(q : Int)).natAbs = p - q := by omega
    refine ⟨?_, by omega, ?_⟩
    · rw [if_neg (by omega)]; exact decide_eq_false (by omega)
    · rw [e]
      have : 23 + (-23 - min i (-23)).toNat ≤ (p - q).log2 := (Nat.le_log2 (by omega)).2 (by omega)
      omega

theorem big_not_le {a : Option Nat} (ha : VBig .f32 0 a) : le32 a (some c001) = false := by
  obtain ⟨x, rfl, hx⟩ := ha
  unfold le32 vord
  simp only [Option.bind_some]
  show (((FloatKind.f32).decode x).order ((FloatKind.f32).decode c001) == some .lt || ((FloatKind.f32).decode x).order ((FloatKind.f32).decode c001) == some .eq) = false
  rw [dec_c001]
  cases hd : (FloatKind.f32).decode x with
  | nan => rw [hd] at hx; exact hx.elim
  | infinity s =>
    rw [hd] at hx
    have : s = false := hx
    subst this
    rfl
  | number s m i =>
    rw [hd] at hx
    obtain ⟨rfl, h0, hl⟩ := hx
    simp only [Ieee.Datum.order]
    rw [cmp_le, signed_false', signed_false']
    refine decide_eq_false ?_
    have hge : 2 ^ (m.log2 + (i - min i (-33)).toNat) ≤ m * 2 ^ (i - min i (-33)).toNat := by
      rw [Nat.pow_add]; exact Nat.mul_le_mul_right _ (Nat.log2_self_le h0)
    have hq : 2 ^ (33 + (-33 - min i (-33)).toNat) ≤ 2 ^ (m.log2 + (i - min i (-33)).toNat) := Nat.pow_le_pow_right (by omega) (by omega)
    have hlt : 8589935 * 2 ^ (-33 - min i (-33)).toNat < 2 ^ (33 + (-33 - min i (-33)).toNat) := by
      rw [Nat.pow_add]; exact Nat.mul_lt_mul_of_pos_right (by decide) (Nat.two_pow_pos _)
    generalize 2 ^ (m.log2 + (i - min i (-33)).toNat) = r at *
    generalize m * 2 ^ (i - min i (-33)).toNat = p at *
    generalize 8589935 * 2 ^ (-33 - min i (-33)).toNat = q at *
    generalize 2 ^ (33 + (-33 - min i (-33)).toNat) = t at *
    omega

/-! ### What is never near 1: not-a-numbers and infinities -/
def Bad (a : Option Nat) : Prop := a = none ∨ ∃ b s, a = some b ∧ (FloatKind.f32).decode b = .infinity s

theorem bad_add {a : Option Nat} (h : Bad a) (b : Option Nat) : Bad (vop .add .f32 a b) := by
  rcases h with rfl | ⟨x, s, rfl, hx⟩
  · exact .inl rfl
  · cases b with
    | none => exact .inl rfl
    | some y =>
      show Bad ((((FloatKind.f32).decode x).sum ((FloatKind.f32).decode y)).map (FloatKind.f32).format.write)
      rw [hx]
      cases (FloatKind.f32).decode y with
      | number t n j => exact .inr ⟨_, s, rfl, by cases s <;> decide +kernel⟩
      | infinity t =>
        cases s <;> cases t
        · exact .inr ⟨_, false, rfl, by decide +kernel⟩
        · exact .inl rfl
        · exact .inl rfl
        · exact .inr ⟨_, true, rfl, by decide +kernel⟩
      | nan => exact .inl rfl
theorem bad_add' {a : Option Nat} (h : Bad a) (b : Option Nat) : Bad (vop .add .f32 b a) := by
  have e : vop .add .f32 b a = vop .add .f32 a b := by
    cases a with
    | none => cases b <;> rfl
    | some x => cases b with
      | none => rfl
      | some y =>
        show ((((FloatKind.f32).decode y).sum ((FloatKind.f32).decode x)).map (FloatKind.f32).format.write) = ((((FloatKind.f32).decode x).sum ((FloatKind.f32).decode y)).map (FloatKind.f32).format.write)
        rw [sum_comm]
  rw [e]; exact bad_add h b

/-- 'near 1', as it is told of a sum. -/
def nearB (s : Option Nat) : Bool := ge32 (vop .sub .f32 s (some one32)) (some m001) && le32 (vop .sub .f32 s (some one32)) (some c001)

theorem bad_not_near {s : Option Nat} (h : Bad s) : nearB s = false := by
  rcases h with rfl | ⟨x, s, rfl, hx⟩
  · rfl
  · have e : vop .sub .f32 (some x) (some one32) = some ((FloatKind.f32).format.write (.infinity s)) := by
      show ((((FloatKind.f32).decode x).sum ((FloatKind.f32).decode one32).opposite).map (FloatKind.f32).format.write) = _
      rw [hx, dec_one32]; rfl
    unfold nearB
    rw [e]
    cases s <;> decide +kernel
theorem big_not_near {s : Option Nat} (h : VBig .f32 1 s) : nearB s = false := by
  unfold nearB
  rw [big_not_le (sub1_big h), Bool.and_false]

/-! ### Rows -/
/-- The class of the sum of the first k. -/
def vsum (zs : List Nat) : Nat → Option Nat
  | 0 => cls .f32 0
  | k + 1 => vop .add .f32 (vsum zs k) (cls .f32 (zs.getD k 0))
/-- Not less than 0. -/
def notNeg (z : Nat) : Bool := !((FloatKind.f32).format.order z 0 == some .lt)
/-- Finite, and at least 0. -/
def leastB (z : Nat) : Bool := finD ((FloatKind.f32).decode z) && ((FloatKind.f32).format.order z 0 == some .gt || (FloatKind.f32).format.order z 0 == some .eq)
def chB (zs : List Nat) (n : Nat) : Bool := decide (∀ k, k < n → notNeg (zs.getD k 0) = true) && nearB (vsum zs n)
def chS (zs : List Nat) (n : Nat) : Bool := decide (∀ k, k < n → leastB (zs.getD k 0) = true) && nearB (vsum zs n)

theorem order_0 (s : Bool) (m : Nat) (i : Int) : (Ieee.Datum.number s m i).order (.number false 0 (-149)) = some (compare (Ieee.signed s m (i - min i (-149)).toNat) 0) := by
  simp only [Ieee.Datum.order]
  rw [signed_zero]

theorem least_pos {z : Nat} (h : leastB z = true) : PosD ((FloatKind.f32).decode z) ∧ finD ((FloatKind.f32).decode z) = true := by
  unfold leastB at h
  rw [Bool.and_eq_true] at h
  refine ⟨?_, h.1⟩
  obtain ⟨h1, h2⟩ := h
  have h2 : (((FloatKind.f32).decode z).order ((FloatKind.f32).decode 0) == some .gt || ((FloatKind.f32).decode z).order ((FloatKind.f32).decode 0) == some .eq) = true := h2
  rw [dec_032] at h2
  cases hd : (FloatKind.f32).decode z with
  | nan => rw [hd] at h1; cases h1
  | infinity => rw [hd] at h1; cases h1
  | number s m i =>
    rw [hd, order_0, cmp_ge] at h2
    have h2 := of_decide_eq_true h2
    by_cases h0 : m = 0
    · exact .inr h0
    · left
      cases s with
      | false => rfl
      | true =>
        exfalso
        have : Ieee.signed true m (i - min i (-149)).toNat = -((m * 2 ^ (i - min i (-149)).toNat : Nat) : Int) := by
          have := signed_not false m (i - min i (-149)).toNat
          rw [signed_false'] at this; exact this
        have hp : 0 < m * 2 ^ (i - min i (-149)).toNat := Nat.mul_pos (by omega) (Nat.two_pow_pos _)
        omega

theorem least_notNeg {z : Nat} (h : leastB z = true) : notNeg z = true := by
  unfold leastB at h
  rw [Bool.and_eq_true] at h
  unfold notNeg
  obtain ⟨_, h2⟩ := h
  revert h2
  cases (FloatKind.f32).format.order z 0 with
  | none => intro h; cases h
  | some o => cases o <;> intro h <;> first | rfl | cases h

theorem notNeg_cases {z : Nat} (h : notNeg z = true) : leastB z = true ∨ Bad (cls .f32 z) := by
  have h' : (((FloatKind.f32).decode z).order ((FloatKind.f32).decode 0) == some .lt) = false := by
    unfold notNeg at h
    have : (!(((FloatKind.f32).decode z).order ((FloatKind.f32).decode 0) == some .lt)) = true := h
    simpa using this
  rw [dec_032] at h'
  cases hd : (FloatKind.f32).decode z with
  | nan s t => right; left; unfold cls; rw [hd]; rfl
  | infinity s => right; right; exact ⟨z, s, by unfold cls; rw [hd]; rfl, hd⟩
  | number s m i =>
    left
    unfold leastB
    have e : ((FloatKind.f32).format.order z 0 == some .gt || (FloatKind.f32).format.order z 0 == some .eq) = (((FloatKind.f32).decode z).order ((FloatKind.f32).decode 0) == some .gt || ((FloatKind.f32).decode z).order ((FloatKind.f32).decode 0) == some .eq) := rfl
    rw [e, dec_032, hd, order_0, cmp_ge]
    rw [hd, order_0] at h'
    have : finD (Ieee.Datum.number s m i) = true := rfl
    rw [this, Bool.true_and]
    refine decide_eq_true ?_
    rcases Int.lt_trichotomy (Ieee.signed s m (i - min i (-149)).toNat) 0 with hl | hl | hl
    · exfalso
      have : compare (Ieee.signed s m (i - min i (-149)).toNat) 0 = .lt := by
        show compareOfLessAndEq _ _ = _
        unfold compareOfLessAndEq
        rw [if_pos hl]
      rw [this] at h'; cases h'
    · omega
    · omega

theorem vsum_bad {zs : List Nat} {k : Nat} (hb : Bad (cls .f32 (zs.getD k 0))) : ∀ n, k < n → Bad (vsum zs n) := by
  intro n
  induction n with
  | zero => intro h; omega
  | succ n ih =>
    intro h
    by_cases e : k = n
    · subst e; exact bad_add' hb _
    · exact bad_add (ih (by omega)) _

/-- BOTH SAY THE SAME OF A LIST. -/
theorem ch_eq (zs : List Nat) (n : Nat) : chB zs n = chS zs n := by
  unfold chB chS
  by_cases hb : nearB (vsum zs n) = true
  · rw [hb, Bool.and_true, Bool.and_true]
    refine decide_eq_decide.2 ⟨fun h k hk => ?_, fun h k hk => least_notNeg (h k hk)⟩
    rcases notNeg_cases (h k hk) with h1 | h1
    · exact h1
    · rw [bad_not_near (vsum_bad h1 n hk)] at hb; cases hb
  · rw [Bool.not_eq_true] at hb
    rw [hb, Bool.and_false, Bool.and_false]

theorem cls_pos {z : Nat} (h : PosD ((FloatKind.f32).decode z)) : VPos .f32 (cls .f32 z) := by
  refine ⟨z, cls_of_not ?_, h⟩
  cases hd : (FloatKind.f32).decode z with
  | nan => rw [hd] at h; exact h.elim
  | number => rfl
  | infinity => rfl

theorem vsum_pos {zs : List Nat} : ∀ n, (∀ k, k < n → leastB (zs.getD k 0) = true) → VPos .f32 (vsum zs n) := by
  intro n
  induction n with
  | zero => intro _; exact ⟨0, cls_032, by rw [dec_032]; exact .inl rfl⟩
  | succ n ih => intro h; exact vadd_pos (ih fun k hk => h k (by omega)) (cls_pos (least_pos (h n (by omega))).1)

theorem vsum_big {zs : List Nat} {j : Nat} (hj : VBig .f32 1 (cls .f32 (zs.getD j 0))) : ∀ n, j < n → (∀ k, k < n → leastB (zs.getD k 0) = true) → VBig .f32 1 (vsum zs n) := by
  intro n
  induction n with
  | zero => intro h; omega
  | succ n ih =>
    intro h hl
    by_cases e : j = n
    · subst e; exact vadd_big' (vsum_pos _ fun k hk => hl k (by omega)) hj ⟨by decide, by decide⟩
    · exact vadd_big (ih (by omega) fun k hk => hl k (by omega)) (cls_pos (least_pos (hl n (by omega))).1) ⟨by decide, by decide⟩

/-- What a chance of a list of chances is: a number of at least 0, at most 2. -/
theorem ch_each {zs : List Nat} {n : Nat} (h : chS zs n = true) {k : Nat} (hk : k < n) : ∃ s m i, (FloatKind.f32).decode (zs.getD k 0) = .number s m i ∧ (s = false ∨ m = 0) ∧ VLe .f32 1 (cls .f32 (zs.getD k 0)) := by
  unfold chS at h
  rw [Bool.and_eq_true] at h
  have hl := of_decide_eq_true h.1
  obtain ⟨hp, hf⟩ := least_pos (hl k hk)
  cases hd : (FloatKind.f32).decode (zs.getD k 0) with
  | nan => rw [hd] at hf; cases hf
  | infinity => rw [hd] at hf; cases hf
  | number s m i =>
    rw [hd] at hp
    refine ⟨s, m, i, rfl, hp, ⟨zs.getD k 0, cls_of_not (by rw [hd]; rfl), ?_⟩⟩
    rw [hd]
    by_cases hb : m = 0 ∨ (m.log2 : Int) + i < 1
    · exact leN_of_log hb
    · exfalso
      have h0 : m ≠ 0 := fun e => hb (.inl e)
      have hs : s = false := Or.resolve_right hp h0
      have := vsum_big (j := k) ⟨zs.getD k 0, cls_of_not (by rw [hd]; rfl), by rw [hd]; exact ⟨hs, h0, by omega⟩⟩ n hk hl
      rw [big_not_near this] at h
      cases h.2
end Go.Proofs.YthkabonnclfhmaaDoor.Flo
