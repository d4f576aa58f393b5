
/- Roots of products: what adding a zero leaves; plain facts. -/
import Derived.Test.YthkabonnclfhmaaDoorRwv
import Derived.Test.YthkabonnclfhmaaDoorFln
namespace Go.Proofs.YthkabonnclfhmaaDoor.Flo
open Go

/-- A NUMBER OF THE FORMAT IS ROUNDED TO ITSELF, however it is written. -/
theorem nearest_exact (f : Ieee.Format) (s : Bool) (rung : Nat) (hr : rung < f.infRung) (h0 : rung ≠ 0) (u : Nat) :
    match f.read (f.word s rung) with
    | .number _ m i => ∀ t, f.nearest t (m <<< u) (i - u) = f.word t rung
    | _ => False := by
  have hpos : 0 < f.binade := Nat.two_pow_pos _
  have hbi : f.binade = 2 ^ f.fractionBits := rfl
  rw [read_word f s rung (Nat.lt_trans hr f.infRung_lt)]
  by_cases h1 : rung < f.binade
  · rw [if_pos h1]
    intro t
    have hm : rung <<< u ≠ 0 := by rw [Nat.shiftLeft_eq]; exact Nat.mul_ne_zero h0 (by have := Nat.two_pow_pos u; omega)
    have hl : rung.log2 < f.fractionBits := (Nat.log2_lt h0).2 (by rw [← hbi]; exact h1)
    have hlog : (rung <<< u).log2 = rung.log2 + u := by
      have := Go.Proofs.YthkabonnclfhmaaDoor.log2_shl_eq rung u h0; exact this
    unfold Ieee.Format.nearest
    rw [if_neg hm]
    dsimp only
    rw [hlog]
    have e : max (f.leastPlace - u + ((rung.log2 + u : Nat) : Int) - f.fractionBits) f.leastPlace = f.leastPlace := by omega
    rw [e]
    have e1 : (f.leastPlace - (u : Int) - f.leastPlace).toNat = 0 := by omega
    have e2 : (f.leastPlace - (f.leastPlace - (u : Int))).toNat = u := by omega
    rw [e1, e2, Nat.shiftLeft_zero]
    have hk : Ieee.Toward.even.cut t (rung <<< u) u = rung := by
      have a1 := cut_even_le t (rung <<< u) u rung (by rw [Nat.shiftLeft_eq]; exact Nat.le_refl _)
      have a2 := cut_even_ge t (rung <<< u) u rung (by rw [Nat.shiftLeft_eq]; exact Nat.le_refl _)
      omega
    rw [hk]
    have e3 : (f.leastPlace - f.leastPlace).toNat = 0 := by omega
    rw [e3, Nat.zero_mul, Nat.zero_add, Nat.min_eq_left (Nat.le_of_lt hr)]
  · rw [if_neg h1, if_pos hr]
    intro t
    have hb : rung % f.binade < f.binade := Nat.mod_lt _ hpos
    have hm0 : f.binade + rung % f.binade ≠ 0 := by omega
    generalize hM : f.binade + rung % f.binade = M at hm0
    have hm : M <<< u ≠ 0 := by rw [Nat.shiftLeft_eq]; exact Nat.mul_ne_zero hm0 (by have := Nat.two_pow_pos u; omega)
    have hl : M.log2 = f.fractionBits := by
      have a1 : f.fractionBits ≤ M.log2 := (Nat.le_log2 hm0).2 (by rw [← hbi]; omega)
      have a2 : M.log2 < f.fractionBits + 1 := (Nat.log2_lt hm0).2 (by rw [Nat.pow_succ, ← hbi]; omega)
      omega
    have hlog : (M <<< u).log2 = M.log2 + u := Go.Proofs.YthkabonnclfhmaaDoor.log2_shl_eq M u hm0
    have hq : 1 ≤ rung / f.binade := (Nat.le_div_iff_mul_le hpos).2 (by omega)
    generalize hQ : rung / f.binade = q at hq
    have hdm := Nat.div_add_mod rung f.binade
    rw [hQ] at hdm
    unfold Ieee.Format.nearest
    rw [if_neg hm]
    dsimp only
    rw [hlog, hl]
    have e : max (f.leastPlace + ((q - 1 : Nat) : Int) - u + ((f.fractionBits + u : Nat) : Int) - f.fractionBits) f.leastPlace = f.leastPlace + ((q - 1 : Nat) : Int) := by omega
    rw [e]
    have e1 : (f.leastPlace + ((q - 1 : Nat) : Int) - (u : Int) - (f.leastPlace + ((q - 1 : Nat) : Int))).toNat = 0 := by omega
    have e2 : (f.leastPlace + ((q - 1 : Nat) : Int) - (f.leastPlace + ((q - 1 : Nat) : Int) - (u : Int))).toNat = u := by omega
    rw [e1, e2, Nat.shiftLeft_zero]
    have hk : Ieee.Toward.even.cut t (M <<< u) u = M := by
      have a1 := cut_even_le t (M <<< u) u M (by rw [Nat.shiftLeft_eq]; exact Nat.le_refl _)
      have a2 := cut_even_ge t (M <<< u) u M (by rw [Nat.shiftLeft_eq]; exact Nat.le_refl _)
      omega
    rw [hk]
    have e3 : (f.leastPlace + ((q - 1 : Nat) : Int) - f.leastPlace).toNat = q - 1 := by omega
    rw [e3]
    have e4 : (q - 1) * f.binade + M = rung := by
      have : f.binade * q = f.binade * (q - 1) + f.binade := by
        have : q = (q - 1) + 1 := by omega
        rw [this, Nat.mul_add, Nat.mul_one]; simp
      rw [Nat.mul_comm]; omega
    rw [e4, Nat.min_eq_left (Nat.le_of_lt hr)]

/-- A sum that is no negative number: a word of a rung up to infinity's. -/
def Wpos (a : Option Nat) : Prop := ∃ r, r ≤ (FloatKind.f32).format.infRung ∧ a = some r
theorem wpos_zero : Wpos (cls .f32 0) := ⟨0, by decide, cls_032⟩

theorem word_false (r : Nat) : (FloatKind.f32).format.word false r = r := rfl
theorem read_pos {r : Nat} (h : r ≤ (FloatKind.f32).format.infRung) : PosD ((FloatKind.f32).decode r) := by
  have h2 := binade_le .f32
  unfold FloatKind.decode
  rw [← word_false r, read_word _ false r (Nat.lt_of_le_of_lt h (FloatKind.f32).format.infRung_lt)]
  split
  · exact .inl rfl
  · split
    · exact .inl rfl
    · rw [if_pos (by omega)]; rfl

/-- Adding a zero changes no such sum. -/
theorem wpos_add_zero {a : Option Nat} (h : Wpos a) {z : Nat} {s : Bool} {i : Int} (hz : (FloatKind.f32).decode z = .number s 0 i) : vop .add .f32 a (some z) = a := by
  obtain ⟨r, hr, rfl⟩ := h
  show ((((FloatKind.f32).decode r).sum ((FloatKind.f32).decode z)).map (FloatKind.f32).format.write) = some r
  rw [hz]
  by_cases h1 : r = (FloatKind.f32).format.infRung
  · have e : (FloatKind.f32).decode r = .infinity false := by rw [h1]; decide +kernel
    rw [e]
    show some ((FloatKind.f32).format.write (.infinity false)) = some r
    rw [h1]; rfl
  · by_cases h0 : r = 0
    · rw [h0, dec_032]
      show some ((FloatKind.f32).format.write (.number _ _ _)) = _
      rw [signed_zero, signed_zero]
      rfl
    · have hx := fun u => nearest_exact (FloatKind.f32).format false r (by omega) h0 u
      rw [word_false] at hx
      unfold FloatKind.decode
      have hp := read_pos hr
      unfold FloatKind.decode at hp
      cases hd : (FloatKind.f32).format.read r with
      | nan => have := hx 0; rw [hd] at this; exact this.elim
      | infinity => have := hx 0; rw [hd] at this; exact this.elim
      | number t m j =>
        have hm : m ≠ 0 := by
          intro e
          have := hx 0
          rw [hd] at this
          have := this false
          rw [e] at this
          have h3 : (FloatKind.f32).format.nearest false (0 <<< 0) (j - (0 : Nat)) = 0 := rfl
          rw [h3] at this
          exact h0 this.symm
        rw [hd] at hp
        have ht : t = false := Or.resolve_right hp hm
        subst ht
        show some ((FloatKind.f32).format.write (.number _ _ _)) = some r
        rw [signed_zero, Int.add_zero, signed_false']
        have hpos : 0 < m * 2 ^ (j - min j i).toNat := Nat.mul_pos (by omega) (Nat.two_pow_pos _)
        have e1 : (((m * 2 ^ (j - min j i).toNat : Nat) : Int)).natAbs = m <<< (j - min j i).toNat := by rw [Int.natAbs_natCast, Nat.shiftLeft_eq]
        rw [e1]
        have e2 : (if ((m * 2 ^ (j - min j i).toNat : Nat) : Int) = 0 then false && s else decide (((m * 2 ^ (j - min j i).toNat : Nat) : Int) < 0)) = false := by
          rw [if_neg (by omega)]; exact decide_eq_false (by omega)
        rw [e2]
        have := hx (j - min j i).toNat
        rw [hd] at this
        have := this false
        have e3 : j - ((j - min j i).toNat : Int) = min j i := by omega
        rw [e3, word_false] at this
        exact congrArg some this

/-- .. and adding what is no negative number keeps it one. -/
theorem wpos_add {a b : Option Nat} (ha : Wpos a) (hb : VPos .f32 b) : Wpos (vop .add .f32 a b) := by
  obtain ⟨r, hr, rfl⟩ := ha
  obtain ⟨y, rfl, hy⟩ := hb
  have hx := read_pos hr
  show Wpos ((((FloatKind.f32).decode r).sum ((FloatKind.f32).decode y)).map (FloatKind.f32).format.write)
  have hnf : ∀ d, (FloatKind.f32).decode r = d → match d with | .number s m _ => s = false | _ => True := by
    intro d hd
    unfold FloatKind.decode at hd
    rw [← word_false r, read_word _ false r (Nat.lt_of_le_of_lt hr (FloatKind.f32).format.infRung_lt)] at hd
    split at hd
    · subst hd; rfl
    · split at hd
      · subst hd; rfl
      · split at hd
        · subst hd; trivial
        · subst hd; trivial
  cases hd : (FloatKind.f32).decode r with
  | nan => rw [hd] at hx; exact hx.elim
  | infinity s =>
    rw [hd] at hx
    have hs : s = false := hx
    subst hs
    cases hy2 : (FloatKind.f32).decode y with
    | nan => rw [hy2] at hy; exact hy.elim
    | infinity t =>
      rw [hy2] at hy
      have ht : t = false := hy
      subst ht
      exact ⟨(FloatKind.f32).format.infRung, Nat.le_refl _, rfl⟩
    | number => exact ⟨(FloatKind.f32).format.infRung, Nat.le_refl _, rfl⟩
  | number s m i =>
    have hs : s = false := hnf _ hd
    subst hs
    cases hy2 : (FloatKind.f32).decode y with
    | nan => rw [hy2] at hy; exact hy.elim
    | infinity t =>
      rw [hy2] at hy
      have ht : t = false := hy
      subst ht
      exact ⟨(FloatKind.f32).format.infRung, Nat.le_refl _, rfl⟩
    | number t n j =>
      rw [hy2] at hy
      show Wpos (some ((FloatKind.f32).format.write (.number _ _ _)))
      rw [signed_false', posD_signed hy]
      have e : (if ((m * 2 ^ (i - min i j).toNat : Nat) : Int) + ((n * 2 ^ (j - min i j).toNat : Nat) : Int) = 0 then false && t else decide (((m * 2 ^ (i - min i j).toNat : Nat) : Int) + ((n * 2 ^ (j - min i j).toNat : Nat) : Int) < 0)) = false := by
        split
        · rfl
        · exact decide_eq_false (by omega)
      rw [e]
      obtain ⟨q, hq, _, hw⟩ := nearest_rung (FloatKind.f32).format (((m * 2 ^ (i - min i j).toNat : Nat) : Int) + ((n * 2 ^ (j - min i j).toNat : Nat) : Int)).natAbs (min i j)
      exact ⟨q, hq, congrArg some (hw false)⟩

/-! ### Roots -/
/-- The root of a 32-bit number, narrowed. -/
def rootV (a : Option Nat) : Option Nat := vnarrow (vsqrt (vwide a))

theorem rootV_zero {x : Nat} {s : Bool} {i : Int} (h : (FloatKind.f32).decode x = .number s 0 i) : ∃ z, rootV (some x) = some z ∧ ∃ t j, (FloatKind.f32).decode z = .number t 0 j := by
  have hc : cls .f32 x = some x := cls_of_not (by rw [h]; rfl)
  have hw := Go.Proofs.YthkabonnclfhmaaDoor.wide_zero h
  rw [hc] at hw
  unfold rootV
  rw [hw]
  cases s
  · exact ⟨0, by decide +kernel, false, -149, by decide +kernel⟩
  · exact ⟨2147483648, by decide +kernel, true, -149, by decide +kernel⟩
end Go.Proofs.YthkabonnclfhmaaDoor.Flo
