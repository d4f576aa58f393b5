
/- How far two chances are apart; plain facts. -/
import Derived.Test.YthkabonnclfhmaaDoorRtw
namespace Go.Proofs.YthkabonnclfhmaaDoor
open Go.Proofs.YthkabonnclfhmaaDoor.Flo Go.RowKit

/-- The absolute difference of two chances. -/
def farN (x y : Nat) : Nat := ((vop .sub .f32 (cls .f32 x) (cls .f32 y)).getD 0) % 2 ^ 31
theorem word_mod (s : Bool) (r : Nat) (h : r ≤ (FloatKind.f32).format.infRung) : (FloatKind.f32).format.word s r % 2 ^ 31 = r := by
  have hi : (FloatKind.f32).format.infRung = 2139095040 := rfl
  have hw : (FloatKind.f32).format.word s r = if s then 2 ^ 31 + r else r := rfl
  rw [hw]
  cases s
  · simp; omega
  · simp; omega
theorem far_words {x y : Nat} {s t : Bool} {m n : Nat} {i j : Int} (hx : (FloatKind.f32).decode x = .number s m i) (hy : (FloatKind.f32).decode y = .number t n j) (lx : VLe .f32 1 (cls .f32 x)) (ly : VLe .f32 1 (cls .f32 y)) :
    ∃ r sp sq, r < (FloatKind.f32).format.infRung ∧ floatBits .sub .f32 x y = some ((FloatKind.f32).format.word sp r) ∧ floatBits .sub .f32 y x = some ((FloatKind.f32).format.word sq r) ∧ (r ≠ 0 → sq = !sp) ∧ (r = 0 → ¬ (sp = true ∧ sq = true)) ∧ farN x y = r := by
  have hcx : cls .f32 x = some x := cls_of_not (by rw [hx]; rfl)
  have hcy : cls .f32 y = some y := cls_of_not (by rw [hy]; rfl)
  have hle := vsub_le lx ly (show Norm .f32 (max 1 1 + 1) from ⟨by decide, by decide⟩)
  have hmin : min j i = min i j := Int.min_comm ..
  have e1 : floatBits .sub .f32 x y = some ((FloatKind.f32).format.write (.number (if Ieee.signed s m (i - min i j).toNat + Ieee.signed (!t) n (j - min i j).toNat = 0 then s && !t else decide (Ieee.signed s m (i - min i j).toNat + Ieee.signed (!t) n (j - min i j).toNat < 0)) (Ieee.signed s m (i - min i j).toNat + Ieee.signed (!t) n (j - min i j).toNat).natAbs (min i j))) := by
    show ((((FloatKind.f32).decode x).sum ((FloatKind.f32).decode y).opposite).map (FloatKind.f32).format.write) = _
    rw [hx, hy]; rfl
  have e2 : floatBits .sub .f32 y x = some ((FloatKind.f32).format.write (.number (if Ieee.signed t n (j - min i j).toNat + Ieee.signed (!s) m (i - min i j).toNat = 0 then t && !s else decide (Ieee.signed t n (j - min i j).toNat + Ieee.signed (!s) m (i - min i j).toNat < 0)) (Ieee.signed t n (j - min i j).toNat + Ieee.signed (!s) m (i - min i j).toNat).natAbs (min i j))) := by
    show ((((FloatKind.f32).decode y).sum ((FloatKind.f32).decode x).opposite).map (FloatKind.f32).format.write) = _
    rw [hx, hy]
    show some ((FloatKind.f32).format.write (.number _ _ _)) = _
    rw [hmin]
  have eg : Ieee.signed t n (j - min i j).toNat + Ieee.signed (!s) m (i - min i j).toNat = -(Ieee.signed s m (i - min i j).toNat + Ieee.signed (!t) n (j - min i j).toNat) := by
    rw [signed_not, signed_not]; omega
  rw [eg, Int.natAbs_neg] at e2
  have hpl : -149 ≤ min i j := by have := (num32 hx).2.1; have := (num32 hy).2.1; omega
  rw [hcx, hcy] at hle
  have hv : vop .sub .f32 (some x) (some y) = floatBits .sub .f32 x y := rfl
  have hfar : farN x y = ((floatBits .sub .f32 x y).getD 0) % 2 ^ 31 := by unfold farN; rw [hcx, hcy, hv]
  rw [hv] at hle
  generalize Ieee.signed s m (i - min i j).toNat + Ieee.signed (!t) n (j - min i j).toNat = g at e1 e2
  obtain ⟨r, hr, hr0, hw⟩ := nearest_rung (FloatKind.f32).format g.natAbs (min i j)
  have hwr : ∀ u, (FloatKind.f32).format.write (.number u g.natAbs (min i j)) = (FloatKind.f32).format.word u r := fun u => hw u
  rw [hwr] at e1 e2
  rw [e1] at hle hfar
  have hlt : r < (FloatKind.f32).format.infRung := by
    rcases Nat.lt_or_eq_of_le hr with h | h
    · exact h
    · exfalso
      obtain ⟨b, hb, hbl⟩ := hle
      injection hb with hb
      subst hb
      rw [h] at hbl
      have := read_inf .f32 (if g = 0 then s && !t else decide (g < 0))
      unfold FloatKind.decode at hbl
      rw [this] at hbl
      exact hbl
  refine ⟨r, _, _, hlt, e1, e2, ?_, ?_, ?_⟩
  · intro h0
    have hg : g ≠ 0 := fun e => h0 (hr0 (by rw [e]; rfl))
    rw [if_neg hg, if_neg (by omega)]
    by_cases hn : g < 0
    · rw [decide_eq_true hn, decide_eq_false (by omega)]; rfl
    · rw [decide_eq_false hn, decide_eq_true (by omega)]; rfl
  · intro h0
    have hg : g = 0 := by
      rcases Int.lt_trichotomy g 0 with h | h | h
      · exfalso
        have h1 := hw false
        rw [h0] at h1
        exact nearest_ne0 (FloatKind.f32).format g.natAbs (min i j) (by omega) (by show (-149 : Int) ≤ _; omega) (by decide) h1
      · exact h
      · exfalso
        have h1 := hw false
        rw [h0] at h1
        exact nearest_ne0 (FloatKind.f32).format g.natAbs (min i j) (by omega) (by show (-149 : Int) ≤ _; omega) (by decide) h1
    rw [if_pos hg, if_pos (by omega)]
    cases s <;> cases t <;> simp
  · rw [hfar]
    exact word_mod _ _ (Nat.le_of_lt hlt)

theorem word_not (s : Bool) {r : Nat} (h : r < (FloatKind.f32).format.infRung) : ((FloatKind.f32).decode ((FloatKind.f32).format.word s r)).isNaN = false := read_word_le _ s r (Nat.le_of_lt h)
theorem word_neg (s : Bool) {r : Nat} (h : r < (FloatKind.f32).format.infRung) : ((FloatKind.f32).decode ((FloatKind.f32).format.word s r)).neg = s := by
  unfold FloatKind.decode
  rw [read_word _ s r (Nat.lt_trans h (FloatKind.f32).format.infRung_lt)]
  by_cases h1 : r < (FloatKind.f32).format.binade
  · rw [if_pos h1]; rfl
  · rw [if_neg h1, if_pos h]; rfl
/-- 'max(x - y, y - x)', as the program has it. -/
theorem far_max (P : Program) {r : Nat} {sp sq : Bool} (hr : r < (FloatKind.f32).format.infRung) (h1 : r ≠ 0 → sq = !sp) (h0 : r = 0 → ¬ (sp = true ∧ sq = true)) :
    ∀ ts t w, (Builtin.max_ ts t #[.float .f32 ((FloatKind.f32).format.word sp r), .float .f32 ((FloatKind.f32).format.word sq r)]).run P w = .ok (.float .f32 r) w := by
  intro ts t w
  have hneg := word_neg sp hr
  by_cases e : r = 0
  · subst e
    have ho : (FloatKind.f32).format.order ((FloatKind.f32).format.word sp 0) ((FloatKind.f32).format.word sq 0) = some .eq := by
      cases sp <;> cases sq <;> decide +kernel
    have := h0 rfl
    simp [Builtin.max_, Builtin.max2, ho, hneg]
    cases sp <;> cases sq <;> simp_all [Ieee.Format.word]
  · have hq := h1 e
    subst hq
    have ho : (FloatKind.f32).format.order ((FloatKind.f32).format.word sp r) ((FloatKind.f32).format.word (!sp) r) = if sp then some .lt else some .gt := by
      unfold Ieee.Format.order
      rw [read_word _ sp r (Nat.lt_trans hr (FloatKind.f32).format.infRung_lt), read_word _ (!sp) r (Nat.lt_trans hr (FloatKind.f32).format.infRung_lt)]
      have key : ∀ (m : Nat) (i : Int), m ≠ 0 → (Ieee.Datum.number sp m i).order (.number (!sp) m i) = if sp then some .lt else some .gt := by
        intro m i hm
        simp only [Ieee.Datum.order]
        rw [Int.min_self, signed_not]
        have hp : 0 < m * 2 ^ (i - i).toNat := Nat.mul_pos (by omega) (Nat.two_pow_pos _)
        cases sp with
        | false =>
          rw [signed_false']
          generalize m * 2 ^ (i - i).toNat = p at hp
          show some (compareOfLessAndEq _ _) = _
          unfold compareOfLessAndEq
          rw [if_neg (by omega), if_neg (by omega)]; rfl
        | true =>
          have e2 : Ieee.signed true m (i - i).toNat = - Ieee.signed false m (i - i).toNat := signed_not false _ _
          rw [e2, signed_false']
          generalize m * 2 ^ (i - i).toNat = p at hp
          show some (compareOfLessAndEq _ _) = _
          unfold compareOfLessAndEq
          rw [if_pos (by omega)]; rfl
      by_cases hb : r < (FloatKind.f32).format.binade
      · rw [if_pos hb, if_pos hb]; exact key _ _ e
      · rw [if_neg hb, if_pos hr, if_neg hb, if_pos hr]
        exact key _ _ (by have : 0 < (FloatKind.f32).format.binade := Nat.two_pow_pos _; omega)
    cases sp with
    | false =>
      have ho2 : (FloatKind.f32).format.order r ((FloatKind.f32).format.word true r) = some .gt := ho
      show (Builtin.max_ ts t #[.float .f32 r, .float .f32 ((FloatKind.f32).format.word true r)]).run P w = _
      simp [Builtin.max_, Builtin.max2, ho2]
    | true =>
      have ho2 : (FloatKind.f32).format.order ((FloatKind.f32).format.word true r) r = some .lt := ho
      show (Builtin.max_ ts t #[.float .f32 ((FloatKind.f32).format.word true r), .float .f32 r]).run P w = _
      simp [Builtin.max_, Builtin.max2, ho2]
/-- '0 - x' of a word: its opposite; and a zero is +0. -/
theorem neg_word {r : Nat} (hr : r < (FloatKind.f32).format.infRung) (s : Bool) (h : s = true ∨ r = 0) : vop .sub .f32 (some 0) (some ((FloatKind.f32).format.word s r)) = some r := by
  show ((((FloatKind.f32).decode 0).sum ((FloatKind.f32).decode ((FloatKind.f32).format.word s r)).opposite).map (FloatKind.f32).format.write) = some r
  by_cases h0 : r = 0
  · subst h0
    cases s <;> decide +kernel
  · have hs := h.resolve_right h0
    subst hs
    have hx := fun u => nearest_exact (FloatKind.f32).format true r hr h0 u
    rw [dec_032]
    unfold FloatKind.decode
    cases hd : (FloatKind.f32).format.read ((FloatKind.f32).format.word true r) with
    | nan => have := hx 0; rw [hd] at this; exact this.elim
    | infinity => have := hx 0; rw [hd] at this; exact this.elim
    | number u m j =>
      have hu : u = true := by
        have := word_neg true hr
        unfold FloatKind.decode at this
        rw [hd] at this; exact this
      subst hu
      have hm : m ≠ 0 := by
        intro e
        have := hx 0
        rw [hd] at this
        have := this false
        rw [e] at this
        have h3 : (FloatKind.f32).format.nearest false (0 <<< 0) (j - (0 : Nat)) = 0 := rfl
        rw [h3] at this
        exact h0 this.symm
      show some ((FloatKind.f32).format.write (.number _ _ _)) = some r
      have hp : 0 < m * 2 ^ (j - min (-149) j).toNat := Nat.mul_pos (by omega) (Nat.two_pow_pos _)
      have e0 : Ieee.signed (!true) m (j - min (-149) j).toNat = ((m * 2 ^ (j - min (-149) j).toNat : Nat) : Int) := signed_false' _ _
      rw [signed_zero, Int.zero_add, e0]
      have e1 : (((m * 2 ^ (j - min (-149) j).toNat : Nat) : Int)).natAbs = m <<< (j - min (-149) j).toNat := by rw [Int.natAbs_natCast, Nat.shiftLeft_eq]
      rw [e1, if_neg (by omega), decide_eq_false (by omega)]
      have := hx (j - min (-149) j).toNat
      rw [hd] at this
      have := this false
      have e3 : j - ((j - min (-149) j).toNat : Int) = min (-149) j := by omega
      rw [e3, word_false] at this
      exact congrArg some this
end Go.Proofs.YthkabonnclfhmaaDoor
