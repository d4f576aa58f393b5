
/- RootFar: values, walks, contracts. -/
import Derived.Test.YthkabonnclfhmaaDoorRtv
import Derived.Test.YthkabonnclfhmaaDoorCrt
namespace Go.Proofs.YthkabonnclfhmaaDoor
open Go.Proofs.YthkabonnclfhmaaDoor.Flo Go.RowKit

theorem narrow_pos {b r : Nat} (h : vnarrow (some b) = some r) (hp : PosD ((FloatKind.f64).decode b)) : PosD ((FloatKind.f32).decode r) := by
  unfold vnarrow floatToFloatBits at h
  simp only [Option.bind_some] at h
  rw [if_neg (by decide)] at h
  cases hd : (FloatKind.f64).decode b with
  | nan => rw [hd] at hp; exact hp.elim
  | infinity s =>
    rw [hd] at h hp
    cases h
    exact write_pos .f32 (r := .infinity s) hp
  | number s m i =>
    rw [hd] at h hp
    dsimp only at h
    split at h
    · cases h
    · cases h; exact write_pos .f32 (r := .number s m i) hp
theorem rootV_pos {x m : Nat} {i : Int} (h : (FloatKind.f32).decode x = .number false m i) (h0 : m ≠ 0) : VPos .f32 (rootV (some x)) := by
  have hc : cls .f32 x = some x := cls_of_not (by rw [h]; rfl)
  obtain ⟨y, hy, hdy⟩ := wide_num h h0
  have hok := vsqrt_wide_okn x
  rw [hc] at hy hok
  have hm : m <<< (52 - m.log2) ≠ 0 := by rw [Nat.shiftLeft_eq]; exact Nat.mul_ne_zero h0 (by have := Nat.two_pow_pos (52 - m.log2); omega)
  unfold rootV
  rw [hy] at hok ⊢
  have hs : ∃ M I, vsqrt (some y) = some ((FloatKind.f64).format.write (.number false M I)) := by
    show ∃ M I, (((FloatKind.f64).decode y).root ((FloatKind.f64).format.fractionBits + 2)).map (FloatKind.f64).format.write = _
    rw [hdy]
    unfold Ieee.Datum.root
    dsimp only
    rw [if_neg hm]
    exact ⟨_, _, rfl⟩
  obtain ⟨M, I, hs⟩ := hs
  rw [hs] at hok ⊢
  rcases hok with hok | ⟨r, hr⟩
  · cases hok
  · exact ⟨r, hr, narrow_pos hr (write_pos .f64 (r := .number false M I) (.inl rfl))⟩

/-- A term of RootFar. -/
def rtT (za zb : List Nat) (k : Nat) : Option Nat := rootV (vop .mul .f32 (cls .f32 (za.getD k 0)) (cls .f32 (zb.getD k 0)))
/-- The sum of all terms, those of chances of 0 too. -/
def vall (T : Nat → Option Nat) : Nat → Option Nat
  | 0 => cls .f32 0
  | k + 1 => vop .add .f32 (vall T k) (T k)
theorem prod_num {x y : Nat} {s t : Bool} {m n : Nat} {i j : Int} (hx : (FloatKind.f32).decode x = .number s m i) (hy : (FloatKind.f32).decode y = .number t n j) (hs : s = false ∨ m = 0) (ht : t = false ∨ n = 0)
    (lx : VLe .f32 1 (cls .f32 x)) (ly : VLe .f32 1 (cls .f32 y)) : ∃ p u q l, vop .mul .f32 (cls .f32 x) (cls .f32 y) = some p ∧ (FloatKind.f32).decode p = .number u q l ∧ (u = false ∨ q = 0) ∧ (m = 0 → q = 0) := by
  obtain ⟨p, hp, hle⟩ := vmul_le lx ly ⟨by decide, by decide⟩
  have hcx : cls .f32 x = some x := cls_of_not (by rw [hx]; rfl)
  have hcy : cls .f32 y = some y := cls_of_not (by rw [hy]; rfl)
  have e : vop .mul .f32 (some x) (some y) = some ((FloatKind.f32).format.write (.number (s ^^ t) (m * n) (i + j))) := by
    show ((((FloatKind.f32).decode x).product ((FloatKind.f32).decode y)).map (FloatKind.f32).format.write) = _
    rw [hx, hy]; rfl
  rw [hcx, hcy] at hp
  rw [hcx, hcy]
  have hpe : p = (FloatKind.f32).format.write (.number (s ^^ t) (m * n) (i + j)) := by rw [e] at hp; injection hp with hp; exact hp.symm
  cases hd : (FloatKind.f32).decode p with
  | nan => rw [hd] at hle; exact hle.elim
  | infinity => rw [hd] at hle; exact hle.elim
  | number u q l =>
    refine ⟨p, u, q, l, hp, hd, ?_, ?_⟩
    · have := write_pos .f32 (r := .number (s ^^ t) (m * n) (i + j)) (by
        show (s ^^ t) = false ∨ m * n = 0
        rcases hs with rfl | rfl
        · rcases ht with rfl | rfl
          · exact .inl rfl
          · exact .inr (Nat.mul_zero _)
        · exact .inr (Nat.zero_mul _))
      rw [← hpe, hd] at this
      exact this
    · intro hm
      rw [hpe, hm, Nat.zero_mul] at hd
      have h0 : (FloatKind.f32).format.write (.number (s ^^ t) 0 (i + j)) = (FloatKind.f32).format.word (s ^^ t) 0 := rfl
      rw [h0] at hd
      generalize (s ^^ t) = g at hd
      cases g with
      | false =>
        rw [show (FloatKind.f32).format.word false 0 = 0 from rfl, dec_032] at hd
        injection hd with _ h2 _; exact h2.symm
      | true =>
        rw [show (FloatKind.f32).decode ((FloatKind.f32).format.word true 0) = .number true 0 (-149) by decide +kernel] at hd
        injection hd with _ h2 _; exact h2.symm
theorem rt_term {za zb : List Nat} {n k : Nat} (hca : chS za n = true) (hcb : chS zb n = true) (hk : k < n) :
    VPos .f32 (rtT za zb k) ∧ (zeroB (za.getD k 0) = true → ∃ z, rtT za zb k = some z ∧ ∃ t j, (FloatKind.f32).decode z = .number t 0 j) := by
  obtain ⟨s, m, i, hd, hs, hl⟩ := ch_each hca hk
  obtain ⟨t, n2, j, hd2, ht, hl2⟩ := ch_each hcb hk
  obtain ⟨p, u, q, l, hp, hdp, hu, hq⟩ := prod_num hd hd2 hs ht hl hl2
  unfold rtT
  rw [hp]
  constructor
  · by_cases h0 : q = 0
    · subst h0
      obtain ⟨z, hz, t2, j2, hdz⟩ := rootV_zero hdp
      exact ⟨z, hz, by rw [hdz]; exact .inr rfl⟩
    · have hu := hu.resolve_right h0
      subst hu
      exact rootV_pos hdp h0
  · intro hz
    rcases num_order _ hd hs with ⟨hm, _⟩ | ⟨_, _, ho⟩
    · rw [hq hm] at hdp
      exact rootV_zero hdp
    · unfold zeroB at hz; rw [ho] at hz; cases hz
theorem vall_pos {za zb : List Nat} {n : Nat} (hca : chS za n = true) (hcb : chS zb n = true) : ∀ k, k ≤ n → Wpos (vall (rtT za zb) k) ∧ vterms za (rtT za zb) k = vall (rtT za zb) k := by
  intro k
  induction k with
  | zero => intro _; exact ⟨wpos_zero, rfl⟩
  | succ k ih =>
    intro hk
    obtain ⟨h1, h2⟩ := ih (by omega)
    obtain ⟨hp, hz⟩ := rt_term hca hcb (show k < n by omega)
    refine ⟨wpos_add h1 hp, ?_⟩
    show (if _ then _ else _) = _
    by_cases hb : zeroB (za.getD k 0) = true
    · rw [if_pos hb, h2]
      obtain ⟨z, hz, t, j, hdz⟩ := hz hb
      show _ = vop .add .f32 _ _
      rw [hz, wpos_add_zero h1 hdz]
    · rw [if_neg hb, h2]; rfl
/-- What is no less than the least place is rounded to no zero. -/
theorem nearest_ne0 (f : Ieee.Format) (mag : Nat) (place : Int) (hm : mag ≠ 0) (hp : f.leastPlace ≤ place) (hi : 0 < f.infRung) : f.nearest false mag place ≠ 0 := by
  have hpos : 0 < f.binade := Nat.two_pow_pos _
  unfold Ieee.Format.nearest
  rw [if_neg hm]
  dsimp only
  generalize hlast : max (place + (mag.log2 : Int) - f.fractionBits) f.leastPlace = last
  show min ((last - f.leastPlace).toNat * f.binade + Ieee.Toward.even.cut false (mag <<< (place - last).toNat) (last - place).toNat) f.infRung ≠ 0
  by_cases hl : last = f.leastPlace
  · have e : (last - place).toNat = 0 := by omega
    have h1 : 1 ≤ Ieee.Toward.even.cut false (mag <<< (place - last).toNat) (last - place).toNat := by
      rw [e]
      refine cut_even_ge false _ 0 1 ?_
      rw [Nat.shiftLeft_eq]
      have := Nat.mul_pos (show 0 < mag by omega) (Nat.two_pow_pos (place - last).toNat)
      show 1 ≤ mag * 2 ^ (place - last).toNat
      exact this
    omega
  · have h2 : 1 ≤ (last - f.leastPlace).toNat := by omega
    have h3 : 1 * f.binade ≤ (last - f.leastPlace).toNat * f.binade := Nat.mul_le_mul_right _ h2
    omega
theorem order_word (s : Bool) (q : Nat) (hq : q ≤ (FloatKind.f32).format.infRung) (h0 : q ≠ 0) : (FloatKind.f32).format.order ((FloatKind.f32).format.word s q) 0 = if s then some .lt else some .gt := by
  have hbi := binade_le .f32
  have e : (FloatKind.f32).format.order ((FloatKind.f32).format.word s q) 0 = ((FloatKind.f32).format.read ((FloatKind.f32).format.word s q)).order (.number false 0 (-149)) := by rw [← dec_032]; rfl
  rw [e, read_word _ s q (Nat.lt_of_le_of_lt hq (FloatKind.f32).format.infRung_lt)]
  have key : ∀ (m : Nat) (i : Int), m ≠ 0 → (Ieee.Datum.number s m i).order (.number false 0 (-149)) = if s then some .lt else some .gt := by
    intro m i hm
    rw [order_0]
    have hp : 0 < m * 2 ^ (i - min i (-149)).toNat := Nat.mul_pos (by omega) (Nat.two_pow_pos _)
    cases s with
    | false =>
      rw [signed_false']
      generalize m * 2 ^ (i - min i (-149)).toNat = p at hp
      show some (compareOfLessAndEq _ _) = _
      unfold compareOfLessAndEq
      rw [if_neg (by omega), if_neg (by omega)]; rfl
    | true =>
      have e2 : Ieee.signed true m (i - min i (-149)).toNat = - Ieee.signed false m (i - min i (-149)).toNat := signed_not false _ _
      rw [e2, signed_false']
      generalize m * 2 ^ (i - min i (-149)).toNat = p at hp
      show some (compareOfLessAndEq _ _) = _
      unfold compareOfLessAndEq
      rw [if_pos (by omega)]; rfl
  split
  · exact key _ _ h0
  · split
    · exact key _ _ (by have : 0 < (FloatKind.f32).format.binade := Nat.two_pow_pos _; omega)
    · rw [if_pos (by omega)]; cases s <;> rfl
/-- What is left of 1: its sign, and a zero has none. -/
theorem rest_one {a : Option Nat} (h : Wpos a) : ∃ b, vop .sub .f32 (some one32) a = some b ∧ ((FloatKind.f32).format.order b 0 = some .lt ∨ (FloatKind.f32).format.order b 0 = some .gt ∨ b = 0) := by
  obtain ⟨r, hr, rfl⟩ := h
  have hx := read_pos hr
  show ∃ b, ((((FloatKind.f32).decode one32).sum ((FloatKind.f32).decode r).opposite).map (FloatKind.f32).format.write) = some b ∧ _
  rw [dec_one32]
  have hord : ∀ b, (FloatKind.f32).format.order b 0 = ((FloatKind.f32).decode b).order (.number false 0 (-149)) := fun b => by rw [← dec_032]; rfl
  cases hd : (FloatKind.f32).decode r with
  | nan => rw [hd] at hx; exact hx.elim
  | infinity s =>
    rw [hd] at hx
    have hs : s = false := hx
    subst hs
    exact ⟨_, rfl, .inl (by decide +kernel)⟩
  | number s m i =>
    rw [hd] at hx
    refine ⟨_, rfl, ?_⟩
    generalize hg : (Ieee.signed false (2 ^ 23) (-23 - min (-23) i).toNat + Ieee.signed (!s) m (i - min (-23) i).toNat) = g
    show (FloatKind.f32).format.order ((FloatKind.f32).format.write (.number (if g = 0 then false && !s else decide (g < 0)) g.natAbs (min (-23) i))) 0 = some .lt ∨ _
    by_cases h0 : g = 0
    · right; right
      show (FloatKind.f32).format.write (.number (if g = 0 then false && !s else decide (g < 0)) g.natAbs (min (-23) i)) = 0
      rw [if_pos h0, h0]; rfl
    · rw [if_neg h0]
      obtain ⟨q, hq, hq0, hw⟩ := nearest_rung (FloatKind.f32).format g.natAbs (min (-23) i)
      have hwr : (FloatKind.f32).format.write (.number (decide (g < 0)) g.natAbs (min (-23) i)) = (FloatKind.f32).format.word (decide (g < 0)) q := hw _
      have hi : -149 ≤ i := (num32 hd).2.1
      have hq1 : q ≠ 0 := by
        intro e
        have h1 := hw false
        rw [e] at h1
        exact nearest_ne0 (FloatKind.f32).format g.natAbs (min (-23) i) (by omega) (by show (-149 : Int) ≤ _; omega) (by decide) h1
      rw [hwr, order_word _ q hq hq1]
      by_cases hneg : g < 0
      · left; rw [decide_eq_true hneg]; rfl
      · right; left; rw [decide_eq_false hneg]; rfl
end Go.Proofs.YthkabonnclfhmaaDoor
