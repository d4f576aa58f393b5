
/- SmoothRow: plain facts, counts. -/
import Derived.Test.YtnljabgkaelplaaDoorGrv
import Derived.Test.YtnljabgkaelplaaDoorMgb
namespace Go.Proofs.YtnljabgkaelplaaDoor
open Go.Proofs.YtnljabgkaelplaaDoor.Flo Go.RowKit

/-- A quotient by an infinite number is zero, or no number. -/
def Nil (a : Option Nat) : Prop := a = none ∨ a = some 0 ∨ a = some 2147483648
theorem quo_inf (x : Nat) {y : Nat} {s : Bool} (hy : (FloatKind.f32).decode y = .infinity s) : Nil (vop .quo .f32 (cls .f32 x) (cls .f32 y)) := by
  rw [vop_cls]
  show Nil ((((FloatKind.f32).decode x).quotient ((FloatKind.f32).format.fractionBits + 2) ((FloatKind.f32).decode y)).map (FloatKind.f32).format.write)
  rw [hy]
  cases (FloatKind.f32).decode x with
  | nan => exact .inl rfl
  | infinity t => exact .inl rfl
  | number t m j =>
    show Nil (some ((FloatKind.f32).format.write (.number (t ^^ s) 0 0)))
    cases t <;> cases s
    · exact .inr (.inl (by decide +kernel))
    · exact .inr (.inr (by decide +kernel))
    · exact .inr (.inr (by decide +kernel))
    · exact .inr (.inl (by decide +kernel))
theorem nil_add {a b : Option Nat} (ha : Nil a) (hb : Nil b) : Nil (vop .add .f32 a b) := by
  rcases ha with rfl | rfl | rfl
  · exact .inl rfl
  · rcases hb with rfl | rfl | rfl
    · exact .inl rfl
    · exact .inr (.inl (by decide +kernel))
    · exact .inr (.inl (by decide +kernel))
  · rcases hb with rfl | rfl | rfl
    · exact .inl rfl
    · exact .inr (.inl (by decide +kernel))
    · exact .inr (.inr (by decide +kernel))
theorem nil_not_near {a : Option Nat} (h : Nil a) : nearB a = false := by
  rcases h with rfl | rfl | rfl
  · exact bad_not_near (.inl rfl)
  · decide +kernel
  · decide +kernel
theorem rowV_nil {V : Nat → Option Nat} {n : Nat} (h : ∀ k, k < n → Nil (V k)) : rowV V n = false := by
  have hz : ∀ k, k < n → cls .f32 ((repV V n).getD k 0) = V k := fun k hk => by
    rw [repV_get V hk]
    rcases h k hk with e | e | e <;> rw [e] <;> decide +kernel
  have hs : ∀ m, m ≤ n → Nil (Flo.vsum (repV V n) m) := by
    intro m
    induction m with
    | zero => intro _; exact .inr (.inl cls_032)
    | succ m ih =>
      intro hm
      show Nil (vop .add .f32 (Flo.vsum (repV V n) m) (cls .f32 ((repV V n).getD m 0)))
      rw [hz m (by omega)]
      exact nil_add (ih (by omega)) (h m (by omega))
  unfold rowV rowB chS
  rw [nil_not_near (hs n (Nat.le_refl _))]
  simp
/-- What is drawn for a quotient. -/
theorem vop_img (op : BinOp) (x y : Nat) : ∃ z, cls .f32 z = vop op .f32 (cls .f32 x) (cls .f32 y) := by
  rw [vop_cls]
  cases h : floatBits op .f32 x y with
  | none => exact ⟨nan32, cls_nan32q⟩
  | some b => exact ⟨b, cls_of_not (floatBits_notNaN h)⟩
/-- Where a whole is not above 0, quotients by it are no row. -/
theorem whole_row {y n : Nat} {V : Nat → Option Nat} (hp : PosD ((FloatKind.f32).decode y)) (hn : 0 < n) (hV : ∀ k, k < n → ∃ x, V k = vop .quo .f32 (cls .f32 x) (cls .f32 y)) (ha : aboveB y = false) : rowV V n = false := by
  cases hd : (FloatKind.f32).decode y with
  | nan => rw [hd] at hp; exact hp.elim
  | infinity s =>
    refine rowV_nil fun k hk => ?_
    obtain ⟨x, hx⟩ := hV k hk
    rw [hx]; exact quo_inf x hd
  | number s m i =>
    obtain ⟨s', i', h⟩ := not_above hp (by rw [hd]; rfl) ha
    obtain ⟨x, hx⟩ := hV 0 hn
    refine rowV_bad hn ?_ (by rw [hx]; exact quo_zero x h)
    rw [hx]; exact vop_img _ _ _
theorem product_pos {a b : Ieee.Datum} (ha : PosD a) (hb : PosD b) (fa : finD a = true) (fb : finD b = true) : ∃ r, a.product b = some r ∧ PosD r := by
  cases a with
  | nan => cases fa
  | infinity => cases fa
  | number s m i =>
    cases b with
    | nan => cases fb
    | infinity => cases fb
    | number t n j =>
      refine ⟨_, rfl, ?_⟩
      show (s ^^ t) = false ∨ m * n = 0
      rcases ha with rfl | rfl
      · rcases hb with rfl | rfl
        · exact .inl rfl
        · exact .inr (Nat.mul_zero _)
      · exact .inr (Nat.zero_mul _)
theorem int_pos {c : Int} (hc : 0 ≤ c) : PosD ((FloatKind.f32).decode (floatOfInt .f32 c)) := by
  refine write_pos .f32 (r := .number (decide (c < 0)) c.natAbs 0) (.inl (decide_eq_false (by omega)))
theorem int_fin {c : Int} (hc : 0 ≤ c) (h : c ≤ 1000000000) : finD ((FloatKind.f32).decode (floatOfInt .f32 c)) = true := by
  have := (nearest_le .f32 (decide (c < 0)) c.natAbs 0 62 (leN_of 0 (by decide) (by decide) (by show c.natAbs * 2 ^ 0 ≤ 2 ^ 62; omega)) ⟨by decide, by decide⟩).1
  have e : floatOfInt .f32 c = (FloatKind.f32).format.nearest (decide (c < 0)) c.natAbs 0 := rfl
  rw [e]
  cases hd : (FloatKind.f32).decode ((FloatKind.f32).format.nearest (decide (c < 0)) c.natAbs 0) with
  | number => rfl
  | infinity => rw [hd] at this; exact this.elim
  | nan => rw [hd] at this; exact this.elim
theorem fin_cls {x : Nat} (h : finD ((FloatKind.f32).decode x) = true) : cls .f32 x = some x := cls_of_not (by cases hd : (FloatKind.f32).decode x with
  | number => rfl
  | infinity => rfl
  | nan => rw [hd] at h; cases h)
theorem floatBits_pos {x y : Nat} (hx : PosD ((FloatKind.f32).decode x)) (hy : PosD ((FloatKind.f32).decode y)) (fx : finD ((FloatKind.f32).decode x) = true) (fy : finD ((FloatKind.f32).decode y) = true) : ∃ p, floatBits .mul .f32 x y = some p ∧ PosD ((FloatKind.f32).decode p) := by
  obtain ⟨r, hr, hp⟩ := product_pos hx hy fx fy
  refine ⟨(FloatKind.f32).format.write r, ?_, write_pos .f32 hp⟩
  show (((FloatKind.f32).decode x).product ((FloatKind.f32).decode y)).map (FloatKind.f32).format.write = _
  rw [hr]; rfl
theorem floatBits_sum {x y : Nat} (hx : PosD ((FloatKind.f32).decode x)) (hy : PosD ((FloatKind.f32).decode y)) : ∃ p, floatBits .add .f32 x y = some p ∧ PosD ((FloatKind.f32).decode p) := by
  obtain ⟨r, hr, hp⟩ := sum_pos hx hy
  refine ⟨(FloatKind.f32).format.write r, ?_, write_pos .f32 hp⟩
  show (((FloatKind.f32).decode x).sum ((FloatKind.f32).decode y)).map (FloatKind.f32).format.write = _
  rw [hr]; rfl
/-- Counts. -/
def tot (zs : List Int) : Nat → Int
  | 0 => 0
  | k + 1 => tot zs k + zs.getD k 0
def cntB (zs : List Int) (n : Nat) : Bool := decide (1 ≤ n ∧ n ≤ 32) && decide (∀ k, k < n → 0 ≤ zs.getD k 0 ∧ zs.getD k 0 ≤ 1000000)
theorem cnt_out {zs : List Int} {n : Nat} (h : cntB zs n = true) : (1 ≤ n ∧ n ≤ 32) ∧ ∀ k, k < n → 0 ≤ zs.getD k 0 ∧ zs.getD k 0 ≤ 1000000 := by
  unfold cntB at h
  rw [Bool.and_eq_true] at h
  exact ⟨of_decide_eq_true h.1, of_decide_eq_true h.2⟩
theorem tot_le {zs : List Int} {n : Nat} (h : ∀ k, k < n → 0 ≤ zs.getD k 0 ∧ zs.getD k 0 ≤ 1000000) : ∀ k, k ≤ n → 0 ≤ tot zs k ∧ tot zs k ≤ 1000000 * (k : Int) := by
  intro k
  induction k with
  | zero => intro _; exact ⟨Int.le_refl _, by show (0 : Int) ≤ 1000000 * ((0 : Nat) : Int); omega⟩
  | succ k ih =>
    intro hk
    have h1 := ih (by omega)
    have h2 := h k (by omega)
    have e : tot zs (k + 1) = tot zs k + zs.getD k 0 := rfl
    rw [e]
    omega
def wholeV (zs : List Int) (n A : Nat) : Option Nat := vop .add .f32 (cls .f32 (floatOfInt .f32 (tot zs n))) (vop .mul .f32 (cls .f32 A) (cls .f32 (floatOfInt .f32 (n : Int))))
def smV (zs : List Int) (n A : Nat) (k : Nat) : Option Nat := vop .quo .f32 (vop .add .f32 (cls .f32 (floatOfInt .f32 (zs.getD k 0))) (cls .f32 A)) (wholeV zs n A)
def okS (zs : List Int) (n A : Nat) : Bool := cntB zs n && (leastB A && rowV (smV zs n A) n)
theorem okS_out {zs : List Int} {n A : Nat} (h : okS zs n A = true) : cntB zs n = true ∧ leastB A = true ∧ rowV (smV zs n A) n = true := by
  unfold okS at h
  rw [Bool.and_eq_true, Bool.and_eq_true] at h
  exact h
/-- The whole, in numbers. -/
theorem whole_num {zs : List Int} {n A : Nat} (hc : cntB zs n = true) (hA : leastB A = true) : ∃ p y, floatBits .mul .f32 A (floatOfInt .f32 (n : Int)) = some p ∧ floatBits .add .f32 (floatOfInt .f32 (tot zs n)) p = some y ∧ wholeV zs n A = some y ∧ cls .f32 y = some y ∧ PosD ((FloatKind.f32).decode y) := by
  obtain ⟨hn, hz⟩ := cnt_out hc
  have ht := tot_le hz n (Nat.le_refl _)
  obtain ⟨hp, hf⟩ := least_pos hA
  obtain ⟨p, e1, p1⟩ := floatBits_pos hp (int_pos (c := (n : Int)) (by omega)) hf (int_fin (by omega) (by omega))
  obtain ⟨y, e2, p2⟩ := floatBits_sum (int_pos ht.1) p1
  refine ⟨p, y, e1, e2, ?_, cls_of_not (floatBits_notNaN e2), p2⟩
  unfold wholeV
  rw [vop_cls, e1, ← cls_of_not (floatBits_notNaN e1), vop_cls, e2]
theorem sm_above {zs : List Int} {n A y : Nat} (hc : cntB zs n = true) (hy : wholeV zs n A = some y) (hcy : cls .f32 y = some y) (hp : PosD ((FloatKind.f32).decode y)) (ha : aboveB y = false) : rowV (smV zs n A) n = false := by
  have hn := (cnt_out hc).1
  refine whole_row hp (by omega) (fun k _ => ?_) ha
  obtain ⟨x, hx⟩ := vop_img .add (floatOfInt .f32 (zs.getD k 0)) A
  exact ⟨x, by unfold smV; rw [hy, hx, hcy]⟩
theorem least_lt {x : Nat} (h : leastB x = false) (hf : finD ((FloatKind.f32).decode x) = true) : ((FloatKind.f32).format.order x 0 == some .lt) = true := by
  cases hn : ((FloatKind.f32).format.order x 0 == some .lt) with
  | true => rfl
  | false =>
    exfalso
    have : notNeg x = true := by unfold notNeg; rw [hn]; rfl
    rcases notNeg_cases this with h2 | h2
    · rw [h2] at h; cases h
    · rcases h2 with h2 | ⟨b, s, h2, h3⟩
      · rw [fin_cls hf] at h2; cases h2
      · rw [fin_cls hf] at h2; injection h2 with h2; subst h2; rw [h3] at hf; cases hf
theorem least_nlt {x : Nat} (h : leastB x = true) : finD ((FloatKind.f32).decode x) = true ∧ ((FloatKind.f32).format.order x 0 == some .lt) = false := by
  refine ⟨(least_pos h).2, ?_⟩
  have := least_notNeg h
  unfold notNeg at this
  simpa using this
theorem IRow.cell' {w : World} {a : Option Addr} {n : Nat} {zs : List Int} (h : IRow w a n zs) {k : Nat} (hk : k < n) : ∃ b off, a = some ⟨b, off, none⟩ ∧ b < w.heap.size ∧ w.cell? ⟨b, off + k, none⟩ = some (.int .i64 (zs.getD k 0)) := by
  rcases h.2 with h0 | ⟨b, o, rfl, hb, hc⟩
  · omega
  · exact ⟨b, o, rfl, hb, hc k hk⟩
theorem val_i {a b : Int} (h : a = b) : Value.int .i64 a = .int .i64 b := by rw [h]
theorem cnt_no {zs : List Int} {n k : Nat} (hk : k < n) (h : ¬ (0 ≤ zs.getD k 0 ∧ zs.getD k 0 ≤ 1000000)) : cntB zs n = false := by
  unfold cntB
  rw [decide_eq_false (p := ∀ k, k < n → 0 ≤ zs.getD k 0 ∧ zs.getD k 0 ≤ 1000000) (fun e => h (e k hk))]
  simp
theorem cnt_end {zs : List Int} {n : Nat} (h : ∀ k, k < n → 0 ≤ zs.getD k 0 ∧ zs.getD k 0 ≤ 1000000) : cntB zs n = decide (1 ≤ n ∧ n ≤ 32) := by
  unfold cntB
  rw [decide_eq_true (p := ∀ k, k < n → 0 ≤ zs.getD k 0 ∧ zs.getD k 0 ≤ 1000000) h]
  simp
end Go.Proofs.YtnljabgkaelplaaDoor
