
/- Parities: rows in steps, the model's. -/
import Derived.Test.YtkmggoagboikgaaDoorPva
namespace Go.Proofs.YtkmggoagboikgaaDoor
open Go.Proofs.YtkmggoagboikgaaDoor.Flo Go.RowKit Go.Proofs.YtkmggoagboikgaaDoor.Pr

/-- The first numbers of a row that is told by a function. -/
def rI (n : Nat) (f : Nat → Nat) : List Int := (List.range n).map (fun i => ((f i : Nat) : Int))
theorem rI_len (n : Nat) (f : Nat → Nat) : (rI n f).length = n := by simp [rI]
theorem rI_get {n : Nat} (f : Nat → Nat) {i : Nat} (h : i < n) : (rI n f).getD i 0 = ((f i : Nat) : Int) := by
  unfold rI
  rw [List.getD_eq_getElem?_getD, List.getElem?_map, List.getElem?_range h]
  rfl
theorem rI_ext {n : Nat} {L : List Int} {f : Nat → Nat} (hl : L.length = n) (h : ∀ i, i < n → L.getD i 0 = ((f i : Nat) : Int)) : L = rI n f := by
  apply List.ext_getElem?
  intro i
  by_cases e : i < n
  · have h1 := h i e
    have h2 := rI_get f e
    rw [List.getD_eq_getElem?_getD] at h1 h2
    rw [List.getElem?_eq_getElem (by omega)] at h1 ⊢
    rw [List.getElem?_eq_getElem (by rw [rI_len]; exact e)] at h2 ⊢
    simp only [Option.getD_some] at h1 h2
    rw [h1, h2]
  · rw [List.getElem?_eq_none (by omega), List.getElem?_eq_none (by rw [rI_len]; omega)]
theorem rI_congr {n : Nat} {f g : Nat → Nat} (h : ∀ i, i < n → f i = g i) : rI n f = rI n g := rI_ext (rI_len _ _) (fun i hi => by rw [rI_get f hi, h i hi])
theorem rI_set {n j : Nat} (f : Nat → Nat) (x : Nat) (h : j < n) : (rI n f).set j ((x : Nat) : Int) = rI n (upd f j x) := by
  refine rI_ext (by simp [rI_len]) (fun i hi => ?_)
  rw [getD_set _ _ _ _ (by rw [rI_len]; exact h)]
  by_cases e : i = j
  · subst e; rw [if_pos rfl, upd_at]
  · rw [if_neg e, upd_ne _ _ e, rI_get f hi]
theorem rI_zN {zs : List Int} {n r : Nat} (hl : zs.length = n) (h : woP zs n r) : zs = rI n (zN zs) := rI_ext hl (fun _ hi => (zN_at h hi).1)
/-- What the walk needs of the rows at each step. -/
theorem ech_at {z : Nat → Nat} {m n : Nat} (hz : ∀ j, j < n → z j < 2 ^ m) (hm : m ≤ 16) {b : Nat} (hb : b ≤ m) : (ech z m n b).k ≤ n ∧ ∀ j, j < n → (ech z m n b).f j < 2 ^ 16 := by
  obtain ⟨piv, H⟩ := ech_ok hz b hb
  exact ⟨H.le, fun j hj => Nat.lt_of_lt_of_le (H.word j hj) (Nat.pow_le_pow_right (by decide) hm)⟩
theorem fnd_on {r : Nat → Nat} {i n a : Nat} (ha : a < n) (h : (r a).testBit i = true) : fnd r i n (n - a) = a := by
  obtain ⟨m, hm⟩ : ∃ m, n - a = m + 1 := ⟨n - a - 1, by omega⟩
  rw [hm]
  unfold fnd
  rw [show n - (m + 1) = a by omega, if_pos h]
theorem fnd_off {r : Nat → Nat} {i n a : Nat} (ha : a < n) (h : (r a).testBit i = false) : fnd r i n (n - a) = fnd r i n (n - (a + 1)) := by
  obtain ⟨m, hm⟩ : ∃ m, n - a = m + 1 := ⟨n - a - 1, by omega⟩
  rw [hm]
  show (if (r (n - (m + 1))).testBit i then n - (m + 1) else fnd r i n m) = _
  rw [show n - (m + 1) = a by omega, h, show n - (a + 1) = m by omega]
  simp
theorem stp_hit {n i a : Nat} {f : Nat → Nat} {k : Nat} (h : fnd f i n (n - k) = a) (ha : a < n) : stp n i ⟨f, k⟩ = ⟨clr (swp f k a) k i n, k + 1⟩ := by
  unfold stp
  simp only [h, if_pos ha]
theorem stp_miss {n i : Nat} {f : Nat → Nat} {k : Nat} (h : fnd f i n (n - k) = n) : stp n i ⟨f, k⟩ = ⟨f, k⟩ := by
  unfold stp
  simp only [h, Nat.lt_irrefl, if_false]
theorem swp_put {n a k : Nat} (f : Nat → Nat) (ha : a < n) (hk : k < n) : ((rI n f).set a ((f k : Nat) : Int)).set k ((f a : Nat) : Int) = rI n (swp f k a) := by
  rw [rI_set f (f k) ha, rI_set _ (f a) hk]; rfl
theorem swp_lt {n a k r : Nat} {f : Nat → Nat} (ha : a < n) (hk : k < n) (h : ∀ j, j < n → f j < r) : ∀ j, j < n → swp f k a j < r := by
  intro j hj
  unfold swp
  by_cases e : j = k
  · subst e; rw [upd_at]; exact h a ha
  · rw [upd_ne _ _ e]
    by_cases e2 : j = a
    · subst e2; rw [upd_at]; exact h k hk
    · rw [upd_ne _ _ e2]; exact h j hj
theorem clr_zero {n : Nat} (h : Nat → Nat) (k i : Nat) : rI n (clr h k i 0) = rI n h := rI_congr (fun x _ => by simp [clr])
theorem clr_same {h : Nat → Nat} {k i j : Nat} : clr h k i j j = h j := by simp [clr]
theorem clr_k {h : Nat → Nat} {k i j : Nat} : clr h k i j k = h k := by simp [clr]
theorem clr_stay {n : Nat} {h : Nat → Nat} {k i j : Nat} (e : j = k ∨ (h j).testBit i = false) : rI n (clr h k i (j + 1)) = rI n (clr h k i j) := rI_congr (fun x _ => by
  simp only [clr]
  have : (x < j + 1 ∧ x ≠ k ∧ (h x).testBit i = true) ↔ (x < j ∧ x ≠ k ∧ (h x).testBit i = true) := by
    constructor
    · rintro ⟨h1, h2, h3⟩
      refine ⟨?_, h2, h3⟩
      by_cases e2 : x = j
      · subst e2
        rcases e with e | e
        · exact absurd e h2
        · rw [h3] at e; exact absurd e (by decide)
      · omega
    · rintro ⟨h1, h2⟩; exact ⟨by omega, h2⟩
  simp only [this])
theorem clr_put {n : Nat} {h : Nat → Nat} {k i j : Nat} (hj : j < n) (h1 : j ≠ k) (h2 : (h j).testBit i = true) : (rI n (clr h k i j)).set j ((h j ^^^ h k : Nat) : Int) = rI n (clr h k i (j + 1)) := by
  rw [rI_set _ _ hj]
  refine rI_congr (fun x _ => ?_)
  by_cases e : x = j
  · subst e; rw [upd_at]; simp [clr, h1, h2]
  · rw [upd_ne _ _ e]
    simp only [clr]
    have : (x < j + 1 ∧ x ≠ k ∧ (h x).testBit i = true) ↔ (x < j ∧ x ≠ k ∧ (h x).testBit i = true) := by
      constructor
      · rintro ⟨h1, h2⟩; exact ⟨by omega, h2⟩
      · rintro ⟨h1, h2⟩; exact ⟨by omega, h2⟩
    simp only [this]
end Go.Proofs.YtkmggoagboikgaaDoor
