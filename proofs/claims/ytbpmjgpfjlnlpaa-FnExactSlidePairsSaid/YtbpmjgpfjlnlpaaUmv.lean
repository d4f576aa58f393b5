/- Letters that are merged, undone: plain facts. -/
import Derived.Test.YtbpmjgpfjlnlpaaTwo
namespace Go.Proofs.Ytbpmjgpfjlnlpaa
open Go.Proofs.Ytbpmjgpfjlnlpaa.Flo Go.RowKit

/-- The first k letters of L, with x, y for each l. -/
def unP (L : List Int) (x y l : Int) : Nat → List Int
  | 0 => []
  | k + 1 => unP L x y l k ++ (if L.getD k 0 = l then [x, y] else [L.getD k 0])
def unL (L : List Int) (x y l : Int) : List Int := unP L x y l L.length
theorem unP_len (L : List Int) (x y l : Int) : ∀ k, k ≤ (unP L x y l k).length ∧ (unP L x y l k).length ≤ 2 * k
  | 0 => ⟨Nat.le_refl _, Nat.le_refl _⟩
  | k + 1 => by
    have h := unP_len L x y l k
    unfold unP
    rw [List.length_append]
    split <;> simp <;> omega
theorem unL_len (L : List Int) (x y l : Int) : L.length ≤ (unL L x y l).length ∧ (unL L x y l).length ≤ 2 * L.length := unP_len L x y l L.length
theorem unP_let {L : List Int} {x y l : Int} (hx : 0 ≤ x ∧ x < l) (hy : 0 ≤ y ∧ y < l) : ∀ k, (∀ j, j < k → 0 ≤ L.getD j 0 ∧ L.getD j 0 < l + 1) → ∀ z, z ∈ unP L x y l k → 0 ≤ z ∧ z < l
  | 0, _, z, hz => by cases hz
  | k + 1, h, z, hz => by
    unfold unP at hz
    rcases List.mem_append.1 hz with hz | hz
    · exact unP_let hx hy k (fun j hj => h j (by omega)) z hz
    · by_cases e : L.getD k 0 = l
      · rw [if_pos e] at hz
        simp at hz
        rcases hz with rfl | rfl
        · exact hx
        · exact hy
      · rw [if_neg e] at hz
        simp at hz
        have := h k (by omega)
        rw [List.getD_eq_getElem?_getD] at this e
        subst hz
        omega
theorem mem_let {L : List Int} {l : Int} {n : Nat} (hl : L.length = n) (h : ∀ z, z ∈ L → 0 ≤ z ∧ z < l) : letP L l n := by
  intro j hj
  rw [List.getD_eq_getElem?_getD, List.getElem?_eq_getElem (by omega)]
  exact h _ (List.getElem_mem _)
/-- The letters behind j steps. -/
def umL (zs rs : List Int) (x : Int) (T : Nat) : Nat → List Int
  | 0 => zs
  | j + 1 => unL (umL zs rs x T j) (rs.getD (2 * (T - 1 - j)) 0) (rs.getD (2 * (T - 1 - j) + 1) 0) (x + ((T - 1 - j : Nat) : Int))
theorem umL_mono (zs rs : List Int) (x : Int) (T : Nat) : ∀ j i, i ≤ j → (umL zs rs x T i).length ≤ (umL zs rs x T j).length
  | 0, i, h => by rw [show i = 0 by omega]; exact Nat.le_refl _
  | j + 1, i, h => by
    by_cases e : i = j + 1
    · rw [e]; exact Nat.le_refl _
    · exact Nat.le_trans (umL_mono zs rs x T j i (by omega)) (unL_len _ _ _ _).1
theorem umL_le (zs rs : List Int) (x : Int) (T : Nat) : ∀ j, (umL zs rs x T j).length ≤ 2 ^ j * zs.length
  | 0 => by simp [umL]
  | j + 1 => by
    have h1 := umL_le zs rs x T j
    have h2 := (unL_len (umL zs rs x T j) (rs.getD (2 * (T - 1 - j)) 0) (rs.getD (2 * (T - 1 - j) + 1) 0) (x + ((T - 1 - j : Nat) : Int))).2
    have e : (umL zs rs x T (j + 1)) = unL (umL zs rs x T j) (rs.getD (2 * (T - 1 - j)) 0) (rs.getD (2 * (T - 1 - j) + 1) 0) (x + ((T - 1 - j : Nat) : Int)) := rfl
    rw [e, Nat.pow_succ, Nat.mul_right_comm, Nat.mul_comm (2 ^ j * zs.length) 2]
    omega
def ruP (rs : List Int) (x : Int) (q : Nat) : Prop := ∀ j, j < q → 0 ≤ rs.getD j 0 ∧ rs.getD j 0 < x + ((j / 2 : Nat) : Int)
instance (rs : List Int) (x : Int) (q : Nat) : Decidable (ruP rs x q) := inferInstanceAs (Decidable (∀ j, j < q → 0 ≤ rs.getD j 0 ∧ rs.getD j 0 < x + ((j / 2 : Nat) : Int)))
theorem umL_let {zs rs : List Int} {x : Int} {T : Nat} (hz : ∀ z, z ∈ zs → 0 ≤ z ∧ z < x + (T : Int)) (hr : ruP rs x (2 * T)) : ∀ j, j ≤ T → ∀ z, z ∈ umL zs rs x T j → 0 ≤ z ∧ z < x + ((T - j : Nat) : Int)
  | 0, _, z, h => hz z h
  | j + 1, hj, z, h => by
    have h1 := hr (2 * (T - 1 - j)) (by omega)
    have h2 := hr (2 * (T - 1 - j) + 1) (by omega)
    rw [show 2 * (T - 1 - j) / 2 = T - 1 - j by omega] at h1
    rw [show (2 * (T - 1 - j) + 1) / 2 = T - 1 - j by omega] at h2
    rw [show T - (j + 1) = T - 1 - j by omega]
    refine unP_let h1 h2 _ (fun i hi => ?_) z h
    have hi2 : (umL zs rs x T j).getD i 0 ∈ umL zs rs x T j := by
      rw [List.getD_eq_getElem?_getD, List.getElem?_eq_getElem hi]; exact List.getElem_mem _
    have := umL_let hz hr j (by omega) _ hi2
    rw [show T - j = T - 1 - j + 1 by omega] at this
    omega
/-- All that is asked for ahead of the steps. -/
def ruB (rs : List Int) (x : Int) (q : Nat) : Bool := decide (q % 2 = 0 ∧ q ≤ 16) && decide (ruP rs x q)
def umA (zs : List Int) (m : Nat) (rs : List Int) (q : Nat) (x : Int) : Bool := decide (2 ≤ x ∧ x ≤ 16) && (ruB rs x q && (decide (m ≤ 64) && decide (letP zs (x + ((q / 2 : Nat) : Int)) m)))
def umR (zs rs : List Int) (q : Nat) (x : Int) : List Int := umL zs rs x (q / 2) (q / 2)
def umB (zs : List Int) (m : Nat) (rs : List Int) (q : Nat) (x : Int) : Bool := umA zs m rs q x && decide ((umR zs rs q x).length ≤ 64)
theorem umA_out {zs : List Int} {m : Nat} {rs : List Int} {q : Nat} {x : Int} (h : umA zs m rs q x = true) : (2 ≤ x ∧ x ≤ 16) ∧ (q % 2 = 0 ∧ q ≤ 16) ∧ ruP rs x q ∧ m ≤ 64 ∧ letP zs (x + ((q / 2 : Nat) : Int)) m := by
  unfold umA ruB at h
  rw [Bool.and_eq_true, Bool.and_eq_true, Bool.and_eq_true, Bool.and_eq_true] at h
  exact ⟨of_decide_eq_true h.1, of_decide_eq_true h.2.1.1, of_decide_eq_true h.2.1.2, of_decide_eq_true h.2.2.1, of_decide_eq_true h.2.2.2⟩
theorem let_mem {zs : List Int} {m : Nat} {l : Int} (hl : zs.length = m) (h : letP zs l m) : ∀ z, z ∈ zs → 0 ≤ z ∧ z < l := by
  intro z hz
  obtain ⟨i, hi, rfl⟩ := List.getElem_of_mem hz
  have := h i (by omega)
  rw [List.getD_eq_getElem?_getD, List.getElem?_eq_getElem hi] at this
  exact this
theorem umR_let {zs : List Int} {m : Nat} {rs : List Int} {q : Nat} {x : Int} (hl : zs.length = m) (h : umA zs m rs q x = true) : letP (umR zs rs q x) x (umR zs rs q x).length := by
  obtain ⟨hx, ⟨hq, hq2⟩, hr, hm, hz⟩ := umA_out h
  refine mem_let rfl (fun z hz2 => ?_)
  have := umL_let (T := q / 2) (let_mem hl hz) (by rw [show 2 * (q / 2) = q by omega]; exact hr) (q / 2) (Nat.le_refl _) z hz2
  rw [Nat.sub_self] at this
  simpa using this
end Go.Proofs.Ytbpmjgpfjlnlpaa
