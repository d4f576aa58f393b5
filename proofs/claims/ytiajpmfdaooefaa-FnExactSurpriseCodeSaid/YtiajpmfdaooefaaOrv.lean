/- The order of letters by how long their words are: plain facts. -/
import Derived.Test.YtiajpmfdaooefaaFri
import Derived.Sort.Statements
import Derived.Sort.LotA
import Derived.Sort.Row
import Derived.Shelf.SlSortCmp.Insertion
namespace Go.Proofs.Ytiajpmfdaooefaa
open Go.Proofs.Ytiajpmfdaooefaa.Flo Go.RowKit Go.Sort

def cmpI (a b : Int) : Int := if a < b then -1 else if b < a then 1 else 0
/-- A place, or the first one. -/
def clI (n : Nat) (x : Int) : Int := if 0 ≤ x ∧ x < (n : Int) then x else 0
theorem clI_in {n : Nat} {x : Int} (h : 0 ≤ x ∧ x < (n : Int)) : clI n x = x := if_pos h
theorem clI_ok {n : Nat} (h : 0 < n) (x : Int) : 0 ≤ clI n x ∧ clI n x < (n : Int) := by
  unfold clI
  split
  · assumption
  · omega
def cfZ (zs : List Int) (n : Nat) (x y : Int) : Int := cmpI (zs.getD (clI n x).toNat 0) (zs.getD (clI n y).toNat 0)
def ltZ (zs : List Int) (n : Nat) : Int → Int → Bool := ltOf (cfZ zs n)
theorem ltZ_eq (zs : List Int) (n : Nat) (x y : Int) : ltZ zs n x y = decide (zs.getD (clI n x).toNat 0 < zs.getD (clI n y).toNat 0) := by
  unfold ltZ ltOf cfZ cmpI
  by_cases h : zs.getD (clI n x).toNat 0 < zs.getD (clI n y).toNat 0
  · rw [if_pos h, decide_eq_true h]; rfl
  · rw [if_neg h, decide_eq_false h]
    by_cases h2 : zs.getD (clI n y).toNat 0 < zs.getD (clI n x).toNat 0
    · rw [if_pos h2]; rfl
    · rw [if_neg h2]; rfl
theorem ltZ_in (zs : List Int) {n x y : Nat} (hx : x < n) (hy : y < n) : ltZ zs n (x : Int) (y : Int) = decide (zs.getD x 0 < zs.getD y 0) := by
  rw [ltZ_eq, clI_in ⟨by omega, by omega⟩, clI_in ⟨by omega, by omega⟩]; rfl
theorem ltZ_swo (zs : List Int) (n : Nat) : SWO (ltZ zs n) where
  irrefl x := by rw [ltZ_eq]; exact decide_eq_false (by omega)
  trans x y z h1 h2 := by
    rw [ltZ_eq] at *
    have := of_decide_eq_true h1
    have := of_decide_eq_true h2
    exact decide_eq_true (by omega)
  ntrans x y z h1 h2 := by
    rw [ltZ_eq] at *
    have := of_decide_eq_false h1
    have := of_decide_eq_false h2
    exact decide_eq_false (by omega)
/-- All places, in order. -/
def iotA (n : Nat) : Array Int := (rngI n).toArray
theorem iotA_size (n : Nat) : (iotA n).size = n := by simp [iotA, rngI]
theorem iotA_get {n i : Nat} (h : i < n) : (iotA n)[i]! = (i : Int) := by
  rw [getElem!_pos _ i (by rw [iotA_size]; exact h)]
  simp [iotA, rngI]
/-- The order behind the first i letters. -/
def ordP (zs : List Int) (n : Nat) : Nat → Array Int
  | 0 => iotA n
  | i + 1 => insInner (ltZ zs n) 0 i (ordP zs n i)
def ordA (zs : List Int) (n : Nat) : Array Int := ordP zs n n
theorem ord_outer (zs : List Int) (n : Nat) : ∀ m i, n - i = m → i ≤ n → insOuter (ltZ zs n) 0 n i (ordP zs n i) = ordP zs n n
  | 0, i, h, hi => by
    obtain rfl : i = n := by omega
    rw [insOuter, if_neg (by omega)]
  | m + 1, i, h, hi => by
    rw [insOuter, if_pos (by omega)]
    exact ord_outer zs n m (i + 1) (by omega) (by omega)
theorem ord_ins (zs : List Int) (n : Nat) : insertionSort (ltZ zs n) (iotA n) 0 n = ordA zs n := by
  unfold insertionSort ordA
  by_cases h : n = 0
  · subst h
    rw [insOuter, if_neg (by omega)]; rfl
  · exact ord_outer zs n (n - 1) 1 rfl (by omega)
/-- What holds of an order in the making, the first i + 1 places of which are at work. -/
structure OrdOk (n i : Nat) (D : Array Int) : Prop where
  size : D.size = n
  all : ∀ m, m < n → 0 ≤ D[m]! ∧ D[m]! < (n : Int)
  rest : ∀ m, i < m → m < n → D[m]! = (m : Int)
theorem swp_size (D : Array Int) (i j : Nat) : (swp D i j).size = D.size := by simp [swp]
theorem swp_get {D : Array Int} {p m : Nat} (hm : m < D.size) : (swp D (p + 1) p)[m]! = if m = p then D[p + 1]! else if m = p + 1 then D[p]! else D[m]! := by
  unfold swp
  rw [getElem!_pos _ m (by simpa using hm), Array.getElem_setIfInBounds (by simpa using hm)]
  by_cases h : p = m
  · rw [if_pos h, if_pos h.symm]
  · rw [if_neg h, if_neg (fun e => h e.symm), Array.getElem_setIfInBounds hm]
    by_cases h2 : p + 1 = m
    · rw [if_pos h2, if_pos h2.symm]
    · rw [if_neg h2, if_neg (fun e => h2 e.symm), getElem!_pos _ m hm]
theorem OrdOk.swp {n i p : Nat} {D : Array Int} (h : OrdOk n i D) (hp : p + 1 ≤ i) (hi : i < n) : OrdOk n i (swp D (p + 1) p) where
  size := by rw [swp_size]; exact h.size
  all m hm := by
    rw [swp_get (by rw [h.size]; exact hm)]
    split
    · exact h.all _ (by omega)
    · split
      · exact h.all _ (by omega)
      · exact h.all _ hm
  rest m h1 h2 := by
    rw [swp_get (by rw [h.size]; exact h2), if_neg (by omega), if_neg (by omega)]
    exact h.rest m h1 h2
theorem inner_ok (zs : List Int) {n i : Nat} (hi : i < n) : ∀ j (D : Array Int), j ≤ i → OrdOk n i D → OrdOk n i (insInner (ltZ zs n) 0 j D)
  | 0, D, _, h => h
  | j + 1, D, hj, h => by
    unfold insInner
    split
    · exact inner_ok zs hi j _ (by omega) (h.swp (by omega) hi)
    · exact h
theorem ordP_ok (zs : List Int) (n : Nat) : ∀ i, i ≤ n → (ordP zs n i).size = n ∧ (∀ m, m < n → 0 ≤ (ordP zs n i)[m]! ∧ (ordP zs n i)[m]! < (n : Int)) ∧ ∀ m, i ≤ m → m < n → (ordP zs n i)[m]! = (m : Int)
  | 0, _ => ⟨iotA_size n, fun m hm => by
      show 0 ≤ (iotA n)[m]! ∧ _
      rw [iotA_get hm]; exact ⟨by omega, by show (iotA n)[m]! < _; rw [iotA_get hm]; omega⟩, fun m _ hm => iotA_get hm⟩
  | i + 1, hi => by
    obtain ⟨h1, h2, h3⟩ := ordP_ok zs n i (by omega)
    have := inner_ok zs (n := n) (i := i) (by omega) i (ordP zs n i) (Nat.le_refl _) ⟨h1, h2, fun m hm hn => h3 m (by omega) hn⟩
    exact ⟨this.size, this.all, fun m hm hn => this.rest m (by omega) hn⟩
theorem ordA_sorted (zs : List Int) {n i : Nat} (h : i + 1 < n) : zs.getD ((ordA zs n)[i]!).toNat 0 ≤ zs.getD ((ordA zs n)[i + 1]!).toNat 0 := by
  have hs := (insertionSort_holds (ltZ_swo zs n) (iotA n) 0 n (Nat.zero_le _) (by rw [iotA_size]; exact Nat.le_refl _)).2 i (i + 1) (Nat.zero_le _) (Nat.lt_succ_self _) h
  have ha : ∀ m, m < n → 0 ≤ (ordA zs n)[m]! ∧ (ordA zs n)[m]! < (n : Int) := (ordP_ok zs n n (Nat.le_refl _)).2.1
  rw [ord_ins, ltZ_eq, clI_in (ha _ h), clI_in (ha _ (by omega))] at hs
  have := of_decide_eq_false hs
  show zs.getD ((ordA zs n)[i]!).toNat 0 ≤ _
  omega
/-- The first places of an order, as a list. -/
def ordT (D : Array Int) (i : Nat) : List Int := D.toList.take i
theorem ordT_len {D : Array Int} {i : Nat} (h : i ≤ D.size) : (ordT D i).length = i := by simp [ordT]; omega
theorem ordT_get {D : Array Int} {i j : Nat} (h : i ≤ D.size) (hj : j < i) : (ordT D i).getD j 0 = D[j]! := by
  rw [List.getD_eq_getElem?_getD, List.getElem?_eq_getElem (by rw [ordT_len h]; exact hj), getElem!_pos _ j (by omega)]
  simp [ordT]
theorem ordT_on {D : Array Int} {i : Nat} (h : i < D.size) : ordT D i ++ [D[i]!] = ordT D (i + 1) := by
  unfold ordT
  rw [List.take_succ_eq_append_getElem (by simpa using h), getElem!_pos _ i h]; simp
theorem ordT_swp {D : Array Int} {i p : Nat} (h : i ≤ D.size) (hp : p + 1 < i) : ((ordT D i).set (p + 1) ((ordT D i).getD p 0)).set p ((ordT D i).getD (p + 1) 0) = ordT (swp D (p + 1) p) i := by
  rw [ordT_get h (by omega), ordT_get h hp]
  unfold ordT swp
  simp [List.take_set]
end Go.Proofs.Ytiajpmfdaooefaa
