
/- Texts cut at a mark: plain facts. -/
import Derived.Lib.SplitLaws
import Derived.Lib.CountLaws
import Derived.Test.YtkmggoagboikgaaDoorStx
namespace Go.Proofs.YtkmggoagboikgaaDoor
open Go.Lib

/-- The parts of a text between marks. -/
def cutL (c : UInt8) : List UInt8 → List (List UInt8)
  | [] => [[]]
  | x :: r => if x = c then [] :: cutL c r else match cutL c r with
    | h :: t => (x :: h) :: t
    | [] => [[x]]
theorem cutL_ne (c : UInt8) : ∀ l, cutL c l ≠ []
  | [] => by simp [cutL]
  | x :: r => by
    unfold cutL
    split
    · simp
    · split <;> simp
theorem cutL_mark (c : UInt8) (r : List UInt8) : cutL c (c :: r) = [] :: cutL c r := by rw [cutL, if_pos rfl]
theorem cutL_other {c x : UInt8} (h : x ≠ c) {r : List UInt8} {a : List UInt8} {t : List (List UInt8)} (e : cutL c r = a :: t) : cutL c (x :: r) = (x :: a) :: t := by rw [cutL, if_neg h, e]
theorem cutL_seg {c : UInt8} : ∀ {a : List UInt8}, (∀ x ∈ a, x ≠ c) → ∀ b, cutL c (a ++ c :: b) = a :: cutL c b
  | [], _, b => cutL_mark c b
  | x :: a, h, b => by
    have ih := cutL_seg (a := a) (fun y hy => h y (List.mem_cons_of_mem _ hy)) b
    exact cutL_other (h x (List.mem_cons_self ..)) ih
theorem cutL_end {c : UInt8} : ∀ {a : List UInt8}, (∀ x ∈ a, x ≠ c) → cutL c a = [a]
  | [], _ => rfl
  | x :: a, h => cutL_other (h x (List.mem_cons_self ..)) (cutL_end (a := a) (fun y hy => h y (List.mem_cons_of_mem _ hy)))
theorem cutL_len (c : UInt8) : ∀ l, (cutL c l).length = l.count c + 1
  | [] => rfl
  | x :: r => by
    by_cases h : x = c
    · subst h
      rw [cutL_mark, List.length_cons, cutL_len, List.count_cons_self]
    · cases e : cutL c r with
      | nil => exact absurd e (cutL_ne c r)
      | cons a t =>
        rw [cutL_other h e, List.count_cons_of_ne (by simpa using h)]
        have := cutL_len c r
        rw [e] at this
        simpa using this
theorem cutL_le (c : UInt8) : ∀ l, ∀ p ∈ cutL c l, p.length ≤ l.length
  | [], p, hp => by simp [cutL] at hp; subst hp; simp
  | x :: r, p, hp => by
    by_cases h : x = c
    · subst h
      rw [cutL_mark] at hp
      rcases List.mem_cons.1 hp with rfl | hp
      · simp
      · have := cutL_le x r p hp; simp; omega
    · cases e : cutL c r with
      | nil => exact absurd e (cutL_ne c r)
      | cons a t =>
        rw [cutL_other h e] at hp
        rcases List.mem_cons.1 hp with rfl | hp
        · have := cutL_le c r a (by rw [e]; exact List.mem_cons_self ..)
          simp; omega
        · have := cutL_le c r p (by rw [e]; exact List.mem_cons_of_mem _ hp)
          simp; omega
theorem splitK_one (c : UInt8) : ∀ l, splitK [c] 0 (l.count c) l = cutL c l
  | [] => rfl
  | x :: r => by
    have ih := splitK_one c r
    by_cases h : x = c
    · subst h
      have hix : index (x :: r) [x] = ((0 : Nat) : Int) := by rw [index]; simp [List.isPrefixOf]
      rw [cutL_mark, List.count_cons_self, splitK, if_neg (by rw [hix]; simp), hix]
      simp only [Int.toNat_natCast, Nat.zero_add, Nat.add_zero, List.take_zero, List.length_singleton, List.drop_succ_cons, List.drop_zero]
      rw [ih]
    · have hp : ([c] : List UInt8).isPrefixOf (x :: r) = false := by simp [List.isPrefixOf, Ne.symm h]
      have hix : index (x :: r) [c] = if index r [c] == -1 then -1 else index r [c] + 1 := by rw [index, hp]; simp
      rw [List.count_cons_of_ne (by simpa using h)]
      cases hk : r.count c with
      | zero =>
        rw [hk] at ih
        have e : cutL c r = r :: [] := ih.symm
        rw [cutL_other h e]; rfl
      | succ k =>
        rw [hk] at ih
        have hm : index r [c] ≠ -1 := fun e => by
          have h2 := count_miss e
          rw [count_one, hk] at h2
          omega
        obtain ⟨j, hj⟩ : ∃ j : Nat, index r [c] = j := ⟨(index r [c]).toNat, by have := index_ge r [c]; omega⟩
        have hix' : index (x :: r) [c] = ((j + 1 : Nat) : Int) := by rw [hix, if_neg (fun e => hm (beq_iff_eq.1 e)), hj]; omega
        rw [splitK, if_neg (by rw [hj]; simp), hj] at ih
        rw [splitK, if_neg (by rw [hix']; simp; omega), hix']
        rw [cutL_other h ih.symm]
        simp
theorem txB_back (b : ByteArray) : txB b.data.toList = b := by cases b; simp [txB]
theorem splitB_cut (s : ByteArray) (c : UInt8) : splitB ⟨#[c]⟩ 0 (countB s ⟨#[c]⟩) s = (cutL c s.data.toList).map txB ∧ countB s ⟨#[c]⟩ + 1 = (cutL c s.data.toList).length := by
  have h1 : countB s ⟨#[c]⟩ = s.data.toList.count c := by
    show count s.data.toList [c] = _
    exact count_one c _
  refine ⟨?_, by rw [h1, cutL_len]⟩
  have h2 := splitB_data ⟨#[c]⟩ 0 (countB s ⟨#[c]⟩) s
  rw [h1, show (⟨#[c]⟩ : ByteArray).data.toList = [c] from rfl, splitK_one] at h2
  rw [← h2, List.map_map, h1]
  have : (txB ∘ fun b : ByteArray => b.data.toList) = id := by funext b; exact txB_back b
  rw [this, List.map_id]
end Go.Proofs.YtkmggoagboikgaaDoor
