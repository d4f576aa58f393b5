
/- Codes: when they are valid, and how much of all words they take. -/
import Derived.Test.YtnljabgkaelplaaDoorCdm
import Derived.Test.YtnljabgkaelplaaDoorTbl
import Derived.Test.YtnljabgkaelplaaDoorSmv
namespace Go.Proofs.YtnljabgkaelplaaDoor
open Go.Proofs.YtnljabgkaelplaaDoor.Flo Go.RowKit

/-- How much of all words the first k words take. -/
def krI (zs : List Int) : Nat → Int
  | 0 => 0
  | k + 1 => krI zs k + 2 ^ (32 - zs.getD k 0).toNat
def lnP (zs : List Int) (n : Nat) : Prop := ∀ k, k < n → 1 ≤ zs.getD k 0 ∧ zs.getD k 0 ≤ 32
instance (zs : List Int) (n : Nat) : Decidable (lnP zs n) := inferInstanceAs (Decidable (∀ k, k < n → 1 ≤ zs.getD k 0 ∧ zs.getD k 0 ≤ 32))
def codeB (zs : List Int) (n : Nat) : Bool := decide (1 ≤ n ∧ n ≤ 16) && (decide (lnP zs n) && decide (krI zs n ≤ 4294967296))
theorem code_out {zs : List Int} {n : Nat} (h : codeB zs n = true) : (1 ≤ n ∧ n ≤ 16) ∧ lnP zs n ∧ krI zs n ≤ 4294967296 := by
  unfold codeB at h
  rw [Bool.and_eq_true, Bool.and_eq_true] at h
  exact ⟨of_decide_eq_true h.1, of_decide_eq_true h.2.1, of_decide_eq_true h.2.2⟩
theorem code_no {zs : List Int} {n k : Nat} (hk : k < n) (h : ¬ (1 ≤ zs.getD k 0 ∧ zs.getD k 0 ≤ 32)) : codeB zs n = false := by
  unfold codeB
  rw [decide_eq_false (p := lnP zs n) (fun e => h (e k hk))]
  simp
theorem code_len {zs : List Int} {n : Nat} (h : ¬ (1 ≤ n ∧ n ≤ 16)) : codeB zs n = false := by
  unfold codeB
  rw [decide_eq_false h]; rfl
theorem code_end {zs : List Int} {n : Nat} (h1 : 1 ≤ n ∧ n ≤ 16) (h : lnP zs n) : codeB zs n = decide (krI zs n ≤ 4294967296) := by
  unfold codeB
  rw [decide_eq_true h1, decide_eq_true h]; rfl
theorem lnP.part {zs : List Int} {n k : Nat} (h : lnP zs n) (hk : k ≤ n) : lnP zs k := fun j hj => h j (by omega)
theorem p2_le {x : Int} (h : 1 ≤ x ∧ x ≤ 32) : 1 ≤ (2 : Int) ^ (32 - x).toNat ∧ (2 : Int) ^ (32 - x).toNat ≤ 2147483648 := by
  have e : ((2 : Int) ^ (32 - x).toNat) = ((2 ^ (32 - x).toNat : Nat) : Int) := by simp
  have h1 : 2 ^ (32 - x).toNat ≤ 2 ^ 31 := Nat.pow_le_pow_right (by decide) (by omega)
  have h2 : 1 ≤ 2 ^ (32 - x).toNat := Nat.one_le_two_pow
  rw [e]
  have : (2 : Nat) ^ 31 = 2147483648 := by decide
  omega
theorem kr_le {zs : List Int} {n : Nat} (h : lnP zs n) : ∀ k, k ≤ n → 0 ≤ krI zs k ∧ krI zs k ≤ (k : Int) * 2147483648 := by
  intro k
  induction k with
  | zero => intro _; exact ⟨Int.le_refl _, by show (0 : Int) ≤ _; omega⟩
  | succ k ih =>
    intro hk
    have h1 := ih (by omega)
    have h2 := p2_le (h k (by omega))
    have e : krI zs (k + 1) = krI zs k + 2 ^ (32 - zs.getD k 0).toNat := rfl
    rw [e]
    omega
theorem kr_zero (zs : List Int) : krI zs 0 = 0 := rfl
theorem cell_box (w : World) (v : Value) (T : TypeId) : (w.alloc (.cells #[v] T)).cell? ⟨w.heap.size, 0, none⟩ = some v := by
  rw [World.cell?_alloc_at _ _ _ _ rfl]; rfl
end Go.Proofs.YtnljabgkaelplaaDoor
