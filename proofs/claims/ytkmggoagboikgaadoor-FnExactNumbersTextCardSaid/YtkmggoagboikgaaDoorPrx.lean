
/- Parities: words as numbers, and what the bit operations make of them. -/
import Derived.Test.YtkmggoagboikgaaDoorPrv
import Derived.Laws.BitsLemmas
namespace Go.Proofs.YtkmggoagboikgaaDoor
open Go.Proofs.YtkmggoagboikgaaDoor.Flo Go.RowKit Go.Proofs.YtkmggoagboikgaaDoor.Pr

theorem wr62 (n : Int) (h0 : 0 ≤ n) (h1 : n < 2 ^ 62) : IntKind.i64.wrap n = n := IntWalk.i64_in _ (by omega)
theorem b_and (a b : Nat) (ha : a < 2 ^ 62) (hb : b < 2 ^ 62) : bits .and .i64 (a : Int) (b : Int) = ((a &&& b : Nat) : Int) := (bits_nat .i64 62 (by decide) wr62 a b ha hb).1
theorem b_or (a b : Nat) (ha : a < 2 ^ 62) (hb : b < 2 ^ 62) : bits .or .i64 (a : Int) (b : Int) = ((a ||| b : Nat) : Int) := (bits_nat .i64 62 (by decide) wr62 a b ha hb).2
theorem b_xor (a b : Nat) (ha : a < 2 ^ 62) (hb : b < 2 ^ 62) : bits .xor .i64 (a : Int) (b : Int) = ((a ^^^ b : Nat) : Int) := by
  have hp : (2 : Nat) ^ 62 ≤ 2 ^ 64 := by decide
  have ha' : a % 2 ^ 64 = a := Nat.mod_eq_of_lt (Nat.lt_of_lt_of_le ha hp)
  have hb' : b % 2 ^ 64 = b := Nat.mod_eq_of_lt (Nat.lt_of_lt_of_le hb hp)
  have hx := Nat.xor_lt_two_pow ha hb
  show IntKind.i64.wrap ((BitVec.ofInt 64 (a : Int) ^^^ BitVec.ofInt 64 (b : Int)).toNat : Int) = _
  rw [BitVec.ofInt_natCast, BitVec.ofInt_natCast, BitVec.toNat_xor, BitVec.toNat_ofNat, BitVec.toNat_ofNat, ha', hb']
  exact wr62 _ (Int.natCast_nonneg _) (by exact_mod_cast hx)
theorem b_one (a : Nat) (ha : a < 2 ^ 62) : bits .and .i64 (a : Int) 1 = ((a % 2 : Nat) : Int) := by
  have h := b_and a 1 ha (by decide)
  rw [Nat.and_one_is_mod] at h
  exact h
theorem b_bit (x m : Nat) (hx : x < 2 ^ 62) : bits .and .i64 ((x : Int) / 2 ^ m) 1 = if x.testBit m then 1 else 0 := by
  have e : (x : Int) / 2 ^ m = ((x / 2 ^ m : Nat) : Int) := by
    rw [Int.natCast_ediv]; congr 1
  rw [e, b_one _ (Nat.lt_of_le_of_lt (Nat.div_le_self _ _) hx), Nat.testBit_eq_decide_div_mod_eq]
  rcases Nat.mod_two_eq_zero_or_one (x / 2 ^ m) with h | h <;> rw [h] <;> rfl
/-- A row's words. -/
def zN (zs : List Int) : Nat → Nat := fun i => (zs.getD i 0).toNat
def woP (zs : List Int) (n r : Nat) : Prop := ∀ k, k < n → 0 ≤ zs.getD k 0 ∧ zs.getD k 0 < 2 ^ r
instance (zs : List Int) (n r : Nat) : Decidable (woP zs n r) := inferInstanceAs (Decidable (∀ k, k < n → 0 ≤ zs.getD k 0 ∧ zs.getD k 0 < 2 ^ r))
def apP (z : Nat → Nat) (n : Nat) : Prop := ∀ k, k < n → lf z k ≠ 0
instance (z : Nat → Nat) (n : Nat) : Decidable (apP z n) := inferInstanceAs (Decidable (∀ k, k < n → lf z k ≠ 0))
theorem zN_at {zs : List Int} {n r k : Nat} (h : woP zs n r) (hk : k < n) : zs.getD k 0 = ((zN zs k : Nat) : Int) ∧ zN zs k < 2 ^ r := by
  have h1 := h k hk
  have e : zs.getD k 0 = ((zN zs k : Nat) : Int) := by unfold zN; omega
  refine ⟨e, ?_⟩
  have := h1.2
  rw [e] at this
  exact_mod_cast this
/-- Is a number a word of r bits? -/
def woB (x : Int) (r : Nat) : Bool := decide (0 ≤ x ∧ x < 2 ^ r)
/-- Is a code valid? -/
def paB (r : Int) (zs : List Int) (n : Nat) : Bool := decide (1 ≤ r ∧ r ≤ 16) && (decide (1 ≤ n ∧ n ≤ 8) && (decide (woP zs n r.toNat) && decide (apP (zN zs) n)))
theorem pa_out {r : Int} {zs : List Int} {n : Nat} (h : paB r zs n = true) : (1 ≤ r ∧ r ≤ 16) ∧ (1 ≤ n ∧ n ≤ 8) ∧ woP zs n r.toNat ∧ apP (zN zs) n := by
  unfold paB at h
  rw [Bool.and_eq_true, Bool.and_eq_true, Bool.and_eq_true] at h
  exact ⟨of_decide_eq_true h.1, of_decide_eq_true h.2.1, of_decide_eq_true h.2.2.1, of_decide_eq_true h.2.2.2⟩
theorem pa_r {r : Int} {zs : List Int} {n : Nat} (h : ¬ (1 ≤ r ∧ r ≤ 16)) : paB r zs n = false := by unfold paB; rw [decide_eq_false h]; rfl
theorem pa_n {r : Int} {zs : List Int} {n : Nat} (h : ¬ (1 ≤ n ∧ n ≤ 8)) : paB r zs n = false := by unfold paB; rw [decide_eq_false h]; simp
theorem pa_k {r : Int} {zs : List Int} {n k : Nat} (hk : k < n) (h : ¬ (0 ≤ zs.getD k 0 ∧ zs.getD k 0 < 2 ^ r.toNat)) : paB r zs n = false := by
  unfold paB; rw [decide_eq_false (p := woP zs n r.toNat) (fun e => h (e k hk))]; simp
theorem pa_z {r : Int} {zs : List Int} {n k : Nat} (hk : k < n) (h : lf (zN zs) k = 0) : paB r zs n = false := by
  unfold paB; rw [decide_eq_false (p := apP (zN zs) n) (fun e => e k hk h)]; simp
theorem pa_end {r : Int} {zs : List Int} {n : Nat} (h1 : 1 ≤ r ∧ r ≤ 16) (h2 : 1 ≤ n ∧ n ≤ 8) (h3 : woP zs n r.toNat) : paB r zs n = decide (apP (zN zs) n) := by
  unfold paB; rw [decide_eq_true h1, decide_eq_true h2, decide_eq_true h3]; rfl
/-- What the model counts. -/
theorem pa_rank {r : Int} {zs : List Int} {n : Nat} (h1 : 1 ≤ r ∧ r ≤ 16) (h2 : 1 ≤ n ∧ n ≤ 8) (h3 : woP zs n r.toNat) : paB r zs n = decide ((ech (zN zs) r.toNat n r.toNat).k = n) := by
  rw [pa_end h1 h2 h3]
  have h := (rank_iff (z := zN zs) (fun j hj => (zN_at h3 hj).2)).trans (apart_iff (zN zs) n).symm
  by_cases e : apP (zN zs) n
  · rw [decide_eq_true e, decide_eq_true (h.2 e)]
  · rw [decide_eq_false e, decide_eq_false (fun e2 => e (h.1 e2))]
end Go.Proofs.YtkmggoagboikgaaDoor
