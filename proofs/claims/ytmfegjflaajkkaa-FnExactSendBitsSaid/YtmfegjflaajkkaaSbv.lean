
/- What a coder sends: plain facts. -/
import Derived.Test.YtmfegjflaajkkaaCcb
import Derived.Test.YtmfegjflaajkkaaCrv
namespace Go.Proofs.Ytmfegjflaajkkaa
open Go.Proofs.Ytmfegjflaajkkaa.Flo Go.RowKit Go.Proofs.Ytmfegjflaajkkaa.Pr

def bN (b : Bool) : Nat := if b then 1 else 0
/-- A state with a bit. -/
def whN (s : Nat) (b : Bool) : Nat := 2 * s + bN b
theorem whN_t (s : Nat) : whN s true = 2 * s + 1 := rfl
theorem whN_f (s : Nat) : whN s false = 2 * s := rfl
theorem whN_lt {s : Nat} (b : Bool) (h : s < 16) : whN s b < 32 := by cases b <;> (first | rw [whN_t] | rw [whN_f]) <;> omega
/-- What is sent for a mask. -/
def stF (zs : List Int) (W i : Nat) : Bool := odB (W &&& zN zs i)
/-- The bits, and those false behind them. -/
def btF (f : Nat → Bool) (n i : Nat) : Bool := decide (i < n) && f i
theorem bt_in {f : Nat → Bool} {n i : Nat} (h : i < n) : btF f n i = f i := by unfold btF; rw [decide_eq_true h]; rfl
theorem bt_out {f : Nat → Bool} {n i : Nat} (h : ¬ i < n) : btF f n i = false := by unfold btF; rw [decide_eq_false h]; rfl
/-- The states. -/
def stq (f : Nat → Bool) (n M : Nat) : Nat → Nat
  | 0 => 0
  | k + 1 => whN (stq f n M k) (btF f n k) % 2 ^ M
theorem stq_lt (f : Nat → Bool) (n M : Nat) : ∀ k, stq f n M k < 2 ^ M
  | 0 => Nat.two_pow_pos M
  | _ + 1 => Nat.mod_lt _ (Nat.two_pow_pos M)
theorem pow_le4 {M : Nat} (h : M ≤ 4) : 2 ^ M ≤ 16 := Nat.pow_le_pow_right (n := 2) (j := 4) (by decide) h
/-- All that is sent. -/
def snF (f : Nat → Bool) (n M : Nat) (zs : List Int) (m p : Nat) : Bool := stF zs (whN (stq f n M (p / m)) (btF f n (p / m))) (p % m)
theorem sn_at {f : Nat → Bool} {n M : Nat} {zs : List Int} {m k i : Nat} (hi : i < m) : snF f n M zs m (k * m + i) = stF zs (whN (stq f n M k) (btF f n k)) i := by
  unfold snF
  have h1 : (k * m + i) / m = k := by rw [Nat.mul_comm, Nat.mul_add_div (by omega), Nat.div_eq_of_lt hi, Nat.add_zero]
  have h2 : (k * m + i) % m = i := by rw [Nat.mul_comm, Nat.mul_add_mod, Nat.mod_eq_of_lt hi]
  rw [h1, h2]
theorem gv_news {w : World} {g m : Nat} {f : Nat → Value} (h : Ent.ok w g (.gv m f)) : ∀ j u, ((List.range m).map f)[j]? = some u → w.cell? ((⟨g, 0, none⟩ : Addr).add j) = some u := by
  intro j u hu
  have hj : j < m := by have := (List.getElem?_eq_some_iff.1 hu).1; simpa using this
  have hadd : (⟨g, 0, none⟩ : Addr).add j = ⟨g, j, none⟩ := by unfold Addr.add; split <;> simp_all
  rw [List.getElem?_map, List.getElem?_range hj] at hu
  rw [hadd, (h.2 j hj).1]
  exact hu
theorem mN_at {zs : List Int} {m M k : Nat} (h : crP zs m M) (hM : M ≤ 4) (hk : k < m) : zs.getD k 0 = ((zN zs k : Nat) : Int) ∧ zN zs k < 32 := by
  have h1 := h k hk
  have h2 : (2 : Int) ^ (M + 1) ≤ 32 := by
    have h3 : 2 ^ (M + 1) ≤ 2 ^ 5 := Nat.pow_le_pow_right (by decide) (by omega)
    have : ((2 ^ (M + 1) : Nat) : Int) ≤ ((2 ^ 5 : Nat) : Int) := by exact_mod_cast h3
    rw [Int.natCast_pow] at this
    exact this
  have e : zs.getD k 0 = ((zN zs k : Nat) : Int) := by unfold zN; omega
  refine ⟨e, ?_⟩
  have := h1.2
  omega
theorem odB_zero : odB 0 = false := by decide +kernel
theorem odB_step {x : Nat} (h : x < 65536) : odB x = (decide (x % 2 = 1) != odB (x / 2)) := by
  have h1 := wt_step h
  unfold odB
  have a : wt x % 2 = 1 ↔ ¬ (x % 2 = 1 ↔ wt (x / 2) % 2 = 1) := by omega
  by_cases c1 : x % 2 = 1 <;> by_cases c2 : wt (x / 2) % 2 = 1 <;> simp [c1, c2, a]
end Go.Proofs.Ytmfegjflaajkkaa
