/- RiceOf: the functions and the law. -/
import Derived.Test.YtiajpmfdaooefaaUnw
import Derived.Test.YtiajpmfdaooefaaLiv
import Derived.Test.YtiajpmfdaooefaaDig
import Derived.Test.YtiajpmfdaooefaaBts
namespace Go.Proofs.Ytiajpmfdaooefaa
open Go.Proofs.Ytiajpmfdaooefaa.Flo Go.RowKit

theorem bits_tx {l : List UInt8} (h : ∀ c, c ∈ l → c = 48 ∨ c = 49) : bitsB (txB l) = decide (l.length ≤ 512) := by
  unfold bitsB
  rw [txB_size]
  have e : (txB l).data.toList.all bitC = true := by
    rw [List.all_eq_true]
    intro c hc
    have hc2 : c ∈ l := by simpa [txB] using hc
    rcases h c hc2 with rfl | rfl <;> decide
  rw [e, Bool.and_true]
theorem digL_bits (X : Nat) : ∀ k c, c ∈ digL X k → c = 48 ∨ c = 49
  | 0, c, h => by simp [digL] at h
  | k + 1, c, h => by
    unfold digL at h
    rcases List.mem_cons.1 h with h | h
    · subst h
      by_cases e : X / 2 ^ k % 2 = 1
      · rw [if_pos e]; exact .inr rfl
      · rw [if_neg e]; exact .inl rfl
    · exact digL_bits X k c h
theorem repL_mem {x c : UInt8} {n : Nat} (h : c ∈ repL x n) : c = x := List.eq_of_mem_replicate h
theorem unaL_bits (N : Nat) (c : UInt8) (h : c ∈ unaL N) : c = 48 ∨ c = 49 := by
  unfold unaL at h
  rcases List.mem_append.1 h with h | h
  · exact .inr (repL_mem h)
  · exact .inl (by simpa using h)
theorem bn_yes (s : ByteArray) (w : World) (hs : s.size ≤ 1048576) (h : bitsB s = true) :
    Calls Try.prog 92 #[.string s] w fun e w' => e = .returned (.tuple #[.string s, .bool true]) ∧ Below w.heap.size w w' := by
  go_enter Try.func92, Try.ntmps92
  go_wp2_with (first | (go_at_call 96; refine (bt_impl s _ hs).mono ?_; rintro e w2 ⟨rfl, hb⟩; have HB := Lib.hid hb; clear hb) | go_in)
  go_ret2
  exact ⟨rfl, HB.out⟩
theorem bn_no (s : ByteArray) (w : World) (hs : s.size ≤ 1048576) (h : bitsB s = false) :
    Calls Try.prog 92 #[.string s] w fun e w' => e = .returned (.tuple #[.string ⟨#[]⟩, .bool false]) ∧ Below w.heap.size w w' := by
  go_enter Try.func92, Try.ntmps92
  go_wp2_with (first | (go_at_call 96; refine (bt_impl s _ hs).mono ?_; rintro e w2 ⟨rfl, hb⟩; have HB := Lib.hid hb; clear hb) | go_in)
  go_ret2
  exact ⟨rfl, HB.out⟩
def riceL (N K : Nat) : List UInt8 := unaL (N / 2 ^ K) ++ digL N K
def okR (n k : Int) : Bool := decide (1 ≤ n ∧ n ≤ 1000000) && (decide (0 ≤ k ∧ k ≤ 20) && decide ((n - 1).toNat / 2 ^ k.toNat + 1 + k.toNat ≤ 512))
/-- Where a number is told by a quotient and a remainder. -/
theorem okR_cases (n k : Int) : ¬ (1 ≤ n ∧ n ≤ 1000000) ∨ ¬ (0 ≤ k ∧ k ≤ 20) ∨ ∃ N K Q : Nat, n = (N : Int) + 1 ∧ k = (K : Int) ∧ N < 1000000 ∧ K ≤ 20 ∧ N / 2 ^ K = Q ∧ okR n k = decide (Q + 1 + K ≤ 512) := by
  by_cases h1 : 1 ≤ n ∧ n ≤ 1000000
  · by_cases h2 : 0 ≤ k ∧ k ≤ 20
    · refine .inr (.inr ⟨(n - 1).toNat, k.toNat, _, by omega, by omega, by omega, by omega, rfl, ?_⟩)
      unfold okR
      rw [decide_eq_true h1, decide_eq_true h2]; rfl
    · exact .inr (.inl h2)
  · exact .inl h1
theorem okR_n {n k : Int} (h : ¬ (1 ≤ n ∧ n ≤ 1000000)) : okR n k = false := by unfold okR; rw [decide_eq_false h]; rfl
theorem okR_k {n k : Int} (h : ¬ (0 ≤ k ∧ k ≤ 20)) : okR n k = false := by unfold okR; rw [decide_eq_false h]; simp
/-- What is answered. -/
def riceA (n k : Int) : Value := .tuple #[.string (if okR n k then txB (riceL (n - 1).toNat k.toNat) else ⟨#[]⟩), .bool (okR n k)]
theorem riceA_no {n k : Int} (h : okR n k = false) : riceA n k = .tuple #[.string ⟨#[]⟩, .bool false] := by unfold riceA; rw [h]; rfl
theorem riceA_yes {n k : Int} {N K : Nat} (hn : n = (N : Int) + 1) (hk : k = (K : Int)) (h : okR n k = true) : riceA n k = .tuple #[.string (txB (riceL N K)), .bool true] := by
  unfold riceA
  rw [h, if_pos rfl]
  subst hn; subst hk
  have e : ((N : Int) + 1 - 1).toNat = N := by omega
  rw [e]; rfl
end Go.Proofs.Ytiajpmfdaooefaa
