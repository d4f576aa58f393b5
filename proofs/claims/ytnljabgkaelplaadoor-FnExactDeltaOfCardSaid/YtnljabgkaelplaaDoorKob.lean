
/- KeyOfBits: the functions and the law. -/
import Derived.Test.YtnljabgkaelplaaDoorOdd
namespace Go.Proofs.YtnljabgkaelplaaDoor
open Go.Proofs.YtnljabgkaelplaaDoor.Flo Go.RowKit Go.Proofs.YtnljabgkaelplaaDoor.Pr

def sd (s : Nat) : Nat → Nat
  | 0 => s
  | j + 1 => (1664525 * sd s j + 1013904223) % 4294967296
theorem sd_lt {s : Nat} (h : s < 4294967296) : ∀ j, sd s j < 4294967296
  | 0 => h
  | j + 1 => Nat.mod_lt _ (by decide)
def kw (s j : Nat) : Nat := sd s (j + 1) / 65536
def kwL (s : Nat) : Nat → List Int
  | 0 => []
  | k + 1 => kwL s k ++ [((kw s k : Nat) : Int)]
theorem kwL_on (s k : Nat) : (kwL s (k + 1)).map (Value.int .i64) = (kwL s k).map (Value.int .i64) ++ [.int .i64 ((kw s k : Nat) : Int)] := by
  show (kwL s k ++ [_]).map (Value.int .i64) = _
  simp
theorem kwL_len (s : Nat) : ∀ k, (kwL s k).length = k
  | 0 => rfl
  | k + 1 => by show (kwL s k ++ [_]).length = _; rw [List.length_append, kwL_len s k]; rfl
theorem kwL_get (s : Nat) : ∀ k i, i < k → (kwL s k).getD i 0 = ((kw s i : Nat) : Int)
  | k + 1, i, h => by
    show (kwL s k ++ [_]).getD i 0 = _
    rw [List.getD_eq_getElem?_getD]
    by_cases e : i < k
    · rw [List.getElem?_append_left (by rw [kwL_len]; exact e), ← List.getD_eq_getElem?_getD]
      exact kwL_get s k i e
    · obtain rfl : i = k := by omega
      rw [List.getElem?_append_right (by rw [kwL_len]; omega), kwL_len]
      simp
theorem kw_lt {s : Nat} (h : s < 4294967296) (j : Nat) : kw s j < 65536 := by
  have := sd_lt h (j + 1)
  unfold kw; omega
theorem kw_wo {s n : Nat} (h : s < 4294967296) : woP (kwL s n) n 16 := by
  intro k hk
  rw [kwL_get s n k hk]
  have := kw_lt h k
  have e : (2 : Int) ^ 16 = 65536 := by decide
  rw [e]; omega
theorem kw_od {s n x : Nat} : od (zN (kwL s n)) x n = od (kw s) x n := od_congr (fun j hj => by unfold zN; rw [kwL_get s n j hj, Int.toNat_natCast])
def kbB (b n s : Int) : Bool := woB b 16 && (decide (1 ≤ n ∧ n ≤ 16) && decide (0 ≤ s ∧ s ≤ 4294967295))
theorem kb_out {b n s : Int} (h : kbB b n s = true) : ∃ x m s0 : Nat, b = (x : Int) ∧ n = (m : Int) ∧ s = (s0 : Int) ∧ x < 65536 ∧ 1 ≤ m ∧ m ≤ 16 ∧ s0 < 4294967296 := by
  unfold kbB at h
  rw [Bool.and_eq_true, Bool.and_eq_true] at h
  have h1 : 0 ≤ b ∧ b < 2 ^ 16 := of_decide_eq_true h.1
  have e : (2 : Int) ^ 16 = 65536 := by decide
  rw [e] at h1
  have h2 := of_decide_eq_true h.2.1
  have h3 := of_decide_eq_true h.2.2
  exact ⟨b.toNat, n.toNat, s.toNat, by omega, by omega, by omega, by omega, by omega, by omega, by omega⟩
theorem kb_no {b n s : Int} (h : kbB b n s = false) : woB b 16 = false ∨ (woB b 16 = true ∧ ¬ (1 ≤ n ∧ n ≤ 16)) ∨ (woB b 16 = true ∧ (1 ≤ n ∧ n ≤ 16) ∧ ¬ (0 ≤ s ∧ s ≤ 4294967295)) := by
  unfold kbB at h
  cases h1 : woB b 16 with
  | false => exact .inl rfl
  | true =>
    rw [h1] at h
    by_cases h2 : 1 ≤ n ∧ n ≤ 16
    · rw [decide_eq_true h2] at h
      exact .inr (.inr ⟨rfl, h2, of_decide_eq_false (by simpa using h)⟩)
    · exact .inr (.inl ⟨rfl, h2⟩)
def seB (n : Int) : Bool := decide (0 ≤ n ∧ n ≤ 4294967295)
set_option maxHeartbeats 1000000 in
theorem seed_impl (n : Int) (w : World) : Calls Tryd.prog 43 #[.int .i64 n] w fun e w' => e = .returned (.bool (seB n)) ∧ w = w' := by
  by_cases h0 : 0 ≤ n
  · have d0 : decide (0 ≤ n) = true := decide_eq_true h0
    by_cases h1 : n < 4294967296
    · have d1 : decide (n < 4294967296) = true := decide_eq_true h1
      have HF : Hid (seB n = true) := Lib.hid (decide_eq_true ⟨h0, by omega⟩)
      clear h0 h1
      go_enter Tryd.func43, Tryd.ntmps43
      go_wp2
      go_ret
      exact ⟨ret_bool2 HF.out.symm, rfl⟩
    · have d1 : decide (n < 4294967296) = false := decide_eq_false h1
      have HF : Hid (seB n = false) := Lib.hid (decide_eq_false (fun e => h1 (by omega)))
      clear h0 h1
      go_enter Tryd.func43, Tryd.ntmps43
      go_wp2
      go_ret
      exact ⟨ret_bool2 HF.out.symm, rfl⟩
  · have d0 : decide (0 ≤ n) = false := decide_eq_false h0
    have HF : Hid (seB n = false) := Lib.hid (decide_eq_false (fun e => h0 e.1))
    clear h0
    go_enter Tryd.func43, Tryd.ntmps43
    go_wp2
    go_ret
    exact ⟨ret_bool2 HF.out.symm, rfl⟩
set_option maxHeartbeats 1000000 in
theorem next_impl (s : Nat) (w : World) (h : s < 4294967296) : Calls Tryd.prog 73 #[.int .i64 (s : Int)] w fun e w' => e = .returned (.int .i64 (((1664525 * s + 1013904223) % 4294967296 : Nat) : Int)) ∧ w = w' := by
  have hw1 : IntKind.i64.wrap (1664525 * (s : Int)) = 1664525 * (s : Int) := IntWalk.i64_in _ (by omega)
  have hw2 : IntKind.i64.wrap (1664525 * (s : Int) + 1013904223) = 1664525 * (s : Int) + 1013904223 := IntWalk.i64_in _ (by omega)
  have hm : (1664525 * (s : Int) + 1013904223).tmod 4294967296 = (((1664525 * s + 1013904223) % 4294967296 : Nat) : Int) := by rw [Int.tmod_eq_emod_of_nonneg (by omega)]; omega
  generalize (1664525 * s + 1013904223) % 4294967296 = R at hm
  go_enter Tryd.func73, Tryd.ntmps73
  go_wp2
  go_ret
  exact ⟨rfl, rfl⟩
end Go.Proofs.YtnljabgkaelplaaDoor
