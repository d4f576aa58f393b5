
/- FibonacciOf: the model's digits. -/
import Derived.Test.YtaefmffmjbabcaaFbp
import Derived.Test.YtaefmffmjbabcaaAnc
import Derived.Test.YtaefmffmjbabcaaFrx
import Derived.Laws.OwnMore
import Derived.Deep.AppendLies
set_option linter.unusedVariables false
set_option linter.unusedSimpArgs false
namespace Go.Proofs.Ytaefmffmjbabcaa
open Go.Proofs.Ytaefmffmjbabcaa.Flo Go.RowKit

theorem loop_ne (bs : ByteArray) (i : Nat) (r : List UInt8) (h : r ≠ []) : ByteArray.toList.loop bs i r ≠ [] := by
  induction i, r using ByteArray.toList.loop.induct (bs := bs) with
  | case1 i r hi ih => unfold ByteArray.toList.loop; rw [if_pos hi]; exact ih (by simp)
  | case2 i r hi => unfold ByteArray.toList.loop; rw [if_neg hi]; simpa using h
theorem toList_ne (bs : ByteArray) (h : 0 < bs.size) : bs.toList.isEmpty = false := by
  have : bs.toList ≠ [] := by
    unfold ByteArray.toList
    unfold ByteArray.toList.loop
    rw [if_pos h]
    exact loop_ne bs _ _ (by simp)
  simpa using this
def slLen : Value → Nat
  | .slice _ n _ => n
  | _ => 0
set_option maxRecDepth 100000 in
set_option maxHeartbeats 8000000 in
theorem fs_spec (n K : Nat) (w : World) (hn1 : n ≤ 1000000) (hK : 1 ≤ K ∧ K ≤ 29) (hk : ∀ k, k < K → Fb.fb k ≤ n) (hnK : n < Fb.fb K) :
    Calls Try.prog 166 #[.int .i64 (n : Int)] w fun e w' => e = .returned (.string (txB (Fb.dgL n K K ++ [49]))) ∧ Below w.heap.size w w' := by
  obtain ⟨i0, hi, hz0, hz1, hz2⟩ := info_parts Try.info64
  obtain ⟨hK1, hK2⟩ := hK
  have HK := Lib.hid hk
  have HN := Lib.hid hnK
  have HB0 := Lib.hid (below_alloc w (.cells #[.int .i64 1, .int .i64 2] 2))
  have HO0 : Hid ((w.alloc (.cells #[.int .i64 1, .int .i64 2] 2)).ownsRow w.heap.size 2 1 (.slice (some ⟨w.heap.size, 0, none⟩) 2 2) 2 ((Fb.fbL 2).map (Value.int .i64))) := Lib.hid (World.ownsRow_lit w #[.int .i64 1, .int .i64 2] 2 (Nat.le_refl _) (by unfold maxLen; omega) rfl)
  clear hk hnK
  go_enter Try.func166, Try.ntmps166
  go_wp2
  go_loopw [3] (fun v0 wr0 => ∃ (k g cap : Nat) (wr : World), 2 ≤ k ∧ k ≤ K + 1 ∧ v0 = .slice (some ⟨g, 0, none⟩) k cap ∧ wr = wr0 ∧ Hid (wr.ownsRow w.heap.size 2 1 (.slice (some ⟨g, 0, none⟩) k cap) k ((Fb.fbL k).map (Value.int .i64))) ∧ Hid (Below w.heap.size w wr)) (fun v0 _ => K + 2 - slLen v0)
  case atStart => exact ⟨2, w.heap.size, 2, _, Nat.le_refl _, by omega, rfl, rfl, HO0, HB0⟩
  case round =>
    obtain ⟨k, g, cap, wr, hk2, hkK, rfl, rfl, HO, HW⟩ := hrel
    obtain ⟨k1, hk1⟩ : ∃ k1, k1 = k - 1 := ⟨_, rfl⟩
    obtain ⟨k2, hk2'⟩ : ∃ k2, k2 = k - 2 := ⟨_, rfl⟩
    have hw1 : IntKind.i64.wrap ((k : Int) - 1) = (k1 : Int) := by rw [show (k : Int) - 1 = (k1 : Int) by omega]; exact IntWalk.i64_in _ (by omega)
    have hw2 : IntKind.i64.wrap ((k : Int) - 2) = (k2 : Int) := by rw [show (k : Int) - 2 = (k2 : Int) by omega]; exact IntWalk.i64_in _ (by omega)
    have hs1 : (k : Int) - 1 = (k1 : Int) := by omega
    have hs2 : (k : Int) - 2 = (k2 : Int) := by omega
    have hc1 : wr.cell? ⟨g, k1, none⟩ = some (.int .i64 (Fb.fb k1 : Int)) := by have := own_cell HO.out (show k1 < k by omega); rwa [Fb.fbL_at (show k1 < k by omega)] at this
    have hc2 : wr.cell? ⟨g, k2, none⟩ = some (.int .i64 (Fb.fb k2 : Int)) := by have := own_cell HO.out (show k2 < k by omega); rwa [Fb.fbL_at (show k2 < k by omega)] at this
    have hgl : g < wr.heap.size := (own_lt HO.out).2
    have hlt1 : k1 < k := by omega
    have hlt2 : k2 < k := by omega
    have hlt1i : (k1 : Int) < (k : Int) := by omega
    have hlt2i : (k2 : Int) < (k : Int) := by omega
    have hp1 : (0 : Int) ≤ (k1 : Int) := by omega
    have hp2 : (0 : Int) ≤ (k2 : Int) := by omega
    have hsz := HW.out.size
    by_cases hlt : k1 < K
    · have hle := HK.out k1 hlt
      have hlei : (Fb.fb k1 : Int) ≤ (n : Int) := by omega
      have hd : decide ((Fb.fb k1 : Int) ≤ (n : Int)) = true := decide_eq_true hlei
      have hdn : decide (Fb.fb k1 ≤ n) = true := decide_eq_true hle
      have hsum : Fb.fb k = Fb.fb k2 + Fb.fb k1 := by
        obtain ⟨q, rfl⟩ : ∃ q, k = q + 2 := ⟨k - 2, by omega⟩
        rw [hk1, hk2']
        rfl
      have hb1 := Fb.fb_31 (show k1 ≤ 31 by omega)
      have hb2 := Fb.fb_31 (show k2 ≤ 31 by omega)
      have hws : IntKind.i64.wrap ((Fb.fb k1 : Int) + (Fb.fb k2 : Int)) = (Fb.fb k : Int) := by rw [show (Fb.fb k1 : Int) + (Fb.fb k2 : Int) = (Fb.fb k : Int) by omega]; exact IntWalk.i64_in _ (by omega)
      have hss : (Fb.fb k1 : Int) + (Fb.fb k2 : Int) = (Fb.fb k : Int) := by omega
      have hwk : IntKind.i64.wrap ((Fb.fb k : Nat) : Int) = ((Fb.fb k : Nat) : Int) := IntWalk.i64_in _ (by omega)
      have HNE := Lib.hid (own_block HO.out)
      have HKK := Lib.hid (show k1 + 1 = k ∧ k2 + 2 = k by omega)
      clear hsum hk1 hk2' hs1 hs2
      go_wp2
      have hHeld : (fun wq : World => wq.cell? ⟨g, k1, none⟩ = some (.int .i64 (Fb.fb k1 : Int)) ∧ wq.cell? ⟨g, k2, none⟩ = some (.int .i64 (Fb.fb k2 : Int))) wr.drew := ⟨hc1, hc2⟩
      refine Anc.AnyC.region (fun wq : World => wq.cell? ⟨g, k1, none⟩ = some (.int .i64 (Fb.fb k1 : Int)) ∧ wq.cell? ⟨g, k2, none⟩ = some (.int .i64 (Fb.fb k2 : Int))) [15, 16] (by kernel_rfl) ?_
      refine Anc.AnyC.take (i := 0) (v := ?_) [15, 16] (by simp only [List.getElem?_toArray, List.getElem?_cons_zero]; rfl) (by kernel_rfl) (by kernel_rfl) (by kernel_rfl) (by kernel_rfl) (by kernel_rfl) (by kernel_rfl) (by intro _ _ _ h; exact h) (Or.inl ⟨by rfl, ?_⟩) (by assumption) ?_
      rotate_left 1
      · (intro wq hSq; (try dsimp only at hSq); go_simp; try with_reducible rfl)
      (try simp only [Act.put, List.setIfInBounds_toArray, List.set_cons_zero, List.set_cons_succ])
      refine Anc.AnyC.take (i := 1) (v := ?_) [5, 6, 13, 14, 15, 16] (by simp only [List.getElem?_toArray, List.getElem?_cons_zero, List.getElem?_cons_succ]; rfl) (by kernel_rfl) (by kernel_rfl) (by kernel_rfl) (by kernel_rfl) (by kernel_rfl) (by kernel_rfl) (by intro _ _ _ h; exact h) (Or.inl ⟨by rfl, ?_⟩) (by assumption) ?_
      rotate_left 1
      · (intro wq hSq; (try dsimp only at hSq); go_simp; try with_reducible rfl)
      (try simp only [Act.put, List.setIfInBounds_toArray, List.set_cons_zero, List.set_cons_succ])
      refine Anc.AnyC.take (i := 2) (v := ?_) [3, 4, 5, 6, 13, 14, 15, 16] (by simp only [List.getElem?_toArray, List.getElem?_cons_zero, List.getElem?_cons_succ]; rfl) (by kernel_rfl) (by kernel_rfl) (by kernel_rfl) (by kernel_rfl) (by kernel_rfl) (by kernel_rfl) (by intro _ _ _ h; exact h) (Or.inl ⟨by rfl, ?_⟩) (by assumption) ?_
      rotate_left 1
      · (intro wq hSq; (try dsimp only at hSq); go_simp; try with_reducible rfl)
      (try simp only [Act.put, List.setIfInBounds_toArray, List.set_cons_zero, List.set_cons_succ])
      refine Anc.AnyC.take (i := 3) (v := ?_) [4, 5, 6, 13, 14, 15, 16] (by simp only [List.getElem?_toArray, List.getElem?_cons_zero, List.getElem?_cons_succ]; rfl) (by kernel_rfl) (by kernel_rfl) (by kernel_rfl) (by kernel_rfl) (by kernel_rfl) (by kernel_rfl) (by intro _ _ _ h; exact h) (Or.inl ⟨by rfl, ?_⟩) (by assumption) ?_
      rotate_left 1
      · (intro wq hSq; (try dsimp only at hSq); go_simp; try with_reducible rfl)
      (try simp only [Act.put, List.setIfInBounds_toArray, List.set_cons_zero, List.set_cons_succ])
      refine Anc.AnyC.take (i := 4) (v := ?_) [5, 6, 13, 14, 15, 16] (by simp only [List.getElem?_toArray, List.getElem?_cons_zero, List.getElem?_cons_succ]; rfl) (by kernel_rfl) (by kernel_rfl) (by kernel_rfl) (by kernel_rfl) (by kernel_rfl) (by kernel_rfl) (by intro _ _ _ h; exact h) (Or.inl ⟨by rfl, ?_⟩) (by assumption) ?_
      rotate_left 1
      · (intro wq hSq; (try dsimp only at hSq); go_simp; try with_reducible rfl)
      (try simp only [Act.put, List.setIfInBounds_toArray, List.set_cons_zero, List.set_cons_succ])
      refine Anc.AnyC.take (i := 5) (v := ?_) [6, 13, 14, 15, 16] (by simp only [List.getElem?_toArray, List.getElem?_cons_zero, List.getElem?_cons_succ]; rfl) (by kernel_rfl) (by kernel_rfl) (by kernel_rfl) (by kernel_rfl) (by kernel_rfl) (by kernel_rfl) (by intro _ _ _ h; exact h) (Or.inl ⟨by rfl, ?_⟩) (by assumption) ?_
      rotate_left 1
      · (intro wq hSq; (try dsimp only at hSq); go_simp; try with_reducible rfl)
      (try simp only [Act.put, List.setIfInBounds_toArray, List.set_cons_zero, List.set_cons_succ])
      refine Anc.AnyC.take (i := 6) (v := ?_) [13, 14, 15, 16] (by simp only [List.getElem?_toArray, List.getElem?_cons_zero, List.getElem?_cons_succ]; rfl) (by kernel_rfl) (by kernel_rfl) (by kernel_rfl) (by kernel_rfl) (by kernel_rfl) (by kernel_rfl) (by intro _ _ _ h; exact h) (Or.inl ⟨by rfl, ?_⟩) (by assumption) ?_
      rotate_left 1
      · (intro wq hSq; (try dsimp only at hSq); go_simp; try with_reducible rfl)
      (try simp only [Act.put, List.setIfInBounds_toArray, List.set_cons_zero, List.set_cons_succ])
      refine Anc.AnyC.take (i := 7) (v := ?_) [11, 12, 13, 14, 15, 16] (by simp only [List.getElem?_toArray, List.getElem?_cons_zero, List.getElem?_cons_succ]; rfl) (by kernel_rfl) (by kernel_rfl) (by kernel_rfl) (by kernel_rfl) (by kernel_rfl) (by kernel_rfl) (by intro _ _ _ h; exact h) (Or.inl ⟨by rfl, ?_⟩) (by assumption) ?_
      rotate_left 1
      · (intro wq hSq; (try dsimp only at hSq); go_simp; try with_reducible rfl)
      (try simp only [Act.put, List.setIfInBounds_toArray, List.set_cons_zero, List.set_cons_succ])
      refine Anc.AnyC.take (i := 8) (v := ?_) [9, 10, 11, 12, 13, 14, 15, 16] (by simp only [List.getElem?_toArray, List.getElem?_cons_zero, List.getElem?_cons_succ]; rfl) (by kernel_rfl) (by kernel_rfl) (by kernel_rfl) (by kernel_rfl) (by kernel_rfl) (by kernel_rfl) (by intro _ _ _ h; exact h) (Or.inl ⟨by rfl, ?_⟩) (by assumption) ?_
      rotate_left 1
      · (intro wq hSq; (try dsimp only at hSq); go_simp; try with_reducible rfl)
      (try simp only [Act.put, List.setIfInBounds_toArray, List.set_cons_zero, List.set_cons_succ])
      refine Anc.AnyC.take (i := 9) (v := ?_) [10, 11, 12, 13, 14, 15, 16] (by simp only [List.getElem?_toArray, List.getElem?_cons_zero, List.getElem?_cons_succ]; rfl) (by kernel_rfl) (by kernel_rfl) (by kernel_rfl) (by kernel_rfl) (by kernel_rfl) (by kernel_rfl) (by intro _ _ _ h; exact h) (Or.inl ⟨by rfl, ?_⟩) (by assumption) ?_
      rotate_left 1
      · (intro wq hSq; (try dsimp only at hSq); go_simp; try with_reducible rfl)
      (try simp only [Act.put, List.setIfInBounds_toArray, List.set_cons_zero, List.set_cons_succ])
      refine Anc.AnyC.take (i := 10) (v := ?_) [11, 12, 13, 14, 15, 16] (by simp only [List.getElem?_toArray, List.getElem?_cons_zero, List.getElem?_cons_succ]; rfl) (by kernel_rfl) (by kernel_rfl) (by kernel_rfl) (by kernel_rfl) (by kernel_rfl) (by kernel_rfl) (by intro _ _ _ h; exact h) (Or.inl ⟨by rfl, ?_⟩) (by assumption) ?_
      rotate_left 1
      · (intro wq hSq; (try dsimp only at hSq); go_simp; try with_reducible rfl)
      (try simp only [Act.put, List.setIfInBounds_toArray, List.set_cons_zero, List.set_cons_succ])
      refine Anc.AnyC.take (i := 11) (v := ?_) [12, 13, 14, 15, 16] (by simp only [List.getElem?_toArray, List.getElem?_cons_zero, List.getElem?_cons_succ]; rfl) (by kernel_rfl) (by kernel_rfl) (by kernel_rfl) (by kernel_rfl) (by kernel_rfl) (by kernel_rfl) (by intro _ _ _ h; exact h) (Or.inl ⟨by rfl, ?_⟩) (by assumption) ?_
      rotate_left 1
      · (intro wq hSq; (try dsimp only at hSq); go_simp; try with_reducible rfl)
      (try simp only [Act.put, List.setIfInBounds_toArray, List.set_cons_zero, List.set_cons_succ])
      refine Anc.AnyC.take (i := 12) (v := ?_) [13, 14, 15, 16] (by simp only [List.getElem?_toArray, List.getElem?_cons_zero, List.getElem?_cons_succ]; rfl) (by kernel_rfl) (by kernel_rfl) (by kernel_rfl) (by kernel_rfl) (by kernel_rfl) (by kernel_rfl) (by intro _ _ _ h; exact h) (Or.inl ⟨by rfl, ?_⟩) (by assumption) ?_
      rotate_left 1
      · (intro wq hSq; (try dsimp only at hSq); go_simp; try with_reducible rfl)
      (try simp only [Act.put, List.setIfInBounds_toArray, List.set_cons_zero, List.set_cons_succ])
      refine Anc.AnyC.take (i := 13) (v := ?_) [14, 15, 16] (by simp only [List.getElem?_toArray, List.getElem?_cons_zero, List.getElem?_cons_succ]; rfl) (by kernel_rfl) (by kernel_rfl) (by kernel_rfl) (by kernel_rfl) (by kernel_rfl) (by kernel_rfl) (by intro _ _ _ h; exact h) (Or.inl ⟨by rfl, ?_⟩) (by assumption) ?_
      rotate_left 1
      · (intro wq hSq; (try dsimp only at hSq); go_simp; try with_reducible rfl)
      (try simp only [Act.put, List.setIfInBounds_toArray, List.set_cons_zero, List.set_cons_succ])
      have hHeld2 : (fun wq : World => wq.cell? ⟨g, k1, none⟩ = some (.int .i64 (Fb.fb k1 : Int)) ∧ wq.cell? ⟨g, k2, none⟩ = some (.int .i64 (Fb.fb k2 : Int))) (wr.alloc (.cells #[.int .i64 (Fb.fb k : Int)] 2)).drew := ⟨((below_alloc wr _).cell (p := ⟨g, k1, none⟩) hgl).trans hc1, ((below_alloc wr _).cell (p := ⟨g, k2, none⟩) hgl).trans hc2⟩
      refine Anc.AnyC.one (i := 14) (by kernel_rfl) rfl (fun K hK => ?_)
      go_simp
      refine hK.out _ _ (fun _ => hHeld2) ?_
      clear hK K
      (try simp only [Act.put, List.setIfInBounds_toArray, List.set_cons_zero, List.set_cons_succ])
      refine Anc.AnyC.one (i := 15) (by kernel_rfl) rfl (fun K hK => ?_)
      refine step_append_lies _ (by rfl) _ _ _ (by rfl) (w.heap.size) 2 i0 (.int .i64 0) 1 8 Try.underlying22 hi hz0 hz1 hz2 rfl (by omega) (.slice (some ⟨g, 0, none⟩) k cap) k ((Fb.fbL k).map (Value.int .i64)) (by rfl) (World.ownsRow.alloc HO.out _) ⟨wr.heap.size, 0, none⟩ 1 1 [.int .i64 (Fb.fb k : Int)] (by rfl) rfl (World.news_of_block (cs := #[.int .i64 (Fb.fb k : Int)]) (t := 2) (fr := (0, 0)) (heap_alloc_new _ _)) (by simp [Value.oneCell']) (by omega) (by unfold maxLen; omega) (by omega) (by simp; omega) (wr.heap.size + 1) (by simp) ?_
      intro gg cp w3 hown1 hgrow hat hlt2
      have HO2 := Lib.hid hown1; have HG2 := Lib.hid hgrow; clear hown1 hgrow hat hlt2
      refine hK.out _ _ (fun h => by cases h) ?_
      clear hK K
      (try simp only [Act.put, List.setIfInBounds_toArray, List.set_cons_zero, List.set_cons_succ])
      refine Anc.AnyC.one (i := 16) (by kernel_rfl) rfl (fun K hK => ?_)
      go_simp
      refine hK.out _ _ (fun h => by cases h) ?_
      clear hK K
      refine Anc.AnyC.done (by kernel_rfl) ?_ _
      go_wp2
      exact ⟨⟨k + 1, gg, cp, _, by omega, by have := HKK.out; omega, rfl, rfl, Lib.hid (by rw [Fb.fbL_on, List.map_append]; exact HO2.out), Lib.hid (Below.grown (Below.drew (Below.alloc HW.out HW.out.size _)) HG2.out (by simp; omega) HNE.out)⟩, by have := HKK.out; show K + 2 - (k + 1) < K + 2 - k; omega⟩
    · have hkk : k1 = K := by omega
      have hgt := HN.out
      have hd : decide ((Fb.fb k1 : Int) ≤ (n : Int)) = false := decide_eq_false (by rw [hkk]; omega)
      have hdn : decide (Fb.fb k1 ≤ n) = false := decide_eq_false (by rw [hkk]; omega)
      have hdq : ¬ Fb.fb k1 ≤ n := by rw [hkk]; omega
      have HCL : Hid (∀ i, i < K + 1 → wr.cell? ⟨g, i, none⟩ = some (.int .i64 (Fb.fb i : Int))) := Lib.hid (fun i hi2 => by have := own_cell HO.out (show i < k by omega); rwa [Fb.fbL_at (show i < k by omega)] at this)
      have HKK := Lib.hid (show k1 = K ∧ k = K + 1 by omega)
      clear hs1 hs2 hw2 hc2 hlt2 hlt2i hp2 hk1 hk2' hkk
      have hkm : IntKind.i64.wrap ((K : Int)) = (K : Int) := IntWalk.i64_in _ (by omega)
      go_wp2
      go_loop [0, 4, 5] (fun nv ov iv => ∃ m : Nat, m ≤ K + 1 ∧ nv = .int .i64 (Fb.rs n K (m - 1) : Int) ∧ ov = .string (txB (Fb.dgL n K (m - 1))) ∧ iv = .int .i64 ((K : Int) - (m : Int))) (fun _ _ iv => (intOf iv + 1).toNat)
      case atStart => exact ⟨0, by omega, rfl, rfl, by have := HKK.out; first | rfl | go_num | (congr 1; omega) | (simp; omega)⟩
      case round =>
        obtain ⟨m, hm, rfl, rfl, rfl⟩ := hrel
        by_cases hmk : m ≤ K
        · obtain ⟨i, hi'⟩ : ∃ i, i = K - m := ⟨_, rfl⟩
          have hii : (K : Int) - (m : Int) = (i : Int) := by omega
          have hci := HCL.out i (by omega)
          have hik : i < k := by have := HKK.out; omega
          have hiki : (i : Int) < (k : Int) := by omega
          have hwi : IntKind.i64.wrap ((i : Int) - 1) = (i : Int) - 1 := IntWalk.i64_in _ (by omega)
          have HI : Hid ((i : Int) = (K : Int) - (m : Int) ∧ i = K - m) := Lib.hid ⟨by omega, hi'⟩
          rw [hii]
          by_cases h0 : m = 0
          · subst h0
            have hdi : decide ((Fb.fb i : Int) ≤ (Fb.rs n K (0 - 1) : Int)) = false := decide_eq_false (by
              have h1 : i = K := by omega
              rw [h1]
              show ¬ (Fb.fb K : Int) ≤ (n : Int)
              have := HN.out
              omega)
            have hdi2 : ¬ Fb.fb i ≤ Fb.rs n K (0 - 1) := by have := of_decide_eq_false hdi; omega
            have hdi3 : decide (Fb.fb i ≤ Fb.rs n K (0 - 1)) = false := decide_eq_false hdi2
            have HR : Hid (Fb.rs n K (0 - 1) = Fb.rs n K (1 - 1)) := Lib.hid rfl
            have HDG : Hid (Fb.dgL n K (0 - 1) = Fb.dgL n K (1 - 1)) := Lib.hid rfl
            have htx : txB (Fb.dgL n K (0 - 1)) = ⟨#[]⟩ := rfl
            rw [htx]
            clear hii hi'
            clear HR
            generalize hr : Fb.rs n K (0 - 1) = r at hdi hdi2 hdi3 ⊢
            have HR := Lib.hid hr.symm
            clear hr
            go_wp2
            exact ⟨⟨1, by omega, by rw [HR.out] <;> rfl, rfl, by have := HI.out; first | (congr 1; omega) | rfl⟩, by show ((i : Int) - 1 + 1).toNat < ((i : Int) + 1).toNat; omega⟩
          · obtain ⟨j, rfl⟩ : ∃ j, m = j + 1 := ⟨m - 1, by omega⟩
            rw [show j + 1 - 1 = j by omega]
            have hjK : j < K := by omega
            have hij : i = K - 1 - j := by omega
            have HDG := Lib.hid (Fb.dgL_on (n := n) hjK)
            rw [← hij] at HDG
            have hll : (Fb.dgL n K j).length ≤ 29 := by rw [Fb.dgL_len]; omega
            have hrle := Fb.rs_le n K j
            by_cases hyes : Fb.fb i ≤ Fb.rs n K j
            · have hdy : decide (Fb.fb i ≤ Fb.rs n K j) = true := decide_eq_true hyes
              have hdyi : decide ((Fb.fb i : Int) ≤ (Fb.rs n K j : Int)) = true := decide_eq_true (by omega)
              obtain ⟨h1, h2⟩ := Fb.dg_yes (n := n) hjK (by rw [← hij]; exact hyes)
              rw [← hij] at h1 h2
              have HD2 := Lib.hid (HDG.out.trans (by rw [h1]))
              have HR2 := Lib.hid h2
              have hadd := fun W : World => run_tx Try.prog [49] (Fb.dgL n K j) (by simp; omega) W
              have hone : txB [49] = ⟨#[49]⟩ := rfl
              rw [hone] at hadd
              have hsub : IntKind.i64.wrap ((Fb.rs n K j : Int) - (Fb.fb i : Int)) = ((Fb.rs n K j - Fb.fb i : Nat) : Int) := by rw [IntWalk.i64_in _ (by omega)]; omega
              have hsub2 : (Fb.rs n K j : Int) - (Fb.fb i : Int) = ((Fb.rs n K j - Fb.fb i : Nat) : Int) := by omega
              clear hii hi' hij h1 h2 HDG h0
              generalize Fb.dgL n K j = L at HD2 hadd hll ⊢
              generalize Fb.rs n K j = r at hdy hdyi HR2 hsub hsub2 hyes hrle ⊢
              generalize Fb.fb i = f at hdy hdyi HR2 hsub hsub2 hyes hci
              have hwsub : IntKind.i64.wrap (((r - f : Nat)) : Int) = ((r - f : Nat) : Int) := IntWalk.i64_in _ (by omega)
              generalize r - f = rf at HR2 hsub hsub2 hwsub
              go_wp2
              exact ⟨⟨j + 2, by omega, by rw [show j + 2 - 1 = j + 1 by omega, HR2.out], by rw [show j + 2 - 1 = j + 1 by omega, HD2.out]; (try rfl), by have := HI.out; first | (congr 1; omega) | rfl⟩, by show ((i : Int) - 1 + 1).toNat < ((i : Int) + 1).toNat; omega⟩
            · have hdy : decide (Fb.fb i ≤ Fb.rs n K j) = false := decide_eq_false hyes
              have hdyi : decide ((Fb.fb i : Int) ≤ (Fb.rs n K j : Int)) = false := decide_eq_false (by omega)
              obtain ⟨h1, h2⟩ := Fb.dg_no (n := n) hjK (by rw [← hij]; exact hyes)
              rw [← hij] at h1
              have HD2 := Lib.hid (HDG.out.trans (by rw [h1]))
              have HR2 := Lib.hid h2
              have hj0 : j ≠ 0 := fun e => by
                subst e
                apply hyes
                show Fb.fb i ≤ n
                exact HK.out i (by omega)
              have hne : Fb.dgL n K j ≠ [] := fun e => by
                have := Fb.dgL_len n K j
                rw [e] at this
                exact hj0 this.symm
              have hadd := fun W : World => run_tx Try.prog [48] (Fb.dgL n K j) (by simp; omega) W
              have hone : txB [48] = ⟨#[48]⟩ := rfl
              rw [hone] at hadd
              clear hii hi' hij h1 h2 HDG h0
              generalize Fb.dgL n K j = L at HD2 hadd hll hne ⊢
              generalize Fb.rs n K j = r at hdy hdyi HR2 hyes hrle ⊢
              have hq : ¬ txB L = (⟨#[]⟩ : ByteArray) := fun e => hne (by
                have h1 := congrArg ByteArray.size e
                rw [txB_size] at h1
                exact List.length_eq_zero_iff.1 h1)
              have hqe : (txB L).toList.isEmpty = false := by
                refine toList_ne _ ?_
                rw [txB_size]
                exact List.length_pos_iff.2 hne
              go_wp2
              exact ⟨⟨j + 2, by omega, by rw [show j + 2 - 1 = j + 1 by omega, HR2.out], by rw [show j + 2 - 1 = j + 1 by omega, HD2.out]; (try rfl), by have := HI.out; first | (congr 1; omega) | rfl⟩, by show ((i : Int) - 1 + 1).toNat < ((i : Int) + 1).toNat; omega⟩
        · obtain rfl : m = K + 1 := by omega
          have hneg : (K : Int) - ((K + 1 : Nat) : Int) = -1 := by omega
          rw [hneg, show K + 1 - 1 = K by omega]
          have hadd := fun W : World => run_tx Try.prog (Fb.dgL n K K) [49] (by rw [Fb.dgL_len]; simp; omega) W
          have hone : txB [49] = ⟨#[49]⟩ := rfl
          rw [hone] at hadd
          go_wp2
          go_ret
          exact ⟨rfl, HW.out⟩
end Go.Proofs.Ytaefmffmjbabcaa
