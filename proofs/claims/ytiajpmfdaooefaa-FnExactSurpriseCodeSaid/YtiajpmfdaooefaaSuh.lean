/- SurpriseCode: what both answer. -/
import Derived.Test.YtiajpmfdaooefaaSug
namespace Go.Proofs.Ytiajpmfdaooefaa.Su
open Go.Proofs.Ytiajpmfdaooefaa.Flo Go.Proofs.Ytiajpmfdaooefaa Go.RowKit

def okU (zs : List Nat) (n : Nat) : Bool := rowB zs n && (decide (surP zs n) && codeB (sxL zs n) n)
theorem okU_out {zs : List Nat} {n : Nat} (h : okU zs n = true) : rowB zs n = true ∧ surP zs n ∧ codeB (sxL zs n) n = true := by
  unfold okU at h
  rw [Bool.and_eq_true, Bool.and_eq_true] at h
  exact ⟨h.1, of_decide_eq_true h.2.1, h.2.2⟩
theorem okU_n {zs : List Nat} {n : Nat} (h : okU zs n = true) : n ≤ 1048576 := by
  have := (code_out (okU_out h).2.2).1.2
  omega
theorem sp_yes {B : Bool} {L : List Int} {n : Nat} {w w' : World} {e : Ending} (h : SuPost B L n w e w') (hB : B = true) : ∃ g cp, e = .returned (.tuple #[.agg #[.slice (some ⟨g, 0, none⟩) n cp], .bool true]) ∧ New w w' g (.il n L) := by
  rcases h with ⟨_, h⟩ | ⟨h, _⟩
  · exact h
  · rw [hB] at h; cases h
theorem sp_no {B : Bool} {L : List Int} {n : Nat} {w w' : World} {e : Ending} (h : SuPost B L n w e w') (hB : B = false) : e = .returned (.tuple #[.agg #[.slice none 0 0], .bool false]) ∧ Below w.heap.size w w' := by
  rcases h with ⟨h, _⟩ | ⟨_, h⟩
  · rw [hB] at h; cases h
  · exact h
theorem uI_yes (a : Option Addr) (n cap : Nat) (zs : List Nat) (w : World) (h : FRow w a n zs) (hn : n ≤ 1048576) (hok : okU zs n = true) : Calls Try.prog 48 #[.slice a n cap] w fun e w' => ∃ g cp, e = .returned (.tuple #[.agg #[.slice (some ⟨g, 0, none⟩) n cp], .bool true]) ∧ New w w' g (.il n (sxL zs n)) :=
  (scI a n cap zs w h hn (okU_out hok).1).mono fun _ _ h => sp_yes h (by rw [decide_eq_true (okU_out hok).2.1, (okU_out hok).2.2]; rfl)
set_option maxRecDepth 100000 in
set_option maxHeartbeats 2000000 in
theorem uI_no (a : Option Addr) (n cap : Nat) (zs : List Nat) (w : World) (h : FRow w a n zs) (hn : n ≤ 1048576) (hok : okU zs n = false) : Calls Try.prog 48 #[.slice a n cap] w fun e w' => e = .returned (.tuple #[.agg #[.slice none 0 0], .bool false]) ∧ Below w.heap.size w w' := by
  cases hr : rowB zs n with
  | true => exact (scI a n cap zs w h hn hr).mono fun _ _ h => sp_no h (by unfold okU at hok; rw [hr, Bool.true_and] at hok; exact hok)
  | false =>
    have HA0 := Lib.hid (h.alloc (.cells #[.slice none 0 0] 27))
    have HR0 := Lib.hid (CIn.new w (.slice none 0 0) 27)
    clear h
    go_enter Try.func48, Try.ntmps48
    go_wp2_with (first | (go_at_call 65; refine (row_impl a n cap zs _ HA0.out hn).mono ?_; rintro e w1 ⟨rfl, hd⟩; obtain ⟨hl1, hr1, hr2⟩ := HR0.out.below hd.below; have HPT := Lib.hid ((HR0.out.below hd.below).put (.slice none 0 0)); have HWF : Hid (Below w.heap.size w w1) := Lib.hid (Below.next (below_alloc _ _) hd.below); clear hd) | go_in)
    exact bodyPost_ret (v := .tuple #[.agg #[.slice none 0 0], .bool false]) (by simp [results, Try.results48, go_sem, HPT.out]) rfl
      ⟨rfl, by repeat (first | exact HWF.out | refine Below.drewN' ?_ _ | refine Below.setCell ?_ (by first | (simp; done) | (simp; omega)) _)⟩
theorem uS_yes (a : Option Addr) (n cap : Nat) (zs : List Nat) (w : World) (h : FRow w a n zs) (hn : n ≤ 1048576) (hok : okU zs n = true) : Calls Try.prog 47 #[.slice a n cap] w fun e w' => ∃ g cp, e = .returned (.tuple #[.agg #[.slice (some ⟨g, 0, none⟩) n cp], .bool true]) ∧ New w w' g (.il n (sxL zs n)) :=
  (scS a n cap zs w h hn (okU_out hok).1 (code_out (okU_out hok).2.2).1.2).mono fun _ _ h => by
    have h2 := codes_same (okU_out hok).2.1
    rw [← h2.2 (okU_out hok).2.2]
    exact sp_yes h (by rw [decide_eq_true (okU_out hok).2.1, h2.1, (okU_out hok).2.2]; rfl)
set_option maxRecDepth 100000 in
set_option maxHeartbeats 2000000 in
theorem uS_no (a : Option Addr) (n cap : Nat) (zs : List Nat) (w : World) (h : FRow w a n zs) (hn : n ≤ 1048576) (hok : okU zs n = false) : Calls Try.prog 47 #[.slice a n cap] w fun e w' => e = .returned (.tuple #[.agg #[.slice none 0 0], .bool false]) ∧ Below w.heap.size w w' := by
  cases hr : rowB zs n with
  | true =>
    by_cases h16 : n ≤ 16
    · exact (scS a n cap zs w h hn hr h16).mono fun _ _ h => sp_no h (by
        unfold okU at hok
        rw [hr, Bool.true_and] at hok
        by_cases hp : surP zs n
        · rw [(codes_same hp).1]; exact hok
        · rw [decide_eq_false hp]; rfl)
    · have HA0 := Lib.hid (h.alloc (.cells #[.slice none 0 0] 27))
      have HR0 := Lib.hid (CIn.new w (.slice none 0 0) 27)
      have hd16 : decide (16 < (n : Int)) = true := decide_eq_true (by omega)
      clear h
      go_enter Try.func47, Try.ntmps47
      go_wp2_with (first | (go_at_call 63; refine (row_spec a n cap zs _ HA0.out hn).mono ?_; rintro e w1 ⟨rfl, hd⟩; obtain ⟨hl1, hr1, hr2⟩ := HR0.out.below hd.below; have HPT := Lib.hid ((HR0.out.below hd.below).put (.slice none 0 0)); have HWF : Hid (Below w.heap.size w w1) := Lib.hid (Below.next (below_alloc _ _) hd.below); clear hd) | go_in)
      exact bodyPost_ret (v := .tuple #[.agg #[.slice none 0 0], .bool false]) (by simp [results, Try.results47, go_sem, HPT.out]) rfl
        ⟨rfl, by repeat (first | exact HWF.out | refine Below.drewN' ?_ _ | refine Below.setCell ?_ (by first | (simp; done) | (simp; omega)) _)⟩
  | false =>
    have HA0 := Lib.hid (h.alloc (.cells #[.slice none 0 0] 27))
    have HR0 := Lib.hid (CIn.new w (.slice none 0 0) 27)
    clear h
    go_enter Try.func47, Try.ntmps47
    go_wp2_with (first | (go_at_call 63; refine (row_spec a n cap zs _ HA0.out hn).mono ?_; rintro e w1 ⟨rfl, hd⟩; obtain ⟨hl1, hr1, hr2⟩ := HR0.out.below hd.below; have HPT := Lib.hid ((HR0.out.below hd.below).put (.slice none 0 0)); have HWF : Hid (Below w.heap.size w w1) := Lib.hid (Below.next (below_alloc _ _) hd.below); clear hd) | go_in)
    exact bodyPost_ret (v := .tuple #[.agg #[.slice none 0 0], .bool false]) (by simp [results, Try.results47, go_sem, HPT.out]) rfl
      ⟨rfl, by repeat (first | exact HWF.out | refine Below.drewN' ?_ _ | refine Below.setCell ?_ (by first | (simp; done) | (simp; omega)) _)⟩
end Go.Proofs.Ytiajpmfdaooefaa.Su
