/- Parts of tables: walks. -/
import Derived.Test.YtffamppflelflaaRcv
namespace Go.Proofs.Ytffamppflelflaa
open Go.Proofs.Ytffamppflelflaa.Flo Go.RowKit

theorem giveI_yes (a : Option Addr) (n cap : Nat) (zs : List Nat) (w : World) (ha : FRow w a n zs) (hn : n ≤ 1048576) (h : rowB zs n = true) :
    Calls Try.prog 77 #[.slice a n cap] w fun e w' => e = .returned (.tuple #[.slice a n cap, .bool true]) ∧ Drew w w' := by
  have HA := Lib.hid ha
  clear ha
  go_enter Try.func77, Try.ntmps77
  go_wp2_with (first | (go_at_call 60; refine (row_impl _ n _ zs _ HA.out hn).mono ?_; rintro e w' ⟨rfl, q6, rfl⟩) | go_in)
  go_ret2
  exact ⟨rfl, Drew.mk _ _⟩
theorem giveI_no (a : Option Addr) (n cap : Nat) (zs : List Nat) (w : World) (ha : FRow w a n zs) (hn : n ≤ 1048576) (h : rowB zs n = false) :
    Calls Try.prog 77 #[.slice a n cap] w fun e w' => e = .returned (.tuple #[.slice none 0 0, .bool false]) ∧ Drew w w' := by
  have HA := Lib.hid ha
  clear ha
  go_enter Try.func77, Try.ntmps77
  go_wp2_with (first | (go_at_call 60; refine (row_impl _ n _ zs _ HA.out hn).mono ?_; rintro e w' ⟨rfl, q6, rfl⟩) | go_in)
  go_ret2
  exact ⟨rfl, Drew.mk _ _⟩
set_option maxHeartbeats 2000000 in
theorem part_impl (R : Int) (b off n C i lo hi : Nat) (w : World) (hlo : lo = i * C) (hhi : hi = lo + C) (hin : hi ≤ n) (hC : 1 ≤ C) (hn : n ≤ 64) :
    Calls Try.prog 87 #[.agg #[.int .i64 R, .int .i64 (C : Int), .slice (some ⟨b, off, none⟩) n n], .int .i64 (i : Int)] w fun e w' => e = .returned (.slice (some ⟨b, off + lo, none⟩) C (n - lo)) ∧ Below w.heap.size w w' := by
  have hi64 : i ≤ 64 := Nat.le_trans (Nat.le_trans (Nat.le_mul_of_pos_right i (by omega)) (by omega : i * C ≤ n)) hn
  have hw1 : IntKind.i64.wrap ((i : Int) * (C : Int)) = (lo : Int) := by rw [hlo, Int.natCast_mul]; exact IntWalk.i64_in _ (by rw [← Int.natCast_mul]; omega)
  have hw2 : IntKind.i64.wrap ((i : Int) + 1) = (i : Int) + 1 := IntWalk.i64_in _ (by omega)
  have hw3 : IntKind.i64.wrap (((i : Int) + 1) * (C : Int)) = (hi : Int) := by
    have e : ((i : Int) + 1) * (C : Int) = (hi : Int) := by rw [hhi, hlo, Int.add_mul, Int.one_mul, ← Int.natCast_mul]; omega
    rw [e]; exact IntWalk.i64_in _ (by omega)
  have hlh : lo ≤ hi := by omega
  have hlt : lo < n := by omega
  have HE : Hid (hi - lo = C) := Lib.hid (by omega)
  clear hlo hhi
  go_enter Try.func87, Try.ntmps87
  go_wp2
  go_ret
  exact ⟨by rw [HE.out]; rfl, below_alloc _ _⟩
/-- The quotients of numbers and a whole. -/
def quoV (zs : List Nat) (y : Nat) (i : Nat) : Option Nat := vop .quo .f32 (cls .f32 (zs.getD i 0)) (cls .f32 y)
theorem mix_put (zs : List Nat) (k n z : Nat) (hk : k < n) (h : zs.length = n) : (mix zs k n).setIfInBounds k (.float .f32 z) = mix (zs.set k z) (k + 1) n := by
  have e1 : mix zs k n = mix (zs.set k z) k n := by
    unfold mix
    rw [← List.map_take, ← List.map_take, List.take_set_of_le (by omega)]
  have e2 : (zs.set k z).getD k 0 = z := by rw [List.getD_eq_getElem?_getD, List.getElem?_set_self (by omega)]; rfl
  have := mix_set (zs.set k z) k n hk (by rw [List.length_set]; exact h)
  rw [e2] at this
  rw [e1, this]
theorem set_cls {zq : List Nat} {k z n : Nat} {V : Nat → Option Nat} (h : ∀ i, i < k → cls .f32 (zq.getD i 0) = V i) (hz : cls .f32 z = V k) (hl : zq.length = n) (hk : k < n) : ∀ i, i < k + 1 → cls .f32 ((zq.set k z).getD i 0) = V i := by
  intro i hi
  by_cases e : i = k
  · subst e
    rw [List.getD_eq_getElem?_getD, List.getElem?_set_self (by omega)]; exact hz
  · rw [List.getD_eq_getElem?_getD, List.getElem?_set_ne (fun e2 => e e2.symm), ← List.getD_eq_getElem?_getD]; exact h i (by omega)
set_option maxRecDepth 100000 in
set_option maxHeartbeats 4000000 in
theorem quot_impl (a : Option Addr) (n cap : Nat) (zs : List Nat) (y : Nat) (w : World) (ha : FRow w a n zs) (hn : n ≤ 1048576) :
    Calls Try.prog 97 #[.slice a n cap, .float .f32 y] w fun e w' => ∃ zq, e = .returned (.slice (some ⟨w.heap.size, 0, none⟩) n n) ∧ FRow w' (some ⟨w.heap.size, 0, none⟩) n zq ∧ (∀ i, i < n → cls .f32 (zq.getD i 0) = quoV zs y i) ∧ (∀ j, j < n → w'.frozen? ⟨w.heap.size, j, none⟩ = false) ∧ w.heap.size < w'.heap.size ∧ Below w.heap.size w w' := by
  have HA := Lib.hid ha
  have hmk := fun w2 : World => run_make_row' (P := Try.prog) 22 32 (.float .f32 0) 4 Try.underlying22 Try.info32 rfl .i64 .i64 n (by omega) (by omega) w2
  clear ha
  go_enter Try.func97, Try.ntmps97
  go_wp2
  go_loopw [13] (fun iv w' => ∃ k : Nat, k ≤ n ∧ iv = .int .i64 k ∧ ∃ (q : Nat) (zq : List Nat), w' = (w.alloc (.cells (mix zq k n) 32)).drewN q ∧ Hid (zq.length = n) ∧ Hid (∀ i, i < k → cls .f32 (zq.getD i 0) = quoV zs y i)) (fun iv _ => n - (intOf iv).toNat)
  case atStart => exact ⟨0, by omega, rfl, 0, List.replicate n 0, by rw [mix_zero]; rfl, Lib.hid (by simp), Lib.hid (by intro i hi; omega)⟩
  case round =>
    obtain ⟨k, hk, rfl, q, zq, rfl, HL, HC⟩ := hrel
    clear hmk
    by_cases hlt : k < n
    · rcases HA.out.2 with h0 | ⟨b1, o1, rfl, hbb1, hc1⟩
      · omega
      have hck1 : (w.alloc (.cells (mix zq k n) 32)).cell? ⟨b1, o1 + k, none⟩ = some (.float .f32 (zs.getD k 0)) := (World.cell?_alloc_past _ _ _ hbb1).trans (hc1 k hlt)
      have hst : ∀ (m : Mode) (Q z : Nat), (store ⟨w.heap.size, k, none⟩ (.float .f32 z) m).run Try.prog ((w.alloc (.cells (mix zq k n) 32)).drewN Q) = .ok () ((w.alloc (.cells (mix (zq.set k z) (k + 1) n) 32)).drewN Q) := fun m Q z => by
        rw [store_at Try.prog w _ _ w.heap.size k _ Q m rfl (by rw [mix_size zq k n hk HL.out]; exact hlt), mix_put zq k n z hlt HL.out]
      have HV : ∀ W, Hid (cls .f32 (fres .quo .f32 (zs.getD k 0) y W) = quoV zs y k) := fun W => Lib.hid (by rw [fres_cls]; rfl)
      clear hc1
      generalize zs.getD k 0 = x at hck1 HV
      go_wp2
      refine ⟨⟨k + 1, by omega, by first | rfl | go_num | (congr 1), _, zq.set k (fres .quo .f32 x y _), rfl, Lib.hid (by rw [List.length_set]; exact HL.out), Lib.hid (set_cls HC.out (HV _).out HL.out hlt)⟩, by show n - ((k : Int) + 1).toNat < n - (k : Int).toNat; omega⟩
    · obtain rfl : k = n := by omega
      have HALL := Lib.hid (mix_all zq k HL.out)
      rw [HALL.out]
      go_wp2
      go_ret
      exact ⟨zq, rfl, (FRow.new' HL.out rfl _).drewN _, HC.out, fun j _ => World.frozen?_alloc_at _ _ _ _ rfl, by simp, Below.drewN' (below_alloc _ _) _⟩
end Go.Proofs.Ytffamppflelflaa
