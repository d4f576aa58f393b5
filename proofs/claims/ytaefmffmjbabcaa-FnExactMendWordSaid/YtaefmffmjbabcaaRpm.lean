/- slices.Repeat of -1. -/
import Derived.Test.YtaefmffmjbabcaaTwp
import Derived.Test.YtaefmffmjbabcaaMgb
import Derived.Laws.CopyOwn
import Derived.Deep.RegionLaw
namespace Go.Proofs.Ytaefmffmjbabcaa
open Go.Proofs.Ytaefmffmjbabcaa.Flo Go.RowKit

theorem addr_addM (g o k : Nat) : (⟨g, o, none⟩ : Addr).add k = ⟨g, o + k, none⟩ := by unfold Addr.add; split <;> simp_all
/-- A block of which j cells are 1. -/
def onesM (j n : Nat) : List Value := List.replicate j (Value.int .i64 (-1)) ++ List.replicate (n - j) (Value.int .i64 0)
theorem ones_lenM {j n : Nat} (h : j ≤ n) : (onesM j n).length = n := by simp [onesM]; omega
theorem ones_spliceM {j m n : Nat} (_ : j + m ≤ n) : splice (onesM j n) j (List.replicate m (Value.int .i64 (-1))) = onesM (j + m) n := by
  have e1 : (onesM j n).take j = List.replicate j (Value.int .i64 (-1)) := List.take_left' (by simp)
  have e2 : (onesM j n).drop (j + m) = List.replicate (n - (j + m)) (Value.int .i64 0) := by
    have e3 : (onesM j n).drop j = List.replicate (n - j) (Value.int .i64 0) := List.drop_left' (by simp)
    have e4 : (onesM j n).drop (j + m) = ((onesM j n).drop j).drop m := by rw [List.drop_drop]
    rw [e4, e3, List.drop_replicate]
    congr 1
    omega
  unfold splice
  rw [e1, List.length_replicate, e2]
  show _ = List.replicate (j + m) _ ++ List.replicate (n - (j + m)) _
  rw [← List.append_assoc, List.replicate_append_replicate]
theorem ones_takeM {j m n : Nat} (hm : m ≤ j) : ∀ (i : Nat) (v : Value), (List.replicate m (Value.int .i64 (-1)))[i]? = some v → (onesM j n).toArray[i]? = some v := by
  intro i v hv
  rw [List.getElem?_replicate] at hv
  by_cases h : i < m
  · rw [if_pos h] at hv
    unfold onesM
    rw [List.getElem?_toArray, List.getElem?_append_left (by simp; omega), List.getElem?_replicate, if_pos (by omega)]
    exact hv
  · rw [if_neg h] at hv; cases hv
theorem ones_allM (n : Nat) : onesM n n = (List.replicate n (-1 : Int)).map (Value.int .i64) := by simp [onesM]
theorem cell_onesM {w : World} {g j n i : Nat} {T : TypeId} (h : w.heap[g]? = some (.cells (onesM j n).toArray T (0, 0))) : w.cell? ⟨g, i, none⟩ = (onesM j n).toArray[i]? := by
  have hl : g < w.heap.size := (Array.getElem?_eq_some_iff.1 h).1
  unfold World.cell?
  rw [Array.getElem?_eq_getElem hl] at h
  injection h with h
  simp [hl, h]
theorem free_onesM {w : World} {g j n i : Nat} {T : TypeId} (h : w.heap[g]? = some (.cells (onesM j n).toArray T (0, 0))) : w.frozen? ⟨g, i, none⟩ = false := by
  have hl : g < w.heap.size := (Array.getElem?_eq_some_iff.1 h).1
  unfold World.frozen?
  rw [Array.getElem?_eq_getElem hl] at h
  injection h with h
  simp [hl, h]
theorem ones_rowM {w : World} {g n : Nat} {T : TypeId} (h : w.heap[g]? = some (.cells (onesM n n).toArray T (0, 0))) : IRow w (some ⟨g, 0, none⟩) n (List.replicate n (-1 : Int)) := by
  refine ⟨by simp, .inr ⟨g, 0, rfl, (Array.getElem?_eq_some_iff.1 h).1, fun i hi => ?_⟩⟩
  rw [Nat.zero_add, cell_onesM h, ones_allM]
  simp [List.getD_eq_getElem?_getD, hi]
theorem made_onesM (n : Nat) : madeCells #[Value.int .i64 0] n = (onesM 0 n).toArray := by rw [made_eqI]; simp [onesM]
set_option maxHeartbeats 8000000 in
theorem mul_smallM (n : Nat) (w : World) (h1 : 1 ≤ n) (h2 : n = 1 ∨ n = 2 ∨ n = 4 ∨ n = 8 ∨ n = 16 ∨ n = 32 ∨ n = 64 ∨ n = 128 ∨ n = 256) : Calls Try.prog 115 #[.int .u64 1, .int .u64 (n : Int)] w fun e w' => e = .returned (.tuple #[.int .u64 0, .int .u64 (n : Int)]) ∧ w = w' := by
  have h : n = 1 ∨ n = 2 ∨ n = 4 ∨ n = 8 ∨ n = 16 ∨ n = 32 ∨ n = 64 ∨ n = 128 ∨ n = 256 := h2
  rcases h with rfl | rfl | rfl | rfl | rfl | rfl | rfl | rfl | rfl
  all_goals
    clear h1 h2
    go_enter Try.func115, Try.ntmps115
    go_wp2_with (first | go_in)
    go_ret2
    exact ⟨rfl, rfl⟩
theorem Try.sizeM64 : (Try.prog.info? 2).map (·.size) = some 1 := by kernel_rfl
set_option maxRecDepth 100000 in
set_option maxHeartbeats 8000000 in
theorem repeat_implM (p n : Nat) (w : World) (hp : w.cell? ⟨p, 0, none⟩ = some (.int .i64 (-1))) (h1 : 1 ≤ n) (h2 : n = 1 ∨ n = 2 ∨ n = 4 ∨ n = 8 ∨ n = 16 ∨ n = 32 ∨ n = 64 ∨ n = 128 ∨ n = 256) :
    Calls Try.prog 58 #[.slice (some ⟨p, 0, none⟩) 1 1, .int .i64 (n : Int)] w fun e w' => ∃ g, e = .returned (.slice (some ⟨g, 0, none⟩) n n) ∧ New w w' g (.il n (List.replicate n (-1 : Int))) := by
  have hmk := fun w2 : World => run_make_row' (P := Try.prog) 22 2 (.int .i64 0) 8 Try.underlying22 Try.info64 rfl .i64 .i64 n (by omega) (by omega) w2
  have HP := Lib.hid hp
  have hpl := World.block_lt_of_cell? w _ hp
  have hd1 : decide ((n : Int) < 0) = false := decide_eq_false (by omega)
  have hd2 : decide (9223372036854775807 < (n : Int)) = false := decide_eq_false (by omega)
  clear hp
  have HMK0 : Hid ((w.alloc (.cells (madeCells #[Value.int .i64 0] n) 2)).heap[w.heap.size]? = some (.cells (onesM 0 n).toArray 2 (0, 0))) := Lib.hid (by rw [made_onesM]; exact heap_alloc_new w _)
  have HMN : Hid ((List.replicate 1 (Value.int .i64 (-1))).length = Nat.min 1 n) := Lib.hid (by show 1 = Nat.min 1 n; exact (Nat.min_eq_left h1).symm)
  have HSRC : Hid (∀ (k : Nat) (v : Value), (List.replicate 1 (Value.int .i64 (-1)))[k]? = some v → (w.alloc (.cells (madeCells #[Value.int .i64 0] n) 2)).cell? ((⟨p, 0, none⟩ : Addr).add k) = some v) := Lib.hid (by
    intro k v hv
    rw [List.getElem?_replicate] at hv
    by_cases hk : k < 1
    · obtain rfl : k = 0 := by omega
      rw [addr_addM, World.cell?_alloc_past _ _ _ hpl]
      rw [if_pos (by omega)] at hv
      rw [← hv]; exact HP.out
    · rw [if_neg hk] at hv; cases hv)
  have HFIT : Hid (0 + (List.replicate 1 (Value.int .i64 (-1))).length ≤ (onesM 0 n).length) := Lib.hid (by rw [ones_lenM (Nat.zero_le _)]; simp; omega)
  have HONE : Hid (∀ v ∈ List.replicate 1 (Value.int .i64 (-1)), v.oneCell' = true) := Lib.hid (by intro v hv; rw [List.eq_of_mem_replicate hv]; rfl)
  have HSP : Hid (splice (onesM 0 n) 0 (List.replicate 1 (Value.int .i64 (-1))) = onesM 1 n) := Lib.hid (by have := ones_spliceM (j := 0) (m := 1) (n := n) (by omega); rw [Nat.zero_add] at this; exact this)
  go_enter Try.func58, Try.ntmps58
  go_wp2_with (first | (go_at_call 115; refine (mul_smallM n _ h1 h2).mono ?_; rintro e w' ⟨rfl, rfl⟩) | ((with_reducible refine wpList_copy_splice rfl _ _ 22 22 rfl 2 Try.underlying22 Try.sizeM64 (some ⟨w.heap.size, 0, none⟩) (some ⟨p, 0, none⟩) n n 1 1 rfl rfl w.heap.size 0 (onesM 0 n) 2 ?_ (List.replicate 1 (Value.int .i64 (-1))) ?_ ?_ ?_ ?_ w.heap.size w ?_ ?_ ?_); (next => exact HMK0.out); (next => exact HMN.out); (next => exact fun _ => ⟨rfl, _, rfl, HSRC.out⟩); (next => exact HFIT.out); (next => exact HONE.out); (next => exact below_alloc _ _); (next => exact Nat.le_refl _); intro wc hw hb; have HG : Hid (wc.heap[w.heap.size]? = some (.cells (onesM 1 n).toArray 2 (0, 0))) := Lib.hid (by have := hw.out; rw [HSP.out] at this; exact this); have HBW := Lib.hid hb; clear hw hb) | go_in)
  clear HMK0 HMN HSRC HFIT HONE HSP hmk
  go_loopw [8] (fun jv w' => ∃ (j : Nat) (wr : World), 1 ≤ j ∧ j ≤ n ∧ jv = .int .i64 j ∧ wr = w' ∧ Hid (wr.heap[w.heap.size]? = some (.cells (onesM j n).toArray 2 (0, 0))) ∧ Hid (Below w.heap.size w wr)) (fun jv _ => n - (intOf jv).toNat)
  case atStart => exact ⟨1, _, by omega, h1, rfl, rfl, HG, HBW⟩
  case round =>
    clear HG HBW
    obtain ⟨j, wr, hj1, hj2, rfl, rfl, HG, HBW⟩ := hrel
    by_cases hlt : j < n
    · obtain ⟨m, hm⟩ : ∃ m, m = Nat.min j (n - j) := ⟨_, rfl⟩
      have hm1 : m ≤ j := by rw [hm]; exact Nat.min_le_left _ _
      have hm2 : m ≤ n - j := by rw [hm]; exact Nat.min_le_right _ _
      have hm3 : 1 ≤ m := by rw [hm]; exact Nat.le_min.2 ⟨hj1, by omega⟩
      have HMN : Hid ((List.replicate m (Value.int .i64 (-1))).length = Nat.min j (n - j)) := Lib.hid (by rw [List.length_replicate]; exact hm)
      have HSRC : Hid (∀ (k : Nat) (v : Value), (List.replicate m (Value.int .i64 (-1)))[k]? = some v → wr.cell? ((⟨w.heap.size, 0, none⟩ : Addr).add k) = some v) := Lib.hid (fun k v hv => by
        rw [addr_addM, Nat.zero_add, cell_onesM HG.out]
        exact ones_takeM hm1 k v hv)
      have HFIT : Hid (j + (List.replicate m (Value.int .i64 (-1))).length ≤ (onesM j n).length) := Lib.hid (by rw [ones_lenM hj2, List.length_replicate]; omega)
      have HONE : Hid (∀ v ∈ List.replicate m (Value.int .i64 (-1)), v.oneCell' = true) := Lib.hid (by intro v hv; rw [List.eq_of_mem_replicate hv]; rfl)
      have HSP : Hid (splice (onesM j n) j (List.replicate m (Value.int .i64 (-1))) = onesM (j + m) n) := Lib.hid (ones_spliceM (by omega))
      have hw1 : IntKind.i64.wrap ((j : Int) + (m : Int)) = (j : Int) + (m : Int) := IntWalk.i64_in _ (by omega)
      clear hm
      have hjn1 : ¬ (n = j) := by omega
      have hjn2 : ¬ (j = n) := by omega
      go_wp2
      go_region_law (first | (refine step_copy_splice (by rfl) _ _ 22 22 (by rfl) 2 Try.underlying22 Try.sizeM64 (some ⟨w.heap.size, j, none⟩) (some ⟨w.heap.size, 0, none⟩) (n - j) (n - j) j n ?_ ?_ w.heap.size j (onesM j n) 2 ?_ (List.replicate m (Value.int .i64 (-1))) ?_ ?_ ?_ ?_ w.heap.size w ?_ ?_ ?_; (next => (simp [Act.eval, Act.put])); (next => (simp [Act.eval, Act.put])); (next => exact HG.out); (next => exact HMN.out); (next => exact fun _ => ⟨rfl, _, rfl, HSRC.out⟩); (next => exact HFIT.out); (next => exact HONE.out); (next => exact Below.drew HBW.out); (next => exact Nat.le_refl _); intro wc hw hb; have HG2 : Hid (wc.heap[w.heap.size]? = some (.cells (onesM (j + m) n).toArray 2 (0, 0))) := Lib.hid (by have := hw.out; rw [HSP.out] at this; exact this); have HBW2 := Lib.hid hb; clear hw hb) | (refine step_copy_splice (by rfl) _ _ 22 22 (by rfl) 2 Try.underlying22 Try.sizeM64 (some ⟨w.heap.size, j, none⟩) (some ⟨w.heap.size, 0, none⟩) (n - j) (n - j) j n ?_ ?_ w.heap.size j (onesM j n) 2 ?_ (List.replicate m (Value.int .i64 (-1))) ?_ ?_ ?_ ?_ w.heap.size w ?_ ?_ ?_; (next => (simp [Act.eval, Act.put])); (next => (simp [Act.eval, Act.put])); (next => exact HG.out); (next => exact HMN.out); (next => exact fun _ => ⟨rfl, _, rfl, HSRC.out⟩); (next => exact HFIT.out); (next => exact HONE.out); (next => exact HBW.out); (next => exact Nat.le_refl _); intro wc hw hb; have HG2 : Hid (wc.heap[w.heap.size]? = some (.cells (onesM (j + m) n).toArray 2 (0, 0))) := Lib.hid (by have := hw.out; rw [HSP.out] at this; exact this); have HBW2 := Lib.hid hb; clear hw hb))
      all_goals
        go_wp2
        simp [Act.put]
        exact ⟨⟨j + m, by omega, by omega, by omega, HG2, HBW2⟩, by show n - ((j : Int) + (m : Int)).toNat < n - (j : Int).toNat; omega⟩
    · obtain rfl : j = n := by omega
      go_wp2
      go_ret
      exact ⟨_, rfl, Nat.le_refl _, (Array.getElem?_eq_some_iff.1 HG.out).1, Ent.il_ok (ones_rowM HG.out) (fun k _ => free_onesM HG.out), HBW.out⟩
theorem rep_getM {N i : Nat} {x : Int} (h : i < N) : (List.replicate N x).getD i 0 = x := by simp [List.getD_eq_getElem?_getD, h]
end Go.Proofs.Ytaefmffmjbabcaa
