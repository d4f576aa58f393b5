/- EvenRow: the functions. -/
import Derived.Test.YtcgdhicgpkoncaaSmw
import Derived.Laws.CopyOwn
import Derived.Deep.RegionLaw
namespace Go.Proofs.Ytcgdhicgpkoncaa
open Go.Proofs.Ytcgdhicgpkoncaa.Flo Go.RowKit

def evV (n : Nat) (_ : Nat) : Option Nat := vop .quo .f32 (cls .f32 1065353216) (cls .f32 (floatOfInt .f32 (n : Int)))
def okE (n : Int) : Bool := decide (1 ≤ n ∧ n ≤ 32) && rowV (evV n.toNat) n.toNat
theorem okE_out {n : Int} (h : okE n = true) : (1 ≤ n ∧ n ≤ 32) ∧ rowV (evV n.toNat) n.toNat = true := by
  unfold okE at h
  rw [Bool.and_eq_true] at h
  exact ⟨of_decide_eq_true h.1, h.2⟩
theorem okE_n {n : Int} (h : okE n = true) : n.toNat ≤ 1048576 := by have := (okE_out h).1; omega
/-- A block of which j cells are 1. -/
def ones (j n : Nat) : List Value := List.replicate j (Value.float .f32 1065353216) ++ List.replicate (n - j) (Value.float .f32 0)
theorem ones_len {j n : Nat} (h : j ≤ n) : (ones j n).length = n := by simp [ones]; omega
theorem ones_splice {j m n : Nat} (_ : j + m ≤ n) : splice (ones j n) j (List.replicate m (Value.float .f32 1065353216)) = ones (j + m) n := by
  have e1 : (ones j n).take j = List.replicate j (Value.float .f32 1065353216) := List.take_left' (by simp)
  have e2 : (ones j n).drop (j + m) = List.replicate (n - (j + m)) (Value.float .f32 0) := by
    have e3 : (ones j n).drop j = List.replicate (n - j) (Value.float .f32 0) := List.drop_left' (by simp)
    have e4 : (ones j n).drop (j + m) = ((ones j n).drop j).drop m := by rw [List.drop_drop]
    rw [e4, e3, List.drop_replicate]
    congr 1
    omega
  unfold splice
  rw [e1, List.length_replicate, e2]
  show _ = List.replicate (j + m) _ ++ List.replicate (n - (j + m)) _
  rw [← List.append_assoc, List.replicate_append_replicate]
theorem ones_take {j m n : Nat} (hm : m ≤ j) : ∀ (i : Nat) (v : Value), (List.replicate m (Value.float .f32 1065353216))[i]? = some v → (ones j n).toArray[i]? = some v := by
  intro i v hv
  rw [List.getElem?_replicate] at hv
  by_cases h : i < m
  · rw [if_pos h] at hv
    unfold ones
    rw [List.getElem?_toArray, List.getElem?_append_left (by simp; omega), List.getElem?_replicate, if_pos (by omega)]
    exact hv
  · rw [if_neg h] at hv; cases hv
theorem ones_all (n : Nat) : ones n n = (List.replicate n 1065353216).map (Value.float .f32) := by simp [ones]
theorem cell_ones {w : World} {g j n i : Nat} {T : TypeId} (h : w.heap[g]? = some (.cells (ones j n).toArray T (0, 0))) : w.cell? ⟨g, i, none⟩ = (ones j n).toArray[i]? := by
  have hl : g < w.heap.size := (Array.getElem?_eq_some_iff.1 h).1
  unfold World.cell?
  rw [Array.getElem?_eq_getElem hl] at h
  injection h with h
  simp [hl, h]
theorem free_ones {w : World} {g j n i : Nat} {T : TypeId} (h : w.heap[g]? = some (.cells (ones j n).toArray T (0, 0))) : w.frozen? ⟨g, i, none⟩ = false := by
  have hl : g < w.heap.size := (Array.getElem?_eq_some_iff.1 h).1
  unfold World.frozen?
  rw [Array.getElem?_eq_getElem hl] at h
  injection h with h
  simp [hl, h]
theorem ones_row {w : World} {g n : Nat} {T : TypeId} (h : w.heap[g]? = some (.cells (ones n n).toArray T (0, 0))) : FRow w (some ⟨g, 0, none⟩) n (List.replicate n 1065353216) := by
  refine ⟨by simp, .inr ⟨g, 0, rfl, (Array.getElem?_eq_some_iff.1 h).1, fun i hi => ?_⟩⟩
  rw [Nat.zero_add, cell_ones h, ones_all]
  simp [List.getD_eq_getElem?_getD, hi]
theorem addr_add (g o k : Nat) : (⟨g, o, none⟩ : Addr).add k = ⟨g, o + k, none⟩ := by unfold Addr.add; split <;> simp_all
theorem made_ones (n : Nat) : madeCells #[Value.float .f32 0] n = (ones 0 n).toArray := by rw [made_eq]; simp [ones]
theorem Try.size32 : (Try.prog.info? 23).map (·.size) = some 1 := by kernel_rfl
set_option maxHeartbeats 8000000 in
theorem mul_small (n : Nat) (w : World) (h1 : 1 ≤ n) (h2 : n ≤ 32) : Calls Try.prog 96 #[.int .u64 1, .int .u64 (n : Int)] w fun e w' => e = .returned (.tuple #[.int .u64 0, .int .u64 (n : Int)]) ∧ w = w' := by
  have h : n = 1 ∨ n = 2 ∨ n = 3 ∨ n = 4 ∨ n = 5 ∨ n = 6 ∨ n = 7 ∨ n = 8 ∨ n = 9 ∨ n = 10 ∨ n = 11 ∨ n = 12 ∨ n = 13 ∨ n = 14 ∨ n = 15 ∨ n = 16 ∨ n = 17 ∨ n = 18 ∨ n = 19 ∨ n = 20 ∨ n = 21 ∨ n = 22 ∨ n = 23 ∨ n = 24 ∨ n = 25 ∨ n = 26 ∨ n = 27 ∨ n = 28 ∨ n = 29 ∨ n = 30 ∨ n = 31 ∨ n = 32 := by omega
  rcases h with rfl | rfl | rfl | rfl | rfl | rfl | rfl | rfl | rfl | rfl | rfl | rfl | rfl | rfl | rfl | rfl | rfl | rfl | rfl | rfl | rfl | rfl | rfl | rfl | rfl | rfl | rfl | rfl | rfl | rfl | rfl | rfl
  all_goals
    clear h1 h2
    go_enter Try.func96, Try.ntmps96
    go_wp2_with (first | go_in)
    go_ret2
    exact ⟨rfl, rfl⟩
set_option maxRecDepth 100000 in
set_option maxHeartbeats 8000000 in
theorem repeat_impl (p n : Nat) (w : World) (hp : w.cell? ⟨p, 0, none⟩ = some (.float .f32 1065353216)) (h1 : 1 ≤ n) (h2 : n ≤ 32) :
    Calls Try.prog 62 #[.slice (some ⟨p, 0, none⟩) 1 1, .int .i64 (n : Int)] w fun e w' => ∃ g, e = .returned (.slice (some ⟨g, 0, none⟩) n n) ∧ FRow w' (some ⟨g, 0, none⟩) n (List.replicate n 1065353216) ∧ Below w.heap.size w w' := by
  have hmk := fun w2 : World => run_make_row' (P := Try.prog) 22 23 (.float .f32 0) 4 Try.underlying22 Try.info32 rfl .i64 .i64 n (by omega) (by omega) w2
  have HP := Lib.hid hp
  have hpl := World.block_lt_of_cell? w _ hp
  have hd1 : decide ((n : Int) < 0) = false := decide_eq_false (by omega)
  have hd2 : decide (9223372036854775807 < (n : Int)) = false := decide_eq_false (by omega)
  clear hp
  have HMK0 : Hid ((w.alloc (.cells (madeCells #[Value.float .f32 0] n) 23)).heap[w.heap.size]? = some (.cells (ones 0 n).toArray 23 (0, 0))) := Lib.hid (by rw [made_ones]; exact heap_alloc_new w _)
  have HMN : Hid ((List.replicate 1 (Value.float .f32 1065353216)).length = Nat.min 1 n) := Lib.hid (by show 1 = Nat.min 1 n; exact (Nat.min_eq_left h1).symm)
  have HSRC : Hid (∀ (k : Nat) (v : Value), (List.replicate 1 (Value.float .f32 1065353216))[k]? = some v → (w.alloc (.cells (madeCells #[Value.float .f32 0] n) 23)).cell? ((⟨p, 0, none⟩ : Addr).add k) = some v) := Lib.hid (by
    intro k v hv
    rw [List.getElem?_replicate] at hv
    by_cases hk : k < 1
    · obtain rfl : k = 0 := by omega
      rw [addr_add, World.cell?_alloc_past _ _ _ hpl]
      rw [if_pos (by omega)] at hv
      rw [← hv]; exact HP.out
    · rw [if_neg hk] at hv; cases hv)
  have HFIT : Hid (0 + (List.replicate 1 (Value.float .f32 1065353216)).length ≤ (ones 0 n).length) := Lib.hid (by rw [ones_len (Nat.zero_le _)]; simp; omega)
  have HONE : Hid (∀ v ∈ List.replicate 1 (Value.float .f32 1065353216), v.oneCell' = true) := Lib.hid (by intro v hv; rw [List.eq_of_mem_replicate hv]; rfl)
  have HSP : Hid (splice (ones 0 n) 0 (List.replicate 1 (Value.float .f32 1065353216)) = ones 1 n) := Lib.hid (by have := ones_splice (j := 0) (m := 1) (n := n) (by omega); rw [Nat.zero_add] at this; exact this)
  go_enter Try.func62, Try.ntmps62
  go_wp2_with (first | (go_at_call 96; refine (mul_small n _ h1 h2).mono ?_; rintro e w' ⟨rfl, rfl⟩) | ((with_reducible refine wpList_copy_splice rfl _ _ 22 22 rfl 23 Try.underlying22 Try.size32 (some ⟨w.heap.size, 0, none⟩) (some ⟨p, 0, none⟩) n n 1 1 rfl rfl w.heap.size 0 (ones 0 n) 23 ?_ (List.replicate 1 (Value.float .f32 1065353216)) ?_ ?_ ?_ ?_ w.heap.size w ?_ ?_ ?_); (next => exact HMK0.out); (next => exact HMN.out); (next => exact fun _ => ⟨rfl, _, rfl, HSRC.out⟩); (next => exact HFIT.out); (next => exact HONE.out); (next => exact below_alloc _ _); (next => exact Nat.le_refl _); intro wc hw hb; have HG : Hid (wc.heap[w.heap.size]? = some (.cells (ones 1 n).toArray 23 (0, 0))) := Lib.hid (by have := hw.out; rw [HSP.out] at this; exact this); have HBW := Lib.hid hb; clear hw hb) | go_in)
  clear HMK0 HMN HSRC HFIT HONE HSP hmk
  go_loopw [8] (fun jv w' => ∃ (j : Nat) (wr : World), 1 ≤ j ∧ j ≤ n ∧ jv = .int .i64 j ∧ wr = w' ∧ Hid (wr.heap[w.heap.size]? = some (.cells (ones j n).toArray 23 (0, 0))) ∧ Hid (Below w.heap.size w wr)) (fun jv _ => n - (intOf jv).toNat)
  case atStart => exact ⟨1, _, by omega, h1, rfl, rfl, HG, HBW⟩
  case round =>
    clear HG HBW
    obtain ⟨j, wr, hj1, hj2, rfl, rfl, HG, HBW⟩ := hrel
    by_cases hlt : j < n
    · obtain ⟨m, hm⟩ : ∃ m, m = Nat.min j (n - j) := ⟨_, rfl⟩
      have hm1 : m ≤ j := by rw [hm]; exact Nat.min_le_left _ _
      have hm2 : m ≤ n - j := by rw [hm]; exact Nat.min_le_right _ _
      have hm3 : 1 ≤ m := by rw [hm]; exact Nat.le_min.2 ⟨hj1, by omega⟩
      have HMN : Hid ((List.replicate m (Value.float .f32 1065353216)).length = Nat.min j (n - j)) := Lib.hid (by rw [List.length_replicate]; exact hm)
      have HSRC : Hid (∀ (k : Nat) (v : Value), (List.replicate m (Value.float .f32 1065353216))[k]? = some v → wr.cell? ((⟨w.heap.size, 0, none⟩ : Addr).add k) = some v) := Lib.hid (fun k v hv => by
        rw [addr_add, Nat.zero_add, cell_ones HG.out]
        exact ones_take hm1 k v hv)
      have HFIT : Hid (j + (List.replicate m (Value.float .f32 1065353216)).length ≤ (ones j n).length) := Lib.hid (by rw [ones_len hj2, List.length_replicate]; omega)
      have HONE : Hid (∀ v ∈ List.replicate m (Value.float .f32 1065353216), v.oneCell' = true) := Lib.hid (by intro v hv; rw [List.eq_of_mem_replicate hv]; rfl)
      have HSP : Hid (splice (ones j n) j (List.replicate m (Value.float .f32 1065353216)) = ones (j + m) n) := Lib.hid (ones_splice (by omega))
      have hw1 : IntKind.i64.wrap ((j : Int) + (m : Int)) = (j : Int) + (m : Int) := IntWalk.i64_in _ (by omega)
      clear hm
      have hjn1 : ¬ (n = j) := by omega
      have hjn2 : ¬ (j = n) := by omega
      go_wp2
      go_region_law (first | (refine step_copy_splice (by rfl) _ _ 22 22 (by rfl) 23 Try.underlying22 Try.size32 (some ⟨w.heap.size, j, none⟩) (some ⟨w.heap.size, 0, none⟩) (n - j) (n - j) j n ?_ ?_ w.heap.size j (ones j n) 23 ?_ (List.replicate m (Value.float .f32 1065353216)) ?_ ?_ ?_ ?_ w.heap.size w ?_ ?_ ?_; (next => (simp [Act.eval, Act.put])); (next => (simp [Act.eval, Act.put])); (next => exact HG.out); (next => exact HMN.out); (next => exact fun _ => ⟨rfl, _, rfl, HSRC.out⟩); (next => exact HFIT.out); (next => exact HONE.out); (next => exact Below.drew HBW.out); (next => exact Nat.le_refl _); intro wc hw hb; have HG2 : Hid (wc.heap[w.heap.size]? = some (.cells (ones (j + m) n).toArray 23 (0, 0))) := Lib.hid (by have := hw.out; rw [HSP.out] at this; exact this); have HBW2 := Lib.hid hb; clear hw hb) | (refine step_copy_splice (by rfl) _ _ 22 22 (by rfl) 23 Try.underlying22 Try.size32 (some ⟨w.heap.size, j, none⟩) (some ⟨w.heap.size, 0, none⟩) (n - j) (n - j) j n ?_ ?_ w.heap.size j (ones j n) 23 ?_ (List.replicate m (Value.float .f32 1065353216)) ?_ ?_ ?_ ?_ w.heap.size w ?_ ?_ ?_; (next => (simp [Act.eval, Act.put])); (next => (simp [Act.eval, Act.put])); (next => exact HG.out); (next => exact HMN.out); (next => exact fun _ => ⟨rfl, _, rfl, HSRC.out⟩); (next => exact HFIT.out); (next => exact HONE.out); (next => exact HBW.out); (next => exact Nat.le_refl _); intro wc hw hb; have HG2 : Hid (wc.heap[w.heap.size]? = some (.cells (ones (j + m) n).toArray 23 (0, 0))) := Lib.hid (by have := hw.out; rw [HSP.out] at this; exact this); have HBW2 := Lib.hid hb; clear hw hb))
      all_goals
        go_wp2
        simp [Act.put]
        exact ⟨⟨j + m, by omega, by omega, by omega, HG2, HBW2⟩, by show n - ((j : Int) + (m : Int)).toNat < n - (j : Int).toNat; omega⟩
    · obtain rfl : j = n := by omega
      go_wp2
      go_ret
      exact ⟨_, rfl, ones_row HG.out, HBW.out⟩
theorem rep_get {N i x : Nat} (h : i < N) : (List.replicate N x).getD i 0 = x := by simp [List.getD_eq_getElem?_getD, h]
set_option maxRecDepth 100000 in
set_option maxHeartbeats 4000000 in
theorem evS (n : Int) (w : World) (hok : okE n = true) :
    Calls Try.prog 21 #[.int .i64 n] w fun e w' => ∃ g cp, e = .returned (.tuple #[.slice (some ⟨g, 0, none⟩) n.toNat cp, .bool true]) ∧ New w w' g (.cl n.toNat (evV n.toNat)) := by
  obtain ⟨i0, hi, hz0, hz1, hz2⟩ := info_parts Try.info32
  obtain ⟨hn, hrow⟩ := okE_out hok
  clear hok
  obtain ⟨N, rfl⟩ : ∃ N : Nat, n = (N : Int) := ⟨n.toNat, by omega⟩
  have hN1 : 1 ≤ N := by omega
  have hN2 : N ≤ 32 := by omega
  have HN1 : Hid ((1 : Int) ≤ (N : Int)) := Lib.hid (by omega)
  have HN2 : Hid ((N : Int) ≤ 32) := Lib.hid (by omega)
  have HROW : Hid (rowV (evV N) N = true) := Lib.hid hrow
  clear hrow hn
  go_enter Try.func21, Try.ntmps21
  go_wp2_with (first | (go_at_call 60; refine (in_true (N : Int) 1 32 _ HN1.out HN2.out).mono ?_; rintro e w' ⟨rfl, hw⟩; have hw := hw.symm; subst hw) | go_in)
  go_loopw [4, 5] (fun v0 iv wr0 => ∃ (k : Nat) (v : Value) (wr : World), k ≤ N ∧ v = v0 ∧ iv = .int .i64 k ∧ wr = wr0 ∧ Hid (Got wr w.heap.size 23 v k (evV N)) ∧ Hid (Below w.heap.size w wr)) (fun _ iv _ => N - (intOf iv).toNat)
  case atStart => exact ⟨0, _, _, by omega, rfl, rfl, rfl, Lib.hid (Got.empty w 23 (evV N)), Lib.hid (Below.alloc (Below.refl _ _) (Nat.le_refl _) _)⟩
  case round =>
    obtain ⟨k, v, wr, hk, rfl, rfl, rfl, HO, HW⟩ := hrel
    by_cases hlt : k < N
    · have HVk : ∀ W, Hid (cls .f32 (fres .quo .f32 1065353216 (floatOfInt .f32 (N : Int)) W) = evV N k) := fun W => Lib.hid (by rw [fres_cls]; rfl)
      obtain ⟨zs0, hz, ho⟩ := HO.out
      have HZ := Lib.hid hz
      have HO1 := Lib.hid ho
      have HNE := Lib.hid (own_block ho)
      have HB := Lib.hid HW.out.size
      clear hz ho
      go_wp2_with (first | (at_builtin; refine wpList_append_lies _ rfl _ _ 22 rfl w.heap.size 23 i0 (.float .f32 0) 1 4 Try.underlying22 hi hz0 hz1 hz2 rfl (by omega) v k (zs0.map (Value.float .f32)) rfl (World.ownsRow.alloc HO1.out _) ⟨wr.heap.size, 0, none⟩ 1 1 [.float .f32 (fres .quo .f32 1065353216 (floatOfInt .f32 (N : Int)) _)] rfl rfl (World.news_of_block (cs := #[.float .f32 (fres .quo .f32 1065353216 (floatOfInt .f32 (N : Int)) _)]) (t := 23) (fr := (0, 0)) (heap_alloc_new _ _)) (by simp [Value.oneCell']) (by omega) (by unfold maxLen; omega) (by omega) (by have := HB.out; simp; omega) (wr.heap.size + 1) (by simp) ?_; intro gg cp w1 hown1 hgrow hat hlt2; have HO2 := Lib.hid hown1; have HG := Lib.hid hgrow; clear hown1 hgrow hat hlt2) | go_in)
      exact ⟨⟨k + 1, _, _, by omega, rfl, by first | rfl | go_num | (congr 1), rfl, Lib.hid (Got.step HZ.out (Got.len HO1.out) (HVk _).out HO2.out), Lib.hid (Below.grown (Below.alloc (Below.drewN' HW.out _) HW.out.size _) HG.out (by have := HB.out; simp; omega) HNE.out)⟩, by show N - ((k : Int) + 1).toNat < N - (k : Int).toNat; omega⟩
    · obtain rfl : k = N := by omega
      obtain ⟨g, cap, zr, rfl, hg1, hg2, hg3, hg4, hg5⟩ := HO.out.fin (by omega)
      have HG3 := Lib.hid hg3
      have HG4 := Lib.hid hg4
      have HG5 := Lib.hid ((⟨hg1, hg2, hg5, HW.out⟩ : New w wr g (.cl k (evV k))))
      clear hg1 hg2 hg3 hg4 hg5
      go_wp2_with (first | (go_at_call 54; refine (giveS_yes _ k _ zr _ HG3.out (by omega) (by rw [rowB_V HG4.out]; exact HROW.out)).mono ?_; rintro e w' ⟨rfl, q6, rfl⟩) | go_in)
      go_ret2
      exact ⟨_, _, rfl, HG5.out.1, HG5.out.2.1, HG5.out.2.2.1, Below.drewN' HG5.out.2.2.2 _⟩
set_option maxRecDepth 100000 in
set_option maxHeartbeats 4000000 in
theorem evS' (n : Int) (w : World) (hok : okE n = false) :
    Calls Try.prog 21 #[.int .i64 n] w fun e w' => e = .returned (.tuple #[.slice none 0 0, .bool false]) ∧ Below w.heap.size w w' := by
  obtain ⟨i0, hi, hz0, hz1, hz2⟩ := info_parts Try.info32
  by_cases hn : 1 ≤ n ∧ n ≤ 32
  · have hrow : rowV (evV n.toNat) n.toNat = false := by unfold okE at hok; rw [decide_eq_true hn, Bool.true_and] at hok; exact hok
    clear hok
    obtain ⟨N, rfl⟩ : ∃ N : Nat, n = (N : Int) := ⟨n.toNat, by omega⟩
    have hN1 : 1 ≤ N := by omega
    have hN2 : N ≤ 32 := by omega
    have HN1 : Hid ((1 : Int) ≤ (N : Int)) := Lib.hid (by omega)
    have HN2 : Hid ((N : Int) ≤ 32) := Lib.hid (by omega)
    have HROW : Hid (rowV (evV N) N = false) := Lib.hid hrow
    clear hrow hn
    go_enter Try.func21, Try.ntmps21
    go_wp2_with (first | (go_at_call 60; refine (in_true (N : Int) 1 32 _ HN1.out HN2.out).mono ?_; rintro e w' ⟨rfl, hw⟩; have hw := hw.symm; subst hw) | go_in)
    go_loopw [4, 5] (fun v0 iv wr0 => ∃ (k : Nat) (v : Value) (wr : World), k ≤ N ∧ v = v0 ∧ iv = .int .i64 k ∧ wr = wr0 ∧ Hid (Got wr w.heap.size 23 v k (evV N)) ∧ Hid (Below w.heap.size w wr)) (fun _ iv _ => N - (intOf iv).toNat)
    case atStart => exact ⟨0, _, _, by omega, rfl, rfl, rfl, Lib.hid (Got.empty w 23 (evV N)), Lib.hid (Below.alloc (Below.refl _ _) (Nat.le_refl _) _)⟩
    case round =>
      obtain ⟨k, v, wr, hk, rfl, rfl, rfl, HO, HW⟩ := hrel
      by_cases hlt : k < N
      · have HVk : ∀ W, Hid (cls .f32 (fres .quo .f32 1065353216 (floatOfInt .f32 (N : Int)) W) = evV N k) := fun W => Lib.hid (by rw [fres_cls]; rfl)
        obtain ⟨zs0, hz, ho⟩ := HO.out
        have HZ := Lib.hid hz
        have HO1 := Lib.hid ho
        have HNE := Lib.hid (own_block ho)
        have HB := Lib.hid HW.out.size
        clear hz ho
        go_wp2_with (first | (at_builtin; refine wpList_append_lies _ rfl _ _ 22 rfl w.heap.size 23 i0 (.float .f32 0) 1 4 Try.underlying22 hi hz0 hz1 hz2 rfl (by omega) v k (zs0.map (Value.float .f32)) rfl (World.ownsRow.alloc HO1.out _) ⟨wr.heap.size, 0, none⟩ 1 1 [.float .f32 (fres .quo .f32 1065353216 (floatOfInt .f32 (N : Int)) _)] rfl rfl (World.news_of_block (cs := #[.float .f32 (fres .quo .f32 1065353216 (floatOfInt .f32 (N : Int)) _)]) (t := 23) (fr := (0, 0)) (heap_alloc_new _ _)) (by simp [Value.oneCell']) (by omega) (by unfold maxLen; omega) (by omega) (by have := HB.out; simp; omega) (wr.heap.size + 1) (by simp) ?_; intro gg cp w1 hown1 hgrow hat hlt2; have HO2 := Lib.hid hown1; have HG := Lib.hid hgrow; clear hown1 hgrow hat hlt2) | go_in)
        exact ⟨⟨k + 1, _, _, by omega, rfl, by first | rfl | go_num | (congr 1), rfl, Lib.hid (Got.step HZ.out (Got.len HO1.out) (HVk _).out HO2.out), Lib.hid (Below.grown (Below.alloc (Below.drewN' HW.out _) HW.out.size _) HG.out (by have := HB.out; simp; omega) HNE.out)⟩, by show N - ((k : Int) + 1).toNat < N - (k : Int).toNat; omega⟩
      · obtain rfl : k = N := by omega
        obtain ⟨g, cap, zr, rfl, hg1, hg2, hg3, hg4, hg5⟩ := HO.out.fin (by omega)
        have HG3 := Lib.hid hg3
        have HG4 := Lib.hid hg4
        have HG5 := Lib.hid ((⟨hg1, hg2, hg5, HW.out⟩ : New w wr g (.cl k (evV k))))
        clear hg1 hg2 hg3 hg4 hg5
        go_wp2_with (first | (go_at_call 54; refine (giveS_no _ k _ zr _ HG3.out (by omega) (by rw [rowB_V HG4.out]; exact HROW.out)).mono ?_; rintro e w' ⟨rfl, q6, rfl⟩) | go_in)
        go_ret2
        exact ⟨rfl, Below.drewN' HG5.out.2.2.2 _⟩
  · have HX := Lib.hid hn
    clear hok hn
    go_enter Try.func21, Try.ntmps21
    go_wp2_with (first | (go_at_call 60; refine (in_false n 1 32 _ HX.out).mono ?_; rintro e w' ⟨rfl, hw⟩; have hw := hw.symm; subst hw) | go_in)
    go_ret2
    exact ⟨rfl, Below.refl _ _⟩
set_option maxRecDepth 100000 in
set_option maxHeartbeats 4000000 in
theorem evI (n : Int) (w : World) (hok : okE n = true) :
    Calls Try.prog 22 #[.int .i64 n] w fun e w' => ∃ g cp, e = .returned (.tuple #[.slice (some ⟨g, 0, none⟩) n.toNat cp, .bool true]) ∧ New w w' g (.cl n.toNat (evV n.toNat)) := by
  obtain ⟨hn, hrow⟩ := okE_out hok
  clear hok
  obtain ⟨N, rfl⟩ : ∃ N : Nat, n = (N : Int) := ⟨n.toNat, by omega⟩
  have hN1 : 1 ≤ N := by omega
  have hN2 : N ≤ 32 := by omega
  have HN1 : Hid ((1 : Int) ≤ (N : Int)) := Lib.hid (by omega)
  have HN2 : Hid ((N : Int) ≤ 32) := Lib.hid (by omega)
  have HROW : Hid (rowV (evV N) N = true) := Lib.hid hrow
  clear hrow hn
  have hp : (w.alloc (.cells #[.float .f32 1065353216] 23)).cell? ⟨w.heap.size, 0, none⟩ = some (.float .f32 1065353216) := by rw [World.cell?_alloc_at _ _ _ _ rfl]; rfl
  have HP := Lib.hid hp
  have hd1 : decide ((N : Int) < 1) = false := decide_eq_false (by omega)
  have hd2 : decide (32 < (N : Int)) = false := decide_eq_false (by omega)
  clear hp
  go_enter Try.func22, Try.ntmps22
  go_wp2_with (first | (go_at_call 62; refine (repeat_impl w.heap.size N _ HP.out hN1 hN2).mono ?_; rintro e w2 ⟨g0, rfl, hr, hb⟩; have HR := Lib.hid hr; have HB := Lib.hid (Below.ofAlloc hb); clear hr hb) | (go_at_call 61; refine (quot_g _ N _ (List.replicate N 1065353216) (floatOfInt .f32 (N : Int)) _ HR.out (by omega)).mono ?_; rintro e w3 ⟨g, zr, rfl, h0, h1, h2, h3, h4, h5⟩; have H0 := Lib.hid (Nat.le_trans HB.out.size h0); have H1 := Lib.hid h1; have H2 : Hid (∀ i, i < N → cls .f32 (zr.getD i 0) = evV N i) := Lib.hid (fun i hi => by rw [h2 i hi]; unfold quoV evV; rw [rep_get hi]); have H3 := Lib.hid h3; have H4 := Lib.hid h4; have H5 := Lib.hid (Below.next HB.out h5); clear h0 h1 h2 h3 h4 h5) | (go_at_call 57; refine (giveI_yes _ N _ zr _ H1.out (by omega) (by rw [rowB_V H2.out]; exact HROW.out)).mono ?_; rintro e w' ⟨rfl, q6, rfl⟩) | go_in)
  go_ret2
  exact ⟨_, _, rfl, H0.out, H4.out, ⟨zr, H2.out, Ent.fl_ok (H1.out.drewN _) H3.out⟩, Below.drewN' H5.out _⟩
set_option maxRecDepth 100000 in
set_option maxHeartbeats 4000000 in
theorem evI' (n : Int) (w : World) (hok : okE n = false) :
    Calls Try.prog 22 #[.int .i64 n] w fun e w' => e = .returned (.tuple #[.slice none 0 0, .bool false]) ∧ Below w.heap.size w w' := by
  by_cases hn : 1 ≤ n ∧ n ≤ 32
  · have hrow : rowV (evV n.toNat) n.toNat = false := by unfold okE at hok; rw [decide_eq_true hn, Bool.true_and] at hok; exact hok
    clear hok
    obtain ⟨N, rfl⟩ : ∃ N : Nat, n = (N : Int) := ⟨n.toNat, by omega⟩
    have hN1 : 1 ≤ N := by omega
    have hN2 : N ≤ 32 := by omega
    have HN1 : Hid ((1 : Int) ≤ (N : Int)) := Lib.hid (by omega)
    have HN2 : Hid ((N : Int) ≤ 32) := Lib.hid (by omega)
    have HROW : Hid (rowV (evV N) N = false) := Lib.hid hrow
    clear hrow hn
    have hp : (w.alloc (.cells #[.float .f32 1065353216] 23)).cell? ⟨w.heap.size, 0, none⟩ = some (.float .f32 1065353216) := by rw [World.cell?_alloc_at _ _ _ _ rfl]; rfl
    have HP := Lib.hid hp
    have hd1 : decide ((N : Int) < 1) = false := decide_eq_false (by omega)
    have hd2 : decide (32 < (N : Int)) = false := decide_eq_false (by omega)
    clear hp
    go_enter Try.func22, Try.ntmps22
    go_wp2_with (first | (go_at_call 62; refine (repeat_impl w.heap.size N _ HP.out hN1 hN2).mono ?_; rintro e w2 ⟨g0, rfl, hr, hb⟩; have HR := Lib.hid hr; have HB := Lib.hid (Below.ofAlloc hb); clear hr hb) | (go_at_call 61; refine (quot_g _ N _ (List.replicate N 1065353216) (floatOfInt .f32 (N : Int)) _ HR.out (by omega)).mono ?_; rintro e w3 ⟨g, zr, rfl, h0, h1, h2, h3, h4, h5⟩; have H0 := Lib.hid (Nat.le_trans HB.out.size h0); have H1 := Lib.hid h1; have H2 : Hid (∀ i, i < N → cls .f32 (zr.getD i 0) = evV N i) := Lib.hid (fun i hi => by rw [h2 i hi]; unfold quoV evV; rw [rep_get hi]); have H3 := Lib.hid h3; have H4 := Lib.hid h4; have H5 := Lib.hid (Below.next HB.out h5); clear h0 h1 h2 h3 h4 h5) | (go_at_call 57; refine (giveI_no _ N _ zr _ H1.out (by omega) (by rw [rowB_V H2.out]; exact HROW.out)).mono ?_; rintro e w' ⟨rfl, q6, rfl⟩) | go_in)
    go_ret2
    exact ⟨rfl, Below.drewN' H5.out _⟩
  · clear hok
    by_cases h1 : n < 1
    · go_enter Try.func22, Try.ntmps22
      go_wp2
      go_ret2
      exact ⟨rfl, Below.refl _ _⟩
    · have hd1 : decide (n < 1) = false := decide_eq_false h1
      have hd2 : decide (32 < n) = true := decide_eq_true (by omega)
      clear hn
      go_enter Try.func22, Try.ntmps22
      go_wp2
      go_ret2
      exact ⟨rfl, Below.refl _ _⟩
end Go.Proofs.Ytcgdhicgpkoncaa
