/- Parts of tables: walks. -/
import Derived.Test.YtcgdhicgpkoncaaRcv
namespace Go.Proofs.Ytcgdhicgpkoncaa
open Go.Proofs.Ytcgdhicgpkoncaa.Flo Go.RowKit

theorem giveS_yes (a : Option Addr) (n cap : Nat) (zs : List Nat) (w : World) (ha : FRow w a n zs) (hn : n ≤ 1048576) (h : rowB zs n = true) :
    Calls Try.prog 54 #[.slice a n cap] w fun e w' => e = .returned (.tuple #[.slice a n cap, .bool true]) ∧ Drew w w' := by
  have HA := Lib.hid ha
  clear ha
  go_enter Try.func54, Try.ntmps54
  go_wp2_with (first | (go_at_call 81; refine (row_spec _ n _ zs _ HA.out hn).mono ?_; rintro e w' ⟨rfl, q6, rfl⟩) | go_in)
  go_ret2
  exact ⟨rfl, Drew.mk _ _⟩
theorem giveS_no (a : Option Addr) (n cap : Nat) (zs : List Nat) (w : World) (ha : FRow w a n zs) (hn : n ≤ 1048576) (h : rowB zs n = false) :
    Calls Try.prog 54 #[.slice a n cap] w fun e w' => e = .returned (.tuple #[.slice none 0 0, .bool false]) ∧ Drew w w' := by
  have HA := Lib.hid ha
  clear ha
  go_enter Try.func54, Try.ntmps54
  go_wp2_with (first | (go_at_call 81; refine (row_spec _ n _ zs _ HA.out hn).mono ?_; rintro e w' ⟨rfl, q6, rfl⟩) | go_in)
  go_ret2
  exact ⟨rfl, Drew.mk _ _⟩
theorem giveI_yes (a : Option Addr) (n cap : Nat) (zs : List Nat) (w : World) (ha : FRow w a n zs) (hn : n ≤ 1048576) (h : rowB zs n = true) :
    Calls Try.prog 57 #[.slice a n cap] w fun e w' => e = .returned (.tuple #[.slice a n cap, .bool true]) ∧ Drew w w' := by
  have HA := Lib.hid ha
  clear ha
  go_enter Try.func57, Try.ntmps57
  go_wp2_with (first | (go_at_call 83; refine (row_impl _ n _ zs _ HA.out hn).mono ?_; rintro e w' ⟨rfl, q6, rfl⟩) | go_in)
  go_ret2
  exact ⟨rfl, Drew.mk _ _⟩
theorem giveI_no (a : Option Addr) (n cap : Nat) (zs : List Nat) (w : World) (ha : FRow w a n zs) (hn : n ≤ 1048576) (h : rowB zs n = false) :
    Calls Try.prog 57 #[.slice a n cap] w fun e w' => e = .returned (.tuple #[.slice none 0 0, .bool false]) ∧ Drew w w' := by
  have HA := Lib.hid ha
  clear ha
  go_enter Try.func57, Try.ntmps57
  go_wp2_with (first | (go_at_call 83; refine (row_impl _ n _ zs _ HA.out hn).mono ?_; rintro e w' ⟨rfl, q6, rfl⟩) | go_in)
  go_ret2
  exact ⟨rfl, Drew.mk _ _⟩
set_option maxHeartbeats 2000000 in
theorem at_spec (p b off n C i lo hi : Nat) (w : World) (h1 : w.cell? ⟨p, 1, none⟩ = some (.int .i64 (C : Int))) (h2 : w.cell? ⟨p, 2, none⟩ = some (.slice (some ⟨b, off, none⟩) n n))
    (hlo : lo = i * C) (hhi : hi = lo + C) (hin : hi ≤ n) (hC : 1 ≤ C) (hn : n ≤ 64) :
    Calls Try.prog 78 #[.pointer (some ⟨p, 0, none⟩), .int .i64 (i : Int)] w fun e w' => e = .returned (.slice (some ⟨b, off + lo, none⟩) C (n - lo)) ∧ Drew w w' := by
  have hi64 : i ≤ 64 := Nat.le_trans (Nat.le_trans (Nat.le_mul_of_pos_right i (by omega)) (by omega : i * C ≤ n)) hn
  have hw1 : IntKind.i64.wrap ((i : Int) * (C : Int)) = (lo : Int) := by rw [hlo, Int.natCast_mul]; exact IntWalk.i64_in _ (by rw [← Int.natCast_mul]; omega)
  have hw2 : IntKind.i64.wrap ((i : Int) + 1) = (i : Int) + 1 := IntWalk.i64_in _ (by omega)
  have hw3 : IntKind.i64.wrap (((i : Int) + 1) * (C : Int)) = (hi : Int) := by
    have e : ((i : Int) + 1) * (C : Int) = (hi : Int) := by rw [hhi, hlo, Int.add_mul, Int.one_mul, ← Int.natCast_mul]; omega
    rw [e]; exact IntWalk.i64_in _ (by omega)
  have hlh : lo ≤ hi := by omega
  have hlt : lo < n := by omega
  have HE : Hid (hi - lo = C) := Lib.hid (by omega)
  clear hlo hhi
  go_enter Try.func78, Try.ntmps78
  go_wp2
  go_quiet (fail)
  go_wp2
  go_ret
  exact ⟨by rw [HE.out]; rfl, Drew.mk _ _⟩
set_option maxRecDepth 100000 in
set_option maxHeartbeats 4000000 in
theorem rows_spec (p b off R C n : Nat) (zs : List Nat) (w : World) (ht : Tab w p R C (some ⟨b, off, none⟩) n n)
    (ha : FRow w (some ⟨b, off, none⟩) n zs) (hn : n = R * C) (hR : 1 ≤ R ∧ R ≤ 8) (hC : 1 ≤ C ∧ C ≤ 8) :
    Calls Try.prog 72 #[.pointer (some ⟨p, 0, none⟩)] w fun e w' => ∃ v, e = .returned v ∧ Got w' w.heap.size 23 v R (rowsV zs C) ∧ Below w.heap.size w w' := by
  obtain ⟨i0, hi, hz0, hz1, hz2⟩ := info_parts Try.info32
  obtain ⟨hp, h0, h1, h2⟩ := ht
  have HA := Lib.hid ha
  have HN := Lib.hid hn
  have HE := Lib.hid (Got.empty w 23 (rowsV zs C))
  have H0 := Lib.hid h0
  have H1 := Lib.hid h1
  have H2 := Lib.hid h2
  obtain ⟨hR1, hR2⟩ := hR
  obtain ⟨hC1, hC2⟩ := hC
  have hn64 : n ≤ 64 := by rw [hn]; exact Nat.le_trans (Nat.mul_le_mul hR2 hC2) (by decide)
  clear ha hn h0 h1 h2
  go_enter Try.func72, Try.ntmps72
  go_wp2
  go_loopw [3, 4] (fun v0 iv wr0 => ∃ (k : Nat) (v : Value) (wr : World), k ≤ R ∧ v = v0 ∧ iv = .int .i64 k ∧ wr = wr0 ∧ Hid (Got wr w.heap.size 23 v k (rowsV zs C)) ∧ Hid (Below w.heap.size w wr)) (fun _ iv _ => R - (intOf iv).toNat)
  case atStart => exact ⟨0, _, _, by omega, rfl, rfl, rfl, Lib.hid HE.out, Lib.hid ((Below.refl _ _).alloc (Nat.le_refl _) _)⟩
  case round =>
    obtain ⟨k, v, wr, hk, rfl, rfl, rfl, HO, HW⟩ := hrel
    have hc0 : wr.cell? ⟨p, 0, none⟩ = some (.int .i64 (R : Int)) := (HW.out.cell (p := ⟨p, 0, none⟩) hp).trans H0.out
    have H1w := Lib.hid ((HW.out.cell (p := ⟨p, 1, none⟩) hp).trans H1.out)
    have H2w := Lib.hid ((HW.out.cell (p := ⟨p, 2, none⟩) hp).trans H2.out)
    have HAw := Lib.hid (HA.out.below HW.out)
    by_cases hlt : k < R
    · have hle : k * C + C ≤ n := by rw [HN.out, ← Nat.succ_mul]; exact Nat.mul_le_mul_right _ hlt
      have HP := Lib.hid (HAw.out.part hle hC1)
      have hsz := HW.out.size
      obtain ⟨zs0, hz, ho⟩ := HO.out
      have HZ := Lib.hid hz
      have HO1 := Lib.hid ho
      have HNE := Lib.hid (own_block ho)
      have HB := Lib.hid HW.out.size
      clear hz ho hsz
      go_wp2_with (first | (go_at_call 78; ((with_reducible refine (at_spec p b off n C k (k * C) (k * C + C) _ H1w.out H2w.out rfl rfl hle hC1 hn64).mono ?_); rintro e w' ⟨rfl, q1, rfl⟩)) | (go_at_call 77; ((with_reducible refine (sumOf_spec _ C _ (sub zs k C) _ (HP.out.drewN _) (by omega)).mono ?_); rintro e w' ⟨z, rfl, hv, q2, rfl⟩; have HV := Lib.hid hv; clear hv)) | (at_builtin; refine wpList_append_lies _ rfl _ _ 22 rfl w.heap.size 23 i0 (.float .f32 0) 1 4 Try.underlying22 hi hz0 hz1 hz2 rfl (by omega) v k (zs0.map (Value.float .f32)) rfl (World.ownsRow.alloc HO1.out _) ⟨wr.heap.size, 0, none⟩ 1 1 [.float .f32 z] rfl rfl (World.news_of_block (cs := #[.float .f32 z]) (t := 23) (fr := (0, 0)) (heap_alloc_new _ _)) (by simp [Value.oneCell']) (by omega) (by unfold maxLen; omega) (by omega) (by have := HB.out; simp; omega) (wr.heap.size + 1) (by simp) ?_; intro gg cp w1 hown1 hgrow hat hlt2; have HO2 := Lib.hid hown1; have HG := Lib.hid hgrow; clear hown1 hgrow hat hlt2) | go_in)
      exact ⟨⟨k + 1, _, _, by omega, rfl, by first | rfl | go_num | (congr 1), rfl, Lib.hid (Got.step HZ.out (Got.len HO1.out) HV.out HO2.out), Lib.hid (Below.grown ((Below.drewN' HW.out _).alloc HW.out.size _) HG.out (by have := HB.out; simp; omega) HNE.out)⟩, by show R - ((k : Int) + 1).toNat < R - (k : Int).toNat; omega⟩
    · obtain rfl : k = R := by omega
      go_wp2
      go_ret
      exact ⟨_, rfl, HO.out, HW.out⟩
set_option maxHeartbeats 2000000 in
theorem part_impl (R : Int) (b off n C i lo hi : Nat) (w : World) (hlo : lo = i * C) (hhi : hi = lo + C) (hin : hi ≤ n) (hC : 1 ≤ C) (hn : n ≤ 64) :
    Calls Try.prog 103 #[.agg #[.int .i64 R, .int .i64 (C : Int), .slice (some ⟨b, off, none⟩) n n], .int .i64 (i : Int)] w fun e w' => e = .returned (.slice (some ⟨b, off + lo, none⟩) C (n - lo)) ∧ Below w.heap.size w w' := by
  have hi64 : i ≤ 64 := Nat.le_trans (Nat.le_trans (Nat.le_mul_of_pos_right i (by omega)) (by omega : i * C ≤ n)) hn
  have hw1 : IntKind.i64.wrap ((i : Int) * (C : Int)) = (lo : Int) := by rw [hlo, Int.natCast_mul]; exact IntWalk.i64_in _ (by rw [← Int.natCast_mul]; omega)
  have hw2 : IntKind.i64.wrap ((i : Int) + 1) = (i : Int) + 1 := IntWalk.i64_in _ (by omega)
  have hw3 : IntKind.i64.wrap (((i : Int) + 1) * (C : Int)) = (hi : Int) := by
    have e : ((i : Int) + 1) * (C : Int) = (hi : Int) := by rw [hhi, hlo, Int.add_mul, Int.one_mul, ← Int.natCast_mul]; omega
    rw [e]; exact IntWalk.i64_in _ (by omega)
  have hlh : lo ≤ hi := by omega
  have hlt : lo < n := by omega
  have HE : Hid (hi - lo = C) := Lib.hid (by omega)
  clear hlo hhi
  go_enter Try.func103, Try.ntmps103
  go_wp2
  go_ret
  exact ⟨by rw [HE.out]; rfl, below_alloc _ _⟩
set_option maxRecDepth 100000 in
set_option maxHeartbeats 4000000 in
theorem rows_impl (b off R C n : Nat) (zs : List Nat) (w : World)
    (ha : FRow w (some ⟨b, off, none⟩) n zs) (hn : n = R * C) (hR : 1 ≤ R ∧ R ≤ 8) (hC : 1 ≤ C ∧ C ≤ 8) :
    Calls Try.prog 74 #[.agg #[.int .i64 (R : Int), .int .i64 (C : Int), .slice (some ⟨b, off, none⟩) n n]] w fun e w' => ∃ v, e = .returned v ∧ Got w' w.heap.size 23 v R (rowsV zs C) ∧ Below w.heap.size w w' := by
  obtain ⟨i0, hi, hz0, hz1, hz2⟩ := info_parts Try.info32
  have HA := Lib.hid (ha.alloc (.cells #[.int .i64 (R : Int), .int .i64 (C : Int), .slice (some ⟨b, off, none⟩) n n] 44))
  have HN := Lib.hid hn
  have HT := Lib.hid (Tab.new w R C (some ⟨b, off, none⟩) n n 44)
  obtain ⟨hR1, hR2⟩ := hR
  obtain ⟨hC1, hC2⟩ := hC
  have hn64 : n ≤ 64 := by rw [hn]; exact Nat.le_trans (Nat.mul_le_mul hR2 hC2) (by decide)
  clear ha hn
  go_enter Try.func74, Try.ntmps74
  go_wp2
  go_loopw [3, 7] (fun v0 iv wr0 => ∃ (k : Nat) (v : Value) (wr : World), k ≤ R ∧ v = v0 ∧ iv = .int .i64 k ∧ wr = wr0 ∧ Hid (Got wr (w.heap.size + 1) 23 v k (rowsV zs C)) ∧ Hid (Below (w.alloc (.cells #[.int .i64 (R : Int), .int .i64 (C : Int), .slice (some ⟨b, off, none⟩) n n] 44)).heap.size (w.alloc (.cells #[.int .i64 (R : Int), .int .i64 (C : Int), .slice (some ⟨b, off, none⟩) n n] 44)) wr)) (fun _ iv _ => R - (intOf iv).toNat)
  case atStart => exact ⟨0, _, _, by omega, rfl, rfl, rfl, Lib.hid (Got.nil _ _ _ _), Lib.hid (Below.refl _ _)⟩
  case round =>
    obtain ⟨k, v, wr, hk, rfl, rfl, rfl, HO, HW⟩ := hrel
    by_cases hlt : k < R
    · obtain ⟨_, hc0, hc1, hc2⟩ := HT.out.below HW.out
      have hle : k * C + C ≤ n := by rw [HN.out, ← Nat.succ_mul]; exact Nat.mul_le_mul_right _ hlt
      have HP := Lib.hid ((HA.out.below HW.out).part hle hC1)
      go_wp2_with (first | (go_at_call 103; ((with_reducible refine (part_impl _ b off n C k (k * C) (k * C + C) _ rfl rfl hle hC1 hn64).mono ?_); rintro e w2 ⟨rfl, hb⟩; have HB := Lib.hid hb; have HB2 : Hid (w.heap.size + 1 ≤ w2.heap.size) := Lib.hid (Nat.le_trans (by simp) (Nat.le_trans HW.out.size hb.size)); obtain ⟨zs0, hz, ho⟩ := HO.out.keep hb; have HZ := Lib.hid hz; have HO1 := Lib.hid ho; have HNE := Lib.hid (own_block ho); clear hb hz ho)) | (go_at_call 102; ((with_reducible refine (sumOf_impl _ C _ (sub zs k C) _ (HP.out.below HB.out) (by omega)).mono ?_); rintro e w' ⟨z, rfl, hv, q2, rfl⟩; have HV := Lib.hid hv; clear hv)) | (at_builtin; refine wpList_append_lies _ rfl _ _ 22 rfl (w.heap.size + 1) 23 i0 (.float .f32 0) 1 4 Try.underlying22 hi hz0 hz1 hz2 rfl (by omega) v k (zs0.map (Value.float .f32)) rfl (World.ownsRow.alloc HO1.out _) ⟨w2.heap.size, 0, none⟩ 1 1 [.float .f32 z] rfl rfl (World.news_of_block (cs := #[.float .f32 z]) (t := 23) (fr := (0, 0)) (heap_alloc_new _ _)) (by simp [Value.oneCell']) (by omega) (by unfold maxLen; omega) (by omega) (by have := HB2.out; simp; omega) (w2.heap.size + 1) (by simp) ?_; intro gg cp w1 hown1 hgrow hat hlt2; have HO2 := Lib.hid hown1; have HG := Lib.hid hgrow; clear hown1 hgrow hat hlt2) | go_in)
      exact ⟨⟨k + 1, _, _, by omega, rfl, by first | rfl | go_num | (congr 1), rfl, Lib.hid (Got.step HZ.out (Got.len HO1.out) HV.out HO2.out), Lib.hid (Below.grown (Below.alloc (Below.drewN' (Below.next HW.out HB.out) _) (by have := HB2.out; simp; omega) _) HG.out (by have := HB2.out; simp; omega) (by simpa using HNE.out))⟩, by show R - ((k : Int) + 1).toNat < R - (k : Int).toNat; omega⟩
    · obtain rfl : k = R := by omega
      go_wp2
      go_ret
      exact ⟨_, rfl, HO.out.mono (Nat.le_succ _), Below.ofAlloc HW.out⟩
/-- The quotients of numbers and a whole. -/
def quoV (zs : List Nat) (y : Nat) (i : Nat) : Option Nat := vop .quo .f32 (cls .f32 (zs.getD i 0)) (cls .f32 y)
theorem mix_put (zs : List Nat) (k n z : Nat) (hk : k < n) (h : zs.length = n) : (mix zs k n).setIfInBounds k (.float .f32 z) = mix (zs.set k z) (k + 1) n := by
  have e1 : mix zs k n = mix (zs.set k z) k n := by
    unfold mix
    rw [← List.map_take, ← List.map_take, List.take_set_of_le (by omega)]
  have e2 : (zs.set k z).getD k 0 = z := by rw [List.getD_eq_getElem?_getD, List.getElem?_set_self (by omega)]; rfl
  have := mix_set (zs.set k z) k n hk (by rw [List.length_set]; exact h)
  rw [e2] at this
  rw [e1, this]
theorem set_cls {zq : List Nat} {k z n : Nat} {V : Nat → Option Nat} (h : ∀ i, i < k → cls .f32 (zq.getD i 0) = V i) (hz : cls .f32 z = V k) (hl : zq.length = n) (hk : k < n) : ∀ i, i < k + 1 → cls .f32 ((zq.set k z).getD i 0) = V i := by
  intro i hi
  by_cases e : i = k
  · subst e
    rw [List.getD_eq_getElem?_getD, List.getElem?_set_self (by omega)]; exact hz
  · rw [List.getD_eq_getElem?_getD, List.getElem?_set_ne (fun e2 => e e2.symm), ← List.getD_eq_getElem?_getD]; exact h i (by omega)
set_option maxRecDepth 100000 in
set_option maxHeartbeats 4000000 in
theorem quot_impl (a : Option Addr) (n cap : Nat) (zs : List Nat) (y : Nat) (w : World) (ha : FRow w a n zs) (hn : n ≤ 1048576) :
    Calls Try.prog 61 #[.slice a n cap, .float .f32 y] w fun e w' => ∃ zq, e = .returned (.slice (some ⟨w.heap.size, 0, none⟩) n n) ∧ FRow w' (some ⟨w.heap.size, 0, none⟩) n zq ∧ (∀ i, i < n → cls .f32 (zq.getD i 0) = quoV zs y i) ∧ (∀ j, j < n → w'.frozen? ⟨w.heap.size, j, none⟩ = false) ∧ w.heap.size < w'.heap.size ∧ Below w.heap.size w w' := by
  have HA := Lib.hid ha
  have hmk := fun w2 : World => run_make_row' (P := Try.prog) 22 23 (.float .f32 0) 4 Try.underlying22 Try.info32 rfl .i64 .i64 n (by omega) (by omega) w2
  clear ha
  go_enter Try.func61, Try.ntmps61
  go_wp2
  go_loopw [13] (fun iv w' => ∃ k : Nat, k ≤ n ∧ iv = .int .i64 k ∧ ∃ (q : Nat) (zq : List Nat), w' = (w.alloc (.cells (mix zq k n) 23)).drewN q ∧ Hid (zq.length = n) ∧ Hid (∀ i, i < k → cls .f32 (zq.getD i 0) = quoV zs y i)) (fun iv _ => n - (intOf iv).toNat)
  case atStart => exact ⟨0, by omega, rfl, 0, List.replicate n 0, by rw [mix_zero]; rfl, Lib.hid (by simp), Lib.hid (by intro i hi; omega)⟩
  case round =>
    obtain ⟨k, hk, rfl, q, zq, rfl, HL, HC⟩ := hrel
    clear hmk
    by_cases hlt : k < n
    · rcases HA.out.2 with h0 | ⟨b1, o1, rfl, hbb1, hc1⟩
      · omega
      have hck1 : (w.alloc (.cells (mix zq k n) 23)).cell? ⟨b1, o1 + k, none⟩ = some (.float .f32 (zs.getD k 0)) := (World.cell?_alloc_past _ _ _ hbb1).trans (hc1 k hlt)
      have hst : ∀ (m : Mode) (Q z : Nat), (store ⟨w.heap.size, k, none⟩ (.float .f32 z) m).run Try.prog ((w.alloc (.cells (mix zq k n) 23)).drewN Q) = .ok () ((w.alloc (.cells (mix (zq.set k z) (k + 1) n) 23)).drewN Q) := fun m Q z => by
        rw [store_at Try.prog w _ _ w.heap.size k _ Q m rfl (by rw [mix_size zq k n hk HL.out]; exact hlt), mix_put zq k n z hlt HL.out]
      have HV : ∀ W, Hid (cls .f32 (fres .quo .f32 (zs.getD k 0) y W) = quoV zs y k) := fun W => Lib.hid (by rw [fres_cls]; rfl)
      clear hc1
      generalize zs.getD k 0 = x at hck1 HV
      go_wp2
      refine ⟨⟨k + 1, by omega, by first | rfl | go_num | (congr 1), _, zq.set k (fres .quo .f32 x y _), rfl, Lib.hid (by rw [List.length_set]; exact HL.out), Lib.hid (set_cls HC.out (HV _).out HL.out hlt)⟩, by show n - ((k : Int) + 1).toNat < n - (k : Int).toNat; omega⟩
    · obtain rfl : k = n := by omega
      have HALL := Lib.hid (mix_all zq k HL.out)
      rw [HALL.out]
      go_wp2
      go_ret
      exact ⟨zq, rfl, (FRow.new' HL.out rfl _).drewN _, HC.out, fun j _ => World.frozen?_alloc_at _ _ _ _ rfl, by simp, Below.drewN' (below_alloc _ _) _⟩
end Go.Proofs.Ytcgdhicgpkoncaa
