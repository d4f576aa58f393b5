/- SmoothRow: the functions. -/
import Derived.Test.YtcgdhicgpkoncaaSmv
namespace Go.Proofs.Ytcgdhicgpkoncaa
open Go.Proofs.Ytcgdhicgpkoncaa.Flo Go.RowKit

theorem IRow.drewN' {w : World} {a : Option Addr} {n : Nat} {zs : List Int} (h : IRow w a n zs) (q : Nat) : IRow (w.drewN q) a n zs := h
theorem quot_g (a : Option Addr) (n cap : Nat) (zs : List Nat) (y : Nat) (w : World) (ha : FRow w a n zs) (hn : n ≤ 1048576) :
    Calls Try.prog 61 #[.slice a n cap, .float .f32 y] w fun e w' => ∃ g zq, e = .returned (.slice (some ⟨g, 0, none⟩) n n) ∧ w.heap.size ≤ g ∧ FRow w' (some ⟨g, 0, none⟩) n zq ∧ (∀ i, i < n → cls .f32 (zq.getD i 0) = quoV zs y i) ∧ (∀ j, j < n → w'.frozen? ⟨g, j, none⟩ = false) ∧ g < w'.heap.size ∧ Below w.heap.size w w' :=
  (quot_impl a n cap zs y w ha hn).mono fun _ _ ⟨zq, he, h⟩ => ⟨w.heap.size, zq, he, Nat.le_refl _, h⟩
theorem sm_quo {zs : List Int} {zq zr : List Nat} {n A y : Nat} (hC : ∀ i, i < n → cls .f32 (zq.getD i 0) = vop .add .f32 (cls .f32 (floatOfInt .f32 (zs.getD i 0))) (cls .f32 A)) (hy : wholeV zs n A = some y) (hcy : cls .f32 y = some y) (h : ∀ i, i < n → cls .f32 (zr.getD i 0) = quoV zq y i) : ∀ i, i < n → cls .f32 (zr.getD i 0) = smV zs n A i := by
  intro i hi
  refine (h i hi).trans ?_
  show vop .quo .f32 (cls .f32 (zq.getD i 0)) (cls .f32 y) = vop .quo .f32 (vop .add .f32 (cls .f32 (floatOfInt .f32 (zs.getD i 0))) (cls .f32 A)) (wholeV zs n A)
  rw [hC i hi, hy, hcy]
set_option maxRecDepth 100000 in
set_option maxHeartbeats 4000000 in
theorem smS (a : Option Addr) (n cap : Nat) (zs : List Int) (A : Nat) (w : World) (ha : IRow w a n zs) (hn : n ≤ 1048576) (hok : okS zs n A = true) :
    Calls Try.prog 23 #[.slice a n cap, .float .f32 A] w fun e w' => ∃ g cp, e = .returned (.tuple #[.slice (some ⟨g, 0, none⟩) n cp, .bool true]) ∧ New w w' g (.cl n (smV zs n A)) := by
  obtain ⟨i0, hi, hz0, hz1, hz2⟩ := info_parts Try.info32
  obtain ⟨hcb, hA, hrow⟩ := okS_out hok
  obtain ⟨p, y, e1, e2, hy1, hy2, hy3⟩ := whole_num hcb hA
  have hr1 := fun w2 => fres_some e1 w2
  have hr2 := fun w2 => fres_some e2 w2
  have hdz : ∀ w2 : World, w2.drewN 0 = w2 := World.drewN_zero
  have hf1 := fcnt_some e1
  have hf2 := fcnt_some e2
  have HY := Lib.hid hy1
  have HCY := Lib.hid hy2
  have hab : aboveB y = true := by
    cases h : aboveB y with
    | true => rfl
    | false => rw [sm_above hcb hy1 hy2 hy3 h] at hrow; cases hrow
  have hn32 := (cnt_out hcb).1.2
  have hn0 : n ≠ 0 := by have := (cnt_out hcb).1; omega
  have HCB := Lib.hid hcb
  have HROW := Lib.hid hrow
  have HA := Lib.hid ha
  clear ha hrow hy1 hy2 hy3 hok e1 e2
  go_enter Try.func23, Try.ntmps23
  go_wp2_with (first | (go_at_call 63; refine (cnt_spec _ n _ zs _ HA.out hn).mono ?_; rintro e w' ⟨rfl, rfl⟩) | (go_at_call 64; refine (least_spec A _).mono ?_; rintro e w' ⟨rfl, q, rfl⟩) | (go_at_call 65; refine (tot_spec _ n _ zs _ (HA.out.drewN' _) HCB.out).mono ?_; rintro e w' ⟨rfl, rfl⟩) | (go_at_call 66; refine (above_spec _ _).mono ?_; rintro e w' ⟨rfl, q3, rfl⟩) | go_in)
  go_loopw [7, 8] (fun v0 iv wr0 => ∃ (k : Nat) (v : Value) (wr : World), k ≤ n ∧ v = v0 ∧ iv = .int .i64 k ∧ wr = wr0 ∧ Hid (Got wr w.heap.size 23 v k (smV zs n A)) ∧ Hid (Below w.heap.size w wr)) (fun _ iv _ => n - (intOf iv).toNat)
  case atStart => exact ⟨0, _, _, by omega, rfl, rfl, rfl, Lib.hid (Got.empty (w.drewN _) 23 (smV zs n A)), Lib.hid (Below.alloc (Below.drewN' (Below.refl _ _) _) (Nat.le_refl _) _)⟩
  case round =>
    obtain ⟨k, v, wr, hk, rfl, rfl, rfl, HO, HW⟩ := hrel
    clear hr1 hr2 hf1 hf2
    by_cases hlt : k < n
    · obtain ⟨b1, o1, rfl, _, hck⟩ := (HA.out.below HW.out).cell' hlt
      have HVk : ∀ W1 W2, Hid (cls .f32 (fres .quo .f32 (fres .add .f32 (floatOfInt .f32 (zs.getD k 0)) A W1) y W2) = smV zs n A k) := fun W1 W2 => Lib.hid (by rw [fres_cls, fres_cls, HCY.out, ← HY.out]; rfl)
      generalize zs.getD k 0 = c at hck HVk
      obtain ⟨zs0, hz, ho⟩ := HO.out
      have HZ := Lib.hid hz
      have HO1 := Lib.hid ho
      have HNE := Lib.hid (own_block ho)
      have HB := Lib.hid HW.out.size
      clear hz ho
      go_wp2_with (first | (at_builtin; refine wpList_append_lies _ rfl _ _ 22 rfl w.heap.size 23 i0 (.float .f32 0) 1 4 Try.underlying22 hi hz0 hz1 hz2 rfl (by omega) v k (zs0.map (Value.float .f32)) rfl (World.ownsRow.alloc HO1.out _) ⟨wr.heap.size, 0, none⟩ 1 1 [.float .f32 (fres .quo .f32 (fres .add .f32 (floatOfInt .f32 c) A _) y _)] rfl rfl (World.news_of_block (cs := #[.float .f32 (fres .quo .f32 (fres .add .f32 (floatOfInt .f32 c) A _) y _)]) (t := 23) (fr := (0, 0)) (heap_alloc_new _ _)) (by simp [Value.oneCell']) (by omega) (by unfold maxLen; omega) (by omega) (by have := HB.out; simp; omega) (wr.heap.size + 1) (by simp) ?_; intro gg cp w1 hown1 hgrow hat hlt2; have HO2 := Lib.hid hown1; have HG := Lib.hid hgrow; clear hown1 hgrow hat hlt2) | go_in)
      exact ⟨⟨k + 1, _, _, by omega, rfl, by first | rfl | go_num | (congr 1), rfl, Lib.hid (Got.step HZ.out (Got.len HO1.out) (HVk _ _).out HO2.out), Lib.hid (Below.grown (Below.alloc (Below.drewN' HW.out _) HW.out.size _) HG.out (by have := HB.out; simp; omega) HNE.out)⟩, by show n - ((k : Int) + 1).toNat < n - (k : Int).toNat; omega⟩
    · obtain rfl : k = n := by omega
      obtain ⟨g, cap, zr, rfl, hg1, hg2, hg3, hg4, hg5⟩ := HO.out.fin hn0
      have HG3 := Lib.hid hg3
      have HG4 := Lib.hid hg4
      have HG5 := Lib.hid ((⟨hg1, hg2, hg5, HW.out⟩ : New w wr g (.cl k (smV zs k A))))
      clear hg1 hg2 hg3 hg4 hg5
      go_wp2_with (first | (go_at_call 54; refine (giveS_yes _ k _ zr _ HG3.out hn (by rw [rowB_V HG4.out]; exact HROW.out)).mono ?_; rintro e w' ⟨rfl, q6, rfl⟩) | go_in)
      go_ret2
      exact ⟨_, _, rfl, HG5.out.1, HG5.out.2.1, HG5.out.2.2.1, Below.drewN' HG5.out.2.2.2 _⟩
set_option maxRecDepth 100000 in
set_option maxHeartbeats 4000000 in
theorem smS' (a : Option Addr) (n cap : Nat) (zs : List Int) (A : Nat) (w : World) (ha : IRow w a n zs) (hn : n ≤ 1048576) (hok : okS zs n A = false) :
    Calls Try.prog 23 #[.slice a n cap, .float .f32 A] w fun e w' => e = .returned (.tuple #[.slice none 0 0, .bool false]) ∧ Below w.heap.size w w' := by
  obtain ⟨i0, hi, hz0, hz1, hz2⟩ := info_parts Try.info32
  have HA := Lib.hid ha
  clear ha
  cases hcb : cntB zs n with
  | false =>
    clear hok
    go_enter Try.func23, Try.ntmps23
    go_wp2_with (first | (go_at_call 63; refine (cnt_spec _ n _ zs _ HA.out hn).mono ?_; rintro e w' ⟨rfl, rfl⟩) | go_in)
    go_ret2
    exact ⟨rfl, Below.refl _ _⟩
  | true =>
    cases hA : leastB A with
    | false =>
      clear hok
      go_enter Try.func23, Try.ntmps23
      go_wp2_with (first | (go_at_call 63; refine (cnt_spec _ n _ zs _ HA.out hn).mono ?_; rintro e w' ⟨rfl, rfl⟩) | (go_at_call 64; refine (least_spec A _).mono ?_; rintro e w' ⟨rfl, q, rfl⟩) | go_in)
      go_ret2
      exact ⟨rfl, Below.drewN' (Below.refl _ _) _⟩
    | true =>
      have hrow : rowV (smV zs n A) n = false := by unfold okS at hok; rw [hcb, hA] at hok; simpa using hok
      have hn32 := (cnt_out hcb).1.2
      have hn0 : n ≠ 0 := by have := (cnt_out hcb).1; omega
      have HCB := Lib.hid hcb
      have HROW := Lib.hid hrow
      obtain ⟨p, y, e1, e2, hy1, hy2, hy3⟩ := whole_num hcb hA
      have hr1 := fun w2 => fres_some e1 w2
      have hr2 := fun w2 => fres_some e2 w2
      have hdz : ∀ w2 : World, w2.drewN 0 = w2 := World.drewN_zero
      have hf1 := fcnt_some e1
      have hf2 := fcnt_some e2
      have HY := Lib.hid hy1
      have HCY := Lib.hid hy2
      clear hrow hy1 hy2 hy3 hok e1 e2
      cases hab : aboveB y with
      | false =>
        go_enter Try.func23, Try.ntmps23
        go_wp2_with (first | (go_at_call 63; refine (cnt_spec _ n _ zs _ HA.out hn).mono ?_; rintro e w' ⟨rfl, rfl⟩) | (go_at_call 64; refine (least_spec A _).mono ?_; rintro e w' ⟨rfl, q, rfl⟩) | (go_at_call 65; refine (tot_spec _ n _ zs _ (HA.out.drewN' _) HCB.out).mono ?_; rintro e w' ⟨rfl, rfl⟩) | (go_at_call 66; refine (above_spec _ _).mono ?_; rintro e w' ⟨rfl, q3, rfl⟩) | go_in)
        go_ret2
        exact ⟨rfl, Below.drewN' (Below.refl _ _) _⟩
      | true =>
        go_enter Try.func23, Try.ntmps23
        go_wp2_with (first | (go_at_call 63; refine (cnt_spec _ n _ zs _ HA.out hn).mono ?_; rintro e w' ⟨rfl, rfl⟩) | (go_at_call 64; refine (least_spec A _).mono ?_; rintro e w' ⟨rfl, q, rfl⟩) | (go_at_call 65; refine (tot_spec _ n _ zs _ (HA.out.drewN' _) HCB.out).mono ?_; rintro e w' ⟨rfl, rfl⟩) | (go_at_call 66; refine (above_spec _ _).mono ?_; rintro e w' ⟨rfl, q3, rfl⟩) | go_in)
        go_loopw [7, 8] (fun v0 iv wr0 => ∃ (k : Nat) (v : Value) (wr : World), k ≤ n ∧ v = v0 ∧ iv = .int .i64 k ∧ wr = wr0 ∧ Hid (Got wr w.heap.size 23 v k (smV zs n A)) ∧ Hid (Below w.heap.size w wr)) (fun _ iv _ => n - (intOf iv).toNat)
        case atStart => exact ⟨0, _, _, by omega, rfl, rfl, rfl, Lib.hid (Got.empty (w.drewN _) 23 (smV zs n A)), Lib.hid (Below.alloc (Below.drewN' (Below.refl _ _) _) (Nat.le_refl _) _)⟩
        case round =>
          obtain ⟨k, v, wr, hk, rfl, rfl, rfl, HO, HW⟩ := hrel
          clear hr1 hr2 hf1 hf2
          by_cases hlt : k < n
          · obtain ⟨b1, o1, rfl, _, hck⟩ := (HA.out.below HW.out).cell' hlt
            have HVk : ∀ W1 W2, Hid (cls .f32 (fres .quo .f32 (fres .add .f32 (floatOfInt .f32 (zs.getD k 0)) A W1) y W2) = smV zs n A k) := fun W1 W2 => Lib.hid (by rw [fres_cls, fres_cls, HCY.out, ← HY.out]; rfl)
            generalize zs.getD k 0 = c at hck HVk
            obtain ⟨zs0, hz, ho⟩ := HO.out
            have HZ := Lib.hid hz
            have HO1 := Lib.hid ho
            have HNE := Lib.hid (own_block ho)
            have HB := Lib.hid HW.out.size
            clear hz ho
            go_wp2_with (first | (at_builtin; refine wpList_append_lies _ rfl _ _ 22 rfl w.heap.size 23 i0 (.float .f32 0) 1 4 Try.underlying22 hi hz0 hz1 hz2 rfl (by omega) v k (zs0.map (Value.float .f32)) rfl (World.ownsRow.alloc HO1.out _) ⟨wr.heap.size, 0, none⟩ 1 1 [.float .f32 (fres .quo .f32 (fres .add .f32 (floatOfInt .f32 c) A _) y _)] rfl rfl (World.news_of_block (cs := #[.float .f32 (fres .quo .f32 (fres .add .f32 (floatOfInt .f32 c) A _) y _)]) (t := 23) (fr := (0, 0)) (heap_alloc_new _ _)) (by simp [Value.oneCell']) (by omega) (by unfold maxLen; omega) (by omega) (by have := HB.out; simp; omega) (wr.heap.size + 1) (by simp) ?_; intro gg cp w1 hown1 hgrow hat hlt2; have HO2 := Lib.hid hown1; have HG := Lib.hid hgrow; clear hown1 hgrow hat hlt2) | go_in)
            exact ⟨⟨k + 1, _, _, by omega, rfl, by first | rfl | go_num | (congr 1), rfl, Lib.hid (Got.step HZ.out (Got.len HO1.out) (HVk _ _).out HO2.out), Lib.hid (Below.grown (Below.alloc (Below.drewN' HW.out _) HW.out.size _) HG.out (by have := HB.out; simp; omega) HNE.out)⟩, by show n - ((k : Int) + 1).toNat < n - (k : Int).toNat; omega⟩
          · obtain rfl : k = n := by omega
            obtain ⟨g, cap, zr, rfl, hg1, hg2, hg3, hg4, hg5⟩ := HO.out.fin hn0
            have HG3 := Lib.hid hg3
            have HG4 := Lib.hid hg4
            have HG5 := Lib.hid ((⟨hg1, hg2, hg5, HW.out⟩ : New w wr g (.cl k (smV zs k A))))
            clear hg1 hg2 hg3 hg4 hg5
            go_wp2_with (first | (go_at_call 54; refine (giveS_no _ k _ zr _ HG3.out hn (by rw [rowB_V HG4.out]; exact HROW.out)).mono ?_; rintro e w' ⟨rfl, q6, rfl⟩) | go_in)
            go_ret2
            exact ⟨rfl, Below.drewN' HG5.out.2.2.2 _⟩
set_option maxRecDepth 100000 in
set_option maxHeartbeats 4000000 in
theorem smI (a : Option Addr) (n cap : Nat) (zs : List Int) (A : Nat) (w : World) (ha : IRow w a n zs) (hn : n ≤ 1048576) (hok : okS zs n A = true) :
    Calls Try.prog 25 #[.slice a n cap, .float .f32 A] w fun e w' => ∃ g cp, e = .returned (.tuple #[.slice (some ⟨g, 0, none⟩) n cp, .bool true]) ∧ New w w' g (.cl n (smV zs n A)) := by
  obtain ⟨hcb, hA, hrow⟩ := okS_out hok
  obtain ⟨p, y, e1, e2, hy1, hy2, hy3⟩ := whole_num hcb hA
  have hr1 := fun w2 => fres_some e1 w2
  have hr2 := fun w2 => fres_some e2 w2
  have hdz : ∀ w2 : World, w2.drewN 0 = w2 := World.drewN_zero
  have hf1 := fcnt_some e1
  have hf2 := fcnt_some e2
  have HY := Lib.hid hy1
  have HCY := Lib.hid hy2
  have hmk := fun w2 : World => run_make_row' (P := Try.prog) 22 23 (.float .f32 0) 4 Try.underlying22 Try.info32 rfl .i64 .i64 n (by omega) (by omega) w2
  obtain ⟨hfin, hlt0⟩ := least_nlt hA
  have hn0 : n ≠ 0 := by have := (cnt_out hcb).1; omega
  have HCB := Lib.hid hcb
  have HROW := Lib.hid hrow
  have HA := Lib.hid ha
  clear ha hrow hy1 hy2 hy3 hok e1 e2
  go_enter Try.func25, Try.ntmps25
  go_wp2_with (first | (go_at_call 67; refine (cnt_impl _ n _ zs _ HA.out hn).mono ?_; rintro e w' ⟨rfl, rfl⟩) | (go_at_call 68; refine (finite_walk A _).mono ?_; rintro e w' ⟨rfl, q0, rfl⟩) | go_in)
  go_loopw [26] (fun iv w' => ∃ k : Nat, k ≤ n ∧ iv = .int .i64 k ∧ ∃ (q : Nat) (zq : List Nat), w' = ((w.drewN q0).alloc (.cells (mix zq k n) 23)).drewN q ∧ Hid (zq.length = n) ∧ Hid (∀ i, i < k → cls .f32 (zq.getD i 0) = vop .add .f32 (cls .f32 (floatOfInt .f32 (zs.getD i 0))) (cls .f32 A))) (fun iv _ => n - (intOf iv).toNat)
  case atStart => exact ⟨0, by omega, rfl, 0, List.replicate n 0, by rw [mix_zero]; rfl, Lib.hid (by simp), Lib.hid (by intro i hi; omega)⟩
  case round =>
    obtain ⟨k, hk, rfl, q, zq, rfl, HL, HC⟩ := hrel
    clear hmk
    by_cases hlt : k < n
    · clear hr1 hr2 hf1 hf2
      obtain ⟨b1, o1, rfl, hbb1, hc1⟩ := HA.out.cell' hlt
      have hck1 : ((w.drewN q0).alloc (.cells (mix zq k n) 23)).cell? ⟨b1, o1 + k, none⟩ = some (.int .i64 (zs.getD k 0)) := (World.cell?_alloc_past _ _ _ (show b1 < (w.drewN q0).heap.size from hbb1)).trans hc1
      have hst : ∀ (m : Mode) (Q z : Nat), (store ⟨w.heap.size, k, none⟩ (.float .f32 z) m).run Try.prog (((w.drewN q0).alloc (.cells (mix zq k n) 23)).drewN Q) = .ok () (((w.drewN q0).alloc (.cells (mix (zq.set k z) (k + 1) n) 23)).drewN Q) := fun m Q z => by
        rw [store_at Try.prog (w.drewN q0) _ _ w.heap.size k _ Q m rfl (by rw [mix_size zq k n hk HL.out]; exact hlt), mix_put zq k n z hlt HL.out]
      have HV : ∀ W, Hid (cls .f32 (fres .add .f32 (floatOfInt .f32 (zs.getD k 0)) A W) = vop .add .f32 (cls .f32 (floatOfInt .f32 (zs.getD k 0))) (cls .f32 A)) := fun W => Lib.hid (by rw [fres_cls])
      have HV2 : ∀ W, Hid (∀ i, i < k + 1 → cls .f32 ((zq.set k (fres .add .f32 (floatOfInt .f32 (zs.getD k 0)) A W)).getD i 0) = vop .add .f32 (cls .f32 (floatOfInt .f32 (zs.getD i 0))) (cls .f32 A)) := fun W => Lib.hid (set_cls (V := fun i => vop .add .f32 (cls .f32 (floatOfInt .f32 (zs.getD i 0))) (cls .f32 A)) HC.out (HV W).out HL.out hlt)
      clear hc1 HV
      generalize zs.getD k 0 = c at hck1 HV2
      go_wp2
      refine ⟨⟨k + 1, by omega, by first | rfl | go_num | (congr 1), _, zq.set k (fres .add .f32 (floatOfInt .f32 c) A _), rfl, Lib.hid (by rw [List.length_set]; exact HL.out), HV2 _⟩, by show n - ((k : Int) + 1).toNat < n - (k : Int).toNat; omega⟩
    · obtain rfl : k = n := by omega
      have HALL := Lib.hid (mix_all zq k HL.out)
      rw [HALL.out]
      have HM := Lib.hid (FRow.new' (w := w.drewN q0) HL.out rfl 23)
      go_wp2_with (first | (go_at_call 69; refine (tot_impl _ k _ zs _ (((HA.out.drewN' q0).alloc _).drewN' _) HCB.out).mono ?_; rintro e w' ⟨rfl, rfl⟩) | (go_at_call 61; (refine (quot_g _ k _ zq y _ (HM.out.drewN _) hn).mono ?_); rintro e w3 ⟨g, zr, rfl, h0, h1, h2, h3, h4, h5⟩; have H0 : Hid (w.heap.size ≤ g) := Lib.hid (Nat.le_trans (by simp) h0); clear h0; have H1 := Lib.hid h1; have H2 : Hid (∀ i, i < k → cls .f32 (zr.getD i 0) = smV zs k A i) := Lib.hid (sm_quo HC.out HY.out HCY.out h2); have H3 := Lib.hid h3; have H4 := Lib.hid h4; have H5 : Hid (Below w.heap.size w w3) := Lib.hid (Below.next (Below.drewN' (Below.alloc (Below.drewN' (Below.refl _ _) q0) (Nat.le_refl _) _) _) h5); clear h1 h2 h3 h4 h5) | (go_at_call 57; refine (giveI_yes _ k _ zr _ H1.out hn (by rw [rowB_V H2.out]; exact HROW.out)).mono ?_; rintro e w' ⟨rfl, q6, rfl⟩) | go_in)
      go_ret2
      exact ⟨_, _, rfl, H0.out, H4.out, ⟨zr, H2.out, Ent.fl_ok (H1.out.drewN _) H3.out⟩, Below.drewN' H5.out _⟩
set_option maxRecDepth 100000 in
set_option maxHeartbeats 4000000 in
theorem smI' (a : Option Addr) (n cap : Nat) (zs : List Int) (A : Nat) (w : World) (ha : IRow w a n zs) (hn : n ≤ 1048576) (hok : okS zs n A = false) :
    Calls Try.prog 25 #[.slice a n cap, .float .f32 A] w fun e w' => e = .returned (.tuple #[.slice none 0 0, .bool false]) ∧ Below w.heap.size w w' := by
  have HA := Lib.hid ha
  clear ha
  cases hcb : cntB zs n with
  | false =>
    clear hok
    go_enter Try.func25, Try.ntmps25
    go_wp2_with (first | (go_at_call 67; refine (cnt_impl _ n _ zs _ HA.out hn).mono ?_; rintro e w' ⟨rfl, rfl⟩) | go_in)
    go_ret2
    exact ⟨rfl, Below.refl _ _⟩
  | true =>
    cases hA : leastB A with
    | false =>
      clear hok
      cases hfin : finD ((FloatKind.f32).decode A) with
      | false =>
        go_enter Try.func25, Try.ntmps25
        go_wp2_with (first | (go_at_call 67; refine (cnt_impl _ n _ zs _ HA.out hn).mono ?_; rintro e w' ⟨rfl, rfl⟩) | (go_at_call 68; refine (finite_walk A _).mono ?_; rintro e w' ⟨rfl, q0, rfl⟩) | go_in)
        go_ret2
        exact ⟨rfl, Below.drewN' (Below.refl _ _) _⟩
      | true =>
        have hlt0 := least_lt hA hfin
        go_enter Try.func25, Try.ntmps25
        go_wp2_with (first | (go_at_call 67; refine (cnt_impl _ n _ zs _ HA.out hn).mono ?_; rintro e w' ⟨rfl, rfl⟩) | (go_at_call 68; refine (finite_walk A _).mono ?_; rintro e w' ⟨rfl, q0, rfl⟩) | go_in)
        go_ret2
        exact ⟨rfl, Below.drewN' (Below.refl _ _) _⟩
    | true =>
      have hrow : rowV (smV zs n A) n = false := by unfold okS at hok; rw [hcb, hA] at hok; simpa using hok
      obtain ⟨hfin, hlt0⟩ := least_nlt hA
      have hn0 : n ≠ 0 := by have := (cnt_out hcb).1; omega
      have HCB := Lib.hid hcb
      have HROW := Lib.hid hrow
      obtain ⟨p, y, e1, e2, hy1, hy2, hy3⟩ := whole_num hcb hA
      have hr1 := fun w2 => fres_some e1 w2
      have hr2 := fun w2 => fres_some e2 w2
      have hdz : ∀ w2 : World, w2.drewN 0 = w2 := World.drewN_zero
      have hf1 := fcnt_some e1
      have hf2 := fcnt_some e2
      have HY := Lib.hid hy1
      have HCY := Lib.hid hy2
      have hmk := fun w2 : World => run_make_row' (P := Try.prog) 22 23 (.float .f32 0) 4 Try.underlying22 Try.info32 rfl .i64 .i64 n (by omega) (by omega) w2
      clear hrow hy1 hy2 hy3 hok e1 e2
      go_enter Try.func25, Try.ntmps25
      go_wp2_with (first | (go_at_call 67; refine (cnt_impl _ n _ zs _ HA.out hn).mono ?_; rintro e w' ⟨rfl, rfl⟩) | (go_at_call 68; refine (finite_walk A _).mono ?_; rintro e w' ⟨rfl, q0, rfl⟩) | go_in)
      go_loopw [26] (fun iv w' => ∃ k : Nat, k ≤ n ∧ iv = .int .i64 k ∧ ∃ (q : Nat) (zq : List Nat), w' = ((w.drewN q0).alloc (.cells (mix zq k n) 23)).drewN q ∧ Hid (zq.length = n) ∧ Hid (∀ i, i < k → cls .f32 (zq.getD i 0) = vop .add .f32 (cls .f32 (floatOfInt .f32 (zs.getD i 0))) (cls .f32 A))) (fun iv _ => n - (intOf iv).toNat)
      case atStart => exact ⟨0, by omega, rfl, 0, List.replicate n 0, by rw [mix_zero]; rfl, Lib.hid (by simp), Lib.hid (by intro i hi; omega)⟩
      case round =>
        obtain ⟨k, hk, rfl, q, zq, rfl, HL, HC⟩ := hrel
        clear hmk
        by_cases hlt : k < n
        · clear hr1 hr2 hf1 hf2
          obtain ⟨b1, o1, rfl, hbb1, hc1⟩ := HA.out.cell' hlt
          have hck1 : ((w.drewN q0).alloc (.cells (mix zq k n) 23)).cell? ⟨b1, o1 + k, none⟩ = some (.int .i64 (zs.getD k 0)) := (World.cell?_alloc_past _ _ _ (show b1 < (w.drewN q0).heap.size from hbb1)).trans hc1
          have hst : ∀ (m : Mode) (Q z : Nat), (store ⟨w.heap.size, k, none⟩ (.float .f32 z) m).run Try.prog (((w.drewN q0).alloc (.cells (mix zq k n) 23)).drewN Q) = .ok () (((w.drewN q0).alloc (.cells (mix (zq.set k z) (k + 1) n) 23)).drewN Q) := fun m Q z => by
            rw [store_at Try.prog (w.drewN q0) _ _ w.heap.size k _ Q m rfl (by rw [mix_size zq k n hk HL.out]; exact hlt), mix_put zq k n z hlt HL.out]
          have HV : ∀ W, Hid (cls .f32 (fres .add .f32 (floatOfInt .f32 (zs.getD k 0)) A W) = vop .add .f32 (cls .f32 (floatOfInt .f32 (zs.getD k 0))) (cls .f32 A)) := fun W => Lib.hid (by rw [fres_cls])
          have HV2 : ∀ W, Hid (∀ i, i < k + 1 → cls .f32 ((zq.set k (fres .add .f32 (floatOfInt .f32 (zs.getD k 0)) A W)).getD i 0) = vop .add .f32 (cls .f32 (floatOfInt .f32 (zs.getD i 0))) (cls .f32 A)) := fun W => Lib.hid (set_cls (V := fun i => vop .add .f32 (cls .f32 (floatOfInt .f32 (zs.getD i 0))) (cls .f32 A)) HC.out (HV W).out HL.out hlt)
          clear hc1 HV
          generalize zs.getD k 0 = c at hck1 HV2
          go_wp2
          refine ⟨⟨k + 1, by omega, by first | rfl | go_num | (congr 1), _, zq.set k (fres .add .f32 (floatOfInt .f32 c) A _), rfl, Lib.hid (by rw [List.length_set]; exact HL.out), HV2 _⟩, by show n - ((k : Int) + 1).toNat < n - (k : Int).toNat; omega⟩
        · obtain rfl : k = n := by omega
          have HALL := Lib.hid (mix_all zq k HL.out)
          rw [HALL.out]
          have HM := Lib.hid (FRow.new' (w := w.drewN q0) HL.out rfl 23)
          go_wp2_with (first | (go_at_call 69; refine (tot_impl _ k _ zs _ (((HA.out.drewN' q0).alloc _).drewN' _) HCB.out).mono ?_; rintro e w' ⟨rfl, rfl⟩) | (go_at_call 61; (refine (quot_g _ k _ zq y _ (HM.out.drewN _) hn).mono ?_); rintro e w3 ⟨g, zr, rfl, h0, h1, h2, h3, h4, h5⟩; have H0 : Hid (w.heap.size ≤ g) := Lib.hid (Nat.le_trans (by simp) h0); clear h0; have H1 := Lib.hid h1; have H2 : Hid (∀ i, i < k → cls .f32 (zr.getD i 0) = smV zs k A i) := Lib.hid (sm_quo HC.out HY.out HCY.out h2); have H3 := Lib.hid h3; have H4 := Lib.hid h4; have H5 : Hid (Below w.heap.size w w3) := Lib.hid (Below.next (Below.drewN' (Below.alloc (Below.drewN' (Below.refl _ _) q0) (Nat.le_refl _) _) _) h5); clear h1 h2 h3 h4 h5) | (go_at_call 57; refine (giveI_no _ k _ zr _ H1.out hn (by rw [rowB_V H2.out]; exact HROW.out)).mono ?_; rintro e w' ⟨rfl, q6, rfl⟩) | go_in)
          go_ret2
          exact ⟨rfl, Below.drewN' H5.out _⟩
end Go.Proofs.Ytcgdhicgpkoncaa
