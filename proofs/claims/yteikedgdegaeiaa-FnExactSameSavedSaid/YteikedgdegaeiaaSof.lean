
/- Soft lists: finite numbers, IsSoft, HardOf, SoftOf: the functions. -/
import Derived.Test.YteikedgdegaeiaaGat
import Derived.Test.YteikedgdegaeiaaFlx
import Derived.Test.YteikedgdegaeiaaRww
import Derived.Test.YteikedgdegaeiaaLiv
namespace Go.Proofs.Yteikedgdegaeiaa
open Go.Proofs.Yteikedgdegaeiaa.Flo Go.RowKit

/-- Finite. -/
def finB (x : Nat) : Bool := finD ((FloatKind.f32).decode x)
def afB (zs : List Nat) (n : Nat) : Bool := decide (∀ j, j < n → finB (zs.getD j 0) = true)
def sfB (zs : List Nat) (n : Nat) : Bool := decide (n ≤ 160) && afB zs n
theorem af_no {zs : List Nat} {n k : Nat} (hk : k < n) (h : finB (zs.getD k 0) = false) : afB zs n = false := notAll (p := fun j => finB (zs.getD j 0)) hk h
theorem af_all {zs : List Nat} {n : Nat} (h : ∀ j, j < n → finB (zs.getD j 0) = true) : afB zs n = true := decide_eq_true h
theorem sf_out {zs : List Nat} {n : Nat} (h : sfB zs n = true) : n ≤ 160 ∧ afB zs n = true := by
  unfold sfB at h; rw [Bool.and_eq_true] at h; exact ⟨of_decide_eq_true h.1, h.2⟩
theorem sf_yes {zs : List Nat} {n : Nat} (h : n ≤ 160) : sfB zs n = afB zs n := by unfold sfB; rw [decide_eq_true h, Bool.true_and]
theorem sf_no {zs : List Nat} {n : Nat} (h : ¬ n ≤ 160) : sfB zs n = false := by unfold sfB; rw [decide_eq_false h]; rfl
/-- Greater than 0. -/
def posB (x : Nat) : Bool := (FloatKind.f32).format.order x 0 == some .gt
def hdF (zs : List Nat) (i : Nat) : Value := .bool (posB (zs.getD i 0))
set_option maxHeartbeats 2000000 in
theorem af_impl (a : Option Addr) (n cap : Nat) (zs : List Nat) (w : World) (ha : FRow w a n zs) (hn : n ≤ 1048576) :
    Calls Try.prog 123 #[.slice a n cap] w fun e w' => e = .returned (.bool (afB zs n)) ∧ Drew w w' := by
  have HA := Lib.hid ha
  clear ha
  go_enter Try.func123, Try.ntmps123
  go_wp2
  go_loopw [7] (fun iv w' => ∃ (k : Nat) (wr : World), k ≤ n ∧ iv = .int .i64 k ∧ wr = w' ∧ Hid (∀ j, j < k → finB (zs.getD j 0) = true) ∧ Hid (Drew w wr)) (fun iv _ => n - (intOf iv).toNat)
  case atStart => exact ⟨0, _, by omega, rfl, rfl, Lib.hid (by intro j hj; omega), Lib.hid (by first | exact Drew.mk _ _ | exact ⟨0, rfl⟩)⟩
  case round =>
    obtain ⟨k, wr, hk, rfl, rfl, HL, HD⟩ := hrel
    by_cases hlt : k < n
    · obtain ⟨b1, o1, rfl, hck⟩ := (HD.out.row HA.out).cell hlt
      have HX : Hid (∀ W, Calls Try.prog 114 #[.float .f32 (zs.getD k 0)] W fun e w' => e = .returned (.bool (finB (zs.getD k 0))) ∧ Drew W w') := Lib.hid (fun W => finite_walk _ W)
      cases hf : finB (zs.getD k 0) with
      | true =>
        have HZ := Lib.hid hf
        rw [hf] at HX
        clear hf
        generalize hx : zs.getD k 0 = x at hck HX
        clear hx
        go_wp2_with (first | (go_at_call 114; refine (HX.out _).mono ?_; rintro e w2 ⟨rfl, hd⟩; have HD2 := Lib.hid (HD.out.trans hd); clear hd) | fail)
        exact ⟨⟨k + 1, _, by omega, by first | rfl | go_num | (congr 1), rfl, Lib.hid (fun j hj => by by_cases e : j = k; exact e ▸ HZ.out; exact HL.out j (by omega)), HD2⟩, by show n - ((k : Int) + 1).toNat < n - (k : Int).toNat; omega⟩
      | false =>
        have HF := Lib.hid (af_no hlt hf)
        rw [hf] at HX
        clear hf
        generalize hx : zs.getD k 0 = x at hck HX
        clear hx
        go_wp2_with (first | (go_at_call 114; refine (HX.out _).mono ?_; rintro e w2 ⟨rfl, hd⟩; have HD2 := Lib.hid (HD.out.trans hd); clear hd) | fail)
        go_ret
        exact ⟨ret_bool2 HF.out.symm, HD2.out⟩
    · obtain rfl : k = n := by omega
      have HF := Lib.hid (af_all HL.out)
      go_wp2
      go_ret
      exact ⟨ret_bool2 HF.out.symm, HD.out⟩
set_option maxHeartbeats 2000000 in
theorem af_spec (a : Option Addr) (n cap : Nat) (zs : List Nat) (w : World) (ha : FRow w a n zs) (hn : n ≤ 1048576) :
    Calls Try.prog 81 #[.slice a n cap] w fun e w' => e = .returned (.bool (afB zs n)) ∧ Drew w w' := by
  have HA := Lib.hid ha
  clear ha
  go_enter Try.func81, Try.ntmps81
  go_wp2
  go_loopw [3] (fun iv w' => ∃ (k : Nat) (wr : World), k ≤ n ∧ iv = .int .i64 k ∧ wr = w' ∧ Hid (∀ j, j < k → finB (zs.getD j 0) = true) ∧ Hid (Drew w wr)) (fun iv _ => n - (intOf iv).toNat)
  case atStart => exact ⟨0, _, by omega, rfl, rfl, Lib.hid (by intro j hj; omega), Lib.hid (by first | exact Drew.mk _ _ | exact ⟨0, rfl⟩)⟩
  case round =>
    obtain ⟨k, wr, hk, rfl, rfl, HL, HD⟩ := hrel
    by_cases hlt : k < n
    · obtain ⟨b1, o1, rfl, hck⟩ := (HD.out.row HA.out).cell hlt
      have HX : Hid (∀ W, Calls Try.prog 91 #[.float .f32 (zs.getD k 0)] W fun e w' => e = .returned (.bool (finB (zs.getD k 0))) ∧ Drew W w') := Lib.hid (fun W => finite_spec _ W)
      cases hf : finB (zs.getD k 0) with
      | true =>
        have HZ := Lib.hid hf
        rw [hf] at HX
        clear hf
        generalize hx : zs.getD k 0 = x at hck HX
        clear hx
        go_wp2_with (first | (go_at_call 91; refine (HX.out _).mono ?_; rintro e w2 ⟨rfl, hd⟩; have HD2 := Lib.hid (HD.out.trans hd); clear hd) | fail)
        exact ⟨⟨k + 1, _, by omega, by first | rfl | go_num | (congr 1), rfl, Lib.hid (fun j hj => by by_cases e : j = k; exact e ▸ HZ.out; exact HL.out j (by omega)), HD2⟩, by show n - ((k : Int) + 1).toNat < n - (k : Int).toNat; omega⟩
      | false =>
        have HF := Lib.hid (af_no hlt hf)
        rw [hf] at HX
        clear hf
        generalize hx : zs.getD k 0 = x at hck HX
        clear hx
        go_wp2_with (first | (go_at_call 91; refine (HX.out _).mono ?_; rintro e w2 ⟨rfl, hd⟩; have HD2 := Lib.hid (HD.out.trans hd); clear hd) | fail)
        go_ret
        exact ⟨ret_bool2 HF.out.symm, HD2.out⟩
    · obtain rfl : k = n := by omega
      have HF := Lib.hid (af_all HL.out)
      go_wp2
      go_ret
      exact ⟨ret_bool2 HF.out.symm, HD.out⟩
set_option maxHeartbeats 2000000 in
theorem sf_impl (a : Option Addr) (n cap : Nat) (zs : List Nat) (w : World) (ha : FRow w a n zs) (hn : n ≤ 1048576) :
    Calls Try.prog 64 #[.slice a n cap] w fun e w' => e = .returned (.bool (sfB zs n)) ∧ Drew w w' := by
  have HX : Hid (∀ W, Drew w W → Calls Try.prog 123 #[.slice a n cap] W fun e w' => e = .returned (.bool (afB zs n)) ∧ Drew W w') := Lib.hid (fun W hd => af_impl a n cap zs W (hd.row ha) hn)
  clear ha
  by_cases h1 : n ≤ 160
  · have HF := Lib.hid (sf_yes (zs := zs) h1)
    have d1 : decide ((n : Int) ≤ 160) = true := decide_eq_true (by omega)
    go_enter Try.func64, Try.ntmps64
    go_wp2_with (first | (go_at_call 123; refine (HX.out _ (by first | exact Drew.mk _ _ | exact ⟨0, rfl⟩)).mono ?_; rintro e w2 ⟨rfl, hd⟩; have HD2 := Lib.hid hd; clear hd) | fail)
    go_ret
    exact ⟨ret_bool2 HF.out.symm, by first | exact HD2.out | exact Drew.trans (by first | exact Drew.mk _ _ | exact ⟨0, rfl⟩) HD2.out⟩
  · have HF := Lib.hid (sf_no (zs := zs) h1)
    have d1 : decide ((n : Int) ≤ 160) = false := decide_eq_false (by omega)
    go_enter Try.func64, Try.ntmps64
    go_wp2
    go_ret
    exact ⟨ret_bool2 HF.out.symm, by first | exact Drew.mk _ _ | exact ⟨0, rfl⟩⟩
set_option maxHeartbeats 2000000 in
theorem s7_spec (a : Option Addr) (n cap : Nat) (zs : List Nat) (w : World) (ha : FRow w a n zs) (hn : n ≤ 1048576) :
    Calls Try.prog 106 #[.slice a n cap] w fun e w' => e = .returned (.bool (sfB zs n)) ∧ Drew w w' := by
  have HX : Hid (∀ W, Drew w W → Calls Try.prog 81 #[.slice a n cap] W fun e w' => e = .returned (.bool (afB zs n)) ∧ Drew W w') := Lib.hid (fun W hd => af_spec a n cap zs W (hd.row ha) hn)
  clear ha
  by_cases h1 : n ≤ 160
  · have HF := Lib.hid (sf_yes (zs := zs) h1)
    have d1 : decide ((n : Int) ≤ 160) = true := decide_eq_true (by omega)
    go_enter Try.func106, Try.ntmps106
    go_wp2_with (first | (go_at_call 81; refine (HX.out _ (by first | exact Drew.mk _ _ | exact ⟨0, rfl⟩)).mono ?_; rintro e w2 ⟨rfl, hd⟩; have HD2 := Lib.hid hd; clear hd) | fail)
    go_ret
    exact ⟨ret_bool2 HF.out.symm, by first | exact HD2.out | exact Drew.trans (by first | exact Drew.mk _ _ | exact ⟨0, rfl⟩) HD2.out⟩
  · have HF := Lib.hid (sf_no (zs := zs) h1)
    have d1 : decide ((n : Int) ≤ 160) = false := decide_eq_false (by omega)
    go_enter Try.func106, Try.ntmps106
    go_wp2
    go_ret
    exact ⟨ret_bool2 HF.out.symm, by first | exact Drew.mk _ _ | exact ⟨0, rfl⟩⟩
set_option maxRecDepth 100000 in
set_option maxHeartbeats 4000000 in
theorem hd_impl (a : Option Addr) (n cap : Nat) (zs : List Nat) (w : World) (ha : FRow w a n zs) (hn : n ≤ 1048576) :
    Calls Try.prog 144 #[.slice a n cap] w fun e w' => ∃ v, e = .returned v ∧ Gat w' w.heap.size 4 v n (hdF zs) ∧ Below w.heap.size w w' := by
  obtain ⟨i0, hi, hz0, hz1, hz2⟩ := info_parts Try.infoB
  have HA := Lib.hid ha
  have HF : ∃ F, F = hdF zs := ⟨_, rfl⟩
  obtain ⟨F, hF⟩ := HF
  have HFE := Lib.hid hF
  rw [← hF]
  clear ha hF
  go_enter Try.func144, Try.ntmps144
  go_wp2
  go_loopw [3, 8] (fun sv iv w' => ∃ (k : Nat) (v : Value) (wr : World), k ≤ n ∧ sv = v ∧ iv = .int .i64 k ∧ wr = w' ∧ Hid (Gat wr w.heap.size 4 v k F) ∧ Hid (Below w.heap.size w wr)) (fun _ iv _ => n - (intOf iv).toNat)
  case atStart => exact ⟨0, _, _, by omega, rfl, rfl, rfl, Lib.hid (Gat.nil _ _ _ _), Lib.hid (Below.refl _ _)⟩
  case round =>
    obtain ⟨k, v, wr, hk, rfl, rfl, rfl, HG, HW⟩ := hrel
    by_cases hlt : k < n
    · obtain ⟨b1, o1, rfl, hck⟩ := (HA.out.below HW.out).cell hlt
      have HK : Hid (F k = .bool (posB (zs.getD k 0))) := Lib.hid (by rw [HFE.out]; rfl)
      have hp : ((FloatKind.f32).format.order (zs.getD k 0) 0 == some .gt) = posB (zs.getD k 0) := rfl
      have hsz := HW.out.size
      have HNE := Lib.hid (Gat.block HG.out)
      generalize zs.getD k 0 = x at hck HK hp
      clear HA
      go_wp2_with (first | (at_builtin; refine wpList_append_lies _ rfl _ _ 22 rfl w.heap.size 4 i0 (.bool false) 1 1 Try.underlying22 hi hz0 hz1 hz2 rfl (by omega) u3 k ((List.range k).map F) rfl (World.ownsRow.alloc HG.out _) ⟨wr.heap.size, 0, none⟩ 1 1 [.bool (posB x)] rfl rfl (World.news_of_block (cs := #[.bool (posB x)]) (t := 4) (fr := (0, 0)) (heap_alloc_new _ _)) (by simp [Value.oneCell']) (by omega) (by unfold maxLen; omega) (by omega) (by simp; omega) (wr.heap.size + 1) (by simp) ?_; intro gg cp w1 hown1 hgrow hat hlt3; have HO2 := Lib.hid hown1; have HG2 := Lib.hid hgrow; clear hown1 hgrow hat hlt3) | fail)
      exact ⟨⟨k + 1, _, _, by omega, rfl, by first | rfl | go_num | (congr 1), rfl, Lib.hid (Gat.step HO2.out HK.out.symm), Lib.hid (Below.grown (Below.alloc HW.out HW.out.size _) HG2.out (by simp; omega) (fun j hj => Nat.le_trans (by omega) (HNE.out j hj)))⟩, by show n - ((k : Int) + 1).toNat < n - (k : Int).toNat; omega⟩
    · obtain rfl : k = n := by omega
      go_wp2
      go_ret
      exact ⟨_, rfl, HG.out, HW.out⟩
set_option maxRecDepth 100000 in
set_option maxHeartbeats 4000000 in
theorem hd_spec (a : Option Addr) (n cap : Nat) (zs : List Nat) (w : World) (ha : FRow w a n zs) (hn : n ≤ 1048576) :
    Calls Try.prog 88 #[.slice a n cap] w fun e w' => ∃ v, e = .returned v ∧ Gat w' w.heap.size 4 v n (hdF zs) ∧ Below w.heap.size w w' := by
  obtain ⟨i0, hi, hz0, hz1, hz2⟩ := info_parts Try.infoB
  have HA := Lib.hid ha
  have HF : ∃ F, F = hdF zs := ⟨_, rfl⟩
  obtain ⟨F, hF⟩ := HF
  have HFE := Lib.hid hF
  rw [← hF]
  clear ha hF
  go_enter Try.func88, Try.ntmps88
  go_wp2
  go_loopw [3, 8] (fun sv iv w' => ∃ (k : Nat) (v : Value) (wr : World), k ≤ n ∧ sv = v ∧ iv = .int .i64 k ∧ wr = w' ∧ Hid (Gat wr w.heap.size 4 v k F) ∧ Hid (Below w.heap.size w wr)) (fun _ iv _ => n - (intOf iv).toNat)
  case atStart => exact ⟨0, _, _, by omega, rfl, rfl, rfl, Lib.hid (Gat.empty _ _ _), Lib.hid ((Below.refl _ _).alloc (Nat.le_refl _) _)⟩
  case round =>
    obtain ⟨k, v, wr, hk, rfl, rfl, rfl, HG, HW⟩ := hrel
    by_cases hlt : k < n
    · obtain ⟨b1, o1, rfl, hck⟩ := (HA.out.below HW.out).cell hlt
      have HK : Hid (F k = .bool (posB (zs.getD k 0))) := Lib.hid (by rw [HFE.out]; rfl)
      have hp : ((FloatKind.f32).format.order (zs.getD k 0) 0 == some .gt) = posB (zs.getD k 0) := rfl
      have hsz := HW.out.size
      have HNE := Lib.hid (Gat.block HG.out)
      generalize zs.getD k 0 = x at hck HK hp
      clear HA
      go_wp2_with (first | (at_builtin; refine wpList_append_lies _ rfl _ _ 22 rfl w.heap.size 4 i0 (.bool false) 1 1 Try.underlying22 hi hz0 hz1 hz2 rfl (by omega) u3 k ((List.range k).map F) rfl (World.ownsRow.alloc HG.out _) ⟨wr.heap.size, 0, none⟩ 1 1 [.bool (posB x)] rfl rfl (World.news_of_block (cs := #[.bool (posB x)]) (t := 4) (fr := (0, 0)) (heap_alloc_new _ _)) (by simp [Value.oneCell']) (by omega) (by unfold maxLen; omega) (by omega) (by simp; omega) (wr.heap.size + 1) (by simp) ?_; intro gg cp w1 hown1 hgrow hat hlt3; have HO2 := Lib.hid hown1; have HG2 := Lib.hid hgrow; clear hown1 hgrow hat hlt3) | fail)
      exact ⟨⟨k + 1, _, _, by omega, rfl, by first | rfl | go_num | (congr 1), rfl, Lib.hid (Gat.step HO2.out HK.out.symm), Lib.hid (Below.grown (Below.alloc HW.out HW.out.size _) HG2.out (by simp; omega) (fun j hj => Nat.le_trans (by omega) (HNE.out j hj)))⟩, by show n - ((k : Int) + 1).toNat < n - (k : Int).toNat; omega⟩
    · obtain rfl : k = n := by omega
      go_wp2
      go_ret
      exact ⟨_, rfl, HG.out, HW.out⟩
end Go.Proofs.Yteikedgdegaeiaa
