/- Sines of turns: the model's walk, and the law. -/
import Derived.Test.YtgdcpohdejbhaacFls
namespace Go.Proofs.Ytgdcpohdejbhaac
open Go.Proofs.Ytgdcpohdejbhaac.Flo Go.RowKit

theorem add1_cls {f : Nat} {X : Option Nat} (h : cls .f64 f = X) (w : World) : cls .f64 (fres .add .f64 f 4607182418800017408 w) = vop .add .f64 X (some c1) := by
  rw [fres_cls, h, show cls .f64 4607182418800017408 = some c1 from cls_c1]
theorem rest_f {y : Nat} (h : vlt (restF y) (some 0) = false) : restV y = restF y := by unfold restV; rw [h]; rfl
theorem rest_t {y : Nat} (h : vlt (restF y) (some 0) = true) : restV y = vop .add .f64 (restF y) (some c1) := by unfold restV; rw [h]; rfl
theorem small_fin {d : Ieee.Datum} (h : smallD d = true) : finD d = true ∧ d.isNaN = false := by
  cases d with
  | number s m i => exact ⟨rfl, rfl⟩
  | infinity s => cases h
  | nan s t => cases h
theorem restF_cls {y : Nat} (h : smallD ((FloatKind.f64).decode y) = true) (w : World) : cls .f64 (fres .sub .f64 y (floatOfInt .f64 (truncI y)) w) = restF y := by
  rw [fres_cls, cls_of_not (small_fin h).2, cls_int]; rfl
theorem order_lt {b : Nat} {U : Option Nat} (h : cls .f64 b = U) (c : Nat) (hc : cls .f64 c = some c) : ((FloatKind.f64).format.order b c == some .lt) = vlt U (some c) := by
  rw [order_cls, h, hc]; rfl
theorem sub_self_ne (x : Nat) (w : World) : ((FloatKind.f64).format.order (fres .sub .f64 x x w) 0 != some .eq) = !finD ((FloatKind.f64).decode x) := by
  rw [← sub_self_bits .f64 x w]; rfl
theorem small_tests {y : Nat} (h : smallD ((FloatKind.f64).decode y) = true) : geB .f64 y 4841369599423283200 = false ∧ leB .f64 y 14064741636278059008 = false := by
  have := both_ge (small_fin h).1
  rw [h] at this
  simpa using this
set_option maxHeartbeats 1000000 in
theorem sine_spec_fff (y : Nat) (U : Option Nat) (h : smallD ((FloatKind.f64).decode y) = true) (HU : Hid (restV y = U)) (H0 : Hid (vlt (restF y) (some 0) = false)) (H1 : Hid (vge U (some c05) = false)) (H2 : Hid (vgt (halfV U) (some c025) = false)) (w : World) :
    Calls Try.prog 69 #[.float .f64 y] w fun e w' => ∃ r, e = .returned (.float .f64 r) ∧ cls .f64 r = sinF U ∧ Drew w w' := by
    have hcv := fun w2 : World => run_convert_float_int (P := Try.prog) w2 22 2 .f64 .i64 y (truncI y) (by kernel_rfl) Try.underlying2 (trunc_small h)
    have hlt := fun w2 : World => (order_lt (restF_cls h w2) 0 cls_0).trans H0.out
    have hss := fun w2 : World => sub_self_ne y w2
    rw [(small_fin h).1] at hss
    have hge := (small_tests h).1
    have hle := (small_tests h).2
    unfold geB at hge
    unfold leB at hle
    have hf0 : ∀ w2 : World, cls .f64 (fres .sub .f64 y (floatOfInt .f64 (truncI y)) w2) = U := fun w2 => (restF_cls h w2).trans ((rest_f H0.out).symm.trans HU.out)
    have ht := fun w2 : World => (order_ge (hf0 w2) c05 cls_c05).trans H1.out
    have ht2 := fun w2 : World => (order_gt ((hf0 w2).trans (half_f H1.out).symm) c025 cls_c025).trans H2.out
    have Hf := Lib.hid hf0
    clear hf0 h HU
    unfold c05 at ht
    unfold c025 at ht2
    go_enter Try.func69, Try.ntmps69
    go_wp2
    go_loopw [7, 8] (fun pv kv w' => ∃ (j : Nat) (k : Int) (pb nn : Nat), j ≤ 8 ∧ k = 8 - (j : Int) ∧ pv = .float .f64 pb ∧ kv = .int .i64 k ∧
      Hid (cls .f64 pb = serS (vop .mul .f64 (zV (foldV (halfV U))) (zV (foldV (halfV U)))) j) ∧ w' = w.drewN nn) (fun _ kv _ => (intOf kv).toNat)
    case atStart => exact ⟨0, 8, _, _, by omega, by omega, rfl, rfl, Lib.hid cls_c1, rfl⟩
    case round =>
      obtain ⟨j, k, pb, nn, hj, hk, rfl, rfl, Hp, rfl⟩ := hrel
      by_cases hlt : 1 ≤ k
      · have Hk := Lib.hid hk
        have hk2 : k ≤ 8 := by omega
        have hk3 : j < 8 := by omega
        clear hk
        go_wp2
        go_roundw
        case rel => exact ⟨j + 1, k - 1, _, _, by omega, by have := Hk.out; omega, rfl, by go_num, Lib.hid (stS_cls (sq_cls (z_cls ((Hf.out _).trans (fold_ff H1.out H2.out).symm) _) _) Hp.out Hk.out hk3 _ _ _), rfl⟩
        case measure => simp [intOf]; omega
      · obtain rfl : j = 8 := by omega
        clear hk
        go_wp2
        go_ret
        exact ⟨_, rfl, sin_end (b := false) (z_cls ((Hf.out _).trans (fold_ff H1.out H2.out).symm) _) Hp.out H1.out _, Drew.mk _ _⟩

set_option maxHeartbeats 1000000 in
theorem sine_spec_fft (y : Nat) (U : Option Nat) (h : smallD ((FloatKind.f64).decode y) = true) (HU : Hid (restV y = U)) (H0 : Hid (vlt (restF y) (some 0) = false)) (H1 : Hid (vge U (some c05) = false)) (H2 : Hid (vgt (halfV U) (some c025) = true)) (w : World) :
    Calls Try.prog 69 #[.float .f64 y] w fun e w' => ∃ r, e = .returned (.float .f64 r) ∧ cls .f64 r = sinF U ∧ Drew w w' := by
    have hcv := fun w2 : World => run_convert_float_int (P := Try.prog) w2 22 2 .f64 .i64 y (truncI y) (by kernel_rfl) Try.underlying2 (trunc_small h)
    have hlt := fun w2 : World => (order_lt (restF_cls h w2) 0 cls_0).trans H0.out
    have hss := fun w2 : World => sub_self_ne y w2
    rw [(small_fin h).1] at hss
    have hge := (small_tests h).1
    have hle := (small_tests h).2
    unfold geB at hge
    unfold leB at hle
    have hf0 : ∀ w2 : World, cls .f64 (fres .sub .f64 y (floatOfInt .f64 (truncI y)) w2) = U := fun w2 => (restF_cls h w2).trans ((rest_f H0.out).symm.trans HU.out)
    have ht := fun w2 : World => (order_ge (hf0 w2) c05 cls_c05).trans H1.out
    have ht2 := fun w2 : World => (order_gt ((hf0 w2).trans (half_f H1.out).symm) c025 cls_c025).trans H2.out
    have Hf := Lib.hid hf0
    clear hf0 h HU
    unfold c05 at ht
    unfold c025 at ht2
    go_enter Try.func69, Try.ntmps69
    go_wp2
    go_loopw [7, 8] (fun pv kv w' => ∃ (j : Nat) (k : Int) (pb nn : Nat), j ≤ 8 ∧ k = 8 - (j : Int) ∧ pv = .float .f64 pb ∧ kv = .int .i64 k ∧
      Hid (cls .f64 pb = serS (vop .mul .f64 (zV (foldV (halfV U))) (zV (foldV (halfV U)))) j) ∧ w' = w.drewN nn) (fun _ kv _ => (intOf kv).toNat)
    case atStart => exact ⟨0, 8, _, _, by omega, by omega, rfl, rfl, Lib.hid cls_c1, rfl⟩
    case round =>
      obtain ⟨j, k, pb, nn, hj, hk, rfl, rfl, Hp, rfl⟩ := hrel
      by_cases hlt : 1 ≤ k
      · have Hk := Lib.hid hk
        have hk2 : k ≤ 8 := by omega
        have hk3 : j < 8 := by omega
        clear hk
        go_wp2
        go_roundw
        case rel => exact ⟨j + 1, k - 1, _, _, by omega, by have := Hk.out; omega, rfl, by go_num, Lib.hid (stS_cls (sq_cls (z_cls ((from05_cls (Hf.out _) _).trans (fold_ft H1.out H2.out).symm) _) _) Hp.out Hk.out hk3 _ _ _), rfl⟩
        case measure => simp [intOf]; omega
      · obtain rfl : j = 8 := by omega
        clear hk
        go_wp2
        go_ret
        exact ⟨_, rfl, sin_end (b := false) (z_cls ((from05_cls (Hf.out _) _).trans (fold_ft H1.out H2.out).symm) _) Hp.out H1.out _, Drew.mk _ _⟩

set_option maxHeartbeats 1000000 in
theorem sine_spec_ftf (y : Nat) (U : Option Nat) (h : smallD ((FloatKind.f64).decode y) = true) (HU : Hid (restV y = U)) (H0 : Hid (vlt (restF y) (some 0) = false)) (H1 : Hid (vge U (some c05) = true)) (H2 : Hid (vgt (halfV U) (some c025) = false)) (w : World) :
    Calls Try.prog 69 #[.float .f64 y] w fun e w' => ∃ r, e = .returned (.float .f64 r) ∧ cls .f64 r = sinF U ∧ Drew w w' := by
    have hcv := fun w2 : World => run_convert_float_int (P := Try.prog) w2 22 2 .f64 .i64 y (truncI y) (by kernel_rfl) Try.underlying2 (trunc_small h)
    have hlt := fun w2 : World => (order_lt (restF_cls h w2) 0 cls_0).trans H0.out
    have hss := fun w2 : World => sub_self_ne y w2
    rw [(small_fin h).1] at hss
    have hge := (small_tests h).1
    have hle := (small_tests h).2
    unfold geB at hge
    unfold leB at hle
    have hf0 : ∀ w2 : World, cls .f64 (fres .sub .f64 y (floatOfInt .f64 (truncI y)) w2) = U := fun w2 => (restF_cls h w2).trans ((rest_f H0.out).symm.trans HU.out)
    have ht := fun w2 : World => (order_ge (hf0 w2) c05 cls_c05).trans H1.out
    have ht2 := fun w2 w3 : World => (order_gt ((sub05_cls (hf0 w2) w3).trans (half_t H1.out).symm) c025 cls_c025).trans H2.out
    have Hf := Lib.hid hf0
    clear hf0 h HU
    unfold c05 at ht
    unfold c025 at ht2
    go_enter Try.func69, Try.ntmps69
    go_wp2
    go_loopw [7, 8] (fun pv kv w' => ∃ (j : Nat) (k : Int) (pb nn : Nat), j ≤ 8 ∧ k = 8 - (j : Int) ∧ pv = .float .f64 pb ∧ kv = .int .i64 k ∧
      Hid (cls .f64 pb = serS (vop .mul .f64 (zV (foldV (halfV U))) (zV (foldV (halfV U)))) j) ∧ w' = w.drewN nn) (fun _ kv _ => (intOf kv).toNat)
    case atStart => exact ⟨0, 8, _, _, by omega, by omega, rfl, rfl, Lib.hid cls_c1, rfl⟩
    case round =>
      obtain ⟨j, k, pb, nn, hj, hk, rfl, rfl, Hp, rfl⟩ := hrel
      by_cases hlt : 1 ≤ k
      · have Hk := Lib.hid hk
        have hk2 : k ≤ 8 := by omega
        have hk3 : j < 8 := by omega
        clear hk
        go_wp2
        go_roundw
        case rel => exact ⟨j + 1, k - 1, _, _, by omega, by have := Hk.out; omega, rfl, by go_num, Lib.hid (stS_cls (sq_cls (z_cls ((sub05_cls (Hf.out _) _).trans (fold_tf H1.out H2.out).symm) _) _) Hp.out Hk.out hk3 _ _ _), rfl⟩
        case measure => simp [intOf]; omega
      · obtain rfl : j = 8 := by omega
        clear hk
        go_wp2
        go_ret
        exact ⟨_, rfl, sin_end (b := true) (z_cls ((sub05_cls (Hf.out _) _).trans (fold_tf H1.out H2.out).symm) _) Hp.out H1.out _, Drew.mk _ _⟩

set_option maxHeartbeats 1000000 in
theorem sine_spec_ftt (y : Nat) (U : Option Nat) (h : smallD ((FloatKind.f64).decode y) = true) (HU : Hid (restV y = U)) (H0 : Hid (vlt (restF y) (some 0) = false)) (H1 : Hid (vge U (some c05) = true)) (H2 : Hid (vgt (halfV U) (some c025) = true)) (w : World) :
    Calls Try.prog 69 #[.float .f64 y] w fun e w' => ∃ r, e = .returned (.float .f64 r) ∧ cls .f64 r = sinF U ∧ Drew w w' := by
    have hcv := fun w2 : World => run_convert_float_int (P := Try.prog) w2 22 2 .f64 .i64 y (truncI y) (by kernel_rfl) Try.underlying2 (trunc_small h)
    have hlt := fun w2 : World => (order_lt (restF_cls h w2) 0 cls_0).trans H0.out
    have hss := fun w2 : World => sub_self_ne y w2
    rw [(small_fin h).1] at hss
    have hge := (small_tests h).1
    have hle := (small_tests h).2
    unfold geB at hge
    unfold leB at hle
    have hf0 : ∀ w2 : World, cls .f64 (fres .sub .f64 y (floatOfInt .f64 (truncI y)) w2) = U := fun w2 => (restF_cls h w2).trans ((rest_f H0.out).symm.trans HU.out)
    have ht := fun w2 : World => (order_ge (hf0 w2) c05 cls_c05).trans H1.out
    have ht2 := fun w2 w3 : World => (order_gt ((sub05_cls (hf0 w2) w3).trans (half_t H1.out).symm) c025 cls_c025).trans H2.out
    have Hf := Lib.hid hf0
    clear hf0 h HU
    unfold c05 at ht
    unfold c025 at ht2
    go_enter Try.func69, Try.ntmps69
    go_wp2
    go_loopw [7, 8] (fun pv kv w' => ∃ (j : Nat) (k : Int) (pb nn : Nat), j ≤ 8 ∧ k = 8 - (j : Int) ∧ pv = .float .f64 pb ∧ kv = .int .i64 k ∧
      Hid (cls .f64 pb = serS (vop .mul .f64 (zV (foldV (halfV U))) (zV (foldV (halfV U)))) j) ∧ w' = w.drewN nn) (fun _ kv _ => (intOf kv).toNat)
    case atStart => exact ⟨0, 8, _, _, by omega, by omega, rfl, rfl, Lib.hid cls_c1, rfl⟩
    case round =>
      obtain ⟨j, k, pb, nn, hj, hk, rfl, rfl, Hp, rfl⟩ := hrel
      by_cases hlt : 1 ≤ k
      · have Hk := Lib.hid hk
        have hk2 : k ≤ 8 := by omega
        have hk3 : j < 8 := by omega
        clear hk
        go_wp2
        go_roundw
        case rel => exact ⟨j + 1, k - 1, _, _, by omega, by have := Hk.out; omega, rfl, by go_num, Lib.hid (stS_cls (sq_cls (z_cls ((from05_cls (sub05_cls (Hf.out _) _) _).trans (fold_tt H1.out H2.out).symm) _) _) Hp.out Hk.out hk3 _ _ _), rfl⟩
        case measure => simp [intOf]; omega
      · obtain rfl : j = 8 := by omega
        clear hk
        go_wp2
        go_ret
        exact ⟨_, rfl, sin_end (b := true) (z_cls ((from05_cls (sub05_cls (Hf.out _) _) _).trans (fold_tt H1.out H2.out).symm) _) Hp.out H1.out _, Drew.mk _ _⟩

set_option maxHeartbeats 1000000 in
theorem sine_spec_tff (y : Nat) (U : Option Nat) (h : smallD ((FloatKind.f64).decode y) = true) (HU : Hid (restV y = U)) (H0 : Hid (vlt (restF y) (some 0) = true)) (H1 : Hid (vge U (some c05) = false)) (H2 : Hid (vgt (halfV U) (some c025) = false)) (w : World) :
    Calls Try.prog 69 #[.float .f64 y] w fun e w' => ∃ r, e = .returned (.float .f64 r) ∧ cls .f64 r = sinF U ∧ Drew w w' := by
    have hcv := fun w2 : World => run_convert_float_int (P := Try.prog) w2 22 2 .f64 .i64 y (truncI y) (by kernel_rfl) Try.underlying2 (trunc_small h)
    have hlt := fun w2 : World => (order_lt (restF_cls h w2) 0 cls_0).trans H0.out
    have hss := fun w2 : World => sub_self_ne y w2
    rw [(small_fin h).1] at hss
    have hge := (small_tests h).1
    have hle := (small_tests h).2
    unfold geB at hge
    unfold leB at hle
    have hf0 : ∀ w2 w3 : World, cls .f64 (fres .add .f64 (fres .sub .f64 y (floatOfInt .f64 (truncI y)) w2) 4607182418800017408 w3) = U := fun w2 w3 => (add1_cls (restF_cls h w2) w3).trans ((rest_t H0.out).symm.trans HU.out)
    have ht := fun w2 w3 : World => (order_ge (hf0 w2 w3) c05 cls_c05).trans H1.out
    have ht2 := fun w2 w3 : World => (order_gt ((hf0 w2 w3).trans (half_f H1.out).symm) c025 cls_c025).trans H2.out
    have Hf := Lib.hid hf0
    clear hf0 h HU
    unfold c05 at ht
    unfold c025 at ht2
    go_enter Try.func69, Try.ntmps69
    go_wp2
    go_loopw [7, 8] (fun pv kv w' => ∃ (j : Nat) (k : Int) (pb nn : Nat), j ≤ 8 ∧ k = 8 - (j : Int) ∧ pv = .float .f64 pb ∧ kv = .int .i64 k ∧
      Hid (cls .f64 pb = serS (vop .mul .f64 (zV (foldV (halfV U))) (zV (foldV (halfV U)))) j) ∧ w' = w.drewN nn) (fun _ kv _ => (intOf kv).toNat)
    case atStart => exact ⟨0, 8, _, _, by omega, by omega, rfl, rfl, Lib.hid cls_c1, rfl⟩
    case round =>
      obtain ⟨j, k, pb, nn, hj, hk, rfl, rfl, Hp, rfl⟩ := hrel
      by_cases hlt : 1 ≤ k
      · have Hk := Lib.hid hk
        have hk2 : k ≤ 8 := by omega
        have hk3 : j < 8 := by omega
        clear hk
        go_wp2
        go_roundw
        case rel => exact ⟨j + 1, k - 1, _, _, by omega, by have := Hk.out; omega, rfl, by go_num, Lib.hid (stS_cls (sq_cls (z_cls ((Hf.out _ _).trans (fold_ff H1.out H2.out).symm) _) _) Hp.out Hk.out hk3 _ _ _), rfl⟩
        case measure => simp [intOf]; omega
      · obtain rfl : j = 8 := by omega
        clear hk
        go_wp2
        go_ret
        exact ⟨_, rfl, sin_end (b := false) (z_cls ((Hf.out _ _).trans (fold_ff H1.out H2.out).symm) _) Hp.out H1.out _, Drew.mk _ _⟩

set_option maxHeartbeats 1000000 in
theorem sine_spec_tft (y : Nat) (U : Option Nat) (h : smallD ((FloatKind.f64).decode y) = true) (HU : Hid (restV y = U)) (H0 : Hid (vlt (restF y) (some 0) = true)) (H1 : Hid (vge U (some c05) = false)) (H2 : Hid (vgt (halfV U) (some c025) = true)) (w : World) :
    Calls Try.prog 69 #[.float .f64 y] w fun e w' => ∃ r, e = .returned (.float .f64 r) ∧ cls .f64 r = sinF U ∧ Drew w w' := by
    have hcv := fun w2 : World => run_convert_float_int (P := Try.prog) w2 22 2 .f64 .i64 y (truncI y) (by kernel_rfl) Try.underlying2 (trunc_small h)
    have hlt := fun w2 : World => (order_lt (restF_cls h w2) 0 cls_0).trans H0.out
    have hss := fun w2 : World => sub_self_ne y w2
    rw [(small_fin h).1] at hss
    have hge := (small_tests h).1
    have hle := (small_tests h).2
    unfold geB at hge
    unfold leB at hle
    have hf0 : ∀ w2 w3 : World, cls .f64 (fres .add .f64 (fres .sub .f64 y (floatOfInt .f64 (truncI y)) w2) 4607182418800017408 w3) = U := fun w2 w3 => (add1_cls (restF_cls h w2) w3).trans ((rest_t H0.out).symm.trans HU.out)
    have ht := fun w2 w3 : World => (order_ge (hf0 w2 w3) c05 cls_c05).trans H1.out
    have ht2 := fun w2 w3 : World => (order_gt ((hf0 w2 w3).trans (half_f H1.out).symm) c025 cls_c025).trans H2.out
    have Hf := Lib.hid hf0
    clear hf0 h HU
    unfold c05 at ht
    unfold c025 at ht2
    go_enter Try.func69, Try.ntmps69
    go_wp2
    go_loopw [7, 8] (fun pv kv w' => ∃ (j : Nat) (k : Int) (pb nn : Nat), j ≤ 8 ∧ k = 8 - (j : Int) ∧ pv = .float .f64 pb ∧ kv = .int .i64 k ∧
      Hid (cls .f64 pb = serS (vop .mul .f64 (zV (foldV (halfV U))) (zV (foldV (halfV U)))) j) ∧ w' = w.drewN nn) (fun _ kv _ => (intOf kv).toNat)
    case atStart => exact ⟨0, 8, _, _, by omega, by omega, rfl, rfl, Lib.hid cls_c1, rfl⟩
    case round =>
      obtain ⟨j, k, pb, nn, hj, hk, rfl, rfl, Hp, rfl⟩ := hrel
      by_cases hlt : 1 ≤ k
      · have Hk := Lib.hid hk
        have hk2 : k ≤ 8 := by omega
        have hk3 : j < 8 := by omega
        clear hk
        go_wp2
        go_roundw
        case rel => exact ⟨j + 1, k - 1, _, _, by omega, by have := Hk.out; omega, rfl, by go_num, Lib.hid (stS_cls (sq_cls (z_cls ((from05_cls (Hf.out _ _) _).trans (fold_ft H1.out H2.out).symm) _) _) Hp.out Hk.out hk3 _ _ _), rfl⟩
        case measure => simp [intOf]; omega
      · obtain rfl : j = 8 := by omega
        clear hk
        go_wp2
        go_ret
        exact ⟨_, rfl, sin_end (b := false) (z_cls ((from05_cls (Hf.out _ _) _).trans (fold_ft H1.out H2.out).symm) _) Hp.out H1.out _, Drew.mk _ _⟩

set_option maxHeartbeats 1000000 in
theorem sine_spec_ttf (y : Nat) (U : Option Nat) (h : smallD ((FloatKind.f64).decode y) = true) (HU : Hid (restV y = U)) (H0 : Hid (vlt (restF y) (some 0) = true)) (H1 : Hid (vge U (some c05) = true)) (H2 : Hid (vgt (halfV U) (some c025) = false)) (w : World) :
    Calls Try.prog 69 #[.float .f64 y] w fun e w' => ∃ r, e = .returned (.float .f64 r) ∧ cls .f64 r = sinF U ∧ Drew w w' := by
    have hcv := fun w2 : World => run_convert_float_int (P := Try.prog) w2 22 2 .f64 .i64 y (truncI y) (by kernel_rfl) Try.underlying2 (trunc_small h)
    have hlt := fun w2 : World => (order_lt (restF_cls h w2) 0 cls_0).trans H0.out
    have hss := fun w2 : World => sub_self_ne y w2
    rw [(small_fin h).1] at hss
    have hge := (small_tests h).1
    have hle := (small_tests h).2
    unfold geB at hge
    unfold leB at hle
    have hf0 : ∀ w2 w3 : World, cls .f64 (fres .add .f64 (fres .sub .f64 y (floatOfInt .f64 (truncI y)) w2) 4607182418800017408 w3) = U := fun w2 w3 => (add1_cls (restF_cls h w2) w3).trans ((rest_t H0.out).symm.trans HU.out)
    have ht := fun w2 w3 : World => (order_ge (hf0 w2 w3) c05 cls_c05).trans H1.out
    have ht2 := fun w2 w3 w4 : World => (order_gt ((sub05_cls (hf0 w2 w3) w4).trans (half_t H1.out).symm) c025 cls_c025).trans H2.out
    have Hf := Lib.hid hf0
    clear hf0 h HU
    unfold c05 at ht
    unfold c025 at ht2
    go_enter Try.func69, Try.ntmps69
    go_wp2
    go_loopw [7, 8] (fun pv kv w' => ∃ (j : Nat) (k : Int) (pb nn : Nat), j ≤ 8 ∧ k = 8 - (j : Int) ∧ pv = .float .f64 pb ∧ kv = .int .i64 k ∧
      Hid (cls .f64 pb = serS (vop .mul .f64 (zV (foldV (halfV U))) (zV (foldV (halfV U)))) j) ∧ w' = w.drewN nn) (fun _ kv _ => (intOf kv).toNat)
    case atStart => exact ⟨0, 8, _, _, by omega, by omega, rfl, rfl, Lib.hid cls_c1, rfl⟩
    case round =>
      obtain ⟨j, k, pb, nn, hj, hk, rfl, rfl, Hp, rfl⟩ := hrel
      by_cases hlt : 1 ≤ k
      · have Hk := Lib.hid hk
        have hk2 : k ≤ 8 := by omega
        have hk3 : j < 8 := by omega
        clear hk
        go_wp2
        go_roundw
        case rel => exact ⟨j + 1, k - 1, _, _, by omega, by have := Hk.out; omega, rfl, by go_num, Lib.hid (stS_cls (sq_cls (z_cls ((sub05_cls (Hf.out _ _) _).trans (fold_tf H1.out H2.out).symm) _) _) Hp.out Hk.out hk3 _ _ _), rfl⟩
        case measure => simp [intOf]; omega
      · obtain rfl : j = 8 := by omega
        clear hk
        go_wp2
        go_ret
        exact ⟨_, rfl, sin_end (b := true) (z_cls ((sub05_cls (Hf.out _ _) _).trans (fold_tf H1.out H2.out).symm) _) Hp.out H1.out _, Drew.mk _ _⟩

set_option maxHeartbeats 1000000 in
theorem sine_spec_ttt (y : Nat) (U : Option Nat) (h : smallD ((FloatKind.f64).decode y) = true) (HU : Hid (restV y = U)) (H0 : Hid (vlt (restF y) (some 0) = true)) (H1 : Hid (vge U (some c05) = true)) (H2 : Hid (vgt (halfV U) (some c025) = true)) (w : World) :
    Calls Try.prog 69 #[.float .f64 y] w fun e w' => ∃ r, e = .returned (.float .f64 r) ∧ cls .f64 r = sinF U ∧ Drew w w' := by
    have hcv := fun w2 : World => run_convert_float_int (P := Try.prog) w2 22 2 .f64 .i64 y (truncI y) (by kernel_rfl) Try.underlying2 (trunc_small h)
    have hlt := fun w2 : World => (order_lt (restF_cls h w2) 0 cls_0).trans H0.out
    have hss := fun w2 : World => sub_self_ne y w2
    rw [(small_fin h).1] at hss
    have hge := (small_tests h).1
    have hle := (small_tests h).2
    unfold geB at hge
    unfold leB at hle
    have hf0 : ∀ w2 w3 : World, cls .f64 (fres .add .f64 (fres .sub .f64 y (floatOfInt .f64 (truncI y)) w2) 4607182418800017408 w3) = U := fun w2 w3 => (add1_cls (restF_cls h w2) w3).trans ((rest_t H0.out).symm.trans HU.out)
    have ht := fun w2 w3 : World => (order_ge (hf0 w2 w3) c05 cls_c05).trans H1.out
    have ht2 := fun w2 w3 w4 : World => (order_gt ((sub05_cls (hf0 w2 w3) w4).trans (half_t H1.out).symm) c025 cls_c025).trans H2.out
    have Hf := Lib.hid hf0
    clear hf0 h HU
    unfold c05 at ht
    unfold c025 at ht2
    go_enter Try.func69, Try.ntmps69
    go_wp2
    go_loopw [7, 8] (fun pv kv w' => ∃ (j : Nat) (k : Int) (pb nn : Nat), j ≤ 8 ∧ k = 8 - (j : Int) ∧ pv = .float .f64 pb ∧ kv = .int .i64 k ∧
      Hid (cls .f64 pb = serS (vop .mul .f64 (zV (foldV (halfV U))) (zV (foldV (halfV U)))) j) ∧ w' = w.drewN nn) (fun _ kv _ => (intOf kv).toNat)
    case atStart => exact ⟨0, 8, _, _, by omega, by omega, rfl, rfl, Lib.hid cls_c1, rfl⟩
    case round =>
      obtain ⟨j, k, pb, nn, hj, hk, rfl, rfl, Hp, rfl⟩ := hrel
      by_cases hlt : 1 ≤ k
      · have Hk := Lib.hid hk
        have hk2 : k ≤ 8 := by omega
        have hk3 : j < 8 := by omega
        clear hk
        go_wp2
        go_roundw
        case rel => exact ⟨j + 1, k - 1, _, _, by omega, by have := Hk.out; omega, rfl, by go_num, Lib.hid (stS_cls (sq_cls (z_cls ((from05_cls (sub05_cls (Hf.out _ _) _) _).trans (fold_tt H1.out H2.out).symm) _) _) Hp.out Hk.out hk3 _ _ _), rfl⟩
        case measure => simp [intOf]; omega
      · obtain rfl : j = 8 := by omega
        clear hk
        go_wp2
        go_ret
        exact ⟨_, rfl, sin_end (b := true) (z_cls ((from05_cls (sub05_cls (Hf.out _ _) _) _).trans (fold_tt H1.out H2.out).symm) _) Hp.out H1.out _, Drew.mk _ _⟩

theorem sine_spec (y : Nat) (h : smallD ((FloatKind.f64).decode y) = true) (w : World) :
    Calls Try.prog 69 #[.float .f64 y] w fun e w' => ∃ r, e = .returned (.float .f64 r) ∧ cls .f64 r = sineV y ∧ Drew w w' := by
  cases hb0 : vlt (restF y) (some 0) with
  | false =>
    cases hb1 : vge (restV y) (some c05) with
    | false =>
      cases hb2 : vgt (halfV (restV y)) (some c025) with
      | false => exact sine_spec_fff y _ h (Lib.hid rfl) (Lib.hid hb0) (Lib.hid hb1) (Lib.hid hb2) w
      | true => exact sine_spec_fft y _ h (Lib.hid rfl) (Lib.hid hb0) (Lib.hid hb1) (Lib.hid hb2) w
    | true =>
      cases hb2 : vgt (halfV (restV y)) (some c025) with
      | false => exact sine_spec_ftf y _ h (Lib.hid rfl) (Lib.hid hb0) (Lib.hid hb1) (Lib.hid hb2) w
      | true => exact sine_spec_ftt y _ h (Lib.hid rfl) (Lib.hid hb0) (Lib.hid hb1) (Lib.hid hb2) w
  | true =>
    cases hb1 : vge (restV y) (some c05) with
    | false =>
      cases hb2 : vgt (halfV (restV y)) (some c025) with
      | false => exact sine_spec_tff y _ h (Lib.hid rfl) (Lib.hid hb0) (Lib.hid hb1) (Lib.hid hb2) w
      | true => exact sine_spec_tft y _ h (Lib.hid rfl) (Lib.hid hb0) (Lib.hid hb1) (Lib.hid hb2) w
    | true =>
      cases hb2 : vgt (halfV (restV y)) (some c025) with
      | false => exact sine_spec_ttf y _ h (Lib.hid rfl) (Lib.hid hb0) (Lib.hid hb1) (Lib.hid hb2) w
      | true => exact sine_spec_ttt y _ h (Lib.hid rfl) (Lib.hid hb0) (Lib.hid hb1) (Lib.hid hb2) w
end Go.Proofs.Ytgdcpohdejbhaac
