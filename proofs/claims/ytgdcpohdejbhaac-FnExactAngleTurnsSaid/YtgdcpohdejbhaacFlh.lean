/- Angles: the walks, and the law. -/
import Derived.Test.YtgdcpohdejbhaacFlg
namespace Go.Proofs.Ytgdcpohdejbhaac
open Go.Proofs.Ytgdcpohdejbhaac.Flo Go.RowKit
attribute [local go_sem] call_from64 call_bits64
attribute [local go_sem] call_from32
attribute [local go_sem] call_sqrt

theorem neg_of {b : Nat} {X : Option Nat} (h : cls .f64 b = X) : cls .f64 (Op.negFloat .f64 b) = X.map (Op.negFloat .f64) := by
  subst h
  unfold cls
  rw [decode_neg, opposite_isNaN]
  split <;> rfl
theorem c025s_cls {f : Nat} {X : Option Nat} (h : cls .f64 f = X) (w : World) : cls .f64 (fres .sub .f64 4598175219545276416 f w) = vop .sub .f64 (some c025) X := by
  rw [fres_cls, h, show cls .f64 4598175219545276416 = some c025 from cls_c025]
theorem stT_cls {t : Nat} {X : Option Nat} (h : cls .f64 t = X) (w1 w2 w3 w4 w5 : World) : cls .f64 (fres .quo .f64 t (fres .add .f64 4607182418800017408 (sres (fres .add .f64 4607182418800017408 (fres .mul .f64 t t w1) w2) w3) w4) w5) = stT X := by
  rw [fres_cls, fres_cls, sres_cls, fres_cls, fres_cls, h, show cls .f64 4607182418800017408 = some c1 from cls_c1]; rfl
theorem stA_cls {ub qb : Nat} {U Q : Option Nat} (hu : cls .f64 ub = U) (hq : cls .f64 qb = Q) {k : Int} {j : Nat} (hk : k = 15 - 2 * (j : Int)) (w1 w2 w3 : World) :
    cls .f64 (fres .sub .f64 (fres .quo .f64 4607182418800017408 (floatOfInt .f64 k) w1) (fres .mul .f64 ub qb w2) w3) = stA U (15 - 2 * (j : Int)) Q := by
  rw [fres_cls, fres_cls, fres_cls, hu, hq, cls_int, show cls .f64 4607182418800017408 = some c1 from cls_c1, hk]; rfl
theorem steep_cls {t p : Nat} {X : Option Nat} (ht : cls .f64 t = itT X 3) (hp : cls .f64 p = serA (vop .mul .f64 (itT X 3) (itT X 3)) 8) (w1 w2 w3 : World) :
    cls .f64 (fres .quo .f64 (fres .mul .f64 4620693217682128896 (fres .mul .f64 t p w1) w2) 4618760256179416344 w3) = steepV X := by
  rw [fres_cls, fres_cls, fres_cls, ht, hp, show cls .f64 4620693217682128896 = some c8 from cls_c8, show cls .f64 4618760256179416344 = some c2pi from cls_c2pi]; rfl

set_option maxHeartbeats 1000000 in
theorem steep_impl (t0 : Nat) (T0 : Option Nat) (h0 : Hid (cls .f64 t0 = T0)) (w : World) :
    Calls Try.prog 57 #[.float .f64 t0] w fun e w' => ∃ r, e = .returned (.float .f64 r) ∧ cls .f64 r = steepV T0 ∧ Drew w w' := by
  go_enter Try.func57, Try.ntmps57
  go_wp2
  go_loopw [0, 6] (fun tv kv w' => ∃ (j : Nat) (tb nn : Nat), j ≤ 3 ∧ kv = .int .i64 (j : Int) ∧ tv = .float .f64 tb ∧ Hid (cls .f64 tb = itT T0 j) ∧ w' = w.drewN nn) (fun _ kv _ => (3 - intOf kv).toNat)
  case atStart => exact ⟨0, _, _, by omega, rfl, rfl, Lib.hid (h0.out), (World.drewN_zero (w := w)).symm⟩
  case round =>
    obtain ⟨j, tb, nn, hj, rfl, rfl, Ht, rfl⟩ := hrel
    by_cases hlt : j < 3
    · go_wp2_with go_in
      go_roundw
      case rel => exact ⟨j + 1, _, _, by omega, by go_num, rfl, Lib.hid (stT_cls Ht.out _ _ _ _ _), rfl⟩
      case measure => simp [intOf]; omega
    · obtain rfl : j = 3 := by omega
      go_wp2_with go_in
      go_loopw [4, 5] (fun pv kv w' => ∃ (j : Nat) (k : Int) (pb nn : Nat), j ≤ 8 ∧ k = 15 - 2 * (j : Int) ∧ pv = .float .f64 pb ∧ kv = .int .i64 k ∧
        Hid (cls .f64 pb = serA (vop .mul .f64 (itT T0 3) (itT T0 3)) j) ∧ w' = w.drewN nn) (fun _ kv _ => (intOf kv + 1).toNat)
      case atStart => exact ⟨0, 15, _, _, by omega, by omega, rfl, rfl, Lib.hid cls_0, rfl⟩
      case round =>
        obtain ⟨j, k, pb, nn2, hj2, hk, rfl, rfl, Hp, rfl⟩ := hrel
        by_cases hk1 : 1 ≤ k
        · have Hk := Lib.hid hk
          have hk2 : k ≤ 15 := by omega
          clear hk
          go_wp2
          go_roundw
          case rel => exact ⟨j + 1, k - 2, _, _, by have := Hk.out; omega, by have := Hk.out; omega, rfl, by go_num, Lib.hid (stA_cls (sq_cls Ht.out _) Hp.out Hk.out _ _ _), rfl⟩
          case measure => simp [intOf]; omega
        · obtain rfl : j = 8 := by omega
          clear hk
          go_wp2_with go_in
          go_ret
          exact ⟨_, rfl, steep_cls Ht.out Hp.out _ _ _, Drew.mk _ _⟩

theorem tq_cls {a b : Nat} {P Q : Option Nat} (h1 : cls .f64 a = P) (h2 : cls .f64 b = Q) (w : World) : cls .f64 (fres .quo .f64 a b w) = vop .quo .f64 P Q := by
  rw [fres_cls, h1, h2]
/-- The quotient of the coordinates' absolute values: of the lesser one and the greater one. -/
def quoV (over : Bool) (A B : Nat) : Option Nat := if over then vop .quo .f64 (some B) (some A) else vop .quo .f64 (some A) (some B)

set_option maxHeartbeats 8000000 in
theorem ang_spec_true (Y X : Nat) (sx sy : Ordering) (hY : Y < 2 ^ 64) (hX : X < 2 ^ 64) (hfY : finD ((FloatKind.f64).decode Y) = true) (hfX : finD ((FloatKind.f64).decode X) = true)
    (hx : (FloatKind.f64).format.order X 0 = some sx) (hy : (FloatKind.f64).format.order Y 0 = some sy) (hne : ¬ (sx = .eq ∧ sy = .eq)) (ho : ((FloatKind.f64).format.order (Y % 2 ^ 63) (X % 2 ^ 63) == some .gt) = true)
    (HA : Hid (cls .f64 (Y % 2 ^ 63) = some (Y % 2 ^ 63))) (HB : Hid (cls .f64 (X % 2 ^ 63) = some (X % 2 ^ 63))) (w : World) :
    Calls Try.prog 80 #[.float .f64 Y, .float .f64 X] w fun e w' => ∃ r, e = .returned (.float .f64 r) ∧ cls .f64 r = angV true (sx == .lt) (sy == .lt) (quoV true (Y % 2 ^ 63) (X % 2 ^ 63)) ∧ Drew w w' := by
  have hs1 := fun w2 : World => sub_self_ne Y w2
  have hs2 := fun w2 : World => sub_self_ne X w2
  rw [hfY] at hs1
  rw [hfX] at hs2
  clear hfY hfX
  cases sx <;> cases sy
  · clear hne
    go_enter Try.func80, Try.ntmps80
    go_wp2_with (first | (go_at_call 45; ((with_reducible refine (abs_walk Y hY _).mono ?_); rintro e w' ⟨rfl, rfl⟩)) | (go_at_call 45; ((with_reducible refine (abs_walk X hX _).mono ?_); rintro e w' ⟨rfl, rfl⟩)) | go_in)
    go_loopw [8, 9] (fun tv kv w' => ∃ (j : Nat) (tb nn : Nat), j ≤ 3 ∧ kv = .int .i64 (j : Int) ∧ tv = .float .f64 tb ∧ Hid (cls .f64 tb = itT (quoV true (Y % 2 ^ 63) (X % 2 ^ 63)) j) ∧ w' = w.drewN nn) (fun _ kv _ => (3 - intOf kv).toNat)
    case atStart => exact ⟨0, _, _, by omega, rfl, rfl, Lib.hid (tq_cls HB.out HA.out _), rfl⟩
    case round =>
      obtain ⟨j, tb, nn, hj, rfl, rfl, Ht, rfl⟩ := hrel
      clear hs1 hs2 ho
      by_cases hlt : j < 3
      · go_wp2_with go_in
        go_roundw
        case rel => exact ⟨j + 1, _, _, by omega, by go_num, rfl, Lib.hid (stT_cls Ht.out _ _ _ _ _), rfl⟩
        case measure => simp [intOf]; omega
      · obtain rfl : j = 3 := by omega
        go_wp2_with go_in
        go_loopw [11, 12] (fun pv kv w' => ∃ (j : Nat) (k : Int) (pb nn : Nat), j ≤ 8 ∧ k = 15 - 2 * (j : Int) ∧ pv = .float .f64 pb ∧ kv = .int .i64 k ∧
          Hid (cls .f64 pb = serA (vop .mul .f64 (itT (quoV true (Y % 2 ^ 63) (X % 2 ^ 63)) 3) (itT (quoV true (Y % 2 ^ 63) (X % 2 ^ 63)) 3)) j) ∧ w' = w.drewN nn) (fun _ kv _ => (intOf kv + 1).toNat)
        case atStart => exact ⟨0, 15, _, _, by omega, by omega, rfl, rfl, Lib.hid cls_0, rfl⟩
        case round =>
          obtain ⟨j, k, pb, nn2, hj2, hk, rfl, rfl, Hp, rfl⟩ := hrel
          by_cases hk1 : 1 ≤ k
          · have Hk := Lib.hid hk
            have hk2 : k ≤ 15 := by omega
            clear hk
            go_wp2
            go_roundw
            case rel => exact ⟨j + 1, k - 2, _, _, by have := Hk.out; omega, by have := Hk.out; omega, rfl, by go_num, Lib.hid (stA_cls (sq_cls Ht.out _) Hp.out Hk.out _ _ _), rfl⟩
            case measure => simp [intOf]; omega
          · obtain rfl : j = 8 := by omega
            clear hk
            go_wp2_with go_in
            go_ret
            exact ⟨_, rfl, (neg_of (from05_cls (c025s_cls (steep_cls Ht.out Hp.out _ _ _) _) _)), Drew.mk _ _⟩
  · clear hne
    go_enter Try.func80, Try.ntmps80
    go_wp2_with (first | (go_at_call 45; ((with_reducible refine (abs_walk Y hY _).mono ?_); rintro e w' ⟨rfl, rfl⟩)) | (go_at_call 45; ((with_reducible refine (abs_walk X hX _).mono ?_); rintro e w' ⟨rfl, rfl⟩)) | go_in)
    go_loopw [8, 9] (fun tv kv w' => ∃ (j : Nat) (tb nn : Nat), j ≤ 3 ∧ kv = .int .i64 (j : Int) ∧ tv = .float .f64 tb ∧ Hid (cls .f64 tb = itT (quoV true (Y % 2 ^ 63) (X % 2 ^ 63)) j) ∧ w' = w.drewN nn) (fun _ kv _ => (3 - intOf kv).toNat)
    case atStart => exact ⟨0, _, _, by omega, rfl, rfl, Lib.hid (tq_cls HB.out HA.out _), rfl⟩
    case round =>
      obtain ⟨j, tb, nn, hj, rfl, rfl, Ht, rfl⟩ := hrel
      clear hs1 hs2 ho
      by_cases hlt : j < 3
      · go_wp2_with go_in
        go_roundw
        case rel => exact ⟨j + 1, _, _, by omega, by go_num, rfl, Lib.hid (stT_cls Ht.out _ _ _ _ _), rfl⟩
        case measure => simp [intOf]; omega
      · obtain rfl : j = 3 := by omega
        go_wp2_with go_in
        go_loopw [11, 12] (fun pv kv w' => ∃ (j : Nat) (k : Int) (pb nn : Nat), j ≤ 8 ∧ k = 15 - 2 * (j : Int) ∧ pv = .float .f64 pb ∧ kv = .int .i64 k ∧
          Hid (cls .f64 pb = serA (vop .mul .f64 (itT (quoV true (Y % 2 ^ 63) (X % 2 ^ 63)) 3) (itT (quoV true (Y % 2 ^ 63) (X % 2 ^ 63)) 3)) j) ∧ w' = w.drewN nn) (fun _ kv _ => (intOf kv + 1).toNat)
        case atStart => exact ⟨0, 15, _, _, by omega, by omega, rfl, rfl, Lib.hid cls_0, rfl⟩
        case round =>
          obtain ⟨j, k, pb, nn2, hj2, hk, rfl, rfl, Hp, rfl⟩ := hrel
          by_cases hk1 : 1 ≤ k
          · have Hk := Lib.hid hk
            have hk2 : k ≤ 15 := by omega
            clear hk
            go_wp2
            go_roundw
            case rel => exact ⟨j + 1, k - 2, _, _, by have := Hk.out; omega, by have := Hk.out; omega, rfl, by go_num, Lib.hid (stA_cls (sq_cls Ht.out _) Hp.out Hk.out _ _ _), rfl⟩
            case measure => simp [intOf]; omega
          · obtain rfl : j = 8 := by omega
            clear hk
            go_wp2_with go_in
            go_ret
            exact ⟨_, rfl, (from05_cls (c025s_cls (steep_cls Ht.out Hp.out _ _ _) _) _), Drew.mk _ _⟩
  · clear hne
    go_enter Try.func80, Try.ntmps80
    go_wp2_with (first | (go_at_call 45; ((with_reducible refine (abs_walk Y hY _).mono ?_); rintro e w' ⟨rfl, rfl⟩)) | (go_at_call 45; ((with_reducible refine (abs_walk X hX _).mono ?_); rintro e w' ⟨rfl, rfl⟩)) | go_in)
    go_loopw [8, 9] (fun tv kv w' => ∃ (j : Nat) (tb nn : Nat), j ≤ 3 ∧ kv = .int .i64 (j : Int) ∧ tv = .float .f64 tb ∧ Hid (cls .f64 tb = itT (quoV true (Y % 2 ^ 63) (X % 2 ^ 63)) j) ∧ w' = w.drewN nn) (fun _ kv _ => (3 - intOf kv).toNat)
    case atStart => exact ⟨0, _, _, by omega, rfl, rfl, Lib.hid (tq_cls HB.out HA.out _), rfl⟩
    case round =>
      obtain ⟨j, tb, nn, hj, rfl, rfl, Ht, rfl⟩ := hrel
      clear hs1 hs2 ho
      by_cases hlt : j < 3
      · go_wp2_with go_in
        go_roundw
        case rel => exact ⟨j + 1, _, _, by omega, by go_num, rfl, Lib.hid (stT_cls Ht.out _ _ _ _ _), rfl⟩
        case measure => simp [intOf]; omega
      · obtain rfl : j = 3 := by omega
        go_wp2_with go_in
        go_loopw [11, 12] (fun pv kv w' => ∃ (j : Nat) (k : Int) (pb nn : Nat), j ≤ 8 ∧ k = 15 - 2 * (j : Int) ∧ pv = .float .f64 pb ∧ kv = .int .i64 k ∧
          Hid (cls .f64 pb = serA (vop .mul .f64 (itT (quoV true (Y % 2 ^ 63) (X % 2 ^ 63)) 3) (itT (quoV true (Y % 2 ^ 63) (X % 2 ^ 63)) 3)) j) ∧ w' = w.drewN nn) (fun _ kv _ => (intOf kv + 1).toNat)
        case atStart => exact ⟨0, 15, _, _, by omega, by omega, rfl, rfl, Lib.hid cls_0, rfl⟩
        case round =>
          obtain ⟨j, k, pb, nn2, hj2, hk, rfl, rfl, Hp, rfl⟩ := hrel
          by_cases hk1 : 1 ≤ k
          · have Hk := Lib.hid hk
            have hk2 : k ≤ 15 := by omega
            clear hk
            go_wp2
            go_roundw
            case rel => exact ⟨j + 1, k - 2, _, _, by have := Hk.out; omega, by have := Hk.out; omega, rfl, by go_num, Lib.hid (stA_cls (sq_cls Ht.out _) Hp.out Hk.out _ _ _), rfl⟩
            case measure => simp [intOf]; omega
          · obtain rfl : j = 8 := by omega
            clear hk
            go_wp2_with go_in
            go_ret
            exact ⟨_, rfl, (from05_cls (c025s_cls (steep_cls Ht.out Hp.out _ _ _) _) _), Drew.mk _ _⟩
  · clear hne
    go_enter Try.func80, Try.ntmps80
    go_wp2_with (first | (go_at_call 45; ((with_reducible refine (abs_walk Y hY _).mono ?_); rintro e w' ⟨rfl, rfl⟩)) | (go_at_call 45; ((with_reducible refine (abs_walk X hX _).mono ?_); rintro e w' ⟨rfl, rfl⟩)) | go_in)
    go_loopw [8, 9] (fun tv kv w' => ∃ (j : Nat) (tb nn : Nat), j ≤ 3 ∧ kv = .int .i64 (j : Int) ∧ tv = .float .f64 tb ∧ Hid (cls .f64 tb = itT (quoV true (Y % 2 ^ 63) (X % 2 ^ 63)) j) ∧ w' = w.drewN nn) (fun _ kv _ => (3 - intOf kv).toNat)
    case atStart => exact ⟨0, _, _, by omega, rfl, rfl, Lib.hid (tq_cls HB.out HA.out _), rfl⟩
    case round =>
      obtain ⟨j, tb, nn, hj, rfl, rfl, Ht, rfl⟩ := hrel
      clear hs1 hs2 ho
      by_cases hlt : j < 3
      · go_wp2_with go_in
        go_roundw
        case rel => exact ⟨j + 1, _, _, by omega, by go_num, rfl, Lib.hid (stT_cls Ht.out _ _ _ _ _), rfl⟩
        case measure => simp [intOf]; omega
      · obtain rfl : j = 3 := by omega
        go_wp2_with go_in
        go_loopw [11, 12] (fun pv kv w' => ∃ (j : Nat) (k : Int) (pb nn : Nat), j ≤ 8 ∧ k = 15 - 2 * (j : Int) ∧ pv = .float .f64 pb ∧ kv = .int .i64 k ∧
          Hid (cls .f64 pb = serA (vop .mul .f64 (itT (quoV true (Y % 2 ^ 63) (X % 2 ^ 63)) 3) (itT (quoV true (Y % 2 ^ 63) (X % 2 ^ 63)) 3)) j) ∧ w' = w.drewN nn) (fun _ kv _ => (intOf kv + 1).toNat)
        case atStart => exact ⟨0, 15, _, _, by omega, by omega, rfl, rfl, Lib.hid cls_0, rfl⟩
        case round =>
          obtain ⟨j, k, pb, nn2, hj2, hk, rfl, rfl, Hp, rfl⟩ := hrel
          by_cases hk1 : 1 ≤ k
          · have Hk := Lib.hid hk
            have hk2 : k ≤ 15 := by omega
            clear hk
            go_wp2
            go_roundw
            case rel => exact ⟨j + 1, k - 2, _, _, by have := Hk.out; omega, by have := Hk.out; omega, rfl, by go_num, Lib.hid (stA_cls (sq_cls Ht.out _) Hp.out Hk.out _ _ _), rfl⟩
            case measure => simp [intOf]; omega
          · obtain rfl : j = 8 := by omega
            clear hk
            go_wp2_with go_in
            go_ret
            exact ⟨_, rfl, (neg_of (c025s_cls (steep_cls Ht.out Hp.out _ _ _) _)), Drew.mk _ _⟩
  · exact absurd ⟨rfl, rfl⟩ hne
  · clear hne
    go_enter Try.func80, Try.ntmps80
    go_wp2_with (first | (go_at_call 45; ((with_reducible refine (abs_walk Y hY _).mono ?_); rintro e w' ⟨rfl, rfl⟩)) | (go_at_call 45; ((with_reducible refine (abs_walk X hX _).mono ?_); rintro e w' ⟨rfl, rfl⟩)) | go_in)
    go_loopw [8, 9] (fun tv kv w' => ∃ (j : Nat) (tb nn : Nat), j ≤ 3 ∧ kv = .int .i64 (j : Int) ∧ tv = .float .f64 tb ∧ Hid (cls .f64 tb = itT (quoV true (Y % 2 ^ 63) (X % 2 ^ 63)) j) ∧ w' = w.drewN nn) (fun _ kv _ => (3 - intOf kv).toNat)
    case atStart => exact ⟨0, _, _, by omega, rfl, rfl, Lib.hid (tq_cls HB.out HA.out _), rfl⟩
    case round =>
      obtain ⟨j, tb, nn, hj, rfl, rfl, Ht, rfl⟩ := hrel
      clear hs1 hs2 ho
      by_cases hlt : j < 3
      · go_wp2_with go_in
        go_roundw
        case rel => exact ⟨j + 1, _, _, by omega, by go_num, rfl, Lib.hid (stT_cls Ht.out _ _ _ _ _), rfl⟩
        case measure => simp [intOf]; omega
      · obtain rfl : j = 3 := by omega
        go_wp2_with go_in
        go_loopw [11, 12] (fun pv kv w' => ∃ (j : Nat) (k : Int) (pb nn : Nat), j ≤ 8 ∧ k = 15 - 2 * (j : Int) ∧ pv = .float .f64 pb ∧ kv = .int .i64 k ∧
          Hid (cls .f64 pb = serA (vop .mul .f64 (itT (quoV true (Y % 2 ^ 63) (X % 2 ^ 63)) 3) (itT (quoV true (Y % 2 ^ 63) (X % 2 ^ 63)) 3)) j) ∧ w' = w.drewN nn) (fun _ kv _ => (intOf kv + 1).toNat)
        case atStart => exact ⟨0, 15, _, _, by omega, by omega, rfl, rfl, Lib.hid cls_0, rfl⟩
        case round =>
          obtain ⟨j, k, pb, nn2, hj2, hk, rfl, rfl, Hp, rfl⟩ := hrel
          by_cases hk1 : 1 ≤ k
          · have Hk := Lib.hid hk
            have hk2 : k ≤ 15 := by omega
            clear hk
            go_wp2
            go_roundw
            case rel => exact ⟨j + 1, k - 2, _, _, by have := Hk.out; omega, by have := Hk.out; omega, rfl, by go_num, Lib.hid (stA_cls (sq_cls Ht.out _) Hp.out Hk.out _ _ _), rfl⟩
            case measure => simp [intOf]; omega
          · obtain rfl : j = 8 := by omega
            clear hk
            go_wp2_with go_in
            go_ret
            exact ⟨_, rfl, (c025s_cls (steep_cls Ht.out Hp.out _ _ _) _), Drew.mk _ _⟩
  · clear hne
    go_enter Try.func80, Try.ntmps80
    go_wp2_with (first | (go_at_call 45; ((with_reducible refine (abs_walk Y hY _).mono ?_); rintro e w' ⟨rfl, rfl⟩)) | (go_at_call 45; ((with_reducible refine (abs_walk X hX _).mono ?_); rintro e w' ⟨rfl, rfl⟩)) | go_in)
    go_loopw [8, 9] (fun tv kv w' => ∃ (j : Nat) (tb nn : Nat), j ≤ 3 ∧ kv = .int .i64 (j : Int) ∧ tv = .float .f64 tb ∧ Hid (cls .f64 tb = itT (quoV true (Y % 2 ^ 63) (X % 2 ^ 63)) j) ∧ w' = w.drewN nn) (fun _ kv _ => (3 - intOf kv).toNat)
    case atStart => exact ⟨0, _, _, by omega, rfl, rfl, Lib.hid (tq_cls HB.out HA.out _), rfl⟩
    case round =>
      obtain ⟨j, tb, nn, hj, rfl, rfl, Ht, rfl⟩ := hrel
      clear hs1 hs2 ho
      by_cases hlt : j < 3
      · go_wp2_with go_in
        go_roundw
        case rel => exact ⟨j + 1, _, _, by omega, by go_num, rfl, Lib.hid (stT_cls Ht.out _ _ _ _ _), rfl⟩
        case measure => simp [intOf]; omega
      · obtain rfl : j = 3 := by omega
        go_wp2_with go_in
        go_loopw [11, 12] (fun pv kv w' => ∃ (j : Nat) (k : Int) (pb nn : Nat), j ≤ 8 ∧ k = 15 - 2 * (j : Int) ∧ pv = .float .f64 pb ∧ kv = .int .i64 k ∧
          Hid (cls .f64 pb = serA (vop .mul .f64 (itT (quoV true (Y % 2 ^ 63) (X % 2 ^ 63)) 3) (itT (quoV true (Y % 2 ^ 63) (X % 2 ^ 63)) 3)) j) ∧ w' = w.drewN nn) (fun _ kv _ => (intOf kv + 1).toNat)
        case atStart => exact ⟨0, 15, _, _, by omega, by omega, rfl, rfl, Lib.hid cls_0, rfl⟩
        case round =>
          obtain ⟨j, k, pb, nn2, hj2, hk, rfl, rfl, Hp, rfl⟩ := hrel
          by_cases hk1 : 1 ≤ k
          · have Hk := Lib.hid hk
            have hk2 : k ≤ 15 := by omega
            clear hk
            go_wp2
            go_roundw
            case rel => exact ⟨j + 1, k - 2, _, _, by have := Hk.out; omega, by have := Hk.out; omega, rfl, by go_num, Lib.hid (stA_cls (sq_cls Ht.out _) Hp.out Hk.out _ _ _), rfl⟩
            case measure => simp [intOf]; omega
          · obtain rfl : j = 8 := by omega
            clear hk
            go_wp2_with go_in
            go_ret
            exact ⟨_, rfl, (neg_of (c025s_cls (steep_cls Ht.out Hp.out _ _ _) _)), Drew.mk _ _⟩
  · clear hne
    go_enter Try.func80, Try.ntmps80
    go_wp2_with (first | (go_at_call 45; ((with_reducible refine (abs_walk Y hY _).mono ?_); rintro e w' ⟨rfl, rfl⟩)) | (go_at_call 45; ((with_reducible refine (abs_walk X hX _).mono ?_); rintro e w' ⟨rfl, rfl⟩)) | go_in)
    go_loopw [8, 9] (fun tv kv w' => ∃ (j : Nat) (tb nn : Nat), j ≤ 3 ∧ kv = .int .i64 (j : Int) ∧ tv = .float .f64 tb ∧ Hid (cls .f64 tb = itT (quoV true (Y % 2 ^ 63) (X % 2 ^ 63)) j) ∧ w' = w.drewN nn) (fun _ kv _ => (3 - intOf kv).toNat)
    case atStart => exact ⟨0, _, _, by omega, rfl, rfl, Lib.hid (tq_cls HB.out HA.out _), rfl⟩
    case round =>
      obtain ⟨j, tb, nn, hj, rfl, rfl, Ht, rfl⟩ := hrel
      clear hs1 hs2 ho
      by_cases hlt : j < 3
      · go_wp2_with go_in
        go_roundw
        case rel => exact ⟨j + 1, _, _, by omega, by go_num, rfl, Lib.hid (stT_cls Ht.out _ _ _ _ _), rfl⟩
        case measure => simp [intOf]; omega
      · obtain rfl : j = 3 := by omega
        go_wp2_with go_in
        go_loopw [11, 12] (fun pv kv w' => ∃ (j : Nat) (k : Int) (pb nn : Nat), j ≤ 8 ∧ k = 15 - 2 * (j : Int) ∧ pv = .float .f64 pb ∧ kv = .int .i64 k ∧
          Hid (cls .f64 pb = serA (vop .mul .f64 (itT (quoV true (Y % 2 ^ 63) (X % 2 ^ 63)) 3) (itT (quoV true (Y % 2 ^ 63) (X % 2 ^ 63)) 3)) j) ∧ w' = w.drewN nn) (fun _ kv _ => (intOf kv + 1).toNat)
        case atStart => exact ⟨0, 15, _, _, by omega, by omega, rfl, rfl, Lib.hid cls_0, rfl⟩
        case round =>
          obtain ⟨j, k, pb, nn2, hj2, hk, rfl, rfl, Hp, rfl⟩ := hrel
          by_cases hk1 : 1 ≤ k
          · have Hk := Lib.hid hk
            have hk2 : k ≤ 15 := by omega
            clear hk
            go_wp2
            go_roundw
            case rel => exact ⟨j + 1, k - 2, _, _, by have := Hk.out; omega, by have := Hk.out; omega, rfl, by go_num, Lib.hid (stA_cls (sq_cls Ht.out _) Hp.out Hk.out _ _ _), rfl⟩
            case measure => simp [intOf]; omega
          · obtain rfl : j = 8 := by omega
            clear hk
            go_wp2_with go_in
            go_ret
            exact ⟨_, rfl, (c025s_cls (steep_cls Ht.out Hp.out _ _ _) _), Drew.mk _ _⟩
  · clear hne
    go_enter Try.func80, Try.ntmps80
    go_wp2_with (first | (go_at_call 45; ((with_reducible refine (abs_walk Y hY _).mono ?_); rintro e w' ⟨rfl, rfl⟩)) | (go_at_call 45; ((with_reducible refine (abs_walk X hX _).mono ?_); rintro e w' ⟨rfl, rfl⟩)) | go_in)
    go_loopw [8, 9] (fun tv kv w' => ∃ (j : Nat) (tb nn : Nat), j ≤ 3 ∧ kv = .int .i64 (j : Int) ∧ tv = .float .f64 tb ∧ Hid (cls .f64 tb = itT (quoV true (Y % 2 ^ 63) (X % 2 ^ 63)) j) ∧ w' = w.drewN nn) (fun _ kv _ => (3 - intOf kv).toNat)
    case atStart => exact ⟨0, _, _, by omega, rfl, rfl, Lib.hid (tq_cls HB.out HA.out _), rfl⟩
    case round =>
      obtain ⟨j, tb, nn, hj, rfl, rfl, Ht, rfl⟩ := hrel
      clear hs1 hs2 ho
      by_cases hlt : j < 3
      · go_wp2_with go_in
        go_roundw
        case rel => exact ⟨j + 1, _, _, by omega, by go_num, rfl, Lib.hid (stT_cls Ht.out _ _ _ _ _), rfl⟩
        case measure => simp [intOf]; omega
      · obtain rfl : j = 3 := by omega
        go_wp2_with go_in
        go_loopw [11, 12] (fun pv kv w' => ∃ (j : Nat) (k : Int) (pb nn : Nat), j ≤ 8 ∧ k = 15 - 2 * (j : Int) ∧ pv = .float .f64 pb ∧ kv = .int .i64 k ∧
          Hid (cls .f64 pb = serA (vop .mul .f64 (itT (quoV true (Y % 2 ^ 63) (X % 2 ^ 63)) 3) (itT (quoV true (Y % 2 ^ 63) (X % 2 ^ 63)) 3)) j) ∧ w' = w.drewN nn) (fun _ kv _ => (intOf kv + 1).toNat)
        case atStart => exact ⟨0, 15, _, _, by omega, by omega, rfl, rfl, Lib.hid cls_0, rfl⟩
        case round =>
          obtain ⟨j, k, pb, nn2, hj2, hk, rfl, rfl, Hp, rfl⟩ := hrel
          by_cases hk1 : 1 ≤ k
          · have Hk := Lib.hid hk
            have hk2 : k ≤ 15 := by omega
            clear hk
            go_wp2
            go_roundw
            case rel => exact ⟨j + 1, k - 2, _, _, by have := Hk.out; omega, by have := Hk.out; omega, rfl, by go_num, Lib.hid (stA_cls (sq_cls Ht.out _) Hp.out Hk.out _ _ _), rfl⟩
            case measure => simp [intOf]; omega
          · obtain rfl : j = 8 := by omega
            clear hk
            go_wp2_with go_in
            go_ret
            exact ⟨_, rfl, (c025s_cls (steep_cls Ht.out Hp.out _ _ _) _), Drew.mk _ _⟩
set_option maxHeartbeats 8000000 in
theorem ang_spec_false (Y X : Nat) (sx sy : Ordering) (hY : Y < 2 ^ 64) (hX : X < 2 ^ 64) (hfY : finD ((FloatKind.f64).decode Y) = true) (hfX : finD ((FloatKind.f64).decode X) = true)
    (hx : (FloatKind.f64).format.order X 0 = some sx) (hy : (FloatKind.f64).format.order Y 0 = some sy) (hne : ¬ (sx = .eq ∧ sy = .eq)) (ho : ((FloatKind.f64).format.order (Y % 2 ^ 63) (X % 2 ^ 63) == some .gt) = false)
    (HA : Hid (cls .f64 (Y % 2 ^ 63) = some (Y % 2 ^ 63))) (HB : Hid (cls .f64 (X % 2 ^ 63) = some (X % 2 ^ 63))) (w : World) :
    Calls Try.prog 80 #[.float .f64 Y, .float .f64 X] w fun e w' => ∃ r, e = .returned (.float .f64 r) ∧ cls .f64 r = angV false (sx == .lt) (sy == .lt) (quoV false (Y % 2 ^ 63) (X % 2 ^ 63)) ∧ Drew w w' := by
  have hs1 := fun w2 : World => sub_self_ne Y w2
  have hs2 := fun w2 : World => sub_self_ne X w2
  rw [hfY] at hs1
  rw [hfX] at hs2
  clear hfY hfX
  cases sx <;> cases sy
  · clear hne
    go_enter Try.func80, Try.ntmps80
    go_wp2_with (first | (go_at_call 45; ((with_reducible refine (abs_walk Y hY _).mono ?_); rintro e w' ⟨rfl, rfl⟩)) | (go_at_call 45; ((with_reducible refine (abs_walk X hX _).mono ?_); rintro e w' ⟨rfl, rfl⟩)) | go_in)
    go_loopw [8, 9] (fun tv kv w' => ∃ (j : Nat) (tb nn : Nat), j ≤ 3 ∧ kv = .int .i64 (j : Int) ∧ tv = .float .f64 tb ∧ Hid (cls .f64 tb = itT (quoV false (Y % 2 ^ 63) (X % 2 ^ 63)) j) ∧ w' = w.drewN nn) (fun _ kv _ => (3 - intOf kv).toNat)
    case atStart => exact ⟨0, _, _, by omega, rfl, rfl, Lib.hid (tq_cls HA.out HB.out _), rfl⟩
    case round =>
      obtain ⟨j, tb, nn, hj, rfl, rfl, Ht, rfl⟩ := hrel
      clear hs1 hs2 ho
      by_cases hlt : j < 3
      · go_wp2_with go_in
        go_roundw
        case rel => exact ⟨j + 1, _, _, by omega, by go_num, rfl, Lib.hid (stT_cls Ht.out _ _ _ _ _), rfl⟩
        case measure => simp [intOf]; omega
      · obtain rfl : j = 3 := by omega
        go_wp2_with go_in
        go_loopw [11, 12] (fun pv kv w' => ∃ (j : Nat) (k : Int) (pb nn : Nat), j ≤ 8 ∧ k = 15 - 2 * (j : Int) ∧ pv = .float .f64 pb ∧ kv = .int .i64 k ∧
          Hid (cls .f64 pb = serA (vop .mul .f64 (itT (quoV false (Y % 2 ^ 63) (X % 2 ^ 63)) 3) (itT (quoV false (Y % 2 ^ 63) (X % 2 ^ 63)) 3)) j) ∧ w' = w.drewN nn) (fun _ kv _ => (intOf kv + 1).toNat)
        case atStart => exact ⟨0, 15, _, _, by omega, by omega, rfl, rfl, Lib.hid cls_0, rfl⟩
        case round =>
          obtain ⟨j, k, pb, nn2, hj2, hk, rfl, rfl, Hp, rfl⟩ := hrel
          by_cases hk1 : 1 ≤ k
          · have Hk := Lib.hid hk
            have hk2 : k ≤ 15 := by omega
            clear hk
            go_wp2
            go_roundw
            case rel => exact ⟨j + 1, k - 2, _, _, by have := Hk.out; omega, by have := Hk.out; omega, rfl, by go_num, Lib.hid (stA_cls (sq_cls Ht.out _) Hp.out Hk.out _ _ _), rfl⟩
            case measure => simp [intOf]; omega
          · obtain rfl : j = 8 := by omega
            clear hk
            go_wp2_with go_in
            go_ret
            exact ⟨_, rfl, (neg_of (from05_cls (steep_cls Ht.out Hp.out _ _ _) _)), Drew.mk _ _⟩
  · clear hne
    go_enter Try.func80, Try.ntmps80
    go_wp2_with (first | (go_at_call 45; ((with_reducible refine (abs_walk Y hY _).mono ?_); rintro e w' ⟨rfl, rfl⟩)) | (go_at_call 45; ((with_reducible refine (abs_walk X hX _).mono ?_); rintro e w' ⟨rfl, rfl⟩)) | go_in)
    go_loopw [8, 9] (fun tv kv w' => ∃ (j : Nat) (tb nn : Nat), j ≤ 3 ∧ kv = .int .i64 (j : Int) ∧ tv = .float .f64 tb ∧ Hid (cls .f64 tb = itT (quoV false (Y % 2 ^ 63) (X % 2 ^ 63)) j) ∧ w' = w.drewN nn) (fun _ kv _ => (3 - intOf kv).toNat)
    case atStart => exact ⟨0, _, _, by omega, rfl, rfl, Lib.hid (tq_cls HA.out HB.out _), rfl⟩
    case round =>
      obtain ⟨j, tb, nn, hj, rfl, rfl, Ht, rfl⟩ := hrel
      clear hs1 hs2 ho
      by_cases hlt : j < 3
      · go_wp2_with go_in
        go_roundw
        case rel => exact ⟨j + 1, _, _, by omega, by go_num, rfl, Lib.hid (stT_cls Ht.out _ _ _ _ _), rfl⟩
        case measure => simp [intOf]; omega
      · obtain rfl : j = 3 := by omega
        go_wp2_with go_in
        go_loopw [11, 12] (fun pv kv w' => ∃ (j : Nat) (k : Int) (pb nn : Nat), j ≤ 8 ∧ k = 15 - 2 * (j : Int) ∧ pv = .float .f64 pb ∧ kv = .int .i64 k ∧
          Hid (cls .f64 pb = serA (vop .mul .f64 (itT (quoV false (Y % 2 ^ 63) (X % 2 ^ 63)) 3) (itT (quoV false (Y % 2 ^ 63) (X % 2 ^ 63)) 3)) j) ∧ w' = w.drewN nn) (fun _ kv _ => (intOf kv + 1).toNat)
        case atStart => exact ⟨0, 15, _, _, by omega, by omega, rfl, rfl, Lib.hid cls_0, rfl⟩
        case round =>
          obtain ⟨j, k, pb, nn2, hj2, hk, rfl, rfl, Hp, rfl⟩ := hrel
          by_cases hk1 : 1 ≤ k
          · have Hk := Lib.hid hk
            have hk2 : k ≤ 15 := by omega
            clear hk
            go_wp2
            go_roundw
            case rel => exact ⟨j + 1, k - 2, _, _, by have := Hk.out; omega, by have := Hk.out; omega, rfl, by go_num, Lib.hid (stA_cls (sq_cls Ht.out _) Hp.out Hk.out _ _ _), rfl⟩
            case measure => simp [intOf]; omega
          · obtain rfl : j = 8 := by omega
            clear hk
            go_wp2_with go_in
            go_ret
            exact ⟨_, rfl, (from05_cls (steep_cls Ht.out Hp.out _ _ _) _), Drew.mk _ _⟩
  · clear hne
    go_enter Try.func80, Try.ntmps80
    go_wp2_with (first | (go_at_call 45; ((with_reducible refine (abs_walk Y hY _).mono ?_); rintro e w' ⟨rfl, rfl⟩)) | (go_at_call 45; ((with_reducible refine (abs_walk X hX _).mono ?_); rintro e w' ⟨rfl, rfl⟩)) | go_in)
    go_loopw [8, 9] (fun tv kv w' => ∃ (j : Nat) (tb nn : Nat), j ≤ 3 ∧ kv = .int .i64 (j : Int) ∧ tv = .float .f64 tb ∧ Hid (cls .f64 tb = itT (quoV false (Y % 2 ^ 63) (X % 2 ^ 63)) j) ∧ w' = w.drewN nn) (fun _ kv _ => (3 - intOf kv).toNat)
    case atStart => exact ⟨0, _, _, by omega, rfl, rfl, Lib.hid (tq_cls HA.out HB.out _), rfl⟩
    case round =>
      obtain ⟨j, tb, nn, hj, rfl, rfl, Ht, rfl⟩ := hrel
      clear hs1 hs2 ho
      by_cases hlt : j < 3
      · go_wp2_with go_in
        go_roundw
        case rel => exact ⟨j + 1, _, _, by omega, by go_num, rfl, Lib.hid (stT_cls Ht.out _ _ _ _ _), rfl⟩
        case measure => simp [intOf]; omega
      · obtain rfl : j = 3 := by omega
        go_wp2_with go_in
        go_loopw [11, 12] (fun pv kv w' => ∃ (j : Nat) (k : Int) (pb nn : Nat), j ≤ 8 ∧ k = 15 - 2 * (j : Int) ∧ pv = .float .f64 pb ∧ kv = .int .i64 k ∧
          Hid (cls .f64 pb = serA (vop .mul .f64 (itT (quoV false (Y % 2 ^ 63) (X % 2 ^ 63)) 3) (itT (quoV false (Y % 2 ^ 63) (X % 2 ^ 63)) 3)) j) ∧ w' = w.drewN nn) (fun _ kv _ => (intOf kv + 1).toNat)
        case atStart => exact ⟨0, 15, _, _, by omega, by omega, rfl, rfl, Lib.hid cls_0, rfl⟩
        case round =>
          obtain ⟨j, k, pb, nn2, hj2, hk, rfl, rfl, Hp, rfl⟩ := hrel
          by_cases hk1 : 1 ≤ k
          · have Hk := Lib.hid hk
            have hk2 : k ≤ 15 := by omega
            clear hk
            go_wp2
            go_roundw
            case rel => exact ⟨j + 1, k - 2, _, _, by have := Hk.out; omega, by have := Hk.out; omega, rfl, by go_num, Lib.hid (stA_cls (sq_cls Ht.out _) Hp.out Hk.out _ _ _), rfl⟩
            case measure => simp [intOf]; omega
          · obtain rfl : j = 8 := by omega
            clear hk
            go_wp2_with go_in
            go_ret
            exact ⟨_, rfl, (from05_cls (steep_cls Ht.out Hp.out _ _ _) _), Drew.mk _ _⟩
  · clear hne
    go_enter Try.func80, Try.ntmps80
    go_wp2_with (first | (go_at_call 45; ((with_reducible refine (abs_walk Y hY _).mono ?_); rintro e w' ⟨rfl, rfl⟩)) | (go_at_call 45; ((with_reducible refine (abs_walk X hX _).mono ?_); rintro e w' ⟨rfl, rfl⟩)) | go_in)
    go_loopw [8, 9] (fun tv kv w' => ∃ (j : Nat) (tb nn : Nat), j ≤ 3 ∧ kv = .int .i64 (j : Int) ∧ tv = .float .f64 tb ∧ Hid (cls .f64 tb = itT (quoV false (Y % 2 ^ 63) (X % 2 ^ 63)) j) ∧ w' = w.drewN nn) (fun _ kv _ => (3 - intOf kv).toNat)
    case atStart => exact ⟨0, _, _, by omega, rfl, rfl, Lib.hid (tq_cls HA.out HB.out _), rfl⟩
    case round =>
      obtain ⟨j, tb, nn, hj, rfl, rfl, Ht, rfl⟩ := hrel
      clear hs1 hs2 ho
      by_cases hlt : j < 3
      · go_wp2_with go_in
        go_roundw
        case rel => exact ⟨j + 1, _, _, by omega, by go_num, rfl, Lib.hid (stT_cls Ht.out _ _ _ _ _), rfl⟩
        case measure => simp [intOf]; omega
      · obtain rfl : j = 3 := by omega
        go_wp2_with go_in
        go_loopw [11, 12] (fun pv kv w' => ∃ (j : Nat) (k : Int) (pb nn : Nat), j ≤ 8 ∧ k = 15 - 2 * (j : Int) ∧ pv = .float .f64 pb ∧ kv = .int .i64 k ∧
          Hid (cls .f64 pb = serA (vop .mul .f64 (itT (quoV false (Y % 2 ^ 63) (X % 2 ^ 63)) 3) (itT (quoV false (Y % 2 ^ 63) (X % 2 ^ 63)) 3)) j) ∧ w' = w.drewN nn) (fun _ kv _ => (intOf kv + 1).toNat)
        case atStart => exact ⟨0, 15, _, _, by omega, by omega, rfl, rfl, Lib.hid cls_0, rfl⟩
        case round =>
          obtain ⟨j, k, pb, nn2, hj2, hk, rfl, rfl, Hp, rfl⟩ := hrel
          by_cases hk1 : 1 ≤ k
          · have Hk := Lib.hid hk
            have hk2 : k ≤ 15 := by omega
            clear hk
            go_wp2
            go_roundw
            case rel => exact ⟨j + 1, k - 2, _, _, by have := Hk.out; omega, by have := Hk.out; omega, rfl, by go_num, Lib.hid (stA_cls (sq_cls Ht.out _) Hp.out Hk.out _ _ _), rfl⟩
            case measure => simp [intOf]; omega
          · obtain rfl : j = 8 := by omega
            clear hk
            go_wp2_with go_in
            go_ret
            exact ⟨_, rfl, (neg_of (steep_cls Ht.out Hp.out _ _ _)), Drew.mk _ _⟩
  · exact absurd ⟨rfl, rfl⟩ hne
  · clear hne
    go_enter Try.func80, Try.ntmps80
    go_wp2_with (first | (go_at_call 45; ((with_reducible refine (abs_walk Y hY _).mono ?_); rintro e w' ⟨rfl, rfl⟩)) | (go_at_call 45; ((with_reducible refine (abs_walk X hX _).mono ?_); rintro e w' ⟨rfl, rfl⟩)) | go_in)
    go_loopw [8, 9] (fun tv kv w' => ∃ (j : Nat) (tb nn : Nat), j ≤ 3 ∧ kv = .int .i64 (j : Int) ∧ tv = .float .f64 tb ∧ Hid (cls .f64 tb = itT (quoV false (Y % 2 ^ 63) (X % 2 ^ 63)) j) ∧ w' = w.drewN nn) (fun _ kv _ => (3 - intOf kv).toNat)
    case atStart => exact ⟨0, _, _, by omega, rfl, rfl, Lib.hid (tq_cls HA.out HB.out _), rfl⟩
    case round =>
      obtain ⟨j, tb, nn, hj, rfl, rfl, Ht, rfl⟩ := hrel
      clear hs1 hs2 ho
      by_cases hlt : j < 3
      · go_wp2_with go_in
        go_roundw
        case rel => exact ⟨j + 1, _, _, by omega, by go_num, rfl, Lib.hid (stT_cls Ht.out _ _ _ _ _), rfl⟩
        case measure => simp [intOf]; omega
      · obtain rfl : j = 3 := by omega
        go_wp2_with go_in
        go_loopw [11, 12] (fun pv kv w' => ∃ (j : Nat) (k : Int) (pb nn : Nat), j ≤ 8 ∧ k = 15 - 2 * (j : Int) ∧ pv = .float .f64 pb ∧ kv = .int .i64 k ∧
          Hid (cls .f64 pb = serA (vop .mul .f64 (itT (quoV false (Y % 2 ^ 63) (X % 2 ^ 63)) 3) (itT (quoV false (Y % 2 ^ 63) (X % 2 ^ 63)) 3)) j) ∧ w' = w.drewN nn) (fun _ kv _ => (intOf kv + 1).toNat)
        case atStart => exact ⟨0, 15, _, _, by omega, by omega, rfl, rfl, Lib.hid cls_0, rfl⟩
        case round =>
          obtain ⟨j, k, pb, nn2, hj2, hk, rfl, rfl, Hp, rfl⟩ := hrel
          by_cases hk1 : 1 ≤ k
          · have Hk := Lib.hid hk
            have hk2 : k ≤ 15 := by omega
            clear hk
            go_wp2
            go_roundw
            case rel => exact ⟨j + 1, k - 2, _, _, by have := Hk.out; omega, by have := Hk.out; omega, rfl, by go_num, Lib.hid (stA_cls (sq_cls Ht.out _) Hp.out Hk.out _ _ _), rfl⟩
            case measure => simp [intOf]; omega
          · obtain rfl : j = 8 := by omega
            clear hk
            go_wp2_with go_in
            go_ret
            exact ⟨_, rfl, (steep_cls Ht.out Hp.out _ _ _), Drew.mk _ _⟩
  · clear hne
    go_enter Try.func80, Try.ntmps80
    go_wp2_with (first | (go_at_call 45; ((with_reducible refine (abs_walk Y hY _).mono ?_); rintro e w' ⟨rfl, rfl⟩)) | (go_at_call 45; ((with_reducible refine (abs_walk X hX _).mono ?_); rintro e w' ⟨rfl, rfl⟩)) | go_in)
    go_loopw [8, 9] (fun tv kv w' => ∃ (j : Nat) (tb nn : Nat), j ≤ 3 ∧ kv = .int .i64 (j : Int) ∧ tv = .float .f64 tb ∧ Hid (cls .f64 tb = itT (quoV false (Y % 2 ^ 63) (X % 2 ^ 63)) j) ∧ w' = w.drewN nn) (fun _ kv _ => (3 - intOf kv).toNat)
    case atStart => exact ⟨0, _, _, by omega, rfl, rfl, Lib.hid (tq_cls HA.out HB.out _), rfl⟩
    case round =>
      obtain ⟨j, tb, nn, hj, rfl, rfl, Ht, rfl⟩ := hrel
      clear hs1 hs2 ho
      by_cases hlt : j < 3
      · go_wp2_with go_in
        go_roundw
        case rel => exact ⟨j + 1, _, _, by omega, by go_num, rfl, Lib.hid (stT_cls Ht.out _ _ _ _ _), rfl⟩
        case measure => simp [intOf]; omega
      · obtain rfl : j = 3 := by omega
        go_wp2_with go_in
        go_loopw [11, 12] (fun pv kv w' => ∃ (j : Nat) (k : Int) (pb nn : Nat), j ≤ 8 ∧ k = 15 - 2 * (j : Int) ∧ pv = .float .f64 pb ∧ kv = .int .i64 k ∧
          Hid (cls .f64 pb = serA (vop .mul .f64 (itT (quoV false (Y % 2 ^ 63) (X % 2 ^ 63)) 3) (itT (quoV false (Y % 2 ^ 63) (X % 2 ^ 63)) 3)) j) ∧ w' = w.drewN nn) (fun _ kv _ => (intOf kv + 1).toNat)
        case atStart => exact ⟨0, 15, _, _, by omega, by omega, rfl, rfl, Lib.hid cls_0, rfl⟩
        case round =>
          obtain ⟨j, k, pb, nn2, hj2, hk, rfl, rfl, Hp, rfl⟩ := hrel
          by_cases hk1 : 1 ≤ k
          · have Hk := Lib.hid hk
            have hk2 : k ≤ 15 := by omega
            clear hk
            go_wp2
            go_roundw
            case rel => exact ⟨j + 1, k - 2, _, _, by have := Hk.out; omega, by have := Hk.out; omega, rfl, by go_num, Lib.hid (stA_cls (sq_cls Ht.out _) Hp.out Hk.out _ _ _), rfl⟩
            case measure => simp [intOf]; omega
          · obtain rfl : j = 8 := by omega
            clear hk
            go_wp2_with go_in
            go_ret
            exact ⟨_, rfl, (neg_of (steep_cls Ht.out Hp.out _ _ _)), Drew.mk _ _⟩
  · clear hne
    go_enter Try.func80, Try.ntmps80
    go_wp2_with (first | (go_at_call 45; ((with_reducible refine (abs_walk Y hY _).mono ?_); rintro e w' ⟨rfl, rfl⟩)) | (go_at_call 45; ((with_reducible refine (abs_walk X hX _).mono ?_); rintro e w' ⟨rfl, rfl⟩)) | go_in)
    go_loopw [8, 9] (fun tv kv w' => ∃ (j : Nat) (tb nn : Nat), j ≤ 3 ∧ kv = .int .i64 (j : Int) ∧ tv = .float .f64 tb ∧ Hid (cls .f64 tb = itT (quoV false (Y % 2 ^ 63) (X % 2 ^ 63)) j) ∧ w' = w.drewN nn) (fun _ kv _ => (3 - intOf kv).toNat)
    case atStart => exact ⟨0, _, _, by omega, rfl, rfl, Lib.hid (tq_cls HA.out HB.out _), rfl⟩
    case round =>
      obtain ⟨j, tb, nn, hj, rfl, rfl, Ht, rfl⟩ := hrel
      clear hs1 hs2 ho
      by_cases hlt : j < 3
      · go_wp2_with go_in
        go_roundw
        case rel => exact ⟨j + 1, _, _, by omega, by go_num, rfl, Lib.hid (stT_cls Ht.out _ _ _ _ _), rfl⟩
        case measure => simp [intOf]; omega
      · obtain rfl : j = 3 := by omega
        go_wp2_with go_in
        go_loopw [11, 12] (fun pv kv w' => ∃ (j : Nat) (k : Int) (pb nn : Nat), j ≤ 8 ∧ k = 15 - 2 * (j : Int) ∧ pv = .float .f64 pb ∧ kv = .int .i64 k ∧
          Hid (cls .f64 pb = serA (vop .mul .f64 (itT (quoV false (Y % 2 ^ 63) (X % 2 ^ 63)) 3) (itT (quoV false (Y % 2 ^ 63) (X % 2 ^ 63)) 3)) j) ∧ w' = w.drewN nn) (fun _ kv _ => (intOf kv + 1).toNat)
        case atStart => exact ⟨0, 15, _, _, by omega, by omega, rfl, rfl, Lib.hid cls_0, rfl⟩
        case round =>
          obtain ⟨j, k, pb, nn2, hj2, hk, rfl, rfl, Hp, rfl⟩ := hrel
          by_cases hk1 : 1 ≤ k
          · have Hk := Lib.hid hk
            have hk2 : k ≤ 15 := by omega
            clear hk
            go_wp2
            go_roundw
            case rel => exact ⟨j + 1, k - 2, _, _, by have := Hk.out; omega, by have := Hk.out; omega, rfl, by go_num, Lib.hid (stA_cls (sq_cls Ht.out _) Hp.out Hk.out _ _ _), rfl⟩
            case measure => simp [intOf]; omega
          · obtain rfl : j = 8 := by omega
            clear hk
            go_wp2_with go_in
            go_ret
            exact ⟨_, rfl, (steep_cls Ht.out Hp.out _ _ _), Drew.mk _ _⟩
  · clear hne
    go_enter Try.func80, Try.ntmps80
    go_wp2_with (first | (go_at_call 45; ((with_reducible refine (abs_walk Y hY _).mono ?_); rintro e w' ⟨rfl, rfl⟩)) | (go_at_call 45; ((with_reducible refine (abs_walk X hX _).mono ?_); rintro e w' ⟨rfl, rfl⟩)) | go_in)
    go_loopw [8, 9] (fun tv kv w' => ∃ (j : Nat) (tb nn : Nat), j ≤ 3 ∧ kv = .int .i64 (j : Int) ∧ tv = .float .f64 tb ∧ Hid (cls .f64 tb = itT (quoV false (Y % 2 ^ 63) (X % 2 ^ 63)) j) ∧ w' = w.drewN nn) (fun _ kv _ => (3 - intOf kv).toNat)
    case atStart => exact ⟨0, _, _, by omega, rfl, rfl, Lib.hid (tq_cls HA.out HB.out _), rfl⟩
    case round =>
      obtain ⟨j, tb, nn, hj, rfl, rfl, Ht, rfl⟩ := hrel
      clear hs1 hs2 ho
      by_cases hlt : j < 3
      · go_wp2_with go_in
        go_roundw
        case rel => exact ⟨j + 1, _, _, by omega, by go_num, rfl, Lib.hid (stT_cls Ht.out _ _ _ _ _), rfl⟩
        case measure => simp [intOf]; omega
      · obtain rfl : j = 3 := by omega
        go_wp2_with go_in
        go_loopw [11, 12] (fun pv kv w' => ∃ (j : Nat) (k : Int) (pb nn : Nat), j ≤ 8 ∧ k = 15 - 2 * (j : Int) ∧ pv = .float .f64 pb ∧ kv = .int .i64 k ∧
          Hid (cls .f64 pb = serA (vop .mul .f64 (itT (quoV false (Y % 2 ^ 63) (X % 2 ^ 63)) 3) (itT (quoV false (Y % 2 ^ 63) (X % 2 ^ 63)) 3)) j) ∧ w' = w.drewN nn) (fun _ kv _ => (intOf kv + 1).toNat)
        case atStart => exact ⟨0, 15, _, _, by omega, by omega, rfl, rfl, Lib.hid cls_0, rfl⟩
        case round =>
          obtain ⟨j, k, pb, nn2, hj2, hk, rfl, rfl, Hp, rfl⟩ := hrel
          by_cases hk1 : 1 ≤ k
          · have Hk := Lib.hid hk
            have hk2 : k ≤ 15 := by omega
            clear hk
            go_wp2
            go_roundw
            case rel => exact ⟨j + 1, k - 2, _, _, by have := Hk.out; omega, by have := Hk.out; omega, rfl, by go_num, Lib.hid (stA_cls (sq_cls Ht.out _) Hp.out Hk.out _ _ _), rfl⟩
            case measure => simp [intOf]; omega
          · obtain rfl : j = 8 := by omega
            clear hk
            go_wp2_with go_in
            go_ret
            exact ⟨_, rfl, (steep_cls Ht.out Hp.out _ _ _), Drew.mk _ _⟩
end Go.Proofs.Ytgdcpohdejbhaac
