
/- Logarithms: the walks. -/
import Derived.Test.YteikedgdegaeiaaFll
import Derived.Test.YteikedgdegaeiaaFlu
namespace Go.Proofs.Yteikedgdegaeiaa
open Go.Proofs.Yteikedgdegaeiaa.Flo Go.RowKit

def exV : Value → Int
  | .float _ b => match (FloatKind.f64).decode b with | .number _ m i => (m.log2 : Int) + i | _ => 0
  | _ => 0
theorem exV_of {x : Nat} {E : Int} (h : PosE x E) : exV (.float .f64 x) = E := by
  obtain ⟨m, i, hd, _, _, hE⟩ := h
  show (match (FloatKind.f64).decode x with | .number _ m i => (m.log2 : Int) + i | _ => 0) = E
  rw [hd]; exact hE
theorem fres_of {op : BinOp} {x c x' : Nat} (h : vop op .f64 (some x) (some c) = some x') (w : World) : fres op .f64 x c w = x' := by
  have h2 : floatBits op .f64 x c = some x' := h
  unfold fres; rw [h2]
theorem s_cls {x : Nat} {a : Option Nat} (h : cls .f64 x = a) (w1 w2 w3 : World) : cls .f64 (fres .quo .f64 (fres .sub .f64 x 4607182418800017408 w1) (fres .add .f64 x 4607182418800017408 w2) w3) = sV a := by
  rw [fres_cls, fres_cls, fres_cls, h, show cls .f64 4607182418800017408 = some c1 from cls_c1]; rfl
theorem stL_cls {ub qb : Nat} {U Q : Option Nat} (hu : cls .f64 ub = U) (hq : cls .f64 qb = Q) {k : Int} {j : Nat} (hk : k = 25 - 2 * (j : Int)) (w1 w2 w3 : World) :
    cls .f64 (fres .add .f64 (fres .quo .f64 4607182418800017408 (floatOfInt .f64 k) w1) (fres .mul .f64 ub qb w2) w3) = stL U (25 - 2 * (j : Int)) Q := by
  rw [fres_cls, fres_cls, fres_cls, hu, hq, cls_int, show cls .f64 4607182418800017408 = some c1 from cls_c1, hk]; rfl
theorem log_end {s q : Nat} {a : Option Nat} {e : Int} (hs : cls .f64 s = sV a) (hq : cls .f64 q = serL (vop .mul .f64 (sV a) (sV a)) 13) (w1 w2 w3 w4 : World) :
    cls .f64 (fres .add .f64 (fres .mul .f64 4611686018427387904 (fres .mul .f64 s q w1) w2) (fres .mul .f64 (floatOfInt .f64 e) 4604418534313441775 w3) w4) = logV (a, e).1 (a, e).2 := by
  rw [fres_cls, fres_cls, fres_cls, fres_cls, hs, hq, cls_int, show cls .f64 4611686018427387904 = some c2 from cls_c2, show cls .f64 4604418534313441775 = some cln2 from cls_cln2]; rfl

set_option maxHeartbeats 2000000 in
theorem log_impl (x0 : Nat) (X0 : Int) (T1 T2 : Option Nat × Int) (hp : PosE x0 X0) (hlo : -200 ≤ X0) (hhi : X0 ≤ 200) (HT1 : Hid (halveF 3000 (some x0) 0 = T1)) (HT2 : Hid (doubleF 3000 T1.1 T1.2 = T2)) (w : World) :
    Calls Try.prog 187 #[.float .f64 x0] w fun e w' => ∃ r, e = .returned (.float .f64 r) ∧ cls .f64 r = logV T2.1 T2.2 ∧ Drew w w' := by
  go_enter Try.func187, Try.ntmps187
  go_wp2
  go_loopw [0, 3] (fun xv ev w' => ∃ (x : Nat) (X e : Int) (n nn : Nat), xv = .float .f64 x ∧ ev = .int .i64 e ∧ Hid (PosE x X) ∧ Hid (X + e = X0) ∧ X ≤ X0 ∧ e ≤ 1000 - X ∧ 0 ≤ e ∧ X < n ∧ -200 ≤ X ∧ Hid (halveF n (some x) e = T1) ∧ w' = w.drewN nn) (fun xv _ _ => (exV xv + 2000).toNat)
  case atStart => exact ⟨x0, X0, 0, 3000, _, rfl, rfl, Lib.hid hp, Lib.hid (by omega), by omega, by omega, by omega, by omega, hlo, HT1, (World.drewN_zero (w := w)).symm⟩
  case round =>
    obtain ⟨x, X, e, n, nn, rfl, rfl, Hp, HX, hXX, he1, he0, hn, hXlo, HT, rfl⟩ := hrel
    have hX := exV_of Hp.out
    cases hb : vge (some x) (some c15) with
    | true =>
      have hge := (ge15 Hp.out).1 hb
      obtain ⟨x', hx', hp'⟩ := halve_pos Hp.out (by omega) (by omega)
      have hr : ∀ w2, fres .quo .f64 x 4611686018427387904 w2 = x' := fun w2 => fres_of hx' w2
      obtain ⟨n', rfl⟩ : ∃ n', n = n' + 1 := ⟨n - 1, by omega⟩
      have HT' := Lib.hid ((halveF_go hb n' e).symm.trans HT.out)
      rw [hx'] at HT'
      have hX' := exV_of hp'
      have Hp' := Lib.hid hp'
      have ht : ((FloatKind.f64).format.order x 4609434218613702656 == some .gt || (FloatKind.f64).format.order x 4609434218613702656 == some .eq) = true := hb
      have HhX := Lib.hid hX
      have HhX' := Lib.hid hX'
      clear hx' hp' hb hX hX' HT
      go_wp2
      go_roundw
      case rel => exact ⟨x', X - 1, e + 1, n', _, rfl, by go_num, Hp', Lib.hid (by have := HX.out; omega), by omega, by omega, by omega, by omega, by omega, HT', rfl⟩
      case measure => show (exV (.float .f64 x') + 2000).toNat < (exV (.float .f64 x) + 2000).toNat; rw [HhX.out, HhX'.out]; omega
    | false =>
      have hle := (ge15 Hp.out).2 hb
      have HT' := Lib.hid ((halveF_stop hb n e).symm.trans HT.out)
      have ht : ((FloatKind.f64).format.order x 4609434218613702656 == some .gt || (FloatKind.f64).format.order x 4609434218613702656 == some .eq) = false := hb
      clear hb hX HT
      go_wp2
      obtain ⟨w0, hw0⟩ : ∃ w0 : World, w0 = w.drewN nn := ⟨_, rfl⟩
      go_loopw [0, 3] (fun xv ev w' => ∃ (x : Nat) (X e : Int) (n nn : Nat), xv = .float .f64 x ∧ ev = .int .i64 e ∧ Hid (PosE x X) ∧ Hid (X + e = X0) ∧ X ≤ 0 ∧ -200 ≤ X ∧ e ≤ 1000 ∧ -1000 ≤ e ∧ -X ≤ n ∧ Hid (doubleF n (some x) e = T2) ∧ w' = w.drewN nn) (fun xv _ _ => (2000 - exV xv).toNat)
      case atStart => exact ⟨x, X, e, 3000, _, rfl, rfl, Hp, HX, by omega, by omega, by have := HX.out; omega, by omega, by omega, Lib.hid (by rw [← HT2.out, ← HT'.out]), rfl⟩
      case round =>
        clear HT' Hp HX hw0
        clear hle he1 he0 hn hXlo hXX ht
        obtain ⟨x, X, e, n, nn2, rfl, rfl, Hp, HX, hXle, hXlo, he1, he2, hn, HT, rfl⟩ := hrel
        have hX := exV_of Hp.out
        cases hb : vlt (some x) (some c075) with
        | true =>
          have hlt := (lt075 Hp.out).1 hb
          obtain ⟨x', hx', hp'⟩ := double_pos Hp.out (by omega) (by omega)
          have hr : ∀ w2, fres .mul .f64 x 4611686018427387904 w2 = x' := fun w2 => fres_of hx' w2
          obtain ⟨n', rfl⟩ : ∃ n', n = n' + 1 := ⟨n - 1, by omega⟩
          have HT' := Lib.hid ((doubleF_go hb n' e).symm.trans HT.out)
          rw [hx'] at HT'
          have hX' := exV_of hp'
          have Hp' := Lib.hid hp'
          have ht : ((FloatKind.f64).format.order x 4604930618986332160 == some .lt) = true := hb
          have HhX := Lib.hid hX
          have HhX' := Lib.hid hX'
          have hX0 := HX.out
          have he3 : -999 ≤ e := by omega
          clear hx' hp' hb hX hX' HT hX0
          go_wp2
          go_roundw
          case rel => exact ⟨x', X + 1, e - 1, n', _, rfl, by go_num, Hp', Lib.hid (by have := HX.out; omega), by omega, by omega, by omega, by omega, by omega, HT', rfl⟩
          case measure => show (2000 - exV (.float .f64 x')).toNat < (2000 - exV (.float .f64 x)).toNat; rw [HhX.out, HhX'.out]; omega
        | false =>
          have HT' := Lib.hid ((doubleF_stop hb n e).symm.trans HT.out)
          have ht : ((FloatKind.f64).format.order x 4604930618986332160 == some .lt) = false := hb
          have hcx : cls .f64 x = some x := by obtain ⟨m, i, hd, _⟩ := Hp.out; exact cls_of_not (by rw [hd]; rfl)
          have Hcx := Lib.hid hcx
          clear hb hX HT hcx Hp HX
          go_wp2
          go_loopw [6, 7] (fun qv kv w' => ∃ (j : Nat) (k : Int) (qb nn : Nat), j ≤ 13 ∧ k = 25 - 2 * (j : Int) ∧ qv = .float .f64 qb ∧ kv = .int .i64 k ∧
            Hid (cls .f64 qb = serL (vop .mul .f64 (sV (some x)) (sV (some x))) j) ∧ w' = w.drewN nn) (fun _ kv _ => (intOf kv + 1).toNat)
          case atStart => exact ⟨0, 25, _, _, by omega, by omega, rfl, rfl, Lib.hid cls_0, rfl⟩
          case round =>
            obtain ⟨j, k, qb, nn3, hj, hk, rfl, rfl, Hq, rfl⟩ := hrel
            by_cases hlt : 1 ≤ k
            · have Hk := Lib.hid hk
              have hk2 : k ≤ 25 := by omega
              clear hk
              go_wp2
              go_roundw
              case rel => exact ⟨j + 1, k - 2, _, _, by have := Hk.out; omega, by have := Hk.out; omega, rfl, by go_num, Lib.hid (stL_cls (sq_cls (s_cls Hcx.out _ _ _) _) Hq.out Hk.out _ _ _), rfl⟩
              case measure => simp [intOf]; omega
            · obtain rfl : j = 13 := by omega
              clear hk
              go_wp2
              go_ret
              exact ⟨_, rfl, (log_end (s_cls Hcx.out _ _ _) Hq.out _ _ _ _).trans (by rw [HT'.out]), Drew.mk _ _⟩
end Go.Proofs.Yteikedgdegaeiaa
