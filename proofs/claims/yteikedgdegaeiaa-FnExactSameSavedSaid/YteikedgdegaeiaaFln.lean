
/- Logarithms: the laws. -/
import Derived.Test.YteikedgdegaeiaaFlm
namespace Go.Proofs.Yteikedgdegaeiaa
open Go.Proofs.Yteikedgdegaeiaa.Flo Go.RowKit
attribute [local go_sem] call_from64 call_bits64
attribute [local go_sem] call_from32
attribute [local go_sem] call_bits32

/-! ### Signs -/
def sgn : Ieee.Datum → Option Ordering
  | .number s m _ => some (if m = 0 then .eq else if s then .lt else .gt)
  | .infinity s => some (if s then .lt else .gt)
  | .nan .. => none
theorem sgn_num {s : Bool} {m : Nat} {i : Int} (h : m ≠ 0) : sgn (.number s m i) = some (if s then .lt else .gt) := by
  show some (if m = 0 then _ else _) = _
  rw [if_neg h]
theorem order_zero (k : FloatKind) (x : Nat) : k.format.order x 0 = sgn (k.decode x) := by
  have h0 : k.format.read 0 = .number false 0 k.format.leastPlace := by cases k <;> decide +kernel
  unfold Ieee.Format.order FloatKind.decode
  rw [h0]
  cases hd : k.format.read x with
  | number s m i =>
    show some (compare _ _) = some _
    have e : Ieee.signed false 0 (k.format.leastPlace - min i k.format.leastPlace).toNat = 0 := signed_zero _ _
    rw [e]
    unfold Ieee.signed
    rw [Nat.shiftLeft_eq]
    have hp := Nat.two_pow_pos (i - min i k.format.leastPlace).toNat
    generalize 2 ^ (i - min i k.format.leastPlace).toNat = c at *
    by_cases hm : m = 0
    · subst hm
      rw [if_pos rfl]
      cases s <;> simp
    · rw [if_neg hm]
      have hpos : 0 < m * c := Nat.mul_pos (by omega) hp
      cases s
      · exact congrArg some (Int.compare_eq_gt.2 (by simp; omega))
      · exact congrArg some (Int.compare_eq_lt.2 (by simp; omega))
  | infinity s => rfl
  | nan s t => rfl

theorem num32 {x : Nat} {s : Bool} {m : Nat} {i : Int} (h : (FloatKind.f32).decode x = .number s m i) : m < 2 ^ 24 ∧ -149 ≤ i ∧ i ≤ 104 := by
  unfold FloatKind.decode FloatKind.format Ieee.Format.read at h
  dsimp only at h
  have h1 : Ieee.single.binade = 2 ^ 23 := rfl
  have h2 : Ieee.single.infRung = 255 * 2 ^ 23 := rfl
  have h3 : Ieee.single.leastPlace = -149 := rfl
  generalize x % Ieee.single.signWeight = r at h
  rw [h1, h2, h3] at h
  split at h
  · injection h with _ hm he
    subst hm he
    omega
  · split at h
    · injection h with _ hm he
      subst hm he
      omega
    · split at h <;> cases h

/-- A 32-bit number, not a zero, in 64 bits. -/
theorem wide_num {x : Nat} {s : Bool} {m : Nat} {i : Int} (h : (FloatKind.f32).decode x = .number s m i) (h0 : m ≠ 0) :
    ∃ y, vwide (cls .f32 x) = some y ∧ (FloatKind.f64).decode y = .number s (m <<< (52 - m.log2)) (i + m.log2 - 52) := by
  have hn := num32 h
  have hl := (Nat.log2_lt h0).2 hn.1
  have hx := exact64 s m 0 i h0 (by omega) (by omega) (by omega)
  rw [Nat.shiftLeft_zero] at hx
  have e : i + ((0 : Nat) : Int) + (m.log2 : Int) - 52 = i + m.log2 - 52 := by omega
  rw [e] at hx
  refine ⟨(FloatKind.f64).format.nearest s m i, ?_, hx⟩
  rw [cls_of_not (by rw [h]; rfl)]
  unfold vwide floatToFloatBits
  simp only [Option.bind_some]
  rw [if_neg (by decide), h]
  have hni : ((FloatKind.f64).decode ((FloatKind.f64).encode (.number s m i))).isInfinity = false := by
    show ((FloatKind.f64).decode ((FloatKind.f64).format.nearest s m i)).isInfinity = false
    rw [hx]; rfl
  simp only [hni, Bool.false_eq_true, if_false]
  rfl

/-- What is not a number, or a zero, in 64 bits. -/
theorem wide_inf {x : Nat} {s : Bool} (h : (FloatKind.f32).decode x = .infinity s) : vwide (cls .f32 x) = some ((FloatKind.f64).encode (.infinity s)) := by
  rw [cls_of_not (by rw [h]; rfl)]
  unfold vwide floatToFloatBits
  simp only [Option.bind_some]
  rw [if_neg (by decide), h]
theorem wide_zero {x : Nat} {s : Bool} {i : Int} (h : (FloatKind.f32).decode x = .number s 0 i) : vwide (cls .f32 x) = some ((FloatKind.f64).format.word s 0) := by
  rw [cls_of_not (by rw [h]; rfl)]
  unfold vwide floatToFloatBits
  simp only [Option.bind_some]
  rw [if_neg (by decide), h]
  have e : (FloatKind.f64).encode (.number s 0 i) = (FloatKind.f64).format.word s 0 := by
    unfold FloatKind.encode Ieee.Format.write Ieee.Format.nearest
    simp
  dsimp only
  rw [e]
  cases s <;> rfl
theorem wide_nan {x : Nat} (h : ((FloatKind.f32).decode x).isNaN = true) : vwide (cls .f32 x) = none := by
  unfold cls; rw [if_pos h]; rfl

theorem cres_of {x y : Nat} (h : vwide (cls .f32 x) = some y) (w : World) : cres .f32 x .f64 w = y := (cls_some ((cres_wide x w).trans h)).1
theorem wide_sgn (x : Nat) (w : World) : sgn ((FloatKind.f64).decode (cres .f32 x .f64 w)) = sgn ((FloatKind.f32).decode x) := by
  cases hd : (FloatKind.f32).decode x with
  | number s m i =>
    by_cases h0 : m = 0
    · subst h0
      rw [cres_of (wide_zero hd)]
      cases s <;> rfl
    · obtain ⟨y, hy, hdy⟩ := wide_num hd h0
      rw [cres_of hy, hdy]
      have : m <<< (52 - m.log2) ≠ 0 := by rw [Nat.shiftLeft_eq]; exact Nat.mul_ne_zero h0 (by have := Nat.two_pow_pos (52 - m.log2); omega)
      rw [sgn_num this, sgn_num h0]
  | infinity s =>
    rw [cres_of (wide_inf hd)]
    cases s <;> rfl
  | nan s t =>
    have h := cls_none ((cres_wide x w).trans (wide_nan (x := x) (by rw [hd]; rfl)))
    cases hd2 : (FloatKind.f64).decode (cres .f32 x .f64 w) with
    | number => rw [hd2] at h; cases h
    | infinity => rw [hd2] at h; cases h
    | nan => rfl

theorem pos_wide {x : Nat} {m : Nat} {i : Int} (h : (FloatKind.f32).decode x = .number false m i) (h0 : m ≠ 0) :
    ∃ y X, vwide (cls .f32 x) = some y ∧ PosE y X ∧ -200 ≤ X ∧ X ≤ 200 := by
  obtain ⟨y, hy, hd⟩ := wide_num h h0
  have hn := num32 h
  have hl := (Nat.log2_lt h0).2 hn.1
  refine ⟨y, (m.log2 : Int) + i, hy, ⟨_, _, hd, ?_, ?_, ?_⟩, by omega, by omega⟩
  · rw [Nat.shiftLeft_eq]; exact Nat.mul_ne_zero h0 (by have := Nat.two_pow_pos (52 - m.log2); omega)
  · rw [log2_shl_eq _ _ h0]; omega
  · rw [log2_shl_eq _ _ h0]; omega

theorem pos_max {y : Nat} {X : Int} (h : PosE y X) : ((FloatKind.f64).format.order y 9218868437227405311 == some .gt) = false := by
  obtain ⟨m, i, hd, _⟩ := h
  have h1 := order_max y
  have h2 : (FloatKind.f64).decode (y % 2 ^ 63) = (FloatKind.f64).decode y := by rw [decode_abs, hd]; rfl
  unfold FloatKind.decode at h2
  unfold Ieee.Format.order at h1 ⊢
  rw [h2] at h1
  rw [h1]
  rw [hd]
theorem pos_sgn {y : Nat} {X : Int} (h : PosE y X) : sgn ((FloatKind.f64).decode y) = some .gt ∧ ((FloatKind.f64).decode y).isNaN = false := by
  obtain ⟨m, i, hd, h0, _⟩ := h
  rw [hd]
  exact ⟨by rw [sgn_num h0]; rfl, rfl⟩

set_option maxHeartbeats 2000000 in
theorem log_spec (x0 : Nat) (X0 : Int) (T1 T2 : Option Nat × Int) (hp : PosE x0 X0) (hlo : -200 ≤ X0) (hhi : X0 ≤ 200) (HT1 : Hid (halveF 3000 (some x0) 0 = T1)) (HT2 : Hid (doubleF 3000 T1.1 T1.2 = T2)) (w : World) :
    Calls Try.prog 182 #[.float .f64 x0] w fun e w' => ∃ r, e = .returned (.float .f64 r) ∧ cls .f64 r = logV T2.1 T2.2 ∧ Drew w w' := by
  have hm := pos_max hp
  have hs := pos_sgn hp
  have hz := (order_zero .f64 x0).trans hs.1
  have ho := order_self hs.2
  clear hs
  go_enter Try.func182, Try.ntmps182
  go_wp2
  go_loopw [0, 3] (fun xv ev w' => ∃ (x : Nat) (X e : Int) (n nn : Nat), xv = .float .f64 x ∧ ev = .int .i64 e ∧ Hid (PosE x X) ∧ Hid (X + e = X0) ∧ X ≤ X0 ∧ e ≤ 1000 - X ∧ 0 ≤ e ∧ X < n ∧ -200 ≤ X ∧ Hid (halveF n (some x) e = T1) ∧ w' = w.drewN nn) (fun xv _ _ => (exV xv + 2000).toNat)
  case atStart => exact ⟨x0, X0, 0, 3000, _, rfl, rfl, Lib.hid hp, Lib.hid (by omega), by omega, by omega, by omega, by omega, hlo, HT1, (World.drewN_zero (w := w)).symm⟩
  case round =>
    clear hm hz ho
    obtain ⟨x, X, e, n, nn, rfl, rfl, Hp, HX, hXX, he1, he0, hn, hXlo, HT, rfl⟩ := hrel
    have hX := exV_of Hp.out
    cases hb : vge (some x) (some c15) with
    | true =>
      have hge := (ge15 Hp.out).1 hb
      obtain ⟨x', hx', hp'⟩ := halve_pos Hp.out (by omega) (by omega)
      have hr : ∀ w2, fres .quo .f64 x 4611686018427387904 w2 = x' := fun w2 => fres_of hx' w2
      obtain ⟨n', rfl⟩ : ∃ n', n = n' + 1 := ⟨n - 1, by omega⟩
      have HT' := Lib.hid ((halveF_go hb n' e).symm.trans HT.out)
      rw [hx'] at HT'
      have hX' := exV_of hp'
      have Hp' := Lib.hid hp'
      have ht : ((FloatKind.f64).format.order x 4609434218613702656 == some .gt || (FloatKind.f64).format.order x 4609434218613702656 == some .eq) = true := hb
      have HhX := Lib.hid hX
      have HhX' := Lib.hid hX'
      clear hx' hp' hb hX hX' HT
      go_wp2
      go_roundw
      case rel => exact ⟨x', X - 1, e + 1, n', _, rfl, by go_num, Hp', Lib.hid (by have := HX.out; omega), by omega, by omega, by omega, by omega, by omega, HT', rfl⟩
      case measure => show (exV (.float .f64 x') + 2000).toNat < (exV (.float .f64 x) + 2000).toNat; rw [HhX.out, HhX'.out]; omega
    | false =>
      have hle := (ge15 Hp.out).2 hb
      have HT' := Lib.hid ((halveF_stop hb n e).symm.trans HT.out)
      have ht : ((FloatKind.f64).format.order x 4609434218613702656 == some .gt || (FloatKind.f64).format.order x 4609434218613702656 == some .eq) = false := hb
      clear hb hX HT
      go_wp2
      obtain ⟨w0, hw0⟩ : ∃ w0 : World, w0 = w.drewN nn := ⟨_, rfl⟩
      go_loopw [0, 3] (fun xv ev w' => ∃ (x : Nat) (X e : Int) (n nn : Nat), xv = .float .f64 x ∧ ev = .int .i64 e ∧ Hid (PosE x X) ∧ Hid (X + e = X0) ∧ X ≤ 0 ∧ -200 ≤ X ∧ e ≤ 1000 ∧ -1000 ≤ e ∧ -X ≤ n ∧ Hid (doubleF n (some x) e = T2) ∧ w' = w.drewN nn) (fun xv _ _ => (2000 - exV xv).toNat)
      case atStart => exact ⟨x, X, e, 3000, _, rfl, rfl, Hp, HX, by omega, by omega, by have := HX.out; omega, by omega, by omega, Lib.hid (by rw [← HT2.out, ← HT'.out]), rfl⟩
      case round =>
        clear HT' Hp HX hw0
        clear hle he1 he0 hn hXlo hXX ht
        obtain ⟨x, X, e, n, nn2, rfl, rfl, Hp, HX, hXle, hXlo, he1, he2, hn, HT, rfl⟩ := hrel
        have hX := exV_of Hp.out
        cases hb : vlt (some x) (some c075) with
        | true =>
          have hlt := (lt075 Hp.out).1 hb
          obtain ⟨x', hx', hp'⟩ := double_pos Hp.out (by omega) (by omega)
          have hr : ∀ w2, fres .mul .f64 x 4611686018427387904 w2 = x' := fun w2 => fres_of hx' w2
          obtain ⟨n', rfl⟩ : ∃ n', n = n' + 1 := ⟨n - 1, by omega⟩
          have HT' := Lib.hid ((doubleF_go hb n' e).symm.trans HT.out)
          rw [hx'] at HT'
          have hX' := exV_of hp'
          have Hp' := Lib.hid hp'
          have ht : ((FloatKind.f64).format.order x 4604930618986332160 == some .lt) = true := hb
          have HhX := Lib.hid hX
          have HhX' := Lib.hid hX'
          have hX0 := HX.out
          have he3 : -999 ≤ e := by omega
          clear hx' hp' hb hX hX' HT hX0
          go_wp2
          go_roundw
          case rel => exact ⟨x', X + 1, e - 1, n', _, rfl, by go_num, Hp', Lib.hid (by have := HX.out; omega), by omega, by omega, by omega, by omega, by omega, HT', rfl⟩
          case measure => show (2000 - exV (.float .f64 x')).toNat < (2000 - exV (.float .f64 x)).toNat; rw [HhX.out, HhX'.out]; omega
        | false =>
          have HT' := Lib.hid ((doubleF_stop hb n e).symm.trans HT.out)
          have ht : ((FloatKind.f64).format.order x 4604930618986332160 == some .lt) = false := hb
          have hcx : cls .f64 x = some x := by obtain ⟨m, i, hd, _⟩ := Hp.out; exact cls_of_not (by rw [hd]; rfl)
          have Hcx := Lib.hid hcx
          clear hb hX HT hcx Hp HX
          go_wp2
          go_loopw [6, 7] (fun qv kv w' => ∃ (j : Nat) (k : Int) (qb nn : Nat), j ≤ 13 ∧ k = 25 - 2 * (j : Int) ∧ qv = .float .f64 qb ∧ kv = .int .i64 k ∧
            Hid (cls .f64 qb = serL (vop .mul .f64 (sV (some x)) (sV (some x))) j) ∧ w' = w.drewN nn) (fun _ kv _ => (intOf kv + 1).toNat)
          case atStart => exact ⟨0, 25, _, _, by omega, by omega, rfl, rfl, Lib.hid cls_0, rfl⟩
          case round =>
            obtain ⟨j, k, qb, nn3, hj, hk, rfl, rfl, Hq, rfl⟩ := hrel
            by_cases hlt : 1 ≤ k
            · have Hk := Lib.hid hk
              have hk2 : k ≤ 25 := by omega
              clear hk
              go_wp2
              go_roundw
              case rel => exact ⟨j + 1, k - 2, _, _, by have := Hk.out; omega, by have := Hk.out; omega, rfl, by go_num, Lib.hid (stL_cls (sq_cls (s_cls Hcx.out _ _ _) _) Hq.out Hk.out _ _ _), rfl⟩
              case measure => simp [intOf]; omega
            · obtain rfl : j = 13 := by omega
              clear hk
              go_wp2
              go_ret
              exact ⟨_, rfl, (log_end (s_cls Hcx.out _ _ _) Hq.out _ _ _ _).trans (by rw [HT'.out]), Drew.mk _ _⟩

theorem log_spec' (x0 : Nat) (X0 : Int) (hp : PosE x0 X0) (hlo : -200 ≤ X0) (hhi : X0 ≤ 200) (w : World) :
    Calls Try.prog 182 #[.float .f64 x0] w fun e w' => ∃ r, e = .returned (.float .f64 r) ∧ cls .f64 r = logW x0 ∧ Drew w w' :=
  log_spec x0 X0 _ _ hp hlo hhi (Lib.hid rfl) (Lib.hid rfl) w
theorem log_impl' (x0 : Nat) (X0 : Int) (hp : PosE x0 X0) (hlo : -200 ≤ X0) (hhi : X0 ≤ 200) (w : World) :
    Calls Try.prog 187 #[.float .f64 x0] w fun e w' => ∃ r, e = .returned (.float .f64 r) ∧ cls .f64 r = logW x0 ∧ Drew w w' :=
  log_impl x0 X0 _ _ hp hlo hhi (Lib.hid rfl) (Lib.hid rfl) w
/-- The logarithm of a 32-bit number. -/
def logR (x : Nat) : Option Nat := match (FloatKind.f32).decode x with
  | .number s m _ => if m = 0 then some 4286578688 else if s then none else vnarrow (logW ((vwide (cls .f32 x)).getD 0))
  | .infinity s => if s then none else some 2139095040
  | .nan .. => none
theorem logR_pos {x m y : Nat} {i : Int} (h : (FloatKind.f32).decode x = .number false m i) (h0 : m ≠ 0) (hy : vwide (cls .f32 x) = some y) : logR x = vnarrow (logW y) := by
  unfold logR; rw [h]; dsimp only; rw [if_neg h0, hy]; rfl
theorem logR_neg {x m : Nat} {i : Int} (h : (FloatKind.f32).decode x = .number true m i) (h0 : m ≠ 0) : logR x = none := by
  unfold logR; rw [h]; dsimp only; rw [if_neg h0]; rfl
theorem logR_zero {x : Nat} {s : Bool} {i : Int} (h : (FloatKind.f32).decode x = .number s 0 i) : logR x = some 4286578688 := by
  unfold logR; rw [h]; rfl
theorem logR_inf {x : Nat} {s : Bool} (h : (FloatKind.f32).decode x = .infinity s) : logR x = if s then none else some 2139095040 := by
  unfold logR; rw [h]
theorem logR_nan {x : Nat} {s : Bool} {t : Nat} (h : (FloatKind.f32).decode x = .nan s t) : logR x = none := by
  unfold logR; rw [h]
theorem cls_nan64' : cls .f64 9221120237041090561 = none := by decide +kernel
theorem inf_wide_max : ((FloatKind.f64).format.order ((FloatKind.f64).encode (.infinity false)) 9218868437227405311 == some .gt) = true := by decide +kernel
theorem inf32 (w : World) : cres .f64 9218868437227405312 .f32 w = 2139095040 := by
  have h : floatToFloatBits .f64 9218868437227405312 .f32 = some 2139095040 := by decide +kernel
  unfold cres; rw [h]
theorem ninf32 (w : World) : cres .f64 18442240474082181120 .f32 w = 4286578688 := by
  have h : floatToFloatBits .f64 18442240474082181120 .f32 = some 4286578688 := by decide +kernel
  unfold cres; rw [h]

end Go.Proofs.Yteikedgdegaeiaa
