/- Phasors: the model's walk, and the law. -/
import Derived.Test.YtgdcpohdejbhaacFlz
namespace Go.Proofs.Ytgdcpohdejbhaac
open Go.Proofs.Ytgdcpohdejbhaac.Flo Go.RowKit
attribute [local go_sem] call_from64 call_bits64
attribute [local go_sem] call_from32

section
variable {P : Program} (w : World)
theorem run_f2f (s k : FloatKind) (b : Nat) : (Conv.floatToFloat s b k).run P w = .ok (.float k (cres s b k w)) (w.drewN (ccnt s b k)) := by
  cases h : floatToFloatBits s b k with
  | some r => rw [run_floatToFloat w h]; simp [cres, ccnt, h, World.drewN_zero]
  | none =>
    unfold floatToFloatBits at h
    split at h
    · cases h
    · rename_i ne
      have hn : floatToFloatBits s b k = none := by unfold floatToFloatBits; rw [if_neg ne]; exact h
      split at h
      · rename_i ng fr he
        have e : cres s b k w = (Question.nanConv k b).cut (w.tape w.drawn (.nanConv k b)) := by
          unfold cres; rw [hn]; simp only [he, Ieee.Datum.isNaN, if_true]; cases k <;> rfl
        rw [e]
        simp only [ccnt, hn, Option.isSome_none, Bool.false_eq_true, if_false, ← World.drew_is_drewN]
        simp [Conv.floatToFloat, ne, he, Question.forced]
      · cases h
      · rename_i ng m e0 he
        split at h
        · rename_i ho
          have e : cres s b k w = (Question.floatToFloat b).cut (w.tape w.drawn (.floatToFloat b)) := by
            unfold cres; rw [hn]; simp only [he, Ieee.Datum.isNaN]; rfl
          rw [e]
          simp only [ccnt, hn, Option.isSome_none, Bool.false_eq_true, if_false, ← World.drew_is_drewN]
          simp [Conv.floatToFloat, ne, he, ho, Question.forced]
        · cases h
@[go_sem] theorem run_cconv (src dst : TypeId) (s k : FloatKind) (a b : Nat) (hs : (P.underlying src).isSome = true) (hd : P.underlying dst = some (.complex k)) :
    (convert src dst (.complex s a b)).run P w = .ok (.complex k (cres s a k w) (cres s b k (w.drewN (ccnt s a k)))) (w.drewN (ccnt s a k + ccnt s b k)) := by
  obtain ⟨u, hs'⟩ := Option.isSome_iff_exists.1 hs
  cases u <;> simp [convert, run_underlying hs', run_underlying hd, Conv.complexToComplex, run_f2f]
end

theorem sameComplex_true (a b c d : Nat) (h1 : cls .f64 a = cls .f64 c) (h2 : cls .f64 b = cls .f64 d) (w : World) :
    Calls Try.prog 16 #[.complex .f64 a b, .complex .f64 c d] w fun e w' => e = .returned (.bool true) ∧ Drew w w' := by
  have H1 := Lib.hid h1
  have H2 := Lib.hid h2
  clear h1 h2
  go_enter Try.func16, Try.ntmps16
  go_wp2_with (first | (go_at_call 21; ((with_reducible refine (sameFloat_true a c H1.out _).mono ?_); rintro e w2 ⟨rfl, n, rfl⟩)) | (go_at_call 21; ((with_reducible refine (sameFloat_true b d H2.out _).mono ?_); rintro e w2 ⟨rfl, n2, rfl⟩)))
  go_ret
  exact ⟨rfl, Drew.mk _ _⟩

set_option maxHeartbeats 4000000 in
theorem ph_spec_f (y f0 : Nat) (T : Option Nat × Int) (hs : smallD ((FloatKind.f64).decode y) = true) (H0 : Hid (vlt (restF y) (some 0) = false)) (hr0 : restV y = some f0) (Hn : Hid (NN f0)) (hv : val f0 ≤ Q8) (HT : Hid (quarterF 20 (some f0) 0 = T)) (w : World) :
    Calls Try.prog 42 #[.float .f64 y] w fun e w' => ∃ re im, e = .returned (.complex .f32 re im) ∧ cls .f32 re = (phV T).1 ∧ cls .f32 im = (phV T).2 ∧ Drew w w' := by
  have hcv := fun w2 : World => run_convert_float_int (P := Try.prog) w2 22 2 .f64 .i64 y (truncI y) (by kernel_rfl) Try.underlying2 (trunc_small hs)
  have hss := fun w2 : World => sub_self_ne y w2
  rw [(small_fin hs).1] at hss
  have hge := (small_tests hs).1
  have hle := (small_tests hs).2
  unfold geB at hge
  unfold leB at hle
  have hfx : ∀ w2, fres .sub .f64 y (floatOfInt .f64 (truncI y)) w2 = f0 := fun w2 => (cls_some ((restF_cls hs w2).trans ((rest_f H0.out).symm.trans hr0))).1
  have hlt := fun w2 : World => (order_lt (restF_cls hs w2) 0 cls_0).trans H0.out
  have hlt2 := hlt default
  rw [hfx] at hlt2
  clear hlt
  clear hs hr0
  go_enter Try.func42, Try.ntmps42
  go_wp2
  go_loopw [3, 4] (fun fv qv w' => ∃ (f n nn : Nat) (q : Int), fv = .float .f64 f ∧ qv = .int .i64 q ∧ Hid (NN f) ∧ val f ≤ Q8 ∧ Hid (val f < n * Qv) ∧ 0 ≤ q ∧ q + n ≤ 20 ∧ Hid (quarterF n (some f) q = T) ∧ w' = w.drewN nn) (fun fv _ _ => fV fv)
  case atStart => exact ⟨f0, 20, _, 0, rfl, rfl, Hn, hv, Lib.hid (by have := Q8_eq; omega), by omega, by omega, HT, rfl⟩
  case round =>
    clear hcv hss hge hle hfx hlt2
    obtain ⟨f, n, nn, q, rfl, rfl, Hn, hv, Hf, hq0, hqn, HT, rfl⟩ := hrel
    cases hb : vge (some f) (some c025) with
    | true =>
      have hge : Qv ≤ val f := by have := ge025 Hn.out; rw [hb] at this; exact of_decide_eq_true this.symm
      obtain ⟨x', hx', hp', hval⟩ := q_sub Hn.out hge hv
      have hr : ∀ w2, fres .sub .f64 f 4598175219545276416 w2 = x' := fun w2 => fres_of hx' w2
      obtain ⟨n', rfl⟩ : ∃ n', n = n' + 1 := ⟨n - 1, by
        have := Hf.out
        have hn : n ≠ 0 := by rintro rfl; rw [Nat.zero_mul] at this; omega
        omega⟩
      have HT' := Lib.hid ((quarterF_go hb n' q).symm.trans HT.out)
      rw [hx'] at HT'
      have Hp' := Lib.hid hp'
      have Hval := Lib.hid hval
      have hv' : val x' ≤ Q8 := by omega
      have Hf' : Hid (val x' < n' * Qv) := Lib.hid (by have := Hf.out; rw [Nat.succ_mul] at this; omega)
      have Hge := Lib.hid hge
      have Hlt : Hid (val x' < val f) := Lib.hid (by have := Qv_pos; omega)
      have ht : ((FloatKind.f64).format.order f 4598175219545276416 == some .gt || (FloatKind.f64).format.order f 4598175219545276416 == some .eq) = true := hb
      have hq3 : q ≤ 20 := by omega
      clear hx' hp' hval hb HT hge
      go_wp2
      go_roundw
      case rel => exact ⟨x', n', _, q + 1, rfl, by go_num, Hp', hv', Hf', by omega, by omega, HT', rfl⟩
      case measure => show val x' < val f; exact Hlt.out
    | false =>
      have HT' := Lib.hid ((quarterF_stop hb n q).symm.trans HT.out)
      have ht : ((FloatKind.f64).format.order f 4598175219545276416 == some .gt || (FloatKind.f64).format.order f 4598175219545276416 == some .eq) = false := hb
      have hle := NN_le Hn.out hv
      obtain ⟨cb, hcb, hcle⟩ := vsub_le (k := .f64) (E := -2) (F := 1) le_c025 ⟨f, rfl, hle⟩ ⟨by decide, by decide⟩
      have hr : ∀ w2, fres .sub .f64 4598175219545276416 f w2 = cb := fun w2 => fres_of hcb w2
      have Hcb := Lib.hid hcb
      have Hsc := Lib.hid (small_of_le (hcle.mono (by decide)))
      have Hsf := Lib.hid (small_of_le (hle.mono (by decide)))
      clear hb HT hle hcb hcle Hf
      have hsplit : q = 1 ∨ q = 2 ∨ q = 3 ∨ ((q == 1) = false ∧ (q == 2) = false ∧ (q == 3) = false) := by
        by_cases g1 : q = 1
        · exact .inl g1
        · by_cases g2 : q = 2
          · exact .inr (.inl g2)
          · by_cases g3 : q = 3
            · exact .inr (.inr (.inl g3))
            · exact .inr (.inr (.inr ⟨by simpa using g1, by simpa using g2, by simpa using g3⟩))
      rcases hsplit with rfl | rfl | rfl | ⟨g1, g2, g3⟩
      · go_wp2_with (first | (go_at_call 69; (with_reducible refine (sine_spec cb Hsc.out _).mono ?_); rintro e w' ⟨rc, rfl, hc, n1, rfl⟩; have Hc := Lib.hid hc; clear hc) | (go_at_call 69; (with_reducible refine (sine_spec f Hsf.out _).mono ?_); rintro e w' ⟨rs, rfl, hs, n2, rfl⟩; have Hs := Lib.hid hs; clear hs) | go_in)
        go_ret
        refine ⟨_, _, rfl, ?_, ?_, Drew.mk _ _⟩
        · rw [← HT'.out, ph1a]; exact narrow_eq (sub0_cls Hs.out _) (okn_sub0 Hsf.out) _
        · rw [← HT'.out, ph1 Hcb.out]; exact narrow_eq Hc.out (okn_sine Hsc.out) _
      · go_wp2_with (first | (go_at_call 69; (with_reducible refine (sine_spec cb Hsc.out _).mono ?_); rintro e w' ⟨rc, rfl, hc, n1, rfl⟩; have Hc := Lib.hid hc; clear hc) | (go_at_call 69; (with_reducible refine (sine_spec f Hsf.out _).mono ?_); rintro e w' ⟨rs, rfl, hs, n2, rfl⟩; have Hs := Lib.hid hs; clear hs) | go_in)
        go_ret
        refine ⟨_, _, rfl, ?_, ?_, Drew.mk _ _⟩
        · rw [← HT'.out, ph2a Hcb.out]; exact narrow_eq (sub0_cls Hc.out _) (okn_sub0 Hsc.out) _
        · rw [← HT'.out, ph2b]; exact narrow_eq (sub0_cls Hs.out _) (okn_sub0 Hsf.out) _
      · go_wp2_with (first | (go_at_call 69; (with_reducible refine (sine_spec cb Hsc.out _).mono ?_); rintro e w' ⟨rc, rfl, hc, n1, rfl⟩; have Hc := Lib.hid hc; clear hc) | (go_at_call 69; (with_reducible refine (sine_spec f Hsf.out _).mono ?_); rintro e w' ⟨rs, rfl, hs, n2, rfl⟩; have Hs := Lib.hid hs; clear hs) | go_in)
        go_ret
        refine ⟨_, _, rfl, ?_, ?_, Drew.mk _ _⟩
        · rw [← HT'.out, ph3a]; exact narrow_eq Hs.out (okn_sine Hsf.out) _
        · rw [← HT'.out, ph3 Hcb.out]; exact narrow_eq (sub0_cls Hc.out _) (okn_sub0 Hsc.out) _
      · have G := Lib.hid (And.intro g1 (And.intro g2 g3))
        go_wp2_with (first | (go_at_call 69; (with_reducible refine (sine_spec cb Hsc.out _).mono ?_); rintro e w' ⟨rc, rfl, hc, n1, rfl⟩; have Hc := Lib.hid hc; clear hc) | (go_at_call 69; (with_reducible refine (sine_spec f Hsf.out _).mono ?_); rintro e w' ⟨rs, rfl, hs, n2, rfl⟩; have Hs := Lib.hid hs; clear hs) | go_in)
        go_ret
        refine ⟨_, _, rfl, ?_, ?_, Drew.mk _ _⟩
        · rw [← HT'.out, ph0a G.out.1 G.out.2.1 G.out.2.2 Hcb.out]; exact narrow_eq Hc.out (okn_sine Hsc.out) _
        · rw [← HT'.out, ph0b G.out.1 G.out.2.1 G.out.2.2]; exact narrow_eq Hs.out (okn_sine Hsf.out) _

set_option maxHeartbeats 4000000 in
theorem ph_spec_t (y f0 : Nat) (T : Option Nat × Int) (hs : smallD ((FloatKind.f64).decode y) = true) (H0 : Hid (vlt (restF y) (some 0) = true)) (hr0 : restV y = some f0) (Hn : Hid (NN f0)) (hv : val f0 ≤ Q8) (HT : Hid (quarterF 20 (some f0) 0 = T)) (w : World) :
    Calls Try.prog 42 #[.float .f64 y] w fun e w' => ∃ re im, e = .returned (.complex .f32 re im) ∧ cls .f32 re = (phV T).1 ∧ cls .f32 im = (phV T).2 ∧ Drew w w' := by
  have hcv := fun w2 : World => run_convert_float_int (P := Try.prog) w2 22 2 .f64 .i64 y (truncI y) (by kernel_rfl) Try.underlying2 (trunc_small hs)
  have hss := fun w2 : World => sub_self_ne y w2
  rw [(small_fin hs).1] at hss
  have hge := (small_tests hs).1
  have hle := (small_tests hs).2
  unfold geB at hge
  unfold leB at hle
  obtain ⟨r1, hr1⟩ : ∃ r1, restF y = some r1 := by obtain ⟨r1, h1, _⟩ := restF_le hs; exact ⟨r1, h1⟩
  have hfx1 : ∀ w2, fres .sub .f64 y (floatOfInt .f64 (truncI y)) w2 = r1 := fun w2 => (cls_some ((restF_cls hs w2).trans hr1)).1
  have hfx : ∀ w2, fres .add .f64 r1 4607182418800017408 w2 = f0 := fun w2 => by
    have h := add1_cls (restF_cls hs default) w2
    rw [hfx1] at h
    exact (cls_some (h.trans ((rest_t H0.out).symm.trans hr0))).1
  have hlt := fun w2 : World => (order_lt (restF_cls hs w2) 0 cls_0).trans H0.out
  have hlt2 := hlt default
  rw [hfx1] at hlt2
  clear hlt hr1
  clear hs hr0
  go_enter Try.func42, Try.ntmps42
  go_wp2
  go_loopw [3, 4] (fun fv qv w' => ∃ (f n nn : Nat) (q : Int), fv = .float .f64 f ∧ qv = .int .i64 q ∧ Hid (NN f) ∧ val f ≤ Q8 ∧ Hid (val f < n * Qv) ∧ 0 ≤ q ∧ q + n ≤ 20 ∧ Hid (quarterF n (some f) q = T) ∧ w' = w.drewN nn) (fun fv _ _ => fV fv)
  case atStart => exact ⟨f0, 20, _, 0, rfl, rfl, Hn, hv, Lib.hid (by have := Q8_eq; omega), by omega, by omega, HT, rfl⟩
  case round =>
    clear hcv hss hge hle hfx hlt2 hfx1
    obtain ⟨f, n, nn, q, rfl, rfl, Hn, hv, Hf, hq0, hqn, HT, rfl⟩ := hrel
    cases hb : vge (some f) (some c025) with
    | true =>
      have hge : Qv ≤ val f := by have := ge025 Hn.out; rw [hb] at this; exact of_decide_eq_true this.symm
      obtain ⟨x', hx', hp', hval⟩ := q_sub Hn.out hge hv
      have hr : ∀ w2, fres .sub .f64 f 4598175219545276416 w2 = x' := fun w2 => fres_of hx' w2
      obtain ⟨n', rfl⟩ : ∃ n', n = n' + 1 := ⟨n - 1, by
        have := Hf.out
        have hn : n ≠ 0 := by rintro rfl; rw [Nat.zero_mul] at this; omega
        omega⟩
      have HT' := Lib.hid ((quarterF_go hb n' q).symm.trans HT.out)
      rw [hx'] at HT'
      have Hp' := Lib.hid hp'
      have Hval := Lib.hid hval
      have hv' : val x' ≤ Q8 := by omega
      have Hf' : Hid (val x' < n' * Qv) := Lib.hid (by have := Hf.out; rw [Nat.succ_mul] at this; omega)
      have Hge := Lib.hid hge
      have Hlt : Hid (val x' < val f) := Lib.hid (by have := Qv_pos; omega)
      have ht : ((FloatKind.f64).format.order f 4598175219545276416 == some .gt || (FloatKind.f64).format.order f 4598175219545276416 == some .eq) = true := hb
      have hq3 : q ≤ 20 := by omega
      clear hx' hp' hval hb HT hge
      go_wp2
      go_roundw
      case rel => exact ⟨x', n', _, q + 1, rfl, by go_num, Hp', hv', Hf', by omega, by omega, HT', rfl⟩
      case measure => show val x' < val f; exact Hlt.out
    | false =>
      have HT' := Lib.hid ((quarterF_stop hb n q).symm.trans HT.out)
      have ht : ((FloatKind.f64).format.order f 4598175219545276416 == some .gt || (FloatKind.f64).format.order f 4598175219545276416 == some .eq) = false := hb
      have hle := NN_le Hn.out hv
      obtain ⟨cb, hcb, hcle⟩ := vsub_le (k := .f64) (E := -2) (F := 1) le_c025 ⟨f, rfl, hle⟩ ⟨by decide, by decide⟩
      have hr : ∀ w2, fres .sub .f64 4598175219545276416 f w2 = cb := fun w2 => fres_of hcb w2
      have Hcb := Lib.hid hcb
      have Hsc := Lib.hid (small_of_le (hcle.mono (by decide)))
      have Hsf := Lib.hid (small_of_le (hle.mono (by decide)))
      clear hb HT hle hcb hcle Hf
      have hsplit : q = 1 ∨ q = 2 ∨ q = 3 ∨ ((q == 1) = false ∧ (q == 2) = false ∧ (q == 3) = false) := by
        by_cases g1 : q = 1
        · exact .inl g1
        · by_cases g2 : q = 2
          · exact .inr (.inl g2)
          · by_cases g3 : q = 3
            · exact .inr (.inr (.inl g3))
            · exact .inr (.inr (.inr ⟨by simpa using g1, by simpa using g2, by simpa using g3⟩))
      rcases hsplit with rfl | rfl | rfl | ⟨g1, g2, g3⟩
      · go_wp2_with (first | (go_at_call 69; (with_reducible refine (sine_spec cb Hsc.out _).mono ?_); rintro e w' ⟨rc, rfl, hc, n1, rfl⟩; have Hc := Lib.hid hc; clear hc) | (go_at_call 69; (with_reducible refine (sine_spec f Hsf.out _).mono ?_); rintro e w' ⟨rs, rfl, hs, n2, rfl⟩; have Hs := Lib.hid hs; clear hs) | go_in)
        go_ret
        refine ⟨_, _, rfl, ?_, ?_, Drew.mk _ _⟩
        · rw [← HT'.out, ph1a]; exact narrow_eq (sub0_cls Hs.out _) (okn_sub0 Hsf.out) _
        · rw [← HT'.out, ph1 Hcb.out]; exact narrow_eq Hc.out (okn_sine Hsc.out) _
      · go_wp2_with (first | (go_at_call 69; (with_reducible refine (sine_spec cb Hsc.out _).mono ?_); rintro e w' ⟨rc, rfl, hc, n1, rfl⟩; have Hc := Lib.hid hc; clear hc) | (go_at_call 69; (with_reducible refine (sine_spec f Hsf.out _).mono ?_); rintro e w' ⟨rs, rfl, hs, n2, rfl⟩; have Hs := Lib.hid hs; clear hs) | go_in)
        go_ret
        refine ⟨_, _, rfl, ?_, ?_, Drew.mk _ _⟩
        · rw [← HT'.out, ph2a Hcb.out]; exact narrow_eq (sub0_cls Hc.out _) (okn_sub0 Hsc.out) _
        · rw [← HT'.out, ph2b]; exact narrow_eq (sub0_cls Hs.out _) (okn_sub0 Hsf.out) _
      · go_wp2_with (first | (go_at_call 69; (with_reducible refine (sine_spec cb Hsc.out _).mono ?_); rintro e w' ⟨rc, rfl, hc, n1, rfl⟩; have Hc := Lib.hid hc; clear hc) | (go_at_call 69; (with_reducible refine (sine_spec f Hsf.out _).mono ?_); rintro e w' ⟨rs, rfl, hs, n2, rfl⟩; have Hs := Lib.hid hs; clear hs) | go_in)
        go_ret
        refine ⟨_, _, rfl, ?_, ?_, Drew.mk _ _⟩
        · rw [← HT'.out, ph3a]; exact narrow_eq Hs.out (okn_sine Hsf.out) _
        · rw [← HT'.out, ph3 Hcb.out]; exact narrow_eq (sub0_cls Hc.out _) (okn_sub0 Hsc.out) _
      · have G := Lib.hid (And.intro g1 (And.intro g2 g3))
        go_wp2_with (first | (go_at_call 69; (with_reducible refine (sine_spec cb Hsc.out _).mono ?_); rintro e w' ⟨rc, rfl, hc, n1, rfl⟩; have Hc := Lib.hid hc; clear hc) | (go_at_call 69; (with_reducible refine (sine_spec f Hsf.out _).mono ?_); rintro e w' ⟨rs, rfl, hs, n2, rfl⟩; have Hs := Lib.hid hs; clear hs) | go_in)
        go_ret
        refine ⟨_, _, rfl, ?_, ?_, Drew.mk _ _⟩
        · rw [← HT'.out, ph0a G.out.1 G.out.2.1 G.out.2.2 Hcb.out]; exact narrow_eq Hc.out (okn_sine Hsc.out) _
        · rw [← HT'.out, ph0b G.out.1 G.out.2.1 G.out.2.2]; exact narrow_eq Hs.out (okn_sine Hsf.out) _


def phR (y : Nat) : Option Nat × Option Nat :=
  if smallD ((FloatKind.f64).decode y) then phV (quarterF 20 (restV y) 0) else if finD ((FloatKind.f64).decode y) then (some 1065353216, some 0) else (none, none)
theorem ph_small (y : Nat) (hs : smallD ((FloatKind.f64).decode y) = true) : phR y = phV (quarterF 20 (restV y) 0) := by unfold phR; rw [if_pos hs]
theorem ph_big {y : Nat} (hs : smallD ((FloatKind.f64).decode y) = false) (hf : finD ((FloatKind.f64).decode y) = true) : phR y = (some 1065353216, some 0) := by
  unfold phR; rw [hs, hf]; rfl
theorem ph_not {y : Nat} (hf : finD ((FloatKind.f64).decode y) = false) : phR y = (none, none) := by
  have hs : smallD ((FloatKind.f64).decode y) = false := by
    cases h : smallD ((FloatKind.f64).decode y) with
    | false => rfl
    | true => rw [(small_fin h).1] at hf; cases hf
  unfold phR; rw [hs, hf]; rfl
theorem one32 : cls .f32 1065353216 = some 1065353216 := by decide +kernel
theorem zero32 : cls .f32 0 = some 0 := by decide +kernel

theorem phS (y : Nat) (w : World) :
    Calls Try.prog 42 #[.float .f64 y] w fun e w' => ∃ re im, e = .returned (.complex .f32 re im) ∧ cls .f32 re = (phR y).1 ∧ cls .f32 im = (phR y).2 ∧ Drew w w' := by
  cases hf : finD ((FloatKind.f64).decode y) with
  | false =>
    have H := Lib.hid (ph_not hf)
    have hss := fun w2 : World => sub_self_ne y w2
    rw [hf] at hss
    clear hf
    go_enter Try.func42, Try.ntmps42
    go_wp2
    go_ret
    exact ⟨_, _, rfl, by rw [H.out]; exact cls_nan32, by rw [H.out]; exact cls_nan32, Drew.mk _ _⟩
  | true =>
    cases hs : smallD ((FloatKind.f64).decode y) with
    | true =>
      obtain ⟨f0, hr0, hn, hv⟩ := rest_NN hs
      rw [ph_small y hs, hr0]
      cases hb : vlt (restF y) (some 0) with
      | false => exact ph_spec_f y f0 _ hs (Lib.hid hb) hr0 (Lib.hid hn) hv (Lib.hid rfl) w
      | true => exact ph_spec_t y f0 _ hs (Lib.hid hb) hr0 (Lib.hid hn) hv (Lib.hid rfl) w
    | false =>
      have H := Lib.hid (ph_big hs hf)
      have hss := fun w2 : World => sub_self_ne y w2
      have hb := both_ge hf
      rw [hf] at hss
      rw [hs] at hb
      clear hf hs
      cases hg : geB .f64 y 4841369599423283200 with
      | true =>
        unfold geB at hg
        clear hb
        go_enter Try.func42, Try.ntmps42
        go_wp2
        go_ret
        exact ⟨_, _, rfl, by rw [H.out]; exact one32, by rw [H.out]; exact zero32, Drew.mk _ _⟩
      | false =>
        rw [hg] at hb
        have hl : leB .f64 y 14064741636278059008 = true := by simpa using hb
        unfold geB at hg
        unfold leB at hl
        clear hb
        go_enter Try.func42, Try.ntmps42
        go_wp2
        go_ret
        exact ⟨_, _, rfl, by rw [H.out]; exact one32, by rw [H.out]; exact zero32, Drew.mk _ _⟩
theorem phI (y : Nat) (hlt : y < 2 ^ 64) (w : World) :
    Calls Try.prog 15 #[.float .f64 y] w fun e w' => ∃ re im, e = .returned (.complex .f32 re im) ∧ cls .f32 re = (phR y).1 ∧ cls .f32 im = (phR y).2 ∧ Drew w w' := by
  cases hf : finD ((FloatKind.f64).decode y) with
  | false =>
    have H := Lib.hid (ph_not hf)
    go_enter Try.func15, Try.ntmps15
    go_wp2_with (first | (go_at_call 43; refine (fin_walk _ hlt _).mono ?_; rintro e w' ⟨rfl, rfl⟩) | go_in)
    go_ret
    exact ⟨_, _, rfl, by rw [H.out]; exact cls_nan32, by rw [H.out]; exact cls_nan32, Drew.refl _⟩
  | true =>
    cases hs : smallD ((FloatKind.f64).decode y) with
    | true =>
      obtain ⟨f0, hr0, hn, hv⟩ := rest_NN hs
      rw [ph_small y hs, hr0]
      exact ph_impl y f0 _ hlt hs hr0 (Lib.hid hn) hv (Lib.hid rfl) w
    | false =>
      have H := Lib.hid (ph_big hs hf)
      have ha := abs_ge hf
      rw [hs] at ha
      unfold geB at ha
      clear hs
      go_enter Try.func15, Try.ntmps15
      go_wp2_with (first | (go_at_call 43; refine (fin_walk _ hlt _).mono ?_; rintro e w' ⟨rfl, rfl⟩) | (go_at_call 45; refine (abs_walk _ hlt _).mono ?_; rintro e w' ⟨rfl, rfl⟩) | go_in)
      go_ret
      exact ⟨_, _, rfl, by rw [H.out]; exact one32, by rw [H.out]; exact zero32, Drew.refl _⟩
theorem ph_law (y : Nat) (w : World) (hw : (Lit.float .f64 y).wf = true) : Calls Try.prog 3 #[.float .f64 y] w fun e w' => e = .returned (.bool true) ∧ Below w.heap.size w w' := by
  have hlt : y < 2 ^ 64 := by
    have h2 : y < 18446744073709551616 := by simpa [Lit.wf] using hw
    exact h2
  clear hw
  go_enter Try.func3, Try.ntmps3
  go_wp2_with (first | (go_at_call 42; refine (phS y _).mono ?_; rintro e w' ⟨r1, i1, rfl, hr1, hi1, n, rfl⟩; have Hr1 := Lib.hid hr1; have Hi1 := Lib.hid hi1; clear hr1 hi1) | (go_at_call 15; refine (phI y hlt _).mono ?_; rintro e w' ⟨r2, i2, rfl, hr2, hi2, n2, rfl⟩; have Hr2 := Lib.hid hr2; have Hi2 := Lib.hid hi2; clear hr2 hi2) | (go_at_call 16; refine (sameComplex_true _ _ _ _ (by rw [cres_wide, cres_wide, Hr1.out, Hr2.out]) (by rw [cres_wide, cres_wide, Hi1.out, Hi2.out]) _).mono ?_; rintro e w2 ⟨rfl, n3, rfl⟩) | go_in)
  go_ret
  exact ⟨rfl, (Drew.mk _ _).below⟩
end Go.Proofs.Ytgdcpohdejbhaac
