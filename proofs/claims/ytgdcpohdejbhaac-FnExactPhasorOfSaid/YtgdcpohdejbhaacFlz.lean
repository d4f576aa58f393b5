/- Phasors: the walks, and the law. -/
import Derived.Test.YtgdcpohdejbhaacFlr
namespace Go.Proofs.Ytgdcpohdejbhaac
open Go.Proofs.Ytgdcpohdejbhaac.Flo Go.RowKit
attribute [local go_sem] call_from64 call_bits64
attribute [local go_sem] call_from32

def fV : Value → Nat
  | .float _ b => val b
  | _ => 0
theorem Qv_pos : 0 < Qv := by
  obtain ⟨A, hA⟩ : ∃ A, A = 1072 := ⟨_, rfl⟩
  rw [Qv_pow A hA]; exact Nat.two_pow_pos A
theorem Q8_eq : Q8 < 20 * Qv := by
  obtain ⟨A, hA⟩ : ∃ A, A = 1072 := ⟨_, rfl⟩
  rw [Qv_pow A hA, Q8_pow' (A + 3) (by omega), Nat.pow_add]
  have := Nat.two_pow_pos A
  omega
def sineO (a : Option Nat) : Option Nat := a.bind sineV
def sub0 (a : Option Nat) : Option Nat := vop .sub .f64 (some 0) a
theorem sub0_cls {r : Nat} {a : Option Nat} (h : cls .f64 r = a) (w : World) : cls .f64 (fres .sub .f64 0 r w) = sub0 a := by
  rw [fres_cls, h, cls_0]; rfl
theorem okn_sine {y : Nat} (h : smallD ((FloatKind.f64).decode y) = true) : Okn (sineV y) := (sineV_le h).okn (by decide)
theorem okn_sub0 {y : Nat} (h : smallD ((FloatKind.f64).decode y) = true) : Okn (sub0 (sineV y)) :=
  (vsub_le le_0 (sineV_le h) ⟨by decide, by decide⟩).okn (by decide)
/-- Both parts of the phasor, of what is left of turns and how many quarters were taken. -/
def phV (T : Option Nat × Int) : Option Nat × Option Nat :=
  if T.2 = 1 then (vnarrow (sub0 (sineO T.1)), vnarrow (sineO (vop .sub .f64 (some c025) T.1)))
  else if T.2 = 2 then (vnarrow (sub0 (sineO (vop .sub .f64 (some c025) T.1))), vnarrow (sub0 (sineO T.1)))
  else if T.2 = 3 then (vnarrow (sineO T.1), vnarrow (sub0 (sineO (vop .sub .f64 (some c025) T.1))))
  else (vnarrow (sineO (vop .sub .f64 (some c025) T.1)), vnarrow (sineO T.1))
theorem ph1 {f c : Nat} (h : vop .sub .f64 (some c025) (some f) = some c) : (phV (some f, 1)).2 = vnarrow (sineV c) := by
  show vnarrow (sineO (vop .sub .f64 (some c025) (some f))) = _
  rw [h]; rfl
theorem ph2a {f c : Nat} (h : vop .sub .f64 (some c025) (some f) = some c) : (phV (some f, 2)).1 = vnarrow (sub0 (sineV c)) := by
  show vnarrow (sub0 (sineO (vop .sub .f64 (some c025) (some f)))) = _
  rw [h]; rfl
theorem ph3 {f c : Nat} (h : vop .sub .f64 (some c025) (some f) = some c) : (phV (some f, 3)).2 = vnarrow (sub0 (sineV c)) := by
  show vnarrow (sub0 (sineO (vop .sub .f64 (some c025) (some f)))) = _
  rw [h]; rfl
theorem ph1a {f : Nat} : (phV (some f, 1)).1 = vnarrow (sub0 (sineV f)) := rfl
theorem ph2b {f : Nat} : (phV (some f, 2)).2 = vnarrow (sub0 (sineV f)) := rfl
theorem ph3a {f : Nat} : (phV (some f, 3)).1 = vnarrow (sineV f) := rfl
theorem ph0 {a : Option Nat} {q : Int} (h1 : (q == 1) = false) (h2 : (q == 2) = false) (h3 : (q == 3) = false) : phV (a, q) = (vnarrow (sineO (vop .sub .f64 (some c025) a)), vnarrow (sineO a)) := by
  unfold phV
  rw [if_neg (by simpa using h1), if_neg (by simpa using h2), if_neg (by simpa using h3)]
theorem ph0a {f c : Nat} {q : Int} (h1 : (q == 1) = false) (h2 : (q == 2) = false) (h3 : (q == 3) = false) (h : vop .sub .f64 (some c025) (some f) = some c) : (phV (some f, q)).1 = vnarrow (sineV c) := by
  rw [ph0 h1 h2 h3, h]; rfl
theorem ph0b {f : Nat} {q : Int} (h1 : (q == 1) = false) (h2 : (q == 2) = false) (h3 : (q == 3) = false) : (phV (some f, q)).2 = vnarrow (sineV f) := by
  rw [ph0 h1 h2 h3]; rfl

set_option maxHeartbeats 4000000 in
theorem ph_impl (y f0 : Nat) (T : Option Nat × Int) (hlt : y < 2 ^ 64) (hs : smallD ((FloatKind.f64).decode y) = true) (hr0 : restV y = some f0) (Hn : Hid (NN f0)) (hv : val f0 ≤ Q8) (HT : Hid (quarterF 20 (some f0) 0 = T)) (w : World) :
    Calls Try.prog 15 #[.float .f64 y] w fun e w' => ∃ re im, e = .returned (.complex .f32 re im) ∧ cls .f32 re = (phV T).1 ∧ cls .f32 im = (phV T).2 ∧ Drew w w' := by
  have hf := (small_fin hs).1
  have ha := abs_ge hf
  rw [hs] at ha
  unfold geB at ha
  have HS := Lib.hid hs
  have HR := Lib.hid hr0
  clear hs hr0
  go_enter Try.func15, Try.ntmps15
  go_wp2_with (first | (go_at_call 43; refine (fin_walk _ hlt _).mono ?_; rintro e w' ⟨rfl, rfl⟩) | (go_at_call 45; refine (abs_walk _ hlt _).mono ?_; rintro e w' ⟨rfl, rfl⟩) | (go_at_call 46; refine (rest_impl _ HS.out _).mono ?_; rintro e w' ⟨r0, rfl, hr0, n0, rfl⟩; obtain rfl : f0 = r0 := (cls_some (hr0.trans HR.out)).1.symm; clear hr0))
  go_loopw [3, 4] (fun fv qv w' => ∃ (f n nn : Nat) (q : Int), fv = .float .f64 f ∧ qv = .int .i64 q ∧ Hid (NN f) ∧ val f ≤ Q8 ∧ Hid (val f < n * Qv) ∧ 0 ≤ q ∧ q + n ≤ 20 ∧ Hid (quarterF n (some f) q = T) ∧ w' = w.drewN nn) (fun fv _ _ => fV fv)
  case atStart => exact ⟨f0, 20, _, 0, rfl, rfl, Hn, hv, Lib.hid (by have := Q8_eq; omega), by omega, by omega, HT, rfl⟩
  case round =>
    clear hf ha
    obtain ⟨f, n, nn, q, rfl, rfl, Hn, hv, Hf, hq0, hqn, HT, rfl⟩ := hrel
    cases hb : vge (some f) (some c025) with
    | true =>
      have hge : Qv ≤ val f := by have := ge025 Hn.out; rw [hb] at this; exact of_decide_eq_true this.symm
      obtain ⟨x', hx', hp', hval⟩ := q_sub Hn.out hge hv
      have hr : ∀ w2, fres .sub .f64 f 4598175219545276416 w2 = x' := fun w2 => fres_of hx' w2
      obtain ⟨n', rfl⟩ : ∃ n', n = n' + 1 := ⟨n - 1, by
        have := Hf.out
        have hn : n ≠ 0 := by rintro rfl; rw [Nat.zero_mul] at this; omega
        omega⟩
      have HT' := Lib.hid ((quarterF_go hb n' q).symm.trans HT.out)
      rw [hx'] at HT'
      have Hp' := Lib.hid hp'
      have Hval := Lib.hid hval
      have hv' : val x' ≤ Q8 := by omega
      have Hf' : Hid (val x' < n' * Qv) := Lib.hid (by have := Hf.out; rw [Nat.succ_mul] at this; omega)
      have Hge := Lib.hid hge
      have Hlt : Hid (val x' < val f) := Lib.hid (by have := Qv_pos; omega)
      have ht : ((FloatKind.f64).format.order f 4598175219545276416 == some .gt || (FloatKind.f64).format.order f 4598175219545276416 == some .eq) = true := hb
      have hq3 : q ≤ 20 := by omega
      clear hx' hp' hval hb HT hge
      go_wp2
      go_roundw
      case rel => exact ⟨x', n', _, q + 1, rfl, by go_num, Hp', hv', Hf', by omega, by omega, HT', rfl⟩
      case measure => show val x' < val f; exact Hlt.out
    | false =>
      have HT' := Lib.hid ((quarterF_stop hb n q).symm.trans HT.out)
      have ht : ((FloatKind.f64).format.order f 4598175219545276416 == some .gt || (FloatKind.f64).format.order f 4598175219545276416 == some .eq) = false := hb
      have hle := NN_le Hn.out hv
      obtain ⟨cb, hcb, hcle⟩ := vsub_le (k := .f64) (E := -2) (F := 1) le_c025 ⟨f, rfl, hle⟩ ⟨by decide, by decide⟩
      have hr : ∀ w2, fres .sub .f64 4598175219545276416 f w2 = cb := fun w2 => fres_of hcb w2
      have Hcb := Lib.hid hcb
      have Hsc := Lib.hid (small_of_le (hcle.mono (by decide)))
      have Hsf := Lib.hid (small_of_le (hle.mono (by decide)))
      clear hb HT hle hcb hcle Hf
      have hsplit : q = 1 ∨ q = 2 ∨ q = 3 ∨ ((q == 1) = false ∧ (q == 2) = false ∧ (q == 3) = false) := by
        by_cases g1 : q = 1
        · exact .inl g1
        · by_cases g2 : q = 2
          · exact .inr (.inl g2)
          · by_cases g3 : q = 3
            · exact .inr (.inr (.inl g3))
            · exact .inr (.inr (.inr ⟨by simpa using g1, by simpa using g2, by simpa using g3⟩))
      rcases hsplit with rfl | rfl | rfl | ⟨g1, g2, g3⟩
      · go_wp2_with (first | (go_at_call 47; (with_reducible refine (sine_impl cb Hsc.out _).mono ?_); rintro e w' ⟨rc, rfl, hc, n1, rfl⟩; have Hc := Lib.hid hc; clear hc) | (go_at_call 47; (with_reducible refine (sine_impl f Hsf.out _).mono ?_); rintro e w' ⟨rs, rfl, hs, n2, rfl⟩; have Hs := Lib.hid hs; clear hs) | go_in)
        go_ret
        refine ⟨_, _, rfl, ?_, ?_, Drew.mk _ _⟩
        · rw [← HT'.out, ph1a]; exact narrow_eq (sub0_cls Hs.out _) (okn_sub0 Hsf.out) _
        · rw [← HT'.out, ph1 Hcb.out]; exact narrow_eq Hc.out (okn_sine Hsc.out) _
      · go_wp2_with (first | (go_at_call 47; (with_reducible refine (sine_impl cb Hsc.out _).mono ?_); rintro e w' ⟨rc, rfl, hc, n1, rfl⟩; have Hc := Lib.hid hc; clear hc) | (go_at_call 47; (with_reducible refine (sine_impl f Hsf.out _).mono ?_); rintro e w' ⟨rs, rfl, hs, n2, rfl⟩; have Hs := Lib.hid hs; clear hs) | go_in)
        go_ret
        refine ⟨_, _, rfl, ?_, ?_, Drew.mk _ _⟩
        · rw [← HT'.out, ph2a Hcb.out]; exact narrow_eq (sub0_cls Hc.out _) (okn_sub0 Hsc.out) _
        · rw [← HT'.out, ph2b]; exact narrow_eq (sub0_cls Hs.out _) (okn_sub0 Hsf.out) _
      · go_wp2_with (first | (go_at_call 47; (with_reducible refine (sine_impl cb Hsc.out _).mono ?_); rintro e w' ⟨rc, rfl, hc, n1, rfl⟩; have Hc := Lib.hid hc; clear hc) | (go_at_call 47; (with_reducible refine (sine_impl f Hsf.out _).mono ?_); rintro e w' ⟨rs, rfl, hs, n2, rfl⟩; have Hs := Lib.hid hs; clear hs) | go_in)
        go_ret
        refine ⟨_, _, rfl, ?_, ?_, Drew.mk _ _⟩
        · rw [← HT'.out, ph3a]; exact narrow_eq Hs.out (okn_sine Hsf.out) _
        · rw [← HT'.out, ph3 Hcb.out]; exact narrow_eq (sub0_cls Hc.out _) (okn_sub0 Hsc.out) _
      · have G := Lib.hid (And.intro g1 (And.intro g2 g3))
        go_wp2_with (first | (go_at_call 47; (with_reducible refine (sine_impl cb Hsc.out _).mono ?_); rintro e w' ⟨rc, rfl, hc, n1, rfl⟩; have Hc := Lib.hid hc; clear hc) | (go_at_call 47; (with_reducible refine (sine_impl f Hsf.out _).mono ?_); rintro e w' ⟨rs, rfl, hs, n2, rfl⟩; have Hs := Lib.hid hs; clear hs) | go_in)
        go_ret
        refine ⟨_, _, rfl, ?_, ?_, Drew.mk _ _⟩
        · rw [← HT'.out, ph0a G.out.1 G.out.2.1 G.out.2.2 Hcb.out]; exact narrow_eq Hc.out (okn_sine Hsc.out) _
        · rw [← HT'.out, ph0b G.out.1 G.out.2.1 G.out.2.2]; exact narrow_eq Hs.out (okn_sine Hsf.out) _
end Go.Proofs.Ytgdcpohdejbhaac
