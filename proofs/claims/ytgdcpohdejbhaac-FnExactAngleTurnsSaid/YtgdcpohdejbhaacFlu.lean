/- The sine of turns: the law. -/
import Derived.Test.YtgdcpohdejbhaacFlt
namespace Go.Proofs.Ytgdcpohdejbhaac
open Go.Proofs.Ytgdcpohdejbhaac.Flo Go.RowKit

attribute [local go_sem] call_from64
def sineW (y : Nat) : Option Nat := if smallD ((FloatKind.f64).decode y) then sineV y else if finD ((FloatKind.f64).decode y) then some 0 else none
def sineA (a : Option Nat) : Option Nat := a.bind sineW
theorem sineA_of_not {b : Nat} (h : finD ((FloatKind.f64).decode b) = false) : sineA (cls .f64 b) = none := by
  have hs : smallD ((FloatKind.f64).decode b) = false := by
    cases hd : (FloatKind.f64).decode b with
    | number s m i => rw [hd] at h; cases h
    | infinity s => rfl
    | nan s t => rfl
  unfold sineA cls
  split
  · rfl
  · show sineW b = none
    unfold sineW; rw [hs, h]; rfl
theorem sineA_of_fin {b : Nat} (h : finD ((FloatKind.f64).decode b) = true) : sineA (cls .f64 b) = sineW b := by
  have : ((FloatKind.f64).decode b).isNaN = false := by
    cases hd : (FloatKind.f64).decode b with
    | number s m i => rfl
    | infinity s => rfl
    | nan s t => rw [hd] at h; cases h
  rw [cls_of_not this]; rfl
theorem cls_nan64 : cls .f64 9221120237041090561 = none := by decide +kernel

theorem sine_all (b : Nat) (w : World) :
    Calls Try.prog 69 #[.float .f64 b] w fun e w' => ∃ r, e = .returned (.float .f64 r) ∧ cls .f64 r = sineA (cls .f64 b) ∧ Drew w w' := by
  cases hf : finD ((FloatKind.f64).decode b) with
  | false =>
    have H := Lib.hid (sineA_of_not hf)
    have hss := fun w2 : World => sub_self_ne b w2
    rw [hf] at hss
    clear hf
    go_enter Try.func69, Try.ntmps69
    go_wp2
    go_ret
    exact ⟨_, rfl, cls_nan64.trans H.out.symm, Drew.mk _ _⟩
  | true =>
    cases hs : smallD ((FloatKind.f64).decode b) with
    | true =>
      refine (sine_spec b hs w).mono ?_
      rintro e w' ⟨r, he, hr, hd⟩
      exact ⟨r, he, by rw [sineA_of_fin hf, hr]; unfold sineW; rw [hs]; rfl, hd⟩
    | false =>
      have H : Hid (sineA (cls .f64 b) = some 0) := Lib.hid (by rw [sineA_of_fin hf]; unfold sineW; rw [hs, hf]; rfl)
      have hss := fun w2 : World => sub_self_ne b w2
      have hb := both_ge hf
      rw [hf] at hss
      rw [hs] at hb
      clear hf hs
      cases hg : geB .f64 b 4841369599423283200 with
      | true =>
        unfold geB at hg
        clear hb
        go_enter Try.func69, Try.ntmps69
        go_wp2
        go_ret
        exact ⟨_, rfl, cls_0.trans H.out.symm, Drew.mk _ _⟩
      | false =>
        rw [hg] at hb
        have hl : leB .f64 b 14064741636278059008 = true := by simpa using hb
        unfold geB at hg
        unfold leB at hl
        clear hb
        go_enter Try.func69, Try.ntmps69
        go_wp2
        go_ret
        exact ⟨_, rfl, cls_0.trans H.out.symm, Drew.mk _ _⟩

theorem sineA_okn (a : Option Nat) (ha : ∀ y, a = some y → cls .f64 y = some y) : Okn (sineA a) := by
  cases a with
  | none => exact .inl rfl
  | some y =>
    show Okn (sineW y)
    unfold sineW
    split
    · rename_i h; exact (sineV_le h).okn (by decide)
    · split
      · exact .inr ⟨0, by decide +kernel⟩
      · exact .inl rfl
def sineR (x : Nat) : Option Nat := vnarrow (sineA (vwide (cls .f32 x)))
theorem sineR_okn (x : Nat) : Okn (sineA (vwide (cls .f32 x))) := by
  refine sineA_okn _ fun y h => ?_
  have := cres_wide x default
  rw [h] at this
  obtain ⟨e, _⟩ := cls_some this
  rw [e] at this; exact this
theorem sineT_spec (x : Nat) (w : World) : Calls Try.prog 19 #[.float .f32 x] w fun e w' => ∃ r, e = .returned (.float .f32 r) ∧ cls .f32 r = sineR x ∧ Drew w w' := by
  go_enter Try.func19, Try.ntmps19
  go_wp2_with (first | (go_at_call 69; refine (sine_all _ _).mono ?_; rintro e w' ⟨r, rfl, hr, n, rfl⟩; rw [cres_wide] at hr; have Hr := Lib.hid hr; clear hr) | go_in)
  go_ret
  exact ⟨_, rfl, narrow_eq Hr.out (sineR_okn x) _, Drew.mk _ _⟩
attribute [local go_sem] call_from32
theorem cls_nan32 : cls .f32 2143289344 = none := by decide +kernel
theorem sineT_impl (x : Nat) (w : World) : Calls Try.prog 20 #[.float .f32 x] w fun e w' => ∃ r, e = .returned (.float .f32 r) ∧ cls .f32 r = sineR x ∧ Drew w w' := by
  cases hf : finD ((FloatKind.f32).decode x) with
  | false =>
    have H : Hid (sineR x = none) := Lib.hid (by
      unfold sineR
      rw [← cres_wide x default, sineA_of_not (by rw [fin_wide]; exact hf)]; rfl)
    go_enter Try.func20, Try.ntmps20
    go_wp2_with (first | (go_at_call 51; refine (finite_walk _ _).mono ?_; rintro e w' ⟨rfl, n, rfl⟩) | go_in)
    go_ret
    exact ⟨_, rfl, cls_nan32.trans H.out.symm, Drew.mk _ _⟩
  | true =>
    obtain ⟨y, hy⟩ : ∃ y, vwide (cls .f32 x) = some y := by
      have hn : ((FloatKind.f32).decode x).isNaN = false := by
        cases hd : (FloatKind.f32).decode x with
        | number s m i => rfl
        | infinity s => rfl
        | nan s t => rw [hd] at hf; cases hf
      rw [cls_of_not hn]; exact vwide_some hn
    have hc : ∀ w2, cres .f32 x .f64 w2 = y := fun w2 => (cls_some ((cres_wide x w2).trans hy)).1
    have hfy : finD ((FloatKind.f64).decode y) = true := by rw [← hc default, fin_wide]; exact hf
    have hlt : y < 2 ^ 64 := by rw [← hc default]; exact cres_lt64 _ _
    have ha := abs_ge hfy
    have hR : sineR x = vnarrow (sineW y) := by
      unfold sineR
      rw [← cres_wide x default, hc default, sineA_of_fin hfy]
    have hk : Okn (sineW y) := by
      have := sineR_okn x
      rw [← cres_wide x default, hc default, sineA_of_fin hfy] at this; exact this
    cases hs : smallD ((FloatKind.f64).decode y) with
    | true =>
      rw [hs] at ha
      unfold geB at ha
      have hW : sineW y = sineV y := by unfold sineW; rw [hs]; rfl
      rw [hW] at hR hk
      have HR := Lib.hid hR
      have HK := Lib.hid hk
      have HS := Lib.hid hs
      clear hy hR hk hW hfy hs
      go_enter Try.func20, Try.ntmps20
      go_wp2_with (first | (go_at_call 51; refine (finite_walk _ _).mono ?_; rintro e w' ⟨rfl, n, rfl⟩) | (go_at_call 45; refine (abs_walk _ hlt _).mono ?_; rintro e w' ⟨rfl, rfl⟩) | (go_at_call 47; refine (sine_impl _ HS.out _).mono ?_; rintro e w' ⟨r, rfl, hr, n2, rfl⟩; have Hr := Lib.hid hr; clear hr) | go_in)
      go_ret
      exact ⟨_, rfl, (narrow_eq Hr.out HK.out _).trans HR.out.symm, Drew.mk _ _⟩
    | false =>
      rw [hs] at ha
      unfold geB at ha
      have hW : sineW y = some 0 := by unfold sineW; rw [hs, hfy]; rfl
      rw [hW] at hR
      have HR := Lib.hid hR
      clear hy hR hk hW hfy hs
      go_enter Try.func20, Try.ntmps20
      go_wp2_with (first | (go_at_call 51; refine (finite_walk _ _).mono ?_; rintro e w' ⟨rfl, n, rfl⟩) | (go_at_call 45; refine (abs_walk _ hlt _).mono ?_; rintro e w' ⟨rfl, rfl⟩) | go_in)
      go_ret
      exact ⟨_, rfl, (show cls .f32 0 = vnarrow (some 0) by decide +kernel).trans HR.out.symm, Drew.mk _ _⟩
theorem sine_law (x : Nat) (w : World) (_ : (Lit.float .f32 x).wf = true) : Calls Try.prog 5 #[.float .f32 x] w fun e w' => e = .returned (.bool true) ∧ Below w.heap.size w w' := by
  go_enter Try.func5, Try.ntmps5
  go_wp2_with (first | (go_at_call 19; refine (sineT_spec _ _).mono ?_; rintro e w' ⟨r, rfl, hr, n, rfl⟩; have Hr := Lib.hid hr; clear hr) | (go_at_call 20; refine (sineT_impl _ _).mono ?_; rintro e w' ⟨r2, rfl, hr, n2, rfl⟩; have Hr2 := Lib.hid hr; clear hr) | (go_at_call 21; refine (sameFloat_true _ _ (by rw [cres_wide, cres_wide, Hr.out, Hr2.out]) _).mono ?_; rintro e w2 ⟨rfl, n3, rfl⟩) | go_in)
  go_ret
  exact ⟨rfl, (Drew.mk _ _).below⟩
end Go.Proofs.Ytgdcpohdejbhaac
