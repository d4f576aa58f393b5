/- Angles: the law. -/
import Derived.Test.YtgdcpohdejbhaacFli
namespace Go.Proofs.Ytgdcpohdejbhaac
open Go.Proofs.Ytgdcpohdejbhaac.Flo Go.RowKit
attribute [local go_sem] call_from64 call_bits64
attribute [local go_sem] call_from32

/-- The angle of a point, by both coordinates' bits: a not-a-number, zero, or as told. -/
structure AngSame (y x : Nat) (V : Option Nat) : Prop where
  impl : ∀ w : World, Calls Try.prog 23 #[.float .f32 y, .float .f32 x] w fun e w' => ∃ r, e = .returned (.float .f32 r) ∧ cls .f32 r = V ∧ Drew w w'
  spec : ∀ w : World, Calls Try.prog 22 #[.float .f32 y, .float .f32 x] w fun e w' => ∃ r, e = .returned (.float .f32 r) ∧ cls .f32 r = V ∧ Drew w w'

theorem sub_self_wide (x : Nat) (w2 w3 : World) : ((FloatKind.f64).format.order (fres .sub .f64 (cres .f32 x .f64 w2) (cres .f32 x .f64 w2) w3) 0 != some .eq) = !finD ((FloatKind.f32).decode x) := by
  rw [sub_self_ne, fin_wide]

theorem ang_not (y x : Nat) (h : finD ((FloatKind.f32).decode y) = false ∨ finD ((FloatKind.f32).decode x) = false) : AngSame y x none := by
  have hsy := sub_self_wide y
  have hsx := sub_self_wide x
  cases hy : finD ((FloatKind.f32).decode y) <;> cases hx : finD ((FloatKind.f32).decode x)
  all_goals
    rw [hy] at hsy
    rw [hx] at hsx
  case true.true => rw [hy, hx] at h; exact absurd h (by simp)
  all_goals
    clear h
    constructor
    · intro w
      go_enter Try.func23, Try.ntmps23
      go_wp2_with (first | (go_at_call 51; ((with_reducible refine (finite_walk x _).mono ?_); rintro e w' ⟨rfl, n1, rfl⟩)) | (go_at_call 51; ((with_reducible refine (finite_walk y _).mono ?_); rintro e w' ⟨rfl, n2, rfl⟩)) | go_in)
      go_ret
      exact ⟨_, rfl, cls_nan32, Drew.mk _ _⟩
    · intro w
      go_enter Try.func22, Try.ntmps22
      go_wp2
      go_ret
      exact ⟨_, rfl, narrow_eq cls_nan64' (.inl rfl) _, Drew.mk _ _⟩

theorem sgn_fin {d : Ieee.Datum} (h : finD d = true) : ∃ s, sgn d = some s := by
  cases d with
  | number s m i => exact ⟨_, rfl⟩
  | infinity s => cases h
  | nan s t => cases h

theorem ang_zero (y x : Nat) (hfy : finD ((FloatKind.f32).decode y) = true) (hfx : finD ((FloatKind.f32).decode x) = true) (hy : sgn ((FloatKind.f32).decode y) = some .eq) (hx : sgn ((FloatKind.f32).decode x) = some .eq) : AngSame y x (some 0) := by
  have hsy := sub_self_wide y
  have hsx := sub_self_wide x
  rw [hfy] at hsy
  rw [hfx] at hsx
  have h1 := (order_zero .f32 y).trans hy
  have h2 := (order_zero .f32 x).trans hx
  have h3 := fun w2 : World => ((order_zero .f64 (cres .f32 y .f64 w2)).trans (wide_sgn y w2)).trans hy
  have h4 := fun w2 : World => ((order_zero .f64 (cres .f32 x .f64 w2)).trans (wide_sgn x w2)).trans hx
  clear hy hx
  constructor
  · intro w
    go_enter Try.func23, Try.ntmps23
    go_wp2_with (first | (go_at_call 51; ((with_reducible refine (finite_walk x _).mono ?_); rintro e w' ⟨rfl, n1, rfl⟩)) | (go_at_call 51; ((with_reducible refine (finite_walk y _).mono ?_); rintro e w' ⟨rfl, n2, rfl⟩)) | go_in)
    go_ret
    exact ⟨_, rfl, by decide +kernel, Drew.mk _ _⟩
  · intro w
    go_enter Try.func22, Try.ntmps22
    go_wp2
    go_ret
    exact ⟨_, rfl, (narrow_eq cls_0 (.inr ⟨0, by decide +kernel⟩) _).trans (by decide +kernel), Drew.mk _ _⟩

theorem fin_cres {x : Nat} (h : finD ((FloatKind.f32).decode x) = true) : ∃ X, (∀ w, cres .f32 x .f64 w = X) ∧ X < 2 ^ 64 ∧ finD ((FloatKind.f64).decode X) = true ∧ sgn ((FloatKind.f64).decode X) = sgn ((FloatKind.f32).decode x) := by
  obtain ⟨X, hX⟩ : ∃ X, vwide (cls .f32 x) = some X := by
    have hn : ((FloatKind.f32).decode x).isNaN = false := by
      cases hd : (FloatKind.f32).decode x with
      | number s m i => rfl
      | infinity s => rfl
      | nan s t => rw [hd] at h; cases h
    rw [cls_of_not hn]; exact vwide_some hn
  have hc := cres_of hX
  refine ⟨X, hc, ?_, ?_, ?_⟩
  · rw [← hc default]; exact cres_lt64 _ _
  · rw [← hc default, fin_wide]; exact h
  · rw [← hc default]; exact wide_sgn _ _

set_option maxHeartbeats 1000000 in
theorem ang_same (y x : Nat) (hfy : finD ((FloatKind.f32).decode y) = true) (hfx : finD ((FloatKind.f32).decode x) = true) (hz : ¬ (sgn ((FloatKind.f32).decode y) = some .eq ∧ sgn ((FloatKind.f32).decode x) = some .eq)) : ∃ V, AngSame y x V := by
  obtain ⟨Y, hcy, hY, hfY, hsY⟩ := fin_cres hfy
  obtain ⟨X, hcx, hX, hfX, hsX⟩ := fin_cres hfx
  obtain ⟨sy, hsy⟩ := sgn_fin hfy
  obtain ⟨sx, hsx⟩ := sgn_fin hfx
  obtain ⟨m, i, hA⟩ := abs_dec hfY
  obtain ⟨n, j, hB⟩ := abs_dec hfX
  have hne : ¬ (sx = .eq ∧ sy = .eq) := by
    rintro ⟨rfl, rfl⟩; exact hz ⟨hsy, hsx⟩
  have hmn : m ≠ 0 ∨ n ≠ 0 := by
    by_cases h : sgn ((FloatKind.f64).decode Y) = some .eq
    · right
      refine abs_zero hfX hB fun h2 => hz ⟨hsY ▸ h, hsX ▸ h2⟩
    · exact .inl (abs_zero hfY hA h)
  obtain ⟨over, ho⟩ : ∃ over, ((FloatKind.f64).format.order (Y % 2 ^ 63) (X % 2 ^ 63) == some .gt) = over := ⟨_, rfl⟩
  have hK : Okn (angV over (sx == .lt) (sy == .lt) (quoV over (Y % 2 ^ 63) (X % 2 ^ 63))) := (angV_le (quoV_le hA hB hmn ho) _ _ _).okn (by decide)
  refine ⟨vnarrow (angV over (sx == .lt) (sy == .lt) (quoV over (Y % 2 ^ 63) (X % 2 ^ 63))), ?_, ?_⟩
  · intro w
    exact ang_impl y x Y X sx sy over _ hY hX hcy hcx hfy hfx ((order_zero .f32 x).trans hsx) ((order_zero .f32 y).trans hsy) hne ho (min_max Try.prog hA hB ho) hK w
  · intro w
    have hx0 : (FloatKind.f64).format.order X 0 = some sx := (order_zero .f64 X).trans (hsX.trans hsx)
    have hy0 : (FloatKind.f64).format.order Y 0 = some sy := (order_zero .f64 Y).trans (hsY.trans hsy)
    have hc : ∀ w, Calls Try.prog 80 #[.float .f64 Y, .float .f64 X] w fun e w' => ∃ r, e = .returned (.float .f64 r) ∧ cls .f64 r = angV over (sx == .lt) (sy == .lt) (quoV over (Y % 2 ^ 63) (X % 2 ^ 63)) ∧ Drew w w' := by
      intro w
      cases over with
      | true => exact ang_spec_true Y X sx sy hY hX hfY hfX hx0 hy0 hne ho (Lib.hid (abs_cls hfY)) (Lib.hid (abs_cls hfX)) w
      | false => exact ang_spec_false Y X sx sy hY hX hfY hfX hx0 hy0 hne ho (Lib.hid (abs_cls hfY)) (Lib.hid (abs_cls hfX)) w
    have HC := Lib.hid hc
    have HK := Lib.hid hK
    clear hc hK hx0 hy0 ho hmn hne hA hB hsy hsx hsY hsX hfY hfX hz hfy hfx
    go_enter Try.func22, Try.ntmps22
    go_wp2_with (first | (go_at_call 80; refine (HC.out _).mono ?_; rintro e w' ⟨r, rfl, hr, n, rfl⟩; have Hr := Lib.hid hr; clear hr) | go_in)
    go_ret
    exact ⟨_, rfl, narrow_eq Hr.out HK.out _, Drew.mk _ _⟩

theorem ang_any (y x : Nat) : ∃ V, AngSame y x V := by
  cases hy : finD ((FloatKind.f32).decode y) with
  | false => exact ⟨_, ang_not y x (.inl hy)⟩
  | true =>
    cases hx : finD ((FloatKind.f32).decode x) with
    | false => exact ⟨_, ang_not y x (.inr hx)⟩
    | true =>
      by_cases hz : sgn ((FloatKind.f32).decode y) = some .eq ∧ sgn ((FloatKind.f32).decode x) = some .eq
      · exact ⟨_, ang_zero y x hy hx hz.1 hz.2⟩
      · exact ang_same y x hy hx hz

theorem ang_law (y x : Nat) (w : World) (_ : (Lit.float .f32 y).wf = true) (_ : (Lit.float .f32 x).wf = true) : Calls Try.prog 6 #[.float .f32 y, .float .f32 x] w fun e w' => e = .returned (.bool true) ∧ Below w.heap.size w w' := by
  obtain ⟨V, hV⟩ := ang_any y x
  have HI := Lib.hid hV.impl
  have HS := Lib.hid hV.spec
  clear hV
  go_enter Try.func6, Try.ntmps6
  go_wp2_with (first | (go_at_call 22; refine (HS.out _).mono ?_; rintro e w' ⟨r, rfl, hr, n, rfl⟩; have Hr := Lib.hid hr; clear hr) | (go_at_call 23; refine (HI.out _).mono ?_; rintro e w' ⟨r2, rfl, hr, n2, rfl⟩; have Hr2 := Lib.hid hr; clear hr) | (go_at_call 21; refine (sameFloat_true _ _ (by rw [cres_wide, cres_wide, Hr.out, Hr2.out]) _).mono ?_; rintro e w2 ⟨rfl, n3, rfl⟩) | go_in)
  go_ret
  exact ⟨rfl, (Drew.mk _ _).below⟩
end Go.Proofs.Ytgdcpohdejbhaac
