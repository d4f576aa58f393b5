
/- The word of a message: the model. -/
import Derived.Test.YtjlifbnenngijaaDoorDgo
namespace Go.Proofs.YtjlifbnenngijaaDoor
open Go.Proofs.YtjlifbnenngijaaDoor.Flo Go.RowKit Go.Proofs.YtjlifbnenngijaaDoor.Pr

set_option maxRecDepth 100000 in
set_option maxHeartbeats 4000000 in
theorem enc_spec (p b1 o1 n cap : Nat) (zs : List Int) (x : Nat) (w : World) (h : IRow w (some ⟨b1, o1, none⟩) n zs) (hn : n ≤ 16) (hz : woP zs n 16) (hx : x < 65536) (hp : w.cell? ⟨p, 1, none⟩ = some (.slice (some ⟨b1, o1, none⟩) n cap)) :
    Calls Tryd.prog 50 #[.pointer (some ⟨p, 0, none⟩), .int .i64 (x : Int)] w fun e w' => e = .returned (.int .i64 (ew (zN zs) n x : Int)) ∧ w = w' := by
  have HA := Lib.hid h
  have HZ := Lib.hid hz
  have HX := Lib.hid hx
  clear h hz hx
  go_enter Tryd.func50, Tryd.ntmps50
  go_wp2
  go_loop [5, 6] (fun sv jv => ∃ j s : Nat, j ≤ n ∧ s < 65536 ∧ sv = .int .i64 (s : Int) ∧ jv = .int .i64 (j : Int) ∧ Hid (mw (zN zs) n x j s = ew (zN zs) n x)) (fun _ jv => n - (intOf jv).toNat)
  case atStart => exact ⟨0, 0, by omega, by omega, rfl, rfl, Lib.hid (mw_start _ _ _)⟩
  case round =>
    obtain ⟨j, s, hj, hs, rfl, rfl, HM⟩ := hrel
    by_cases hlt : j < n
    · have HT : Hid (∀ w2 : World, Calls Tryd.prog 42 #[.int .i64 (x : Int), .int .i64 (j : Int)] w2 fun e w' => e = .returned (.bool (x.testBit j)) ∧ w2 = w') := Lib.hid (fun w2 => has_spec x j w2 (by have := HX.out; omega) (by omega))
      cases hb : x.testBit j with
      | true =>
        rw [hb] at HT
        obtain ⟨hb1, hck⟩ := irow_at HA.out hlt
        obtain ⟨hzk, hzl⟩ := zN_at HZ.out hlt
        rw [hzk] at hck
        have hxr := b_xor s (zN zs j) (by omega) (by omega)
        have hxl : s ^^^ zN zs j < 65536 := Nat.xor_lt_two_pow (n := 16) hs hzl
        have HM2 : Hid (mw (zN zs) n x (j + 1) (s ^^^ zN zs j) = ew (zN zs) n x) := Lib.hid ((mw_yes hlt hb).symm.trans HM.out)
        generalize zN zs j = v at hck hxr hxl HM2 hzl
        generalize s ^^^ v = u at hxr hxl HM2
        clear hzk hb
        go_wp2_with (first | (go_at_call 42; (with_reducible refine (HT.out _).mono ?_); rintro e w' ⟨rfl, hw⟩; subst hw) | fail)
        go_round
        case rel => exact ⟨j + 1, u, hlt, hxl, rfl, by go_num, HM2⟩
        case measure => simp [intOf]; omega
      | false =>
        rw [hb] at HT
        have HM2 : Hid (mw (zN zs) n x (j + 1) s = ew (zN zs) n x) := Lib.hid ((mw_no hlt hb).symm.trans HM.out)
        clear hb
        go_wp2_with (first | (go_at_call 42; (with_reducible refine (HT.out _).mono ?_); rintro e w' ⟨rfl, hw⟩; subst hw) | fail)
        go_round
        case rel => exact ⟨j + 1, s, hlt, hs, rfl, by go_num, HM2⟩
        case measure => simp [intOf]; omega
    · obtain rfl : j = n := by omega
      have HF : Hid (s = ew (zN zs) j x) := Lib.hid ((mw_end _ _ _ _).symm.trans HM.out)
      go_wp2
      go_ret
      exact ⟨by rw [← HF.out]; rfl, rfl⟩
end Go.Proofs.YtjlifbnenngijaaDoor
