
/- EncodeBits: the functions. -/
import Derived.Test.YtjlifbnenngijaaDoorDen
import Derived.Test.YtjlifbnenngijaaDoorPva
set_option linter.unusedVariables false
namespace Go.Proofs.YtjlifbnenngijaaDoor
open Go.Proofs.YtjlifbnenngijaaDoor.Flo Go.RowKit Go.Proofs.YtjlifbnenngijaaDoor.Pr

def ebB (r : Int) (zs : List Int) (n : Nat) (x : Int) : Bool := paB r zs n && woB x n
def ebV (zs : List Int) (n : Nat) (x : Int) : Int := (ew (zN zs) n x.toNat : Int)
theorem ebB_no {r : Int} {zs : List Int} {n : Nat} {x : Int} (h : ebB r zs n x = false) : paB r zs n = false ∨ (paB r zs n = true ∧ woB x n = false) := by
  unfold ebB at h
  cases h1 : paB r zs n with
  | false => exact .inl rfl
  | true => rw [h1] at h; exact .inr ⟨rfl, by simpa using h⟩
theorem irow_some {w : World} {a : Option Addr} {n : Nat} {zs : List Int} (h : IRow w a n zs) (hn : 1 ≤ n) : ∃ b o, a = some ⟨b, o, none⟩ := by
  obtain ⟨b, o, e, _⟩ := h.cell' (k := 0) hn
  exact ⟨b, o, e⟩
theorem wo_out {x : Int} {n : Nat} (h : woB x n = true) (hn : n ≤ 16) : ∃ y : Nat, x = (y : Int) ∧ y < 2 ^ n ∧ y < 65536 := by
  have h1 : 0 ≤ x ∧ x < 2 ^ n := of_decide_eq_true h
  have h3 : (2 : Nat) ^ n ≤ 2 ^ 16 := Nat.pow_le_pow_right (by decide) hn
  have h2 : x.toNat < 2 ^ n := by
    have e : ((2 ^ n : Nat) : Int) = (2 : Int) ^ n := by simp
    omega
  exact ⟨x.toNat, by omega, h2, by omega⟩
set_option maxRecDepth 100000 in
set_option maxHeartbeats 4000000 in
theorem eb_specA (r : Int) (a : Option Addr) (n cap : Nat) (zs : List Int) (x : Int) (w : World) (h : IRow w a n zs) (hn : n ≤ 1048576) (hok : paB r zs n = false) : Calls Tryd.prog 18 #[.agg #[.int .i64 r, .slice a n cap], .int .i64 x] w fun e w' => e = .returned (.tuple #[.int .i64 0, .bool false]) ∧ Below w.heap.size w w' := by
  have HC := Lib.hid (Kin.new (w := w) (x := .int .i64 r) (y := .slice a n cap) (T := 24))
  have HA := Lib.hid (h.alloc (.cells #[.int .i64 r, .slice a n cap] 24))
  have HIS : Hid (Calls Tryd.prog 48 #[.pointer (some ⟨w.heap.size, 0, none⟩)] (w.alloc (.cells #[.int .i64 r, .slice a n cap] 24)) fun e w' => e = .returned (.bool false) ∧ Below (w.alloc (.cells #[.int .i64 r, .slice a n cap] 24)).heap.size (w.alloc (.cells #[.int .i64 r, .slice a n cap] 24)) w') := Lib.hid (by have := pi_spec w.heap.size r a n cap zs (w.alloc (.cells #[.int .i64 r, .slice a n cap] 24)) (h.alloc _) hn (by simp) HC.out.2.1 HC.out.2.2.1; rw [hok] at this; exact this)
  clear h hok
  go_enter Tryd.func18, Tryd.ntmps18
  go_wp2_with (first | (go_at_call 48; (with_reducible refine HIS.out.mono ?_); rintro e w2 ⟨rfl, hb⟩; have HB := Lib.hid (Below.next (below_alloc _ _ : Below w.heap.size w (w.alloc (.cells #[.int .i64 r, .slice a n cap] 24))) hb); have HA2 := Lib.hid (HA.out.below hb); have HK := Lib.hid (HC.out.below hb); have hp0 := HK.out.2.1; have hp1 := HK.out.2.2.1; have HP1 := Lib.hid hp1; clear hb) | fail)
  exact bodyPost_ret (v := .tuple #[.int .i64 0, .bool false]) (by simp [results, Tryd.results18, go_sem]) rfl ⟨rfl, HB.out⟩
set_option maxRecDepth 100000 in
set_option maxHeartbeats 4000000 in
theorem eb_specN (r : Int) (a : Option Addr) (n cap : Nat) (zs : List Int) (x : Int) (w : World) (h : IRow w a n zs) (hn : n ≤ 1048576) (hok : paB r zs n = true) (hwb : woB x n = false) : Calls Tryd.prog 18 #[.agg #[.int .i64 r, .slice a n cap], .int .i64 x] w fun e w' => e = .returned (.tuple #[.int .i64 0, .bool false]) ∧ Below w.heap.size w w' := by
  have hn16 : n ≤ 16 := by have := (pa_out hok).2.1; omega
  have HC := Lib.hid (Kin.new (w := w) (x := .int .i64 r) (y := .slice a n cap) (T := 24))
  have HA := Lib.hid (h.alloc (.cells #[.int .i64 r, .slice a n cap] 24))
  have HIS : Hid (Calls Tryd.prog 48 #[.pointer (some ⟨w.heap.size, 0, none⟩)] (w.alloc (.cells #[.int .i64 r, .slice a n cap] 24)) fun e w' => e = .returned (.bool true) ∧ Below (w.alloc (.cells #[.int .i64 r, .slice a n cap] 24)).heap.size (w.alloc (.cells #[.int .i64 r, .slice a n cap] 24)) w') := Lib.hid (by have := pi_spec w.heap.size r a n cap zs (w.alloc (.cells #[.int .i64 r, .slice a n cap] 24)) (h.alloc _) hn (by simp) HC.out.2.1 HC.out.2.2.1; rw [hok] at this; exact this)
  have HWO : Hid (∀ w3 : World, Calls Tryd.prog 49 #[.int .i64 x, .int .i64 (n : Int)] w3 fun e w' => e = .returned (.bool false) ∧ w3 = w') := Lib.hid (fun w3 => by have := word_spec x n w3 hn16; rw [hwb] at this; exact this)
  clear h hok hwb
  go_enter Tryd.func18, Tryd.ntmps18
  go_wp2_with (first | (go_at_call 48; (with_reducible refine HIS.out.mono ?_); rintro e w2 ⟨rfl, hb⟩; have HB := Lib.hid (Below.next (below_alloc _ _ : Below w.heap.size w (w.alloc (.cells #[.int .i64 r, .slice a n cap] 24))) hb); have HA2 := Lib.hid (HA.out.below hb); have HK := Lib.hid (HC.out.below hb); have hp0 := HK.out.2.1; have hp1 := HK.out.2.2.1; have HP1 := Lib.hid hp1; clear hb) | (go_at_call 49; (with_reducible refine (HWO.out _).mono ?_); rintro e w' ⟨rfl, hw⟩; subst hw) | fail)
  exact bodyPost_ret (v := .tuple #[.int .i64 0, .bool false]) (by simp [results, Tryd.results18, go_sem]) rfl ⟨rfl, HB.out⟩
set_option maxRecDepth 100000 in
set_option maxHeartbeats 4000000 in
theorem eb_specY (r : Int) (a : Option Addr) (n cap : Nat) (zs : List Int) (x : Int) (w : World) (h : IRow w a n zs) (hn : n ≤ 1048576) (hok : paB r zs n = true) (hwb : woB x n = true) : Calls Tryd.prog 18 #[.agg #[.int .i64 r, .slice a n cap], .int .i64 x] w fun e w' => e = .returned (.tuple #[.int .i64 (ebV zs n x), .bool true]) ∧ Below w.heap.size w w' := by
  obtain ⟨⟨hr1, hr2⟩, ⟨hn1, hn8⟩, hwz, _⟩ := pa_out hok
  have hn16 : n ≤ 16 := by omega
  have HZ := Lib.hid (woP_wide hwz (show r.toNat ≤ 16 by omega))
  obtain ⟨b1, o1, rfl⟩ := irow_some h hn1
  have HC := Lib.hid (Kin.new (w := w) (x := .int .i64 r) (y := .slice (some ⟨b1, o1, none⟩) n cap) (T := 24))
  have HA := Lib.hid (h.alloc (.cells #[.int .i64 r, .slice (some ⟨b1, o1, none⟩) n cap] 24))
  have HIS : Hid (Calls Tryd.prog 48 #[.pointer (some ⟨w.heap.size, 0, none⟩)] (w.alloc (.cells #[.int .i64 r, .slice (some ⟨b1, o1, none⟩) n cap] 24)) fun e w' => e = .returned (.bool true) ∧ Below (w.alloc (.cells #[.int .i64 r, .slice (some ⟨b1, o1, none⟩) n cap] 24)).heap.size (w.alloc (.cells #[.int .i64 r, .slice (some ⟨b1, o1, none⟩) n cap] 24)) w') := Lib.hid (by have := pi_spec w.heap.size r (some ⟨b1, o1, none⟩) n cap zs (w.alloc (.cells #[.int .i64 r, .slice (some ⟨b1, o1, none⟩) n cap] 24)) (h.alloc _) hn (by simp) HC.out.2.1 HC.out.2.2.1; rw [hok] at this; exact this)
  have HWO : Hid (∀ w3 : World, Calls Tryd.prog 49 #[.int .i64 x, .int .i64 (n : Int)] w3 fun e w' => e = .returned (.bool true) ∧ w3 = w') := Lib.hid (fun w3 => by have := word_spec x n w3 hn16; rw [hwb] at this; exact this)
  obtain ⟨y, rfl, hy, hy16⟩ := wo_out hwb hn16
  have HY := Lib.hid hy
  have HY16 := Lib.hid hy16
  unfold ebV
  rw [Int.toNat_natCast]
  clear h hok hwb hwz hy hy16
  go_enter Tryd.func18, Tryd.ntmps18
  go_wp2_with (first | (go_at_call 48; (with_reducible refine HIS.out.mono ?_); rintro e w2 ⟨rfl, hb⟩; have HB := Lib.hid (Below.next (below_alloc _ _ : Below w.heap.size w (w.alloc (.cells #[.int .i64 r, .slice (some ⟨b1, o1, none⟩) n cap] 24))) hb); have HA2 := Lib.hid (HA.out.below hb); have HK := Lib.hid (HC.out.below hb); have hp0 := HK.out.2.1; have hp1 := HK.out.2.2.1; have HP1 := Lib.hid hp1; clear hb) | (go_at_call 49; (with_reducible refine (HWO.out _).mono ?_); rintro e w' ⟨rfl, hw⟩; subst hw) | (go_at_call 50; (with_reducible refine (enc_spec w.heap.size b1 o1 n cap zs y _ HA2.out hn16 HZ.out HY16.out HP1.out).mono ?_); rintro e w' ⟨rfl, hw⟩; subst hw) | fail)
  exact bodyPost_ret (v := .tuple #[.int .i64 (ew (zN zs) n y : Int), .bool true]) (by simp [results, Tryd.results18, go_sem]) rfl ⟨rfl, HB.out⟩
theorem eb_specYes (r : Int) (a : Option Addr) (n cap : Nat) (zs : List Int) (x : Int) (w : World) (h : IRow w a n zs) (hn : n ≤ 1048576) (hok : ebB r zs n x = true) : Calls Tryd.prog 18 #[.agg #[.int .i64 r, .slice a n cap], .int .i64 x] w fun e w' => e = .returned (.tuple #[.int .i64 (ebV zs n x), .bool true]) ∧ Below w.heap.size w w' := by
  unfold ebB at hok
  rw [Bool.and_eq_true] at hok
  exact eb_specY r a n cap zs x w h hn hok.1 hok.2
theorem eb_specNo (r : Int) (a : Option Addr) (n cap : Nat) (zs : List Int) (x : Int) (w : World) (h : IRow w a n zs) (hn : n ≤ 1048576) (hok : ebB r zs n x = false) : Calls Tryd.prog 18 #[.agg #[.int .i64 r, .slice a n cap], .int .i64 x] w fun e w' => e = .returned (.tuple #[.int .i64 0, .bool false]) ∧ Below w.heap.size w w' := by
  rcases ebB_no hok with h1 | h1
  · exact eb_specA r a n cap zs x w h hn h1
  · exact eb_specN r a n cap zs x w h hn h1.1 h1.2
set_option maxRecDepth 100000 in
set_option maxHeartbeats 4000000 in
theorem eb_implA (r : Int) (a : Option Addr) (n cap : Nat) (zs : List Int) (x : Int) (w0 w : World) (hp : Db w0) (hb0 : Below w0.heap.size w0 w) (h : IRow w a n zs) (hn : n ≤ 1048576) (hok : paB r zs n = false) : Calls Tryd.prog 20 #[.agg #[.int .i64 r, .slice a n cap], .int .i64 x] w fun e w' => e = .returned (.tuple #[.int .i64 0, .bool false]) ∧ Below w.heap.size w w' := by
  have HC := Lib.hid (Kin.new (w := w) (x := .int .i64 r) (y := .slice a n cap) (T := 24))
  have HA := Lib.hid (h.alloc (.cells #[.int .i64 r, .slice a n cap] 24))
  have HIS : Hid (Calls Tryd.prog 52 #[.agg #[.int .i64 r, .slice a n cap]] (w.alloc (.cells #[.int .i64 r, .slice a n cap] 24)) fun e w' => e = .returned (.bool false) ∧ Below (w.alloc (.cells #[.int .i64 r, .slice a n cap] 24)).heap.size (w.alloc (.cells #[.int .i64 r, .slice a n cap] 24)) w') := Lib.hid (by have := vp_impl r a n cap zs (w.alloc (.cells #[.int .i64 r, .slice a n cap] 24)) (h.alloc _) hn; rw [hok] at this; exact this)
  clear h hok
  go_enter Tryd.func20, Tryd.ntmps20
  go_wp2_with (first | (go_at_call 52; (with_reducible refine HIS.out.mono ?_); rintro e w2 ⟨rfl, hb⟩; have HB := Lib.hid (Below.next (below_alloc _ _ : Below w.heap.size w (w.alloc (.cells #[.int .i64 r, .slice a n cap] 24))) hb); have HA2 := Lib.hid (HA.out.below hb); have HK := Lib.hid (HC.out.below hb); have hp0 := HK.out.2.1; have hp1 := HK.out.2.2.1; have HP1 := Lib.hid hp1; clear hb) | fail)
  exact bodyPost_ret (v := .tuple #[.int .i64 0, .bool false]) (by simp [results, Tryd.results20, go_sem]) rfl ⟨rfl, HB.out⟩
set_option maxRecDepth 100000 in
set_option maxHeartbeats 4000000 in
theorem eb_implN (r : Int) (a : Option Addr) (n cap : Nat) (zs : List Int) (x : Int) (w0 w : World) (hp : Db w0) (hb0 : Below w0.heap.size w0 w) (h : IRow w a n zs) (hn : n ≤ 1048576) (hok : paB r zs n = true) (hwb : woB x n = false) : Calls Tryd.prog 20 #[.agg #[.int .i64 r, .slice a n cap], .int .i64 x] w fun e w' => e = .returned (.tuple #[.int .i64 0, .bool false]) ∧ Below w.heap.size w w' := by
  have hn16 : n ≤ 16 := by have := (pa_out hok).2.1; omega
  have HC := Lib.hid (Kin.new (w := w) (x := .int .i64 r) (y := .slice a n cap) (T := 24))
  have HA := Lib.hid (h.alloc (.cells #[.int .i64 r, .slice a n cap] 24))
  have HIS : Hid (Calls Tryd.prog 52 #[.agg #[.int .i64 r, .slice a n cap]] (w.alloc (.cells #[.int .i64 r, .slice a n cap] 24)) fun e w' => e = .returned (.bool true) ∧ Below (w.alloc (.cells #[.int .i64 r, .slice a n cap] 24)).heap.size (w.alloc (.cells #[.int .i64 r, .slice a n cap] 24)) w') := Lib.hid (by have := vp_impl r a n cap zs (w.alloc (.cells #[.int .i64 r, .slice a n cap] 24)) (h.alloc _) hn; rw [hok] at this; exact this)
  have HWO : Hid (∀ w3 : World, Calls Tryd.prog 53 #[.int .i64 x, .int .i64 (n : Int)] w3 fun e w' => e = .returned (.bool false) ∧ w3 = w') := Lib.hid (fun w3 => by have := word_impl x n w3 hn16; rw [hwb] at this; exact this)
  clear h hok hwb
  go_enter Tryd.func20, Tryd.ntmps20
  go_wp2_with (first | (go_at_call 52; (with_reducible refine HIS.out.mono ?_); rintro e w2 ⟨rfl, hb⟩; have HB := Lib.hid (Below.next (below_alloc _ _ : Below w.heap.size w (w.alloc (.cells #[.int .i64 r, .slice a n cap] 24))) hb); have HA2 := Lib.hid (HA.out.below hb); have HK := Lib.hid (HC.out.below hb); have hp0 := HK.out.2.1; have hp1 := HK.out.2.2.1; have HP1 := Lib.hid hp1; clear hb) | (go_at_call 53; (with_reducible refine (HWO.out _).mono ?_); rintro e w' ⟨rfl, hw⟩; subst hw) | fail)
  exact bodyPost_ret (v := .tuple #[.int .i64 0, .bool false]) (by simp [results, Tryd.results20, go_sem]) rfl ⟨rfl, HB.out⟩
set_option maxRecDepth 100000 in
set_option maxHeartbeats 4000000 in
theorem eb_implY (r : Int) (a : Option Addr) (n cap : Nat) (zs : List Int) (x : Int) (w0 w : World) (hp : Db w0) (hb0 : Below w0.heap.size w0 w) (h : IRow w a n zs) (hn : n ≤ 1048576) (hok : paB r zs n = true) (hwb : woB x n = true) : Calls Tryd.prog 20 #[.agg #[.int .i64 r, .slice a n cap], .int .i64 x] w fun e w' => e = .returned (.tuple #[.int .i64 (ebV zs n x), .bool true]) ∧ Below w.heap.size w w' := by
  obtain ⟨⟨hr1, hr2⟩, ⟨hn1, hn8⟩, hwz, _⟩ := pa_out hok
  have hn16 : n ≤ 16 := by omega
  have HZ := Lib.hid (woP_wide hwz (show r.toNat ≤ 16 by omega))
  obtain ⟨b1, o1, rfl⟩ := irow_some h hn1
  have HC := Lib.hid (Kin.new (w := w) (x := .int .i64 r) (y := .slice (some ⟨b1, o1, none⟩) n cap) (T := 24))
  have HA := Lib.hid (h.alloc (.cells #[.int .i64 r, .slice (some ⟨b1, o1, none⟩) n cap] 24))
  have HIS : Hid (Calls Tryd.prog 52 #[.agg #[.int .i64 r, .slice (some ⟨b1, o1, none⟩) n cap]] (w.alloc (.cells #[.int .i64 r, .slice (some ⟨b1, o1, none⟩) n cap] 24)) fun e w' => e = .returned (.bool true) ∧ Below (w.alloc (.cells #[.int .i64 r, .slice (some ⟨b1, o1, none⟩) n cap] 24)).heap.size (w.alloc (.cells #[.int .i64 r, .slice (some ⟨b1, o1, none⟩) n cap] 24)) w') := Lib.hid (by have := vp_impl r (some ⟨b1, o1, none⟩) n cap zs (w.alloc (.cells #[.int .i64 r, .slice (some ⟨b1, o1, none⟩) n cap] 24)) (h.alloc _) hn; rw [hok] at this; exact this)
  have HWO : Hid (∀ w3 : World, Calls Tryd.prog 53 #[.int .i64 x, .int .i64 (n : Int)] w3 fun e w' => e = .returned (.bool true) ∧ w3 = w') := Lib.hid (fun w3 => by have := word_impl x n w3 hn16; rw [hwb] at this; exact this)
  obtain ⟨y, rfl, hy, hy16⟩ := wo_out hwb hn16
  have HY := Lib.hid hy
  have HY16 := Lib.hid hy16
  unfold ebV
  rw [Int.toNat_natCast]
  have HB0 := Lib.hid hb0
  clear hb0
  clear h hok hwb hwz hy hy16
  go_enter Tryd.func20, Tryd.ntmps20
  go_wp2_with (first | (go_at_call 52; (with_reducible refine HIS.out.mono ?_); rintro e w2 ⟨rfl, hb⟩; have HB := Lib.hid (Below.next (below_alloc _ _ : Below w.heap.size w (w.alloc (.cells #[.int .i64 r, .slice (some ⟨b1, o1, none⟩) n cap] 24))) hb); have HA2 := Lib.hid (HA.out.below hb); have HK := Lib.hid (HC.out.below hb); have hp0 := HK.out.2.1; have hp1 := HK.out.2.2.1; have HP1 := Lib.hid hp1; clear hb) | (go_at_call 53; (with_reducible refine (HWO.out _).mono ?_); rintro e w' ⟨rfl, hw⟩; subst hw) | (go_at_call 54; (with_reducible refine (so_impl b1 o1 n cap zs y w0 _ hp (Below.trans HB0.out (HB.out.mono HB0.out.size)) HA2.out hn16 HZ.out HY.out).mono ?_); rintro e w' ⟨rfl, hb⟩; have HB3 := Lib.hid (Below.next HB.out hb); clear hb) | fail)
  exact bodyPost_ret (v := .tuple #[.int .i64 (ew (zN zs) n y : Int), .bool true]) (by simp [results, Tryd.results20, go_sem]) rfl ⟨rfl, HB3.out⟩
theorem eb_implYes (r : Int) (a : Option Addr) (n cap : Nat) (zs : List Int) (x : Int) (w0 w : World) (hp : Db w0) (hb0 : Below w0.heap.size w0 w) (h : IRow w a n zs) (hn : n ≤ 1048576) (hok : ebB r zs n x = true) : Calls Tryd.prog 20 #[.agg #[.int .i64 r, .slice a n cap], .int .i64 x] w fun e w' => e = .returned (.tuple #[.int .i64 (ebV zs n x), .bool true]) ∧ Below w.heap.size w w' := by
  unfold ebB at hok
  rw [Bool.and_eq_true] at hok
  exact eb_implY r a n cap zs x w0 w hp hb0 h hn hok.1 hok.2
theorem eb_implNo (r : Int) (a : Option Addr) (n cap : Nat) (zs : List Int) (x : Int) (w0 w : World) (hp : Db w0) (hb0 : Below w0.heap.size w0 w) (h : IRow w a n zs) (hn : n ≤ 1048576) (hok : ebB r zs n x = false) : Calls Tryd.prog 20 #[.agg #[.int .i64 r, .slice a n cap], .int .i64 x] w fun e w' => e = .returned (.tuple #[.int .i64 0, .bool false]) ∧ Below w.heap.size w w' := by
  rcases ebB_no hok with h1 | h1
  · exact eb_implA r a n cap zs x w0 w hp hb0 h hn h1
  · exact eb_implN r a n cap zs x w0 w hp hb0 h hn h1.1 h1.2
end Go.Proofs.YtjlifbnenngijaaDoor
