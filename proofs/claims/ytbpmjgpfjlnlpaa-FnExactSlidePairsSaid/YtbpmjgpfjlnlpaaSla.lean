/- What slides: what both answer. -/
import Derived.Test.YtbpmjgpfjlnlpaaSlr
namespace Go.Proofs.Ytbpmjgpfjlnlpaa
open Go.Proofs.Ytbpmjgpfjlnlpaa.Flo Go.RowKit

theorem eqMIz (a b : Option Addr) (cap capb : Nat) (w w0 : World) (L : List (Nat × Ent)) (h : Mine w0 w L) :
    Calls Try.prog 31 #[.slice a 0 cap, .slice b 0 capb] w fun e w' => e = .returned (.bool true) ∧ Mine w0 w' L := by
  refine (eqI a b 0 cap capb [] w ⟨rfl, .inl rfl⟩ ⟨rfl, .inl rfl⟩ (Nat.zero_le _)).mono ?_
  rintro e w' ⟨he, d⟩
  exact ⟨he, h.below d.below⟩
theorem markIz (a : Option Addr) (cap : Nat) (k0 : Int) (w : World) : Calls Try.prog 32 #[.slice a 0 cap, .int .i64 k0] w fun e w' => e = .returned (.int .i64 k0) ∧ w = w' := by
  go_enter Try.func32, Try.ntmps32
  go_wp2
  refine wp_loop_rounds 1 ?_
  rw [rounds_succ]
  go_wp2
  go_ret
  exact ⟨rfl, rfl⟩
theorem heldIz (a : Option Addr) (cap : Nat) (k0 : Int) (w : World) : Calls Try.prog 33 #[.slice a 0 cap, .int .i64 k0] w fun e w' => e = .returned (.int .i64 k0) ∧ w = w' := by
  go_enter Try.func33, Try.ntmps33
  go_wp2
  refine wp_loop_rounds 1 ?_
  rw [rounds_succ]
  go_wp2
  go_ret
  exact ⟨rfl, rfl⟩
def slB (zs : List Int) (m : Nat) (x win : Int) : Bool := itB zs m x && decide (1 ≤ win ∧ win ≤ 64)
theorem slB_out {zs : List Int} {m : Nat} {x win : Int} (h : slB zs m x win = true) : itB zs m x = true ∧ 1 ≤ win ∧ win ≤ 64 := by
  unfold slB at h
  rw [Bool.and_eq_true] at h
  exact ⟨h.1, of_decide_eq_true h.2⟩
theorem slB_far {zs : List Int} {m : Nat} {x win : Int} (h : slB zs m x win = false) (h2 : itB zs m x = true) : ¬ (1 ≤ win ∧ win ≤ 64) := by
  unfold slB at h
  rw [h2, Bool.true_and] at h
  exact of_decide_eq_false h
theorem sl_len (zs : List Int) (m win : Nat) : (slR zs m win).length ≤ 3 * m := by
  have h := sl_at zs m win m
  unfold slR
  have h1 := h.1
  have h2 := h.2.2
  omega
theorem up_yes {B : Bool} {L : List Int} {w : World} {e : Ending} {w' : World} (h : UPost B L w e w') (hB : B = true) (h0 : L.length ≠ 0) : ∃ g cp, e = .returned (.tuple #[.slice (some ⟨g, 0, none⟩) L.length cp, .bool true]) ∧ New w w' g (.il L.length L) := by
  rcases h with ⟨_, ⟨v, h1, h2⟩, _⟩ | ⟨h1, _⟩
  · rcases h2 with ⟨h2, _⟩ | ⟨_, g, cp, e2, h2⟩
    · exact absurd h2 h0
    · exact ⟨g, cp, by rw [h1, e2], h2⟩
  · rw [hB] at h1; cases h1
theorem up_zero {B : Bool} {L : List Int} {w : World} {e : Ending} {w' : World} (h : UPost B L w e w') (hB : B = true) (h0 : L.length = 0) : ∃ b cp, e = .returned (.tuple #[.slice b 0 cp, .bool true]) ∧ Below w.heap.size w w' := by
  rcases h with ⟨_, ⟨v, h1, h2⟩, hb⟩ | ⟨h1, _⟩
  · rcases h2 with ⟨_, a, cp, e2⟩ | ⟨h2, _⟩
    · exact ⟨a, cp, by rw [h1, e2], hb⟩
    · exact absurd h0 h2
  · rw [hB] at h1; cases h1
theorem up_no {B : Bool} {L : List Int} {w : World} {e : Ending} {w' : World} (h : UPost B L w e w') (hB : B = false) : e = .returned (.tuple #[.slice none 0 0, .bool false]) ∧ Below w.heap.size w w' := by
  rcases h with ⟨h1, _⟩ | ⟨_, h⟩
  · rw [hB] at h1; cases h1
  · exact h
set_option maxRecDepth 100000 in
set_option maxHeartbeats 4000000 in
theorem slSF (a : Option Addr) (m cap : Nat) (zs : List Int) (x win : Int) (w : World) (h : IRow w a m zs) (hm : m ≤ 1048576) (hok : slB zs m x win = false) :
    Calls Try.prog 28 #[.slice a m cap, .int .i64 x, .int .i64 win] w fun e w' => e = .returned (.tuple #[.slice none 0 0, .bool false]) ∧ Below w.heap.size w w' := by
  have HA := Lib.hid h
  clear h
  cases hit : itB zs m x with
  | false =>
    have HOK := Lib.hid hit
    clear hit hok
    go_enter Try.func28, Try.ntmps28
    go_wp2_with (first | (go_at_call 79; refine (itx_spec a m cap zs x _ HA.out hm).mono ?_; rw [HOK.out]; rintro e w' ⟨rfl, hw⟩; subst hw) | fail)
    go_ret2
    exact ⟨rfl, Below.refl _ _⟩
  | true =>
    have hfar := slB_far hok hit
    have HOK := Lib.hid hit
    clear hit hok
    have HF := Lib.hid hfar
    clear hfar
    go_enter Try.func28, Try.ntmps28
    go_wp2_with (first | (go_at_call 79; refine (itx_spec a m cap zs x _ HA.out hm).mono ?_; rw [HOK.out]; rintro e w' ⟨rfl, hw⟩; subst hw) | (go_at_call 80; with_reducible refine (in_false win 1 64 _ HF.out).mono ?_; rintro e w' ⟨rfl, hw⟩; have hw := hw.symm; subst hw) | fail)
    go_ret2
    exact ⟨rfl, Below.refl _ _⟩
theorem slSU (a : Option Addr) (m cap : Nat) (zs : List Int) (x win : Int) (w : World) (h : IRow w a m zs) (_ : m ≤ 1048576) (hok : slB zs m x win = true) : Calls Try.prog 28 #[.slice a m cap, .int .i64 x, .int .i64 win] w (UPost true (slR zs m win.toNat) w) := by
  obtain ⟨h1, h2, h3⟩ := slB_out hok
  obtain ⟨k, rfl⟩ : ∃ k : Nat, win = k := ⟨win.toNat, by omega⟩
  have := sp_spec a m cap zs x k w h h1 (by omega) (by omega)
  rw [Int.toNat_natCast]
  exact this
theorem slSY (a : Option Addr) (m cap : Nat) (zs : List Int) (x win : Int) (w : World) (h : IRow w a m zs) (hm : m ≤ 1048576) (hok : slB zs m x win = true) (hpos : (slR zs m win.toNat).length ≠ 0) :
    Calls Try.prog 28 #[.slice a m cap, .int .i64 x, .int .i64 win] w fun e w' => ∃ g cp, e = .returned (.tuple #[.slice (some ⟨g, 0, none⟩) (slR zs m win.toNat).length cp, .bool true]) ∧ New w w' g (.il (slR zs m win.toNat).length (slR zs m win.toNat)) :=
  (slSU a m cap zs x win w h hm hok).mono fun _ _ h => up_yes h rfl hpos
theorem slS0 (a : Option Addr) (m cap : Nat) (zs : List Int) (x win : Int) (w : World) (h : IRow w a m zs) (hm : m ≤ 1048576) (hok : slB zs m x win = true) (hz : (slR zs m win.toNat).length = 0) :
    Calls Try.prog 28 #[.slice a m cap, .int .i64 x, .int .i64 win] w fun e w' => ∃ b cp, e = .returned (.tuple #[.slice b 0 cp, .bool true]) ∧ Below w.heap.size w w' :=
  (slSU a m cap zs x win w h hm hok).mono fun _ _ h => up_zero h rfl hz
set_option maxRecDepth 100000 in
set_option maxHeartbeats 4000000 in
theorem slIF (a : Option Addr) (m cap : Nat) (zs : List Int) (x win : Int) (w : World) (h : IRow w a m zs) (hm : m ≤ 1048576) (hok : slB zs m x win = false) :
    Calls Try.prog 30 #[.slice a m cap, .int .i64 x, .int .i64 win] w fun e w' => e = .returned (.tuple #[.slice none 0 0, .bool false]) ∧ Below w.heap.size w w' := by
  have HA := Lib.hid h
  clear h
  cases hit : itB zs m x with
  | false =>
    have HOK := Lib.hid hit
    clear hit hok
    go_enter Try.func30, Try.ntmps30
    go_wp2_with (first | (go_at_call 82; refine (itx_impl a m cap zs x _ HA.out hm).mono ?_; rw [HOK.out]; rintro e w' ⟨rfl, hw⟩; subst hw) | fail)
    go_ret2
    exact ⟨rfl, Below.refl _ _⟩
  | true =>
    have hfar := slB_far hok hit
    have HOK := Lib.hid hit
    clear hit hok
    by_cases h1 : win < 1
    · have d1 : decide (win < 1) = true := decide_eq_true h1
      clear hfar h1
      go_enter Try.func30, Try.ntmps30
      go_wp2_with (first | (go_at_call 82; refine (itx_impl a m cap zs x _ HA.out hm).mono ?_; rw [HOK.out]; rintro e w' ⟨rfl, hw⟩; subst hw) | fail)
      go_ret2
      exact ⟨rfl, Below.refl _ _⟩
    · have d1 : decide (win < 1) = false := decide_eq_false h1
      have d2 : decide (64 < win) = true := decide_eq_true (by omega)
      clear hfar h1
      go_enter Try.func30, Try.ntmps30
      go_wp2_with (first | (go_at_call 82; refine (itx_impl a m cap zs x _ HA.out hm).mono ?_; rw [HOK.out]; rintro e w' ⟨rfl, hw⟩; subst hw) | fail)
      go_ret2
      exact ⟨rfl, Below.refl _ _⟩
theorem slIU (a : Option Addr) (m cap : Nat) (zs : List Int) (x win : Int) (w : World) (h : IRow w a m zs) (_ : m ≤ 1048576) (hok : slB zs m x win = true) : Calls Try.prog 30 #[.slice a m cap, .int .i64 x, .int .i64 win] w (UPost true (slR zs m win.toNat) w) := by
  obtain ⟨h1, h2, h3⟩ := slB_out hok
  obtain ⟨k, rfl⟩ : ∃ k : Nat, win = k := ⟨win.toNat, by omega⟩
  have := sp_impl a m cap zs x k w h h1 (by omega) (by omega)
  rw [Int.toNat_natCast]
  exact this
theorem slIY (a : Option Addr) (m cap : Nat) (zs : List Int) (x win : Int) (w : World) (h : IRow w a m zs) (hm : m ≤ 1048576) (hok : slB zs m x win = true) (hpos : (slR zs m win.toNat).length ≠ 0) :
    Calls Try.prog 30 #[.slice a m cap, .int .i64 x, .int .i64 win] w fun e w' => ∃ g cp, e = .returned (.tuple #[.slice (some ⟨g, 0, none⟩) (slR zs m win.toNat).length cp, .bool true]) ∧ New w w' g (.il (slR zs m win.toNat).length (slR zs m win.toNat)) :=
  (slIU a m cap zs x win w h hm hok).mono fun _ _ h => up_yes h rfl hpos
theorem slI0 (a : Option Addr) (m cap : Nat) (zs : List Int) (x win : Int) (w : World) (h : IRow w a m zs) (hm : m ≤ 1048576) (hok : slB zs m x win = true) (hz : (slR zs m win.toNat).length = 0) :
    Calls Try.prog 30 #[.slice a m cap, .int .i64 x, .int .i64 win] w fun e w' => ∃ b cp, e = .returned (.tuple #[.slice b 0 cp, .bool true]) ∧ Below w.heap.size w w' :=
  (slIU a m cap zs x win w h hm hok).mono fun _ _ h => up_zero h rfl hz
end Go.Proofs.Ytbpmjgpfjlnlpaa
