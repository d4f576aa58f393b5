
/- The near words of a code: what both answer. -/
import Derived.Test.YtjlifbnenngijaaDoorLwi
import Derived.Test.YtjlifbnenngijaaDoorCoy
set_option linter.unusedVariables false
namespace Go.Proofs.YtjlifbnenngijaaDoor
open Go.Proofs.YtjlifbnenngijaaDoor.Flo Go.RowKit Go.Sort Go.Proofs.YtjlifbnenngijaaDoor.Pr

theorem eqMIz (a b : Option Addr) (cap capb : Nat) (w w0 : World) (L : List (Nat × Ent)) (h : Mine w0 w L) :
    Calls Tryd.prog 27 #[.slice a 0 cap, .slice b 0 capb] w fun e w' => e = .returned (.bool true) ∧ Mine w0 w' L := by
  refine (eqI a b 0 cap capb [] w ⟨rfl, .inl rfl⟩ ⟨rfl, .inl rfl⟩ (Nat.zero_le _)).mono ?_
  rintro e w' ⟨he, d⟩
  exact ⟨he, h.below d.below⟩
theorem markIz (a : Option Addr) (cap : Nat) (k0 : Int) (w : World) : Calls Tryd.prog 28 #[.slice a 0 cap, .int .i64 k0] w fun e w' => e = .returned (.int .i64 k0) ∧ w = w' := by
  go_enter Tryd.func28, Tryd.ntmps28
  go_wp2
  refine wp_loop_rounds 1 ?_
  rw [rounds_succ]
  go_wp2
  go_ret
  exact ⟨rfl, rfl⟩
theorem heldIz (a : Option Addr) (cap : Nat) (k0 : Int) (w : World) : Calls Tryd.prog 29 #[.slice a 0 cap, .int .i64 k0] w fun e w' => e = .returned (.int .i64 k0) ∧ w = w' := by
  go_enter Tryd.func29, Tryd.ntmps29
  go_wp2
  refine wp_loop_rounds 1 ?_
  rw [rounds_succ]
  go_wp2
  go_ret
  exact ⟨rfl, rfl⟩

theorem lw_new {w w' : World} {v : Value} {K : Nat} {L : List Int} (ho : w'.ownsRow w.heap.size 2 1 v K (L.map (Value.int .i64))) (hb : Below w.heap.size w w') (hK : K ≠ 0) : ∃ g cp, v = .slice (some ⟨g, 0, none⟩) K cp ∧ New w w' g (.il K L) := by
  have hv : v ≠ .slice none 0 0 := by
    rintro rfl
    rcases ho.2 with ⟨_, h0⟩ | ⟨g, c, cur, e, _⟩
    · exact hK h0
    · cases e
  obtain ⟨g, cp, rfl, h1, h2, _, _, h3, h4⟩ := Lib.holds_of_ownsRow ho hv
  refine ⟨g, cp, rfl, h1, h2, ?_, hb⟩
  refine ⟨h3, fun i hi => ?_⟩
  have hi : i < K := hi
  have h5 := h4 i (by simpa [h3] using hi)
  rw [Nat.zero_add] at h5
  refine ⟨h5.1.trans ?_, h5.2⟩
  have e : L.toArray[i]! = L.getD i 0 := by
    rw [List.getElem!_toArray, List.getD_eq_getElem?_getD, List.getElem!_eq_getElem?_getD]
    rfl
  rw [e]
  rfl
theorem lw_nil {w w' : World} {v : Value} {K : Nat} {xs : List Value} (ho : w'.ownsRow w.heap.size 2 1 v K xs) (hK : K = 0) : ∃ b cp, v = .slice b 0 cp := by
  rcases ho.2 with ⟨rfl, _⟩ | ⟨g, cp, cur, rfl, _⟩
  · exact ⟨none, 0, rfl⟩
  · exact ⟨_, cp, by rw [hK]⟩
theorem lwB_no {r : Int} {zs : List Int} {n : Nat} {x far : Int} (h : lwB r zs n x far = false) : paB r zs n = false ∨ (paB r zs n = true ∧ woB x r.toNat = false) ∨ (paB r zs n = true ∧ woB x r.toNat = true ∧ ¬ (0 ≤ far ∧ far ≤ 16)) := by
  unfold lwB at h
  cases h1 : paB r zs n with
  | false => exact .inl rfl
  | true =>
    cases h2 : woB x r.toNat with
    | false => exact .inr (.inl ⟨rfl, rfl⟩)
    | true => rw [h1, h2] at h; exact .inr (.inr ⟨rfl, rfl, of_decide_eq_false (by simpa using h)⟩)
theorem lwB_yes {r : Int} {zs : List Int} {n : Nat} {x far : Int} (h : lwB r zs n x far = true) : paB r zs n = true ∧ woB x r.toNat = true ∧ (0 ≤ far ∧ far ≤ 16) := by
  unfold lwB at h
  rw [Bool.and_eq_true, Bool.and_eq_true] at h
  exact ⟨h.1, h.2.1, of_decide_eq_true h.2.2⟩
theorem lwK_le {r : Int} {zs : List Int} {n : Nat} {x far : Int} (h : lwB r zs n x far = true) : lwK zs n x far ≤ 1048576 := by
  have h8 := (pa_out (lwB_yes h).1).2.1.2
  unfold lwK lwL
  rw [srt_len]
  have h1 := nf_len (zN zs) n x.toNat far.toNat (2 ^ n)
  have hp8 : 2 ^ n ≤ 2 ^ 8 := Nat.pow_le_pow_right (by decide) h8
  omega
theorem lwSF (r : Int) (a : Option Addr) (n cap : Nat) (zs : List Int) (x far : Int) (w : World) (h : IRow w a n zs) (hn : n ≤ 1048576) (hok : lwB r zs n x far = false) : Calls Tryd.prog 25 #[.agg #[.int .i64 r, .slice a n cap], .int .i64 x, .int .i64 far] w fun e w' => e = .returned (.tuple #[.slice none 0 0, .bool false]) ∧ Below w.heap.size w w' := by
  rcases lwB_no hok with h1 | ⟨h1, h2⟩ | ⟨h1, h2, h3⟩
  · exact lw_specA r a n cap zs x far w h hn h1
  · exact lw_specN r a n cap zs x far w h hn h1 h2
  · exact lw_specF r a n cap zs x far w h hn h1 h2 h3
theorem lwSY (r : Int) (a : Option Addr) (n cap : Nat) (zs : List Int) (x far : Int) (w : World) (h : IRow w a n zs) (hn : n ≤ 1048576) (hok : lwB r zs n x far = true) (hpos : lwK zs n x far ≠ 0) : Calls Tryd.prog 25 #[.agg #[.int .i64 r, .slice a n cap], .int .i64 x, .int .i64 far] w fun e w' => ∃ g cp, e = .returned (.tuple #[.slice (some ⟨g, 0, none⟩) (lwK zs n x far) cp, .bool true]) ∧ New w w' g (.il (lwK zs n x far) (lwL zs n x far)) := by
  obtain ⟨h1, h2, h3⟩ := lwB_yes hok
  refine (lw_specY r a n cap zs x far w h hn h1 h2 h3).mono ?_
  rintro e w' ⟨v, rfl, ho, hb⟩
  obtain ⟨g, cp, rfl, hn9⟩ := lw_new ho hb hpos
  exact ⟨g, cp, rfl, hn9⟩
theorem lwS0 (r : Int) (a : Option Addr) (n cap : Nat) (zs : List Int) (x far : Int) (w : World) (h : IRow w a n zs) (hn : n ≤ 1048576) (hok : lwB r zs n x far = true) (hz : lwK zs n x far = 0) : Calls Tryd.prog 25 #[.agg #[.int .i64 r, .slice a n cap], .int .i64 x, .int .i64 far] w fun e w' => ∃ b cp, e = .returned (.tuple #[.slice b 0 cp, .bool true]) ∧ Below w.heap.size w w' := by
  obtain ⟨h1, h2, h3⟩ := lwB_yes hok
  refine (lw_specY r a n cap zs x far w h hn h1 h2 h3).mono ?_
  rintro e w' ⟨v, rfl, ho, hb⟩
  obtain ⟨b, cp, rfl⟩ := lw_nil ho hz
  exact ⟨b, cp, rfl, hb⟩
theorem lwIF (r : Int) (a : Option Addr) (n cap : Nat) (zs : List Int) (x far : Int) (w0 w : World) (hp : Db w0) (hb0 : Below w0.heap.size w0 w) (h : IRow w a n zs) (hn : n ≤ 1048576) (hok : lwB r zs n x far = false) : Calls Tryd.prog 26 #[.agg #[.int .i64 r, .slice a n cap], .int .i64 x, .int .i64 far] w fun e w' => e = .returned (.tuple #[.slice none 0 0, .bool false]) ∧ Below w.heap.size w w' := by
  rcases lwB_no hok with h1 | ⟨h1, h2⟩ | ⟨h1, h2, h3⟩
  · exact lw_implA r a n cap zs x far w0 w hp hb0 h hn h1
  · exact lw_implN r a n cap zs x far w0 w hp hb0 h hn h1 h2
  · exact lw_implF r a n cap zs x far w0 w hp hb0 h hn h1 h2 h3
theorem lwIY (r : Int) (a : Option Addr) (n cap : Nat) (zs : List Int) (x far : Int) (w0 w : World) (hp : Db w0) (hb0 : Below w0.heap.size w0 w) (h : IRow w a n zs) (hn : n ≤ 1048576) (hok : lwB r zs n x far = true) (hpos : lwK zs n x far ≠ 0) : Calls Tryd.prog 26 #[.agg #[.int .i64 r, .slice a n cap], .int .i64 x, .int .i64 far] w fun e w' => ∃ g cp, e = .returned (.tuple #[.slice (some ⟨g, 0, none⟩) (lwK zs n x far) cp, .bool true]) ∧ New w w' g (.il (lwK zs n x far) (lwL zs n x far)) := by
  obtain ⟨h1, h2, h3⟩ := lwB_yes hok
  obtain ⟨b1, o1, rfl⟩ := irow_some h (pa_out h1).2.1.1
  refine (lw_implY r b1 o1 n cap zs x far w0 w hp hb0 h hn h1 h2 h3).mono ?_
  rintro e w' ⟨v, rfl, ho, hb⟩
  obtain ⟨g, cp, rfl, hn9⟩ := lw_new ho hb hpos
  exact ⟨g, cp, rfl, hn9⟩
theorem lwI0 (r : Int) (a : Option Addr) (n cap : Nat) (zs : List Int) (x far : Int) (w0 w : World) (hp : Db w0) (hb0 : Below w0.heap.size w0 w) (h : IRow w a n zs) (hn : n ≤ 1048576) (hok : lwB r zs n x far = true) (hz : lwK zs n x far = 0) : Calls Tryd.prog 26 #[.agg #[.int .i64 r, .slice a n cap], .int .i64 x, .int .i64 far] w fun e w' => ∃ b cp, e = .returned (.tuple #[.slice b 0 cp, .bool true]) ∧ Below w.heap.size w w' := by
  obtain ⟨h1, h2, h3⟩ := lwB_yes hok
  obtain ⟨b1, o1, rfl⟩ := irow_some h (pa_out h1).2.1.1
  refine (lw_implY r b1 o1 n cap zs x far w0 w hp hb0 h hn h1 h2 h3).mono ?_
  rintro e w' ⟨v, rfl, ho, hb⟩
  obtain ⟨b, cp, rfl⟩ := lw_nil ho hz
  exact ⟨b, cp, rfl, hb⟩
end Go.Proofs.YtjlifbnenngijaaDoor
