/- UnmergeText: what both answer. -/
import Derived.Test.YtbpmjgpfjlnlpaaUmn
namespace Go.Proofs.Ytbpmjgpfjlnlpaa
open Go.Proofs.Ytbpmjgpfjlnlpaa.Flo Go.RowKit

theorem eqMIz (a b : Option Addr) (cap capb : Nat) (w w0 : World) (L : List (Nat × Ent)) (h : Mine w0 w L) :
    Calls Try.prog 31 #[.slice a 0 cap, .slice b 0 capb] w fun e w' => e = .returned (.bool true) ∧ Mine w0 w' L := by
  refine (eqI a b 0 cap capb [] w ⟨rfl, .inl rfl⟩ ⟨rfl, .inl rfl⟩ (Nat.zero_le _)).mono ?_
  rintro e w' ⟨he, d⟩
  exact ⟨he, h.below d.below⟩
theorem markIz (a : Option Addr) (cap : Nat) (k0 : Int) (w : World) : Calls Try.prog 32 #[.slice a 0 cap, .int .i64 k0] w fun e w' => e = .returned (.int .i64 k0) ∧ w = w' := by
  go_enter Try.func32, Try.ntmps32
  go_wp2
  refine wp_loop_rounds 1 ?_
  rw [rounds_succ]
  go_wp2
  go_ret
  exact ⟨rfl, rfl⟩
theorem heldIz (a : Option Addr) (cap : Nat) (k0 : Int) (w : World) : Calls Try.prog 33 #[.slice a 0 cap, .int .i64 k0] w fun e w' => e = .returned (.int .i64 k0) ∧ w = w' := by
  go_enter Try.func33, Try.ntmps33
  go_wp2
  refine wp_loop_rounds 1 ?_
  rw [rounds_succ]
  go_wp2
  go_ret
  exact ⟨rfl, rfl⟩
theorem umB_A {zs : List Int} {m : Nat} {rs : List Int} {q : Nat} {x : Int} (h : umB zs m rs q x = true) : umA zs m rs q x = true ∧ (umR zs rs q x).length ≤ 64 := by
  unfold umB at h
  rw [Bool.and_eq_true] at h
  exact ⟨h.1, of_decide_eq_true h.2⟩
theorem umB_no {zs : List Int} {m : Nat} {rs : List Int} {q : Nat} {x : Int} (h : umB zs m rs q x = false) (hA : umA zs m rs q x = true) : decide ((umR zs rs q x).length ≤ 64) = false := by
  unfold umB at h
  rw [hA, Bool.true_and] at h
  exact h
theorem up_yes {B : Bool} {L : List Int} {w : World} {e : Ending} {w' : World} (h : UPost B L w e w') (hB : B = true) (h0 : L.length ≠ 0) : ∃ g cp, e = .returned (.tuple #[.slice (some ⟨g, 0, none⟩) L.length cp, .bool true]) ∧ New w w' g (.il L.length L) := by
  rcases h with ⟨_, ⟨v, h1, h2⟩, _⟩ | ⟨h1, _⟩
  · rcases h2 with ⟨h2, _⟩ | ⟨_, g, cp, e2, h2⟩
    · exact absurd h2 h0
    · exact ⟨g, cp, by rw [h1, e2], h2⟩
  · rw [hB] at h1; cases h1
theorem up_zero {B : Bool} {L : List Int} {w : World} {e : Ending} {w' : World} (h : UPost B L w e w') (hB : B = true) (h0 : L.length = 0) : ∃ b cp, e = .returned (.tuple #[.slice b 0 cp, .bool true]) ∧ Below w.heap.size w w' := by
  rcases h with ⟨_, ⟨v, h1, h2⟩, hb⟩ | ⟨h1, _⟩
  · rcases h2 with ⟨_, a, cp, e2⟩ | ⟨h2, _⟩
    · exact ⟨a, cp, by rw [h1, e2], hb⟩
    · exact absurd h0 h2
  · rw [hB] at h1; cases h1
theorem up_no {B : Bool} {L : List Int} {w : World} {e : Ending} {w' : World} (h : UPost B L w e w') (hB : B = false) : e = .returned (.tuple #[.slice none 0 0, .bool false]) ∧ Below w.heap.size w w' := by
  rcases h with ⟨h1, _⟩ | ⟨_, h⟩
  · rw [hB] at h1; cases h1
  · exact h
theorem umSY (a : Option Addr) (n cap : Nat) (zs : List Int) (b : Option Addr) (m : Nat) (ys : List Int) (x : Int) (w : World) (h : IRow w a n zs) (hb : IRow w b m ys) (_ : n ≤ 1048576) (_ : m ≤ 1048576) (hok : umB zs n ys m x = true) (hpos : (umR zs ys m x).length ≠ 0) :
    Calls Try.prog 36 #[.slice a n cap, .slice b m m, .int .i64 x] w fun e w' => ∃ g cp, e = .returned (.tuple #[.slice (some ⟨g, 0, none⟩) (umR zs ys m x).length cp, .bool true]) ∧ New w w' g (.il (umR zs ys m x).length (umR zs ys m x)) :=
  (um_spec a n cap zs b m ys x w h hb (umB_A hok).1).mono fun _ _ h => up_yes h (decide_eq_true (umB_A hok).2) hpos
theorem umS0 (a : Option Addr) (n cap : Nat) (zs : List Int) (b : Option Addr) (m : Nat) (ys : List Int) (x : Int) (w : World) (h : IRow w a n zs) (hb : IRow w b m ys) (_ : n ≤ 1048576) (_ : m ≤ 1048576) (hok : umB zs n ys m x = true) (hz : (umR zs ys m x).length = 0) :
    Calls Try.prog 36 #[.slice a n cap, .slice b m m, .int .i64 x] w fun e w' => ∃ b cp, e = .returned (.tuple #[.slice b 0 cp, .bool true]) ∧ Below w.heap.size w w' :=
  (um_spec a n cap zs b m ys x w h hb (umB_A hok).1).mono fun _ _ h => up_zero h (decide_eq_true (umB_A hok).2) hz
theorem umSF (a : Option Addr) (n cap : Nat) (zs : List Int) (b : Option Addr) (m : Nat) (ys : List Int) (x : Int) (w : World) (h : IRow w a n zs) (hb : IRow w b m ys) (hn : n ≤ 1048576) (hm : m ≤ 1048576) (hok : umB zs n ys m x = false) :
    Calls Try.prog 36 #[.slice a n cap, .slice b m m, .int .i64 x] w fun e w' => e = .returned (.tuple #[.slice none 0 0, .bool false]) ∧ Below w.heap.size w w' := by
  cases hA : umA zs n ys m x with
  | true => exact (um_spec a n cap zs b m ys x w h hb hA).mono fun _ _ h => up_no h (umB_no hok hA)
  | false => exact umSN a n cap zs b m ys x w h hb hn hm hA
theorem umIY (a : Option Addr) (n cap : Nat) (zs : List Int) (b : Option Addr) (m : Nat) (ys : List Int) (x : Int) (w : World) (h : IRow w a n zs) (hb : IRow w b m ys) (_ : n ≤ 1048576) (_ : m ≤ 1048576) (hok : umB zs n ys m x = true) (hpos : (umR zs ys m x).length ≠ 0) :
    Calls Try.prog 37 #[.slice a n cap, .slice b m m, .int .i64 x] w fun e w' => ∃ g cp, e = .returned (.tuple #[.slice (some ⟨g, 0, none⟩) (umR zs ys m x).length cp, .bool true]) ∧ New w w' g (.il (umR zs ys m x).length (umR zs ys m x)) :=
  (um_impl a n cap zs b m ys x w h hb (umB_A hok).1).mono fun _ _ h => up_yes h (decide_eq_true (umB_A hok).2) hpos
theorem umI0 (a : Option Addr) (n cap : Nat) (zs : List Int) (b : Option Addr) (m : Nat) (ys : List Int) (x : Int) (w : World) (h : IRow w a n zs) (hb : IRow w b m ys) (_ : n ≤ 1048576) (_ : m ≤ 1048576) (hok : umB zs n ys m x = true) (hz : (umR zs ys m x).length = 0) :
    Calls Try.prog 37 #[.slice a n cap, .slice b m m, .int .i64 x] w fun e w' => ∃ b cp, e = .returned (.tuple #[.slice b 0 cp, .bool true]) ∧ Below w.heap.size w w' :=
  (um_impl a n cap zs b m ys x w h hb (umB_A hok).1).mono fun _ _ h => up_zero h (decide_eq_true (umB_A hok).2) hz
theorem umIF (a : Option Addr) (n cap : Nat) (zs : List Int) (b : Option Addr) (m : Nat) (ys : List Int) (x : Int) (w : World) (h : IRow w a n zs) (hb : IRow w b m ys) (hn : n ≤ 1048576) (hm : m ≤ 1048576) (hok : umB zs n ys m x = false) :
    Calls Try.prog 37 #[.slice a n cap, .slice b m m, .int .i64 x] w fun e w' => e = .returned (.tuple #[.slice none 0 0, .bool false]) ∧ Below w.heap.size w w' := by
  cases hA : umA zs n ys m x with
  | true => exact (um_impl a n cap zs b m ys x w h hb hA).mono fun _ _ h => up_no h (umB_no hok hA)
  | false => exact umIN a n cap zs b m ys x w h hb hn hm hA
end Go.Proofs.Ytbpmjgpfjlnlpaa
