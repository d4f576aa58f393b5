/- Leaders: the model's call, what is refused. -/
import Derived.Test.YtaefmffmjbabcaaLdi
import Derived.WalkMore
set_option linter.unusedVariables false
namespace Go.Proofs.Ytaefmffmjbabcaa
open Go.Proofs.Ytaefmffmjbabcaa.Flo Go.RowKit Go.Proofs.Ytaefmffmjbabcaa.Pr

/-- How many leaders there are, and which. -/
def loN (r : Int) (zs : List Int) (n : Nat) : Nat := 2 ^ (duL r zs n).length
def loL (r : Int) (zs : List Int) (n : Nat) : List Int := (List.range (loN r zs n)).map fun s => LdX.ldM wt (fun x => od (zN (duL r zs n)) x (duL r zs n).length) (2 ^ r.toNat) s
theorem lo_le {r : Int} {zs : List Int} {n : Nat} (h : duB r zs n = true) : loN r zs n ≤ 256 := Nat.pow_le_pow_right (by decide) (pa_out (duB_out h).2).2.1.2
theorem new_row {w W : World} {g M : Nat} {L : List Int} {F : Nat → Int} (h : New w W g (.il M L)) (e : ∀ s, s < M → L.getD s 0 = F s) : New w W g (.il M ((List.range M).map F)) :=
  ⟨h.1, h.2.1, ⟨(by show ((List.range M).map F).length = M; simp), fun i hi => ⟨((ICl.of h).cell hi).1.trans (congrArg (fun z => some (Value.int .i64 z)) ((e i hi).trans (range_at (show i < M from hi)).symm)), ((ICl.of h).cell hi).2⟩⟩, h.2.2.2⟩
set_option maxRecDepth 100000 in
set_option maxHeartbeats 2000000 in
theorem lo_specNo (r : Int) (a : Option Addr) (n cap : Nat) (zs : List Int) (w : World) (h : IRow w a n zs) (hn : n ≤ 1048576) (hok : duB r zs n = false) : Calls Try.prog 14 #[.agg #[.int .i64 r, .slice a n cap]] w fun e w' => e = .returned (.tuple #[.slice none 0 0, .bool false]) ∧ Below w.heap.size w w' := by
  have HA2 := Lib.hid (h.alloc (.cells #[.int .i64 r, .slice a n cap] 28))
  have HOK := Lib.hid hok
  clear h hok
  go_enter Try.func14, Try.ntmps14
  go_wp2_with (first | (go_at_call 55; refine (du_specNo r _ n cap zs _ HA2.out hn HOK.out).mono ?_; rintro e w2 ⟨rfl, hd⟩; have HB := Lib.hid (Below.next (Below.next (below_alloc _ _) hd : Below w.heap.size w w2) (below_alloc w2 (.cells #[.int .i64 0, .slice none 0 0] 28))); clear hd) | fail)
  exact bodyPost_ret (v := .tuple #[.slice none 0 0, .bool false]) (by simp [results, Try.results14, go_sem]) rfl ⟨rfl, HB.out⟩
set_option maxRecDepth 100000 in
set_option maxHeartbeats 4000000 in
theorem lo_specYes (r : Int) (a : Option Addr) (n cap : Nat) (zs : List Int) (w : World) (h : IRow w a n zs) (hn : n ≤ 1048576) (hok : duB r zs n = true) : Calls Try.prog 14 #[.agg #[.int .i64 r, .slice a n cap]] w fun e w' => ∃ g cp, e = .returned (.tuple #[.slice (some ⟨g, 0, none⟩) (loN r zs n) cp, .bool true]) ∧ New w w' g (.il (loN r zs n) (loL r zs n)) := by
  obtain ⟨⟨hr1, hr2⟩, ⟨hK1, hK2⟩, hwz, _⟩ := pa_out (duB_out hok).2
  obtain ⟨m, rfl⟩ : ∃ m : Nat, r = (m : Int) := ⟨r.toNat, by omega⟩
  unfold loN loL loN
  rw [Int.toNat_natCast] at hwz ⊢
  have hm16 : m ≤ 16 := by omega
  have HWZ := Lib.hid (woP_wide hwz hm16)
  have HA2 := Lib.hid (h.alloc (.cells #[.int .i64 (m : Int), .slice a n cap] 28))
  have HC := Lib.hid (Kin.new (w := w) (x := .int .i64 (m : Int)) (y := .slice a n cap) (T := 28))
  have HDU : Hid (∀ w3 : World, IRow w3 a n zs → Calls Try.prog 55 #[.agg #[.int .i64 (m : Int), .slice a n cap]] w3 fun e w' => ∃ g cp, e = .returned (.tuple #[.agg #[.int .i64 (m : Int), .slice (some ⟨g, 0, none⟩) (duL (m : Int) zs n).length cp], .bool true]) ∧ New w3 w' g (.il (duL (m : Int) zs n).length (duL (m : Int) zs n))) := Lib.hid (fun w3 h1 => du_specYes (m : Int) a n cap zs w3 h1 hn hok)
  generalize hDD : duL (m : Int) zs n = DL at HDU HWZ hK1 hK2 ⊢
  generalize hKL : DL.length = K at HDU HWZ hK1 hK2 ⊢
  have HLD : Hid (∀ (gg cc : Nat) (w3 : World), IRow w3 (some ⟨gg, 0, none⟩) K DL → Calls Try.prog 56 #[.int .i64 (m : Int), .slice (some ⟨gg, 0, none⟩) K cc] w3 fun e w' => ∃ g cp L, e = .returned (.slice (some ⟨g, 0, none⟩) (2 ^ K) cp) ∧ New w3 w' g (.il (2 ^ K) L) ∧ ∀ s, s < 2 ^ K → L.getD s 0 = LdX.ldM wt (fun x => od (zN DL) x K) (2 ^ m) s) := Lib.hid (fun gg cc w3 h1 => ld_spec m K cc (some ⟨gg, 0, none⟩) DL w3 h1 hK2 HWZ.out hm16)
  generalize 2 ^ K = M at HLD ⊢
  generalize LdX.ldM wt (fun x => od (zN DL) x K) (2 ^ m) = FF at HLD ⊢
  clear h hok hwz hDD hKL
  go_enter Try.func14, Try.ntmps14
  go_wp2_with (first | (go_at_call 55; (with_reducible refine (HDU.out _ HA2.out).mono ?_); rintro e w2 ⟨g, cp, rfl, hnw⟩; have HIC := Lib.hid ((ICl.of hnw).below (below_alloc w2 (.cells #[.int .i64 (m : Int), .slice (some ⟨g, 0, none⟩) K cp] 28))).row; have HC2 := Lib.hid ((HC.out.below hnw.2.2.2).below (below_alloc w2 (.cells #[.int .i64 (m : Int), .slice (some ⟨g, 0, none⟩) K cp] 28))); have HB2 := Lib.hid (Below.next (Below.next (below_alloc _ _) hnw.2.2.2 : Below w.heap.size w w2) (below_alloc w2 (.cells #[.int .i64 (m : Int), .slice (some ⟨g, 0, none⟩) K cp] 28))); have hp0 := HC2.out.2.1; have hs1 := (HC.out.below hnw.2.2.2).1; clear hnw) | (go_at_call 56; (with_reducible refine (HLD.out _ _ _ HIC.out).mono ?_); rintro e w3 ⟨g3, cp3, L, rfl, hn3, hL⟩; have HN3 := Lib.hid (new_row hn3 hL); clear hn3 hL) | fail)
  exact bodyPost_ret (v := .tuple #[.slice (some ⟨g3, 0, none⟩) M cp3, .bool true]) (by simp [results, Try.results14, go_sem]) rfl ⟨g3, cp3, rfl, (Nat.le_trans HB2.out.size HN3.out.1), HN3.out.2.1, HN3.out.2.2.1, Below.next HB2.out HN3.out.2.2.2⟩
set_option maxRecDepth 100000 in
set_option maxHeartbeats 2000000 in
theorem lo_implNo (r : Int) (a : Option Addr) (n cap : Nat) (zs : List Int) (w : World) (h : IRow w a n zs) (hn : n ≤ 1048576) (hok : duB r zs n = false) : Calls Try.prog 16 #[.agg #[.int .i64 r, .slice a n cap]] w fun e w' => e = .returned (.tuple #[.slice none 0 0, .bool false]) ∧ Below w.heap.size w w' := by
  have HA2 := Lib.hid (h.alloc (.cells #[.int .i64 r, .slice a n cap] 28))
  have HOK := Lib.hid hok
  clear h hok
  go_enter Try.func16, Try.ntmps16
  go_wp2
  go_step3
  go_wp2_with (first | (go_at_call 57; refine (du_implNo r _ n cap zs _ HA2.out hn HOK.out).mono ?_; rintro e w2 ⟨rfl, hd⟩; have HB := Lib.hid (Below.next (Below.next (below_alloc _ _) hd : Below w.heap.size w w2) (below_alloc w2 (.cells #[.int .i64 0, .slice none 0 0] 28))); clear hd) | fail)
  rw [Exit.noGoto_ret]
  exact bodyPost_ret (v := .tuple #[.slice none 0 0, .bool false]) (by simp [results, Try.results16, go_sem]) rfl ⟨rfl, HB.out⟩
theorem lo_implYes (r : Int) (a : Option Addr) (n cap : Nat) (zs : List Int) (w : World) (h : IRow w a n zs) (hn : n ≤ 1048576) (hok : duB r zs n = true) : Calls Try.prog 16 #[.agg #[.int .i64 r, .slice a n cap]] w fun e w' => ∃ g cp, e = .returned (.tuple #[.slice (some ⟨g, 0, none⟩) (loN r zs n) cp, .bool true]) ∧ New w w' g (.il (loN r zs n) (loL r zs n)) :=
  (lo_implY r a n cap zs w h hn hok).mono fun _ _ ⟨g, L, h1, h2, h3⟩ => ⟨g, _, h1, new_row h2 h3⟩
end Go.Proofs.Ytaefmffmjbabcaa
