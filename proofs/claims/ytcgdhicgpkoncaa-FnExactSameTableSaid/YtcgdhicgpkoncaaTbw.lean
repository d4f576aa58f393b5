/- Tables: how one is opened; the laws of ValidTable and TableEntropy. -/
import Derived.Test.YtcgdhicgpkoncaaTbl
import Derived.Test.YtcgdhicgpkoncaaSlo
import Derived.Test.YtcgdhicgpkoncaaIro
import Derived.Deep.Strs
namespace Go.Proofs.Ytcgdhicgpkoncaa
open Go.Proofs.Ytcgdhicgpkoncaa.Flo Go.RowKit

theorem cellsI : Try.prog.cellsOf 2 = 1 := by kernel_rfl
theorem cellsS : Try.prog.cellsOf 22 = 1 := by kernel_rfl
theorem cellsF : Try.prog.cellsOf 23 = 1 := by kernel_rfl
theorem cellsT : Try.prog.cellsOf 41 = 3 := by kernel_rfl
section
open Go.ChangeShapes Go.WideShapes Go.Deep
variable {H : Type} {enc : TypeId × Value → H} {w : World} {base : Nat} {spare : Nat → Bool} {held : Bool}
set_option maxRecDepth 100000 in
theorem open_table {fuel : Nat} {cs : List Value} {x : DataW H × List MemPlace} (h : DataW.trod enc Try.prog w base spare held fuel 41 cs = some x) (hs : cs.length = 3) :
    ∃ r c a n cap zs, cs = [.int .i64 r, .int .i64 c, .slice a n cap] ∧ FRow w a n zs ∧ n ≤ 9223372036854775807 := by
  obtain ⟨y0, y1, y2, m, -, -, h0, h1, h2⟩ := trod_struct3 Try.underlying41 h
  match cs, hs with
  | [v0, v1, v2], _ =>
    simp only [cellsI, cellsS, List.drop, List.take] at h0 h1 h2
    obtain ⟨r, e0, _⟩ := trod_i64 Try.underlying2 h0
    obtain ⟨c, e1, _⟩ := trod_i64 Try.underlying2 h1
    rcases open_slice1 Try.underlying22 cellsF h2 with ⟨e2, _⟩ | ⟨y, l, k, mm, q, V, D, Pl, e2, _, hl, hk, _⟩
    · simp at e0 e1 e2
      subst e0; subst e1; subst e2
      obtain ⟨zs, hz⟩ := open_frow Try.underlying22 Try.underlying23 cellsF h2
      exact ⟨r, c, none, 0, 0, zs, rfl, hz, by omega⟩
    · simp at e0 e1 e2
      subst e0; subst e1; subst e2
      obtain ⟨zs, hz⟩ := open_frow Try.underlying22 Try.underlying23 cellsF h2
      unfold maxLen at hk
      exact ⟨r, c, some y, l, k, zs, rfl, hz, by omega⟩
end
end Go.Proofs.Ytcgdhicgpkoncaa
