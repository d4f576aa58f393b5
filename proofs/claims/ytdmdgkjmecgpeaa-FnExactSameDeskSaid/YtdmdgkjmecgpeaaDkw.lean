
/- Desk: a value of the harness's, opened; its numbers have 32 bits. -/
import Derived.Test.YtdmdgkjmecgpeaaDsn
import Derived.Test.YtdmdgkjmecgpeaaDkk
namespace Go.Proofs.Ytdmdgkjmecgpeaa
open Go.Proofs.Ytdmdgkjmecgpeaa.Flo Go.RowKit

section
open Go.ChangeShapes Go.WideShapes Go.Deep
variable {H : Type} {enc : TypeId × Value → H} {w : World} {base : Nat} {held : Bool}
set_option maxRecDepth 100000 in
theorem open_D2 {fuel : Nat} {cs : List Value} {x : DataW H × List MemPlace} (h : DataW.trod enc Try.prog w base (fun _ => true) held fuel 29 cs = some x) (hs : cs.length = 5) :
    ∃ a1 n1 c1 z1 a2 n2 c2 z2 r a3 n3 c3 z3 s, cs = [.slice a1 n1 c1, .slice a2 n2 c2, .int .i64 r, .slice a3 n3 c3, .string s] ∧ FRow w a1 n1 z1 ∧ IRow w a2 n2 z2 ∧ IRow w a3 n3 z3 ∧ Wf z1 n1 ∧ n1 ≤ 9223372036854775807 ∧ n2 ≤ 9223372036854775807 ∧ n3 ≤ 9223372036854775807 ∧ s.size ≤ 9223372036854775807 := by
  obtain ⟨y0, y1, y2, y3, k, -, -, h0, h1, h2, h3⟩ := Go.Joins.trod_struct4 Try.underlying29 h
  match cs, hs with
  | [v0, v1, v2, v3, v4], _ =>
    simp only [cellsTD, cellsFD, cellsCD, cellsPD, List.drop, List.take] at h0 h1 h2 h3
    obtain ⟨a1, n1, c1, e0, hn1⟩ := open_slD Try.underlying22 cellsfD h0
    obtain ⟨a2, n2, c2, z2, e1, hz2, hn2⟩ := open_code h1 rfl
    obtain ⟨r, a3, n3, c3, z3, e2, hz3, hn3⟩ := open_Y h2 rfl
    obtain ⟨s, e3, hs0⟩ := trod_strD Try.underlying9 h3
    simp at e1 e2 e3
    obtain ⟨e2, e4⟩ := e2
    subst e0; subst e1; subst e2; subst e3; subst e4
    obtain ⟨z1, hz1, hw1⟩ := open_frow2 Try.underlying22 Try.underlying58 cellsfD h0
    exact ⟨a1, n1, c1, z1, a2, n2, c2, z2, r, a3, n3, c3, z3, s, rfl, hz1, hz2, hz3, hw1, hn1, hn2, hn3, hs0⟩
end
end Go.Proofs.Ytdmdgkjmecgpeaa
