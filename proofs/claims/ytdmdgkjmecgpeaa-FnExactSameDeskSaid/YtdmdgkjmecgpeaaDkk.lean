
/- Desk: a value of the harness's, opened. -/
import Derived.Test.YtdmdgkjmecgpeaaDkl
import Derived.Test.YtdmdgkjmecgpeaaSlo
import Derived.Lib.SmallJoins
namespace Go.Proofs.Ytdmdgkjmecgpeaa
open Go.Proofs.Ytdmdgkjmecgpeaa.Flo Go.RowKit

theorem cellsTD : Try.prog.cellsOf 9 = 1 := by kernel_rfl
theorem cellsFD : Try.prog.cellsOf 22 = 1 := by kernel_rfl
theorem cellsfD : Try.prog.cellsOf 58 = 1 := by kernel_rfl
theorem cellsCD : Try.prog.cellsOf 25 = 1 := by kernel_rfl
theorem cellsPD : Try.prog.cellsOf 27 = 2 := by kernel_rfl
theorem cellsD5 : Try.prog.cellsOf 29 = 5 := by kernel_rfl
section
open Go.ChangeShapes Go.WideShapes Go.Deep
variable {H : Type} {enc : TypeId × Value → H} {w : World} {base : Nat} {held : Bool}
theorem trod_strD {P : Program} {t : TypeId} {fuel : Nat} {cs : List Value} {x : DataW H × List MemPlace} (ht : P.underlying t = some .string) (h : DataW.trod enc P w base (fun _ => true) held fuel t cs = some x) : ∃ s : ByteArray, cs = [.string s] ∧ s.size ≤ 9223372036854775807 := by
  cases fuel with
  | zero => simp [DataW.trod] at h
  | succ n =>
    unfold DataW.trod at h
    rw [ht] at h
    split at h <;> simp_all
    all_goals (try (obtain ⟨h1, h2⟩ := h; simp [maxLen] at h1; omega))
theorem open_slD {t e : TypeId} {P : Program} {fuel : Nat} {v : Value} {x : DataW H × List MemPlace} (ht : P.underlying t = some (.slice e)) (hc : P.cellsOf e = 1) (h : DataW.trod enc P w base (fun _ => true) held fuel t [v] = some x) : ∃ a n cap, v = .slice a n cap ∧ n ≤ 9223372036854775807 := by
  rcases open_slice1 ht hc h with ⟨e2, _⟩ | ⟨y, l, k, mm, q, V, D, Pl, e2, _, hl, hk, _⟩
  · simp at e2
    exact ⟨none, 0, 0, e2, by omega⟩
  · simp at e2
    unfold maxLen at hk
    exact ⟨some y, l, k, e2, by omega⟩
set_option maxRecDepth 100000 in
theorem open_D {fuel : Nat} {cs : List Value} {x : DataW H × List MemPlace} (h : DataW.trod enc Try.prog w base (fun _ => true) held fuel 29 cs = some x) (hs : cs.length = 5) :
    ∃ a1 n1 c1 z1 a2 n2 c2 z2 r a3 n3 c3 z3 s, cs = [.slice a1 n1 c1, .slice a2 n2 c2, .int .i64 r, .slice a3 n3 c3, .string s] ∧ FRow w a1 n1 z1 ∧ IRow w a2 n2 z2 ∧ IRow w a3 n3 z3 ∧ n1 ≤ 9223372036854775807 ∧ n2 ≤ 9223372036854775807 ∧ n3 ≤ 9223372036854775807 ∧ s.size ≤ 9223372036854775807 := by
  obtain ⟨y0, y1, y2, y3, k, -, -, h0, h1, h2, h3⟩ := Go.Joins.trod_struct4 Try.underlying29 h
  match cs, hs with
  | [v0, v1, v2, v3, v4], _ =>
    simp only [cellsTD, cellsFD, cellsCD, cellsPD, List.drop, List.take] at h0 h1 h2 h3
    obtain ⟨a1, n1, c1, e0, hn1⟩ := open_slD Try.underlying22 cellsfD h0
    obtain ⟨a2, n2, c2, z2, e1, hz2, hn2⟩ := open_code h1 rfl
    obtain ⟨r, a3, n3, c3, z3, e2, hz3, hn3⟩ := open_Y h2 rfl
    obtain ⟨s, e3, hs0⟩ := trod_strD Try.underlying9 h3
    simp at e1 e2 e3
    obtain ⟨e2, e4⟩ := e2
    subst e0; subst e1; subst e2; subst e3; subst e4
    obtain ⟨z1, hz1⟩ := open_frow Try.underlying22 Try.underlying58 cellsfD h0
    exact ⟨a1, n1, c1, z1, a2, n2, c2, z2, r, a3, n3, c3, z3, s, rfl, hz1, hz2, hz3, hn1, hn2, hn3, hs0⟩
end
end Go.Proofs.Ytdmdgkjmecgpeaa
