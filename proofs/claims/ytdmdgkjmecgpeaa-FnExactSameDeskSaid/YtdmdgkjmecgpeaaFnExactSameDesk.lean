
/- That the law FnExactSameDesk holds at every input: the row's step. -/
import Derived.Test.YtdmdgkjmecgpeaaRows
import Derived.Test.YtdmdgkjmecgpeaaDkw
import Derived.WalkKit
import Derived.ProofKit
import Derived.OpenShut
import Derived.ShutString
import Derived.ChangeOld
import Derived.Below
import Derived.Laws.Cover2
namespace Go.Proofs.Ytdmdgkjmecgpeaa.lawFnExactSameDesk
open Go.ChangeShapes Go.WideShapes Go.ChangeAt Go.RowKit
open Go.ChangeMaps (open_string shut_string)
set_option linter.unusedVariables false

theorem own : ownKnob Try.prog.godebug = none := by kernel_rfl
theorem laidOut : laidOutB Try.prog = true := by kernel_rfl

set_option maxRecDepth 100000 in
theorem lifted (os : Os) (started : os.Started) (H : Type) (enc : TypeId × Value → H) :
    ReturnsInHanded {} Try.checked os 4 .any (Rows.fnExactSameDeskSpec.pre6 enc Try.prog Try.f4 Rows.fnExactSameDeskRow.domain false) (Rows.fnExactSameDeskSpec.post enc Try.prog Try.f4 false true false false) := by
  refine returnsInHanded_of_change (C := Try.checked) own started (by kernel_rfl) Try.func4
    (ChangeSpec.witness6 (enc := enc) (C := Try.checked) false ⟨#[], #[.agg #[.slice none 0 0, .slice none 0 0, .int .i64 0, .slice none 0 0, .string (ByteArray.mk #[])], .agg #[.slice none 0 0, .slice none 0 0, .int .i64 0, .slice none 0 0, .string (ByteArray.mk #[])]], []⟩ 8 (by kernel_rfl) (by kernel_rfl) (by kernel_rfl) (by kernel_rfl)) ?_
  intro W base args ds gs before hval0 hW hcnd _
  have hval : ∀ (j : Nat) t v, Try.f4.params[j]? = some t → args[j]? = some v → Value.okWide Try.prog W .any base t v := hval0
  have hW' := hW
  obtain ⟨p, q, hA0, hV, rfl, hfz, hnd⟩ := hW
  have hA : DataW.TrodAll enc Try.prog W 0 (fun _ => true) true Try.f4.params.toList args.toList ds p := hA0
  rw [Try.params4] at hA hval
  obtain ⟨v0, vs0, d0, ds0, p0, q0, hargs, rfl, rfl, h0, r0⟩ := trodAll_cons hA
  obtain ⟨v1, vs1, d1, ds1, p1, q1, rfl, rfl, rfl, h1, r1⟩ := trodAll_cons r0
  obtain ⟨rfl, rfl, rfl⟩ := trodAll_nil r1
  obtain rfl : args = #[v0, v1] := by cases args; simp_all
  obtain ⟨rfl, rfl⟩ := trodVars_none hV
  obtain ⟨cs0, rfl, hs0⟩ := okWide_struct Try.underlying29 (hval 0 29 v0 rfl rfl)
  have k0 := h0
  have lt0 : ∀ x ∈ p0, x.block < W.heap.size := by obtain ⟨m, hm⟩ := k0; exact DataW.trod_lt m _ _ _ hm
  obtain ⟨aa0, na0, ca0, za0, ab0, nb0, cb0, zb0, tr0, ac0, nc0, cc0, zc0, ts0, hcs0, wa0, wb0, wc0, wf0, mx0, my0, mz0, mt0⟩ : ∃ a1 n1 c1 z1 a2 n2 c2 z2 r a3 n3 c3 z3 s, cs0.toList = [.slice a1 n1 c1, .slice a2 n2 c2, .int .i64 r, .slice a3 n3 c3, .string s] ∧ FRow W a1 n1 z1 ∧ IRow W a2 n2 z2 ∧ IRow W a3 n3 z3 ∧ Wf z1 n1 ∧ n1 ≤ 9223372036854775807 ∧ n2 ≤ 9223372036854775807 ∧ n3 ≤ 9223372036854775807 ∧ s.size ≤ 9223372036854775807 := by
    obtain ⟨fuel, hf⟩ := h0
    exact open_D2 hf (by have := hs0; rw [cellsD5] at this; simpa [Value.cells] using this)
  obtain rfl : cs0 = #[.slice aa0 na0 ca0, .slice ab0 nb0 cb0, .int .i64 tr0, .slice ac0 nc0 cc0, .string ts0] := by cases cs0; simp_all
  obtain ⟨cs1, rfl, hs1⟩ := okWide_struct Try.underlying29 (hval 1 29 v1 rfl rfl)
  have k1 := h1
  have lt1 : ∀ x ∈ p1, x.block < W.heap.size := by obtain ⟨m, hm⟩ := k1; exact DataW.trod_lt m _ _ _ hm
  obtain ⟨aa1, na1, ca1, za1, ab1, nb1, cb1, zb1, tr1, ac1, nc1, cc1, zc1, ts1, hcs1, wa1, wb1, wc1, wf1, mx1, my1, mz1, mt1⟩ : ∃ a1 n1 c1 z1 a2 n2 c2 z2 r a3 n3 c3 z3 s, cs1.toList = [.slice a1 n1 c1, .slice a2 n2 c2, .int .i64 r, .slice a3 n3 c3, .string s] ∧ FRow W a1 n1 z1 ∧ IRow W a2 n2 z2 ∧ IRow W a3 n3 z3 ∧ Wf z1 n1 ∧ n1 ≤ 9223372036854775807 ∧ n2 ≤ 9223372036854775807 ∧ n3 ≤ 9223372036854775807 ∧ s.size ≤ 9223372036854775807 := by
    obtain ⟨fuel, hf⟩ := h1
    exact open_D2 hf (by have := hs1; rw [cellsD5] at this; simpa [Value.cells] using this)
  obtain rfl : cs1 = #[.slice aa1 na1 ca1, .slice ab1 nb1 cb1, .int .i64 tr1, .slice ac1 nc1 cc1, .string ts1] := by cases cs1; simp_all
  clear hA0 hval0
  refine (dsl_walk aa0 na0 ca0 za0 ab0 nb0 cb0 zb0 tr0 ac0 nc0 cc0 zc0 ts0 aa1 na1 ca1 za1 ab1 nb1 cb1 zb1 tr1 ac1 nc1 cc1 zc1 ts1 W wa0 wb0 wc0 wf0 mx0 my0 mz0 mt0 wa1 wb1 wc1 wf1 mx1 my1 mz1 mt1).mono fun e W' ⟨he, bel⟩ => ?_
  subst he
  exact ⟨_, rfl, _, _, _, [], _, [], hW', trodAll_mk1 (shut_bool Try.underlying4 _), (trodAll_cons_mk (Below.trod laidOut (by kernel_rfl) (of_decide_eq_true (by kernel_rfl)) k0 bel lt0) (trodAll_cons_mk (Below.trod laidOut (by kernel_rfl) (of_decide_eq_true (by kernel_rfl)) k1 bel lt1) trodAll_mk0)), rfl, bel.frame _, fun h => by cases h⟩

theorem over : Rows.fnExactSameDeskRow.holds Try.pinned (OpenSpec.ofChange Rows.fnExactSameDeskSpec) :=
  OpenClaim.holds_of_wide 4 Try.f4 rfl rfl rfl rfl rfl rfl rfl ⟨rfl, rfl, rfl, rfl, rfl⟩ rfl rfl rfl rfl rfl (by kernel_rfl) Try.func4 (by kernel_rfl)
    (of_decide_eq_true (by kernel_rfl)) (by unfold Func.isWrapper; first | (rw [if_pos (by decide +kernel)]; kernel_rfl) | (rw [if_neg (by decide +kernel)]; exact ⟨rfl, rfl⟩))
    (fun os started H enc _ => lifted os started H enc)

theorem proved : Rows.FnExactSameDeskSaid := over
end Go.Proofs.Ytdmdgkjmecgpeaa.lawFnExactSameDesk
