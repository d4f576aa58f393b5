
/- Saved: the laws' helpers, how one is opened, what stays. -/
import Derived.Test.YtnljabgkaelplaaGat
import Derived.Test.YtnljabgkaelplaaTwp
import Derived.Test.YtnljabgkaelplaaSlo
import Derived.Deep.QuietTactic
import Derived.BigQuiet
namespace Go.Proofs.Ytnljabgkaelplaa
open Go.Proofs.Ytnljabgkaelplaa.Flo Go.RowKit

set_option maxRecDepth 100000 in
set_option maxHeartbeats 4000000 in
theorem toV (s : ByteArray) (a : Option Addr) (n cap : Nat) (f : Nat → Bool) (b : Option Addr) (m capb : Nat) (zs : List Nat) (w : World) (ha : BRow w a n f) (hb : FRow w b m zs) (hn : n ≤ 1048576) (hm : m ≤ 1048576) :
    Calls Try.prog 10 #[.agg #[.string s, .slice a n cap, .slice b m capb]] w fun e w' => ∃ p q, e = .returned (.agg #[.string s, .slice (some ⟨p, 0, none⟩) n n, .slice (some ⟨q, 0, none⟩) m m]) ∧ BRow w' (some ⟨p, 0, none⟩) n f ∧ FRow w' (some ⟨q, 0, none⟩) m zs ∧ Below w.heap.size w w' := by
  have HA := Lib.hid (fun W (h : Below w.heap.size w W) => toB a n cap f W (ha.below h) hn)
  have HB := Lib.hid (fun W (h : Below w.heap.size w W) => toF b m capb zs W (hb.below h) hm)
  have HL := Lib.hid hb.1
  clear ha hb
  go_enter Try.func10, Try.ntmps10
  go_wp2_with (first | (go_at_call 37; (refine (HA.out _ ?_).mono ?_); (next => exact (by repeat (first | exact Below.refl _ _ | refine Below.setCell ?_ (by first | (simp; done) | (simp; omega)) _ | refine Below.drewN' ?_ _ | refine Below.drew ?_ | refine Below.alloc ?_ (by first | (simp; done) | (simp; omega)) _))); rintro e w2 ⟨rfl, rfl⟩) | (go_at_call 31; (refine (HB.out _ ?_).mono ?_); (next => exact (by repeat (first | exact Below.refl _ _ | refine Below.setCell ?_ (by first | (simp; done) | (simp; omega)) _ | refine Below.drewN' ?_ _ | refine Below.drew ?_ | refine Below.alloc ?_ (by first | (simp; done) | (simp; omega)) _))); rintro e w3 ⟨rfl, rfl⟩) | fail)
  refine bodyPost_ret (v := .agg #[.string s, .slice (some ⟨w.heap.size + 1 + 1 + 1, 0, none⟩) n n, .slice (some ⟨w.heap.size + 1 + 1 + 1 + 1, 0, none⟩) m m]) (by simp [results, Try.results10, go_sem]) rfl ⟨_, _, rfl, ?_, ?_, ?_⟩
  · refine .inr ⟨_, 0, rfl, by simp <;> omega, fun i hi => ?_⟩
    rw [Nat.zero_add]
    first
      | (rw [World.cell?_alloc_past _ _ _ (by simp), World.cell?_alloc_at _ _ _ _ (by simp)]; exact mixB_get f hi)
      | (rw [World.cell?_alloc_at _ _ _ _ (by simp)]; exact mixB_get f hi)
  · exact FRow.new' HL.out (by simp) _
  · exact (by repeat (first | exact Below.refl _ _ | refine Below.setCell ?_ (by first | (simp; done) | (simp; omega)) _ | refine Below.drewN' ?_ _ | refine Below.drew ?_ | refine Below.alloc ?_ (by first | (simp; done) | (simp; omega)) _))
set_option maxRecDepth 100000 in
set_option maxHeartbeats 4000000 in
theorem eqV (s : ByteArray) (p p2 : Option Addr) (n cap cap2 : Nat) (f : Nat → Bool) (q q2 : Option Addr) (m capb capb2 : Nat) (zs : List Nat) (w : World) (h1 : BRow w p n f) (h2 : BRow w p2 n f) (h3 : FRow w q m zs) (h4 : FRow w q2 m zs) (hn : n ≤ 1048576) (hm : m ≤ 1048576) :
    Calls Try.prog 12 #[.agg #[.string s, .slice p n cap, .slice q m capb], .agg #[.string s, .slice p2 n cap2, .slice q2 m capb2]] w fun e w' => e = .returned (.bool true) ∧ Below w.heap.size w w' := by
  have HA := Lib.hid (fun W (h : Below w.heap.size w W) => eqB p p2 n cap cap2 f W (h1.below h) (h2.below h) hn)
  have HB := Lib.hid (fun W (h : Below w.heap.size w W) => eqF q q2 m capb capb2 zs W (h3.below h) (h4.below h) hm)
  have W0 : Hid (Below w.heap.size w ((w.alloc (.cells #[.string s, .slice p n cap, .slice q m capb] 29)).alloc (.cells #[.string s, .slice p2 n cap2, .slice q2 m capb2] 29))) := Lib.hid (Below.alloc (belowA _ _) (by simp) _)
  clear h1 h2 h3 h4
  go_enter Try.func12, Try.ntmps12
  go_wp2_with (first | (go_at_call 23; (refine (HA.out _ ?_).mono ?_); (next => exact (by repeat (first | exact Below.refl _ _ | refine Below.setCell ?_ (by first | (simp; done) | (simp; omega)) _ | refine Below.drewN' ?_ _ | refine Below.drew ?_ | refine Below.alloc ?_ (by first | (simp; done) | (simp; omega)) _))); rintro e w2 ⟨rfl, d, rfl⟩) | (go_at_call 33; (refine (HB.out _ ?_).mono ?_); (next => exact (by repeat (first | exact Below.refl _ _ | refine Below.setCell ?_ (by first | (simp; done) | (simp; omega)) _ | refine Below.drewN' ?_ _ | refine Below.drew ?_ | refine Below.alloc ?_ (by first | (simp; done) | (simp; omega)) _))); rintro e w3 ⟨rfl, d2, rfl⟩) | fail)
  go_ret
  exact ⟨rfl, (by repeat (first | exact Below.refl _ _ | refine Below.setCell ?_ (by first | (simp; done) | (simp; omega)) _ | refine Below.drewN' ?_ _ | refine Below.drew ?_ | refine Below.alloc ?_ (by first | (simp; done) | (simp; omega)) _))⟩
/-- What is left of a size. -/
def svV (s : ByteArray) (n m : Nat) : Int := if s.size + n + m ≤ 1048576 then 1048576 - (s.size : Int) - n - m else -1
set_option maxRecDepth 100000 in
set_option maxHeartbeats 4000000 in
theorem szV9 (s : ByteArray) (a : Option Addr) (n cap : Nat) (b : Option Addr) (m capb : Nat) (w : World) (hs : s.size ≤ 9223372036854775807) (hn : n ≤ 9223372036854775807) (hm : m ≤ 9223372036854775807) :
    Calls Try.prog 8 #[.agg #[.string s, .slice a n cap, .slice b m capb], .int .i64 1048576] w fun e w' => e = .returned (.int .i64 (svV s n m)) ∧ Below w.heap.size w w' := by
  by_cases h1 : s.size ≤ 1048576
  · have d1 : decide (1048576 - (s.size : Int) < 0) = false := decide_eq_false (by omega)
    by_cases h2 : s.size + n ≤ 1048576
    · have d2 : decide (1048576 - (s.size : Int) - (n : Int) < 0) = false := decide_eq_false (by omega)
      by_cases h3 : s.size + n + m ≤ 1048576
      · have d3 : decide (1048576 - (s.size : Int) - (n : Int) - (m : Int) < 0) = false := decide_eq_false (by omega)
        have HV : Hid (svV s n m = 1048576 - (s.size : Int) - n - m) := Lib.hid (by unfold svV; rw [if_pos h3])
        go_enter Try.func8, Try.ntmps8
        go_wp2
        go_ret
        exact ⟨by rw [HV.out]; rfl, belowA _ _⟩
      · have d3 : decide (1048576 - (s.size : Int) - (n : Int) - (m : Int) < 0) = true := decide_eq_true (by omega)
        have HV : Hid (svV s n m = -1) := Lib.hid (by unfold svV; rw [if_neg h3])
        go_enter Try.func8, Try.ntmps8
        go_wp2
        go_ret
        exact ⟨by rw [HV.out]; rfl, belowA _ _⟩
    · have d2 : decide (1048576 - (s.size : Int) - (n : Int) < 0) = true := decide_eq_true (by omega)
      have HV : Hid (svV s n m = -1) := Lib.hid (by unfold svV; rw [if_neg (by omega)])
      go_enter Try.func8, Try.ntmps8
      go_wp2
      go_ret
      exact ⟨by rw [HV.out]; rfl, belowA _ _⟩
  · have d1 : decide (1048576 - (s.size : Int) < 0) = true := decide_eq_true (by omega)
    have HV : Hid (svV s n m = -1) := Lib.hid (by unfold svV; rw [if_neg (by omega)])
    go_enter Try.func8, Try.ntmps8
    go_wp2
    go_ret
    exact ⟨by rw [HV.out]; rfl, belowA _ _⟩
theorem cellsTV : Try.prog.cellsOf 9 = 1 := by kernel_rfl
theorem cellsBV : Try.prog.cellsOf 22 = 1 := by kernel_rfl
theorem cellsFV : Try.prog.cellsOf 23 = 1 := by kernel_rfl
theorem cellsbV : Try.prog.cellsOf 4 = 1 := by kernel_rfl
theorem cellsfV : Try.prog.cellsOf 87 = 1 := by kernel_rfl
theorem cellsV3 : Try.prog.cellsOf 25 = 3 := by kernel_rfl
section
open Go.ChangeShapes Go.WideShapes Go.Deep
variable {H : Type} {enc : TypeId × Value → H} {w : World} {base : Nat} {held : Bool}
theorem trod_str {P : Program} {t : TypeId} {fuel : Nat} {cs : List Value} {x : DataW H × List MemPlace} (ht : P.underlying t = some .string) (h : DataW.trod enc P w base (fun _ => true) held fuel t cs = some x) : ∃ s : ByteArray, cs = [.string s] ∧ s.size ≤ 9223372036854775807 := by
  cases fuel with
  | zero => simp [DataW.trod] at h
  | succ n =>
    unfold DataW.trod at h
    rw [ht] at h
    split at h <;> simp_all
    all_goals (try (obtain ⟨h1, h2⟩ := h; simp [maxLen] at h1; omega))
theorem open_sl {t e : TypeId} {P : Program} {fuel : Nat} {v : Value} {x : DataW H × List MemPlace} (ht : P.underlying t = some (.slice e)) (hc : P.cellsOf e = 1) (h : DataW.trod enc P w base (fun _ => true) held fuel t [v] = some x) : ∃ a n cap, v = .slice a n cap ∧ n ≤ 9223372036854775807 := by
  rcases open_slice1 ht hc h with ⟨e2, _⟩ | ⟨y, l, k, mm, q, V, D, Pl, e2, _, hl, hk, _⟩
  · simp at e2
    exact ⟨none, 0, 0, e2, by omega⟩
  · simp at e2
    unfold maxLen at hk
    exact ⟨some y, l, k, e2, by omega⟩
set_option maxRecDepth 100000 in
theorem open_V {fuel : Nat} {cs : List Value} {x : DataW H × List MemPlace} (h : DataW.trod enc Try.prog w base (fun _ => true) held fuel 25 cs = some x) (hs : cs.length = 3) :
    ∃ s a n cap f b m capb zs, cs = [.string s, .slice a n cap, .slice b m capb] ∧ BRow w a n f ∧ FRow w b m zs ∧ s.size ≤ 9223372036854775807 ∧ n ≤ 9223372036854775807 ∧ m ≤ 9223372036854775807 := by
  obtain ⟨y0, y1, y2, k, -, -, h0, h1, h2⟩ := trod_struct3 Try.underlying25 h
  match cs, hs with
  | [v0, v1, v2], _ =>
    simp only [cellsTV, cellsBV, cellsFV, List.drop, List.take] at h0 h1 h2
    obtain ⟨s, e0, hs0⟩ := trod_str Try.underlying9 h0
    obtain ⟨a, n, cap, e1, hn⟩ := open_sl Try.underlying22 cellsbV h1
    obtain ⟨b, m, capb, e2, hm⟩ := open_sl Try.underlying23 cellsfV h2
    simp at e0
    subst e0; subst e1; subst e2
    obtain ⟨f, hf⟩ := open_brow Try.underlying22 Try.underlying4 cellsbV h1
    obtain ⟨zs, hz⟩ := open_frow Try.underlying23 Try.underlying87 cellsfV h2
    exact ⟨s, a, n, cap, f, b, m, capb, zs, rfl, hf, hz, hs0, hn, hm⟩
end
end Go.Proofs.Ytnljabgkaelplaa
