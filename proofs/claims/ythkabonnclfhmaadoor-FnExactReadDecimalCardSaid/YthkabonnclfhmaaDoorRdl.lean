
/- ReadDecimal: the law. -/
import Derived.Test.YthkabonnclfhmaaDoorRdw
namespace Go.Proofs.YthkabonnclfhmaaDoor
open Go.Proofs.YthkabonnclfhmaaDoor.Flo Go.RowKit Go.Proofs.YthkabonnclfhmaaDoor.Dcn

set_option maxRecDepth 100000 in
set_option maxHeartbeats 2000000 in
theorem rdl_walk (s : ByteArray) (w : World) (hm : s.size ≤ maxLen) (hT : Lib.TabIs Tryd.prog w "internal/strconv.uint64pow10" .u64 Lib.pow10Tab) {t1 t2 : TypeId} {p1 p2 : Value} (h1 : w.var? Tryd.prog "strconv.ErrSyntax" = some #[.iface t1 p1]) (h2 : w.var? Tryd.prog "strconv.ErrRange" = some #[.iface t2 p2]) :
    Calls Tryd.prog 4 #[.string s] w fun e w' => e = .returned (.bool true) ∧ Below w.heap.size w w' := by
  unfold maxLen at hm
  by_cases hs : s.size ≤ 1048576
  · have d1 : decide (1048576 < (s.size : Int)) = false := decide_eq_false (by omega)
    have HS := Lib.hid (fun W => rv_spec s hs W)
    cases hr : rdO s.data.toList with
    | some v =>
      have HI := Lib.hid (fun W (h : Below w.heap.size w W) => rd_yes s v hr hs w W (Pow.of hT) h)
      have HR := Lib.hid hr
      clear hT h1 h2 hr hs hm
      go_enter Tryd.func4, Tryd.ntmps4
      go_wp2_with (first | (go_at_call 64; refine (HS.out _).mono ?_; rintro e w2 ⟨he, _, hb2⟩; have he := he _ HR.out; subst he; have HB := Lib.hid hb2; clear hb2) | (go_at_call 18; refine (HI.out _ HB.out).mono ?_; rintro e w3 ⟨rfl, hb3⟩; have HB3 := Lib.hid (Below.next HB.out hb3); clear hb3) | go_in)
      go_ret
      exact ⟨rfl, HB3.out⟩
    | none =>
      have HI := Lib.hid (fun W (h : Below w.heap.size w W) => rd_no s hr hs w W (Pow.of hT) (Errs.of h1 h2) h)
      have HR := Lib.hid hr
      clear hT h1 h2 hr hs hm
      go_enter Tryd.func4, Tryd.ntmps4
      go_wp2_with (first | (go_at_call 64; refine (HS.out _).mono ?_; rintro e w2 ⟨_, he, hb2⟩; have he := he HR.out; subst he; have HB := Lib.hid hb2; clear hb2) | (go_at_call 18; refine (HI.out _ HB.out).mono ?_; rintro e w3 ⟨rfl, hb3⟩; have HB3 := Lib.hid (Below.next HB.out hb3); clear hb3) | go_in)
      go_ret
      exact ⟨rfl, HB3.out⟩
  · have d1 : decide (1048576 < (s.size : Int)) = true := decide_eq_true (by omega)
    clear hT h1 h2 hs hm
    go_enter Tryd.func4, Tryd.ntmps4
    go_wp2
    go_ret
    exact ⟨rfl, Below.refl _ _⟩
end Go.Proofs.YthkabonnclfhmaaDoor
