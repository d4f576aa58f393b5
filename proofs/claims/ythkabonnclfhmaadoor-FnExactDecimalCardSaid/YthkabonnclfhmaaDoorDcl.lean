
/- Decimal: the law. -/
import Derived.Test.YthkabonnclfhmaaDoorDcf
namespace Go.Proofs.YthkabonnclfhmaaDoor
open Go.Proofs.YthkabonnclfhmaaDoor.Flo Go.RowKit Go.Proofs.YthkabonnclfhmaaDoor.Dcn

set_option maxRecDepth 100000 in
theorem decl_walk (n : Int) (w : World) (hw : (Lit.int .i64 n).wf = true) (hT : Lib.TabIs Tryd.prog w "internal/strconv.uint64pow10" .u64 Lib.pow10Tab) :
    Calls Tryd.prog 3 #[.int .i64 n] w fun e w' => e = .returned (.bool true) ∧ Below w.heap.size w w' := by
  have hb : -9223372036854775808 ≤ n ∧ n ≤ 9223372036854775807  := by
    simp only [Lit.wf, Bool.and_eq_true, decide_eq_true_eq] at hw
    simpa [IntKind.has, IntKind.min, IntKind.max, IntKind.bits, IntKind.signed] using hw
  have HS := Lib.hid (fun W => dec_spec n hb.1 hb.2 W)
  have HI := Lib.hid (fun W (h : Below w.heap.size w W) => dec_impl n hb.1 hb.2 w W (Pow.of hT) h)
  clear hT
  generalize Lib.itoa n = L at HS HI
  go_enter Tryd.func3, Tryd.ntmps3
  go_wp2_with (first | (go_at_call 62; refine (HS.out _).mono ?_; rintro e w2 ⟨rfl, hb2⟩; have HB := Lib.hid hb2; clear hb2) | (go_at_call 16; refine (HI.out _ HB.out).mono ?_; rintro e w3 ⟨rfl, hb3⟩; have HB3 := Lib.hid (Below.next HB.out hb3); clear hb3) | go_in)
  go_ret
  exact ⟨rfl, HB3.out⟩
end Go.Proofs.YthkabonnclfhmaaDoor
