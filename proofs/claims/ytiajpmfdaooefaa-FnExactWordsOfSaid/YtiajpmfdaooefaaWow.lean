/- WordsOf: the functions. -/
import Derived.Test.YtiajpmfdaooefaaWdi
import Derived.Test.YtiajpmfdaooefaaMks
import Derived.Test.YtiajpmfdaooefaaCdv
namespace Go.Proofs.Ytiajpmfdaooefaa
open Go.Proofs.Ytiajpmfdaooefaa.Flo Go.RowKit

set_option maxRecDepth 100000 in
set_option maxHeartbeats 4000000 in
theorem wo_spec (a : Option Addr) (n cap : Nat) (zs : List Int) (w : World) (h : IRow w a n zs) (hn : n ≤ 1048576) (hok : codeB zs n = true) :
    Calls Try.prog 33 #[.agg #[.slice a n cap]] w fun e w' => ∃ g cp, e = .returned (.tuple #[.slice (some ⟨g, 0, none⟩) n cp, .bool true]) ∧ New w w' g (.sl n (wdF zs n n)) := by
  have HA := Lib.hid (h.alloc (.cells #[.slice a n cap] 27))
  obtain ⟨h1, h2, _⟩ := code_out hok
  have HL := Lib.hid h2
  have HBW : Hid (Below w.heap.size w (w.alloc (.cells #[.slice a n cap] 27))) := Lib.hid (below_alloc _ _)
  have HSZ : Hid (w.heap.size < (w.alloc (.cells #[.slice a n cap] 27)).heap.size) := Lib.hid (by simp)
  obtain ⟨h10, h11⟩ := h1
  clear h h2
  go_enter Try.func33, Try.ntmps33
  go_wp2_with (first | (go_at_call 56; refine (cdis_spec _ a n cap zs _ HA.out hn (cell_box _ _ _)).mono ?_; rintro e w' ⟨rfl, rfl⟩) | (go_at_call 66; refine (wd_spec w.heap.size a n cap zs _ HA.out h10 h11 HL.out (cell_box _ _ _) HSZ.out).mono ?_; rintro e w2 ⟨g, rfl, hg⟩; have HG := Lib.hid hg; clear hg) | fail)
  go_ret2
  exact ⟨g, n, rfl, Nat.le_trans HBW.out.size HG.out.1, HG.out.2.1, HG.out.2.2.1, Below.next HBW.out HG.out.2.2.2⟩
set_option maxHeartbeats 2000000 in
theorem wo_spec' (a : Option Addr) (n cap : Nat) (zs : List Int) (w : World) (h : IRow w a n zs) (hn : n ≤ 1048576) (hok : codeB zs n = false) :
    Calls Try.prog 33 #[.agg #[.slice a n cap]] w fun e w' => e = .returned (.tuple #[.slice none 0 0, .bool false]) ∧ Below w.heap.size w w' := by
  have HA := Lib.hid (h.alloc (.cells #[.slice a n cap] 27))
  clear h
  go_enter Try.func33, Try.ntmps33
  go_wp2_with (first | (go_at_call 56; refine (cdis_spec _ a n cap zs _ HA.out hn (cell_box _ _ _)).mono ?_; rintro e w' ⟨rfl, rfl⟩) | fail)
  go_ret2
  exact ⟨rfl, belowA _ _⟩
set_option maxRecDepth 100000 in
set_option maxHeartbeats 4000000 in
theorem wo_impl (a : Option Addr) (n cap : Nat) (zs : List Int) (w : World) (h : IRow w a n zs) (hn : n ≤ 1048576) (hok : codeB zs n = true) :
    Calls Try.prog 34 #[.agg #[.slice a n cap]] w fun e w' => ∃ g cp, e = .returned (.tuple #[.slice (some ⟨g, 0, none⟩) n cp, .bool true]) ∧ New w w' g (.sl n (wdF zs n n)) := by
  have HS := Lib.hid ((Mine.nil w).alloc1 (.slice a n cap) 27)
  have HA := Lib.hid (h.alloc (.cells #[.slice a n cap] 27))
  obtain ⟨h1, h2, _⟩ := code_out hok
  have HL := Lib.hid h2
  obtain ⟨h10, h11⟩ := h1
  clear h h2
  go_enter Try.func34, Try.ntmps34
  go_wp2_with (first | (go_at_call 18; refine (vc_impl a n cap zs _ HA.out hn).mono ?_; rintro e w2 ⟨rfl, hb⟩; replace HA := Lib.hid (HA.out.below hb); replace HS := Lib.hid (HS.out.below hb); obtain ⟨⟨hf0, hf1, hf2⟩, _⟩ := HS.out.facts1; clear hb) | (go_at_call 67; refine (wd_impl a n cap zs _ HA.out h10 h11 HL.out).mono ?_; rintro e w3 ⟨g, rfl, hg⟩; have HG := Lib.hid hg; clear hg) | fail)
  go_ret2
  exact ⟨g, n, rfl, Nat.le_trans HS.out.out.size HG.out.1, HG.out.2.1, HG.out.2.2.1, Below.next HS.out.out HG.out.2.2.2⟩
set_option maxHeartbeats 2000000 in
theorem wo_impl' (a : Option Addr) (n cap : Nat) (zs : List Int) (w : World) (h : IRow w a n zs) (hn : n ≤ 1048576) (hok : codeB zs n = false) :
    Calls Try.prog 34 #[.agg #[.slice a n cap]] w fun e w' => e = .returned (.tuple #[.slice none 0 0, .bool false]) ∧ Below w.heap.size w w' := by
  have HS := Lib.hid ((Mine.nil w).alloc1 (.slice a n cap) 27)
  have HA := Lib.hid (h.alloc (.cells #[.slice a n cap] 27))
  clear h
  go_enter Try.func34, Try.ntmps34
  go_wp2_with (first | (go_at_call 18; refine (vc_impl a n cap zs _ HA.out hn).mono ?_; rintro e w2 ⟨rfl, hb⟩; replace HS := Lib.hid (HS.out.below hb); clear hb) | fail)
  go_ret2
  exact ⟨rfl, HS.out.out⟩
end Go.Proofs.Ytiajpmfdaooefaa
