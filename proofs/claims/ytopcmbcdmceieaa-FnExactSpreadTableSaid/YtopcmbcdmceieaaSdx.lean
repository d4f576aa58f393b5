/- SpreadTable: the functions, together. -/
import Derived.Test.YtopcmbcdmceieaaSdw
namespace Go.Proofs.Ytopcmbcdmceieaa
open Go.Proofs.Ytopcmbcdmceieaa.Flo Go.RowKit

theorem sdS0 (p : Nat) (r : Int) (a : Option Addr) (n cap : Nat) (zs : List Int) (w : World) (h : IRow w a n zs) (hok : stB r zs n = true) (h0 : w.cell? ⟨p, 0, none⟩ = some (.int .i64 r)) (h1 : w.cell? ⟨p, 1, none⟩ = some (.slice a n cap)) :
    Calls Try.prog 85 #[.pointer (some ⟨p, 0, none⟩)] w fun e w' => ∃ g cp, e = .returned (.slice (some ⟨g, 0, none⟩) (sdA r) cp) ∧ New w w' g (.il (sdA r) (sdR r zs n)) := by
  obtain ⟨m, rfl⟩ : ∃ m : Nat, r = (m : Int) := ⟨r.toNat, by have := (st_out hok).1; omega⟩
  by_cases hm : 4 ≤ m
  · exact sdS_a p m a n cap zs w h hok h0 h1 hm
  · exact sdS_b p m a n cap zs w h hok h0 h1 hm
set_option maxHeartbeats 2000000 in
theorem sdSY (r : Int) (a : Option Addr) (n cap : Nat) (zs : List Int) (w : World) (h : IRow w a n zs) (hn : n ≤ 1048576) (hok : stB r zs n = true) :
    Calls Try.prog 49 #[.agg #[.int .i64 r, .slice a n cap]] w fun e w' => ∃ g cp, e = .returned (.tuple #[.slice (some ⟨g, 0, none⟩) (sdA r) cp, .bool true]) ∧ New w w' g (.il (sdA r) (sdR r zs n)) := by
  have HA := Lib.hid (h.alloc (.cells #[.int .i64 r, .slice a n cap] 48))
  have HC := Lib.hid (two_cells w (.int .i64 r) (.slice a n cap) 48)
  have HOK := Lib.hid hok
  clear h hok
  go_enter Try.func49, Try.ntmps49
  go_wp2_with (first | (go_at_call 73; refine (sh_spec _ r a n cap zs _ HA.out hn HC.out.1 HC.out.2).mono ?_; rw [HOK.out]; rintro e w' ⟨rfl, hw⟩; have hw := hw.symm; subst hw) | (go_at_call 85; refine (sdS0 _ r a n cap zs _ HA.out HOK.out HC.out.1 HC.out.2).mono ?_; rintro e w2 ⟨g, cp, rfl, hnw⟩; have HN := Lib.hid hnw; clear hnw) | fail)
  go_ret2
  have hg : w.heap.size ≤ g := by have := HN.out.1; simp at this; omega
  exact ⟨g, cp, rfl, hg, HN.out.2.1, HN.out.2.2.1, Below.next (belowA _ _) HN.out.2.2.2⟩
set_option maxHeartbeats 2000000 in
theorem sdSN (r : Int) (a : Option Addr) (n cap : Nat) (zs : List Int) (w : World) (h : IRow w a n zs) (hn : n ≤ 1048576) (hok : stB r zs n = false) :
    Calls Try.prog 49 #[.agg #[.int .i64 r, .slice a n cap]] w fun e w' => e = .returned (.tuple #[.slice none 0 0, .bool false]) ∧ Below w.heap.size w w' := by
  have HA := Lib.hid (h.alloc (.cells #[.int .i64 r, .slice a n cap] 48))
  have HC := Lib.hid (two_cells w (.int .i64 r) (.slice a n cap) 48)
  have HOK := Lib.hid hok
  clear h hok
  go_enter Try.func49, Try.ntmps49
  go_wp2_with (first | (go_at_call 73; refine (sh_spec _ r a n cap zs _ HA.out hn HC.out.1 HC.out.2).mono ?_; rw [HOK.out]; rintro e w' ⟨rfl, hw⟩; have hw := hw.symm; subst hw) | fail)
  go_ret2
  exact ⟨rfl, belowA _ _⟩
theorem sdIY (r : Int) (a : Option Addr) (n cap : Nat) (zs : List Int) (w : World) (h : IRow w a n zs) (hn : n ≤ 1048576) (hok : stB r zs n = true) :
    Calls Try.prog 50 #[.agg #[.int .i64 r, .slice a n cap]] w fun e w' => ∃ g cp, e = .returned (.tuple #[.slice (some ⟨g, 0, none⟩) (sdA r) cp, .bool true]) ∧ New w w' g (.il (sdA r) (sdR r zs n)) := by
  obtain ⟨m, rfl⟩ : ∃ m : Nat, r = (m : Int) := ⟨r.toNat, by have := (st_out hok).1; omega⟩
  by_cases hm : 4 ≤ m
  · exact sdI_a m a n cap zs w h hn hok hm
  · exact sdI_b m a n cap zs w h hn hok hm
set_option maxHeartbeats 2000000 in
theorem sdIN (r : Int) (a : Option Addr) (n cap : Nat) (zs : List Int) (w : World) (h : IRow w a n zs) (hn : n ≤ 1048576) (hok : stB r zs n = false) :
    Calls Try.prog 50 #[.agg #[.int .i64 r, .slice a n cap]] w fun e w' => e = .returned (.tuple #[.slice none 0 0, .bool false]) ∧ Below w.heap.size w w' := by
  have HA2 := Lib.hid (h.alloc (.cells #[.int .i64 r, .slice a n cap] 48))
  have HOK := Lib.hid hok
  clear h hok
  go_enter Try.func50, Try.ntmps50
  go_wp2_with (first | (go_at_call 40; refine (vst_impl r a n cap zs _ HA2.out hn).mono ?_; rw [HOK.out]; rintro e w2 ⟨rfl, hd⟩; have HB := Lib.hid (Below.next (below_alloc _ _) hd : Below w.heap.size w w2); clear hd) | fail)
  go_ret2
  exact ⟨rfl, HB.out⟩
end Go.Proofs.Ytopcmbcdmceieaa
