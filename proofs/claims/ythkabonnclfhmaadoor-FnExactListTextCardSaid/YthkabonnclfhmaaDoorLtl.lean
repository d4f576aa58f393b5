
/- ListText: the law. -/
import Derived.Test.YthkabonnclfhmaaDoorIow
import Derived.Test.YthkabonnclfhmaaDoorLtw
namespace Go.Proofs.YthkabonnclfhmaaDoor
open Go.Proofs.YthkabonnclfhmaaDoor.Flo Go.RowKit

set_option maxRecDepth 100000 in
set_option maxHeartbeats 16000000 in
theorem ltl_go (a1 : Option Addr) (n1 cap1 : Nat) (z1 : List Int) (w : World) (h1 : IRow w a1 n1 z1) (hm : n1 ≤ 1048576) (X : ByteArray) (b : Bool)
    (hsp : (∀ p W, IRow W (some ⟨p, 0, none⟩) n1 z1 → Below w.heap.size w W → Calls Tryd.prog 19 #[.slice (some ⟨p, 0, none⟩) n1 n1] W fun e w' => e = .returned (.tuple #[.string X, .bool b]) ∧ Below W.heap.size W w'))
    (hip : (∀ p W, IRow W (some ⟨p, 0, none⟩) n1 z1 → Below w.heap.size w W → Calls Tryd.prog 21 #[.slice (some ⟨p, 0, none⟩) n1 n1] W fun e w' => e = .returned (.tuple #[.string X, .bool b]) ∧ Below W.heap.size W w')) :
    Calls Tryd.prog 5 #[.slice a1 n1 cap1] w fun e w' => e = .returned (.bool true) ∧ Below w.heap.size w w' := by
  have hd1 : decide (1048576 < (n1 : Int)) = false := by simp; omega
  have H1 := Lib.hid h1
  have HS := Lib.hid (IOwn.nil n1 z1 w)
  have HSP := Lib.hid hsp
  have HIP := Lib.hid hip
  clear h1 hsp hip
  cases b
  all_goals
    go_enter Tryd.func5, Tryd.ntmps5
    go_wp2_with (first | (go_at_call 20; (first | (with_reducible refine (toIO a1 n1 cap1 z1 _ w _ HS.out H1.out hm).mono ?_) | (with_reducible refine (toIO a1 n1 cap1 z1 _ w _ (HS.out.drewN _) H1.out hm).mono ?_) | (with_reducible refine (toIO a1 n1 cap1 z1 _ w _ HS.out.drew H1.out hm).mono ?_)); rintro e w2 ⟨p, rfl, hs⟩; have HS := Lib.hid hs; clear hs; skip) | (go_at_call 19; (first | (refine (HSP.out _ _ (HS.out.2 _ ?_) HS.out.out).mono ?_) | (refine (HSP.out _ _ ((HS.out.drewN _).2 _ ?_) (HS.out.drewN _).out).mono ?_) | (refine (HSP.out _ _ (HS.out.drew.2 _ ?_) HS.out.drew.out).mono ?_)); (next => (simp; done)); rintro e w2 ⟨rfl, hb⟩; have hs := HS.out.below hb; clear hb; have HS := Lib.hid hs; clear hs; skip) | (go_at_call 21; (first | (refine (HIP.out _ _ (HS.out.2 _ ?_) HS.out.out).mono ?_) | (refine (HIP.out _ _ ((HS.out.drewN _).2 _ ?_) (HS.out.drewN _).out).mono ?_) | (refine (HIP.out _ _ (HS.out.drew.2 _ ?_) HS.out.drew.out).mono ?_)); (next => (simp; done)); rintro e w2 ⟨rfl, hb⟩; have hs := HS.out.below hb; clear hb; have HS := Lib.hid hs; clear hs; skip) | (go_at_call 22; (first | (with_reducible refine (eqIO _ _ n1 _ _ z1 _ w _ HS.out ?_ ?_ hm).mono ?_) | (with_reducible refine (eqIO _ _ n1 _ _ z1 _ w _ (HS.out.drewN _) ?_ ?_ hm).mono ?_) | (with_reducible refine (eqIO _ _ n1 _ _ z1 _ w _ HS.out.drew ?_ ?_ hm).mono ?_)); (next => (simp; done)); (next => (simp; done)); rintro e w2 ⟨rfl, hs⟩; have HS := Lib.hid hs; clear hs; skip) | fail)
    go_ret
    first | exact ⟨rfl, HS.out.out⟩ | exact ⟨rfl, (HS.out.drewN _).out⟩ | exact ⟨rfl, HS.out.drew.out⟩
set_option maxRecDepth 100000 in
theorem ltl_walk (a1 : Option Addr) (n1 cap1 : Nat) (z1 : List Int) (w : World) (h1 : IRow w a1 n1 z1) (hT : Lib.TabIs Tryd.prog w "internal/strconv.uint64pow10" .u64 Lib.pow10Tab) :
    Calls Tryd.prog 5 #[.slice a1 n1 cap1] w fun e w' => e = .returned (.bool true) ∧ Below w.heap.size w w' := by
  by_cases hm : n1 ≤ 1048576
  · obtain ⟨X, b, hA⟩ : ∃ X b, ltA z1 n1 = .tuple #[.string X, .bool b] := (by unfold ltA; split <;> exact ⟨_, _, rfl⟩)
    exact ltl_go a1 n1 cap1 z1 w h1 hm X b (fun p W h hb => hA ▸ lt_spec _ n1 _ z1 W h hm) (fun p W h hb => hA ▸ lt_impl _ n1 _ z1 w W h hm (Pow.of hT) hb)
  · have hd1 : decide (1048576 < (n1 : Int)) = true := decide_eq_true (by omega)
    go_enter Tryd.func5, Tryd.ntmps5
    go_wp2
    go_ret
    exact ⟨rfl, Below.refl _ _⟩
end Go.Proofs.YthkabonnclfhmaaDoor
