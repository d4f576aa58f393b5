/- MeanLong: the functions. -/
import Derived.Test.YtaalddkpldbdkaaMlv
namespace Go.Proofs.Ytaalddkpldbdkaa
open Go.Proofs.Ytaalddkpldbdkaa.Flo Go.RowKit

set_option maxRecDepth 100000 in
set_option maxHeartbeats 4000000 in
theorem ml_spec (a : Option Addr) (n cap : Nat) (zs : List Int) (b : Option Addr) (m capb : Nat) (zr : List Nat) (w : World) (ha : IRow w a n zs) (hb : FRow w b m zr) (hn : n ≤ 1048576) (hm : m ≤ 1048576) (hok : okM zs n zr m = true) :
    Calls Try.prog 43 #[.agg #[.slice a n cap], .slice b m capb] w fun e w' => e = .returned (.tuple #[.float .f32 (mlN zr zs n), .bool true]) ∧ Below w.heap.size w w' := by
  have HA := Lib.hid (ha.alloc (.cells #[.slice a n cap] 56))
  have HB := Lib.hid (hb.alloc (.cells #[.slice a n cap] 56))
  obtain ⟨hcb, hwb, rfl⟩ := okM_out hok
  obtain ⟨h1, h2, _⟩ := code_out hcb
  have HL := Lib.hid h2
  have HW := Lib.hid hwb
  have HFIN := Lib.hid (le_fin (ml_le hwb h2 h1.2 m (Nat.le_refl _)) rfl)
  have hdz : ∀ w2 : World, w2.drewN 0 = w2 := World.drewN_zero
  obtain ⟨h10, h11⟩ := h1
  clear ha hb h2 hok
  go_enter Try.func43, Try.ntmps43
  go_wp2_with (first | (go_at_call 87; refine (cdis_spec _ a m cap zs _ HA.out hn (cell_box _ _ _)).mono ?_; rintro e w' ⟨rfl, rfl⟩) | (go_at_call 88; refine (row_spec _ m _ zr _ HB.out hm).mono ?_; rintro e w' ⟨rfl, q6, rfl⟩) | go_in)
  clear hwb
  go_loopw [6, 7] (fun sv iv w' => ∃ k q : Nat, k ≤ m ∧ sv = .float .f32 (mlN zr zs k) ∧ iv = .int .i64 k ∧ w' = (w.alloc (.cells #[.slice a m cap] 56)).drewN q) (fun _ iv _ => m - (intOf iv).toNat)
  case atStart => exact ⟨0, _, by omega, rfl, rfl, rfl⟩
  case round =>
    obtain ⟨k, q, hk, rfl, rfl, rfl⟩ := hrel
    by_cases hlt : k < m
    · obtain ⟨b1, o1, rfl, _, hck1⟩ := HA.out.cell' hlt
      obtain ⟨b2, o2, rfl, hck2⟩ := HB.out.cell hlt
      obtain ⟨pp, hmul, hadd⟩ := (ml_step HW.out HL.out k (by omega)).2 hlt
      have hr1 := fun w2 => fres_some hmul w2
      have hf1 := fcnt_some hmul
      have hr2 := fun w2 => fres_some hadd w2
      have hf2 := fcnt_some hadd
      clear hmul hadd
      generalize zs.getD k 0 = x at hck1 hr1 hf1
      generalize zr.getD k 0 = y at hck2 hr1 hf1
      generalize hsv : mlN zr zs (k + 1) = sv at hr2 hf2
      have HSV := Lib.hid hsv
      clear hsv
      go_wp2
      go_quiet (fail)
      go_wp2
      exact ⟨⟨k + 1, _, by omega, by rw [HSV.out], by first | rfl | go_num | (congr 1), rfl⟩, by show m - ((k : Int) + 1).toNat < m - (k : Int).toNat; omega⟩
    · obtain rfl : k = m := by omega
      go_wp2_with (first | (go_at_call 89; refine (number_spec _ HFIN.out _).mono ?_; rintro e w' ⟨rfl, q3, rfl⟩) | go_in)
      go_ret2
      exact ⟨rfl, Below.drewN' (belowA _ _) _⟩
set_option maxHeartbeats 4000000 in
theorem ml_spec' (a : Option Addr) (n cap : Nat) (zs : List Int) (b : Option Addr) (m capb : Nat) (zr : List Nat) (w : World) (ha : IRow w a n zs) (hb : FRow w b m zr) (hn : n ≤ 1048576) (hm : m ≤ 1048576) (hok : okM zs n zr m = false) :
    Calls Try.prog 43 #[.agg #[.slice a n cap], .slice b m capb] w fun e w' => e = .returned (.tuple #[.float .f32 0, .bool false]) ∧ Below w.heap.size w w' := by
  have HA := Lib.hid (ha.alloc (.cells #[.slice a n cap] 56))
  have HB := Lib.hid (hb.alloc (.cells #[.slice a n cap] 56))
  have HK := Lib.hid hok
  clear ha hb hok
  cases hcb : codeB zs n with
  | false =>
    go_enter Try.func43, Try.ntmps43
    go_wp2_with (first | (go_at_call 87; refine (cdis_spec _ a n cap zs _ HA.out hn (cell_box _ _ _)).mono ?_; rintro e w' ⟨rfl, rfl⟩) | go_in)
    go_ret2
    exact ⟨rfl, belowA _ _⟩
  | true =>
    cases hwb : rowB zr m with
    | false =>
      go_enter Try.func43, Try.ntmps43
      go_wp2_with (first | (go_at_call 87; refine (cdis_spec _ a n cap zs _ HA.out hn (cell_box _ _ _)).mono ?_; rintro e w' ⟨rfl, rfl⟩) | (go_at_call 88; refine (row_spec _ m _ zr _ HB.out hm).mono ?_; rintro e w' ⟨rfl, q6, rfl⟩) | go_in)
      go_ret2
      exact ⟨rfl, Below.drewN' (belowA _ _) _⟩
    | true =>
      have hne := okM_no HK.out hcb hwb
      have hne2 : ((m : Int) == (n : Int)) = false := by simpa using fun h : (m : Int) = (n : Int) => hne (by omega)
      go_enter Try.func43, Try.ntmps43
      go_wp2_with (first | (go_at_call 87; refine (cdis_spec _ a n cap zs _ HA.out hn (cell_box _ _ _)).mono ?_; rintro e w' ⟨rfl, rfl⟩) | (go_at_call 88; refine (row_spec _ m _ zr _ HB.out hm).mono ?_; rintro e w' ⟨rfl, q6, rfl⟩) | go_in)
      go_ret2
      exact ⟨rfl, Below.drewN' (belowA _ _) _⟩
set_option maxRecDepth 100000 in
set_option maxHeartbeats 4000000 in
theorem ml_impl (a : Option Addr) (n cap : Nat) (zs : List Int) (b : Option Addr) (m capb : Nat) (zr : List Nat) (w : World) (ha : IRow w a n zs) (hb : FRow w b m zr) (hn : n ≤ 1048576) (hm : m ≤ 1048576) (hok : okM zs n zr m = true) :
    Calls Try.prog 46 #[.agg #[.slice a n cap], .slice b m capb] w fun e w' => e = .returned (.tuple #[.float .f32 (mlN zr zs n), .bool true]) ∧ Below w.heap.size w w' := by
  have HS := Lib.hid ((Mine.nil w).alloc1 (.slice a n cap) 56)
  have HA := Lib.hid (ha.alloc (.cells #[.slice a n cap] 56))
  have HB := Lib.hid (hb.alloc (.cells #[.slice a n cap] 56))
  obtain ⟨hcb, hwb, rfl⟩ := okM_out hok
  obtain ⟨h1, h2, _⟩ := code_out hcb
  have HL := Lib.hid h2
  have HW := Lib.hid hwb
  have hdz : ∀ w2 : World, w2.drewN 0 = w2 := World.drewN_zero
  obtain ⟨h10, h11⟩ := h1
  clear ha hb h2 hok
  go_enter Try.func46, Try.ntmps46
  go_wp2_with (first | (go_at_call 51; refine (vc_impl a m cap zs _ HA.out hn).mono ?_; rintro e w2 ⟨rfl, hb⟩; replace HA := Lib.hid (HA.out.below hb); replace HB := Lib.hid (HB.out.below hb); replace HS := Lib.hid (HS.out.below hb); obtain ⟨⟨hf0, hf1, hf2⟩, _⟩ := HS.out.facts1; clear hb) | (go_at_call 90; refine (row_impl _ m _ zr _ HB.out hm).mono ?_; rintro e w' ⟨rfl, q6, rfl⟩) | go_in)
  clear hwb
  go_loopw [6, 27] (fun sv iv w' => ∃ k q : Nat, k ≤ m ∧ sv = .float .f32 (mlN zr zs k) ∧ iv = .int .i64 k ∧ w' = w2.drewN q) (fun _ iv _ => m - (intOf iv).toNat)
  case atStart => exact ⟨0, _, by omega, rfl, rfl, rfl⟩
  case round =>
    obtain ⟨k, q, hk, rfl, rfl, rfl⟩ := hrel
    by_cases hlt : k < m
    · obtain ⟨b1, o1, rfl, _, hck1⟩ := HA.out.cell' hlt
      obtain ⟨b2, o2, rfl, hck2⟩ := HB.out.cell hlt
      obtain ⟨pp, hmul, hadd⟩ := (ml_step HW.out HL.out k (by omega)).2 hlt
      have hr1 := fun w2 => fres_some hmul w2
      have hf1' := fcnt_some hmul
      have hr2 := fun w2 => fres_some hadd w2
      have hf2' := fcnt_some hadd
      clear hmul hadd
      generalize zs.getD k 0 = x at hck1 hr1 hf1'
      generalize zr.getD k 0 = y at hck2 hr1 hf1'
      generalize hsv : mlN zr zs (k + 1) = sv at hr2 hf2'
      have HSV := Lib.hid hsv
      clear hsv
      go_wp2
      exact ⟨⟨k + 1, _, by omega, by rw [HSV.out], by first | rfl | go_num | (congr 1), rfl⟩, by show m - ((k : Int) + 1).toNat < m - (k : Int).toNat; omega⟩
    · obtain rfl : k = m := by omega
      go_wp2
      go_ret2
      exact ⟨rfl, (HS.out.drewN _).out⟩
set_option maxHeartbeats 4000000 in
theorem ml_impl' (a : Option Addr) (n cap : Nat) (zs : List Int) (b : Option Addr) (m capb : Nat) (zr : List Nat) (w : World) (ha : IRow w a n zs) (hb : FRow w b m zr) (hn : n ≤ 1048576) (hm : m ≤ 1048576) (hok : okM zs n zr m = false) :
    Calls Try.prog 46 #[.agg #[.slice a n cap], .slice b m capb] w fun e w' => e = .returned (.tuple #[.float .f32 0, .bool false]) ∧ Below w.heap.size w w' := by
  have HS := Lib.hid ((Mine.nil w).alloc1 (.slice a n cap) 56)
  have HA := Lib.hid (ha.alloc (.cells #[.slice a n cap] 56))
  have HB := Lib.hid (hb.alloc (.cells #[.slice a n cap] 56))
  have HK := Lib.hid hok
  clear ha hb hok
  cases hcb : codeB zs n with
  | false =>
    go_enter Try.func46, Try.ntmps46
    go_wp2_with (first | (go_at_call 51; refine (vc_impl a n cap zs _ HA.out hn).mono ?_; rintro e w2 ⟨rfl, hb⟩; replace HS := Lib.hid (HS.out.below hb); clear hb) | go_in)
    go_ret2
    exact ⟨rfl, HS.out.out⟩
  | true =>
    cases hwb : rowB zr m with
    | false =>
      go_enter Try.func46, Try.ntmps46
      go_wp2_with (first | (go_at_call 51; refine (vc_impl a n cap zs _ HA.out hn).mono ?_; rintro e w2 ⟨rfl, hb⟩; replace HB := Lib.hid (HB.out.below hb); replace HS := Lib.hid (HS.out.below hb); clear hb) | (go_at_call 90; refine (row_impl _ m _ zr _ HB.out hm).mono ?_; rintro e w' ⟨rfl, q6, rfl⟩) | go_in)
      go_ret2
      exact ⟨rfl, (HS.out.drewN _).out⟩
    | true =>
      have hne := okM_no HK.out hcb hwb
      have hne2 : ((m : Int) == (n : Int)) = false := by simpa using fun h : (m : Int) = (n : Int) => hne (by omega)
      go_enter Try.func46, Try.ntmps46
      go_wp2_with (first | (go_at_call 51; refine (vc_impl a n cap zs _ HA.out hn).mono ?_; rintro e w2 ⟨rfl, hb⟩; replace HB := Lib.hid (HB.out.below hb); replace HS := Lib.hid (HS.out.below hb); obtain ⟨⟨hf0, hf1, hf2⟩, _⟩ := HS.out.facts1; clear hb) | (go_at_call 90; refine (row_impl _ m _ zr _ HB.out hm).mono ?_; rintro e w' ⟨rfl, q6, rfl⟩) | go_in)
      go_ret2
      exact ⟨rfl, (HS.out.drewN _).out⟩
end Go.Proofs.Ytaalddkpldbdkaa
