/- CostOfText: the functions. -/
import Derived.Test.YtopcmbcdmceieaaCsv
namespace Go.Proofs.Ytopcmbcdmceieaa
open Go.Proofs.Ytopcmbcdmceieaa.Flo Go.RowKit

theorem cls_someC {r X : Nat} (h : cls .f32 r = some X) : r = X := by
  unfold cls at h
  split at h
  · cases h
  · injection h
def ckB (r : Int) (zs : List Int) (n : Nat) (ts : List Int) (m : Nat) : Bool := coB r zs n && itB ts m r
theorem ck_out {r : Int} {zs : List Int} {n : Nat} {ts : List Int} {m : Nat} (h : ckB r zs n ts m = true) : coB r zs n = true ∧ itB ts m r = true := by
  unfold ckB at h
  rw [Bool.and_eq_true] at h
  exact h
theorem ck_no {r : Int} {zs : List Int} {n : Nat} {ts : List Int} {m : Nat} (h : ckB r zs n ts m = false) (hc : coB r zs n = true) : itB ts m r = false := by
  unfold ckB at h
  rw [hc, Bool.true_and] at h
  exact h
theorem fin_of {E : Int} {b : Nat} (h : VLe .f32 E (some b)) : finD ((FloatKind.f32).decode b) = true := by
  obtain ⟨c, hc, hl⟩ := h
  injection hc with hc
  subst hc
  cases hd : (FloatKind.f32).decode b with
  | number s m i => rfl
  | infinity s => rw [hd] at hl; exact (show False from hl).elim
  | nan s t => rw [hd] at hl; exact (show False from hl).elim
theorem log32_at (q : Nat) {L : Nat} (h : logR q = some L) (w : World) : Calls Try.prog 76 #[.float .f32 q] w fun e w' => e = .returned (.float .f32 L) ∧ Drew w w' :=
  (log32_spec q w).mono fun _ _ ⟨r, h1, h2, h3⟩ => ⟨by rw [h1, cls_someC (h2.trans h)], h3⟩
theorem inf_of {q m : Nat} {i : Int} (hd : (FloatKind.f32).decode q = .number false m i) : (FloatKind.f32).decode q = .infinity false → q = 2139095040 := by
  rw [hd]; intro e; cases e
set_option maxRecDepth 100000 in
set_option maxHeartbeats 4000000 in
theorem cc_impl_a (r : Int) (a : Option Addr) (n cap : Nat) (zs : List Int) (b : Option Addr) (m capb : Nat) (ts : List Int) (w : World) (ha : IRow w a n zs) (_ : IRow w b m ts) (hn : n ≤ 1048576) (_ : m ≤ 1048576) (hok : coB r zs n = false) : Calls Try.prog 43 #[.agg #[.int .i64 r, .slice a n cap], .slice b m capb] w fun e w' => e = .returned (.tuple #[.float .f32 0, .bool false]) ∧ Below w.heap.size w w' := by
  have HA2 := Lib.hid (ha.alloc (.cells #[.int .i64 r, .slice a n cap] 30))
  have HC := Lib.hid (Kin.new (w := w) (x := .int .i64 r) (y := .slice a n cap) (T := 30))
  have HOK := Lib.hid hok
  clear ha hok
  go_enter Try.func43, Try.ntmps43
  go_wp2_with (first | (go_at_call 22; refine (vco_impl r a n cap zs _ HA2.out hn).mono ?_; rw [HOK.out]; rintro e w2 ⟨rfl, hd⟩; have HC2 := Lib.hid (HC.out.below hd); have HW := Lib.hid (Below.next (below_alloc _ _) hd : Below w.heap.size w w2); obtain ⟨hP, hp0, hp1, hpf0, hpf1⟩ := HC2.out; clear hd) | fail)
  go_ret2
  exact ⟨rfl, HW.out⟩
set_option maxRecDepth 100000 in
set_option maxHeartbeats 4000000 in
theorem cc_impl_b (r : Int) (a : Option Addr) (n cap : Nat) (zs : List Int) (b : Option Addr) (m capb : Nat) (ts : List Int) (w : World) (ha : IRow w a n zs) (hb : IRow w b m ts) (hn : n ≤ 1048576) (hm : m ≤ 1048576) (hok : coB r zs n = true) (htx : itB ts m r = false) : Calls Try.prog 43 #[.agg #[.int .i64 r, .slice a n cap], .slice b m capb] w fun e w' => e = .returned (.tuple #[.float .f32 0, .bool false]) ∧ Below w.heap.size w w' := by
  have HB := Lib.hid hb
  have HA2 := Lib.hid (ha.alloc (.cells #[.int .i64 r, .slice a n cap] 30))
  have HC := Lib.hid (Kin.new (w := w) (x := .int .i64 r) (y := .slice a n cap) (T := 30))
  have HOK := Lib.hid hok
  have HTX := Lib.hid htx
  clear ha hb hok htx
  go_enter Try.func43, Try.ntmps43
  go_wp2_with (first | (go_at_call 22; refine (vco_impl r a n cap zs _ HA2.out hn).mono ?_; rw [HOK.out]; rintro e w2 ⟨rfl, hd⟩; have HC2 := Lib.hid (HC.out.below hd); have HW := Lib.hid (Below.next (below_alloc _ _) hd : Below w.heap.size w w2); obtain ⟨hP, hp0, hp1, hpf0, hpf1⟩ := HC2.out; clear hd) | (go_at_call 17; refine (itx_impl b m capb ts r _ (HB.out.below HW.out) hm).mono ?_; rw [HTX.out]; rintro e w' ⟨rfl, hw⟩; subst hw) | fail)
  go_ret2
  exact ⟨rfl, HW.out⟩
set_option maxRecDepth 100000 in
set_option maxHeartbeats 8000000 in
theorem cc_impl_yes (r : Int) (a : Option Addr) (n cap : Nat) (zs : List Int) (b : Option Addr) (m capb : Nat) (ts : List Int) (w : World) (ha : IRow w a n zs) (hb : IRow w b m ts) (hn : n ≤ 1048576) (hm : m ≤ 1048576) (hokc : ckB r zs n ts m = true) : Calls Try.prog 43 #[.agg #[.int .i64 r, .slice a n cap], .slice b m capb] w fun e w' => e = .returned (.tuple #[.float .f32 (csN zs ts (tot zs n) m), .bool true]) ∧ Below w.heap.size w w' := by
  obtain ⟨hok, htx⟩ := ck_out hokc
  obtain ⟨hrn, ⟨hn2, hn16⟩, hpp, htot⟩ := co_out hok
  subst hrn
  obtain ⟨_, hm64, hlet⟩ := it_out htx
  have HOK := Lib.hid hok
  have HTX := Lib.hid htx
  have HCN := Lib.hid (pt_cnt (co_pt hok))
  have htg : 1 ≤ tot zs n := by
    have h1 := tot_ge hpp n (Nat.le_refl _) 0 (by omega)
    have h2 := hpp 0 (by omega)
    omega
  have HPP := Lib.hid hpp
  have HLT : Hid (letP ts (n : Int) m) := Lib.hid hlet
  have HST := Lib.hid (cs_step (zs := zs) (ts := ts) (t := tot zs n) (n := n) (m := m) hpp ⟨htg, htot⟩ HLT.out)
  have HA := Lib.hid ha
  have HB := Lib.hid hb
  have HA2 := Lib.hid (ha.alloc (.cells #[.int .i64 (n : Int), .slice a n cap] 30))
  have HC := Lib.hid (Kin.new (w := w) (x := .int .i64 (n : Int)) (y := .slice a n cap) (T := 30))
  clear ha hb hok htx hokc hpp hlet
  go_enter Try.func43, Try.ntmps43
  go_wp2_with (first | (go_at_call 22; refine (vco_impl (n : Int) a n cap zs _ HA2.out hn).mono ?_; rw [HOK.out]; rintro e w2 ⟨rfl, hd⟩; have HC2 := Lib.hid (HC.out.below hd); have HW := Lib.hid (Below.next (below_alloc _ _) hd : Below w.heap.size w w2); obtain ⟨hP, hp0, hp1, hpf0, hpf1⟩ := HC2.out; clear hd) | (go_at_call 17; refine (itx_impl b m capb ts (n : Int) _ (HB.out.below HW.out) hm).mono ?_; rw [HTX.out]; rintro e w' ⟨rfl, hw⟩; subst hw) | (go_at_call 63; refine (tot_impl a n _ zs _ (HA.out.below HW.out) HCN.out).mono ?_; rintro e w' ⟨rfl, hw⟩; subst hw) | fail)
  have HAw := Lib.hid (HA.out.below HW.out)
  have HBw := Lib.hid (HB.out.below HW.out)
  clear hP hp0 hp1 hpf0 hpf1
  go_loopw [6, 26] (fun sv iv w' => ∃ k q : Nat, k ≤ m ∧ sv = .float .f32 (csN zs ts (tot zs n) k) ∧ iv = .int .i64 k ∧ w' = w2.drewN q) (fun _ iv _ => m - (intOf iv).toNat)
  case atStart => exact ⟨0, 0, by omega, rfl, rfl, by first | rfl | exact (World.drewN_zero _).symm⟩
  case round =>
    obtain ⟨k, q, hk, rfl, rfl, rfl⟩ := hrel
    by_cases hlt : k < m
    · obtain ⟨b2, o2, rfl, _, hck2⟩ := (HBw.out.drewN q).cell' hlt
      have hc := HLT.out k hlt
      have hadd := (HST.out k hk (by omega)).2 hlt (by omega)
      obtain ⟨c, hcc⟩ : ∃ c : Nat, ts.getD k 0 = (c : Int) := ⟨(ts.getD k 0).toNat, by omega⟩
      rw [hcc] at hck2 hc hadd
      rw [Int.toNat_natCast] at hadd
      have hcn : c < n := by omega
      obtain ⟨b1, o1, rfl, _, hck1⟩ := (HAw.out.drewN q).cell' hcn
      have hz := HPP.out c hcn
      have hqn := qB_num hz ⟨htg, htot⟩
      have hnt := nT_num hz ⟨htg, htot⟩
      obtain ⟨hP, hp0, hp1, hpf0, hpf1⟩ := HC2.out.drewN q
      generalize zs.getD c 0 = u at hck1 hadd hqn hnt
      clear hz
      generalize hTT : tot zs n = T at *
      obtain ⟨hquo, mq, iq, hdq, hmq⟩ := hqn
      obtain ⟨hbits, _, L, hL, hquo2⟩ := hnt
      have HINF := Lib.hid (inf_of hdq)
      have hci0 : (0 : Int) ≤ (c : Int) := by omega
      have hci1 : (c : Int) < (n : Int) := by omega
      have hr1 := fun w2 => fres_some hquo w2
      have hf1 := fcnt_some hquo
      have hr2 := fun w2 => fres_some hadd w2
      have hf2 := fcnt_some hadd
      clear hquo hadd hquo2 hdq hmq hc hcc
      have HBI := Lib.hid hbits
      have HNT : Hid (nT u T = Op.negFloat .f32 ((bitsV (qB u T)).getD 0)) := Lib.hid rfl
      rw [HNT.out] at hr2 hf2
      clear hL hbits HNT
      generalize (bitsV (qB u T)).getD 0 = B at hr2 hf2 HBI
      generalize hqq : qB u T = qq at hr1 HINF HBI
      clear hqq
      go_wp2_with (first | (go_at_call 78; refine (bits_impl qq HINF.out _).mono ?_; rintro e w' ⟨l, rfl, hl, n2, rfl⟩; have hlB := cls_someC (hl.trans HBI.out); clear hl; subst hlB) | fail)
      exact ⟨⟨k + 1, _, by omega, rfl, by first | rfl | go_num | (congr 1), rfl⟩, by show m - ((k : Int) + 1).toNat < m - (k : Int).toNat; omega⟩
    · obtain rfl : k = m := by omega
      go_wp2
      go_ret2
      exact ⟨rfl, Below.drewN' HW.out _⟩
set_option maxRecDepth 100000 in
set_option maxHeartbeats 4000000 in
theorem cc_spec_a (r : Int) (a : Option Addr) (n cap : Nat) (zs : List Int) (b : Option Addr) (m capb : Nat) (ts : List Int) (w : World) (ha : IRow w a n zs) (_ : IRow w b m ts) (hn : n ≤ 1048576) (_ : m ≤ 1048576) (hok : coB r zs n = false) : Calls Try.prog 42 #[.agg #[.int .i64 r, .slice a n cap], .slice b m capb] w fun e w' => e = .returned (.tuple #[.float .f32 0, .bool false]) ∧ Below w.heap.size w w' := by
  have HA2 := Lib.hid (ha.alloc (.cells #[.int .i64 r, .slice a n cap] 30))
  have HC := Lib.hid (Kin.new (w := w) (x := .int .i64 r) (y := .slice a n cap) (T := 30))
  have HOK := Lib.hid hok
  clear ha hok
  go_enter Try.func42, Try.ntmps42
  go_wp2_with (first | (go_at_call 61; refine (co_spec _ r a n cap zs _ HA2.out hn HC.out.2.1 HC.out.2.2.1).mono ?_; rw [HOK.out]; rintro e w2 ⟨rfl, hd⟩; have HC2 := Lib.hid (HC.out.below hd.below); have HW := Lib.hid (Below.next (below_alloc _ _) hd.below : Below w.heap.size w w2); obtain ⟨hP, hp0, hp1, hpf0, hpf1⟩ := HC2.out; clear hd) | fail)
  go_ret2
  exact ⟨rfl, HW.out⟩
set_option maxRecDepth 100000 in
set_option maxHeartbeats 4000000 in
theorem cc_spec_b (r : Int) (a : Option Addr) (n cap : Nat) (zs : List Int) (b : Option Addr) (m capb : Nat) (ts : List Int) (w : World) (ha : IRow w a n zs) (hb : IRow w b m ts) (hn : n ≤ 1048576) (hm : m ≤ 1048576) (hok : coB r zs n = true) (htx : itB ts m r = false) : Calls Try.prog 42 #[.agg #[.int .i64 r, .slice a n cap], .slice b m capb] w fun e w' => e = .returned (.tuple #[.float .f32 0, .bool false]) ∧ Below w.heap.size w w' := by
  have HB := Lib.hid hb
  have HA2 := Lib.hid (ha.alloc (.cells #[.int .i64 r, .slice a n cap] 30))
  have HC := Lib.hid (Kin.new (w := w) (x := .int .i64 r) (y := .slice a n cap) (T := 30))
  have HOK := Lib.hid hok
  have HTX := Lib.hid htx
  clear ha hb hok htx
  go_enter Try.func42, Try.ntmps42
  go_wp2_with (first | (go_at_call 61; refine (co_spec _ r a n cap zs _ HA2.out hn HC.out.2.1 HC.out.2.2.1).mono ?_; rw [HOK.out]; rintro e w2 ⟨rfl, hd⟩; have HC2 := Lib.hid (HC.out.below hd.below); have HW := Lib.hid (Below.next (below_alloc _ _) hd.below : Below w.heap.size w w2); obtain ⟨hP, hp0, hp1, hpf0, hpf1⟩ := HC2.out; clear hd) | (go_at_call 56; refine (itx_spec b m capb ts r _ (HB.out.below HW.out) hm).mono ?_; rw [HTX.out]; rintro e w' ⟨rfl, hw⟩; subst hw) | fail)
  go_ret2
  exact ⟨rfl, HW.out⟩
set_option maxRecDepth 100000 in
set_option maxHeartbeats 8000000 in
theorem cc_spec_yes (r : Int) (a : Option Addr) (n cap : Nat) (zs : List Int) (b : Option Addr) (m capb : Nat) (ts : List Int) (w : World) (ha : IRow w a n zs) (hb : IRow w b m ts) (hn : n ≤ 1048576) (hm : m ≤ 1048576) (hokc : ckB r zs n ts m = true) : Calls Try.prog 42 #[.agg #[.int .i64 r, .slice a n cap], .slice b m capb] w fun e w' => e = .returned (.tuple #[.float .f32 (csN zs ts (tot zs n) m), .bool true]) ∧ Below w.heap.size w w' := by
  obtain ⟨hok, htx⟩ := ck_out hokc
  obtain ⟨hrn, ⟨hn2, hn16⟩, hpp, htot⟩ := co_out hok
  subst hrn
  obtain ⟨_, hm64, hlet⟩ := it_out htx
  have HOK := Lib.hid hok
  have HTX := Lib.hid htx
  have HCN := Lib.hid (pt_cnt (co_pt hok))
  have htg : 1 ≤ tot zs n := by
    have h1 := tot_ge hpp n (Nat.le_refl _) 0 (by omega)
    have h2 := hpp 0 (by omega)
    omega
  have HPP := Lib.hid hpp
  have HLT : Hid (letP ts (n : Int) m) := Lib.hid hlet
  have HST := Lib.hid (cs_step (zs := zs) (ts := ts) (t := tot zs n) (n := n) (m := m) hpp ⟨htg, htot⟩ HLT.out)
  have HA := Lib.hid ha
  have HB := Lib.hid hb
  have HA2 := Lib.hid (ha.alloc (.cells #[.int .i64 (n : Int), .slice a n cap] 30))
  have HC := Lib.hid (Kin.new (w := w) (x := .int .i64 (n : Int)) (y := .slice a n cap) (T := 30))
  clear ha hb hok htx hokc hpp hlet
  go_enter Try.func42, Try.ntmps42
  go_wp2_with (first | (go_at_call 61; refine (co_spec _ (n : Int) a n cap zs _ HA2.out hn HC.out.2.1 HC.out.2.2.1).mono ?_; rw [HOK.out]; rintro e w2 ⟨rfl, hd⟩; have HC2 := Lib.hid (HC.out.below hd.below); have HW := Lib.hid (Below.next (below_alloc _ _) hd.below : Below w.heap.size w w2); obtain ⟨hP, hp0, hp1, hpf0, hpf1⟩ := HC2.out; clear hd) | (go_at_call 56; refine (itx_spec b m capb ts (n : Int) _ (HB.out.below HW.out) hm).mono ?_; rw [HTX.out]; rintro e w' ⟨rfl, hw⟩; subst hw) | (go_at_call 75; refine (t5_spec _ a n cap zs _ (HA.out.below HW.out) HCN.out HC2.out.2.2.1).mono ?_; rintro e w' ⟨rfl, hw⟩; subst hw) | fail)
  have HAw := Lib.hid (HA.out.below HW.out)
  have HBw := Lib.hid (HB.out.below HW.out)
  clear hP hp0 hp1 hpf0 hpf1
  go_loopw [7, 22] (fun sv iv w' => ∃ k q : Nat, k ≤ m ∧ sv = .float .f32 (csN zs ts (tot zs n) k) ∧ iv = .int .i64 k ∧ w' = w2.drewN q) (fun _ iv _ => m - (intOf iv).toNat)
  case atStart => exact ⟨0, 0, by omega, rfl, rfl, by first | rfl | exact (World.drewN_zero _).symm⟩
  case round =>
    obtain ⟨k, q, hk, rfl, rfl, rfl⟩ := hrel
    by_cases hlt : k < m
    · obtain ⟨b2, o2, rfl, _, hck2⟩ := (HBw.out.drewN q).cell' hlt
      have hc := HLT.out k hlt
      have hadd := (HST.out k hk (by omega)).2 hlt (by omega)
      obtain ⟨c, hcc⟩ : ∃ c : Nat, ts.getD k 0 = (c : Int) := ⟨(ts.getD k 0).toNat, by omega⟩
      rw [hcc] at hck2 hc hadd
      rw [Int.toNat_natCast] at hadd
      have hcn : c < n := by omega
      obtain ⟨b1, o1, rfl, _, hck1⟩ := (HAw.out.drewN q).cell' hcn
      have hz := HPP.out c hcn
      have hqn := qB_num hz ⟨htg, htot⟩
      have hnt := nT_num hz ⟨htg, htot⟩
      obtain ⟨hP, hp0, hp1, hpf0, hpf1⟩ := HC2.out.drewN q
      generalize zs.getD c 0 = u at hck1 hadd hqn hnt
      clear hz
      generalize hTT : tot zs n = T at *
      obtain ⟨hquo, mq, iq, hdq, hmq⟩ := hqn
      obtain ⟨hbits, _, L, hL, hquo2⟩ := hnt
      have HINF := Lib.hid (inf_of hdq)
      have hci0 : (0 : Int) ≤ (c : Int) := by omega
      have hci1 : (c : Int) < (n : Int) := by omega
      have hr1 := fun w2 => fres_some hquo w2
      have hf1 := fcnt_some hquo
      have hr2 := fun w2 => fres_some hadd w2
      have hf2 := fcnt_some hadd
      have hr3 := fun w2 => fres_some hquo2 w2
      have hf3 := fcnt_some hquo2
      clear hquo hadd hquo2 hdq hmq hc hcc
      have HLL := Lib.hid hL
      clear hL hbits
      generalize nT u T = N at hr2 hf2 hr3 hf3
      generalize hqq : qB u T = qq at hr1 HINF HLL
      clear hqq
      obtain ⟨W, hW⟩ : ∃ W, W = w2.drewN q := ⟨_, rfl⟩
      rw [← hW]
      have hp1 : W.cell? ⟨w.heap.size, 1, none⟩ = some (.slice (some ⟨b1, o1, none⟩) n cap) := by rw [hW]; exact hp1
      have hck1 : W.cell? ⟨b1, o1 + c, none⟩ = some (.int .i64 u) := by rw [hW]; exact hck1
      have hck2 : W.cell? ⟨b2, o2 + k, none⟩ = some (.int .i64 (c : Int)) := by rw [hW]; exact hck2
      have HWW := Lib.hid hW
      clear hW hp0 hpf0 hpf1
      go_wp2
      go_quiet ((go_at_call 76; exact Calls.quiet_of (log32_at qq HLL.out _)))
      go_wp2
      exact ⟨⟨k + 1, _, by omega, rfl, by first | rfl | go_num | (congr 1), by rw [HWW.out, World.drewN_drewN]⟩, by show m - ((k : Int) + 1).toNat < m - (k : Int).toNat; omega⟩
    · obtain rfl : k = m := by omega
      have HFIN := Lib.hid (fin_of (HST.out k (Nat.le_refl _) hm64).1)
      go_wp2_with (first | (go_at_call 77; refine (number_spec _ (by first | exact HFIN.out | skip) _).mono ?_; rintro e w' ⟨rfl, q3, rfl⟩) | fail)
      go_ret2
      first | exact ⟨rfl, Below.drewN' HW.out _⟩ | exact ⟨rfl, Below.drewN' (Below.drewN' HW.out _) _⟩
end Go.Proofs.Ytopcmbcdmceieaa
