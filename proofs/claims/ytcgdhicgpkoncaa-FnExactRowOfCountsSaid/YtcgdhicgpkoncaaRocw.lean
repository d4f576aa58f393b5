/- RowOfCounts: the functions. -/
import Derived.Test.YtcgdhicgpkoncaaSmw
namespace Go.Proofs.Ytcgdhicgpkoncaa
open Go.Proofs.Ytcgdhicgpkoncaa.Flo Go.RowKit

theorem int_wpos {c : Int} (hc : 0 ≤ c) : Wpos (cls .f32 (floatOfInt .f32 c)) := by
  obtain ⟨r, hr, _, hw⟩ := nearest_rung (FloatKind.f32).format c.natAbs 0
  have e : floatOfInt .f32 c = r := by
    show (FloatKind.f32).format.nearest (decide (c < 0)) c.natAbs 0 = r
    rw [hw, decide_eq_false (by omega)]; rfl
  refine ⟨r, hr, ?_⟩
  rw [e]
  exact cls_of_not (read_word_le (FloatKind.f32).format false r hr)
theorem zero_mul {c : Int} (hc : 0 ≤ c) (h : c ≤ 1000000000) : ∃ z s i, vop .mul .f32 (cls .f32 0) (cls .f32 (floatOfInt .f32 c)) = some z ∧ (FloatKind.f32).decode z = .number s 0 i := by
  rw [vop_cls]
  have hf := int_fin hc h
  cases hd : (FloatKind.f32).decode (floatOfInt .f32 c) with
  | nan => rw [hd] at hf; cases hf
  | infinity => rw [hd] at hf; cases hf
  | number t m j =>
    refine ⟨(FloatKind.f32).format.write (.number (false ^^ t) (0 * m) (-149 + j)), false ^^ t, -149, ?_, ?_⟩
    · show (((FloatKind.f32).decode 0).product ((FloatKind.f32).decode (floatOfInt .f32 c))).map (FloatKind.f32).format.write = _
      rw [hd, dec_032]; rfl
    · rw [Nat.zero_mul]
      show (FloatKind.f32).decode ((FloatKind.f32).format.nearest (false ^^ t) 0 _) = _
      unfold Ieee.Format.nearest
      rw [if_pos rfl]
      cases t <;> decide +kernel
theorem sm_zero {zs : List Int} {n k : Nat} (hc : cntB zs n = true) (hk : k < n) : smV zs n 0 k = vop .quo .f32 (cls .f32 (floatOfInt .f32 (zs.getD k 0))) (cls .f32 (floatOfInt .f32 (tot zs n))) := by
  obtain ⟨hn, hz⟩ := cnt_out hc
  have ht := tot_le hz n (Nat.le_refl _)
  obtain ⟨z, s, i, h1, h2⟩ := zero_mul (c := (n : Int)) (by omega) (by omega)
  unfold smV wholeV
  rw [h1, wpos_add_zero (int_wpos ht.1) h2, cls_032, wpos_add_zero (int_wpos (hz k hk).1) dec_032]
theorem tot_row {zs : List Int} {n : Nat} (hc : cntB zs n = true) (h : tot zs n = 0) : rowV (smV zs n 0) n = false := by
  have hn := (cnt_out hc).1
  have h0 : floatOfInt .f32 0 = 0 := by decide +kernel
  refine rowV_bad (k := 0) (by omega) ?_ ?_
  · rw [sm_zero hc (by omega)]; exact vop_img _ _ _
  · rw [sm_zero hc (by omega), h, h0]; exact quo_zero _ dec_032
set_option maxRecDepth 100000 in
set_option maxHeartbeats 4000000 in
theorem rcS (a : Option Addr) (n cap : Nat) (zs : List Int) (w : World) (ha : IRow w a n zs) (hn : n ≤ 1048576) (hok : okS zs n 0 = true) :
    Calls Try.prog 28 #[.slice a n cap] w fun e w' => ∃ g cp, e = .returned (.tuple #[.slice (some ⟨g, 0, none⟩) n cp, .bool true]) ∧ New w w' g (.cl n (smV zs n 0)) := by
  obtain ⟨i0, hi, hz0, hz1, hz2⟩ := info_parts Try.info32
  obtain ⟨hcb, _, hrow⟩ := okS_out hok
  have ht0 : (tot zs n == 0) = false := by
    cases h : (tot zs n == 0) with
    | false => rfl
    | true => rw [tot_row hcb (by simpa using h)] at hrow; cases hrow
  have hn32 := (cnt_out hcb).1.2
  have hn0 : n ≠ 0 := by have := (cnt_out hcb).1; omega
  have HCB := Lib.hid hcb
  have HROW := Lib.hid hrow
  have HA := Lib.hid ha
  clear ha hrow hok
  go_enter Try.func28, Try.ntmps28
  go_wp2_with (first | (go_at_call 63; refine (cnt_spec _ n _ zs _ HA.out hn).mono ?_; rintro e w' ⟨rfl, rfl⟩) | (go_at_call 65; refine (tot_spec _ n _ zs _ HA.out HCB.out).mono ?_; rintro e w' ⟨rfl, rfl⟩) | go_in)
  go_loopw [5, 6] (fun v0 iv wr0 => ∃ (k : Nat) (v : Value) (wr : World), k ≤ n ∧ v = v0 ∧ iv = .int .i64 k ∧ wr = wr0 ∧ Hid (Got wr w.heap.size 23 v k (smV zs n 0)) ∧ Hid (Below w.heap.size w wr)) (fun _ iv _ => n - (intOf iv).toNat)
  case atStart => exact ⟨0, _, _, by omega, rfl, rfl, rfl, Lib.hid (Got.empty w 23 (smV zs n 0)), Lib.hid (Below.alloc (Below.refl _ _) (Nat.le_refl _) _)⟩
  case round =>
    obtain ⟨k, v, wr, hk, rfl, rfl, rfl, HO, HW⟩ := hrel
    by_cases hlt : k < n
    · obtain ⟨b1, o1, rfl, _, hck⟩ := (HA.out.below HW.out).cell' hlt
      have HVk : ∀ W2, Hid (cls .f32 (fres .quo .f32 (floatOfInt .f32 (zs.getD k 0)) (floatOfInt .f32 (tot zs n)) W2) = smV zs n 0 k) := fun W2 => Lib.hid (by rw [fres_cls]; exact (sm_zero HCB.out hlt).symm)
      generalize tot zs n = T at HVk
      generalize zs.getD k 0 = c at hck HVk
      obtain ⟨zs0, hz, ho⟩ := HO.out
      have HZ := Lib.hid hz
      have HO1 := Lib.hid ho
      have HNE := Lib.hid (own_block ho)
      have HB := Lib.hid HW.out.size
      clear hz ho
      go_wp2_with (first | (at_builtin; refine wpList_append_lies _ rfl _ _ 22 rfl w.heap.size 23 i0 (.float .f32 0) 1 4 Try.underlying22 hi hz0 hz1 hz2 rfl (by omega) v k (zs0.map (Value.float .f32)) rfl (World.ownsRow.alloc HO1.out _) ⟨wr.heap.size, 0, none⟩ 1 1 [.float .f32 (fres .quo .f32 (floatOfInt .f32 c) (floatOfInt .f32 T) _)] rfl rfl (World.news_of_block (cs := #[.float .f32 (fres .quo .f32 (floatOfInt .f32 c) (floatOfInt .f32 T) _)]) (t := 23) (fr := (0, 0)) (heap_alloc_new _ _)) (by simp [Value.oneCell']) (by omega) (by unfold maxLen; omega) (by omega) (by have := HB.out; simp; omega) (wr.heap.size + 1) (by simp) ?_; intro gg cp w1 hown1 hgrow hat hlt2; have HO2 := Lib.hid hown1; have HG := Lib.hid hgrow; clear hown1 hgrow hat hlt2) | go_in)
      exact ⟨⟨k + 1, _, _, by omega, rfl, by first | rfl | go_num | (congr 1), rfl, Lib.hid (Got.step HZ.out (Got.len HO1.out) (HVk _).out HO2.out), Lib.hid (Below.grown (Below.alloc (Below.drewN' HW.out _) HW.out.size _) HG.out (by have := HB.out; simp; omega) HNE.out)⟩, by show n - ((k : Int) + 1).toNat < n - (k : Int).toNat; omega⟩
    · obtain rfl : k = n := by omega
      obtain ⟨g, cap, zr, rfl, hg1, hg2, hg3, hg4, hg5⟩ := HO.out.fin hn0
      have HG3 := Lib.hid hg3
      have HG4 := Lib.hid hg4
      have HG5 := Lib.hid ((⟨hg1, hg2, hg5, HW.out⟩ : New w wr g (.cl k (smV zs k 0))))
      clear hg1 hg2 hg3 hg4 hg5
      go_wp2_with (first | (go_at_call 54; refine (giveS_yes _ k _ zr _ HG3.out hn (by rw [rowB_V HG4.out]; exact HROW.out)).mono ?_; rintro e w' ⟨rfl, q6, rfl⟩) | go_in)
      go_ret2
      exact ⟨_, _, rfl, HG5.out.1, HG5.out.2.1, HG5.out.2.2.1, Below.drewN' HG5.out.2.2.2 _⟩
set_option maxRecDepth 100000 in
set_option maxHeartbeats 4000000 in
theorem rcS' (a : Option Addr) (n cap : Nat) (zs : List Int) (w : World) (ha : IRow w a n zs) (hn : n ≤ 1048576) (hok : okS zs n 0 = false) :
    Calls Try.prog 28 #[.slice a n cap] w fun e w' => e = .returned (.tuple #[.slice none 0 0, .bool false]) ∧ Below w.heap.size w w' := by
  obtain ⟨i0, hi, hz0, hz1, hz2⟩ := info_parts Try.info32
  have HA := Lib.hid ha
  clear ha
  cases hcb : cntB zs n with
  | false =>
    clear hok
    go_enter Try.func28, Try.ntmps28
    go_wp2_with (first | (go_at_call 63; refine (cnt_spec _ n _ zs _ HA.out hn).mono ?_; rintro e w' ⟨rfl, rfl⟩) | go_in)
    go_ret2
    exact ⟨rfl, Below.refl _ _⟩
  | true =>
    have HCB := Lib.hid hcb
    cases ht0 : (tot zs n == 0) with
    | true =>
      clear hok
      go_enter Try.func28, Try.ntmps28
      go_wp2_with (first | (go_at_call 63; refine (cnt_spec _ n _ zs _ HA.out hn).mono ?_; rintro e w' ⟨rfl, rfl⟩) | (go_at_call 65; refine (tot_spec _ n _ zs _ HA.out HCB.out).mono ?_; rintro e w' ⟨rfl, rfl⟩) | go_in)
      go_ret2
      exact ⟨rfl, Below.refl _ _⟩
    | false =>
      have hA : leastB 0 = true := by decide +kernel
      have hrow : rowV (smV zs n 0) n = false := by unfold okS at hok; rw [hcb, hA] at hok; simpa using hok
      have hn32 := (cnt_out hcb).1.2
      have hn0 : n ≠ 0 := by have := (cnt_out hcb).1; omega
      have HROW := Lib.hid hrow
      clear hrow hok hA
      go_enter Try.func28, Try.ntmps28
      go_wp2_with (first | (go_at_call 63; refine (cnt_spec _ n _ zs _ HA.out hn).mono ?_; rintro e w' ⟨rfl, rfl⟩) | (go_at_call 65; refine (tot_spec _ n _ zs _ HA.out HCB.out).mono ?_; rintro e w' ⟨rfl, rfl⟩) | go_in)
      go_loopw [5, 6] (fun v0 iv wr0 => ∃ (k : Nat) (v : Value) (wr : World), k ≤ n ∧ v = v0 ∧ iv = .int .i64 k ∧ wr = wr0 ∧ Hid (Got wr w.heap.size 23 v k (smV zs n 0)) ∧ Hid (Below w.heap.size w wr)) (fun _ iv _ => n - (intOf iv).toNat)
      case atStart => exact ⟨0, _, _, by omega, rfl, rfl, rfl, Lib.hid (Got.empty w 23 (smV zs n 0)), Lib.hid (Below.alloc (Below.refl _ _) (Nat.le_refl _) _)⟩
      case round =>
        obtain ⟨k, v, wr, hk, rfl, rfl, rfl, HO, HW⟩ := hrel
        by_cases hlt : k < n
        · obtain ⟨b1, o1, rfl, _, hck⟩ := (HA.out.below HW.out).cell' hlt
          have HVk : ∀ W2, Hid (cls .f32 (fres .quo .f32 (floatOfInt .f32 (zs.getD k 0)) (floatOfInt .f32 (tot zs n)) W2) = smV zs n 0 k) := fun W2 => Lib.hid (by rw [fres_cls]; exact (sm_zero HCB.out hlt).symm)
          generalize tot zs n = T at HVk
          generalize zs.getD k 0 = c at hck HVk
          obtain ⟨zs0, hz, ho⟩ := HO.out
          have HZ := Lib.hid hz
          have HO1 := Lib.hid ho
          have HNE := Lib.hid (own_block ho)
          have HB := Lib.hid HW.out.size
          clear hz ho
          go_wp2_with (first | (at_builtin; refine wpList_append_lies _ rfl _ _ 22 rfl w.heap.size 23 i0 (.float .f32 0) 1 4 Try.underlying22 hi hz0 hz1 hz2 rfl (by omega) v k (zs0.map (Value.float .f32)) rfl (World.ownsRow.alloc HO1.out _) ⟨wr.heap.size, 0, none⟩ 1 1 [.float .f32 (fres .quo .f32 (floatOfInt .f32 c) (floatOfInt .f32 T) _)] rfl rfl (World.news_of_block (cs := #[.float .f32 (fres .quo .f32 (floatOfInt .f32 c) (floatOfInt .f32 T) _)]) (t := 23) (fr := (0, 0)) (heap_alloc_new _ _)) (by simp [Value.oneCell']) (by omega) (by unfold maxLen; omega) (by omega) (by have := HB.out; simp; omega) (wr.heap.size + 1) (by simp) ?_; intro gg cp w1 hown1 hgrow hat hlt2; have HO2 := Lib.hid hown1; have HG := Lib.hid hgrow; clear hown1 hgrow hat hlt2) | go_in)
          exact ⟨⟨k + 1, _, _, by omega, rfl, by first | rfl | go_num | (congr 1), rfl, Lib.hid (Got.step HZ.out (Got.len HO1.out) (HVk _).out HO2.out), Lib.hid (Below.grown (Below.alloc (Below.drewN' HW.out _) HW.out.size _) HG.out (by have := HB.out; simp; omega) HNE.out)⟩, by show n - ((k : Int) + 1).toNat < n - (k : Int).toNat; omega⟩
        · obtain rfl : k = n := by omega
          obtain ⟨g, cap, zr, rfl, hg1, hg2, hg3, hg4, hg5⟩ := HO.out.fin hn0
          have HG3 := Lib.hid hg3
          have HG4 := Lib.hid hg4
          have HG5 := Lib.hid ((⟨hg1, hg2, hg5, HW.out⟩ : New w wr g (.cl k (smV zs k 0))))
          clear hg1 hg2 hg3 hg4 hg5
          go_wp2_with (first | (go_at_call 54; refine (giveS_no _ k _ zr _ HG3.out hn (by rw [rowB_V HG4.out]; exact HROW.out)).mono ?_; rintro e w' ⟨rfl, q6, rfl⟩) | go_in)
          go_ret2
          exact ⟨rfl, Below.drewN' HG5.out.2.2.2 _⟩
set_option maxRecDepth 100000 in
set_option maxHeartbeats 4000000 in
theorem rcI (a : Option Addr) (n cap : Nat) (zs : List Int) (w : World) (ha : IRow w a n zs) (hn : n ≤ 1048576) (hok : okS zs n 0 = true) :
    Calls Try.prog 29 #[.slice a n cap] w fun e w' => ∃ g cp, e = .returned (.tuple #[.slice (some ⟨g, 0, none⟩) n cp, .bool true]) ∧ New w w' g (.cl n (smV zs n 0)) := by
  have HA := Lib.hid ha
  have HK := Lib.hid hok
  clear ha hok
  go_enter Try.func29, Try.ntmps29
  go_wp2_with (first | (go_at_call 25; refine (smI _ n _ zs 0 _ HA.out hn HK.out).mono ?_; rintro e w2 ⟨g, cp, rfl, h⟩; have HN := Lib.hid h; clear h) | go_in)
  go_ret2
  exact ⟨_, _, rfl, HN.out⟩
set_option maxRecDepth 100000 in
set_option maxHeartbeats 4000000 in
theorem rcI' (a : Option Addr) (n cap : Nat) (zs : List Int) (w : World) (ha : IRow w a n zs) (hn : n ≤ 1048576) (hok : okS zs n 0 = false) :
    Calls Try.prog 29 #[.slice a n cap] w fun e w' => e = .returned (.tuple #[.slice none 0 0, .bool false]) ∧ Below w.heap.size w w' := by
  have HA := Lib.hid ha
  have HK := Lib.hid hok
  clear ha hok
  go_enter Try.func29, Try.ntmps29
  go_wp2_with (first | (go_at_call 25; refine (smI' _ n _ zs 0 _ HA.out hn HK.out).mono ?_; rintro e w2 ⟨rfl, h⟩; have HN := Lib.hid h; clear h) | go_in)
  go_ret2
  exact ⟨rfl, HN.out⟩
end Go.Proofs.Ytcgdhicgpkoncaa
