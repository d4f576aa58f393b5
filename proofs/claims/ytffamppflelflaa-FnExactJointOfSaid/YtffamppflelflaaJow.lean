/- JointOf of the program. -/
import Derived.Test.YtffamppflelflaaJov
namespace Go.Proofs.Ytffamppflelflaa
open Go.Proofs.Ytffamppflelflaa.Flo Go.RowKit

set_option maxRecDepth 100000 in
set_option maxHeartbeats 8000000 in
theorem joI (r c : Int) (a : Option Addr) (n : Nat) (zc : List Nat) (a2 : Option Addr) (m cap2 : Nat) (zr : List Nat) (w : World) (hc : FRow w a n zc) (hr : FRow w a2 m zr) (hn : n ≤ 1048576) (hm : m ≤ 1048576) (hok : okJo r c zc n zr m = true) :
    Calls Try.prog 37 #[.agg #[.int .i64 r, .int .i64 c, .slice a n n], .slice a2 m cap2] w fun e w' => ∃ g cp, e = .returned (.tuple #[.agg #[.int .i64 r, .int .i64 c, .slice (some ⟨g, 0, none⟩) n cp], .bool true]) ∧ New w w' g (.cl n (jointV zr zc c.toNat)) := by
  unfold okJo at hok
  rw [Bool.and_eq_true] at hok
  obtain ⟨ht, hv⟩ := hok
  obtain ⟨R, C, rfl, rfl, hN, hR, hC, hrows, hmR, hrow⟩ := take_out ht
  subst hmR
  have hn0 : 0 < n := by rw [hN]; exact Nat.mul_pos hR.1 hC.1
  obtain ⟨b, off, rfl⟩ := hc.some hn0
  have hn64 : n ≤ 64 := by rw [hN]; exact Nat.le_trans (Nat.mul_le_mul hR.2 hC.2) (by decide)
  obtain ⟨b2, o2, rfl⟩ := hr.some (by have := hR.1; omega : 0 < m)
  have hbl : b < w.heap.size := frow_block hc hn0
  have hbl2 : b2 < w.heap.size := frow_block hr (by have := hR.1; omega)
  obtain ⟨i0, hi, hz0, hz1, hz2⟩ := info_parts Try.info32
  have hdz : ∀ w2 : World, w2.drewN 0 = w2 := World.drewN_zero
  have HA0 := Lib.hid ((hc.alloc (.cells #[.int .i64 (m : Int), .int .i64 (C : Int), .slice (some ⟨b, off, none⟩) n n] 27)).alloc (.cells #[.int .i64 0, .int .i64 0, .slice none 0 0] 44))
  have HB0 := Lib.hid ((hr.alloc (.cells #[.int .i64 (m : Int), .int .i64 (C : Int), .slice (some ⟨b, off, none⟩) n n] 27)).alloc (.cells #[.int .i64 0, .int .i64 0, .slice none 0 0] 44))
  have HTZ := Lib.hid ((Tab.new w (m : Int) (C : Int) (some ⟨b, off, none⟩) n n 27).below (below_alloc _ (.cells #[.int .i64 0, .int .i64 0, .slice none 0 0] 44)))
  have HRZ := Lib.hid (Tin.new' (w := (w.alloc (.cells #[.int .i64 (m : Int), .int .i64 (C : Int), .slice (some ⟨b, off, none⟩) n n] 27))) (p := w.heap.size + 1) (r := 0) (c := 0) (v := .slice none 0 0) (T := 44) (by simp))
  have HWB : Hid (Below w.heap.size w ((w.alloc (.cells #[.int .i64 (m : Int), .int .i64 (C : Int), .slice (some ⟨b, off, none⟩) n n] 27)).alloc (.cells #[.int .i64 0, .int .i64 0, .slice none 0 0] 44))) := Lib.hid (Below.next (below_alloc _ _) (below_alloc _ _))
  have HN := Lib.hid hN
  have HRR := Lib.hid hR
  have HCC := Lib.hid hC
  obtain ⟨hR1, hR2⟩ := hR
  obtain ⟨hC1, hC2⟩ := hC
  have HROW := Lib.hid hrow
  have HROWS := Lib.hid hrows
  have HV := Lib.hid hv
  clear hc hr hN hrows hrow hv
  go_enter Try.func37, Try.ntmps37
  go_wp2_with (first | (go_at_call 76; refine (take_impl (m : Int) (C : Int) _ n n zc _ m _ zr _ HA0.out HB0.out hn hm (Nat.le_refl _)).mono ?_; rintro e w2 ⟨rfl, hb⟩; have HA := Lib.hid (HA0.out.below hb); have HB := Lib.hid (HB0.out.below hb); have HT := Lib.hid (HTZ.out.below hb); have HR0 := Lib.hid (HRZ.out.below hb); have HWT := Lib.hid (Below.next HWB.out hb); obtain ⟨_, hc0, hc1, hc2⟩ := HT.out; obtain ⟨_, hd0, hd1, hd2, hf0, hf1, hf2⟩ := HR0.out;  clear hb) | (go_at_call 59; refine (ro_impl b off m C n n _ HN.out HRR.out HCC.out (Nat.le_refl _)).mono ?_; rintro e w3 ⟨g, rfl, hg, hge, hb⟩; have HG := Lib.hid hg; have HGE : Hid (w2.heap.size + 1 ≤ g) := Lib.hid (by simpa using hge); have HT1 := Lib.hid ((Tin.new (w := w2) (r := (m : Int)) (c := (C : Int)) (v := .slice none 0 0) (T := 44)).below hb); have HD := Lib.hid (Below.next (below_alloc w2 (.cells #[.int .i64 (m : Int), .int .i64 (C : Int), .slice none 0 0] 44)) hb); clear hg hge hb) | go_in)
  have HWS : Hid (w.heap.size + 2 ≤ w2.heap.size) := Lib.hid HR0.out.1
  have HHL : Hid (w2.heap.size < w3.heap.size) := Lib.hid HT1.out.1
  have HGL : Hid (g < w3.heap.size) := Lib.hid HG.out.1
  clear HWB hc0 hc1 hc2 hd0 hd1 hd2 hf0 hf1 hf2
  clear HA0 HB0 HTZ HRZ
  go_loopw [24] (fun kv w' => ∃ (i : Nat) (v : Value) (wr : World), i ≤ m ∧ kv = .int .i64 i ∧ wr = w' ∧ Hid (Tin wr w2.heap.size m C v) ∧ Hid (Got wr w3.heap.size 32 v (i * C) (jointV zr zc C)) ∧ Hid (RowsAt wr g b off m C) ∧ Hid (Below w2.heap.size w2 wr) ∧ Hid (w3.heap.size ≤ wr.heap.size)) (fun kv _ => m - (intOf kv).toNat)
  case atStart => exact ⟨0, _, _, by omega, rfl, rfl, HT1, Lib.hid (by rw [Nat.zero_mul]; exact Got.nil _ _ _ _), HG, HD, Lib.hid (Nat.le_refl _)⟩
  case round =>
    clear HT1 HD HG
    obtain ⟨i, v0, wr0, hik, rfl, rfl, HT1, HO, HG, HW, HS⟩ := hrel
    by_cases hlti : i < m
    · have hrs : wr0.cell? ⟨g, i, none⟩ = some (.slice (some ⟨b, off + i * C, none⟩) C C) := HG.out.2 i hlti
      go_wp2
      clear hrs
      go_loopw [31] (fun iv w' => ∃ (k : Nat) (v : Value) (wr : World), k ≤ C ∧ iv = .int .i64 k ∧ wr = w' ∧ Hid (Tin wr w2.heap.size m C v) ∧ Hid (Got wr w3.heap.size 32 v (i * C + k) (jointV zr zc C)) ∧ Hid (RowsAt wr g b off m C) ∧ Hid (Below w2.heap.size w2 wr) ∧ Hid (w3.heap.size ≤ wr.heap.size)) (fun iv _ => C - (intOf iv).toNat)
      case atStart => exact ⟨0, v0, _, by omega, rfl, rfl, HT1, HO, HG, HW, HS⟩
      case round =>
        clear HT1 HO HG HW HS
        obtain ⟨k, v, wr, hkk, rfl, rfl, HT1, HO, HG, HW, HS⟩ := hrel
        by_cases hltk : k < C
        · have hmul := joint_op HROW.out HROWS.out hlti hltk
          obtain ⟨K, hK⟩ : ∃ K, K = i * C + k := ⟨_, rfl⟩
          have hin : K < n := by rw [hK]; exact mul_in HN.out hlti hltk
          rw [← hK] at hmul HO
          have HAw := Lib.hid (HA.out.below HW.out)
          have HBw := Lib.hid (HB.out.below HW.out)
          have hck : wr.cell? ⟨b, off + i * C + k, none⟩ = some (.float .f32 (zc.getD K 0)) := by rw [Nat.add_assoc, ← hK]; exact row_cell2 HAw.out hin
          have hck2 : wr.cell? ⟨b2, o2 + i, none⟩ = some (.float .f32 (zr.getD i 0)) := row_cell2 HBw.out hlti
          have hr1 := fun w2 => fres_some hmul w2
          have hf1 := fcnt_some hmul
          have HV2 : Hid (cls .f32 (prodN zr zc C K) = jointV zr zc C K) := Lib.hid rfl
          have HKK := Lib.hid hK
          clear hmul hK
          generalize prodN zr zc C K = z at hr1 HV2
          generalize zc.getD K 0 = y at hck hr1 hf1
          generalize zr.getD i 0 = x at hck2 hr1 hf1
          obtain ⟨hP, hp0, hp1, hp2, _, _, hpf⟩ := HT1.out
          obtain ⟨zs0, hz, ho⟩ := HO.out
          have HZ := Lib.hid hz
          have HO1 := Lib.hid ho
          have HNE := Lib.hid (own_block ho)
          have hHs : w2.heap.size < w3.heap.size := HHL.out
          have hHw : w.heap.size + 2 ≤ w2.heap.size := HWS.out
          have hss := HS.out
          have hn2 : some b ≠ v.ownBlock := fun e => by have := own_block ho b e.symm; omega
          have hn5 : some b2 ≠ v.ownBlock := fun e => by have := own_block ho b2 e.symm; omega
          have hn3 : some w2.heap.size ≠ v.ownBlock := fun e => by have := own_block ho _ e.symm; omega
          have hn4 : some g ≠ v.ownBlock := fun e => by have := own_block ho _ e.symm; have := HGL.out; omega
          have hq2 : ¬ (w2.heap.size = b) := by omega
          have hq4 : ¬ (b = w2.heap.size) := by omega
          have hq5 : ¬ (w2.heap.size = b2) := by omega
          have hq6 : ¬ (b2 = w2.heap.size) := by omega
          have hz64 : K + 1 ≤ 64 := by omega
          clear hz ho
          go_wp2
          go_region_law (first | (refine step_append_lies _ (by rfl) _ _ _ (by rfl) (w3.heap.size) 32 i0 (.float .f32 0) 1 4 Try.underlying22 hi hz0 hz1 hz2 rfl (by omega) v K (zs0.map (Value.float .f32)) (by rfl) ((HO1.out.alloc _).drew) ⟨wr.heap.size, 0, none⟩ 1 1 [.float .f32 z] (by rfl) (by rfl) (World.news_of_block (cs := #[.float .f32 z]) (t := 32) (fr := (0, 0)) (heap_alloc_new _ _)) (by simp [Value.oneCell']) (by omega) (by unfold maxLen; omega) (by omega) (by simp; omega) (wr.heap.size + 1) (by simp) ?_; intro gg cp w1 hown1 hgrow hat hlt3; have hT1 : Tin w1 w2.heap.size m C v := Tin.grown hgrow hn3 (HT1.out.below (by repeat (first | exact Below.refl _ _ | refine Below.drew ?_ | refine Below.drewN' ?_ _ | refine Below.alloc ?_ (by first | (simp; done) | (simp; omega)) _ | refine Below.setCell ?_ (by first | (simp; done) | (simp; omega)) _))); have HT1' := Lib.hid hT1; obtain ⟨hg0, hg1, hg2, hg3, _, _, hg4⟩ := hT1) | (refine step_append_lies _ (by rfl) _ _ _ (by rfl) (w3.heap.size) 32 i0 (.float .f32 0) 1 4 Try.underlying22 hi hz0 hz1 hz2 rfl (by omega) v K (zs0.map (Value.float .f32)) (by rfl) (HO1.out.alloc _) ⟨wr.heap.size, 0, none⟩ 1 1 [.float .f32 z] (by rfl) (by rfl) (World.news_of_block (cs := #[.float .f32 z]) (t := 32) (fr := (0, 0)) (heap_alloc_new _ _)) (by simp [Value.oneCell']) (by omega) (by unfold maxLen; omega) (by omega) (by simp; omega) (wr.heap.size + 1) (by simp) ?_; intro gg cp w1 hown1 hgrow hat hlt3; have hT1 : Tin w1 w2.heap.size m C v := Tin.grown hgrow hn3 (HT1.out.below (by repeat (first | exact Below.refl _ _ | refine Below.drew ?_ | refine Below.drewN' ?_ _ | refine Below.alloc ?_ (by first | (simp; done) | (simp; omega)) _ | refine Below.setCell ?_ (by first | (simp; done) | (simp; omega)) _))); have HT1' := Lib.hid hT1; obtain ⟨hg0, hg1, hg2, hg3, _, _, hg4⟩ := hT1))
          all_goals
            go_wp2
            exact ⟨⟨k + 1, _, _, by omega, by first | rfl | go_num | (congr 1), rfl, Lib.hid (Tin.below (Tin.set HT1'.out _) (by repeat (first | exact Below.refl _ _ | refine Below.drew ?_ | refine Below.drewN' ?_ _ | refine Below.alloc ?_ (by first | (simp; done) | (simp; omega)) _ | refine Below.setCell ?_ (by first | (simp; done) | (simp; omega)) _))), Lib.hid (by rw [show i * C + (k + 1) = K + 1 by have := HKK.out; omega]; exact Got.keep (Got.setCell (Got.step HZ.out (Got.len HO1.out) HV2.out hown1) ⟨w2.heap.size, 2, none⟩ _ hHs) (by repeat (first | exact Below.refl _ _ | refine Below.drew ?_ | refine Below.drewN' ?_ _ | refine Below.alloc ?_ (by first | (simp; done) | (simp; omega)) _ | refine Below.setCell ?_ (by first | (simp; done) | (simp; omega)) _))), Lib.hid (RowsAt.below (rows_far' (rows_grown hgrow hn4 (HG.out.below (by repeat (first | exact Below.refl _ _ | refine Below.drew ?_ | refine Below.drewN' ?_ _ | refine Below.alloc ?_ (by first | (simp; done) | (simp; omega)) _ | refine Below.setCell ?_ (by first | (simp; done) | (simp; omega)) _)))) (p := ⟨w2.heap.size, 2, none⟩) (by show w2.heap.size ≠ g; have := HGE.out; omega) _) (by repeat (first | exact Below.refl _ _ | refine Below.drew ?_ | refine Below.drewN' ?_ _ | refine Below.alloc ?_ (by first | (simp; done) | (simp; omega)) _ | refine Below.setCell ?_ (by first | (simp; done) | (simp; omega)) _))), Lib.hid (by repeat (first | exact HW.out | refine Below.drew ?_ | refine Below.drewN' ?_ _ | refine Below.setCell ?_ (by first | (simp; done) | (simp; omega)) _ | refine Below.alloc ?_ (by first | omega | (simp; omega)) _ | refine Below.grown ?_ hgrow (by first | omega | (simp; omega)) (fun j hj => Nat.le_trans (by omega) (HNE.out j hj)))), Lib.hid (by have := hgrow.size; simp at this ⊢; omega)⟩, by show C - ((k : Int) + 1).toNat < C - (k : Int).toNat; omega⟩
        · obtain rfl : k = C := by omega
          go_wp2
          refine ⟨⟨i + 1, v, _, by omega, by first | rfl | go_num | (congr 1), rfl, HT1, Lib.hid (by rw [Nat.succ_mul]; exact HO.out), HG, HW, HS⟩, by show m - ((i : Int) + 1).toNat < m - (i : Int).toNat; omega⟩
    · obtain rfl : i = m := by omega
      have hkR : 0 < i * C := Nat.mul_pos hR1 hC1
      have HNK : Hid (i * C = n) := Lib.hid HN.out.symm
      rw [HNK.out] at HO hkR
      obtain ⟨gg, cp, rfl, hcap⟩ := HO.out.form hkR
      obtain ⟨zg, hg1, hg2, hg3, hg4, hg5⟩ := Got.fin'' HO.out (by omega)
      have HG1 := Lib.hid hg1
      have HG2 := Lib.hid hg2
      have HG3 := Lib.hid hg3
      have HG4 := Lib.hid hg4
      have HG5 := Lib.hid hg5
      have HR1 := Lib.hid (HR0.out.below HW.out)
      have HWW : Hid (Below w.heap.size w wr0) := Lib.hid (Below.next HWT.out HW.out)
      obtain ⟨hs1, hd0, hd1, hd2, _⟩ := HT1.out
      clear hg1 hg2 hg3 hg4 hg5
      go_wp2_with (first | (go_at_call 81; refine (gtI_yes (i : Int) (C : Int) _ n _ zg _ HG3.out hn (by rw [tab_V2 HRR.out HCC.out HN.out HG4.out]; exact HV.out)).mono ?_; rintro e w4 ⟨rfl, hb⟩; have HR := Lib.hid (HR1.out.below hb); have HG5 := Lib.hid (HG5.out.below HG2.out hb); have HG2 := Lib.hid (Nat.lt_of_lt_of_le HG2.out hb.size); have HB2 := Lib.hid (Below.next HWW.out hb); obtain ⟨_, hd0, hd1, hd2, hf0, hf1, hf2⟩ := HR.out; have HP3 := Lib.hid (HR.out.put3 (.int .i64 (i : Int)) (.int .i64 (C : Int)) (.slice (some ⟨gg, 0, none⟩) n cp)); clear hb) | go_in)
      obtain ⟨hr0, hr1, hr2⟩ := HP3.out
      have hgne : w.heap.size + 1 ≠ gg := by have := HG1.out; have := HHL.out; have := HWS.out; omega
      exact bodyPost_ret (v := .tuple #[.agg #[.int .i64 (i : Int), .int .i64 (C : Int), .slice (some ⟨gg, 0, none⟩) n cp], .bool true]) (by simp [results, Try.results37, go_sem, hr0, hr1, hr2]) rfl
        ⟨gg, cp, rfl, by have := HG1.out; have := HHL.out; have := HWS.out; omega, by simpa using HG2.out, Ent.ok.set (Ent.ok.set (Ent.ok.set HG5.out hgne _) hgne _) hgne _, by repeat (first | exact HB2.out | refine Below.setCell ?_ (by first | (simp; done) | (simp; omega)) _)⟩
set_option maxRecDepth 100000 in
set_option maxHeartbeats 8000000 in
theorem joI' (r c : Int) (a : Option Addr) (n : Nat) (zc : List Nat) (a2 : Option Addr) (m cap2 : Nat) (zr : List Nat) (w : World) (hc : FRow w a n zc) (hr : FRow w a2 m zr) (hn : n ≤ 1048576) (hm : m ≤ 1048576) (hok : okJo r c zc n zr m = false) :
    Calls Try.prog 37 #[.agg #[.int .i64 r, .int .i64 c, .slice a n n], .slice a2 m cap2] w fun e w' => e = .returned (.tuple #[.agg #[.int .i64 0, .int .i64 0, .slice none 0 0], .bool false]) ∧ Below w.heap.size w w' := by
  unfold okJo at hok
  cases ht : takeB r c zc n zr m with
  | false =>
    have HA0 := Lib.hid ((hc.alloc (.cells #[.int .i64 r, .int .i64 c, .slice a n n] 27)).alloc (.cells #[.int .i64 0, .int .i64 0, .slice none 0 0] 44))
    have HB0 := Lib.hid ((hr.alloc (.cells #[.int .i64 r, .int .i64 c, .slice a n n] 27)).alloc (.cells #[.int .i64 0, .int .i64 0, .slice none 0 0] 44))
    have HTZ := Lib.hid ((Tab.new w r c a n n 27).below (below_alloc _ (.cells #[.int .i64 0, .int .i64 0, .slice none 0 0] 44)))
    have HRZ := Lib.hid (Tin.new' (w := (w.alloc (.cells #[.int .i64 r, .int .i64 c, .slice a n n] 27))) (p := w.heap.size + 1) (r := 0) (c := 0) (v := .slice none 0 0) (T := 44) (by simp))
    have HWB : Hid (Below w.heap.size w ((w.alloc (.cells #[.int .i64 r, .int .i64 c, .slice a n n] 27)).alloc (.cells #[.int .i64 0, .int .i64 0, .slice none 0 0] 44))) := Lib.hid (Below.next (below_alloc _ _) (below_alloc _ _))
    clear hc hr hok
    go_enter Try.func37, Try.ntmps37
    go_wp2_with (first | (go_at_call 76; refine (take_impl r c a n n zc a2 m _ zr _ HA0.out HB0.out hn hm (Nat.le_refl _)).mono ?_; rintro e w2 ⟨rfl, hb⟩; have HA := Lib.hid (HA0.out.below hb); have HB := Lib.hid (HB0.out.below hb); have HT := Lib.hid (HTZ.out.below hb); have HR0 := Lib.hid (HRZ.out.below hb); have HWT := Lib.hid (Below.next HWB.out hb); obtain ⟨_, hc0, hc1, hc2⟩ := HT.out; obtain ⟨_, hd0, hd1, hd2, hf0, hf1, hf2⟩ := HR0.out; have HP3 := Lib.hid (HR0.out.put3 (.int .i64 0) (.int .i64 0) (.slice none 0 0)); clear hb) | go_in)
    obtain ⟨hr0, hr1, hr2⟩ := HP3.out
    exact bodyPost_ret (v := .tuple #[.agg #[.int .i64 0, .int .i64 0, .slice none 0 0], .bool false]) (by simp [results, Try.results37, go_sem, hr0, hr1, hr2]) rfl
      ⟨rfl, by repeat (first | exact HWT.out | refine Below.setCell ?_ (by first | (simp; done) | (simp; omega)) _)⟩
  | true =>
    rw [ht, Bool.true_and] at hok
    have hv := hok
    clear hok
    obtain ⟨R, C, rfl, rfl, hN, hR, hC, hrows, hmR, hrow⟩ := take_out ht
    subst hmR
    have hn0 : 0 < n := by rw [hN]; exact Nat.mul_pos hR.1 hC.1
    obtain ⟨b, off, rfl⟩ := hc.some hn0
    have hn64 : n ≤ 64 := by rw [hN]; exact Nat.le_trans (Nat.mul_le_mul hR.2 hC.2) (by decide)
    obtain ⟨b2, o2, rfl⟩ := hr.some (by have := hR.1; omega : 0 < m)
    have hbl : b < w.heap.size := frow_block hc hn0
    have hbl2 : b2 < w.heap.size := frow_block hr (by have := hR.1; omega)
    obtain ⟨i0, hi, hz0, hz1, hz2⟩ := info_parts Try.info32
    have hdz : ∀ w2 : World, w2.drewN 0 = w2 := World.drewN_zero
    have HA0 := Lib.hid ((hc.alloc (.cells #[.int .i64 (m : Int), .int .i64 (C : Int), .slice (some ⟨b, off, none⟩) n n] 27)).alloc (.cells #[.int .i64 0, .int .i64 0, .slice none 0 0] 44))
    have HB0 := Lib.hid ((hr.alloc (.cells #[.int .i64 (m : Int), .int .i64 (C : Int), .slice (some ⟨b, off, none⟩) n n] 27)).alloc (.cells #[.int .i64 0, .int .i64 0, .slice none 0 0] 44))
    have HTZ := Lib.hid ((Tab.new w (m : Int) (C : Int) (some ⟨b, off, none⟩) n n 27).below (below_alloc _ (.cells #[.int .i64 0, .int .i64 0, .slice none 0 0] 44)))
    have HRZ := Lib.hid (Tin.new' (w := (w.alloc (.cells #[.int .i64 (m : Int), .int .i64 (C : Int), .slice (some ⟨b, off, none⟩) n n] 27))) (p := w.heap.size + 1) (r := 0) (c := 0) (v := .slice none 0 0) (T := 44) (by simp))
    have HWB : Hid (Below w.heap.size w ((w.alloc (.cells #[.int .i64 (m : Int), .int .i64 (C : Int), .slice (some ⟨b, off, none⟩) n n] 27)).alloc (.cells #[.int .i64 0, .int .i64 0, .slice none 0 0] 44))) := Lib.hid (Below.next (below_alloc _ _) (below_alloc _ _))
    have HN := Lib.hid hN
    have HRR := Lib.hid hR
    have HCC := Lib.hid hC
    obtain ⟨hR1, hR2⟩ := hR
    obtain ⟨hC1, hC2⟩ := hC
    have HROW := Lib.hid hrow
    have HROWS := Lib.hid hrows
    have HV := Lib.hid hv
    clear hc hr hN hrows hrow hv
    go_enter Try.func37, Try.ntmps37
    go_wp2_with (first | (go_at_call 76; refine (take_impl (m : Int) (C : Int) _ n n zc _ m _ zr _ HA0.out HB0.out hn hm (Nat.le_refl _)).mono ?_; rintro e w2 ⟨rfl, hb⟩; have HA := Lib.hid (HA0.out.below hb); have HB := Lib.hid (HB0.out.below hb); have HT := Lib.hid (HTZ.out.below hb); have HR0 := Lib.hid (HRZ.out.below hb); have HWT := Lib.hid (Below.next HWB.out hb); obtain ⟨_, hc0, hc1, hc2⟩ := HT.out; obtain ⟨_, hd0, hd1, hd2, hf0, hf1, hf2⟩ := HR0.out;  clear hb) | (go_at_call 59; refine (ro_impl b off m C n n _ HN.out HRR.out HCC.out (Nat.le_refl _)).mono ?_; rintro e w3 ⟨g, rfl, hg, hge, hb⟩; have HG := Lib.hid hg; have HGE : Hid (w2.heap.size + 1 ≤ g) := Lib.hid (by simpa using hge); have HT1 := Lib.hid ((Tin.new (w := w2) (r := (m : Int)) (c := (C : Int)) (v := .slice none 0 0) (T := 44)).below hb); have HD := Lib.hid (Below.next (below_alloc w2 (.cells #[.int .i64 (m : Int), .int .i64 (C : Int), .slice none 0 0] 44)) hb); clear hg hge hb) | go_in)
    have HWS : Hid (w.heap.size + 2 ≤ w2.heap.size) := Lib.hid HR0.out.1
    have HHL : Hid (w2.heap.size < w3.heap.size) := Lib.hid HT1.out.1
    have HGL : Hid (g < w3.heap.size) := Lib.hid HG.out.1
    clear HWB hc0 hc1 hc2 hd0 hd1 hd2 hf0 hf1 hf2
    clear HA0 HB0 HTZ HRZ
    go_loopw [24] (fun kv w' => ∃ (i : Nat) (v : Value) (wr : World), i ≤ m ∧ kv = .int .i64 i ∧ wr = w' ∧ Hid (Tin wr w2.heap.size m C v) ∧ Hid (Got wr w3.heap.size 32 v (i * C) (jointV zr zc C)) ∧ Hid (RowsAt wr g b off m C) ∧ Hid (Below w2.heap.size w2 wr) ∧ Hid (w3.heap.size ≤ wr.heap.size)) (fun kv _ => m - (intOf kv).toNat)
    case atStart => exact ⟨0, _, _, by omega, rfl, rfl, HT1, Lib.hid (by rw [Nat.zero_mul]; exact Got.nil _ _ _ _), HG, HD, Lib.hid (Nat.le_refl _)⟩
    case round =>
      clear HT1 HD HG
      obtain ⟨i, v0, wr0, hik, rfl, rfl, HT1, HO, HG, HW, HS⟩ := hrel
      by_cases hlti : i < m
      · have hrs : wr0.cell? ⟨g, i, none⟩ = some (.slice (some ⟨b, off + i * C, none⟩) C C) := HG.out.2 i hlti
        go_wp2
        clear hrs
        go_loopw [31] (fun iv w' => ∃ (k : Nat) (v : Value) (wr : World), k ≤ C ∧ iv = .int .i64 k ∧ wr = w' ∧ Hid (Tin wr w2.heap.size m C v) ∧ Hid (Got wr w3.heap.size 32 v (i * C + k) (jointV zr zc C)) ∧ Hid (RowsAt wr g b off m C) ∧ Hid (Below w2.heap.size w2 wr) ∧ Hid (w3.heap.size ≤ wr.heap.size)) (fun iv _ => C - (intOf iv).toNat)
        case atStart => exact ⟨0, v0, _, by omega, rfl, rfl, HT1, HO, HG, HW, HS⟩
        case round =>
          clear HT1 HO HG HW HS
          obtain ⟨k, v, wr, hkk, rfl, rfl, HT1, HO, HG, HW, HS⟩ := hrel
          by_cases hltk : k < C
          · have hmul := joint_op HROW.out HROWS.out hlti hltk
            obtain ⟨K, hK⟩ : ∃ K, K = i * C + k := ⟨_, rfl⟩
            have hin : K < n := by rw [hK]; exact mul_in HN.out hlti hltk
            rw [← hK] at hmul HO
            have HAw := Lib.hid (HA.out.below HW.out)
            have HBw := Lib.hid (HB.out.below HW.out)
            have hck : wr.cell? ⟨b, off + i * C + k, none⟩ = some (.float .f32 (zc.getD K 0)) := by rw [Nat.add_assoc, ← hK]; exact row_cell2 HAw.out hin
            have hck2 : wr.cell? ⟨b2, o2 + i, none⟩ = some (.float .f32 (zr.getD i 0)) := row_cell2 HBw.out hlti
            have hr1 := fun w2 => fres_some hmul w2
            have hf1 := fcnt_some hmul
            have HV2 : Hid (cls .f32 (prodN zr zc C K) = jointV zr zc C K) := Lib.hid rfl
            have HKK := Lib.hid hK
            clear hmul hK
            generalize prodN zr zc C K = z at hr1 HV2
            generalize zc.getD K 0 = y at hck hr1 hf1
            generalize zr.getD i 0 = x at hck2 hr1 hf1
            obtain ⟨hP, hp0, hp1, hp2, _, _, hpf⟩ := HT1.out
            obtain ⟨zs0, hz, ho⟩ := HO.out
            have HZ := Lib.hid hz
            have HO1 := Lib.hid ho
            have HNE := Lib.hid (own_block ho)
            have hHs : w2.heap.size < w3.heap.size := HHL.out
            have hHw : w.heap.size + 2 ≤ w2.heap.size := HWS.out
            have hss := HS.out
            have hn2 : some b ≠ v.ownBlock := fun e => by have := own_block ho b e.symm; omega
            have hn5 : some b2 ≠ v.ownBlock := fun e => by have := own_block ho b2 e.symm; omega
            have hn3 : some w2.heap.size ≠ v.ownBlock := fun e => by have := own_block ho _ e.symm; omega
            have hn4 : some g ≠ v.ownBlock := fun e => by have := own_block ho _ e.symm; have := HGL.out; omega
            have hq2 : ¬ (w2.heap.size = b) := by omega
            have hq4 : ¬ (b = w2.heap.size) := by omega
            have hq5 : ¬ (w2.heap.size = b2) := by omega
            have hq6 : ¬ (b2 = w2.heap.size) := by omega
            have hz64 : K + 1 ≤ 64 := by omega
            clear hz ho
            go_wp2
            go_region_law (first | (refine step_append_lies _ (by rfl) _ _ _ (by rfl) (w3.heap.size) 32 i0 (.float .f32 0) 1 4 Try.underlying22 hi hz0 hz1 hz2 rfl (by omega) v K (zs0.map (Value.float .f32)) (by rfl) ((HO1.out.alloc _).drew) ⟨wr.heap.size, 0, none⟩ 1 1 [.float .f32 z] (by rfl) (by rfl) (World.news_of_block (cs := #[.float .f32 z]) (t := 32) (fr := (0, 0)) (heap_alloc_new _ _)) (by simp [Value.oneCell']) (by omega) (by unfold maxLen; omega) (by omega) (by simp; omega) (wr.heap.size + 1) (by simp) ?_; intro gg cp w1 hown1 hgrow hat hlt3; have hT1 : Tin w1 w2.heap.size m C v := Tin.grown hgrow hn3 (HT1.out.below (by repeat (first | exact Below.refl _ _ | refine Below.drew ?_ | refine Below.drewN' ?_ _ | refine Below.alloc ?_ (by first | (simp; done) | (simp; omega)) _ | refine Below.setCell ?_ (by first | (simp; done) | (simp; omega)) _))); have HT1' := Lib.hid hT1; obtain ⟨hg0, hg1, hg2, hg3, _, _, hg4⟩ := hT1) | (refine step_append_lies _ (by rfl) _ _ _ (by rfl) (w3.heap.size) 32 i0 (.float .f32 0) 1 4 Try.underlying22 hi hz0 hz1 hz2 rfl (by omega) v K (zs0.map (Value.float .f32)) (by rfl) (HO1.out.alloc _) ⟨wr.heap.size, 0, none⟩ 1 1 [.float .f32 z] (by rfl) (by rfl) (World.news_of_block (cs := #[.float .f32 z]) (t := 32) (fr := (0, 0)) (heap_alloc_new _ _)) (by simp [Value.oneCell']) (by omega) (by unfold maxLen; omega) (by omega) (by simp; omega) (wr.heap.size + 1) (by simp) ?_; intro gg cp w1 hown1 hgrow hat hlt3; have hT1 : Tin w1 w2.heap.size m C v := Tin.grown hgrow hn3 (HT1.out.below (by repeat (first | exact Below.refl _ _ | refine Below.drew ?_ | refine Below.drewN' ?_ _ | refine Below.alloc ?_ (by first | (simp; done) | (simp; omega)) _ | refine Below.setCell ?_ (by first | (simp; done) | (simp; omega)) _))); have HT1' := Lib.hid hT1; obtain ⟨hg0, hg1, hg2, hg3, _, _, hg4⟩ := hT1))
            all_goals
              go_wp2
              exact ⟨⟨k + 1, _, _, by omega, by first | rfl | go_num | (congr 1), rfl, Lib.hid (Tin.below (Tin.set HT1'.out _) (by repeat (first | exact Below.refl _ _ | refine Below.drew ?_ | refine Below.drewN' ?_ _ | refine Below.alloc ?_ (by first | (simp; done) | (simp; omega)) _ | refine Below.setCell ?_ (by first | (simp; done) | (simp; omega)) _))), Lib.hid (by rw [show i * C + (k + 1) = K + 1 by have := HKK.out; omega]; exact Got.keep (Got.setCell (Got.step HZ.out (Got.len HO1.out) HV2.out hown1) ⟨w2.heap.size, 2, none⟩ _ hHs) (by repeat (first | exact Below.refl _ _ | refine Below.drew ?_ | refine Below.drewN' ?_ _ | refine Below.alloc ?_ (by first | (simp; done) | (simp; omega)) _ | refine Below.setCell ?_ (by first | (simp; done) | (simp; omega)) _))), Lib.hid (RowsAt.below (rows_far' (rows_grown hgrow hn4 (HG.out.below (by repeat (first | exact Below.refl _ _ | refine Below.drew ?_ | refine Below.drewN' ?_ _ | refine Below.alloc ?_ (by first | (simp; done) | (simp; omega)) _ | refine Below.setCell ?_ (by first | (simp; done) | (simp; omega)) _)))) (p := ⟨w2.heap.size, 2, none⟩) (by show w2.heap.size ≠ g; have := HGE.out; omega) _) (by repeat (first | exact Below.refl _ _ | refine Below.drew ?_ | refine Below.drewN' ?_ _ | refine Below.alloc ?_ (by first | (simp; done) | (simp; omega)) _ | refine Below.setCell ?_ (by first | (simp; done) | (simp; omega)) _))), Lib.hid (by repeat (first | exact HW.out | refine Below.drew ?_ | refine Below.drewN' ?_ _ | refine Below.setCell ?_ (by first | (simp; done) | (simp; omega)) _ | refine Below.alloc ?_ (by first | omega | (simp; omega)) _ | refine Below.grown ?_ hgrow (by first | omega | (simp; omega)) (fun j hj => Nat.le_trans (by omega) (HNE.out j hj)))), Lib.hid (by have := hgrow.size; simp at this ⊢; omega)⟩, by show C - ((k : Int) + 1).toNat < C - (k : Int).toNat; omega⟩
          · obtain rfl : k = C := by omega
            go_wp2
            refine ⟨⟨i + 1, v, _, by omega, by first | rfl | go_num | (congr 1), rfl, HT1, Lib.hid (by rw [Nat.succ_mul]; exact HO.out), HG, HW, HS⟩, by show m - ((i : Int) + 1).toNat < m - (i : Int).toNat; omega⟩
      · obtain rfl : i = m := by omega
        have hkR : 0 < i * C := Nat.mul_pos hR1 hC1
        have HNK : Hid (i * C = n) := Lib.hid HN.out.symm
        rw [HNK.out] at HO hkR
        obtain ⟨gg, cp, rfl, hcap⟩ := HO.out.form hkR
        obtain ⟨zg, hg1, hg2, hg3, hg4, hg5⟩ := Got.fin'' HO.out (by omega)
        have HG1 := Lib.hid hg1
        have HG2 := Lib.hid hg2
        have HG3 := Lib.hid hg3
        have HG4 := Lib.hid hg4
        have HG5 := Lib.hid hg5
        have HR1 := Lib.hid (HR0.out.below HW.out)
        have HWW : Hid (Below w.heap.size w wr0) := Lib.hid (Below.next HWT.out HW.out)
        obtain ⟨hs1, hd0, hd1, hd2, _⟩ := HT1.out
        clear hg1 hg2 hg3 hg4 hg5
        go_wp2_with (first | (go_at_call 81; refine (gtI_no (i : Int) (C : Int) _ n _ zg _ HG3.out hn (by rw [tab_V2 HRR.out HCC.out HN.out HG4.out]; exact HV.out)).mono ?_; rintro e w4 ⟨rfl, hb⟩; have HR := Lib.hid (HR1.out.below hb); have HG5 := Lib.hid (HG5.out.below HG2.out hb); have HG2 := Lib.hid (Nat.lt_of_lt_of_le HG2.out hb.size); have HB2 := Lib.hid (Below.next HWW.out hb); obtain ⟨_, hd0, hd1, hd2, hf0, hf1, hf2⟩ := HR.out; have HP3 := Lib.hid (HR.out.put3 (.int .i64 0) (.int .i64 0) (.slice none 0 0)); clear hb) | go_in)
        obtain ⟨hr0, hr1, hr2⟩ := HP3.out
        exact bodyPost_ret (v := .tuple #[.agg #[.int .i64 0, .int .i64 0, .slice none 0 0], .bool false]) (by simp [results, Try.results37, go_sem, hr0, hr1, hr2]) rfl
          ⟨rfl, by repeat (first | exact HB2.out | refine Below.setCell ?_ (by first | (simp; done) | (simp; omega)) _)⟩
end Go.Proofs.Ytffamppflelflaa
