/- JointOf of the model. -/
import Derived.Test.YtffamppflelflaaJov
namespace Go.Proofs.Ytffamppflelflaa
open Go.Proofs.Ytffamppflelflaa.Flo Go.RowKit

set_option maxRecDepth 100000 in
set_option maxHeartbeats 8000000 in
theorem jo_spec (p b off R C n : Nat) (zc : List Nat) (a2 : Option Addr) (cap2 : Nat) (zr : List Nat) (w : World) (ht : Tab w p R C (some ⟨b, off, none⟩) n n)
    (hc : FRow w (some ⟨b, off, none⟩) n zc) (hr : FRow w a2 R zr) (hn : n = R * C) (hR : 1 ≤ R ∧ R ≤ 8) (hC : 1 ≤ C ∧ C ≤ 8) (hrow : rowB zr R = true) (hrows : rowsB zc R C = true) :
    Calls Try.prog 79 #[.pointer (some ⟨p, 0, none⟩), .slice a2 R cap2] w fun e w' => ∃ g cap, e = .returned (.agg #[.int .i64 (R : Int), .int .i64 (C : Int), .slice (some ⟨g, 0, none⟩) n cap]) ∧ n ≤ cap ∧ Got w' w.heap.size 32 (.slice (some ⟨g, 0, none⟩) n cap) n (jointV zr zc C) ∧ Below w.heap.size w w' := by
  obtain ⟨i0, hi, hz0, hz1, hz2⟩ := info_parts Try.info32
  obtain ⟨hp, h0, h1, h2⟩ := ht
  obtain ⟨hR1, hR2⟩ := hR
  obtain ⟨hC1, hC2⟩ := hC
  obtain ⟨b2, o2, rfl⟩ := hr.some (by omega : 0 < R)
  have hn64 : n ≤ 64 := by rw [hn]; exact Nat.le_trans (Nat.mul_le_mul hR2 hC2) (by decide)
  have hbl : b < w.heap.size := frow_block hc (by rw [hn]; exact Nat.mul_pos hR1 hC1)
  have hbl2 : b2 < w.heap.size := frow_block hr (by omega)
  have HA := Lib.hid hc
  have HB := Lib.hid hr
  have HN := Lib.hid hn
  have HROW := Lib.hid hrow
  have HROWS := Lib.hid hrows
  have H0 := Lib.hid h0
  have H1 := Lib.hid h1
  have H2 := Lib.hid h2
  have hdz : ∀ w2 : World, w2.drewN 0 = w2 := World.drewN_zero
  clear hc hr hn hrow hrows
  go_enter Try.func79, Try.ntmps79
  go_wp2
  go_region_held3 (fun w' => w'.cell? ⟨p, 0, none⟩ = some (.int .i64 (R : Int)) ∧ w'.cell? ⟨p, 1, none⟩ = some (.int .i64 (C : Int))) (go_keep) (fail)
  go_wp2
  clear h0 h1 h2
  go_loopw [6] (fun kv w' => ∃ (i : Nat) (v : Value) (wr : World), i ≤ R ∧ kv = .int .i64 i ∧ wr = w' ∧ Hid (Tin wr w.heap.size 0 0 (.slice none 0 0)) ∧ Hid (Tin wr (w.heap.size + 1) R C v) ∧ Hid (Got wr (w.heap.size + 2) 32 v (i * C) (jointV zr zc C)) ∧ Hid (Below w.heap.size w wr)) (fun kv _ => R - (intOf kv).toNat)
  case atStart => exact ⟨0, _, _, by omega, rfl, rfl, Lib.hid (Tin.below (Tin.new (T := 44)) (by repeat (first | exact Below.refl _ _ | refine Below.drew ?_ | refine Below.drewN' ?_ _ | refine Below.alloc ?_ (by first | (simp; done) | (simp; omega)) _ | refine Below.setCell ?_ (by first | (simp; done) | (simp; omega)) _))), Lib.hid (Tin.below (Tin.new' (w := w.alloc (.cells #[.int .i64 0, .int .i64 0, .slice none 0 0] 44)) (T := 44) (by simp)) (by repeat (first | exact Below.refl _ _ | refine Below.drew ?_ | refine Below.drewN' ?_ _ | refine Below.alloc ?_ (by first | (simp; done) | (simp; omega)) _ | refine Below.setCell ?_ (by first | (simp; done) | (simp; omega)) _))), Lib.hid (by rw [Nat.zero_mul]; exact Got.nil _ _ _ _), Lib.hid (by repeat (first | exact Below.refl _ _ | refine Below.drew ?_ | refine Below.drewN' ?_ _ | refine Below.alloc ?_ (by first | (simp; done) | (simp; omega)) _ | refine Below.setCell ?_ (by first | (simp; done) | (simp; omega)) _))⟩
  case round =>
    obtain ⟨i, v0, wr0, hik, rfl, rfl, HT0, HT1, HO, HW⟩ := hrel
    have hc0 : wr0.cell? ⟨p, 0, none⟩ = some (.int .i64 (R : Int)) := (HW.out.cell (p := ⟨p, 0, none⟩) hp).trans H0.out
    by_cases hlti : i < R
    · go_wp2
      clear hc0
      go_loopw [7] (fun iv w' => ∃ (k : Nat) (v : Value) (wr : World), k ≤ C ∧ iv = .int .i64 k ∧ wr = w' ∧ Hid (Tin wr w.heap.size 0 0 (.slice none 0 0)) ∧ Hid (Tin wr (w.heap.size + 1) R C v) ∧ Hid (Got wr (w.heap.size + 2) 32 v (i * C + k) (jointV zr zc C)) ∧ Hid (Below w.heap.size w wr)) (fun iv _ => C - (intOf iv).toNat)
      case atStart => exact ⟨0, v0, _, by omega, rfl, rfl, HT0, HT1, HO, HW⟩
      case round =>
        clear HT0 HT1 HO HW
        obtain ⟨k, v, wr, hkk, rfl, rfl, HT0, HT1, HO, HW⟩ := hrel
        have hc1 : wr.cell? ⟨p, 1, none⟩ = some (.int .i64 (C : Int)) := (HW.out.cell (p := ⟨p, 1, none⟩) hp).trans H1.out
        have hc2 : wr.cell? ⟨p, 2, none⟩ = some (.slice (some ⟨b, off, none⟩) n n) := (HW.out.cell (p := ⟨p, 2, none⟩) hp).trans H2.out
        by_cases hltk : k < C
        · have hmul := joint_op HROW.out HROWS.out hlti hltk
          obtain ⟨a, ha⟩ : ∃ a, a = i * C := ⟨_, rfl⟩
          obtain ⟨K, hK⟩ : ∃ K, K = a + k := ⟨_, rfl⟩
          have hin : K < n := by rw [hK, ha]; exact mul_in HN.out hlti hltk
          have hw1 : IntKind.i64.wrap ((i : Int) * (C : Int)) = (a : Int) := by rw [ha, Int.natCast_mul]; exact IntWalk.i64_in _ (by rw [← Int.natCast_mul]; omega)
          have hw2 : IntKind.i64.wrap ((a : Int) + (k : Int)) = (K : Int) := by rw [IntWalk.i64_in _ (by omega)]; omega
          rw [← ha, ← hK] at hmul HO
          have HKK : Hid (i * C + k = K) := Lib.hid (by rw [hK, ha])
          have hck : wr.cell? ⟨b, off + K, none⟩ = some (.float .f32 (zc.getD K 0)) := row_cell2 (HA.out.below HW.out) hin
          have hck2 : wr.cell? ⟨b2, o2 + i, none⟩ = some (.float .f32 (zr.getD i 0)) := row_cell2 (HB.out.below HW.out) hlti
          have hr1 := fun w2 => fres_some hmul w2
          have hf1 := fcnt_some hmul
          have HV : Hid (cls .f32 (prodN zr zc C K) = jointV zr zc C K) := Lib.hid rfl
          clear hmul ha hK
          generalize prodN zr zc C K = z at hr1 HV
          generalize zc.getD K 0 = y at hck hr1 hf1
          generalize zr.getD i 0 = x at hck2 hr1 hf1
          obtain ⟨hP, hp0, hp1, hp2, _, _, hpf⟩ := HT1.out
          obtain ⟨zs0, hz, ho⟩ := HO.out
          have HZ := Lib.hid hz
          have HO1 := Lib.hid ho
          have HNE := Lib.hid (own_block ho)
          have hsz := HW.out.size
          have hn1 : some p ≠ v.ownBlock := fun e => by have := own_block ho p e.symm; omega
          have hn2 : some b ≠ v.ownBlock := fun e => by have := own_block ho b e.symm; omega
          have hn5 : some b2 ≠ v.ownBlock := fun e => by have := own_block ho b2 e.symm; omega
          have hn3 : some (w.heap.size + 1) ≠ v.ownBlock := fun e => by have := own_block ho _ e.symm; omega
          have hn4 : some w.heap.size ≠ v.ownBlock := fun e => by have := own_block ho _ e.symm; omega
          have hq1 : ¬ (w.heap.size + 1 = p) := by omega
          have hq2 : ¬ (w.heap.size + 1 = b) := by omega
          have hq3 : ¬ (p = w.heap.size + 1) := by omega
          have hq4 : ¬ (b = w.heap.size + 1) := by omega
          have hz64 : K + 1 ≤ 64 := by omega
          clear hz ho
          go_wp2
          go_region_law (first | (refine step_append_lies _ (by rfl) _ _ _ (by rfl) (w.heap.size + 2) 32 i0 (.float .f32 0) 1 4 Try.underlying22 hi hz0 hz1 hz2 rfl (by omega) v K (zs0.map (Value.float .f32)) (by rfl) ((HO1.out.alloc _).drew) ⟨wr.heap.size, 0, none⟩ 1 1 [.float .f32 z] (by rfl) (by rfl) (World.news_of_block (cs := #[.float .f32 z]) (t := 32) (fr := (0, 0)) (heap_alloc_new _ _)) (by simp [Value.oneCell']) (by omega) (by unfold maxLen; omega) (by omega) (by simp; omega) (wr.heap.size + 1) (by simp) ?_; intro gg cp w1 hown1 hgrow hat hlt3; have hT1 : Tin w1 (w.heap.size + 1) R C v := Tin.grown hgrow hn3 (HT1.out.below (by repeat (first | exact Below.refl _ _ | refine Below.drew ?_ | refine Below.drewN' ?_ _ | refine Below.alloc ?_ (by first | (simp; done) | (simp; omega)) _ | refine Below.setCell ?_ (by first | (simp; done) | (simp; omega)) _))); have HT1' := Lib.hid hT1; obtain ⟨hg0, hg1, hg2, hg3, _, _, hg4⟩ := hT1) | (refine step_append_lies _ (by rfl) _ _ _ (by rfl) (w.heap.size + 2) 32 i0 (.float .f32 0) 1 4 Try.underlying22 hi hz0 hz1 hz2 rfl (by omega) v K (zs0.map (Value.float .f32)) (by rfl) (HO1.out.alloc _) ⟨wr.heap.size, 0, none⟩ 1 1 [.float .f32 z] (by rfl) (by rfl) (World.news_of_block (cs := #[.float .f32 z]) (t := 32) (fr := (0, 0)) (heap_alloc_new _ _)) (by simp [Value.oneCell']) (by omega) (by unfold maxLen; omega) (by omega) (by simp; omega) (wr.heap.size + 1) (by simp) ?_; intro gg cp w1 hown1 hgrow hat hlt3; have hT1 : Tin w1 (w.heap.size + 1) R C v := Tin.grown hgrow hn3 (HT1.out.below (by repeat (first | exact Below.refl _ _ | refine Below.drew ?_ | refine Below.drewN' ?_ _ | refine Below.alloc ?_ (by first | (simp; done) | (simp; omega)) _ | refine Below.setCell ?_ (by first | (simp; done) | (simp; omega)) _))); have HT1' := Lib.hid hT1; obtain ⟨hg0, hg1, hg2, hg3, _, _, hg4⟩ := hT1))
          all_goals
            go_wp2
            exact ⟨⟨k + 1, _, _, by omega, by first | rfl | go_num | (congr 1), rfl, Lib.hid (Tin.below (Tin.far (a := ⟨w.heap.size + 1, 2, none⟩) (Tin.grown hgrow hn4 (HT0.out.below (by repeat (first | exact Below.refl _ _ | refine Below.drew ?_ | refine Below.drewN' ?_ _ | refine Below.alloc ?_ (by first | (simp; done) | (simp; omega)) _ | refine Below.setCell ?_ (by first | (simp; done) | (simp; omega)) _)))) (by simp) _) (by repeat (first | exact Below.refl _ _ | refine Below.drew ?_ | refine Below.drewN' ?_ _ | refine Below.alloc ?_ (by first | (simp; done) | (simp; omega)) _ | refine Below.setCell ?_ (by first | (simp; done) | (simp; omega)) _))), Lib.hid (Tin.below (Tin.set HT1'.out _) (by repeat (first | exact Below.refl _ _ | refine Below.drew ?_ | refine Below.drewN' ?_ _ | refine Below.alloc ?_ (by first | (simp; done) | (simp; omega)) _ | refine Below.setCell ?_ (by first | (simp; done) | (simp; omega)) _))), Lib.hid (by rw [show i * C + (k + 1) = K + 1 by have := HKK.out; omega]; exact Got.keep (Got.setCell (Got.step HZ.out (Got.len HO1.out) HV.out hown1) ⟨w.heap.size + 1, 2, none⟩ _ (by simp)) (by repeat (first | exact Below.refl _ _ | refine Below.drew ?_ | refine Below.drewN' ?_ _ | refine Below.alloc ?_ (by first | (simp; done) | (simp; omega)) _ | refine Below.setCell ?_ (by first | (simp; done) | (simp; omega)) _))), Lib.hid (by repeat (first | exact HW.out | refine Below.drew ?_ | refine Below.drewN' ?_ _ | refine Below.setCell ?_ (by first | (simp; done) | (simp; omega)) _ | refine Below.alloc ?_ (by first | omega | (simp; omega)) _ | refine Below.grown ?_ hgrow (by first | omega | (simp; omega)) (fun j hj => Nat.le_trans (by omega) (HNE.out j hj))))⟩, by show C - ((k : Int) + 1).toNat < C - (k : Int).toNat; omega⟩
        · obtain rfl : k = C := by omega
          go_wp2
          refine ⟨⟨i + 1, v, _, by omega, by first | rfl | go_num | (congr 1), rfl, HT0, HT1, Lib.hid (by rw [Nat.succ_mul]; exact HO.out), HW⟩, by show R - ((i : Int) + 1).toNat < R - (i : Int).toNat; omega⟩
    · obtain rfl : i = R := by omega
      have hkR : 0 < i * C := Nat.mul_pos hR1 hC1
      obtain ⟨g, cap, rfl, hcap⟩ := HO.out.form (by omega)
      obtain ⟨hs0, ha0, ha1, ha2, hb0, hb1, hb2⟩ := HT0.out
      obtain ⟨hs1, hd0, hd1, hd2, he0, he1, he2⟩ := HT1.out
      have HNK : Hid (i * C = n) := Lib.hid HN.out.symm
      have HP3 := Lib.hid (HT0.out.put3 (.int .i64 (i : Int)) (.int .i64 (C : Int)) (.slice (some ⟨g, 0, none⟩) (i * C) cap))
      go_wp2
      obtain ⟨hr0, hr1, hr2⟩ := HP3.out
      exact bodyPost_ret (v := .agg #[.int .i64 (i : Int), .int .i64 (C : Int), .slice (some ⟨g, 0, none⟩) (i * C) cap]) (by simp [results, Try.results79, go_sem, hr0, hr1, hr2]) rfl
        ⟨g, cap, by rw [HNK.out], by rw [← HNK.out]; exact hcap, by rw [← HNK.out]; exact (Got.mono (Got.setCell (Got.setCell (Got.setCell HO.out _ _ (by simp)) _ _ (by simp)) _ _ (by simp)) (by omega)), by repeat (first | exact HW.out | refine Below.setCell ?_ (by first | (simp; done) | (simp; omega)) _)⟩
set_option maxRecDepth 100000 in
set_option maxHeartbeats 8000000 in
theorem joS (r c : Int) (a : Option Addr) (n : Nat) (zc : List Nat) (a2 : Option Addr) (m cap2 : Nat) (zr : List Nat) (w : World) (hc : FRow w a n zc) (hr : FRow w a2 m zr) (hn : n ≤ 1048576) (hm : m ≤ 1048576) (hok : okJo r c zc n zr m = true) :
    Calls Try.prog 36 #[.agg #[.int .i64 r, .int .i64 c, .slice a n n], .slice a2 m cap2] w fun e w' => ∃ g cp, e = .returned (.tuple #[.agg #[.int .i64 r, .int .i64 c, .slice (some ⟨g, 0, none⟩) n cp], .bool true]) ∧ New w w' g (.cl n (jointV zr zc c.toNat)) := by
  unfold okJo at hok
  rw [Bool.and_eq_true] at hok
  obtain ⟨ht, hv⟩ := hok
  obtain ⟨R, C, rfl, rfl, hN, hR, hC, hrows, hmR, hrow⟩ := take_out ht
  subst hmR
  have hn0 : 0 < n := by rw [hN]; exact Nat.mul_pos hR.1 hC.1
  obtain ⟨b, off, rfl⟩ := hc.some hn0
  have hn64 : n ≤ 64 := by rw [hN]; exact Nat.le_trans (Nat.mul_le_mul hR.2 hC.2) (by decide)
  have HA := Lib.hid ((hc.alloc (.cells #[.int .i64 (m : Int), .int .i64 (C : Int), .slice (some ⟨b, off, none⟩) n n] 27)).alloc (.cells #[.int .i64 0, .int .i64 0, .slice none 0 0] 44))
  have HB := Lib.hid ((hr.alloc (.cells #[.int .i64 (m : Int), .int .i64 (C : Int), .slice (some ⟨b, off, none⟩) n n] 27)).alloc (.cells #[.int .i64 0, .int .i64 0, .slice none 0 0] 44))
  have HT := Lib.hid ((Tab.new w (m : Int) (C : Int) (some ⟨b, off, none⟩) n n 27).below (below_alloc _ (.cells #[.int .i64 0, .int .i64 0, .slice none 0 0] 44)))
  have HR0 := Lib.hid (Tin.new' (w := (w.alloc (.cells #[.int .i64 (m : Int), .int .i64 (C : Int), .slice (some ⟨b, off, none⟩) n n] 27))) (p := w.heap.size + 1) (r := 0) (c := 0) (v := .slice none 0 0) (T := 44) (by simp))
  have HWB : Hid (Below w.heap.size w ((w.alloc (.cells #[.int .i64 (m : Int), .int .i64 (C : Int), .slice (some ⟨b, off, none⟩) n n] 27)).alloc (.cells #[.int .i64 0, .int .i64 0, .slice none 0 0] 44))) := Lib.hid (Below.next (below_alloc _ _) (below_alloc _ _))
  have HN := Lib.hid hN
  have HRR := Lib.hid hR
  have HCC := Lib.hid hC
  obtain ⟨hR1, hR2⟩ := hR
  obtain ⟨hC1, hC2⟩ := hC
  have HROW := Lib.hid hrow
  have HROWS := Lib.hid hrows
  have HV := Lib.hid hv
  clear hc hr hN hrows hrow hv
  go_enter Try.func36, Try.ntmps36
  go_wp2_with (first | (go_at_call 73; refine (take_spec _ (m : Int) (C : Int) _ n n zc a2 m _ zr _ HA.out HB.out hn hm (Nat.le_refl _) HT.out).mono ?_; rintro e w' ⟨rfl, q, rfl⟩) | (go_at_call 79; refine (jo_spec _ b off m C n zc a2 _ zr _ (Tab.drewN HT.out _) (HA.out.drewN _) (HB.out.drewN _) HN.out HRR.out HCC.out HROW.out HROWS.out).mono ?_; rintro e w2 ⟨g, cp, rfl, hcp, hg, hb⟩; obtain ⟨zg, hg1, hg2, hg3, hg4, hg5⟩ := hg.fin' (by omega); have HG1 := Lib.hid hg1; have HG2 := Lib.hid hg2; have HG3 := Lib.hid (hg3.alloc (.cells #[.int .i64 (m : Int), .int .i64 (C : Int), .slice (some ⟨g, 0, none⟩) n cp] 44)); have HG4 := Lib.hid hg4; have HG5 := Lib.hid (hg5.below hg2 (below_alloc _ (.cells #[.int .i64 (m : Int), .int .i64 (C : Int), .slice (some ⟨g, 0, none⟩) n cp] 44))); have HW2 := Lib.hid (Below.next HWB.out (Below.ofDrewN hb)); have HR2 := Lib.hid ((Tin.drewN HR0.out _).below hb); have HT2 := Lib.hid (Tab.new w2 (m : Int) (C : Int) (some ⟨g, 0, none⟩) n cp 44); have HRS : Hid (w.heap.size + 1 < w2.heap.size) := Lib.hid HR2.out.1; clear hg hg1 hg2 hg3 hg4 hg5 hb hcp) | (go_at_call 80; refine (tab_spec _ (m : Int) (C : Int) _ n cp zg _ HG3.out hn HT2.out.2.1 HT2.out.2.2.1 HT2.out.2.2.2).mono ?_; rintro e w' ⟨rfl, q3, rfl⟩; have htv : tabB (m : Int) (C : Int) zg n = true := (by rw [tab_V2 HRR.out HCC.out HN.out HG4.out]; exact HV.out); obtain ⟨_, hd0, hd1, hd2, hf0, hf1, hf2⟩ := HR2.out.below (below_alloc w2 (.cells #[.int .i64 (m : Int), .int .i64 (C : Int), .slice (some ⟨g, 0, none⟩) n cp] 44)); obtain ⟨_, he0, he1, he2⟩ := HT2.out; have HP3 := Lib.hid ((Tin.drewN (HR2.out.below (below_alloc w2 (.cells #[.int .i64 (m : Int), .int .i64 (C : Int), .slice (some ⟨g, 0, none⟩) n cp] 44))) q3).put3 (.int .i64 (m : Int)) (.int .i64 (C : Int)) (.slice (some ⟨g, 0, none⟩) n cp))) | go_in)
  obtain ⟨hr0, hr1, hr2⟩ := HP3.out
  have hgne : w.heap.size + 1 ≠ g := by have := HG1.out; simp at this; omega
  exact bodyPost_ret (v := .tuple #[.agg #[.int .i64 (m : Int), .int .i64 (C : Int), .slice (some ⟨g, 0, none⟩) n cp], .bool true]) (by simp [results, Try.results36, go_sem, hr0, hr1, hr2]) rfl
    ⟨g, cp, rfl, by have := HG1.out; simp at this; omega, by have := HG2.out; simp; omega, Ent.ok.set (Ent.ok.set (Ent.ok.set HG5.out hgne _) hgne _) hgne _, by repeat (first | exact HW2.out | refine Below.setCell ?_ (by first | (simp; done) | (simp; omega)) _ | refine Below.drewN' ?_ _ | refine Below.alloc ?_ (by have := HRS.out; omega) _)⟩
set_option maxRecDepth 100000 in
set_option maxHeartbeats 8000000 in
theorem joS' (r c : Int) (a : Option Addr) (n : Nat) (zc : List Nat) (a2 : Option Addr) (m cap2 : Nat) (zr : List Nat) (w : World) (hc : FRow w a n zc) (hr : FRow w a2 m zr) (hn : n ≤ 1048576) (hm : m ≤ 1048576) (hok : okJo r c zc n zr m = false) :
    Calls Try.prog 36 #[.agg #[.int .i64 r, .int .i64 c, .slice a n n], .slice a2 m cap2] w fun e w' => e = .returned (.tuple #[.agg #[.int .i64 0, .int .i64 0, .slice none 0 0], .bool false]) ∧ Below w.heap.size w w' := by
  unfold okJo at hok
  cases ht : takeB r c zc n zr m with
  | false =>
    have HA := Lib.hid ((hc.alloc (.cells #[.int .i64 r, .int .i64 c, .slice a n n] 27)).alloc (.cells #[.int .i64 0, .int .i64 0, .slice none 0 0] 44))
    have HB := Lib.hid ((hr.alloc (.cells #[.int .i64 r, .int .i64 c, .slice a n n] 27)).alloc (.cells #[.int .i64 0, .int .i64 0, .slice none 0 0] 44))
    have HT := Lib.hid ((Tab.new w r c a n n 27).below (below_alloc _ (.cells #[.int .i64 0, .int .i64 0, .slice none 0 0] 44)))
    have HR0 := Lib.hid (Tin.new' (w := (w.alloc (.cells #[.int .i64 r, .int .i64 c, .slice a n n] 27))) (p := w.heap.size + 1) (r := 0) (c := 0) (v := .slice none 0 0) (T := 44) (by simp))
    have HWB : Hid (Below w.heap.size w ((w.alloc (.cells #[.int .i64 r, .int .i64 c, .slice a n n] 27)).alloc (.cells #[.int .i64 0, .int .i64 0, .slice none 0 0] 44))) := Lib.hid (Below.next (below_alloc _ _) (below_alloc _ _))
    clear hc hr hok
    go_enter Try.func36, Try.ntmps36
    go_wp2_with (first | (go_at_call 73; refine (take_spec _ r c a n n zc a2 m _ zr _ HA.out HB.out hn hm (Nat.le_refl _) HT.out).mono ?_; rintro e w' ⟨rfl, q, rfl⟩) | go_in)
    exact bodyPost_ret (v := .tuple #[.agg #[.int .i64 0, .int .i64 0, .slice none 0 0], .bool false]) (by simp [results, Try.results36, go_sem]) rfl
      ⟨rfl, by repeat (first | exact HWB.out | refine Below.drewN' ?_ _ | refine Below.setCell ?_ (by first | (simp; done) | (simp; omega)) _)⟩
  | true =>
    rw [ht, Bool.true_and] at hok
    have hv := hok
    clear hok
    obtain ⟨R, C, rfl, rfl, hN, hR, hC, hrows, hmR, hrow⟩ := take_out ht
    subst hmR
    have hn0 : 0 < n := by rw [hN]; exact Nat.mul_pos hR.1 hC.1
    obtain ⟨b, off, rfl⟩ := hc.some hn0
    have hn64 : n ≤ 64 := by rw [hN]; exact Nat.le_trans (Nat.mul_le_mul hR.2 hC.2) (by decide)
    have HA := Lib.hid ((hc.alloc (.cells #[.int .i64 (m : Int), .int .i64 (C : Int), .slice (some ⟨b, off, none⟩) n n] 27)).alloc (.cells #[.int .i64 0, .int .i64 0, .slice none 0 0] 44))
    have HB := Lib.hid ((hr.alloc (.cells #[.int .i64 (m : Int), .int .i64 (C : Int), .slice (some ⟨b, off, none⟩) n n] 27)).alloc (.cells #[.int .i64 0, .int .i64 0, .slice none 0 0] 44))
    have HT := Lib.hid ((Tab.new w (m : Int) (C : Int) (some ⟨b, off, none⟩) n n 27).below (below_alloc _ (.cells #[.int .i64 0, .int .i64 0, .slice none 0 0] 44)))
    have HR0 := Lib.hid (Tin.new' (w := (w.alloc (.cells #[.int .i64 (m : Int), .int .i64 (C : Int), .slice (some ⟨b, off, none⟩) n n] 27))) (p := w.heap.size + 1) (r := 0) (c := 0) (v := .slice none 0 0) (T := 44) (by simp))
    have HWB : Hid (Below w.heap.size w ((w.alloc (.cells #[.int .i64 (m : Int), .int .i64 (C : Int), .slice (some ⟨b, off, none⟩) n n] 27)).alloc (.cells #[.int .i64 0, .int .i64 0, .slice none 0 0] 44))) := Lib.hid (Below.next (below_alloc _ _) (below_alloc _ _))
    have HN := Lib.hid hN
    have HRR := Lib.hid hR
    have HCC := Lib.hid hC
    obtain ⟨hR1, hR2⟩ := hR
    obtain ⟨hC1, hC2⟩ := hC
    have HROW := Lib.hid hrow
    have HROWS := Lib.hid hrows
    have HV := Lib.hid hv
    clear hc hr hN hrows hrow hv
    go_enter Try.func36, Try.ntmps36
    go_wp2_with (first | (go_at_call 73; refine (take_spec _ (m : Int) (C : Int) _ n n zc a2 m _ zr _ HA.out HB.out hn hm (Nat.le_refl _) HT.out).mono ?_; rintro e w' ⟨rfl, q, rfl⟩) | (go_at_call 79; refine (jo_spec _ b off m C n zc a2 _ zr _ (Tab.drewN HT.out _) (HA.out.drewN _) (HB.out.drewN _) HN.out HRR.out HCC.out HROW.out HROWS.out).mono ?_; rintro e w2 ⟨g, cp, rfl, hcp, hg, hb⟩; obtain ⟨zg, hg1, hg2, hg3, hg4, hg5⟩ := hg.fin' (by omega); have HG1 := Lib.hid hg1; have HG2 := Lib.hid hg2; have HG3 := Lib.hid (hg3.alloc (.cells #[.int .i64 (m : Int), .int .i64 (C : Int), .slice (some ⟨g, 0, none⟩) n cp] 44)); have HG4 := Lib.hid hg4; have HG5 := Lib.hid (hg5.below hg2 (below_alloc _ (.cells #[.int .i64 (m : Int), .int .i64 (C : Int), .slice (some ⟨g, 0, none⟩) n cp] 44))); have HW2 := Lib.hid (Below.next HWB.out (Below.ofDrewN hb)); have HR2 := Lib.hid ((Tin.drewN HR0.out _).below hb); have HT2 := Lib.hid (Tab.new w2 (m : Int) (C : Int) (some ⟨g, 0, none⟩) n cp 44); have HRS : Hid (w.heap.size + 1 < w2.heap.size) := Lib.hid HR2.out.1; clear hg hg1 hg2 hg3 hg4 hg5 hb hcp) | (go_at_call 80; refine (tab_spec _ (m : Int) (C : Int) _ n cp zg _ HG3.out hn HT2.out.2.1 HT2.out.2.2.1 HT2.out.2.2.2).mono ?_; rintro e w' ⟨rfl, q3, rfl⟩; have htv : tabB (m : Int) (C : Int) zg n = false := (by rw [tab_V2 HRR.out HCC.out HN.out HG4.out]; exact HV.out); obtain ⟨_, hd0, hd1, hd2, hf0, hf1, hf2⟩ := HR2.out.below (below_alloc w2 (.cells #[.int .i64 (m : Int), .int .i64 (C : Int), .slice (some ⟨g, 0, none⟩) n cp] 44)); obtain ⟨_, he0, he1, he2⟩ := HT2.out; have HP3 := Lib.hid ((Tin.drewN (HR2.out.below (below_alloc w2 (.cells #[.int .i64 (m : Int), .int .i64 (C : Int), .slice (some ⟨g, 0, none⟩) n cp] 44))) q3).put3 (.int .i64 0) (.int .i64 0) (.slice none 0 0))) | go_in)
    obtain ⟨hr0, hr1, hr2⟩ := HP3.out
    exact bodyPost_ret (v := .tuple #[.agg #[.int .i64 0, .int .i64 0, .slice none 0 0], .bool false]) (by simp [results, Try.results36, go_sem, hr0, hr1, hr2]) rfl
      ⟨rfl, by repeat (first | exact HW2.out | refine Below.setCell ?_ (by first | (simp; done) | (simp; omega)) _ | refine Below.drewN' ?_ _ | refine Below.alloc ?_ (by have := HRS.out; omega) _)⟩
end Go.Proofs.Ytffamppflelflaa
