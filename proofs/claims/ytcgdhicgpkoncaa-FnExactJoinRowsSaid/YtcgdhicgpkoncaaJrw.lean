/- JoinRows: the functions. -/
import Derived.Test.YtcgdhicgpkoncaaTtw
namespace Go.Proofs.Ytcgdhicgpkoncaa
open Go.Proofs.Ytcgdhicgpkoncaa.Flo Go.RowKit

/-- The products of two rows. -/
def joinV (za zb : List Nat) (m j : Nat) : Option Nat := vop .mul .f32 (cls .f32 (za.getD (j / m) 0)) (cls .f32 (zb.getD (j % m) 0))
theorem join_at (za zb : List Nat) {m i k : Nat} (hk : k < m) : joinV za zb m (i * m + k) = vop .mul .f32 (cls .f32 (za.getD i 0)) (cls .f32 (zb.getD k 0)) := by
  unfold joinV
  rw [Nat.mul_comm i m, Nat.mul_add_mod, Nat.mod_eq_of_lt hk, Nat.mul_add_div (by omega), Nat.div_eq_of_lt hk, Nat.add_zero]
theorem join_op {za zb : List Nat} {n m i k : Nat} (ha : rowB za n = true) (hb : rowB zb m = true) (hi : i < n) (hk : k < m) : ∃ z, floatBits .mul .f32 (za.getD i 0) (zb.getD k 0) = some z ∧ cls .f32 z = joinV za zb m (i * m + k) := by
  have h1 := ch_le (row_n ha).2 hi
  have h2 := ch_le (row_n hb).2 hk
  obtain ⟨z, hz, _⟩ := vmul_le h1 h2 (show Norm .f32 (1 + 1) from ⟨by decide, by decide⟩)
  refine ⟨z, by rw [← vop_cls]; exact hz, ?_⟩
  rw [join_at za zb hk, hz]
  rw [vop_cls] at hz
  exact cls_of_not (floatBits_notNaN hz)
def okJ (za zb : List Nat) (n m : Nat) : Bool := rowB za n && (rowB zb m && (decide (n ≤ 8 ∧ m ≤ 8) && chV (joinV za zb m) (n * m)))
theorem okJ_out {za zb : List Nat} {n m : Nat} (h : okJ za zb n m = true) : rowB za n = true ∧ rowB zb m = true ∧ (n ≤ 8 ∧ m ≤ 8) ∧ chV (joinV za zb m) (n * m) = true := by
  unfold okJ at h
  rw [Bool.and_eq_true, Bool.and_eq_true, Bool.and_eq_true] at h
  exact ⟨h.1, h.2.1, of_decide_eq_true h.2.2.1, h.2.2.2⟩
theorem row_pos {za : List Nat} {n : Nat} (h : rowB za n = true) : 1 ≤ n := by
  unfold rowB at h
  rw [Bool.and_eq_true] at h
  exact (of_decide_eq_true h.1).1
theorem okJ_n {za zb : List Nat} {n m : Nat} (h : okJ za zb n m = true) : n * m ≤ 1048576 := by
  obtain ⟨_, _, h1, _⟩ := okJ_out h
  exact Nat.le_trans (Nat.mul_le_mul h1.1 h1.2) (by decide)
theorem Got.fin'' {w : World} {base : Nat} {T : TypeId} {g n cap : Nat} {V : Nat → Option Nat} (h : Got w base T (.slice (some ⟨g, 0, none⟩) n cap) n V) (hn : n ≠ 0) :
    ∃ zs, base ≤ g ∧ g < w.heap.size ∧ FRow w (some ⟨g, 0, none⟩) n zs ∧ (∀ i, i < n → cls .f32 (zs.getD i 0) = V i) ∧ Ent.ok w g (.cl n V) := by
  obtain ⟨zs, h1, h2⟩ := h
  obtain ⟨g', cap', e, hg, hgl, hr, hf⟩ := own_row h2 hn
  injection e with e1 e2 e3
  injection e1 with e1
  injection e1 with e1
  subst e1
  exact ⟨zs, hg, hgl, hr, h1, zs, h1, Ent.fl_ok hr hf⟩
theorem join_tab {n m : Nat} {zr : List Nat} {V : Nat → Option Nat} (h1 : 1 ≤ n) (h2 : n ≤ 8) (h3 : 1 ≤ m) (h4 : m ≤ 8) (h : ∀ i, i < n * m → cls .f32 (zr.getD i 0) = V i) : tabB (n : Int) (m : Int) zr (n * m) = chV V (n * m) := by
  unfold tabB
  rw [decide_eq_true (by omega), decide_eq_true (by omega), decide_eq_true (Int.natCast_mul n m), chS_V h]
  rfl
set_option maxRecDepth 100000 in
set_option maxHeartbeats 8000000 in
theorem jrS (a : Option Addr) (n cap : Nat) (za : List Nat) (b : Option Addr) (m capb : Nat) (zb : List Nat) (w : World) (ha : FRow w a n za) (hb : FRow w b m zb) (hn : n ≤ 1048576) (hm : m ≤ 1048576) (hok : okJ za zb n m = true) :
    Calls Try.prog 40 #[.slice a n cap, .slice b m capb] w fun e w' => ∃ g cp, e = .returned (.tuple #[.agg #[.int .i64 (n : Int), .int .i64 (m : Int), .slice (some ⟨g, 0, none⟩) (n * m) cp], .bool true]) ∧ New w w' g (.cl (n * m) (joinV za zb m)) := by
  obtain ⟨i0, hi, hz0, hz1, hz2⟩ := info_parts Try.info32
  obtain ⟨hra, hrb, h88, hch⟩ := okJ_out hok
  have HA := Lib.hid ha
  have HB := Lib.hid hb
  clear hok
  obtain ⟨hn8, hm8⟩ := h88
  have hn1 := row_pos hra
  have hm1 := row_pos hrb
  have HN1 := Lib.hid hn1
  have HM1 := Lib.hid hm1
  have HN8 := Lib.hid hn8
  have HM8 := Lib.hid hm8
  have HNM : Hid (n * m ≤ 64) := Lib.hid (Nat.le_trans (Nat.mul_le_mul hn8 hm8) (by decide))
  have HRA := Lib.hid hra
  have HRB := Lib.hid hrb
  have HCH := Lib.hid hch
  have hdz : ∀ w2 : World, w2.drewN 0 = w2 := World.drewN_zero
  clear ha hb hch
  go_enter Try.func40, Try.ntmps40
  go_wp2_with (first | (go_at_call 81; (first | (with_reducible refine (row_spec a n _ za _ (HA.out.alloc _) hn).mono ?_) | (with_reducible refine (row_spec a n _ za _ ((HA.out.alloc _).drewN _) hn).mono ?_)); rintro e w' ⟨rfl, q1, rfl⟩) | (go_at_call 81; (first | (with_reducible refine (row_spec b m _ zb _ (HB.out.alloc _) hm).mono ?_) | (with_reducible refine (row_spec b m _ zb _ ((HB.out.alloc _).drewN _) hm).mono ?_)); rintro e w' ⟨rfl, q2, rfl⟩) | go_in)
  go_loopw [7] (fun iv w' => ∃ (i : Nat) (v : Value) (wr : World), i ≤ n ∧ iv = .int .i64 i ∧ wr = w' ∧ Hid (Tin wr w.heap.size 0 0 (.slice none 0 0)) ∧ Hid (Tin wr (w.heap.size + 1) n m v) ∧ Hid (Got wr (w.heap.size + 2) 23 v (i * m) (joinV za zb m)) ∧ Hid (Below w.heap.size w wr)) (fun iv _ => n - (intOf iv).toNat)
  case atStart => exact ⟨0, _, _, by omega, rfl, rfl, Lib.hid (Tin.below (Tin.new (T := 44)) (by repeat (first | exact Below.refl _ _ | refine Below.drew ?_ | refine Below.drewN' ?_ _ | refine Below.alloc ?_ (by first | (simp; done) | (simp; omega)) _ | refine Below.setCell ?_ (by first | (simp; done) | (simp; omega)) _))), Lib.hid (Tin.below (Tin.new' (w := ((w.alloc (.cells #[.int .i64 0, .int .i64 0, .slice none 0 0] 44)).drewN _)) (T := 44) (by simp)) (by repeat (first | exact Below.refl _ _ | refine Below.drew ?_ | refine Below.drewN' ?_ _ | refine Below.alloc ?_ (by first | (simp; done) | (simp; omega)) _ | refine Below.setCell ?_ (by first | (simp; done) | (simp; omega)) _))), Lib.hid (by rw [Nat.zero_mul]; exact Got.nil _ _ _ _), Lib.hid (by repeat (first | exact Below.refl _ _ | refine Below.drew ?_ | refine Below.drewN' ?_ _ | refine Below.alloc ?_ (by first | (simp; done) | (simp; omega)) _ | refine Below.setCell ?_ (by first | (simp; done) | (simp; omega)) _))⟩
  case round =>
    obtain ⟨i, v0, wr0, hk, rfl, rfl, HT0, HT1, HO, HW⟩ := hrel
    by_cases hlt : i < n
    · obtain ⟨b1, o1, rfl, hck0⟩ := (HA.out.below HW.out).cell hlt
      obtain ⟨x, hx⟩ : ∃ x, x = za.getD i 0 := ⟨_, rfl⟩
      rw [← hx] at hck0
      have HX := Lib.hid hx
      clear hx
      go_wp2
      clear hck0
      go_loopw [8] (fun kv w' => ∃ (k : Nat) (v : Value) (wr : World), k ≤ m ∧ kv = .int .i64 k ∧ wr = w' ∧ Hid (Tin wr w.heap.size 0 0 (.slice none 0 0)) ∧ Hid (Tin wr (w.heap.size + 1) n m v) ∧ Hid (Got wr (w.heap.size + 2) 23 v (i * m + k) (joinV za zb m)) ∧ Hid (Below w.heap.size w wr)) (fun kv _ => m - (intOf kv).toNat)
      case atStart => exact ⟨0, v0, _, by omega, rfl, rfl, HT0, HT1, HO, HW⟩
      case round =>
        clear HT0 HT1 HO HW
        obtain ⟨k, v, wr, hk2, rfl, rfl, HT0, HT1, HO, HW⟩ := hrel
        by_cases hlt2 : k < m
        · obtain ⟨z, hzz, hzv⟩ := join_op HRA.out HRB.out hlt hlt2
          have HV := Lib.hid hzv
          rw [← HX.out] at hzz
          have hkr : i * m + k + 1 ≤ 64 := by
            have := mul_in (n := n * m) rfl hlt hlt2
            have := HNM.out
            omega
          have hr1 := fun w2 => fres_some hzz w2
          have hf1 := fcnt_some hzz
          have hck : wr.cell? ⟨b1, o1 + i, none⟩ = some (.float .f32 (za.getD i 0)) := row_cell2 (HA.out.below HW.out) hlt
          rw [← HX.out] at hck
          obtain ⟨b2, o2, rfl, hck2⟩ := (HB.out.below HW.out).cell hlt2
          clear hzz hzv
          generalize zb.getD k 0 = y at hck2 hr1 hf1
          obtain ⟨hP, hp0, hp1, hp2, _, _, hpf⟩ := HT1.out
          obtain ⟨zs0, hz, ho⟩ := HO.out
          have HZ := Lib.hid hz
          have HO1 := Lib.hid ho
          have HNE := Lib.hid (own_block ho)
          have hsz := HW.out.size
          have hn3 : some (w.heap.size + 1) ≠ v.ownBlock := fun e => by have := own_block ho _ e.symm; omega
          have hn4 : some w.heap.size ≠ v.ownBlock := fun e => by have := own_block ho _ e.symm; omega
          have hz64 : i * m + k ≤ 64 := by omega
          generalize hkk : i * m + k = K at HZ HO1 HV hz64 hkr
          clear hz ho
          go_wp2
          go_region_law (first | (refine step_append_lies _ (by rfl) _ _ _ (by rfl) (w.heap.size + 2) 23 i0 (.float .f32 0) 1 4 Try.underlying22 hi hz0 hz1 hz2 rfl (by omega) v K (zs0.map (Value.float .f32)) (by rfl) ((HO1.out.alloc _).drew) ⟨wr.heap.size, 0, none⟩ 1 1 [.float .f32 z] (by rfl) (by rfl) (World.news_of_block (cs := #[.float .f32 z]) (t := 23) (fr := (0, 0)) (heap_alloc_new _ _)) (by simp [Value.oneCell']) (by omega) (by unfold maxLen; omega) (by omega) (by simp; omega) (wr.heap.size + 1) (by simp) ?_; intro gg cp w1 hown1 hgrow hat hlt3; have hT1 : Tin w1 (w.heap.size + 1) n m v := Tin.grown hgrow hn3 (HT1.out.below (by repeat (first | exact Below.refl _ _ | refine Below.drew ?_ | refine Below.drewN' ?_ _ | refine Below.alloc ?_ (by first | (simp; done) | (simp; omega)) _ | refine Below.setCell ?_ (by first | (simp; done) | (simp; omega)) _))); have HT1' := Lib.hid hT1; obtain ⟨hg0, hg1, hg2, hg3, _, _, hg4⟩ := hT1) | (refine step_append_lies _ (by rfl) _ _ _ (by rfl) (w.heap.size + 2) 23 i0 (.float .f32 0) 1 4 Try.underlying22 hi hz0 hz1 hz2 rfl (by omega) v K (zs0.map (Value.float .f32)) (by rfl) (HO1.out.alloc _) ⟨wr.heap.size, 0, none⟩ 1 1 [.float .f32 z] (by rfl) (by rfl) (World.news_of_block (cs := #[.float .f32 z]) (t := 23) (fr := (0, 0)) (heap_alloc_new _ _)) (by simp [Value.oneCell']) (by omega) (by unfold maxLen; omega) (by omega) (by simp; omega) (wr.heap.size + 1) (by simp) ?_; intro gg cp w1 hown1 hgrow hat hlt3; have hT1 : Tin w1 (w.heap.size + 1) n m v := Tin.grown hgrow hn3 (HT1.out.below (by repeat (first | exact Below.refl _ _ | refine Below.drew ?_ | refine Below.drewN' ?_ _ | refine Below.alloc ?_ (by first | (simp; done) | (simp; omega)) _ | refine Below.setCell ?_ (by first | (simp; done) | (simp; omega)) _))); have HT1' := Lib.hid hT1; obtain ⟨hg0, hg1, hg2, hg3, _, _, hg4⟩ := hT1))
          all_goals
            go_wp2
            exact ⟨⟨k + 1, _, _, by omega, by first | rfl | go_num | (congr 1), rfl, Lib.hid (Tin.below (Tin.far (a := ⟨w.heap.size + 1, 2, none⟩) (Tin.grown hgrow hn4 (HT0.out.below (by repeat (first | exact Below.refl _ _ | refine Below.drew ?_ | refine Below.drewN' ?_ _ | refine Below.alloc ?_ (by first | (simp; done) | (simp; omega)) _ | refine Below.setCell ?_ (by first | (simp; done) | (simp; omega)) _)))) (by simp) _) (by repeat (first | exact Below.refl _ _ | refine Below.drew ?_ | refine Below.drewN' ?_ _ | refine Below.alloc ?_ (by first | (simp; done) | (simp; omega)) _ | refine Below.setCell ?_ (by first | (simp; done) | (simp; omega)) _))), Lib.hid (Tin.below (Tin.set HT1'.out _) (by repeat (first | exact Below.refl _ _ | refine Below.drew ?_ | refine Below.drewN' ?_ _ | refine Below.alloc ?_ (by first | (simp; done) | (simp; omega)) _ | refine Below.setCell ?_ (by first | (simp; done) | (simp; omega)) _))), Lib.hid (by rw [show i * m + (k + 1) = K + 1 by omega]; exact Got.keep (Got.setCell (Got.step HZ.out (Got.len HO1.out) HV.out hown1) ⟨w.heap.size + 1, 2, none⟩ _ (by simp)) (by repeat (first | exact Below.refl _ _ | refine Below.drew ?_ | refine Below.drewN' ?_ _ | refine Below.alloc ?_ (by first | (simp; done) | (simp; omega)) _ | refine Below.setCell ?_ (by first | (simp; done) | (simp; omega)) _))), Lib.hid (by repeat (first | exact HW.out | refine Below.drew ?_ | refine Below.drewN' ?_ _ | refine Below.setCell ?_ (by first | (simp; done) | (simp; omega)) _ | refine Below.alloc ?_ (by first | omega | (simp; omega)) _ | refine Below.grown ?_ hgrow (by first | omega | (simp; omega)) (fun j hj => Nat.le_trans (by omega) (HNE.out j hj))))⟩, by show m - ((k : Int) + 1).toNat < m - (k : Int).toNat; omega⟩
        · obtain rfl : k = m := by omega
          go_wp2
          refine ⟨⟨i + 1, v, _, by omega, by first | rfl | go_num | (congr 1), rfl, HT0, HT1, Lib.hid (by rw [Nat.succ_mul]; exact HO.out), HW⟩, by show n - ((i : Int) + 1).toNat < n - (i : Int).toNat; omega⟩
    · obtain rfl : i = n := by omega
      have hkR : 0 < i * m := Nat.mul_pos HN1.out HM1.out
      obtain ⟨g, cp, rfl, hcap⟩ := HO.out.form hkR
      have HHG := Lib.hid hcap
      obtain ⟨zr, hg1, hg2, hg3, hg4, hg5⟩ := Got.fin'' HO.out (by omega)
      have HG1 := Lib.hid hg1
      have HG2 := Lib.hid hg2
      have HG3 := Lib.hid hg3
      have HG4 := Lib.hid hg4
      have HG5 := Lib.hid hg5
      obtain ⟨hs1, hd0, hd1, hd2, _⟩ := HT1.out
      clear hg1 hg2 hg3 hg4 hg5 hcap
      go_wp2_with (first | (go_at_call 82; refine (gtS_yes (i : Int) (m : Int) _ (i * m) _ zr _ HG3.out (by have := HNM.out; omega) (by rw [join_tab HN1.out HN8.out HM1.out HM8.out HG4.out]; exact HCH.out)).mono ?_; rintro e w3 ⟨rfl, hb⟩; have HR := Lib.hid (HT0.out.below hb); have HG5 := Lib.hid (HG5.out.below HG2.out hb); have HG2 := Lib.hid (Nat.lt_of_lt_of_le HG2.out hb.size); have HB2 := Lib.hid (Below.next HW.out hb); obtain ⟨_, hd0, hd1, hd2, hf0, hf1, hf2⟩ := HR.out; have HP3 := Lib.hid (HR.out.put3 (.int .i64 (i : Int)) (.int .i64 (m : Int)) (.slice (some ⟨g, 0, none⟩) (i * m) cp)); clear hb) | go_in)
      obtain ⟨hr0, hr1, hr2⟩ := HP3.out
      have hgne : w.heap.size ≠ g := by have := HG1.out; omega
      exact bodyPost_ret (v := .tuple #[.agg #[.int .i64 (i : Int), .int .i64 (m : Int), .slice (some ⟨g, 0, none⟩) (i * m) cp], .bool true]) (by simp [results, Try.results40, go_sem, hr0, hr1, hr2]) rfl
        ⟨g, cp, rfl, by have := HG1.out; omega, by simpa using HG2.out, Ent.ok.set (Ent.ok.set (Ent.ok.set HG5.out hgne _) hgne _) hgne _, by repeat (first | exact HB2.out | refine Below.setCell ?_ (by first | (simp; done) | (simp; omega)) _)⟩
set_option maxRecDepth 100000 in
set_option maxHeartbeats 8000000 in
theorem jrS' (a : Option Addr) (n cap : Nat) (za : List Nat) (b : Option Addr) (m capb : Nat) (zb : List Nat) (w : World) (ha : FRow w a n za) (hb : FRow w b m zb) (hn : n ≤ 1048576) (hm : m ≤ 1048576) (hok : okJ za zb n m = false) :
    Calls Try.prog 40 #[.slice a n cap, .slice b m capb] w fun e w' => e = .returned (.tuple #[.agg #[.int .i64 0, .int .i64 0, .slice none 0 0], .bool false]) ∧ Below w.heap.size w w' := by
  obtain ⟨i0, hi, hz0, hz1, hz2⟩ := info_parts Try.info32
  have HA := Lib.hid ha
  have HB := Lib.hid hb
  cases hra : rowB za n with
  | false =>
    clear ha hb hok
    go_enter Try.func40, Try.ntmps40
    go_wp2_with (first | (go_at_call 81; (first | (with_reducible refine (row_spec a n _ za _ (HA.out.alloc _) hn).mono ?_) | (with_reducible refine (row_spec a n _ za _ ((HA.out.alloc _).drewN _) hn).mono ?_)); rintro e w' ⟨rfl, q1, rfl⟩) | (go_at_call 81; (first | (with_reducible refine (row_spec b m _ zb _ (HB.out.alloc _) hm).mono ?_) | (with_reducible refine (row_spec b m _ zb _ ((HB.out.alloc _).drewN _) hm).mono ?_)); rintro e w' ⟨rfl, q2, rfl⟩) | go_in)
    exact bodyPost_ret (v := .tuple #[.agg #[.int .i64 0, .int .i64 0, .slice none 0 0], .bool false]) (by simp [results, Try.results40, go_sem]) rfl
      ⟨rfl, (by repeat (first | exact Below.refl _ _ | refine Below.drew ?_ | refine Below.drewN' ?_ _ | refine Below.alloc ?_ (by first | (simp; done) | (simp; omega)) _ | refine Below.setCell ?_ (by first | (simp; done) | (simp; omega)) _))⟩
  | true =>
    cases hrb : rowB zb m with
    | false =>
      clear ha hb hok
      go_enter Try.func40, Try.ntmps40
      go_wp2_with (first | (go_at_call 81; (first | (with_reducible refine (row_spec a n _ za _ (HA.out.alloc _) hn).mono ?_) | (with_reducible refine (row_spec a n _ za _ ((HA.out.alloc _).drewN _) hn).mono ?_)); rintro e w' ⟨rfl, q1, rfl⟩) | (go_at_call 81; (first | (with_reducible refine (row_spec b m _ zb _ (HB.out.alloc _) hm).mono ?_) | (with_reducible refine (row_spec b m _ zb _ ((HB.out.alloc _).drewN _) hm).mono ?_)); rintro e w' ⟨rfl, q2, rfl⟩) | go_in)
      exact bodyPost_ret (v := .tuple #[.agg #[.int .i64 0, .int .i64 0, .slice none 0 0], .bool false]) (by simp [results, Try.results40, go_sem]) rfl
        ⟨rfl, (by repeat (first | exact Below.refl _ _ | refine Below.drew ?_ | refine Below.drewN' ?_ _ | refine Below.alloc ?_ (by first | (simp; done) | (simp; omega)) _ | refine Below.setCell ?_ (by first | (simp; done) | (simp; omega)) _))⟩
    | true =>
      by_cases hn8 : n ≤ 8
      · by_cases hm8 : m ≤ 8
        · have h88 : n ≤ 8 ∧ m ≤ 8 := ⟨hn8, hm8⟩
          have hch : chV (joinV za zb m) (n * m) = false := by unfold okJ at hok; rw [hra, hrb, decide_eq_true h88] at hok; simpa using hok
          clear hok hn8 hm8
          obtain ⟨hn8, hm8⟩ := h88
          have hn1 := row_pos hra
          have hm1 := row_pos hrb
          have HN1 := Lib.hid hn1
          have HM1 := Lib.hid hm1
          have HN8 := Lib.hid hn8
          have HM8 := Lib.hid hm8
          have HNM : Hid (n * m ≤ 64) := Lib.hid (Nat.le_trans (Nat.mul_le_mul hn8 hm8) (by decide))
          have HRA := Lib.hid hra
          have HRB := Lib.hid hrb
          have HCH := Lib.hid hch
          have hdz : ∀ w2 : World, w2.drewN 0 = w2 := World.drewN_zero
          clear ha hb hch
          go_enter Try.func40, Try.ntmps40
          go_wp2_with (first | (go_at_call 81; (first | (with_reducible refine (row_spec a n _ za _ (HA.out.alloc _) hn).mono ?_) | (with_reducible refine (row_spec a n _ za _ ((HA.out.alloc _).drewN _) hn).mono ?_)); rintro e w' ⟨rfl, q1, rfl⟩) | (go_at_call 81; (first | (with_reducible refine (row_spec b m _ zb _ (HB.out.alloc _) hm).mono ?_) | (with_reducible refine (row_spec b m _ zb _ ((HB.out.alloc _).drewN _) hm).mono ?_)); rintro e w' ⟨rfl, q2, rfl⟩) | go_in)
          go_loopw [7] (fun iv w' => ∃ (i : Nat) (v : Value) (wr : World), i ≤ n ∧ iv = .int .i64 i ∧ wr = w' ∧ Hid (Tin wr w.heap.size 0 0 (.slice none 0 0)) ∧ Hid (Tin wr (w.heap.size + 1) n m v) ∧ Hid (Got wr (w.heap.size + 2) 23 v (i * m) (joinV za zb m)) ∧ Hid (Below w.heap.size w wr)) (fun iv _ => n - (intOf iv).toNat)
          case atStart => exact ⟨0, _, _, by omega, rfl, rfl, Lib.hid (Tin.below (Tin.new (T := 44)) (by repeat (first | exact Below.refl _ _ | refine Below.drew ?_ | refine Below.drewN' ?_ _ | refine Below.alloc ?_ (by first | (simp; done) | (simp; omega)) _ | refine Below.setCell ?_ (by first | (simp; done) | (simp; omega)) _))), Lib.hid (Tin.below (Tin.new' (w := ((w.alloc (.cells #[.int .i64 0, .int .i64 0, .slice none 0 0] 44)).drewN _)) (T := 44) (by simp)) (by repeat (first | exact Below.refl _ _ | refine Below.drew ?_ | refine Below.drewN' ?_ _ | refine Below.alloc ?_ (by first | (simp; done) | (simp; omega)) _ | refine Below.setCell ?_ (by first | (simp; done) | (simp; omega)) _))), Lib.hid (by rw [Nat.zero_mul]; exact Got.nil _ _ _ _), Lib.hid (by repeat (first | exact Below.refl _ _ | refine Below.drew ?_ | refine Below.drewN' ?_ _ | refine Below.alloc ?_ (by first | (simp; done) | (simp; omega)) _ | refine Below.setCell ?_ (by first | (simp; done) | (simp; omega)) _))⟩
          case round =>
            obtain ⟨i, v0, wr0, hk, rfl, rfl, HT0, HT1, HO, HW⟩ := hrel
            by_cases hlt : i < n
            · obtain ⟨b1, o1, rfl, hck0⟩ := (HA.out.below HW.out).cell hlt
              obtain ⟨x, hx⟩ : ∃ x, x = za.getD i 0 := ⟨_, rfl⟩
              rw [← hx] at hck0
              have HX := Lib.hid hx
              clear hx
              go_wp2
              clear hck0
              go_loopw [8] (fun kv w' => ∃ (k : Nat) (v : Value) (wr : World), k ≤ m ∧ kv = .int .i64 k ∧ wr = w' ∧ Hid (Tin wr w.heap.size 0 0 (.slice none 0 0)) ∧ Hid (Tin wr (w.heap.size + 1) n m v) ∧ Hid (Got wr (w.heap.size + 2) 23 v (i * m + k) (joinV za zb m)) ∧ Hid (Below w.heap.size w wr)) (fun kv _ => m - (intOf kv).toNat)
              case atStart => exact ⟨0, v0, _, by omega, rfl, rfl, HT0, HT1, HO, HW⟩
              case round =>
                clear HT0 HT1 HO HW
                obtain ⟨k, v, wr, hk2, rfl, rfl, HT0, HT1, HO, HW⟩ := hrel
                by_cases hlt2 : k < m
                · obtain ⟨z, hzz, hzv⟩ := join_op HRA.out HRB.out hlt hlt2
                  have HV := Lib.hid hzv
                  rw [← HX.out] at hzz
                  have hkr : i * m + k + 1 ≤ 64 := by
                    have := mul_in (n := n * m) rfl hlt hlt2
                    have := HNM.out
                    omega
                  have hr1 := fun w2 => fres_some hzz w2
                  have hf1 := fcnt_some hzz
                  have hck : wr.cell? ⟨b1, o1 + i, none⟩ = some (.float .f32 (za.getD i 0)) := row_cell2 (HA.out.below HW.out) hlt
                  rw [← HX.out] at hck
                  obtain ⟨b2, o2, rfl, hck2⟩ := (HB.out.below HW.out).cell hlt2
                  clear hzz hzv
                  generalize zb.getD k 0 = y at hck2 hr1 hf1
                  obtain ⟨hP, hp0, hp1, hp2, _, _, hpf⟩ := HT1.out
                  obtain ⟨zs0, hz, ho⟩ := HO.out
                  have HZ := Lib.hid hz
                  have HO1 := Lib.hid ho
                  have HNE := Lib.hid (own_block ho)
                  have hsz := HW.out.size
                  have hn3 : some (w.heap.size + 1) ≠ v.ownBlock := fun e => by have := own_block ho _ e.symm; omega
                  have hn4 : some w.heap.size ≠ v.ownBlock := fun e => by have := own_block ho _ e.symm; omega
                  have hz64 : i * m + k ≤ 64 := by omega
                  generalize hkk : i * m + k = K at HZ HO1 HV hz64 hkr
                  clear hz ho
                  go_wp2
                  go_region_law (first | (refine step_append_lies _ (by rfl) _ _ _ (by rfl) (w.heap.size + 2) 23 i0 (.float .f32 0) 1 4 Try.underlying22 hi hz0 hz1 hz2 rfl (by omega) v K (zs0.map (Value.float .f32)) (by rfl) ((HO1.out.alloc _).drew) ⟨wr.heap.size, 0, none⟩ 1 1 [.float .f32 z] (by rfl) (by rfl) (World.news_of_block (cs := #[.float .f32 z]) (t := 23) (fr := (0, 0)) (heap_alloc_new _ _)) (by simp [Value.oneCell']) (by omega) (by unfold maxLen; omega) (by omega) (by simp; omega) (wr.heap.size + 1) (by simp) ?_; intro gg cp w1 hown1 hgrow hat hlt3; have hT1 : Tin w1 (w.heap.size + 1) n m v := Tin.grown hgrow hn3 (HT1.out.below (by repeat (first | exact Below.refl _ _ | refine Below.drew ?_ | refine Below.drewN' ?_ _ | refine Below.alloc ?_ (by first | (simp; done) | (simp; omega)) _ | refine Below.setCell ?_ (by first | (simp; done) | (simp; omega)) _))); have HT1' := Lib.hid hT1; obtain ⟨hg0, hg1, hg2, hg3, _, _, hg4⟩ := hT1) | (refine step_append_lies _ (by rfl) _ _ _ (by rfl) (w.heap.size + 2) 23 i0 (.float .f32 0) 1 4 Try.underlying22 hi hz0 hz1 hz2 rfl (by omega) v K (zs0.map (Value.float .f32)) (by rfl) (HO1.out.alloc _) ⟨wr.heap.size, 0, none⟩ 1 1 [.float .f32 z] (by rfl) (by rfl) (World.news_of_block (cs := #[.float .f32 z]) (t := 23) (fr := (0, 0)) (heap_alloc_new _ _)) (by simp [Value.oneCell']) (by omega) (by unfold maxLen; omega) (by omega) (by simp; omega) (wr.heap.size + 1) (by simp) ?_; intro gg cp w1 hown1 hgrow hat hlt3; have hT1 : Tin w1 (w.heap.size + 1) n m v := Tin.grown hgrow hn3 (HT1.out.below (by repeat (first | exact Below.refl _ _ | refine Below.drew ?_ | refine Below.drewN' ?_ _ | refine Below.alloc ?_ (by first | (simp; done) | (simp; omega)) _ | refine Below.setCell ?_ (by first | (simp; done) | (simp; omega)) _))); have HT1' := Lib.hid hT1; obtain ⟨hg0, hg1, hg2, hg3, _, _, hg4⟩ := hT1))
                  all_goals
                    go_wp2
                    exact ⟨⟨k + 1, _, _, by omega, by first | rfl | go_num | (congr 1), rfl, Lib.hid (Tin.below (Tin.far (a := ⟨w.heap.size + 1, 2, none⟩) (Tin.grown hgrow hn4 (HT0.out.below (by repeat (first | exact Below.refl _ _ | refine Below.drew ?_ | refine Below.drewN' ?_ _ | refine Below.alloc ?_ (by first | (simp; done) | (simp; omega)) _ | refine Below.setCell ?_ (by first | (simp; done) | (simp; omega)) _)))) (by simp) _) (by repeat (first | exact Below.refl _ _ | refine Below.drew ?_ | refine Below.drewN' ?_ _ | refine Below.alloc ?_ (by first | (simp; done) | (simp; omega)) _ | refine Below.setCell ?_ (by first | (simp; done) | (simp; omega)) _))), Lib.hid (Tin.below (Tin.set HT1'.out _) (by repeat (first | exact Below.refl _ _ | refine Below.drew ?_ | refine Below.drewN' ?_ _ | refine Below.alloc ?_ (by first | (simp; done) | (simp; omega)) _ | refine Below.setCell ?_ (by first | (simp; done) | (simp; omega)) _))), Lib.hid (by rw [show i * m + (k + 1) = K + 1 by omega]; exact Got.keep (Got.setCell (Got.step HZ.out (Got.len HO1.out) HV.out hown1) ⟨w.heap.size + 1, 2, none⟩ _ (by simp)) (by repeat (first | exact Below.refl _ _ | refine Below.drew ?_ | refine Below.drewN' ?_ _ | refine Below.alloc ?_ (by first | (simp; done) | (simp; omega)) _ | refine Below.setCell ?_ (by first | (simp; done) | (simp; omega)) _))), Lib.hid (by repeat (first | exact HW.out | refine Below.drew ?_ | refine Below.drewN' ?_ _ | refine Below.setCell ?_ (by first | (simp; done) | (simp; omega)) _ | refine Below.alloc ?_ (by first | omega | (simp; omega)) _ | refine Below.grown ?_ hgrow (by first | omega | (simp; omega)) (fun j hj => Nat.le_trans (by omega) (HNE.out j hj))))⟩, by show m - ((k : Int) + 1).toNat < m - (k : Int).toNat; omega⟩
                · obtain rfl : k = m := by omega
                  go_wp2
                  refine ⟨⟨i + 1, v, _, by omega, by first | rfl | go_num | (congr 1), rfl, HT0, HT1, Lib.hid (by rw [Nat.succ_mul]; exact HO.out), HW⟩, by show n - ((i : Int) + 1).toNat < n - (i : Int).toNat; omega⟩
            · obtain rfl : i = n := by omega
              have hkR : 0 < i * m := Nat.mul_pos HN1.out HM1.out
              obtain ⟨g, cp, rfl, hcap⟩ := HO.out.form hkR
              have HHG := Lib.hid hcap
              obtain ⟨zr, hg1, hg2, hg3, hg4, hg5⟩ := Got.fin'' HO.out (by omega)
              have HG1 := Lib.hid hg1
              have HG2 := Lib.hid hg2
              have HG3 := Lib.hid hg3
              have HG4 := Lib.hid hg4
              have HG5 := Lib.hid hg5
              obtain ⟨hs1, hd0, hd1, hd2, _⟩ := HT1.out
              clear hg1 hg2 hg3 hg4 hg5 hcap
              go_wp2_with (first | (go_at_call 82; refine (gtS_no (i : Int) (m : Int) _ (i * m) _ zr _ HG3.out (by have := HNM.out; omega) (by rw [join_tab HN1.out HN8.out HM1.out HM8.out HG4.out]; exact HCH.out)).mono ?_; rintro e w3 ⟨rfl, hb⟩; have HR := Lib.hid (HT0.out.below hb); have HG5 := Lib.hid (HG5.out.below HG2.out hb); have HG2 := Lib.hid (Nat.lt_of_lt_of_le HG2.out hb.size); have HB2 := Lib.hid (Below.next HW.out hb); obtain ⟨_, hd0, hd1, hd2, hf0, hf1, hf2⟩ := HR.out; have HP3 := Lib.hid (HR.out.put3 (.int .i64 0) (.int .i64 0) (.slice none 0 0)); clear hb) | go_in)
              obtain ⟨hr0, hr1, hr2⟩ := HP3.out
              exact bodyPost_ret (v := .tuple #[.agg #[.int .i64 0, .int .i64 0, .slice none 0 0], .bool false]) (by simp [results, Try.results40, go_sem, hr0, hr1, hr2]) rfl
                ⟨rfl, by repeat (first | exact HB2.out | refine Below.setCell ?_ (by first | (simp; done) | (simp; omega)) _)⟩
        · have hd8 : decide (8 < (m : Int)) = true := decide_eq_true (by omega)
          clear ha hb hok hm8
          go_enter Try.func40, Try.ntmps40
          go_wp2_with (first | (go_at_call 81; (first | (with_reducible refine (row_spec a n _ za _ (HA.out.alloc _) hn).mono ?_) | (with_reducible refine (row_spec a n _ za _ ((HA.out.alloc _).drewN _) hn).mono ?_)); rintro e w' ⟨rfl, q1, rfl⟩) | (go_at_call 81; (first | (with_reducible refine (row_spec b m _ zb _ (HB.out.alloc _) hm).mono ?_) | (with_reducible refine (row_spec b m _ zb _ ((HB.out.alloc _).drewN _) hm).mono ?_)); rintro e w' ⟨rfl, q2, rfl⟩) | go_in)
          exact bodyPost_ret (v := .tuple #[.agg #[.int .i64 0, .int .i64 0, .slice none 0 0], .bool false]) (by simp [results, Try.results40, go_sem]) rfl
            ⟨rfl, (by repeat (first | exact Below.refl _ _ | refine Below.drew ?_ | refine Below.drewN' ?_ _ | refine Below.alloc ?_ (by first | (simp; done) | (simp; omega)) _ | refine Below.setCell ?_ (by first | (simp; done) | (simp; omega)) _))⟩
      · have hd8 : decide (8 < (n : Int)) = true := decide_eq_true (by omega)
        clear ha hb hok hn8
        go_enter Try.func40, Try.ntmps40
        go_wp2_with (first | (go_at_call 81; (first | (with_reducible refine (row_spec a n _ za _ (HA.out.alloc _) hn).mono ?_) | (with_reducible refine (row_spec a n _ za _ ((HA.out.alloc _).drewN _) hn).mono ?_)); rintro e w' ⟨rfl, q1, rfl⟩) | (go_at_call 81; (first | (with_reducible refine (row_spec b m _ zb _ (HB.out.alloc _) hm).mono ?_) | (with_reducible refine (row_spec b m _ zb _ ((HB.out.alloc _).drewN _) hm).mono ?_)); rintro e w' ⟨rfl, q2, rfl⟩) | go_in)
        exact bodyPost_ret (v := .tuple #[.agg #[.int .i64 0, .int .i64 0, .slice none 0 0], .bool false]) (by simp [results, Try.results40, go_sem]) rfl
          ⟨rfl, (by repeat (first | exact Below.refl _ _ | refine Below.drew ?_ | refine Below.drewN' ?_ _ | refine Below.alloc ?_ (by first | (simp; done) | (simp; omega)) _ | refine Below.setCell ?_ (by first | (simp; done) | (simp; omega)) _))⟩
set_option maxRecDepth 100000 in
set_option maxHeartbeats 8000000 in
theorem jrI (a : Option Addr) (n cap : Nat) (za : List Nat) (b : Option Addr) (m capb : Nat) (zb : List Nat) (w : World) (ha : FRow w a n za) (hb : FRow w b m zb) (hn : n ≤ 1048576) (hm : m ≤ 1048576) (hok : okJ za zb n m = true) :
    Calls Try.prog 41 #[.slice a n cap, .slice b m capb] w fun e w' => ∃ g cp, e = .returned (.tuple #[.agg #[.int .i64 (n : Int), .int .i64 (m : Int), .slice (some ⟨g, 0, none⟩) (n * m) cp], .bool true]) ∧ New w w' g (.cl (n * m) (joinV za zb m)) := by
  obtain ⟨i0, hi, hz0, hz1, hz2⟩ := info_parts Try.info32
  obtain ⟨hra, hrb, h88, hch⟩ := okJ_out hok
  have HA := Lib.hid ha
  have HB := Lib.hid hb
  clear hok
  obtain ⟨hn8, hm8⟩ := h88
  have hn1 := row_pos hra
  have hm1 := row_pos hrb
  have HN1 := Lib.hid hn1
  have HM1 := Lib.hid hm1
  have HN8 := Lib.hid hn8
  have HM8 := Lib.hid hm8
  have HNM : Hid (n * m ≤ 64) := Lib.hid (Nat.le_trans (Nat.mul_le_mul hn8 hm8) (by decide))
  have HRA := Lib.hid hra
  have HRB := Lib.hid hrb
  have HCH := Lib.hid hch
  have hdz : ∀ w2 : World, w2.drewN 0 = w2 := World.drewN_zero
  clear ha hb hch
  go_enter Try.func41, Try.ntmps41
  go_wp2_with (first | (go_at_call 83; (first | (with_reducible refine (row_impl a n _ za _ (HA.out.alloc _) hn).mono ?_) | (with_reducible refine (row_impl a n _ za _ ((HA.out.alloc _).drewN _) hn).mono ?_)); rintro e w' ⟨rfl, q1, rfl⟩) | (go_at_call 83; (first | (with_reducible refine (row_impl b m _ zb _ (HB.out.alloc _) hm).mono ?_) | (with_reducible refine (row_impl b m _ zb _ ((HB.out.alloc _).drewN _) hm).mono ?_)); rintro e w' ⟨rfl, q2, rfl⟩) | go_in)
  go_loopw [37] (fun iv w' => ∃ (i : Nat) (v : Value) (wr : World), i ≤ n ∧ iv = .int .i64 i ∧ wr = w' ∧ Hid (Tin wr w.heap.size 0 0 (.slice none 0 0)) ∧ Hid (Tin wr (w.heap.size + 1) n m v) ∧ Hid (Got wr (w.heap.size + 2) 23 v (i * m) (joinV za zb m)) ∧ Hid (Below w.heap.size w wr)) (fun iv _ => n - (intOf iv).toNat)
  case atStart => exact ⟨0, _, _, by omega, rfl, rfl, Lib.hid (Tin.below (Tin.new (T := 44)) (by repeat (first | exact Below.refl _ _ | refine Below.drew ?_ | refine Below.drewN' ?_ _ | refine Below.alloc ?_ (by first | (simp; done) | (simp; omega)) _ | refine Below.setCell ?_ (by first | (simp; done) | (simp; omega)) _))), Lib.hid (Tin.below (Tin.new' (w := ((w.alloc (.cells #[.int .i64 0, .int .i64 0, .slice none 0 0] 44)).drewN _)) (T := 44) (by simp)) (by repeat (first | exact Below.refl _ _ | refine Below.drew ?_ | refine Below.drewN' ?_ _ | refine Below.alloc ?_ (by first | (simp; done) | (simp; omega)) _ | refine Below.setCell ?_ (by first | (simp; done) | (simp; omega)) _))), Lib.hid (by rw [Nat.zero_mul]; exact Got.nil _ _ _ _), Lib.hid (by repeat (first | exact Below.refl _ _ | refine Below.drew ?_ | refine Below.drewN' ?_ _ | refine Below.alloc ?_ (by first | (simp; done) | (simp; omega)) _ | refine Below.setCell ?_ (by first | (simp; done) | (simp; omega)) _))⟩
  case round =>
    obtain ⟨i, v0, wr0, hk, rfl, rfl, HT0, HT1, HO, HW⟩ := hrel
    by_cases hlt : i < n
    · obtain ⟨b1, o1, rfl, hck0⟩ := (HA.out.below HW.out).cell hlt
      obtain ⟨x, hx⟩ : ∃ x, x = za.getD i 0 := ⟨_, rfl⟩
      rw [← hx] at hck0
      have HX := Lib.hid hx
      clear hx
      go_wp2
      clear hck0
      go_loopw [43] (fun kv w' => ∃ (k : Nat) (v : Value) (wr : World), k ≤ m ∧ kv = .int .i64 k ∧ wr = w' ∧ Hid (Tin wr w.heap.size 0 0 (.slice none 0 0)) ∧ Hid (Tin wr (w.heap.size + 1) n m v) ∧ Hid (Got wr (w.heap.size + 2) 23 v (i * m + k) (joinV za zb m)) ∧ Hid (Below w.heap.size w wr)) (fun kv _ => m - (intOf kv).toNat)
      case atStart => exact ⟨0, v0, _, by omega, rfl, rfl, HT0, HT1, HO, HW⟩
      case round =>
        clear HT0 HT1 HO HW
        obtain ⟨k, v, wr, hk2, rfl, rfl, HT0, HT1, HO, HW⟩ := hrel
        by_cases hlt2 : k < m
        · obtain ⟨z, hzz, hzv⟩ := join_op HRA.out HRB.out hlt hlt2
          have HV := Lib.hid hzv
          rw [← HX.out] at hzz
          have hkr : i * m + k + 1 ≤ 64 := by
            have := mul_in (n := n * m) rfl hlt hlt2
            have := HNM.out
            omega
          have hr1 := fun w2 => fres_some hzz w2
          have hf1 := fcnt_some hzz
          have hck : wr.cell? ⟨b1, o1 + i, none⟩ = some (.float .f32 (za.getD i 0)) := row_cell2 (HA.out.below HW.out) hlt
          rw [← HX.out] at hck
          obtain ⟨b2, o2, rfl, hck2⟩ := (HB.out.below HW.out).cell hlt2
          clear hzz hzv
          generalize zb.getD k 0 = y at hck2 hr1 hf1
          obtain ⟨hP, hp0, hp1, hp2, _, _, hpf⟩ := HT1.out
          obtain ⟨zs0, hz, ho⟩ := HO.out
          have HZ := Lib.hid hz
          have HO1 := Lib.hid ho
          have HNE := Lib.hid (own_block ho)
          have hsz := HW.out.size
          have hn3 : some (w.heap.size + 1) ≠ v.ownBlock := fun e => by have := own_block ho _ e.symm; omega
          have hn4 : some w.heap.size ≠ v.ownBlock := fun e => by have := own_block ho _ e.symm; omega
          have hz64 : i * m + k ≤ 64 := by omega
          generalize hkk : i * m + k = K at HZ HO1 HV hz64 hkr
          clear hz ho
          go_wp2_with (first | (at_builtin; refine wpList_append_lies _ rfl _ _ 22 rfl (w.heap.size + 2) 23 i0 (.float .f32 0) 1 4 Try.underlying22 hi hz0 hz1 hz2 rfl (by omega) v K (zs0.map (Value.float .f32)) (by rfl) (World.ownsRow.alloc HO1.out _) ⟨wr.heap.size, 0, none⟩ 1 1 [.float .f32 z] (by rfl) (by rfl) (World.news_of_block (cs := #[.float .f32 z]) (t := 23) (fr := (0, 0)) (heap_alloc_new _ _)) (by simp [Value.oneCell']) (by omega) (by unfold maxLen; omega) (by omega) (by simp; omega) (wr.heap.size + 1) (by simp) ?_; intro gg cp w1 hown1 hgrow hat hlt3; have hT1 : Tin w1 (w.heap.size + 1) n m v := Tin.grown hgrow hn3 (HT1.out.below (by repeat (first | exact Below.refl _ _ | refine Below.drew ?_ | refine Below.drewN' ?_ _ | refine Below.alloc ?_ (by first | (simp; done) | (simp; omega)) _ | refine Below.setCell ?_ (by first | (simp; done) | (simp; omega)) _))); have HT1' := Lib.hid hT1; obtain ⟨hg0, hg1, hg2, hg3, _, _, hg4⟩ := hT1) | go_in)
          all_goals
            exact ⟨⟨k + 1, _, _, by omega, by first | rfl | go_num | (congr 1), rfl, Lib.hid (Tin.below (Tin.far (a := ⟨w.heap.size + 1, 2, none⟩) (Tin.grown hgrow hn4 (HT0.out.below (by repeat (first | exact Below.refl _ _ | refine Below.drew ?_ | refine Below.drewN' ?_ _ | refine Below.alloc ?_ (by first | (simp; done) | (simp; omega)) _ | refine Below.setCell ?_ (by first | (simp; done) | (simp; omega)) _)))) (by simp) _) (by repeat (first | exact Below.refl _ _ | refine Below.drew ?_ | refine Below.drewN' ?_ _ | refine Below.alloc ?_ (by first | (simp; done) | (simp; omega)) _ | refine Below.setCell ?_ (by first | (simp; done) | (simp; omega)) _))), Lib.hid (Tin.below (Tin.set HT1'.out _) (by repeat (first | exact Below.refl _ _ | refine Below.drew ?_ | refine Below.drewN' ?_ _ | refine Below.alloc ?_ (by first | (simp; done) | (simp; omega)) _ | refine Below.setCell ?_ (by first | (simp; done) | (simp; omega)) _))), Lib.hid (by rw [show i * m + (k + 1) = K + 1 by omega]; exact Got.keep (Got.setCell (Got.step HZ.out (Got.len HO1.out) HV.out hown1) ⟨w.heap.size + 1, 2, none⟩ _ (by simp)) (by repeat (first | exact Below.refl _ _ | refine Below.drew ?_ | refine Below.drewN' ?_ _ | refine Below.alloc ?_ (by first | (simp; done) | (simp; omega)) _ | refine Below.setCell ?_ (by first | (simp; done) | (simp; omega)) _))), Lib.hid (by repeat (first | exact HW.out | refine Below.drew ?_ | refine Below.drewN' ?_ _ | refine Below.setCell ?_ (by first | (simp; done) | (simp; omega)) _ | refine Below.alloc ?_ (by first | omega | (simp; omega)) _ | refine Below.grown ?_ hgrow (by first | omega | (simp; omega)) (fun j hj => Nat.le_trans (by omega) (HNE.out j hj))))⟩, by show m - ((k : Int) + 1).toNat < m - (k : Int).toNat; omega⟩
        · obtain rfl : k = m := by omega
          go_wp2
          refine ⟨⟨i + 1, v, _, by omega, by first | rfl | go_num | (congr 1), rfl, HT0, HT1, Lib.hid (by rw [Nat.succ_mul]; exact HO.out), HW⟩, by show n - ((i : Int) + 1).toNat < n - (i : Int).toNat; omega⟩
    · obtain rfl : i = n := by omega
      have hkR : 0 < i * m := Nat.mul_pos HN1.out HM1.out
      obtain ⟨g, cp, rfl, hcap⟩ := HO.out.form hkR
      have HHG := Lib.hid hcap
      obtain ⟨zr, hg1, hg2, hg3, hg4, hg5⟩ := Got.fin'' HO.out (by omega)
      have HG1 := Lib.hid hg1
      have HG2 := Lib.hid hg2
      have HG3 := Lib.hid hg3
      have HG4 := Lib.hid hg4
      have HG5 := Lib.hid hg5
      obtain ⟨hs1, hd0, hd1, hd2, _⟩ := HT1.out
      clear hg1 hg2 hg3 hg4 hg5 hcap
      go_wp2_with (first | (go_at_call 84; refine (gtI_yes (i : Int) (m : Int) _ (i * m) _ zr _ HG3.out (by have := HNM.out; omega) (by rw [join_tab HN1.out HN8.out HM1.out HM8.out HG4.out]; exact HCH.out)).mono ?_; rintro e w3 ⟨rfl, hb⟩; have HR := Lib.hid (HT0.out.below hb); have HG5 := Lib.hid (HG5.out.below HG2.out hb); have HG2 := Lib.hid (Nat.lt_of_lt_of_le HG2.out hb.size); have HB2 := Lib.hid (Below.next HW.out hb); obtain ⟨_, hd0, hd1, hd2, hf0, hf1, hf2⟩ := HR.out; have HP3 := Lib.hid (HR.out.put3 (.int .i64 (i : Int)) (.int .i64 (m : Int)) (.slice (some ⟨g, 0, none⟩) (i * m) cp)); clear hb) | go_in)
      obtain ⟨hr0, hr1, hr2⟩ := HP3.out
      have hgne : w.heap.size ≠ g := by have := HG1.out; omega
      exact bodyPost_ret (v := .tuple #[.agg #[.int .i64 (i : Int), .int .i64 (m : Int), .slice (some ⟨g, 0, none⟩) (i * m) cp], .bool true]) (by simp [results, Try.results41, go_sem, hr0, hr1, hr2]) rfl
        ⟨g, cp, rfl, by have := HG1.out; omega, by simpa using HG2.out, Ent.ok.set (Ent.ok.set (Ent.ok.set HG5.out hgne _) hgne _) hgne _, by repeat (first | exact HB2.out | refine Below.setCell ?_ (by first | (simp; done) | (simp; omega)) _)⟩
set_option maxRecDepth 100000 in
set_option maxHeartbeats 8000000 in
theorem jrI' (a : Option Addr) (n cap : Nat) (za : List Nat) (b : Option Addr) (m capb : Nat) (zb : List Nat) (w : World) (ha : FRow w a n za) (hb : FRow w b m zb) (hn : n ≤ 1048576) (hm : m ≤ 1048576) (hok : okJ za zb n m = false) :
    Calls Try.prog 41 #[.slice a n cap, .slice b m capb] w fun e w' => e = .returned (.tuple #[.agg #[.int .i64 0, .int .i64 0, .slice none 0 0], .bool false]) ∧ Below w.heap.size w w' := by
  obtain ⟨i0, hi, hz0, hz1, hz2⟩ := info_parts Try.info32
  have HA := Lib.hid ha
  have HB := Lib.hid hb
  cases hra : rowB za n with
  | false =>
    clear ha hb hok
    go_enter Try.func41, Try.ntmps41
    go_wp2_with (first | (go_at_call 83; (first | (with_reducible refine (row_impl a n _ za _ (HA.out.alloc _) hn).mono ?_) | (with_reducible refine (row_impl a n _ za _ ((HA.out.alloc _).drewN _) hn).mono ?_)); rintro e w' ⟨rfl, q1, rfl⟩) | (go_at_call 83; (first | (with_reducible refine (row_impl b m _ zb _ (HB.out.alloc _) hm).mono ?_) | (with_reducible refine (row_impl b m _ zb _ ((HB.out.alloc _).drewN _) hm).mono ?_)); rintro e w' ⟨rfl, q2, rfl⟩) | go_in)
    exact bodyPost_ret (v := .tuple #[.agg #[.int .i64 0, .int .i64 0, .slice none 0 0], .bool false]) (by simp [results, Try.results41, go_sem]) rfl
      ⟨rfl, (by repeat (first | exact Below.refl _ _ | refine Below.drew ?_ | refine Below.drewN' ?_ _ | refine Below.alloc ?_ (by first | (simp; done) | (simp; omega)) _ | refine Below.setCell ?_ (by first | (simp; done) | (simp; omega)) _))⟩
  | true =>
    cases hrb : rowB zb m with
    | false =>
      clear ha hb hok
      go_enter Try.func41, Try.ntmps41
      go_wp2_with (first | (go_at_call 83; (first | (with_reducible refine (row_impl a n _ za _ (HA.out.alloc _) hn).mono ?_) | (with_reducible refine (row_impl a n _ za _ ((HA.out.alloc _).drewN _) hn).mono ?_)); rintro e w' ⟨rfl, q1, rfl⟩) | (go_at_call 83; (first | (with_reducible refine (row_impl b m _ zb _ (HB.out.alloc _) hm).mono ?_) | (with_reducible refine (row_impl b m _ zb _ ((HB.out.alloc _).drewN _) hm).mono ?_)); rintro e w' ⟨rfl, q2, rfl⟩) | go_in)
      exact bodyPost_ret (v := .tuple #[.agg #[.int .i64 0, .int .i64 0, .slice none 0 0], .bool false]) (by simp [results, Try.results41, go_sem]) rfl
        ⟨rfl, (by repeat (first | exact Below.refl _ _ | refine Below.drew ?_ | refine Below.drewN' ?_ _ | refine Below.alloc ?_ (by first | (simp; done) | (simp; omega)) _ | refine Below.setCell ?_ (by first | (simp; done) | (simp; omega)) _))⟩
    | true =>
      by_cases hn8 : n ≤ 8
      · by_cases hm8 : m ≤ 8
        · have h88 : n ≤ 8 ∧ m ≤ 8 := ⟨hn8, hm8⟩
          have hch : chV (joinV za zb m) (n * m) = false := by unfold okJ at hok; rw [hra, hrb, decide_eq_true h88] at hok; simpa using hok
          clear hok hn8 hm8
          obtain ⟨hn8, hm8⟩ := h88
          have hn1 := row_pos hra
          have hm1 := row_pos hrb
          have HN1 := Lib.hid hn1
          have HM1 := Lib.hid hm1
          have HN8 := Lib.hid hn8
          have HM8 := Lib.hid hm8
          have HNM : Hid (n * m ≤ 64) := Lib.hid (Nat.le_trans (Nat.mul_le_mul hn8 hm8) (by decide))
          have HRA := Lib.hid hra
          have HRB := Lib.hid hrb
          have HCH := Lib.hid hch
          have hdz : ∀ w2 : World, w2.drewN 0 = w2 := World.drewN_zero
          clear ha hb hch
          go_enter Try.func41, Try.ntmps41
          go_wp2_with (first | (go_at_call 83; (first | (with_reducible refine (row_impl a n _ za _ (HA.out.alloc _) hn).mono ?_) | (with_reducible refine (row_impl a n _ za _ ((HA.out.alloc _).drewN _) hn).mono ?_)); rintro e w' ⟨rfl, q1, rfl⟩) | (go_at_call 83; (first | (with_reducible refine (row_impl b m _ zb _ (HB.out.alloc _) hm).mono ?_) | (with_reducible refine (row_impl b m _ zb _ ((HB.out.alloc _).drewN _) hm).mono ?_)); rintro e w' ⟨rfl, q2, rfl⟩) | go_in)
          go_loopw [37] (fun iv w' => ∃ (i : Nat) (v : Value) (wr : World), i ≤ n ∧ iv = .int .i64 i ∧ wr = w' ∧ Hid (Tin wr w.heap.size 0 0 (.slice none 0 0)) ∧ Hid (Tin wr (w.heap.size + 1) n m v) ∧ Hid (Got wr (w.heap.size + 2) 23 v (i * m) (joinV za zb m)) ∧ Hid (Below w.heap.size w wr)) (fun iv _ => n - (intOf iv).toNat)
          case atStart => exact ⟨0, _, _, by omega, rfl, rfl, Lib.hid (Tin.below (Tin.new (T := 44)) (by repeat (first | exact Below.refl _ _ | refine Below.drew ?_ | refine Below.drewN' ?_ _ | refine Below.alloc ?_ (by first | (simp; done) | (simp; omega)) _ | refine Below.setCell ?_ (by first | (simp; done) | (simp; omega)) _))), Lib.hid (Tin.below (Tin.new' (w := ((w.alloc (.cells #[.int .i64 0, .int .i64 0, .slice none 0 0] 44)).drewN _)) (T := 44) (by simp)) (by repeat (first | exact Below.refl _ _ | refine Below.drew ?_ | refine Below.drewN' ?_ _ | refine Below.alloc ?_ (by first | (simp; done) | (simp; omega)) _ | refine Below.setCell ?_ (by first | (simp; done) | (simp; omega)) _))), Lib.hid (by rw [Nat.zero_mul]; exact Got.nil _ _ _ _), Lib.hid (by repeat (first | exact Below.refl _ _ | refine Below.drew ?_ | refine Below.drewN' ?_ _ | refine Below.alloc ?_ (by first | (simp; done) | (simp; omega)) _ | refine Below.setCell ?_ (by first | (simp; done) | (simp; omega)) _))⟩
          case round =>
            obtain ⟨i, v0, wr0, hk, rfl, rfl, HT0, HT1, HO, HW⟩ := hrel
            by_cases hlt : i < n
            · obtain ⟨b1, o1, rfl, hck0⟩ := (HA.out.below HW.out).cell hlt
              obtain ⟨x, hx⟩ : ∃ x, x = za.getD i 0 := ⟨_, rfl⟩
              rw [← hx] at hck0
              have HX := Lib.hid hx
              clear hx
              go_wp2
              clear hck0
              go_loopw [43] (fun kv w' => ∃ (k : Nat) (v : Value) (wr : World), k ≤ m ∧ kv = .int .i64 k ∧ wr = w' ∧ Hid (Tin wr w.heap.size 0 0 (.slice none 0 0)) ∧ Hid (Tin wr (w.heap.size + 1) n m v) ∧ Hid (Got wr (w.heap.size + 2) 23 v (i * m + k) (joinV za zb m)) ∧ Hid (Below w.heap.size w wr)) (fun kv _ => m - (intOf kv).toNat)
              case atStart => exact ⟨0, v0, _, by omega, rfl, rfl, HT0, HT1, HO, HW⟩
              case round =>
                clear HT0 HT1 HO HW
                obtain ⟨k, v, wr, hk2, rfl, rfl, HT0, HT1, HO, HW⟩ := hrel
                by_cases hlt2 : k < m
                · obtain ⟨z, hzz, hzv⟩ := join_op HRA.out HRB.out hlt hlt2
                  have HV := Lib.hid hzv
                  rw [← HX.out] at hzz
                  have hkr : i * m + k + 1 ≤ 64 := by
                    have := mul_in (n := n * m) rfl hlt hlt2
                    have := HNM.out
                    omega
                  have hr1 := fun w2 => fres_some hzz w2
                  have hf1 := fcnt_some hzz
                  have hck : wr.cell? ⟨b1, o1 + i, none⟩ = some (.float .f32 (za.getD i 0)) := row_cell2 (HA.out.below HW.out) hlt
                  rw [← HX.out] at hck
                  obtain ⟨b2, o2, rfl, hck2⟩ := (HB.out.below HW.out).cell hlt2
                  clear hzz hzv
                  generalize zb.getD k 0 = y at hck2 hr1 hf1
                  obtain ⟨hP, hp0, hp1, hp2, _, _, hpf⟩ := HT1.out
                  obtain ⟨zs0, hz, ho⟩ := HO.out
                  have HZ := Lib.hid hz
                  have HO1 := Lib.hid ho
                  have HNE := Lib.hid (own_block ho)
                  have hsz := HW.out.size
                  have hn3 : some (w.heap.size + 1) ≠ v.ownBlock := fun e => by have := own_block ho _ e.symm; omega
                  have hn4 : some w.heap.size ≠ v.ownBlock := fun e => by have := own_block ho _ e.symm; omega
                  have hz64 : i * m + k ≤ 64 := by omega
                  generalize hkk : i * m + k = K at HZ HO1 HV hz64 hkr
                  clear hz ho
                  go_wp2_with (first | (at_builtin; refine wpList_append_lies _ rfl _ _ 22 rfl (w.heap.size + 2) 23 i0 (.float .f32 0) 1 4 Try.underlying22 hi hz0 hz1 hz2 rfl (by omega) v K (zs0.map (Value.float .f32)) (by rfl) (World.ownsRow.alloc HO1.out _) ⟨wr.heap.size, 0, none⟩ 1 1 [.float .f32 z] (by rfl) (by rfl) (World.news_of_block (cs := #[.float .f32 z]) (t := 23) (fr := (0, 0)) (heap_alloc_new _ _)) (by simp [Value.oneCell']) (by omega) (by unfold maxLen; omega) (by omega) (by simp; omega) (wr.heap.size + 1) (by simp) ?_; intro gg cp w1 hown1 hgrow hat hlt3; have hT1 : Tin w1 (w.heap.size + 1) n m v := Tin.grown hgrow hn3 (HT1.out.below (by repeat (first | exact Below.refl _ _ | refine Below.drew ?_ | refine Below.drewN' ?_ _ | refine Below.alloc ?_ (by first | (simp; done) | (simp; omega)) _ | refine Below.setCell ?_ (by first | (simp; done) | (simp; omega)) _))); have HT1' := Lib.hid hT1; obtain ⟨hg0, hg1, hg2, hg3, _, _, hg4⟩ := hT1) | go_in)
                  all_goals
                    exact ⟨⟨k + 1, _, _, by omega, by first | rfl | go_num | (congr 1), rfl, Lib.hid (Tin.below (Tin.far (a := ⟨w.heap.size + 1, 2, none⟩) (Tin.grown hgrow hn4 (HT0.out.below (by repeat (first | exact Below.refl _ _ | refine Below.drew ?_ | refine Below.drewN' ?_ _ | refine Below.alloc ?_ (by first | (simp; done) | (simp; omega)) _ | refine Below.setCell ?_ (by first | (simp; done) | (simp; omega)) _)))) (by simp) _) (by repeat (first | exact Below.refl _ _ | refine Below.drew ?_ | refine Below.drewN' ?_ _ | refine Below.alloc ?_ (by first | (simp; done) | (simp; omega)) _ | refine Below.setCell ?_ (by first | (simp; done) | (simp; omega)) _))), Lib.hid (Tin.below (Tin.set HT1'.out _) (by repeat (first | exact Below.refl _ _ | refine Below.drew ?_ | refine Below.drewN' ?_ _ | refine Below.alloc ?_ (by first | (simp; done) | (simp; omega)) _ | refine Below.setCell ?_ (by first | (simp; done) | (simp; omega)) _))), Lib.hid (by rw [show i * m + (k + 1) = K + 1 by omega]; exact Got.keep (Got.setCell (Got.step HZ.out (Got.len HO1.out) HV.out hown1) ⟨w.heap.size + 1, 2, none⟩ _ (by simp)) (by repeat (first | exact Below.refl _ _ | refine Below.drew ?_ | refine Below.drewN' ?_ _ | refine Below.alloc ?_ (by first | (simp; done) | (simp; omega)) _ | refine Below.setCell ?_ (by first | (simp; done) | (simp; omega)) _))), Lib.hid (by repeat (first | exact HW.out | refine Below.drew ?_ | refine Below.drewN' ?_ _ | refine Below.setCell ?_ (by first | (simp; done) | (simp; omega)) _ | refine Below.alloc ?_ (by first | omega | (simp; omega)) _ | refine Below.grown ?_ hgrow (by first | omega | (simp; omega)) (fun j hj => Nat.le_trans (by omega) (HNE.out j hj))))⟩, by show m - ((k : Int) + 1).toNat < m - (k : Int).toNat; omega⟩
                · obtain rfl : k = m := by omega
                  go_wp2
                  refine ⟨⟨i + 1, v, _, by omega, by first | rfl | go_num | (congr 1), rfl, HT0, HT1, Lib.hid (by rw [Nat.succ_mul]; exact HO.out), HW⟩, by show n - ((i : Int) + 1).toNat < n - (i : Int).toNat; omega⟩
            · obtain rfl : i = n := by omega
              have hkR : 0 < i * m := Nat.mul_pos HN1.out HM1.out
              obtain ⟨g, cp, rfl, hcap⟩ := HO.out.form hkR
              have HHG := Lib.hid hcap
              obtain ⟨zr, hg1, hg2, hg3, hg4, hg5⟩ := Got.fin'' HO.out (by omega)
              have HG1 := Lib.hid hg1
              have HG2 := Lib.hid hg2
              have HG3 := Lib.hid hg3
              have HG4 := Lib.hid hg4
              have HG5 := Lib.hid hg5
              obtain ⟨hs1, hd0, hd1, hd2, _⟩ := HT1.out
              clear hg1 hg2 hg3 hg4 hg5 hcap
              go_wp2_with (first | (go_at_call 84; refine (gtI_no (i : Int) (m : Int) _ (i * m) _ zr _ HG3.out (by have := HNM.out; omega) (by rw [join_tab HN1.out HN8.out HM1.out HM8.out HG4.out]; exact HCH.out)).mono ?_; rintro e w3 ⟨rfl, hb⟩; have HR := Lib.hid (HT0.out.below hb); have HG5 := Lib.hid (HG5.out.below HG2.out hb); have HG2 := Lib.hid (Nat.lt_of_lt_of_le HG2.out hb.size); have HB2 := Lib.hid (Below.next HW.out hb); obtain ⟨_, hd0, hd1, hd2, hf0, hf1, hf2⟩ := HR.out; have HP3 := Lib.hid (HR.out.put3 (.int .i64 0) (.int .i64 0) (.slice none 0 0)); clear hb) | go_in)
              obtain ⟨hr0, hr1, hr2⟩ := HP3.out
              exact bodyPost_ret (v := .tuple #[.agg #[.int .i64 0, .int .i64 0, .slice none 0 0], .bool false]) (by simp [results, Try.results41, go_sem, hr0, hr1, hr2]) rfl
                ⟨rfl, by repeat (first | exact HB2.out | refine Below.setCell ?_ (by first | (simp; done) | (simp; omega)) _)⟩
        · have hd8 : decide (8 < (m : Int)) = true := decide_eq_true (by omega)
          clear ha hb hok hm8
          go_enter Try.func41, Try.ntmps41
          go_wp2_with (first | (go_at_call 83; (first | (with_reducible refine (row_impl a n _ za _ (HA.out.alloc _) hn).mono ?_) | (with_reducible refine (row_impl a n _ za _ ((HA.out.alloc _).drewN _) hn).mono ?_)); rintro e w' ⟨rfl, q1, rfl⟩) | (go_at_call 83; (first | (with_reducible refine (row_impl b m _ zb _ (HB.out.alloc _) hm).mono ?_) | (with_reducible refine (row_impl b m _ zb _ ((HB.out.alloc _).drewN _) hm).mono ?_)); rintro e w' ⟨rfl, q2, rfl⟩) | go_in)
          exact bodyPost_ret (v := .tuple #[.agg #[.int .i64 0, .int .i64 0, .slice none 0 0], .bool false]) (by simp [results, Try.results41, go_sem]) rfl
            ⟨rfl, (by repeat (first | exact Below.refl _ _ | refine Below.drew ?_ | refine Below.drewN' ?_ _ | refine Below.alloc ?_ (by first | (simp; done) | (simp; omega)) _ | refine Below.setCell ?_ (by first | (simp; done) | (simp; omega)) _))⟩
      · have hd8 : decide (8 < (n : Int)) = true := decide_eq_true (by omega)
        clear ha hb hok hn8
        go_enter Try.func41, Try.ntmps41
        go_wp2_with (first | (go_at_call 83; (first | (with_reducible refine (row_impl a n _ za _ (HA.out.alloc _) hn).mono ?_) | (with_reducible refine (row_impl a n _ za _ ((HA.out.alloc _).drewN _) hn).mono ?_)); rintro e w' ⟨rfl, q1, rfl⟩) | (go_at_call 83; (first | (with_reducible refine (row_impl b m _ zb _ (HB.out.alloc _) hm).mono ?_) | (with_reducible refine (row_impl b m _ zb _ ((HB.out.alloc _).drewN _) hm).mono ?_)); rintro e w' ⟨rfl, q2, rfl⟩) | go_in)
        exact bodyPost_ret (v := .tuple #[.agg #[.int .i64 0, .int .i64 0, .slice none 0 0], .bool false]) (by simp [results, Try.results41, go_sem]) rfl
          ⟨rfl, (by repeat (first | exact Below.refl _ _ | refine Below.drew ?_ | refine Below.drewN' ?_ _ | refine Below.alloc ?_ (by first | (simp; done) | (simp; omega)) _ | refine Below.setCell ?_ (by first | (simp; done) | (simp; omega)) _))⟩
end Go.Proofs.Ytcgdhicgpkoncaa
