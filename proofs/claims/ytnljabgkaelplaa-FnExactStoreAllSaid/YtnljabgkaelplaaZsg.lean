
/- StoreSaved: the model, at a place in a row. -/
import Derived.Test.YtnljabgkaelplaaZse
set_option linter.unusedVariables false
set_option linter.unusedSimpArgs false
namespace Go.Proofs.Ytnljabgkaelplaa
open Go.Proofs.Ytnljabgkaelplaa.Flo Go.RowKit Go.Shelf
attribute [local go_sem] Oper.semAt_some

/-- The three cells of what is saved. -/
def Sv3o (w : World) (p o : Nat) (x y z : Value) : Prop := p < w.heap.size ∧ w.cell? ⟨p, o, none⟩ = some x ∧ w.cell? ⟨p, o + 1, none⟩ = some y ∧ w.cell? ⟨p, o + 2, none⟩ = some z
theorem Sv3o.below {w w' : World} {B p o : Nat} {x y z : Value} (h : Sv3o w p o x y z) (hb : Below B w w') (hp : p < B) : Sv3o w' p o x y z := by
  obtain ⟨h0, h1, h2, h3⟩ := h
  exact ⟨Nat.lt_of_lt_of_le h0 hb.size, by rw [hb.cell (p := ⟨p, o, none⟩) hp]; exact h1, by rw [hb.cell (p := ⟨p, o + 1, none⟩) hp]; exact h2, by rw [hb.cell (p := ⟨p, o + 2, none⟩) hp]; exact h3⟩
set_option maxRecDepth 100000 in
set_option maxHeartbeats 4000000 in
theorem vs_specO (p o : Nat) (s : ByteArray) (a : Option Addr) (n cap : Nat) (b : Option Addr) (m capb : Nat) (zs : List Nat) (w : World) (hs : s.size ≤ 1048576) (hb : FRow w b m zs) (hn : n ≤ 1048576) (hm : m ≤ 1048576) (h0 : w.cell? ⟨p, o, none⟩ = some (.string s)) (h1 : w.cell? ⟨p, o + 1, none⟩ = some (.slice a n cap)) (h2 : w.cell? ⟨p, o + 2, none⟩ = some (.slice b m capb)) :
    Calls Try.prog 43 #[.pointer (some ⟨p, o, none⟩)] w fun e w' => e = .returned (.bool (svB s n zs m)) ∧ Below w.heap.size w w' := by
  have HNM := Lib.hid (fun W => name_spec s W (by unfold maxLen; omega))
  have HSF := Lib.hid (fun W (h : Below w.heap.size w W) => s7_spec b m capb zs W (hb.below h) hm)
  clear hb
  cases hx1 : nameB s.data.toList with
  | true =>
    rw [hx1] at HNM
    by_cases hx2 : n ≤ 160
    · have d2 : decide ((n : Int) ≤ 160) = true := decide_eq_true (by omega)
      have HF := Lib.hid (sv_m (zs := zs) (m := m) hx1 hx2)
      clear hx1 hx2
      generalize sfB zs m = v at HSF HF
      go_enter Try.func43, Try.ntmps43
      go_wp2_with (first | (go_at_call 82; refine (HNM.out _).mono ?_; rintro e w2 ⟨rfl, hb⟩; subst hb; have HB : Hid (Below w.heap.size w w) := Lib.hid (Below.refl _ _)) | (go_at_call 83; refine (HSF.out _ HB.out).mono ?_; rintro e w3 ⟨rfl, hd⟩; have HD := Lib.hid (Below.next HB.out hd.below); clear hd) | fail)
      go_ret
      exact ⟨ret_bool2 HF.out.symm, HD.out⟩
    · have d2 : decide ((n : Int) ≤ 160) = false := decide_eq_false (by omega)
      have HF := Lib.hid (sv_n (zs := zs) (m := m) hx1 hx2)
      clear hx1 hx2 HSF
      go_enter Try.func43, Try.ntmps43
      go_wp2_with (first | (go_at_call 82; refine (HNM.out _).mono ?_; rintro e w2 ⟨rfl, hb⟩; subst hb; have HB : Hid (Below w.heap.size w w) := Lib.hid (Below.refl _ _)) | fail)
      go_ret
      exact ⟨ret_bool2 HF.out.symm, HB.out⟩
  | false =>
    rw [hx1] at HNM
    have HF := Lib.hid (sv_s (n := n) (zs := zs) (m := m) hx1)
    clear hx1 HSF
    go_enter Try.func43, Try.ntmps43
    go_wp2_with (first | (go_at_call 82; refine (HNM.out _).mono ?_; rintro e w2 ⟨rfl, hb⟩; subst hb; have HB : Hid (Below w.heap.size w w) := Lib.hid (Below.refl _ _)) | fail)
    go_ret
    exact ⟨ret_bool2 HF.out.symm, HB.out⟩
/-- A row that has grown by an append. -/
theorem zgrowo {w W w2 : World} {p o N N2 : Nat} {v1 v2 x y z : Value} {l1 : List UInt8} (l2 : List UInt8) {xs : List Value} {ob : Obj} (e : xs = Lib.byteCells l2) (h3 : Sv3o w p o x y z) (hO : Zrow w.heap.size W v1 N l1) (hW : Below w.heap.size w W) (h1 : w2.ownsRow w.heap.size 5 1 v2 N2 (Lib.byteCells l1 ++ xs)) (h2 : (W.alloc ob).grownBy w2 v1.ownBlock) :
    Hid (Zrow w.heap.size w2 v2 N2 (l1 ++ l2)) ∧ Hid (Below w.heap.size w w2) ∧ w2.cell? ⟨p, o, none⟩ = some x ∧ w2.cell? ⟨p, o + 1, none⟩ = some y ∧ w2.cell? ⟨p, o + 2, none⟩ = some z := by
  subst e
  have hB : Below w.heap.size w w2 := Below.grown (hW.alloc hW.size ob) h2 (by have := hW.size; simp; omega) (own_block hO)
  obtain ⟨_, h4, h5, h6⟩ := h3.below hB h3.1
  exact ⟨Lib.hid (by unfold Zrow; rw [Lib.byteCells_append]; exact h1), Lib.hid hB, h4, h5, h6⟩
theorem zgrowDo {w W w2 : World} {p o N N2 : Nat} {v1 v2 x y z : Value} {l1 : List UInt8} (l2 : List UInt8) {xs : List Value} {ob : Obj} (e : xs = Lib.byteCells l2) (h3 : Sv3o w p o x y z) (hO : Zrow w.heap.size W v1 N l1) (hW : Below w.heap.size w W) (h1 : w2.ownsRow w.heap.size 5 1 v2 N2 (Lib.byteCells l1 ++ xs)) (h2 : (W.alloc ob).drew.grownBy w2 v1.ownBlock) :
    Hid (Zrow w.heap.size w2 v2 N2 (l1 ++ l2)) ∧ Hid (Below w.heap.size w w2) ∧ w2.cell? ⟨p, o, none⟩ = some x ∧ w2.cell? ⟨p, o + 1, none⟩ = some y ∧ w2.cell? ⟨p, o + 2, none⟩ = some z := by
  subst e
  have hB : Below w.heap.size w w2 := Below.grown (hW.alloc hW.size ob).drew h2 (by have := hW.size; show _ ≤ ((W.alloc ob).heap.size); simp; omega) (own_block hO)
  obtain ⟨_, h4, h5, h6⟩ := h3.below hB h3.1
  exact ⟨Lib.hid (by unfold Zrow; rw [Lib.byteCells_append]; exact h1), Lib.hid hB, h4, h5, h6⟩
set_option maxRecDepth 100000 in
set_option maxHeartbeats 8000000 in
theorem sts_specO (p o : Nat) (nm : List UInt8) (a : Option Addr) (n cap : Nat) (f : Nat → Bool) (b : Option Addr) (m capb : Nat) (zs : List Nat) (w : World) (ha : BRow w a n f) (hb : FRow w b m zs) (hz : Wf zs m) (hnm : 1 ≤ nm.length ∧ nm.length ≤ 8) (hn : n ≤ 160) (hm : m ≤ 160) (h3 : Sv3o w p o (.string (txB nm)) (.slice a n cap) (.slice b m capb)) :
    Calls Try.prog 44 #[.pointer (some ⟨p, o, none⟩)] w fun e w' => e = .returned (.string (txB (stA nm f n zs m))) ∧ Below w.heap.size w w' := by
  obtain ⟨i0, hi, hz0, hz1, hz2⟩ := info_parts (P := Try.prog) (e := 5) (z := .int .u8 0) (size := 1) (bytes := 1) (by kernel_rfl)
  obtain ⟨hnm1, hnm8⟩ := hnm
  have hts := txB_size nm
  have HPRE : Hid (∀ k, Zs.pre nm f n (stX zs) k = [83, 70, 84, 49] ++ [UInt8.ofNat nm.length] ++ nm ++ [UInt8.ofNat n] ++ Zs.bl f n ++ [UInt8.ofNat k] ++ Zs.sb (stX zs) k) := Lib.hid (fun k => by unfold Zs.pre; rfl)
  have HA := Lib.hid ha
  have HF := Lib.hid hb
  have HZ := Lib.hid hz
  have H3 := Lib.hid h3
  have hpl := h3.1
  obtain ⟨_, hk0, hk1, hk2⟩ := H3.out
  have hcv := fun W : World => run_bytes_of_string (P := Try.prog) W 9 77 5 (txB nm) Try.underlying9 Try.underlying77 Try.underlying5
  have hcc := Go.Joins.run_convert_bytes_const_at (P := Try.prog) w 77 5 #[.int .u8 83, .int .u8 70, .int .u8 84, .int .u8 49] 4 4 w.heap.size rfl Try.underlying77 Try.underlying5
  have HLC := Lib.hid (lit4_cells w 5 (4, 5))
  have HNW := Lib.hid (news_one (w.alloc (.cells #[.int .u8 83, .int .u8 70, .int .u8 84, .int .u8 49] 5 (4, 5))) (w.heap.size + 1) (.int .u8 (nm.length : Int)) 5 (by simp))
  have HW0 := Lib.hid (below_alloc w (.cells #[.int .u8 83, .int .u8 70, .int .u8 84, .int .u8 49] 5 (4, 5)))
  have HST1 : Hid (∀ (v1 : Value) (w1 : World), w1.ownsRow ((w.alloc (.cells #[.int .u8 83, .int .u8 70, .int .u8 84, .int .u8 49] 5 (4, 5))).alloc (.cells #[.int .u8 (nm.length : Int)] 5)).heap.size 5 1 v1 (4 + 1) ([.int .u8 83, .int .u8 70, .int .u8 84, .int .u8 49] ++ [.int .u8 (nm.length : Int)]) → ((w.alloc (.cells #[.int .u8 83, .int .u8 70, .int .u8 84, .int .u8 49] 5 (4, 5))).alloc (.cells #[.int .u8 (nm.length : Int)] 5)).grownBy w1 none →
      Hid (Zrow w.heap.size w1 v1 5 ([83, 70, 84, 49] ++ [UInt8.ofNat nm.length])) ∧ Hid (Below w.heap.size w w1) ∧ w1.cell? ⟨p, o, none⟩ = some (.string (txB nm)) ∧ w1.cell? ⟨p, o + 1, none⟩ = some (.slice a n cap) ∧ w1.cell? ⟨p, o + 2, none⟩ = some (.slice b m capb)) := Lib.hid (fun v1 w1 h1 h2 => by
    have hB : Below w.heap.size w w1 := Below.grown ((HW0.out.alloc (by simp) (.cells #[.int .u8 (nm.length : Int)] 5))) h2 (by simp; omega) (fun k hk => by cases hk)
    obtain ⟨_, h4, h5, h6⟩ := H3.out.below hB hpl
    exact ⟨Lib.hid (Zrow.push (l := [83, 70, 84, 49]) (World.ownsRow.mono h1 (by simp; omega)) (show nm.length < 256 by omega)), Lib.hid hB, h4, h5, h6⟩)
  clear ha hb hz h3
  go_enter Try.func44, Try.ntmps44
  go_wp2_with (first | (at_builtin; refine wpList_append_grows _ rfl _ _ 77 rfl 5 i0 (.int .u8 0) 1 1 Try.underlying77 hi hz0 hz1 hz2 rfl (by omega) (some ⟨w.heap.size, 0, none⟩) 4 4 [.int .u8 83, .int .u8 70, .int .u8 84, .int .u8 49] rfl (by intro e; cases e) rfl (HLC.out _) ⟨w.heap.size + 1, 0, none⟩ 1 1 [.int .u8 (nm.length : Int)] rfl rfl HNW.out (by simp [Value.oneCell']) (by omega) (by unfold maxLen; omega) (by omega) ?_; intro v1 w1 hown1 hgrow; obtain ⟨HO1, HW1, hq0, hq1, hq2⟩ := HST1.out v1 w1 hown1 hgrow; clear hown1 hgrow) | (at_builtin; refine wpList_append_lies _ rfl _ _ 77 rfl w.heap.size 5 i0 (.int .u8 0) 1 1 Try.underlying77 hi hz0 hz1 hz2 rfl (by omega) v1 (5) _ rfl (World.ownsRow.alloc HO1.out _) ⟨w1.heap.size, 0, none⟩ nm.length _ (Lib.byteCells nm) rfl (bc_len1 nm) (news_bytes w1 nm _ _ _) (bc_cells nm) (by omega) (by unfold maxLen; omega) (by omega) (by have := HW1.out.size; simp; omega) (w1.heap.size + 1) (by simp) ?_; intro g2 c2 w2 hown2 hgrow2 _ _; obtain ⟨HO2, HW2, hr0, hr1, hr2⟩ := zgrowDo nm rfl H3.out HO1.out HW1.out hown2 hgrow2; clear hown2 hgrow2) | (at_builtin; refine wpList_append_lies _ rfl _ _ 77 rfl w.heap.size 5 i0 (.int .u8 0) 1 1 Try.underlying77 hi hz0 hz1 hz2 rfl (by omega) (.slice (some ⟨g2, 0, none⟩) (5 + nm.length) c2) (5 + nm.length) _ rfl (World.ownsRow.alloc HO2.out _) ⟨w2.heap.size, 0, none⟩ 1 _ [.int .u8 (n : Int)] rfl rfl (news_one _ _ _ _ rfl) (by simp [Value.oneCell']) (by omega) (by unfold maxLen; omega) (by omega) (by have := HW2.out.size; simp; omega) (w2.heap.size + 1) (by simp) ?_; intro g3 c3 w3 hown2 hgrow2 _ _; obtain ⟨HO3, HW3, ht0, ht1, ht2⟩ := zgrowo [UInt8.ofNat n] (bc_one n (by omega)).symm H3.out HO2.out HW2.out hown2 hgrow2; clear hown2 hgrow2) | fail)
  generalize hL0 : ([83, 70, 84, 49] : List UInt8) ++ [UInt8.ofNat nm.length] ++ nm ++ [UInt8.ofNat n] = L0 at HO3
  have HL0 := Lib.hid hL0
  generalize hN0 : 5 + nm.length + 1 = N0 at HO3 ⊢
  have hN14 : N0 ≤ 14 := by omega
  clear hL0 hN0 hq0 hq1 hq2 hr0 hr1 hr2 ht0 ht1 ht2 hcv hcc HLC HNW HST1
  obtain ⟨J, hJ⟩ : ∃ J, (n + 7) / 8 = J := ⟨_, rfl⟩
  go_loopw [3, 4] (fun v0 iv w' => ∃ (j : Nat) (v : Value) (wr : World), j ≤ J ∧ v = v0 ∧ iv = .int .i64 ((8 * j : Nat) : Int) ∧ wr = w' ∧ Hid (Zrow w.heap.size wr v (N0 + j) (L0 ++ Zs.blF f n j)) ∧ Hid (Below w.heap.size w wr)) (fun _ iv _ => 8 * J + 8 - (intOf iv).toNat)
  case atStart => exact ⟨0, _, _, by omega, rfl, rfl, rfl, Lib.hid (by show Zrow _ _ _ N0 (L0 ++ []); rw [List.append_nil]; exact HO3.out), HW3⟩
  case round =>
    obtain ⟨j, v, wr, hj, rfl, rfl, rfl, HO, HW⟩ := hrel
    obtain ⟨_, hk0, hk1, hk2⟩ := H3.out.below HW.out H3.out.1
    by_cases hlt : j < J
    · have hd : decide (((8 * j : Nat) : Int) < (n : Int)) = true := decide_eq_true (by omega)
      have hd2 : decide (8 * j < n) = true := decide_eq_true (by omega)
      have hj20 : 8 * j < 160 := by omega
      have HJ8 : Hid ((8 * (j + 1) : Nat) = 8 * j + 8) := Lib.hid (by omega)
      have HBL : Hid (Zs.blF f n (j + 1) = Zs.blF f n j ++ [UInt8.ofNat (Zs.bb f n j)]) := Lib.hid rfl
      have HHR : Hid (∀ c, Zs.hr (Zs.gb f n j) (c + 1) = 2 * Zs.hr (Zs.gb f n j) c + if Zs.gb f n j (7 - c) = true then 1 else 0) := Lib.hid (fun c => rfl)
      have HHL := Lib.hid (Zs.hr_lt (Zs.gb f n j))
      have HHB := Lib.hid (Zs.hr_bb f n j)
      have HGB : Hid (∀ k, Zs.gb f n j k = (decide (8 * j + k < n) && f (8 * j + k))) := Lib.hid (fun k => rfl)
      have HH0 : Hid (Zs.hr (Zs.gb f n j) 0 = 0) := Lib.hid rfl
      obtain ⟨I, hI⟩ : ∃ I, 8 * j = I := ⟨_, rfl⟩
      have HI := Lib.hid hI
      rw [hI] at hd hd2 hj20 ⊢
      clear hI
      go_wp2
      go_loopw [5, 6] (fun xv kv w' => ∃ c : Nat, c ≤ 8 ∧ xv = .int .u8 ((Zs.hr (Zs.gb f n j) c : Nat) : Int) ∧ kv = .int .i64 (7 - (c : Int)) ∧ wr = w') (fun _ kv _ => (intOf kv + 1).toNat)
      case atStart => exact ⟨0, by omega, by rw [HH0.out]; rfl, rfl, rfl⟩
      case round =>
        obtain ⟨c, hc, rfl, rfl, hw⟩ := hrel
        subst hw
        by_cases hc8 : c < 8
        · obtain ⟨k, hk⟩ : ∃ k : Nat, 7 - (c : Int) = (k : Int) := ⟨7 - c, by omega⟩
          have hk7 : 7 - c = k := by omega
          have hh := HHL.out c
          have hp7 : 2 ^ c ≤ 2 ^ 7 := Nat.pow_le_pow_right (by decide) (by omega)
          have HS1 := Lib.hid (HHR.out c)
          rw [hk7, HGB.out, HI.out] at HS1
          have hkm : (7 : Int) - ((c + 1 : Nat) : Int) = (k : Int) - 1 := by omega
          have HKM := Lib.hid hkm
          have hx128 : Zs.hr (Zs.gb f n j) c < 128 := by omega
          have hms : (k : Int) - 1 + 1 = (k : Int) := by omega
          rw [hk]
          generalize Zs.hr (Zs.gb f n j) c = x at HS1 hx128 ⊢
          clear hh hp7 hkm hk7
          by_cases hin : I + k < n
          · obtain ⟨b1, o1, rfl, hck⟩ := (HA.out.below HW.out).cell hin
            have hde : decide ((I : Int) + (k : Int) < (n : Int)) = true := decide_eq_true (by omega)
            have hde2 : decide (I + k < n) = true := decide_eq_true hin
            rw [hde2, Bool.true_and] at HS1
            cases hfk : f (I + k) with
            | true =>
              rw [hfk] at hck
              rw [hfk, if_pos rfl] at HS1
              clear hfk
              go_wp2
              exact ⟨⟨c + 1, by omega, by rw [HS1.out]; first | rfl | (congr 1; omega), by rw [HKM.out], by first | rfl | trivial⟩, by simp [intOf]⟩
            | false =>
              rw [hfk] at hck
              rw [hfk, if_neg (by decide)] at HS1
              clear hfk
              go_wp2
              exact ⟨⟨c + 1, by omega, by rw [HS1.out]; first | rfl | (congr 1; omega), by rw [HKM.out], by first | rfl | trivial⟩, by simp [intOf]⟩
          · have hde : decide ((I : Int) + (k : Int) < (n : Int)) = false := decide_eq_false (by omega)
            have hde2 : decide (I + k < n) = false := decide_eq_false hin
            rw [hde2, Bool.false_and, if_neg (by decide)] at HS1
            go_wp2
            exact ⟨⟨c + 1, by omega, by rw [HS1.out]; first | rfl | (congr 1; omega), by rw [HKM.out], by first | rfl | trivial⟩, by simp [intOf]⟩
        · obtain rfl : c = 8 := by omega
          rw [HHB.out]
          have hbl := Zs.bb_lt f n j
          have hk9 : (7 : Int) - ((8 : Nat) : Int) = -1 := by omega
          rw [hk9]
          generalize Zs.bb f n j = x at HBL hbl ⊢
          go_wp2_with (first | (at_builtin; refine wpList_append_lies _ rfl _ _ 77 rfl w.heap.size 5 i0 (.int .u8 0) 1 1 Try.underlying77 hi hz0 hz1 hz2 rfl (by omega) v (N0 + j) _ rfl (World.ownsRow.alloc HO.out _) ⟨wr.heap.size, 0, none⟩ 1 _ [.int .u8 (x : Int)] rfl rfl (news_one _ _ _ _ rfl) (by simp [Value.oneCell']) (by omega) (by unfold maxLen; omega) (by omega) (by have := HW.out.size; simp; omega) (wr.heap.size + 1) (by simp) ?_; intro g9 c9 w9 hown2 hgrow2 _ _; obtain ⟨HO9, HW9, hz90, hz91, hz92⟩ := zgrowo [UInt8.ofNat x] (bc_one x hbl).symm H3.out HO.out HW.out hown2 hgrow2; clear hown2 hgrow2) | fail)
          exact ⟨⟨j + 1, _, w9, by omega, rfl, by rw [HJ8.out, HI.out]; first | rfl | go_num, rfl, Lib.hid (by rw [HBL.out, ← List.append_assoc]; exact HO9.out), HW9⟩, by have := HI.out; simp [intOf]; omega⟩
    · obtain rfl : j = J := by omega
      clear hk0 hk1 hk2
      have hd : decide (((8 * j : Nat) : Int) < (n : Int)) = false := decide_eq_false (by omega)
      have hd2 : decide (8 * j < n) = false := decide_eq_false (by omega)
      have hnl : ¬ 8 * j < n := by omega
      obtain ⟨_, hk0, hk1, hk2⟩ := H3.out.below HW.out H3.out.1
      have hJ20 : j ≤ 20 := by omega
      obtain ⟨I, hI⟩ : ∃ I, 8 * j = I := ⟨_, rfl⟩
      rw [hI] at hd hd2 hnl ⊢
      clear hI hlt hj
      go_wp2_with (first | (at_builtin; refine wpList_append_lies _ rfl _ _ 77 rfl w.heap.size 5 i0 (.int .u8 0) 1 1 Try.underlying77 hi hz0 hz1 hz2 rfl (by omega) v (N0 + j) _ rfl (World.ownsRow.alloc HO.out _) ⟨wr.heap.size, 0, none⟩ 1 _ [.int .u8 (m : Int)] rfl rfl (news_one _ _ _ _ rfl) (by simp [Value.oneCell']) (by omega) (by unfold maxLen; omega) (by omega) (by have := HW.out.size; simp; omega) (wr.heap.size + 1) (by simp) ?_; intro g5 c5 w5 hown2 hgrow2 _ _; obtain ⟨HO5, HW5, hv50, hv51, hv52⟩ := zgrowo [UInt8.ofNat m] (bc_one m (by omega)).symm H3.out HO.out HW.out hown2 hgrow2; clear hown2 hgrow2) | fail)
      have hL1 : L0 ++ Zs.blF f n j ++ [UInt8.ofNat m] = [83, 70, 84, 49] ++ [UInt8.ofNat nm.length] ++ nm ++ [UInt8.ofNat n] ++ Zs.bl f n ++ [UInt8.ofNat m] := by rw [← HL0.out]; unfold Zs.bl; rw [hJ]
      generalize L0 ++ Zs.blF f n j ++ [UInt8.ofNat m] = L1 at HO5 hL1
      generalize hN1 : N0 + j + 1 = N1 at HO5 ⊢
      have hN1l : N1 ≤ 40 ∧ 1 ≤ N1 := by omega
      have HL1 := Lib.hid hL1
      clear hL1 hN1 hd hd2 hnl hk0 hk1 hk2 hv50 hv51 hv52
      go_loopw [3, 91] (fun v0 iv w' => ∃ (k : Nat) (v5 : Value) (wr5 : World), k ≤ m ∧ v5 = v0 ∧ iv = .int .i64 (k : Int) ∧ wr5 = w' ∧ Hid (Zrow w.heap.size wr5 v5 (N1 + 4 * k) (L1 ++ Zs.sb (stX zs) k)) ∧ Hid (Below w.heap.size w wr5)) (fun _ iv _ => m - (intOf iv).toNat)
      case atStart => exact ⟨0, _, _, by omega, rfl, rfl, rfl, Lib.hid (by show Zrow _ _ _ N1 (L1 ++ []); rw [List.append_nil]; exact HO5.out), HW5⟩
      case round =>
        clear HO HW
        obtain ⟨k, v5, wr5, hk, rfl, rfl, rfl, HO, HW⟩ := hrel
        obtain ⟨_, hk0, hk1, hk2⟩ := H3.out.below HW.out H3.out.1
        by_cases hlt : k < m
        · obtain ⟨b1, o1, rfl, hck⟩ := (HF.out.below HW.out).cell hlt
          have hzk : zs.getD k 0 < 2 ^ 32 := HZ.out k hlt
          have HX : Hid (stX zs k = bitsF (zs.getD k 0)) := Lib.hid rfl
          have HSB : Hid (Zs.sb (stX zs) (k + 1) = Zs.sb (stX zs) k ++ Zs.nb (stX zs k) 4) := Lib.hid rfl
          have HBT := Lib.hid (fun w3 => bits_spec (zs.getD k 0) hzk w3)
          have hql := bitsF_lt hzk
          generalize zs.getD k 0 = z at hck HX HBT hql
          generalize stX zs k = q at HX HSB
          obtain rfl := HX.out
          generalize bitsF z = q at HBT hql HSB
          generalize Zs.sb (stX zs) k = SB at HO HSB
          have HNB := Lib.hid (bc_nb4 (q := q) (by omega))
          have e0 : (q : Int).tmod 256 = ((q % 256 : Nat) : Int) := by rw [Int.tmod_eq_emod_of_nonneg (by omega)]; omega
          have e1 : (q : Int).tdiv 256 = ((q / 256 : Nat) : Int) := by rw [Int.tdiv_eq_ediv_of_nonneg (by omega)]; omega
          have e2 : (q : Int).tdiv 65536 = ((q / 65536 : Nat) : Int) := by rw [Int.tdiv_eq_ediv_of_nonneg (by omega)]; omega
          have e3 : (q : Int).tdiv 16777216 = ((q / 16777216 : Nat) : Int) := by rw [Int.tdiv_eq_ediv_of_nonneg (by omega)]; omega
          have e4 : ((q / 256 : Nat) : Int).tmod 256 = ((q / 256 % 256 : Nat) : Int) := by rw [Int.tmod_eq_emod_of_nonneg (by omega)]; omega
          have e5 : ((q / 65536 : Nat) : Int).tmod 256 = ((q / 65536 % 256 : Nat) : Int) := by rw [Int.tmod_eq_emod_of_nonneg (by omega)]; omega
          have w1' : IntKind.i64.wrap ((q / 256 : Nat) : Int) = ((q / 256 : Nat) : Int) := IntWalk.i64_in _ (by omega)
          have w2' : IntKind.i64.wrap ((q / 65536 : Nat) : Int) = ((q / 65536 : Nat) : Int) := IntWalk.i64_in _ (by omega)
          have w3' : IntKind.i64.wrap ((q / 16777216 : Nat) : Int) = ((q / 16777216 : Nat) : Int) := IntWalk.i64_in _ (by omega)
          have l0 : q % 256 < 256 := Nat.mod_lt _ (by decide)
          have l1 : q / 256 % 256 < 256 := Nat.mod_lt _ (by decide)
          have l2 : q / 65536 % 256 < 256 := Nat.mod_lt _ (by decide)
          have l3 : q / 16777216 < 256 := by omega
          clear hzk HX
          generalize q % 256 = q0 at e0 l0 HNB
          generalize q / 256 % 256 = q1 at e4 l1 HNB
          generalize q / 65536 % 256 = q2 at e5 l2 HNB
          generalize q / 16777216 = q3 at e3 w3' l3 HNB
          generalize q / 256 = q4 at e1 e4 w1'
          generalize q / 65536 = q5 at e2 e5 w2'
          go_wp2_with (first | (go_at_call 84; (with_reducible refine (HBT.out _).mono ?_); rintro e w' ⟨rfl, hw⟩; subst hw) | (at_builtin; refine wpList_append_lies _ rfl _ _ 77 rfl w.heap.size 5 i0 (.int .u8 0) 1 1 Try.underlying77 hi hz0 hz1 hz2 rfl (by omega) v5 (N1 + 4 * k) _ rfl (World.ownsRow.alloc HO.out _) ⟨wr5.heap.size, 0, none⟩ 4 _ [.int .u8 (q0 : Int), .int .u8 (q1 : Int), .int .u8 (q2 : Int), .int .u8 (q3 : Int)] rfl rfl (news_four _ _ _ _ _ _ _ rfl) (by simp [Value.oneCell']) (by omega) (by unfold maxLen; omega) (by omega) (by have := HW.out.size; simp; omega) (wr5.heap.size + 1) (by simp) ?_; intro g6 c6 w6 hown2 hgrow2 _ _; obtain ⟨HO6, HW6, hv60, hv61, hv62⟩ := zgrowo (Zs.nb q 4) HNB.out H3.out HO.out HW.out hown2 hgrow2; clear hown2 hgrow2) | fail)
          exact ⟨⟨k + 1, _, w6, by omega, rfl, by first | rfl | go_num | (congr 1), rfl, Lib.hid (by rw [HSB.out, ← List.append_assoc]; exact HO6.out), HW6⟩, by show m - ((k : Int) + 1).toNat < m - (k : Int).toNat; omega⟩
        · obtain rfl : k = m := by omega
          have hPL : L1 ++ Zs.sb (stX zs) k = stP nm f n zs k := by rw [HL1.out]; exact (HPRE.out k).symm
          rw [hPL] at HO
          obtain ⟨hc1, hc2⟩ := stC_eq nm f n zs k
          have HST : Hid (stA nm f n zs k = stP nm f n zs k ++ Zs.nb (stC nm f n zs k) 2) := Lib.hid rfl
          generalize stC nm f n zs k = c at hc1 hc2 HST
          generalize stP nm f n zs k = PL at HO hc1 HST
          generalize hN6 : N1 + 4 * k = N6 at HO ⊢
          have hN6l : N6 ≤ 700 ∧ 1 ≤ N6 := by omega
          obtain ⟨g5, c5, rfl⟩ := HO.out.form (by omega)
          have htx := HO.out.text
          have hpl5 := HO.out.len
          have HCK : Hid (∀ w3 : World, Calls Try.prog 85 #[.int .i64 0, .string (txB PL)] w3 fun e w' => e = .returned (.int .i64 (c : Int)) ∧ w3 = w') := Lib.hid (fun w3 => by have := check_spec 0 (txB PL) w3 (by decide) (by decide) (by rw [txB_size]; unfold maxLen; omega); rw [txB_toList, hc1] at this; exact this)
          have HNB := Lib.hid (bc_nb2 (q := c) (by omega))
          have e0 : (c : Int).tmod 256 = ((c % 256 : Nat) : Int) := by rw [Int.tmod_eq_emod_of_nonneg (by omega)]; omega
          have e1 : (c : Int).tdiv 256 = ((c / 256 : Nat) : Int) := by rw [Int.tdiv_eq_ediv_of_nonneg (by omega)]; omega
          have w1' : IntKind.i64.wrap ((c / 256 : Nat) : Int) = ((c / 256 : Nat) : Int) := IntWalk.i64_in _ (by omega)
          have l0 : c % 256 < 256 := Nat.mod_lt _ (by decide)
          have l1 : c / 256 < 256 := by omega
          generalize c % 256 = q0 at e0 l0 HNB
          generalize c / 256 = q1 at e1 w1' l1 HNB
          clear hPL hc1 hN6 HL1 HPRE HL0 hpl5
          go_wp2_with (first | (go_at_call 85; (with_reducible refine (HCK.out _).mono ?_); rintro e w' ⟨rfl, hw⟩; subst hw) | (at_builtin; refine wpList_append_lies _ rfl _ _ 77 rfl w.heap.size 5 i0 (.int .u8 0) 1 1 Try.underlying77 hi hz0 hz1 hz2 rfl (by omega) (.slice (some ⟨g5, 0, none⟩) N6 c5) (N6) _ rfl (World.ownsRow.alloc HO.out _) ⟨wr5.heap.size, 0, none⟩ 2 _ [.int .u8 (q0 : Int), .int .u8 (q1 : Int)] rfl rfl (news_two _ _ _ _ _ rfl) (by simp [Value.oneCell']) (by omega) (by unfold maxLen; omega) (by omega) (by have := HW.out.size; simp; omega) (wr5.heap.size + 1) (by simp) ?_; intro g7 c7 w7 hown2 hgrow2 _ _; obtain ⟨HO7, HW7, hv70, hv71, hv72⟩ := zgrowo (Zs.nb c 2) HNB.out H3.out HO.out HW.out hown2 hgrow2; clear hown2 hgrow2; have htx7 := HO7.out.text) | fail)
          go_ret
          exact ⟨by rw [HST.out]; rfl, HW7.out⟩
end Go.Proofs.Ytnljabgkaelplaa
