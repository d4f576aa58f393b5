/- SurpriseCode: the functions. -/
import Derived.Test.YtiajpmfdaooefaaSuf
namespace Go.Proofs.Ytiajpmfdaooefaa.Su
open Go.Proofs.Ytiajpmfdaooefaa.Flo Go.Proofs.Ytiajpmfdaooefaa Go.RowKit

def sxL (zs : List Nat) : Nat → List Int
  | 0 => []
  | k + 1 => sxL zs k ++ [LI (surX (zs.getD k 0))]
def ssL (zs : List Nat) : Nat → List Int
  | 0 => []
  | k + 1 => ssL zs k ++ [(LS (surX (zs.getD k 0)) : Int)]
theorem sxL_len (zs : List Nat) : ∀ k, (sxL zs k).length = k
  | 0 => rfl
  | k + 1 => by unfold sxL; rw [List.length_append, sxL_len zs k]; rfl
theorem ssL_len (zs : List Nat) : ∀ k, (ssL zs k).length = k
  | 0 => rfl
  | k + 1 => by unfold ssL; rw [List.length_append, ssL_len zs k]; rfl
theorem sxL_get (zs : List Nat) {j : Nat} : ∀ k, j < k → (sxL zs k).getD j 0 = LI (surX (zs.getD j 0))
  | 0, h => by omega
  | k + 1, h => by
    unfold sxL
    rw [List.getD_eq_getElem?_getD]
    by_cases e : j < k
    · rw [List.getElem?_append_left (by rw [sxL_len]; exact e), ← List.getD_eq_getElem?_getD]; exact sxL_get zs k e
    · obtain rfl : j = k := by omega
      rw [List.getElem?_append_right (by rw [sxL_len]; exact Nat.le_refl _), sxL_len, Nat.sub_self]; rfl
theorem ssL_get (zs : List Nat) {j : Nat} : ∀ k, j < k → (ssL zs k).getD j 0 = (LS (surX (zs.getD j 0)) : Int)
  | 0, h => by omega
  | k + 1, h => by
    unfold ssL
    rw [List.getD_eq_getElem?_getD]
    by_cases e : j < k
    · rw [List.getElem?_append_left (by rw [ssL_len]; exact e), ← List.getD_eq_getElem?_getD]; exact ssL_get zs k e
    · obtain rfl : j = k := by omega
      rw [List.getElem?_append_right (by rw [ssL_len]; exact Nat.le_refl _), ssL_len, Nat.sub_self]; rfl
def surP (zs : List Nat) (n : Nat) : Prop := ∀ k, k < n → surB (zs.getD k 0) = true
instance (zs : List Nat) (n : Nat) : Decidable (surP zs n) := by unfold surP; infer_instance
theorem lists_same {zs : List Nat} : ∀ n, surP zs n → ssL zs n = sxL zs n ∨ ∃ k, k < n ∧ 33 ≤ LS (surX (zs.getD k 0)) ∧ 33 ≤ LI (surX (zs.getD k 0))
  | 0, _ => .inl rfl
  | n + 1, h => by
    rcases lists_same n (fun k hk => h k (by omega)) with e | ⟨k, hk, e⟩
    · rcases long_same (surX_le (h n (by omega))).2 with e2 | e2
      · exact .inr ⟨n, by omega, e2⟩
      · left
        unfold ssL sxL
        rw [e, e2]
    · exact .inr ⟨k, by omega, e⟩
theorem codes_same {zs : List Nat} {n : Nat} (h : surP zs n) : codeB (ssL zs n) n = codeB (sxL zs n) n ∧ (codeB (sxL zs n) n = true → ssL zs n = sxL zs n) := by
  rcases lists_same n h with e | ⟨k, hk, e1, e2⟩
  · rw [e]; exact ⟨rfl, fun _ => rfl⟩
  · have h1 : codeB (ssL zs n) n = false := code_no hk (by rw [ssL_get zs n hk]; omega)
    have h2 : codeB (sxL zs n) n = false := code_no hk (by rw [sxL_get zs n hk]; omega)
    rw [h1, h2]
    exact ⟨rfl, fun e => by cases e⟩
theorem irow_set {w : World} {g o n p : Nat} {zs : List Int} (h : IRow w (some ⟨g, o, none⟩) n zs) (hp : p ≠ g) (v : Value) : IRow (w.setCell ⟨p, 0, none⟩ v) (some ⟨g, o, none⟩) n zs := by
  obtain ⟨hl, h⟩ := h
  refine ⟨hl, ?_⟩
  rcases h with h | ⟨b, o2, e, hb, hc⟩
  · exact .inl h
  · refine .inr ⟨b, o2, e, by rw [World.size_setCell]; exact hb, fun i hi => ?_⟩
    have hbg : b = g := by injection e with e; injection e with e1; exact e1.symm
    rw [World.cell?_setCell_other (h := fun e2 => by injection e2 with e3; exact hp (e3.trans hbg))]
    exact hc i hi
theorem new_set {w w6 : World} {g n p : Nat} {zs : List Int} (h1 : w.heap.size ≤ g) (h2 : g < w6.heap.size) (hr : IRow w6 (some ⟨g, 0, none⟩) n zs) (hf : ∀ j, j < n → w6.frozen? ⟨g, j, none⟩ = false) (hb : Below w.heap.size w w6) (hp : p ≠ g) (hp2 : w.heap.size ≤ p) (v : Value) : New w (w6.setCell ⟨p, 0, none⟩ v) g (.il n zs) :=
  ⟨h1, by rw [World.size_setCell]; exact h2, Ent.il_ok (irow_set hr hp v) (fun j hj => by rw [World.frozen?_setCell]; exact hf j hj), hb.setCell hp2 v⟩
def SuPost (B : Bool) (L : List Int) (n : Nat) (w : World) (e : Ending) (w' : World) : Prop :=
  (B = true ∧ ∃ g cp, e = .returned (.tuple #[.agg #[.slice (some ⟨g, 0, none⟩) n cp], .bool true]) ∧ New w w' g (.il n L)) ∨ (B = false ∧ e = .returned (.tuple #[.agg #[.slice none 0 0], .bool false]) ∧ Below w.heap.size w w')
set_option maxRecDepth 100000 in
set_option maxHeartbeats 4000000 in
theorem scI (a : Option Addr) (n cap : Nat) (zs : List Nat) (w : World) (h : FRow w a n zs) (hn : n ≤ 1048576) (hrow : rowB zs n = true) : Calls Try.prog 48 #[.slice a n cap] w (SuPost (decide (surP zs n) && codeB (sxL zs n) n) (sxL zs n) n w) := by
  obtain ⟨i0, hi, hz0, hz1, hz2⟩ := info_parts Try.info64
  have HA0 := Lib.hid (h.alloc (.cells #[.slice none 0 0] 27))
  have HR0 := Lib.hid (CIn.new w (.slice none 0 0) 27)
  have hn1 : 1 ≤ n := by
    unfold rowB at hrow
    rw [Bool.and_eq_true] at hrow
    exact (of_decide_eq_true hrow.1).1
  have hn32 : n ≤ 32 := by
    unfold rowB at hrow
    rw [Bool.and_eq_true] at hrow
    exact (of_decide_eq_true hrow.1).2
  obtain ⟨B, hB⟩ : ∃ B, B = (decide (surP zs n) && codeB (sxL zs n) n) := ⟨_, rfl⟩
  rw [← hB]
  have HB := Lib.hid hB
  clear h hB
  go_enter Try.func48, Try.ntmps48
  go_wp2_with (first | (go_at_call 65; refine (row_impl a n cap zs _ HA0.out hn).mono ?_; rintro e w1 ⟨rfl, hd⟩; have HD1 := Lib.hid hd; clear hd) | go_in)
  have HR := Lib.hid (HR0.out.below HD1.out.below)
  have HA := Lib.hid (HA0.out.below HD1.out.below)
  have HW1 : Hid (Below w.heap.size w w1) := Lib.hid (Below.next (below_alloc _ _) HD1.out.below)
  clear HR0 HA0 HD1 hrow
  go_loopw [4, 15] (fun v0 iv wr0 => ∃ (k : Nat) (v : Value) (wr : World), k ≤ n ∧ v = v0 ∧ iv = .int .i64 k ∧ wr = wr0 ∧ Hid (surP zs k) ∧ Hid (wr.ownsRow w1.heap.size 2 1 v k ((sxL zs k).map (Value.int .i64))) ∧ Hid (Below w1.heap.size w1 wr)) (fun _ iv _ => n - (intOf iv).toNat)
  case atStart => exact ⟨0, _, _, by omega, rfl, rfl, rfl, Lib.hid (by intro j hj; omega), Lib.hid (World.ownsRow_nil _ _ _ _), Lib.hid (Below.refl _ _)⟩
  case round =>
    obtain ⟨k, v, wr, hk, rfl, rfl, rfl, HP, HO, HW⟩ := hrel
    by_cases hlt : k < n
    · obtain ⟨b1, o1, rfl, hck1⟩ := (HA.out.below HW.out).cell hlt
      have HLK : Hid (sxL zs (k + 1) = sxL zs k ++ [LI (surX (zs.getD k 0))]) := Lib.hid rfl
      cases hsb : surB (zs.getD k 0) with
      | true =>
        have HSB := Lib.hid hsb
        have HPN : Hid (surP zs (k + 1)) := Lib.hid (fun j hj => by
          by_cases e : j < k
          · exact HP.out j e
          · obtain rfl : j = k := by omega
            exact hsb)
        have HX := Lib.hid (surX_le hsb).2
        clear hsb
        obtain ⟨R, hR⟩ : ∃ R, R = sxL zs k := ⟨_, rfl⟩
        rw [← hR] at HLK
        have HO1 : Hid (wr.ownsRow w1.heap.size 2 1 v k ((R).map (Value.int .i64))) := Lib.hid (by rw [hR]; exact HO.out)
        clear hR HO
        generalize zs.getD k 0 = z at hck1 HSB HX HLK
        go_wp2_with (first | (go_at_call 86; refine (su_impl z _ HSB.out).mono ?_; rintro e w4 ⟨rfl, hd⟩; have HD4 := Lib.hid hd; clear hd) | fail)
        have HOv : Hid (w4.ownsRow w1.heap.size 2 1 v k ((R).map (Value.int .i64))) := Lib.hid (by obtain ⟨q, e⟩ := HD4.out; rw [e]; exact HO1.out)
        have HWv : Hid (Below w1.heap.size w1 w4) := Lib.hid (Below.next HW.out HD4.out.below)
        have HGL := Lib.hid HWv.out.size
        have HNE0 : Hid (∀ b, v.ownBlock = some b → w1.heap.size ≤ b) := Lib.hid (own_block HO1.out)
        clear HD4
        go_wp2_with (first | (go_at_call 87; refine (lo_impl _ HX.out _).mono ?_; rintro e w' ⟨rfl, rfl⟩) | (at_builtin; refine wpList_append_lies _ rfl _ _ 22 rfl (w1.heap.size) 2 i0 (.int .i64 0) 1 8 Try.underlying22 hi hz0 hz1 hz2 rfl (by omega) v k ((R).map (Value.int .i64)) rfl (World.ownsRow.alloc HOv.out _) ⟨w4.heap.size, 0, none⟩ 1 1 [.int .i64 (LI (surX z))] rfl rfl (World.news_of_block (cs := #[.int .i64 (LI (surX z))]) (t := 2) (fr := (0, 0)) (heap_alloc_new _ _)) (by simp [Value.oneCell']) (by omega) (by unfold maxLen; omega) (by omega) (by have := HGL.out; first | (simp; done) | (simp; omega)) (w4.heap.size + 1) (by simp) ?_; intro gg cp w5 hown1 hgrow hat hlt2; have HO2 := Lib.hid hown1; have HG2 := Lib.hid hgrow; have HO3 : Hid (w5.ownsRow (w1.heap.size) 2 1 (.slice (some ⟨gg, 0, none⟩) (k + 1) cp) (k + 1) ((R ++ [(LI (surX z) : Int)]).map (Value.int .i64))) := Lib.hid (by rw [app_map2]; exact HO2.out); have HW5 : Hid (Below w1.heap.size w1 w5) := Lib.hid (by first | exact Below.grown (Below.alloc HWv.out HWv.out.size _) HG2.out (by have := HWv.out.size; first | (simp; done) | (simp; omega)) HNE0.out | exact Below.grown (Below.alloc (Below.drewN' HWv.out _) HWv.out.size _) HG2.out (by have := HWv.out.size; first | (simp; done) | (simp; omega)) HNE0.out); clear hown1 hgrow hat hlt2) | go_in)
        exact ⟨⟨k + 1, _, _, by omega, rfl, by first | rfl | go_num | (congr 1), rfl, HPN, Lib.hid (by rw [HLK.out]; exact HO3.out), HW5⟩, by show n - ((k : Int) + 1).toNat < n - (k : Int).toNat; omega⟩
      | false =>
        have HSB := Lib.hid hsb
        have HBF : Hid (B = false) := Lib.hid (by
          rw [HB.out, decide_eq_false (fun e => by have := e k hlt; rw [hsb] at this; cases this)]; rfl)
        clear hsb
        generalize zs.getD k 0 = z at hck1 HSB
        go_wp2_with (first | (go_at_call 86; refine (sur_impl' z _ HSB.out).mono ?_; rintro e w4 ⟨rfl, hd⟩; obtain ⟨hl1, hr1, hr2⟩ := HR.out.below (Below.next HW.out hd.below); have HPT := Lib.hid ((HR.out.below (Below.next HW.out hd.below)).put (.slice none 0 0)); have HWF : Hid (Below w.heap.size w w4) := Lib.hid (Below.next HW1.out (Below.next HW.out hd.below)); clear hd) | fail)
        exact bodyPost_ret (v := .tuple #[.agg #[.slice none 0 0], .bool false]) (by simp [results, Try.results48, go_sem, HPT.out]) rfl
          (.inr ⟨HBF.out, rfl, by repeat (first | exact HWF.out | refine Below.drewN' ?_ _ | refine Below.setCell ?_ (by first | (simp; done) | (simp; omega)) _)⟩)
    · obtain rfl : k = n := by omega
      obtain ⟨g2, cp, rfl, hg, hgl, hir, hfz⟩ := own_irowF HO.out (by omega)
      have HIR := Lib.hid hir
      have HFZ := Lib.hid hfz
      have HBE : Hid (B = codeB (sxL zs k) k) := Lib.hid (by rw [HB.out, decide_eq_true HP.out, Bool.true_and])
      clear hir hfz
      cases hok : codeB (sxL zs k) k with
      | true =>
        go_wp2_with (first | (go_at_call 88; refine (cgIY _ k _ (sxL zs k) _ HIR.out hn hok).mono ?_; rintro e w6 ⟨rfl, hb⟩; have HD6 := Lib.hid hb; obtain ⟨hl1, hr1, hr2⟩ := HR.out.below (Below.next HW.out hb); have HPT := Lib.hid ((HR.out.below (Below.next HW.out hb)).put (.slice (some ⟨g2, 0, none⟩) k cp)); clear hb) | fail)
        have HWF : Hid (Below w.heap.size w w6) := Lib.hid (Below.next HW1.out (Below.next HW.out HD6.out))
        have hne9 : w.heap.size ≠ g2 := by have := HR.out.1; omega
        have HNW := Lib.hid (new_set (p := w.heap.size) (Nat.le_trans HW1.out.size hg) (Nat.lt_of_lt_of_le hgl HD6.out.size) (HIR.out.below HD6.out) (fun j hj => (HD6.out.frozen (p := ⟨g2, j, none⟩) hgl).trans (HFZ.out j hj)) HWF.out hne9 (Nat.le_refl _) (.slice (some ⟨g2, 0, none⟩) k cp))
        exact bodyPost_ret (v := .tuple #[.agg #[.slice (some ⟨g2, 0, none⟩) k cp], .bool true]) (by simp [results, Try.results48, go_sem, HPT.out]) rfl
          (.inl ⟨HBE.out.trans hok, g2, cp, rfl, HNW.out⟩)
      | false =>
        go_wp2_with (first | (go_at_call 88; refine (cgIN _ k _ (sxL zs k) _ HIR.out hn hok).mono ?_; rintro e w6 ⟨rfl, hb⟩; have HD6 := Lib.hid hb; obtain ⟨hl1, hr1, hr2⟩ := HR.out.below (Below.next HW.out hb); have HPT := Lib.hid ((HR.out.below (Below.next HW.out hb)).put (.slice none 0 0)); clear hb) | fail)
        have HWF : Hid (Below w.heap.size w w6) := Lib.hid (Below.next HW1.out (Below.next HW.out HD6.out))
        exact bodyPost_ret (v := .tuple #[.agg #[.slice none 0 0], .bool false]) (by simp [results, Try.results48, go_sem, HPT.out]) rfl
          (.inr ⟨HBE.out.trans hok, rfl, by repeat (first | exact HWF.out | refine Below.drewN' ?_ _ | refine Below.setCell ?_ (by first | (simp; done) | (simp; omega)) _)⟩)
set_option maxRecDepth 100000 in
set_option maxHeartbeats 4000000 in
theorem scS (a : Option Addr) (n cap : Nat) (zs : List Nat) (w : World) (h : FRow w a n zs) (hn : n ≤ 1048576) (hrow : rowB zs n = true) (h16 : n ≤ 16) : Calls Try.prog 47 #[.slice a n cap] w (SuPost (decide (surP zs n) && codeB (ssL zs n) n) (ssL zs n) n w) := by
  obtain ⟨i0, hi, hz0, hz1, hz2⟩ := info_parts Try.info64
  have HA0 := Lib.hid (h.alloc (.cells #[.slice none 0 0] 27))
  have HR0 := Lib.hid (CIn.new w (.slice none 0 0) 27)
  have hn1 : 1 ≤ n := by
    unfold rowB at hrow
    rw [Bool.and_eq_true] at hrow
    exact (of_decide_eq_true hrow.1).1
  have hn32 : n ≤ 32 := by
    unfold rowB at hrow
    rw [Bool.and_eq_true] at hrow
    exact (of_decide_eq_true hrow.1).2
  obtain ⟨B, hB⟩ : ∃ B, B = (decide (surP zs n) && codeB (ssL zs n) n) := ⟨_, rfl⟩
  rw [← hB]
  have HB := Lib.hid hB
  clear h hB
  go_enter Try.func47, Try.ntmps47
  go_wp2_with (first | (go_at_call 63; refine (row_spec a n cap zs _ HA0.out hn).mono ?_; rintro e w1 ⟨rfl, hd⟩; have HD1 := Lib.hid hd; clear hd) | go_in)
  have HR := Lib.hid (HR0.out.below HD1.out.below)
  have HA := Lib.hid (HA0.out.below HD1.out.below)
  have HW1 : Hid (Below w.heap.size w w1) := Lib.hid (Below.next (below_alloc _ _) HD1.out.below)
  clear HR0 HA0 HD1 hrow
  go_loopw [4, 5] (fun v0 iv wr0 => ∃ (k : Nat) (v : Value) (wr : World), k ≤ n ∧ v = v0 ∧ iv = .int .i64 k ∧ wr = wr0 ∧ Hid (surP zs k) ∧ Hid (wr.ownsRow w1.heap.size 2 1 v k ((ssL zs k).map (Value.int .i64))) ∧ Hid (Below w1.heap.size w1 wr)) (fun _ iv _ => n - (intOf iv).toNat)
  case atStart => exact ⟨0, _, _, by omega, rfl, rfl, rfl, Lib.hid (by intro j hj; omega), Lib.hid (own_empty w1 2), Lib.hid (below_alloc _ _)⟩
  case round =>
    obtain ⟨k, v, wr, hk, rfl, rfl, rfl, HP, HO, HW⟩ := hrel
    by_cases hlt : k < n
    · obtain ⟨b1, o1, rfl, hck1⟩ := (HA.out.below HW.out).cell hlt
      have HLK : Hid (ssL zs (k + 1) = ssL zs k ++ [(LS (surX (zs.getD k 0)) : Int)]) := Lib.hid rfl
      cases hsb : surB (zs.getD k 0) with
      | true =>
        have HSB := Lib.hid hsb
        have HPN : Hid (surP zs (k + 1)) := Lib.hid (fun j hj => by
          by_cases e : j < k
          · exact HP.out j e
          · obtain rfl : j = k := by omega
            exact hsb)
        have HX := Lib.hid (surX_le hsb).2
        clear hsb
        obtain ⟨R, hR⟩ : ∃ R, R = ssL zs k := ⟨_, rfl⟩
        rw [← hR] at HLK
        have HO1 : Hid (wr.ownsRow w1.heap.size 2 1 v k ((R).map (Value.int .i64))) := Lib.hid (by rw [hR]; exact HO.out)
        clear hR HO
        generalize zs.getD k 0 = z at hck1 HSB HX HLK
        go_wp2_with (first | (go_at_call 85; refine (su_spec z _ HSB.out).mono ?_; rintro e w4 ⟨rfl, hd⟩; have HD4 := Lib.hid hd; clear hd) | fail)
        have HOv : Hid (w4.ownsRow w1.heap.size 2 1 v k ((R).map (Value.int .i64))) := Lib.hid (by obtain ⟨q, e⟩ := HD4.out; rw [e]; exact HO1.out)
        have HWv : Hid (Below w1.heap.size w1 w4) := Lib.hid (Below.next HW.out HD4.out.below)
        have HGL := Lib.hid HWv.out.size
        have HNE0 : Hid (∀ b, v.ownBlock = some b → w1.heap.size ≤ b) := Lib.hid (own_block HO1.out)
        clear HD4
        generalize surX z = X at HX HLK
        go_wp2
        go_loopw [8] (fun lv w0 => ∃ (m : Nat), m ≤ 199 ∧ lv = .int .i64 ((m : Int) + 1) ∧ w4 = w0 ∧ Hid (∀ j : Nat, j < m → (!(ltK ((j : Int) + 1) X)) = false)) (fun lv _ => 200 - (intOf lv).toNat)
        case atStart => exact ⟨0, by omega, (by first | rfl | trivial), (by first | rfl | trivial), Lib.hid (by intro j hj; omega)⟩
        case round =>
          obtain ⟨m, hm, rfl, rfl, HM⟩ := hrel
          cases hl : ltK ((m : Int) + 1) X with
          | true =>
            have HMN : Hid (∀ j : Nat, j < m + 1 → (!(ltK ((j : Int) + 1) X)) = false) := Lib.hid (fun j hj => by
              by_cases e : j < m
              · exact HM.out j e
              · obtain rfl : j = m := by omega
                rw [hl]; rfl)
            have HLE : Hid (m = 199 → LS X = m + 1) := Lib.hid (fun e => by
              unfold LS
              rw [fk_no (n := 199) (p := fun j => !(ltK ((j : Int) + 1) X)) (by rw [← e]; exact HM.out), e])
            rw [ltK_def] at hl
            by_cases hm2 : m < 199
            · have hd2 : decide ((m : Int) + 1 < 200) = true := decide_eq_true (by omega)
              go_wp2
              exact ⟨⟨m + 1, by omega, (by first | rfl | go_num | (congr 1)), (by first | rfl | trivial), HMN⟩, by show 200 - ((m : Int) + 1 + 1).toNat < 200 - ((m : Int) + 1).toNat; omega⟩
            · have hd2 : decide ((m : Int) + 1 < 200) = false := decide_eq_false (by omega)
              have HLS := Lib.hid (HLE.out (by omega))
              go_wp2_with (first | (at_builtin; refine wpList_append_lies _ rfl _ _ 22 rfl (w1.heap.size) 2 i0 (.int .i64 0) 1 8 Try.underlying22 hi hz0 hz1 hz2 rfl (by omega) v k ((R).map (Value.int .i64)) rfl (World.ownsRow.alloc HOv.out _) ⟨w4.heap.size, 0, none⟩ 1 1 [.int .i64 ((m : Int) + 1)] rfl rfl (World.news_of_block (cs := #[.int .i64 ((m : Int) + 1)]) (t := 2) (fr := (0, 0)) (heap_alloc_new _ _)) (by simp [Value.oneCell']) (by omega) (by unfold maxLen; omega) (by omega) (by have := HGL.out; first | (simp; done) | (simp; omega)) (w4.heap.size + 1) (by simp) ?_; intro gg cp w5 hown1 hgrow hat hlt2; have HO2 := Lib.hid hown1; have HG2 := Lib.hid hgrow; have HO3 : Hid (w5.ownsRow (w1.heap.size) 2 1 (.slice (some ⟨gg, 0, none⟩) (k + 1) cp) (k + 1) ((R ++ [((m : Int) + 1 : Int)]).map (Value.int .i64))) := Lib.hid (by rw [app_map2]; exact HO2.out); have HW5 : Hid (Below w1.heap.size w1 w5) := Lib.hid (by first | exact Below.grown (Below.alloc HWv.out HWv.out.size _) HG2.out (by have := HWv.out.size; first | (simp; done) | (simp; omega)) HNE0.out | exact Below.grown (Below.alloc (Below.drewN' HWv.out _) HWv.out.size _) HG2.out (by have := HWv.out.size; first | (simp; done) | (simp; omega)) HNE0.out); clear hown1 hgrow hat hlt2) | go_in)
              exact ⟨⟨k + 1, _, _, by omega, rfl, by first | rfl | go_num | (congr 1), rfl, HPN, Lib.hid (by rw [HLK.out, HLS.out, Int.natCast_add]; exact HO3.out), HW5⟩, by show n - ((k : Int) + 1).toNat < n - (k : Int).toNat; omega⟩
          | false =>
            have HLS : Hid (LS X = m + 1) := Lib.hid (by
              unfold LS
              by_cases hm2 : m < 199
              · rw [fk_yes (p := fun j => !(ltK ((j : Int) + 1) X)) (k := m) (by show (!(ltK ((m : Int) + 1) X)) = true; rw [hl]; rfl) HM.out hm2]
              · obtain rfl : m = 199 := by omega
                rw [fk_no (n := 199) (p := fun j => !(ltK ((j : Int) + 1) X)) HM.out])
            rw [ltK_def] at hl
            go_wp2_with (first | (at_builtin; refine wpList_append_lies _ rfl _ _ 22 rfl (w1.heap.size) 2 i0 (.int .i64 0) 1 8 Try.underlying22 hi hz0 hz1 hz2 rfl (by omega) v k ((R).map (Value.int .i64)) rfl (World.ownsRow.alloc HOv.out _) ⟨w4.heap.size, 0, none⟩ 1 1 [.int .i64 ((m : Int) + 1)] rfl rfl (World.news_of_block (cs := #[.int .i64 ((m : Int) + 1)]) (t := 2) (fr := (0, 0)) (heap_alloc_new _ _)) (by simp [Value.oneCell']) (by omega) (by unfold maxLen; omega) (by omega) (by have := HGL.out; first | (simp; done) | (simp; omega)) (w4.heap.size + 1) (by simp) ?_; intro gg cp w5 hown1 hgrow hat hlt2; have HO2 := Lib.hid hown1; have HG2 := Lib.hid hgrow; have HO3 : Hid (w5.ownsRow (w1.heap.size) 2 1 (.slice (some ⟨gg, 0, none⟩) (k + 1) cp) (k + 1) ((R ++ [((m : Int) + 1 : Int)]).map (Value.int .i64))) := Lib.hid (by rw [app_map2]; exact HO2.out); have HW5 : Hid (Below w1.heap.size w1 w5) := Lib.hid (by first | exact Below.grown (Below.alloc HWv.out HWv.out.size _) HG2.out (by have := HWv.out.size; first | (simp; done) | (simp; omega)) HNE0.out | exact Below.grown (Below.alloc (Below.drewN' HWv.out _) HWv.out.size _) HG2.out (by have := HWv.out.size; first | (simp; done) | (simp; omega)) HNE0.out); clear hown1 hgrow hat hlt2) | go_in)
            exact ⟨⟨k + 1, _, _, by omega, rfl, by first | rfl | go_num | (congr 1), rfl, HPN, Lib.hid (by rw [HLK.out, HLS.out, Int.natCast_add]; exact HO3.out), HW5⟩, by show n - ((k : Int) + 1).toNat < n - (k : Int).toNat; omega⟩
      | false =>
        have HSB := Lib.hid hsb
        have HBF : Hid (B = false) := Lib.hid (by
          rw [HB.out, decide_eq_false (fun e => by have := e k hlt; rw [hsb] at this; cases this)]; rfl)
        clear hsb
        generalize zs.getD k 0 = z at hck1 HSB
        go_wp2_with (first | (go_at_call 85; refine (sur_spec' z _ HSB.out).mono ?_; rintro e w4 ⟨rfl, hd⟩; obtain ⟨hl1, hr1, hr2⟩ := HR.out.below (Below.next HW.out hd.below); have HPT := Lib.hid ((HR.out.below (Below.next HW.out hd.below)).put (.slice none 0 0)); have HWF : Hid (Below w.heap.size w w4) := Lib.hid (Below.next HW1.out (Below.next HW.out hd.below)); clear hd) | fail)
        exact bodyPost_ret (v := .tuple #[.agg #[.slice none 0 0], .bool false]) (by simp [results, Try.results47, go_sem, HPT.out]) rfl
          (.inr ⟨HBF.out, rfl, by repeat (first | exact HWF.out | refine Below.drewN' ?_ _ | refine Below.setCell ?_ (by first | (simp; done) | (simp; omega)) _)⟩)
    · obtain rfl : k = n := by omega
      obtain ⟨g2, cp, rfl, hg, hgl, hir, hfz⟩ := own_irowF HO.out (by omega)
      have HIR := Lib.hid hir
      have HFZ := Lib.hid hfz
      have HBE : Hid (B = codeB (ssL zs k) k) := Lib.hid (by rw [HB.out, decide_eq_true HP.out, Bool.true_and])
      clear hir hfz
      cases hok : codeB (ssL zs k) k with
      | true =>
        go_wp2_with (first | (go_at_call 69; refine (cgSY _ k _ (ssL zs k) _ HIR.out hn hok).mono ?_; rintro e w6 ⟨rfl, hb⟩; have HD6 := Lib.hid hb; obtain ⟨hl1, hr1, hr2⟩ := HR.out.below (Below.next HW.out hb); have HPT := Lib.hid ((HR.out.below (Below.next HW.out hb)).put (.slice (some ⟨g2, 0, none⟩) k cp)); clear hb) | fail)
        have HWF : Hid (Below w.heap.size w w6) := Lib.hid (Below.next HW1.out (Below.next HW.out HD6.out))
        have hne9 : w.heap.size ≠ g2 := by have := HR.out.1; omega
        have HNW := Lib.hid (new_set (p := w.heap.size) (Nat.le_trans HW1.out.size hg) (Nat.lt_of_lt_of_le hgl HD6.out.size) (HIR.out.below HD6.out) (fun j hj => (HD6.out.frozen (p := ⟨g2, j, none⟩) hgl).trans (HFZ.out j hj)) HWF.out hne9 (Nat.le_refl _) (.slice (some ⟨g2, 0, none⟩) k cp))
        exact bodyPost_ret (v := .tuple #[.agg #[.slice (some ⟨g2, 0, none⟩) k cp], .bool true]) (by simp [results, Try.results47, go_sem, HPT.out]) rfl
          (.inl ⟨HBE.out.trans hok, g2, cp, rfl, HNW.out⟩)
      | false =>
        go_wp2_with (first | (go_at_call 69; refine (cgSN _ k _ (ssL zs k) _ HIR.out hn hok).mono ?_; rintro e w6 ⟨rfl, hb⟩; have HD6 := Lib.hid hb; obtain ⟨hl1, hr1, hr2⟩ := HR.out.below (Below.next HW.out hb); have HPT := Lib.hid ((HR.out.below (Below.next HW.out hb)).put (.slice none 0 0)); clear hb) | fail)
        have HWF : Hid (Below w.heap.size w w6) := Lib.hid (Below.next HW1.out (Below.next HW.out HD6.out))
        exact bodyPost_ret (v := .tuple #[.agg #[.slice none 0 0], .bool false]) (by simp [results, Try.results47, go_sem, HPT.out]) rfl
          (.inr ⟨HBE.out.trans hok, rfl, by repeat (first | exact HWF.out | refine Below.drewN' ?_ _ | refine Below.setCell ?_ (by first | (simp; done) | (simp; omega)) _)⟩)
end Go.Proofs.Ytiajpmfdaooefaa.Su
