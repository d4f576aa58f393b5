
/- ReadNumbers: the model. -/
import Derived.Test.YtkmggoagboikgaaDoorHrw
set_option linter.unusedVariables false
set_option linter.unusedSimpArgs false
namespace Go.Proofs.YtkmggoagboikgaaDoor
open Go.Proofs.YtkmggoagboikgaaDoor.Flo Go.RowKit
theorem get_p (p : ByteArray) (q : Nat) (h : q < p.size) : (p.data.toList.getD q 0).toNat = p[q].toNat := by rw [ba_get p q h]
set_option maxRecDepth 100000 in
set_option maxHeartbeats 16000000 in
theorem rn_spec (s : ByteArray) (hs : s.size ≤ 1048576) (w : World) :
    Calls Tryd.prog 18 #[.string s] w (RlPost s w) := by
  cases hno : isNone s
  · have hno1 : (s.toList == [110, 111, 110, 101]) = false := hno
    have HIS := Lib.hid hno
    have HSP : Hid (∀ W : World, Calls Tryd.prog 26 #[.string s, .int .u8 44] W fun e w' => ∃ v, e = .returned v ∧ Gat w' W.heap.size 9 v (cutL 44 s.data.toList).length (fun i => .string (txB ((cutL 44 s.data.toList).getD i []))) ∧ Below W.heap.size W w') := Lib.hid (fun W => cut_spec s 44 W hs)
    obtain ⟨n, hn⟩ : ∃ n, n = (cutL 44 s.data.toList).length := ⟨_, rfl⟩
    have hn1 : 1 ≤ n := by rw [hn, cutL_len]; omega
    have HSQ : Hid (∀ W : World, Calls Tryd.prog 26 #[.string s, .int .u8 44] W fun e w' => ∃ g cp, e = .returned (.slice (some ⟨g, 0, none⟩) n cp) ∧ W.heap.size ≤ g ∧ TRow w' g n (cutL 44 s.data.toList) ∧ Below W.heap.size W w') := Lib.hid (fun W => (HSP.out W).mono (fun e w' q => by
      obtain ⟨v, he, hg, hb⟩ := q
      rw [← hn] at hg
      obtain ⟨g, cp, rfl, h1, h2, h3⟩ := hg.fin (by omega)
      exact ⟨g, cp, he, h1, ⟨hn.symm, h2, fun j hj => (h3.2 j hj).1⟩, hb⟩))
    have HNN := Lib.hid hn
    clear HSP
    by_cases h64 : n ≤ 256
    · have hd : decide (256 < (n : Int)) = false := decide_eq_false (by omega)
      obtain ⟨i0, hi, hz0, hz1, hz2⟩ := info_parts Tryd.info32L
      obtain ⟨F, hF⟩ : ∃ F, F = rlF (cutL 44 s.data.toList) := ⟨_, rfl⟩
      have HFE := Lib.hid hF
      clear hno hF hn
      go_enter Tryd.func18, Tryd.ntmps18
      go_wp2_with (first | (go_at_call 26; refine (HSQ.out _).mono ?_; rintro e w2 ⟨g, cp, rfl, hgl, ht, hb2⟩; have HT0 := Lib.hid ht; have HB0a := Lib.hid (Below.next (belowD _ _) hb2); have HG0 := Lib.hid (Gat.keep (Gat.empty w 33 F) hb2); have HGL := Lib.hid hgl; clear ht hb2 hgl) | fail)
      have HNG0 : Hid (∀ j, (Value.slice (some ⟨w.heap.size, 0, none⟩) 0 0).ownBlock = some j → j ≠ g) := Lib.hid (by intro j hj; have := HGL.out; simp [Value.ownBlock] at hj; simp at this; omega)
      go_loopw [4, 6] (fun sv iv w' => ∃ (k : Nat) (v : Value) (wr : World), k ≤ n ∧ sv = v ∧ iv = .int .i64 k ∧ wr = w' ∧ Hid (Gat wr w.heap.size 33 v k F) ∧ Hid (Below w.heap.size w wr) ∧ Hid (TRow wr g n (cutL 44 s.data.toList)) ∧ Hid (∀ j, v.ownBlock = some j → j ≠ g) ∧ Hid (∀ j, j < k → rpO ((cutL 44 s.data.toList).getD j []) ≠ none)) (fun _ iv _ => n - (intOf iv).toNat)
      case atStart => exact ⟨0, _, _, by omega, rfl, rfl, rfl, HG0, HB0a, HT0, HNG0, Lib.hid (by intro j hj; omega)⟩
      case round =>
        obtain ⟨k, v, wr, hk, rfl, rfl, rfl, HG, HW, HT, HNG, HV⟩ := hrel
        have HSZ := Lib.hid HW.out.size
        by_cases hlt : k < n
        · have hck := HT.out.2.2 k hlt
          have HKX : Hid (k < (cutL 44 s.data.toList).length) := Lib.hid (by have := HT.out.1; omega)
          have HNE := Lib.hid (Gat.block HG.out)
          obtain ⟨p, hp⟩ : ∃ p, p = txB ((cutL 44 s.data.toList).getD k []) := ⟨_, rfl⟩
          have HPL : Hid ((cutL 44 s.data.toList).getD k [] = p.data.toList) := Lib.hid (by rw [hp, txB_list])
          rw [← hp] at hck
          clear hp
          have hpl : p.data.toList.length = p.size := Array.length_toList
          by_cases h8 : p.size = 8
          · have hd8 : ((p.size : Int) != 8) = false := by simp; omega
            have hd8b : ((p.size : Int) == 8) = true := by simp; omega
            have HL8 : Hid (p.data.toList.length = 8) := Lib.hid (by omega)
            clear hpl
            go_wp2
            go_loopw [7, 8] (fun nv qv w' => ∃ (q m : Nat), q ≤ 8 ∧ nv = .int .i64 (m : Int) ∧ qv = .int .i64 (q : Int) ∧ w' = wr ∧ Hid (hvT p.data.toList q = some m)) (fun _ qv _ => 8 - (intOf qv).toNat)
            case atStart => exact ⟨0, 0, by omega, rfl, rfl, rfl, Lib.hid rfl⟩
            case round =>
              obtain ⟨q, m, hq, rfl, rfl, hwr, HH⟩ := hrel; have hwr := hwr.symm
              subst hwr
              by_cases hq8 : q < 8
              · have hqs : q < p.size := by omega
                have HGT := Lib.hid (ba_get p q hqs)
                have hnl := hvT_lt HH.out
                have hp7 : 16 ^ q ≤ 16 ^ 7 := Nat.pow_le_pow_right (by decide) (by omega)
                have hn7 : m < 268435456 := Nat.lt_of_lt_of_le hnl hp7
                clear hnl hp7
                obtain ⟨x, hx⟩ : ∃ x, (p[q]'hqs).toNat = x := ⟨_, rfl⟩
                have hx256 : x < 256 := by have := (p[q]'hqs).toNat_lt; omega
                by_cases h1 : 48 ≤ x
                · by_cases h2 : x ≤ 57
                  · have h97 : ¬ 97 ≤ x := by omega
                    have d1 : decide ((48 : Int) ≤ (x : Int)) = true := decide_eq_true (by omega)
                    have d1b : decide (48 ≤ x) = true := decide_eq_true (by omega)
                    have d2 : decide ((x : Int) ≤ (57 : Int)) = true := decide_eq_true (by omega)
                    have d2b : decide (x ≤ 57) = true := decide_eq_true (by omega)
                    have d3 : decide ((97 : Int) ≤ (x : Int)) = false := decide_eq_false (by omega)
                    have d3b : decide (97 ≤ x) = false := decide_eq_false (by omega)
                    have hw1 : IntKind.u8.wrap ((x : Int) - 48) = (x : Int) - 48 := by rw [IntKind.wrap_u8]; omega
                    have HN := Lib.hid (hvT_on HH.out (by rw [HGT.out, hx]; exact (show hvO x = some (x - 48) by unfold hvO; rw [if_pos ⟨h1, h2⟩])))
                    go_wp2
                    go_round
                    case rel => exact ⟨q + 1, 16 * m + (x - 48), by omega, by congr 1; omega, by first | rfl | go_num | (congr 1), by first | rfl | trivial, HN⟩
                    case measure => show 8 - ((q : Int) + 1).toNat < 8 - (q : Int).toNat; omega
                  · by_cases h3 : 97 ≤ x
                    · by_cases h4 : x ≤ 102
                      · have h57 : ¬ x ≤ 57 := h2
                        have d1 : decide ((48 : Int) ≤ (x : Int)) = true := decide_eq_true (by omega)
                        have d1b : decide (48 ≤ x) = true := decide_eq_true (by omega)
                        have d2 : decide ((x : Int) ≤ (57 : Int)) = false := decide_eq_false (by omega)
                        have d2b : decide (x ≤ 57) = false := decide_eq_false (by omega)
                        have d3 : decide ((97 : Int) ≤ (x : Int)) = true := decide_eq_true (by omega)
                        have d3b : decide (97 ≤ x) = true := decide_eq_true (by omega)
                        have d4 : decide ((x : Int) ≤ (102 : Int)) = true := decide_eq_true (by omega)
                        have d4b : decide (x ≤ 102) = true := decide_eq_true (by omega)
                        have hw1 : IntKind.u8.wrap ((x : Int) - 97) = (x : Int) - 97 := by rw [IntKind.wrap_u8]; omega
                        have HN := Lib.hid (hvT_on HH.out (by rw [HGT.out, hx]; exact (show hvO x = some (x - 87) by unfold hvO; rw [if_neg (by omega), if_pos ⟨h3, h4⟩])))
                        go_wp2
                        go_round
                        case rel => exact ⟨q + 1, 16 * m + (x - 87), by omega, by congr 1; omega, by first | rfl | go_num | (congr 1), by first | rfl | trivial, HN⟩
                        case measure => show 8 - ((q : Int) + 1).toNat < 8 - (q : Int).toNat; omega
                      · have h57 : ¬ x ≤ 57 := h2
                        have d1 : decide ((48 : Int) ≤ (x : Int)) = true := decide_eq_true (by omega)
                        have d1b : decide (48 ≤ x) = true := decide_eq_true (by omega)
                        have d2 : decide ((x : Int) ≤ (57 : Int)) = false := decide_eq_false (by omega)
                        have d2b : decide (x ≤ 57) = false := decide_eq_false (by omega)
                        have d3 : decide ((97 : Int) ≤ (x : Int)) = true := decide_eq_true (by omega)
                        have d3b : decide (97 ≤ x) = true := decide_eq_true (by omega)
                        have d4 : decide ((x : Int) ≤ (102 : Int)) = false := decide_eq_false (by omega)
                        have d4b : decide (x ≤ 102) = false := decide_eq_false (by omega)
                        have HN := Lib.hid (rlB_no HKX.out (by rw [HPL.out]; exact rpO_dig (k := q) hq8 (by rw [HGT.out, hx]; exact (show hvO x = none by unfold hvO; rw [if_neg (by omega), if_neg (by omega)]))))
                        go_wp2
                        go_ret2
                        exact RlPost.no HIS.out HN.out HW.out
                    · have h57 : ¬ x ≤ 57 := h2
                      have d1 : decide ((48 : Int) ≤ (x : Int)) = true := decide_eq_true (by omega)
                      have d1b : decide (48 ≤ x) = true := decide_eq_true (by omega)
                      have d2 : decide ((x : Int) ≤ (57 : Int)) = false := decide_eq_false (by omega)
                      have d2b : decide (x ≤ 57) = false := decide_eq_false (by omega)
                      have d3 : decide ((97 : Int) ≤ (x : Int)) = false := decide_eq_false (by omega)
                      have d3b : decide (97 ≤ x) = false := decide_eq_false (by omega)
                      have HN := Lib.hid (rlB_no HKX.out (by rw [HPL.out]; exact rpO_dig (k := q) hq8 (by rw [HGT.out, hx]; exact (show hvO x = none by unfold hvO; rw [if_neg (by omega), if_neg (by omega)]))))
                      go_wp2
                      go_ret2
                      exact RlPost.no HIS.out HN.out HW.out
                · have h97 : ¬ 97 ≤ x := by omega
                  have d1 : decide ((48 : Int) ≤ (x : Int)) = false := decide_eq_false (by omega)
                  have d1b : decide (48 ≤ x) = false := decide_eq_false (by omega)
                  have d3 : decide ((97 : Int) ≤ (x : Int)) = false := decide_eq_false (by omega)
                  have d3b : decide (97 ≤ x) = false := decide_eq_false (by omega)
                  have HN := Lib.hid (rlB_no HKX.out (by rw [HPL.out]; exact rpO_dig (k := q) hq8 (by rw [HGT.out, hx]; exact (show hvO x = none by unfold hvO; rw [if_neg (by omega), if_neg (by omega)]))))
                  go_wp2
                  go_ret2
                  exact RlPost.no HIS.out HN.out HW.out
              · obtain rfl : q = 8 := by omega
                have hn8 : m < 4294967296 := hvT_lt HH.out
                have HFB := Lib.hid (fun w3 => lfr_spec m w3 hn8)
                have HBI := Lib.hid (fun w3 => bits_spec m hn8 w3)
                have HRV := Lib.hid (rpO_val HL8.out HH.out)
                by_cases hb : bitsF m = m
                · have hbe : ((bitsF m : Int) != (m : Int)) = false := by simp; omega
                  have hbe2 : ((bitsF m : Int) == (m : Int)) = true := by simp; omega
                  have hrp : rpO ((cutL 44 s.data.toList).getD k []) = some m := by rw [HPL.out]; exact HRV.out.trans (if_pos hb)
                  have HV2 : Hid (∀ j, j < k + 1 → rpO ((cutL 44 s.data.toList).getD j []) ≠ none) := Lib.hid (fun j hj => by
                    by_cases e : j < k
                    · exact HV.out j e
                    · obtain rfl : j = k := by omega
                      rw [hrp]; simp)
                  have HK : Hid (F k = .float .f32 m) := Lib.hid (by rw [HFE.out]; unfold rlF; rw [hrp]; rfl)
                  clear hb hrp
                  go_wp2_with (first | (go_at_call 27; (with_reducible refine (HFB.out _).mono ?_); rintro e w' ⟨rfl, hw⟩; subst hw) | (go_at_call 28; (with_reducible refine (HBI.out _).mono ?_); rintro e w' ⟨rfl, hw⟩; subst hw) | (at_builtin; refine wpList_append_lies _ rfl _ _ 22 rfl w.heap.size 33 i0 (.float .f32 0) 1 4 Tryd.underlying22 hi hz0 hz1 hz2 rfl (by omega) u4 k ((List.range k).map F) rfl (World.ownsRow.alloc HG.out _) ⟨wr.heap.size, 0, none⟩ 1 1 [.float .f32 m] rfl rfl (World.news_of_block (cs := #[.float .f32 m]) (t := 33) (fr := (0, 0)) (heap_alloc_new _ _)) (by simp [Value.oneCell']) (by omega) (by unfold maxLen; omega) (by omega) (by have := HSZ.out; simp; omega) (wr.heap.size + 1) (by simp) ?_; intro gg cp w1 hown1 hgrow hat hlt3; have HO2 := Lib.hid hown1; have HG2 := Lib.hid hgrow; have HAT := Lib.hid hat; clear hown1 hgrow hat hlt3) | fail)
                  exact ⟨⟨k + 1, _, _, by omega, rfl, by first | rfl | go_num | (congr 1), rfl, Lib.hid (Gat.step HO2.out HK.out.symm), Lib.hid (Below.grown (Below.alloc HW.out HSZ.out _) HG2.out (by have := HSZ.out; simp; omega) (fun j hj => HNE.out j hj)), Lib.hid (trow_grown HT.out HG2.out (fun e => HNG.out _ e rfl)), Lib.hid (own_next HNG.out HAT.out (by have := HT.out.2.1; omega)), HV2⟩, by show n - ((k : Int) + 1).toNat < n - (k : Int).toNat; omega⟩
                · have hbe : ((bitsF m : Int) != (m : Int)) = true := by simp; omega
                  have hbe2 : ((bitsF m : Int) == (m : Int)) = false := by simp; omega
                  have HN := Lib.hid (rlB_no HKX.out (by rw [HPL.out]; exact HRV.out.trans (if_neg hb)))
                  clear hb
                  go_wp2_with (first | (go_at_call 27; (with_reducible refine (HFB.out _).mono ?_); rintro e w' ⟨rfl, hw⟩; subst hw) | (go_at_call 28; (with_reducible refine (HBI.out _).mono ?_); rintro e w' ⟨rfl, hw⟩; subst hw) | fail)
                  go_ret2
                  exact RlPost.no HIS.out HN.out HW.out
          · have hd8 : ((p.size : Int) != 8) = true := by simp; omega
            have hd8b : ((p.size : Int) == 8) = false := by simp; omega
            have HN := Lib.hid (rlB_no HKX.out (by rw [HPL.out]; exact rpO_len (by omega)))
            clear hpl
            go_wp2
            go_ret2
            exact RlPost.no HIS.out HN.out HW.out
        · obtain rfl : k = n := by omega
          have HN := Lib.hid (rlB_yes (X := cutL 44 s.data.toList) (by have := HT.out.1; omega) (fun j hj => HV.out j (by have := HT.out.1; omega)))
          have HFI : Hid (Gat wr w.heap.size 33 u4 (cutL 44 s.data.toList).length (rlF (cutL 44 s.data.toList))) := Lib.hid (by have h := HG.out; rw [HFE.out] at h; rw [HT.out.1]; exact h)
          go_wp2
          go_ret2
          exact RlPost.yes HIS.out HN.out HFI.out HW.out
    · have hd : decide (256 < (n : Int)) = true := decide_eq_true (by omega)
      have HN := Lib.hid (rlB_long (X := cutL 44 s.data.toList) (by omega))
      clear hno hn h64
      go_enter Tryd.func18, Tryd.ntmps18
      go_wp2_with (first | (go_at_call 26; refine (HSQ.out _).mono ?_; rintro e w2 ⟨g, cp, rfl, hgl, ht, hb2⟩; have HB0a := Lib.hid (Below.next (belowD _ _) hb2); clear ht hb2 hgl) | fail)
      go_ret2
      exact RlPost.no HIS.out HN.out HB0a.out
  · have hno1 : (s.toList == [110, 111, 110, 101]) = true := hno
    have HIS := Lib.hid hno
    clear hno
    go_enter Tryd.func18, Tryd.ntmps18
    go_wp2
    go_ret2
    exact RlPost.emp HIS.out (Gat.empty _ _ _) (belowD _ _)
end Go.Proofs.YtkmggoagboikgaaDoor
