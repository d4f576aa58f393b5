
/- DualOf: the program's function. -/
import Derived.Test.YtaefmffmjbabcaaDuc
namespace Go.Proofs.Ytaefmffmjbabcaa
open Go.Proofs.Ytaefmffmjbabcaa.Flo Go.RowKit Go.Proofs.Ytaefmffmjbabcaa.Pr

theorem wo_castD (x m : Nat) : woB (x : Int) m = decide (x < 2 ^ m) := by
  unfold woB
  have e : ((2 ^ m : Nat) : Int) = 2 ^ m := by rw [Int.natCast_pow]; rfl
  rw [← e]
  by_cases h : x < 2 ^ m
  · rw [decide_eq_true h, decide_eq_true (by omega)]
  · rw [decide_eq_false h, decide_eq_false (by omega)]
theorem pow_ltD {k m : Nat} : decide (2 ^ k < 2 ^ m) = decide (k < m) := by
  by_cases h : k < m
  · rw [decide_eq_true h]; exact decide_eq_true (Nat.pow_lt_pow_right (by decide) h)
  · rw [decide_eq_false h]
    exact decide_eq_false (fun e => by have : 2 ^ m ≤ 2 ^ k := Nat.pow_le_pow_right (by decide) (by omega); omega)
set_option maxRecDepth 100000 in
set_option maxHeartbeats 2000000 in
theorem du_implA (r : Int) (a : Option Addr) (n cap : Nat) (zs : List Int) (w : World) (h : IRow w a n zs) (hn : n ≤ 1048576) (hok : paB r zs n = false) : Calls Try.prog 57 #[.agg #[.int .i64 r, .slice a n cap]] w (YNone w) := by
  have HA2 : Hid (IRow ((w.alloc (.cells #[.int .i64 r, .slice a n cap] 28)).alloc (.cells #[.int .i64 0, .slice none 0 0] 28)) a n zs) := Lib.hid ((h.alloc _).alloc _)
  have HC := Lib.hid ((Kin.new (w := w) (x := .int .i64 r) (y := .slice a n cap) (T := 28)).below (below_alloc _ (.cells #[.int .i64 0, .slice none 0 0] 28)))
  have HR : Hid (Kin ((w.alloc (.cells #[.int .i64 r, .slice a n cap] 28)).alloc (.cells #[.int .i64 0, .slice none 0 0] 28)) (w.heap.size + 1) (.int .i64 0) (.slice none 0 0)) := Lib.hid (Kin.new' (by simp))
  have HOK := Lib.hid hok
  clear h hok
  go_enter Try.func57, Try.ntmps57
  go_wp2_with (first | (go_at_call 111; refine (ech_implN r _ n cap zs _ HA2.out hn HOK.out).mono ?_; rintro e w2 ⟨rfl, hd⟩; have HR2 := Lib.hid ((HR.out.below hd).below (below_alloc w2 (.cells #[.int .i64 0, .slice none 0 0] 28))); have HB := Lib.hid (Below.next (Below.next (Below.alloc (below_alloc _ _) (by simp) _) hd : Below w.heap.size w w2) (below_alloc w2 (.cells #[.int .i64 0, .slice none 0 0] 28))); obtain ⟨hQ, hq0, hq1, hqf0, hqf1⟩ := HR2.out; clear hd) | fail)
  obtain ⟨_, hr1, hr2⟩ := HR2.out.res (.int .i64 0) (.slice none 0 0)
  exact bodyPost_ret (v := .tuple #[.agg #[.int .i64 0, .slice none 0 0], .bool false]) (by simp [results, Try.results57, go_sem, hr1, hr2]) rfl
    ⟨rfl, Below.setCell (Below.setCell HB.out (by simp) _) (by simp) _⟩
set_option maxRecDepth 100000 in
set_option maxHeartbeats 8000000 in
theorem du_implY (r : Int) (a : Option Addr) (n cap : Nat) (zs : List Int) (w : World) (h : IRow w a n zs) (hn : n ≤ 1048576) (hok : paB r zs n = true) (hok2 : paB r (duL r zs n) (duL r zs n).length = true) : Calls Try.prog 57 #[.agg #[.int .i64 r, .slice a n cap]] w (YPost r (duL r zs n).length (duL r zs n) w) := by
  obtain ⟨i0, hi, hz0, hz1, hz2⟩ := info_parts Try.info64
  obtain ⟨⟨hr1, hr2⟩, ⟨hn1, hn2⟩, hwo, _⟩ := pa_out hok
  obtain ⟨m, rfl⟩ : ∃ m : Nat, r = (m : Int) := ⟨r.toNat, by omega⟩
  have hKle := du_le (m : Int) zs n
  rw [Int.toNat_natCast] at hKle
  have HA2 : Hid (IRow ((w.alloc (.cells #[.int .i64 (m : Int), .slice a n cap] 28)).alloc (.cells #[.int .i64 0, .slice none 0 0] 28)) a n zs) := Lib.hid ((h.alloc _).alloc _)
  have HC := Lib.hid ((Kin.new (w := w) (x := .int .i64 (m : Int)) (y := .slice a n cap) (T := 28)).below (below_alloc _ (.cells #[.int .i64 0, .slice none 0 0] 28)))
  have HR : Hid (Kin ((w.alloc (.cells #[.int .i64 (m : Int), .slice a n cap] 28)).alloc (.cells #[.int .i64 0, .slice none 0 0] 28)) (w.heap.size + 1) (.int .i64 0) (.slice none 0 0)) := Lib.hid (Kin.new' (by simp))
  have HOK := Lib.hid hok
  have HOK2 := Lib.hid hok2
  have HPOS := Lib.hid (ech_pos hok)
  have HEC : Hid (∀ w3 : World, IRow w3 a n zs → Calls Try.prog 111 #[.agg #[.int .i64 (m : Int), .slice a n cap]] w3 fun e w' => ∃ g cp, e = .returned (.tuple #[.agg #[.int .i64 (m : Int), .slice (some ⟨g, 0, none⟩) n cp], .bool true]) ∧ New w3 w' g (.il n (rI n (ech (zN zs) m n m).f))) := Lib.hid (fun w3 h1 => by
    have := ech_implY (m : Int) a n cap zs w3 h1 hn hok
    unfold YPost ecL at this
    rw [Int.toNat_natCast] at this
    exact this)
  have HDL : Hid (duL (m : Int) zs n = dlF (ech (zN zs) m n m).f (tpF (ech (zN zs) m n m).f n) n m) := Lib.hid (by unfold duL; rw [Int.toNat_natCast])
  generalize (ech (zN zs) m n m).f = F at HEC HDL HPOS
  generalize hKL : (duL (m : Int) zs n).length = K at HOK2 hKle ⊢
  have HKL := Lib.hid hKL
  have hKp : 1 ≤ K := (pa_out HOK2.out).2.1.1
  generalize duL (m : Int) zs n = DL at HOK2 HDL HKL ⊢
  have HTL := Lib.hid (tpF_lt (f := F) (n := n) HPOS.out)
  have hm16 : m ≤ 16 := by omega
  have HWO : Hid (∀ (k : Nat) (w2 : World), Calls Try.prog 113 #[.int .i64 ((2 ^ k : Nat) : Int), .int .i64 (m : Int)] w2 fun e w' => e = .returned (.bool (decide (k < m))) ∧ w2 = w') := Lib.hid (fun k w2 => by have := word_impl ((2 ^ k : Nat) : Int) m w2 hm16; rw [wo_castD, pow_ltD] at this; exact this)
  clear h hok hok2 hwo hKL
  go_enter Try.func57, Try.ntmps57
  go_wp2_with (first | (go_at_call 111; (with_reducible refine (HEC.out _ HA2.out).mono ?_); rintro e w2 ⟨g, cp, rfl, hnw⟩; have hgs := hnw.1; have hgl2 := hnw.2.1; have HIC := Lib.hid ((ICl.of hnw).below (below_alloc w2 (.cells #[.int .i64 (m : Int), .slice (some ⟨g, 0, none⟩) n cp] 28))); have HC2 := Lib.hid ((HC.out.below hnw.2.2.2).below (below_alloc w2 (.cells #[.int .i64 (m : Int), .slice (some ⟨g, 0, none⟩) n cp] 28))); have HR2 := Lib.hid ((HR.out.below hnw.2.2.2).below (below_alloc w2 (.cells #[.int .i64 (m : Int), .slice (some ⟨g, 0, none⟩) n cp] 28))); have HB := Lib.hid (Below.next (Below.next (Below.alloc (below_alloc _ _) (by simp) _) hnw.2.2.2 : Below w.heap.size w w2) (below_alloc w2 (.cells #[.int .i64 (m : Int), .slice (some ⟨g, 0, none⟩) n cp] 28))); have HT4 : Hid (Kin (w2.alloc (.cells #[.int .i64 (m : Int), .slice (some ⟨g, 0, none⟩) n cp] 28)) w2.heap.size (.int .i64 (m : Int)) (.slice (some ⟨g, 0, none⟩) n cp)) := Lib.hid Kin.new; clear hnw) | fail)
  obtain ⟨w5, hw5⟩ : ∃ w5, w5 = w2.alloc (.cells #[.int .i64 (m : Int), .slice (some ⟨g, 0, none⟩) n cp] 28) := ⟨_, rfl⟩
  rw [← hw5] at HIC HC2 HR2 HB HT4 ⊢
  have hsz5 : w5.heap.size = w2.heap.size + 1 := by rw [hw5]; simp
  have hgs' : w.heap.size + 2 ≤ g := by have := hgs; simp at this; omega
  have hsz2 : w.heap.size + 2 ≤ w2.heap.size := by omega
  clear hw5 hgs
  go_loop [6, 25] (fun tv iv => ∃ j : Nat, j ≤ n ∧ tv = .int .i64 (tpF F j : Int) ∧ iv = .int .i64 (j : Int)) (fun _ iv => n - (intOf iv).toNat)
  case atStart => exact ⟨0, by omega, rfl, rfl⟩
  case round =>
    obtain ⟨j, hj, rfl, rfl⟩ := hrel
    by_cases hlt : j < n
    · have hck := (HIC.out.cell hlt).1
      rw [rI_get F hlt] at hck
      obtain ⟨hf0, hf1⟩ := HPOS.out j hlt
      have hpl := pow16 (log_lt hf0 hf1)
      have htl := tpF_lt (f := F) (n := j) (fun i hi => HPOS.out i (by omega))
      have hor := b_or (tpF F j) (2 ^ (F j).log2) (by omega) (by omega)
      have HS : Hid (tpF F (j + 1) = tpF F j ||| 2 ^ (F j).log2) := Lib.hid rfl
      generalize hTT : tpF F (j + 1) = T' at HS
      have HTT := Lib.hid hTT
      clear hTT
      have HTOP : Hid (∀ w2 : World, Calls Try.prog 112 #[.int .i64 (F j : Int)] w2 fun e w' => e = .returned (.int .i64 ((2 ^ (F j).log2 : Nat) : Int)) ∧ w2 = w') := Lib.hid (fun w2 => hi_impl (F j) w2 hf0 hf1)
      generalize 2 ^ (F j).log2 = P at hpl hor HS HTOP
      generalize tpF F j = T at htl hor HS ⊢
      generalize T ||| P = Q at hor HS
      generalize F j = x at hck HTOP
      clear hf0 hf1
      go_wp2_with (first | (go_at_call 112; (with_reducible refine (HTOP.out _).mono ?_); rintro e w' ⟨rfl, hw⟩; subst hw) | fail)
      go_round
      case rel => exact ⟨j + 1, by omega, val_i (by rw [HTT.out, HS.out]), by go_num⟩
      case measure => simp [intOf]; omega
    · obtain rfl : j = n := by omega
      obtain ⟨T, hT⟩ : ∃ T, T = tpF F j := ⟨_, rfl⟩
      rw [← hT] at HTL HDL ⊢
      have hTL := HTL.out
      clear hT
      go_wp2
      go_loopw [9, 10] (fun v0 dv w' => ∃ (k : Nat) (v : Value) (wr : World), k ≤ m ∧ v = v0 ∧ dv = .int .i64 ((2 ^ k : Nat) : Int) ∧ wr = w' ∧ Hid (wr.ownsRow w5.heap.size 2 1 v (dlF F T j k).length ((dlF F T j k).map (Value.int .i64))) ∧ Hid (Below w5.heap.size w5 wr)) (fun _ dv _ => 131072 - (intOf dv).toNat)
      case atStart => exact ⟨0, _, _, by omega, rfl, rfl, rfl, Lib.hid (World.ownsRow_nil _ _ _ _), Lib.hid (Below.refl _ _)⟩
      case round =>
        obtain ⟨k, v, wr, hk, rfl, rfl, rfl, HO, HW⟩ := hrel
        have HCW := Lib.hid (HC2.out.below HW.out)
        have HRW := Lib.hid (HR2.out.below HW.out)
        have HTW := Lib.hid (HT4.out.below HW.out)
        have HIW := Lib.hid (HIC.out.below HW.out)
        have HBW := Lib.hid (Below.next HB.out HW.out)
        obtain ⟨hP, hp0, hp1, hpf0, hpf1⟩ := HCW.out
        obtain ⟨hT4, ht40, ht41, ht4f0, ht4f1⟩ := HTW.out
        have HWK := Lib.hid (HWO.out k)
        have hcpw : 2 ^ k ≤ 65536 := Nat.le_trans (Nat.pow_le_pow_right (by decide : 0 < 2) (show k ≤ 16 by omega)) (by decide)
        have hppw : 0 < 2 ^ k := Nat.two_pow_pos k
        have HP2 : Hid (2 ^ (k + 1) = 2 ^ k * 2) := Lib.hid (Nat.pow_succ _ _)
        by_cases hlt2 : k < m
        · have hkw : k < 16 := by omega
          have hbd := b_dig T k hTL hkw
          have HW0 : Hid (dwF F k 0 = 2 ^ k) := Lib.hid rfl
          have HBD : Hid (∀ x : Nat, x < 65536 → bits .and .i64 (x : Int) ((2 ^ k : Nat) : Int) = if x.testBit k then ((2 ^ k : Nat) : Int) else 0) := Lib.hid (fun x hx => b_dig x k hx hkw)
          rw [decide_eq_true hlt2] at HWK
          generalize hPK : 2 ^ k = PK at hbd HBD HW0 hcpw hppw HP2 HWK ⊢
          have hpk15 : PK ≤ 32768 := by rw [← hPK]; have : 2 ^ k ≤ 2 ^ 15 := Nat.pow_le_pow_right (by decide) (by omega); omega
          have hwp2 : IntKind.i64.wrap ((PK : Int) * 2) = (PK : Int) * 2 := IntWalk.i64_in _ (by omega)
          have hne0 : ((PK : Int) == 0) = false := by simp; omega
          have hne1 : ((PK : Int) != 0) = true := by rw [bne, hne0]; rfl
          clear hPK
          cases ht : T.testBit k with
          | true =>
            have HD := Lib.hid (dlF_yes (f := F) (n := j) ht)
            rw [ht] at hbd
            simp only [if_true] at hbd
            clear ht
            go_wp2_with (first | (go_at_call 113; (with_reducible refine (HWK.out _).mono ?_); rintro e w' ⟨rfl, hw⟩; subst hw) | fail)
            exact ⟨⟨k + 1, v, _, by omega, rfl, by rw [HP2.out]; first | rfl | go_num | (congr 1), rfl, Lib.hid (by rw [HD.out]; exact HO.out), HW⟩, by show 131072 - ((PK : Int) * 2).toNat < 131072 - ((PK : Int)).toNat; omega⟩
          | false =>
            have HD := Lib.hid (dlF_map (f := F) (n := j) ht)
            have HDLL := Lib.hid (dlF_more (f := F) (n := j) ht)
            have hlen := dlF_len F T j k
            rw [ht] at hbd
            simp only [Bool.false_eq_true, if_false] at hbd
            clear ht
            generalize hDD : dlF F T j (k + 1) = D' at HD HDLL
            have HDD := Lib.hid hDD
            clear hDD
            have hsW := HW.out.size
            go_wp2_with (first | (go_at_call 113; (with_reducible refine (HWK.out _).mono ?_); rintro e w' ⟨rfl, hw⟩; subst hw) | fail)
            go_loop [11, 48] (fun wv iv => ∃ q : Nat, q ≤ j ∧ wv = .int .i64 (dwF F k q : Int) ∧ iv = .int .i64 (q : Int)) (fun _ iv => j - (intOf iv).toNat)
            case atStart => exact ⟨0, by omega, val_i (by rw [HW0.out]), rfl⟩
            case round =>
              obtain ⟨q, hq, rfl, rfl⟩ := hrel
              by_cases hlt3 : q < j
              · have hck := (HIW.out.cell hlt3).1
                rw [rI_get F hlt3] at hck
                obtain ⟨hf0, hf1⟩ := HPOS.out q hlt3
                have hbq := HBD.out (F q) hf1
                cases ht : (F q).testBit k with
                | false =>
                  have HS := Lib.hid (dwF_no ht)
                  rw [ht] at hbq
                  simp only [Bool.false_eq_true, if_false] at hbq
                  generalize F q = x at hck hbq
                  clear ht hf0 hf1
                  go_wp2
                  go_round
                  case rel => exact ⟨q + 1, by omega, val_i (by rw [HS.out]), by go_num⟩
                  case measure => simp [intOf]; omega
                | true =>
                  have HS := Lib.hid (dwF_yes ht)
                  rw [ht] at hbq
                  simp only [if_true] at hbq
                  have hpl := pow16 (log_lt hf0 hf1)
                  have htl := dwF_lt hkw (f := F) (n := q) (fun i hi => HPOS.out i (by omega))
                  have hor := b_or (dwF F k q) (2 ^ (F q).log2) (by omega) (by omega)
                  have HTOP : Hid (∀ w2 : World, Calls Try.prog 112 #[.int .i64 (F q : Int)] w2 fun e w' => e = .returned (.int .i64 ((2 ^ (F q).log2 : Nat) : Int)) ∧ w2 = w') := Lib.hid (fun w2 => hi_impl (F q) w2 hf0 hf1)
                  generalize 2 ^ (F q).log2 = P at hpl hor HS HTOP
                  generalize hDQ : dwF F k (q + 1) = D2 at HS
                  have HDQ := Lib.hid hDQ
                  generalize dwF F k q = T2 at htl hor HS ⊢
                  generalize T2 ||| P = Q at hor HS
                  generalize F q = x at hck hbq HTOP
                  clear hf0 hf1 ht hDQ
                  go_wp2_with (first | (go_at_call 112; (with_reducible refine (HTOP.out _).mono ?_); rintro e w' ⟨rfl, hw⟩; subst hw) | fail)
                  go_round
                  case rel => exact ⟨q + 1, by omega, val_i (by rw [HDQ.out, HS.out]), by go_num⟩
                  case measure => simp [intOf]; omega
              · obtain rfl : q = j := by omega
                have HNE := Lib.hid (own_block HO.out)
                generalize dwF F k q = E at HD ⊢
                generalize hKL2 : (dlF F T q k).length = KL at HO HDLL hlen
                generalize dlF F T q k = DL2 at HO HD
                go_wp2_with (first | (at_builtin; refine wpList_append_lies _ rfl _ _ 22 rfl (w5.heap.size) 2 i0 (.int .i64 0) 1 8 Try.underlying22 hi hz0 hz1 hz2 rfl (by omega) v KL (DL2.map (Value.int .i64)) rfl (World.ownsRow.alloc HO.out _) ⟨wr.heap.size, 0, none⟩ 1 1 [.int .i64 (E : Int)] rfl rfl (World.news_of_block (cs := #[.int .i64 (E : Int)]) (t := 2) (fr := (0, 0)) (heap_alloc_new _ _)) (by simp [Value.oneCell']) (by omega) (by unfold maxLen; omega) (by omega) (by simp; omega) (wr.heap.size + 1) (by simp) ?_; intro gg cp2 w6 hown1 hgrow hat hlt9; have HO2 := Lib.hid hown1; have HG2 := Lib.hid hgrow; clear hown1 hgrow hat hlt9) | fail)
                exact ⟨⟨k + 1, _, _, by omega, rfl, by rw [HP2.out]; first | rfl | go_num | (congr 1), rfl, Lib.hid (by rw [HDD.out, HDLL.out, HD.out]; exact HO2.out), Lib.hid (Below.grown (Below.alloc HW.out HW.out.size _) HG2.out (by simp; omega) HNE.out)⟩, by show 131072 - ((PK : Int) * 2).toNat < 131072 - ((PK : Int)).toNat; omega⟩
        · obtain rfl : k = m := by omega
          rw [decide_eq_false hlt2] at HWK
          rw [← HDL.out, HKL.out] at HO
          generalize 2 ^ k = PK at HWK ⊢
          have hsW := HW.out.size
          clear HP2 hppw hcpw
          obtain ⟨g8, cp8, rfl, hg8, hgl8⟩ := World.ownsRow.form HO.out (by omega)
          obtain ⟨hic8, hgb8⟩ := ICl.own HO.out (by omega)
          have HIC8 := Lib.hid hic8
          have HROW := Lib.hid hic8.row
          clear hic8
          go_wp2_with (first | (go_at_call 113; (with_reducible refine (HWK.out _).mono ?_); rintro e w' ⟨rfl, hw⟩; subst hw) | (go_at_call 114; (with_reducible refine (p6IY (k : Int) _ K _ DL _ HROW.out (by omega) HOK2.out).mono ?_); rintro e w8 ⟨rfl, hb8⟩; have HB8 := Lib.hid (Below.next HBW.out hb8); have HR8 := Lib.hid (HRW.out.below hb8); have HI8 := Lib.hid (HIC8.out.below hb8); obtain ⟨hQ8, hq80, hq81, hqf80, hqf81⟩ := HR8.out; clear hb8) | fail)
          obtain ⟨_, hr1, hr2⟩ := HR8.out.res (.int .i64 (k : Int)) (.slice (some ⟨g8, 0, none⟩) K cp8)
          exact bodyPost_ret (v := .tuple #[.agg #[.int .i64 (k : Int), .slice (some ⟨g8, 0, none⟩) K cp8], .bool true]) (by simp [results, Try.results57, go_sem, hr1, hr2]) rfl
            ⟨g8, cp8, rfl, ICl.new ((HI8.out.far (by simp; omega) _).far (by simp; omega) _) (by omega) (Below.setCell (Below.setCell HB8.out (by simp) _) (by simp) _)⟩
set_option maxRecDepth 100000 in
set_option maxHeartbeats 8000000 in
theorem du_implN (r : Int) (a : Option Addr) (n cap : Nat) (zs : List Int) (w : World) (h : IRow w a n zs) (hn : n ≤ 1048576) (hok : paB r zs n = true) (hok2 : paB r (duL r zs n) (duL r zs n).length = false) : Calls Try.prog 57 #[.agg #[.int .i64 r, .slice a n cap]] w (YNone w) := by
  obtain ⟨i0, hi, hz0, hz1, hz2⟩ := info_parts Try.info64
  obtain ⟨⟨hr1, hr2⟩, ⟨hn1, hn2⟩, hwo, _⟩ := pa_out hok
  obtain ⟨m, rfl⟩ : ∃ m : Nat, r = (m : Int) := ⟨r.toNat, by omega⟩
  have hKle := du_le (m : Int) zs n
  rw [Int.toNat_natCast] at hKle
  have HA2 : Hid (IRow ((w.alloc (.cells #[.int .i64 (m : Int), .slice a n cap] 28)).alloc (.cells #[.int .i64 0, .slice none 0 0] 28)) a n zs) := Lib.hid ((h.alloc _).alloc _)
  have HC := Lib.hid ((Kin.new (w := w) (x := .int .i64 (m : Int)) (y := .slice a n cap) (T := 28)).below (below_alloc _ (.cells #[.int .i64 0, .slice none 0 0] 28)))
  have HR : Hid (Kin ((w.alloc (.cells #[.int .i64 (m : Int), .slice a n cap] 28)).alloc (.cells #[.int .i64 0, .slice none 0 0] 28)) (w.heap.size + 1) (.int .i64 0) (.slice none 0 0)) := Lib.hid (Kin.new' (by simp))
  have HOK := Lib.hid hok
  have HOK2 := Lib.hid hok2
  have HPOS := Lib.hid (ech_pos hok)
  have HEC : Hid (∀ w3 : World, IRow w3 a n zs → Calls Try.prog 111 #[.agg #[.int .i64 (m : Int), .slice a n cap]] w3 fun e w' => ∃ g cp, e = .returned (.tuple #[.agg #[.int .i64 (m : Int), .slice (some ⟨g, 0, none⟩) n cp], .bool true]) ∧ New w3 w' g (.il n (rI n (ech (zN zs) m n m).f))) := Lib.hid (fun w3 h1 => by
    have := ech_implY (m : Int) a n cap zs w3 h1 hn hok
    unfold YPost ecL at this
    rw [Int.toNat_natCast] at this
    exact this)
  have HDL : Hid (duL (m : Int) zs n = dlF (ech (zN zs) m n m).f (tpF (ech (zN zs) m n m).f n) n m) := Lib.hid (by unfold duL; rw [Int.toNat_natCast])
  generalize (ech (zN zs) m n m).f = F at HEC HDL HPOS
  generalize hKL : (duL (m : Int) zs n).length = K at HOK2 hKle ⊢
  have HKL := Lib.hid hKL
  generalize duL (m : Int) zs n = DL at HOK2 HDL HKL ⊢
  have HTL := Lib.hid (tpF_lt (f := F) (n := n) HPOS.out)
  have hm16 : m ≤ 16 := by omega
  have HWO : Hid (∀ (k : Nat) (w2 : World), Calls Try.prog 113 #[.int .i64 ((2 ^ k : Nat) : Int), .int .i64 (m : Int)] w2 fun e w' => e = .returned (.bool (decide (k < m))) ∧ w2 = w') := Lib.hid (fun k w2 => by have := word_impl ((2 ^ k : Nat) : Int) m w2 hm16; rw [wo_castD, pow_ltD] at this; exact this)
  clear h hok hok2 hwo hKL
  go_enter Try.func57, Try.ntmps57
  go_wp2_with (first | (go_at_call 111; (with_reducible refine (HEC.out _ HA2.out).mono ?_); rintro e w2 ⟨g, cp, rfl, hnw⟩; have hgs := hnw.1; have hgl2 := hnw.2.1; have HIC := Lib.hid ((ICl.of hnw).below (below_alloc w2 (.cells #[.int .i64 (m : Int), .slice (some ⟨g, 0, none⟩) n cp] 28))); have HC2 := Lib.hid ((HC.out.below hnw.2.2.2).below (below_alloc w2 (.cells #[.int .i64 (m : Int), .slice (some ⟨g, 0, none⟩) n cp] 28))); have HR2 := Lib.hid ((HR.out.below hnw.2.2.2).below (below_alloc w2 (.cells #[.int .i64 (m : Int), .slice (some ⟨g, 0, none⟩) n cp] 28))); have HB := Lib.hid (Below.next (Below.next (Below.alloc (below_alloc _ _) (by simp) _) hnw.2.2.2 : Below w.heap.size w w2) (below_alloc w2 (.cells #[.int .i64 (m : Int), .slice (some ⟨g, 0, none⟩) n cp] 28))); have HT4 : Hid (Kin (w2.alloc (.cells #[.int .i64 (m : Int), .slice (some ⟨g, 0, none⟩) n cp] 28)) w2.heap.size (.int .i64 (m : Int)) (.slice (some ⟨g, 0, none⟩) n cp)) := Lib.hid Kin.new; clear hnw) | fail)
  obtain ⟨w5, hw5⟩ : ∃ w5, w5 = w2.alloc (.cells #[.int .i64 (m : Int), .slice (some ⟨g, 0, none⟩) n cp] 28) := ⟨_, rfl⟩
  rw [← hw5] at HIC HC2 HR2 HB HT4 ⊢
  have hsz5 : w5.heap.size = w2.heap.size + 1 := by rw [hw5]; simp
  have hgs' : w.heap.size + 2 ≤ g := by have := hgs; simp at this; omega
  have hsz2 : w.heap.size + 2 ≤ w2.heap.size := by omega
  clear hw5 hgs
  go_loop [6, 25] (fun tv iv => ∃ j : Nat, j ≤ n ∧ tv = .int .i64 (tpF F j : Int) ∧ iv = .int .i64 (j : Int)) (fun _ iv => n - (intOf iv).toNat)
  case atStart => exact ⟨0, by omega, rfl, rfl⟩
  case round =>
    obtain ⟨j, hj, rfl, rfl⟩ := hrel
    by_cases hlt : j < n
    · have hck := (HIC.out.cell hlt).1
      rw [rI_get F hlt] at hck
      obtain ⟨hf0, hf1⟩ := HPOS.out j hlt
      have hpl := pow16 (log_lt hf0 hf1)
      have htl := tpF_lt (f := F) (n := j) (fun i hi => HPOS.out i (by omega))
      have hor := b_or (tpF F j) (2 ^ (F j).log2) (by omega) (by omega)
      have HS : Hid (tpF F (j + 1) = tpF F j ||| 2 ^ (F j).log2) := Lib.hid rfl
      generalize hTT : tpF F (j + 1) = T' at HS
      have HTT := Lib.hid hTT
      clear hTT
      have HTOP : Hid (∀ w2 : World, Calls Try.prog 112 #[.int .i64 (F j : Int)] w2 fun e w' => e = .returned (.int .i64 ((2 ^ (F j).log2 : Nat) : Int)) ∧ w2 = w') := Lib.hid (fun w2 => hi_impl (F j) w2 hf0 hf1)
      generalize 2 ^ (F j).log2 = P at hpl hor HS HTOP
      generalize tpF F j = T at htl hor HS ⊢
      generalize T ||| P = Q at hor HS
      generalize F j = x at hck HTOP
      clear hf0 hf1
      go_wp2_with (first | (go_at_call 112; (with_reducible refine (HTOP.out _).mono ?_); rintro e w' ⟨rfl, hw⟩; subst hw) | fail)
      go_round
      case rel => exact ⟨j + 1, by omega, val_i (by rw [HTT.out, HS.out]), by go_num⟩
      case measure => simp [intOf]; omega
    · obtain rfl : j = n := by omega
      obtain ⟨T, hT⟩ : ∃ T, T = tpF F j := ⟨_, rfl⟩
      rw [← hT] at HTL HDL ⊢
      have hTL := HTL.out
      clear hT
      go_wp2
      go_loopw [9, 10] (fun v0 dv w' => ∃ (k : Nat) (v : Value) (wr : World), k ≤ m ∧ v = v0 ∧ dv = .int .i64 ((2 ^ k : Nat) : Int) ∧ wr = w' ∧ Hid (wr.ownsRow w5.heap.size 2 1 v (dlF F T j k).length ((dlF F T j k).map (Value.int .i64))) ∧ Hid (Below w5.heap.size w5 wr)) (fun _ dv _ => 131072 - (intOf dv).toNat)
      case atStart => exact ⟨0, _, _, by omega, rfl, rfl, rfl, Lib.hid (World.ownsRow_nil _ _ _ _), Lib.hid (Below.refl _ _)⟩
      case round =>
        obtain ⟨k, v, wr, hk, rfl, rfl, rfl, HO, HW⟩ := hrel
        have HCW := Lib.hid (HC2.out.below HW.out)
        have HRW := Lib.hid (HR2.out.below HW.out)
        have HTW := Lib.hid (HT4.out.below HW.out)
        have HIW := Lib.hid (HIC.out.below HW.out)
        have HBW := Lib.hid (Below.next HB.out HW.out)
        obtain ⟨hP, hp0, hp1, hpf0, hpf1⟩ := HCW.out
        obtain ⟨hT4, ht40, ht41, ht4f0, ht4f1⟩ := HTW.out
        have HWK := Lib.hid (HWO.out k)
        have hcpw : 2 ^ k ≤ 65536 := Nat.le_trans (Nat.pow_le_pow_right (by decide : 0 < 2) (show k ≤ 16 by omega)) (by decide)
        have hppw : 0 < 2 ^ k := Nat.two_pow_pos k
        have HP2 : Hid (2 ^ (k + 1) = 2 ^ k * 2) := Lib.hid (Nat.pow_succ _ _)
        by_cases hlt2 : k < m
        · have hkw : k < 16 := by omega
          have hbd := b_dig T k hTL hkw
          have HW0 : Hid (dwF F k 0 = 2 ^ k) := Lib.hid rfl
          have HBD : Hid (∀ x : Nat, x < 65536 → bits .and .i64 (x : Int) ((2 ^ k : Nat) : Int) = if x.testBit k then ((2 ^ k : Nat) : Int) else 0) := Lib.hid (fun x hx => b_dig x k hx hkw)
          rw [decide_eq_true hlt2] at HWK
          generalize hPK : 2 ^ k = PK at hbd HBD HW0 hcpw hppw HP2 HWK ⊢
          have hpk15 : PK ≤ 32768 := by rw [← hPK]; have : 2 ^ k ≤ 2 ^ 15 := Nat.pow_le_pow_right (by decide) (by omega); omega
          have hwp2 : IntKind.i64.wrap ((PK : Int) * 2) = (PK : Int) * 2 := IntWalk.i64_in _ (by omega)
          have hne0 : ((PK : Int) == 0) = false := by simp; omega
          have hne1 : ((PK : Int) != 0) = true := by rw [bne, hne0]; rfl
          clear hPK
          cases ht : T.testBit k with
          | true =>
            have HD := Lib.hid (dlF_yes (f := F) (n := j) ht)
            rw [ht] at hbd
            simp only [if_true] at hbd
            clear ht
            go_wp2_with (first | (go_at_call 113; (with_reducible refine (HWK.out _).mono ?_); rintro e w' ⟨rfl, hw⟩; subst hw) | fail)
            exact ⟨⟨k + 1, v, _, by omega, rfl, by rw [HP2.out]; first | rfl | go_num | (congr 1), rfl, Lib.hid (by rw [HD.out]; exact HO.out), HW⟩, by show 131072 - ((PK : Int) * 2).toNat < 131072 - ((PK : Int)).toNat; omega⟩
          | false =>
            have HD := Lib.hid (dlF_map (f := F) (n := j) ht)
            have HDLL := Lib.hid (dlF_more (f := F) (n := j) ht)
            have hlen := dlF_len F T j k
            rw [ht] at hbd
            simp only [Bool.false_eq_true, if_false] at hbd
            clear ht
            generalize hDD : dlF F T j (k + 1) = D' at HD HDLL
            have HDD := Lib.hid hDD
            clear hDD
            have hsW := HW.out.size
            go_wp2_with (first | (go_at_call 113; (with_reducible refine (HWK.out _).mono ?_); rintro e w' ⟨rfl, hw⟩; subst hw) | fail)
            go_loop [11, 48] (fun wv iv => ∃ q : Nat, q ≤ j ∧ wv = .int .i64 (dwF F k q : Int) ∧ iv = .int .i64 (q : Int)) (fun _ iv => j - (intOf iv).toNat)
            case atStart => exact ⟨0, by omega, val_i (by rw [HW0.out]), rfl⟩
            case round =>
              obtain ⟨q, hq, rfl, rfl⟩ := hrel
              by_cases hlt3 : q < j
              · have hck := (HIW.out.cell hlt3).1
                rw [rI_get F hlt3] at hck
                obtain ⟨hf0, hf1⟩ := HPOS.out q hlt3
                have hbq := HBD.out (F q) hf1
                cases ht : (F q).testBit k with
                | false =>
                  have HS := Lib.hid (dwF_no ht)
                  rw [ht] at hbq
                  simp only [Bool.false_eq_true, if_false] at hbq
                  generalize F q = x at hck hbq
                  clear ht hf0 hf1
                  go_wp2
                  go_round
                  case rel => exact ⟨q + 1, by omega, val_i (by rw [HS.out]), by go_num⟩
                  case measure => simp [intOf]; omega
                | true =>
                  have HS := Lib.hid (dwF_yes ht)
                  rw [ht] at hbq
                  simp only [if_true] at hbq
                  have hpl := pow16 (log_lt hf0 hf1)
                  have htl := dwF_lt hkw (f := F) (n := q) (fun i hi => HPOS.out i (by omega))
                  have hor := b_or (dwF F k q) (2 ^ (F q).log2) (by omega) (by omega)
                  have HTOP : Hid (∀ w2 : World, Calls Try.prog 112 #[.int .i64 (F q : Int)] w2 fun e w' => e = .returned (.int .i64 ((2 ^ (F q).log2 : Nat) : Int)) ∧ w2 = w') := Lib.hid (fun w2 => hi_impl (F q) w2 hf0 hf1)
                  generalize 2 ^ (F q).log2 = P at hpl hor HS HTOP
                  generalize hDQ : dwF F k (q + 1) = D2 at HS
                  have HDQ := Lib.hid hDQ
                  generalize dwF F k q = T2 at htl hor HS ⊢
                  generalize T2 ||| P = Q at hor HS
                  generalize F q = x at hck hbq HTOP
                  clear hf0 hf1 ht hDQ
                  go_wp2_with (first | (go_at_call 112; (with_reducible refine (HTOP.out _).mono ?_); rintro e w' ⟨rfl, hw⟩; subst hw) | fail)
                  go_round
                  case rel => exact ⟨q + 1, by omega, val_i (by rw [HDQ.out, HS.out]), by go_num⟩
                  case measure => simp [intOf]; omega
              · obtain rfl : q = j := by omega
                have HNE := Lib.hid (own_block HO.out)
                generalize dwF F k q = E at HD ⊢
                generalize hKL2 : (dlF F T q k).length = KL at HO HDLL hlen
                generalize dlF F T q k = DL2 at HO HD
                go_wp2_with (first | (at_builtin; refine wpList_append_lies _ rfl _ _ 22 rfl (w5.heap.size) 2 i0 (.int .i64 0) 1 8 Try.underlying22 hi hz0 hz1 hz2 rfl (by omega) v KL (DL2.map (Value.int .i64)) rfl (World.ownsRow.alloc HO.out _) ⟨wr.heap.size, 0, none⟩ 1 1 [.int .i64 (E : Int)] rfl rfl (World.news_of_block (cs := #[.int .i64 (E : Int)]) (t := 2) (fr := (0, 0)) (heap_alloc_new _ _)) (by simp [Value.oneCell']) (by omega) (by unfold maxLen; omega) (by omega) (by simp; omega) (wr.heap.size + 1) (by simp) ?_; intro gg cp2 w6 hown1 hgrow hat hlt9; have HO2 := Lib.hid hown1; have HG2 := Lib.hid hgrow; clear hown1 hgrow hat hlt9) | fail)
                exact ⟨⟨k + 1, _, _, by omega, rfl, by rw [HP2.out]; first | rfl | go_num | (congr 1), rfl, Lib.hid (by rw [HDD.out, HDLL.out, HD.out]; exact HO2.out), Lib.hid (Below.grown (Below.alloc HW.out HW.out.size _) HG2.out (by simp; omega) HNE.out)⟩, by show 131072 - ((PK : Int) * 2).toNat < 131072 - ((PK : Int)).toNat; omega⟩
        · obtain rfl : k = m := by omega
          rw [decide_eq_false hlt2] at HWK
          rw [← HDL.out, HKL.out] at HO
          generalize 2 ^ k = PK at HWK ⊢
          have hsW := HW.out.size
          clear HP2 hppw hcpw
          obtain ⟨a9, cp9, rfl, hrow⟩ := own_rowI HO.out
          have HROW := Lib.hid hrow
          clear hrow
          go_wp2_with (first | (go_at_call 113; (with_reducible refine (HWK.out _).mono ?_); rintro e w' ⟨rfl, hw⟩; subst hw) | (go_at_call 114; (with_reducible refine (p6IN (k : Int) _ K _ DL _ HROW.out (by omega) HOK2.out).mono ?_); rintro e w8 ⟨rfl, hb8⟩; have HB8 := Lib.hid (Below.next HBW.out hb8); have HR8 := Lib.hid (HRW.out.below hb8); obtain ⟨hQ8, hq80, hq81, hqf80, hqf81⟩ := HR8.out; clear hb8) | fail)
          obtain ⟨_, hr1, hr2⟩ := HR8.out.res (.int .i64 0) (.slice none 0 0)
          exact bodyPost_ret (v := .tuple #[.agg #[.int .i64 0, .slice none 0 0], .bool false]) (by simp [results, Try.results57, go_sem, hr1, hr2]) rfl
            ⟨rfl, Below.setCell (Below.setCell HB8.out (by simp) _) (by simp) _⟩
theorem du_implYes (r : Int) (a : Option Addr) (n cap : Nat) (zs : List Int) (w : World) (h : IRow w a n zs) (hn : n ≤ 1048576) (hok : duB r zs n = true) : Calls Try.prog 57 #[.agg #[.int .i64 r, .slice a n cap]] w (YPost r (duL r zs n).length (duL r zs n) w) := du_implY r a n cap zs w h hn (duB_out hok).1 (duB_out hok).2
theorem du_implNo (r : Int) (a : Option Addr) (n cap : Nat) (zs : List Int) (w : World) (h : IRow w a n zs) (hn : n ≤ 1048576) (hok : duB r zs n = false) : Calls Try.prog 57 #[.agg #[.int .i64 r, .slice a n cap]] w (YNone w) := by
  rcases duB_no hok with h1 | h1
  · exact du_implA r a n cap zs w h hn h1
  · exact du_implN r a n cap zs w h hn h1.1 h1.2
end Go.Proofs.Ytaefmffmjbabcaa
