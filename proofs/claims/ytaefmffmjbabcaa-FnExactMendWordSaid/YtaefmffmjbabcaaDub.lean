
/- DualOf: the model's rows. -/
import Derived.Test.YtaefmffmjbabcaaDua
import Derived.Test.YtaefmffmjbabcaaPig
namespace Go.Proofs.Ytaefmffmjbabcaa
open Go.Proofs.Ytaefmffmjbabcaa.Flo Go.RowKit Go.Proofs.Ytaefmffmjbabcaa.Pr

theorem ICl.grown {w w' : World} {row : Option Nat} {g n : Nat} {L : List Int} (h : ICl w g n L) (hg : w.grownBy w' row) (hne : some g ≠ row) : ICl w' g n L := by
  have hb := hg.block g h.1 hne
  refine ⟨Nat.lt_of_lt_of_le h.1 hg.size, h.2.1, fun j hj => ?_⟩
  have h2 := h.2.2 j hj
  rw [World.cell?_of_block (a := ⟨g, j, none⟩) hb, World.frozen?_of_block (a := ⟨g, j, none⟩) hb]
  exact h2
theorem dlF_yes {f : Nat → Nat} {t n k : Nat} (h : t.testBit k = true) : dlF f t n (k + 1) = dlF f t n k := by
  show (if t.testBit k then _ else _) = _
  rw [h]; rfl
theorem dlF_no {f : Nat → Nat} {t n k : Nat} (h : t.testBit k = false) : dlF f t n (k + 1) = dlF f t n k ++ [((dwF f k n : Nat) : Int)] := by
  show (if t.testBit k then _ else _) = _
  rw [h]; rfl
theorem dlF_map {f : Nat → Nat} {t n k : Nat} (h : t.testBit k = false) : (dlF f t n (k + 1)).map (Value.int .i64) = (dlF f t n k).map (Value.int .i64) ++ [.int .i64 ((dwF f k n : Nat) : Int)] := by
  rw [dlF_no h]; simp
theorem dlF_more {f : Nat → Nat} {t n k : Nat} (h : t.testBit k = false) : (dlF f t n (k + 1)).length = (dlF f t n k).length + 1 := by
  rw [dlF_no h, List.length_append]; rfl
theorem dwF_yes {f : Nat → Nat} {k j : Nat} (h : (f j).testBit k = true) : dwF f k (j + 1) = dwF f k j ||| 2 ^ (f j).log2 := by
  show (if (f j).testBit k then _ else _) = _
  rw [h]; rfl
theorem dwF_no {f : Nat → Nat} {k j : Nat} (h : (f j).testBit k = false) : dwF f k (j + 1) = dwF f k j := by
  show (if (f j).testBit k then _ else _) = _
  rw [h]; rfl
set_option maxRecDepth 100000 in
set_option maxHeartbeats 4000000 in
theorem du_spec (p m b1 o1 n cap : Nat) (zs : List Int) (w : World) (h : IRow w (some ⟨b1, o1, none⟩) n zs) (hps : p < w.heap.size) (h0 : w.cell? ⟨p, 0, none⟩ = some (.int .i64 (m : Int))) (hp : w.cell? ⟨p, 1, none⟩ = some (.slice (some ⟨b1, o1, none⟩) n cap)) (hok : paB (m : Int) zs n = true) :
    Calls Try.prog 110 #[.pointer (some ⟨p, 0, none⟩)] w fun e w' => ∃ v, e = .returned v ∧ w'.ownsRow w.heap.size 2 1 v (dlF (ech (zN zs) m n m).f (tpF (ech (zN zs) m n m).f n) n m).length ((dlF (ech (zN zs) m n m).f (tpF (ech (zN zs) m n m).f n) n m).map (Value.int .i64)) ∧ Below w.heap.size w w' := by
  obtain ⟨i0, hi, hz0, hz1, hz2⟩ := info_parts Try.info64
  obtain ⟨⟨hm1, hm2⟩, ⟨hn1, hn2⟩, hwo, _⟩ := pa_out hok
  rw [Int.toNat_natCast] at hwo
  have HPOS := Lib.hid (ech_pos hok)
  have HA := Lib.hid h
  have HST : Hid (∀ w2 : World, IRow w2 (some ⟨b1, o1, none⟩) n zs → Calls Try.prog 146 #[.int .i64 (m : Int), .slice (some ⟨b1, o1, none⟩) n cap] w2 fun e w' => ∃ g cp, e = .returned (.tuple #[.slice (some ⟨g, 0, none⟩) n cp, .int .i64 ((ech (zN zs) m n m).k : Int)]) ∧ New w2 w' g (.il n (rI n (ech (zN zs) m n m).f))) := Lib.hid (fun w2 h => st_spec m b1 o1 n cap zs w2 h ⟨by omega, by omega⟩ ⟨hn1, hn2⟩ hwo)
  generalize (ech (zN zs) m n m).k = rk at HST
  generalize (ech (zN zs) m n m).f = F at HST HPOS ⊢
  have HTL := Lib.hid (tpF_lt (f := F) (n := n) HPOS.out)
  have HP0 : Hid (∀ w3 : World, Below w.heap.size w w3 → w3.cell? ⟨p, 0, none⟩ = some (.int .i64 (m : Int))) := Lib.hid (fun w3 hb => (hb.cell (p := ⟨p, 0, none⟩) hps).trans h0)
  clear h hok hwo
  go_enter Try.func110, Try.ntmps110
  go_wp2
  go_region_with (first | (go_at_call 146; refine (HST.out _ (by first | exact HA.out | exact HA.out.drewN _ | exact (HA.out.drewN _).drewN _)).mono ?_; rintro e w4 ⟨g, cp, rfl, hnw⟩; have hgs : w.heap.size ≤ g := hnw.1; have HIC := Lib.hid (ICl.of hnw); have HB4 : Hid (Below w.heap.size w w4) := Lib.hid (Below.next (by repeat (first | exact Below.refl _ _ | refine Below.drew ?_ | refine Below.drewN' ?_ _)) hnw.2.2.2); clear hnw) | fail)
  all_goals
    go_wp2
    go_loop [5, 6] (fun tv iv => ∃ j : Nat, j ≤ n ∧ tv = .int .i64 (tpF F j : Int) ∧ iv = .int .i64 (j : Int)) (fun _ iv => n - (intOf iv).toNat)
    case atStart => exact ⟨0, by omega, rfl, rfl⟩
    case round =>
      obtain ⟨j, hj, rfl, rfl⟩ := hrel
      by_cases hlt : j < n
      · have hck := (HIC.out.cell hlt).1
        rw [rI_get F hlt] at hck
        obtain ⟨hf0, hf1⟩ := HPOS.out j hlt
        have HF0 := Lib.hid hf0
        have HF1 := Lib.hid hf1
        have hll := log_lt hf0 hf1
        have hpl := pow16 hll
        have htl := tpF_lt (f := F) (n := j) (fun i hi => HPOS.out i (by omega))
        have hor := b_or (tpF F j) (2 ^ (F j).log2) (by omega) (by omega)
        have HS : Hid (tpF F (j + 1) = tpF F j ||| 2 ^ (F j).log2) := Lib.hid rfl
        generalize hTT : tpF F (j + 1) = T' at HS
        have HTT := Lib.hid hTT
        clear hTT
        have hcast : ((2 ^ (F j).log2 : Nat) : Int) = (2 : Int) ^ (F j).log2 := by rw [Int.natCast_pow]; rfl
        have HTOP : Hid (∀ w2 : World, Calls Try.prog 147 #[.int .i64 (F j : Int)] w2 fun e w' => e = .returned (.int .i64 ((F j).log2 : Int)) ∧ w2 = w') := Lib.hid (fun w2 => top_spec (F j) w2 hf0 hf1)
        generalize (F j).log2 = L at hll hpl hor hcast HS HTOP
        have hmin : min L 64 = L := by omega
        have hwu : IntKind.u64.wrap (L : Int) = (L : Int) := by rw [IntKind.wrap_u64]; omega
        generalize 2 ^ L = P at hpl hor hcast HS
        have hwp : IntKind.i64.wrap ((2 : Int) ^ L) = (P : Int) := by rw [← hcast]; exact IntWalk.i64_in _ (by omega)
        generalize tpF F j = T at htl hor HS ⊢
        generalize T ||| P = Q at hor HS
        generalize F j = x at hck HTOP HF0 HF1
        clear hcast hf0 hf1
        go_wp2_with (first | (go_at_call 147; (with_reducible refine (HTOP.out _).mono ?_); rintro e w' ⟨rfl, hw⟩; subst hw) | fail)
        go_round
        case rel => exact ⟨j + 1, by omega, val_i (by rw [HTT.out, HS.out]), by go_num⟩
        case measure => simp [intOf]; omega
      · obtain rfl : j = n := by omega
        obtain ⟨T, hT⟩ : ∃ T, T = tpF F j := ⟨_, rfl⟩
        rw [← hT] at HTL ⊢
        have hTL := HTL.out
        have HE := Lib.hid (own_empty w4 2)
        have hw4 := HB4.out.size
        have hgl4 := HIC.out.1
        have HTE := Lib.hid hT
        clear hT
        go_wp2
        go_loopw [7, 8] (fun v0 kv w' => ∃ (k : Nat) (v : Value) (wr : World), k ≤ m ∧ v = v0 ∧ kv = .int .i64 (k : Int) ∧ wr = w' ∧ Hid (wr.ownsRow w4.heap.size 2 1 v (dlF F T j k).length ((dlF F T j k).map (Value.int .i64))) ∧ Hid (Below w4.heap.size w4 wr)) (fun _ kv _ => m - (intOf kv).toNat)
        case atStart => exact ⟨0, _, _, by omega, rfl, rfl, rfl, Lib.hid HE.out, Lib.hid (belowA _ _)⟩
        case round =>
          obtain ⟨k, v, wr, hk, rfl, rfl, rfl, HO, HW⟩ := hrel
          have HBW := Lib.hid (Below.next HB4.out HW.out)
          have hp0 := HP0.out _ HBW.out
          have hwk : IntKind.i64.wrap ((k : Int) + 1) = (k : Int) + 1 := IntWalk.i64_in _ (by omega)
          by_cases hlt2 : k < m
          · have HT : Hid (∀ w2 : World, Calls Try.prog 148 #[.int .i64 (T : Int), .int .i64 (k : Int)] w2 fun e w' => e = .returned (.bool (T.testBit k)) ∧ w2 = w') := Lib.hid (fun w2 => has_spec T k w2 (by omega) (by omega))
            cases ht : T.testBit k with
            | true =>
              have HD := Lib.hid (dlF_yes (f := F) (n := j) ht)
              rw [ht] at HT
              clear ht
              go_wp2_with (first | (go_at_call 148; (with_reducible refine (HT.out _).mono ?_); rintro e w' ⟨rfl, hw⟩; subst hw) | fail)
              exact ⟨⟨k + 1, v, _, by omega, rfl, by first | rfl | go_num | (congr 1), rfl, Lib.hid (by rw [HD.out]; exact HO.out), HW⟩, by show m - ((k : Int) + 1).toNat < m - (k : Int).toNat; omega⟩
            | false =>
              have HD := Lib.hid (dlF_map (f := F) (n := j) ht)
              have HDL := Lib.hid (dlF_more (f := F) (n := j) ht)
              have hlen := dlF_len F T j k
              rw [ht] at HT
              clear ht
              generalize hDD : dlF F T j (k + 1) = D' at HD HDL
              have HDD := Lib.hid hDD
              clear hDD
              have HIW := Lib.hid (HIC.out.below HW.out)
              have hsW := HW.out.size
              have hkw : k < 16 := by omega
              have hpk := pow16 hkw
              have hcast : ((2 ^ k : Nat) : Int) = (2 : Int) ^ k := by rw [Int.natCast_pow]; rfl
              have hmin : min k 64 = k := by omega
              have hwu : IntKind.u64.wrap (k : Int) = (k : Int) := by rw [IntKind.wrap_u64]; omega
              have HW0 : Hid (dwF F k 0 = 2 ^ k) := Lib.hid rfl
              generalize hPK : 2 ^ k = PK at hpk hcast HW0
              have hwp : IntKind.i64.wrap ((2 : Int) ^ k) = (PK : Int) := by rw [← hcast]; exact IntWalk.i64_in _ (by omega)
              clear hcast hPK
              go_wp2_with (first | (go_at_call 148; (with_reducible refine (HT.out _).mono ?_); rintro e w' ⟨rfl, hw⟩; subst hw) | fail)
              go_loop [9, 10] (fun wv iv => ∃ q : Nat, q ≤ j ∧ wv = .int .i64 (dwF F k q : Int) ∧ iv = .int .i64 (q : Int)) (fun _ iv => j - (intOf iv).toNat)
              case atStart => exact ⟨0, by omega, val_i (by rw [HW0.out]), rfl⟩
              case round =>
                obtain ⟨q, hq, rfl, rfl⟩ := hrel
                by_cases hlt3 : q < j
                · have hck := (HIW.out.cell hlt3).1
                  rw [rI_get F hlt3] at hck
                  obtain ⟨hf0, hf1⟩ := HPOS.out q hlt3
                  have HTQ : Hid (∀ w2 : World, Calls Try.prog 148 #[.int .i64 (F q : Int), .int .i64 (k : Int)] w2 fun e w' => e = .returned (.bool ((F q).testBit k)) ∧ w2 = w') := Lib.hid (fun w2 => has_spec (F q) k w2 (by omega) (by omega))
                  cases ht : (F q).testBit k with
                  | false =>
                    have HS := Lib.hid (dwF_no ht)
                    rw [ht] at HTQ
                    generalize F q = x at hck HTQ
                    clear ht hf0 hf1
                    go_wp2_with (first | (go_at_call 148; (with_reducible refine (HTQ.out _).mono ?_); rintro e w' ⟨rfl, hw⟩; subst hw) | fail)
                    go_round
                    case rel => exact ⟨q + 1, by omega, val_i (by rw [HS.out]), by go_num⟩
                    case measure => simp [intOf]; omega
                  | true =>
                    have HS := Lib.hid (dwF_yes ht)
                    rw [ht] at HTQ
                    have hll := log_lt hf0 hf1
                    have hpl := pow16 hll
                    have htl := dwF_lt hkw (f := F) (n := q) (fun i hi => HPOS.out i (by omega))
                    have hor := b_or (dwF F k q) (2 ^ (F q).log2) (by omega) (by omega)
                    have hcast : ((2 ^ (F q).log2 : Nat) : Int) = (2 : Int) ^ (F q).log2 := by rw [Int.natCast_pow]; rfl
                    have HTOP : Hid (∀ w2 : World, Calls Try.prog 147 #[.int .i64 (F q : Int)] w2 fun e w' => e = .returned (.int .i64 ((F q).log2 : Int)) ∧ w2 = w') := Lib.hid (fun w2 => top_spec (F q) w2 hf0 hf1)
                    generalize (F q).log2 = L at hll hpl hor hcast HS HTOP
                    have hmin2 : min L 64 = L := by omega
                    have hwu2 : IntKind.u64.wrap (L : Int) = (L : Int) := by rw [IntKind.wrap_u64]; omega
                    generalize 2 ^ L = P at hpl hor hcast HS
                    have hwp2 : IntKind.i64.wrap ((2 : Int) ^ L) = (P : Int) := by rw [← hcast]; exact IntWalk.i64_in _ (by omega)
                    generalize hDQ : dwF F k (q + 1) = D2 at HS
                    have HDQ := Lib.hid hDQ
                    generalize dwF F k q = T2 at htl hor HS ⊢
                    generalize T2 ||| P = Q at hor HS
                    generalize F q = x at hck HTQ HTOP
                    clear hcast hf0 hf1 ht hDQ
                    go_wp2_with (first | (go_at_call 148; (with_reducible refine (HTQ.out _).mono ?_); rintro e w' ⟨rfl, hw⟩; subst hw) | (go_at_call 147; (with_reducible refine (HTOP.out _).mono ?_); rintro e w' ⟨rfl, hw⟩; subst hw) | fail)
                    go_round
                    case rel => exact ⟨q + 1, by omega, val_i (by rw [HDQ.out, HS.out]), by go_num⟩
                    case measure => simp [intOf]; omega
                · obtain rfl : q = j := by omega
                  have HNE := Lib.hid (own_block HO.out)
                  generalize dwF F k q = E at HD ⊢
                  generalize hKL : (dlF F T q k).length = KL at HO HDL hlen
                  generalize dlF F T q k = DL at HO HD
                  go_wp2_with (first | (at_builtin; refine wpList_append_lies _ rfl _ _ 22 rfl (w4.heap.size) 2 i0 (.int .i64 0) 1 8 Try.underlying22 hi hz0 hz1 hz2 rfl (by omega) v KL (DL.map (Value.int .i64)) rfl (World.ownsRow.alloc HO.out _) ⟨wr.heap.size, 0, none⟩ 1 1 [.int .i64 (E : Int)] rfl rfl (World.news_of_block (cs := #[.int .i64 (E : Int)]) (t := 2) (fr := (0, 0)) (heap_alloc_new _ _)) (by simp [Value.oneCell']) (by omega) (by unfold maxLen; omega) (by omega) (by simp; omega) (wr.heap.size + 1) (by simp) ?_; intro gg cp2 w5 hown1 hgrow hat hlt9; have HO2 := Lib.hid hown1; have HG2 := Lib.hid hgrow; clear hown1 hgrow hat hlt9) | fail)
                  exact ⟨⟨k + 1, _, _, by omega, rfl, by first | rfl | go_num | (congr 1), rfl, Lib.hid (by rw [HDD.out, HDL.out, HD.out]; exact HO2.out), Lib.hid (Below.grown (Below.alloc HW.out HW.out.size _) HG2.out (by simp; omega) HNE.out)⟩, by show m - ((k : Int) + 1).toNat < m - (k : Int).toNat; omega⟩
          · obtain rfl : k = m := by omega
            go_wp2
            go_ret
            exact ⟨v, rfl, by rw [← HTE.out]; exact own_monoB HO.out (by omega), HBW.out⟩
end Go.Proofs.Ytaefmffmjbabcaa
