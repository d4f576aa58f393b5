
/- SendBits: the model's functions. -/
import Derived.Test.YtmfegjflaajkkaaSbv
import Derived.Deep.QuietTactic
import Derived.BigQuiet
namespace Go.Proofs.Ytmfegjflaajkkaa
open Go.Proofs.Ytmfegjflaajkkaa.Flo Go.RowKit Go.Proofs.Ytmfegjflaajkkaa.Pr

set_option maxRecDepth 100000 in
set_option maxHeartbeats 2000000 in
theorem o7_spec (x : Nat) (w : World) (hx : x < 65536) : Calls Try.prog 104 #[.int .i64 (x : Int)] w fun e w' => e = .returned (.bool (odB x)) ∧ w = w' := by
  have HX := Lib.hid hx
  go_enter Try.func104, Try.ntmps104
  go_wp2
  go_loop [0, 3] (fun xv bv => ∃ (y : Nat) (b : Bool), y < 65536 ∧ xv = .int .i64 (y : Int) ∧ bv = .bool b ∧ Hid ((b != odB y) = odB x)) (fun xv _ => (intOf xv).toNat)
  case atStart => exact ⟨x, false, HX.out, rfl, rfl, Lib.hid (by simp)⟩
  case round =>
    obtain ⟨y, b, hy, rfl, rfl, HS⟩ := hrel
    by_cases h0 : 0 < y
    · have d1 : decide (0 < y) = true := decide_eq_true h0
      have d1' : decide ((0 : Int) < (y : Int)) = true := decide_eq_true (by omega)
      have hm : (y : Int).tmod 2 = ((y % 2 : Nat) : Int) := by rw [Int.tmod_eq_emod_of_nonneg (by omega)]; omega
      have hd : (y : Int).tdiv 2 = ((y / 2 : Nat) : Int) := by rw [Int.tdiv_eq_ediv_of_nonneg (by omega)]; omega
      have hlt2 : y / 2 < y := by omega
      have hy2 : y / 2 < 65536 := by omega
      have hst := odB_step hy
      rcases Nat.mod_two_eq_zero_or_one y with h2 | h2
      · have HS2 : Hid ((b != odB (y / 2)) = odB x) := Lib.hid (by rw [← HS.out, hst, h2]; simp)
        rw [h2] at hm
        have hbf : (b != false) = b := by simp
        clear hst
        generalize y / 2 = v at hd HS2 hlt2 hy2
        have hwv : IntKind.i64.wrap (v : Int) = (v : Int) := IntWalk.i64_in _ (by omega)
        clear h0 h2
        go_wp2
        go_round
        case rel => exact ⟨v, b, hy2, rfl, by first | rfl | (rw [hbf]) | simp, HS2⟩
        case measure => simp [intOf]; omega
      · have HS2 : Hid (((!b) != odB (y / 2)) = odB x) := Lib.hid (by rw [← HS.out, hst, h2]; cases b <;> simp)
        rw [h2] at hm
        have hbf : (b != true) = !b := by simp
        clear hst
        generalize y / 2 = v at hd HS2 hlt2 hy2
        have hwv : IntKind.i64.wrap (v : Int) = (v : Int) := IntWalk.i64_in _ (by omega)
        clear h0 h2
        go_wp2
        go_round
        case rel => exact ⟨v, !b, hy2, rfl, by first | rfl | (rw [hbf]) | simp, HS2⟩
        case measure => simp [intOf]; omega
    · obtain rfl : y = 0 := by omega
      have HF : Hid (b = odB x) := Lib.hid (by have := HS.out; rw [odB_zero] at this; simpa using this)
      go_wp2
      go_ret
      exact ⟨ret_bool2 HF.out, rfl⟩
set_option maxHeartbeats 2000000 in
theorem wh_spec (s : Nat) (b : Bool) (w : World) (hs : s < 16) : Calls Try.prog 103 #[.int .i64 (s : Int), .bool b] w fun e w' => e = .returned (.int .i64 (whN s b : Int)) ∧ w' = w := by
  cases b with
  | true =>
    have e : ((whN s true : Nat) : Int) = 2 * (s : Int) + 1 := by rw [whN_t]; omega
    rw [e]
    clear e
    go_enter Try.func103, Try.ntmps103
    go_wp2
    go_ret
    exact ⟨rfl, rfl⟩
  | false =>
    have e : ((whN s false : Nat) : Int) = 2 * (s : Int) := by rw [whN_f]; omega
    rw [e]
    clear e
    go_enter Try.func103, Try.ntmps103
    go_wp2
    go_ret
    exact ⟨rfl, rfl⟩
set_option maxRecDepth 100000 in
set_option maxHeartbeats 2000000 in
theorem nx_spec (p M s : Nat) (b : Bool) (w : World) (hM : M ≤ 4) (hs : s < 16) (h0 : w.cell? ⟨p, 0, none⟩ = some (.int .i64 (M : Int))) :
    Calls Try.prog 94 #[.pointer (some ⟨p, 0, none⟩), .int .i64 (s : Int), .bool b] w fun e w' => e = .returned (.int .i64 ((whN s b % 2 ^ M : Nat) : Int)) ∧ Drew w w' := by
  have HW := Lib.hid (fun W => wh_spec s b W hs)
  have hl := whN_lt b hs
  have hmin : min M 64 = M := by omega
  obtain ⟨hp0, hp1⟩ := p2_4 hM
  have hwu : IntKind.u64.wrap (M : Int) = (M : Int) := IntWalk.u64_in _ (by omega)
  have hwr : IntKind.i64.wrap ((2 : Int) ^ M) = 2 ^ M := IntWalk.i64_in _ (by omega)
  have hz : ((2 : Int) ^ M == 0) = false := by simp; omega
  have ht : ((whN s b : Nat) : Int).tmod (2 ^ M) = ((whN s b % 2 ^ M : Nat) : Int) := by
    rw [Int.tmod_eq_emod_of_nonneg (by omega), Int.natCast_emod, Int.natCast_pow]; rfl
  generalize whN s b % 2 ^ M = r at ht ⊢
  generalize whN s b = W at HW hl ht
  go_enter Try.func94, Try.ntmps94
  go_wp2
  go_quiet ((go_at_call 103; with_reducible exact Calls.quiet_of_same (HW.out _)))
  go_wp2
  go_ret
  exact ⟨rfl, by first | exact Drew.mk _ _ | exact ⟨_, rfl⟩⟩
set_option maxRecDepth 100000 in
set_option maxHeartbeats 4000000 in
theorem ss_spec (p M s : Nat) (b : Bool) (a : Option Addr) (m cap : Nat) (zs : List Int) (w : World) (h : IRow w a m zs) (hm : m ≤ 4) (hM : M ≤ 4) (hz : crP zs m M) (hs : s < 16) (hpw : p < w.heap.size) (hp : w.cell? ⟨p, 1, none⟩ = some (.slice a m cap)) :
    Calls Try.prog 93 #[.pointer (some ⟨p, 0, none⟩), .int .i64 (s : Int), .bool b] w fun e w' => ∃ v, e = .returned v ∧ Gat w' w.heap.size 4 v m (fun i => .bool (stF zs (whN s b) i)) ∧ Below w.heap.size w w' := by
  obtain ⟨i0, hi, hz0, hz1, hz2⟩ := info_parts Try.infoB
  have HA := Lib.hid h
  have HZ := Lib.hid hz
  have HM := Lib.hid hM
  have HW := Lib.hid (fun W => wh_spec s b W hs)
  have hl := whN_lt b hs
  obtain ⟨F, hF⟩ : ∃ F : Nat → Value, F = fun i => .bool (stF zs (whN s b) i) := ⟨_, rfl⟩
  have HFE := Lib.hid hF
  rw [← hF]
  have HP := Lib.hid hp
  clear h hz hF hp
  generalize whN s b = W at HW hl HFE
  go_enter Try.func93, Try.ntmps93
  go_wp2_with (first | (go_at_call 103; refine (HW.out _).mono ?_; rintro e w' ⟨rfl, hw⟩; have hw := hw.symm; subst hw; have hp1 : (w.alloc (.cells #[] 4)).cell? ⟨p, 1, none⟩ = some (.slice a m cap) := (World.cell?_alloc_past _ _ _ hpw).trans HP.out) | fail)
  clear hp1
  go_loopw [8, 19] (fun v0 iv w0 => ∃ (k : Nat) (v : Value) (wr : World), k ≤ m ∧ v = v0 ∧ iv = .int .i64 k ∧ wr = w0 ∧ Hid (Gat wr w.heap.size 4 v k F) ∧ Hid (Below w.heap.size w wr)) (fun _ iv _ => m - (intOf iv).toNat)
  case atStart => exact ⟨0, _, _, by omega, rfl, rfl, rfl, Lib.hid (Gat.empty _ _ _), Lib.hid ((Below.refl _ _).alloc (Nat.le_refl _) _)⟩
  case round =>
    obtain ⟨k, v, wr, hk, rfl, rfl, rfl, HG, HWB⟩ := hrel
    by_cases hlt : k < m
    · obtain ⟨b1, o1, rfl, _, hck⟩ := (HA.out.below HWB.out).cell' hlt
      have hp1 : wr.cell? ⟨p, 1, none⟩ = some (.slice (some ⟨b1, o1, none⟩) m cap) := by rw [HWB.out.cell (p := ⟨p, 1, none⟩) hpw]; exact HP.out
      obtain ⟨hzk, hzl⟩ := mN_at HZ.out HM.out hlt
      rw [hzk] at hck
      have hand := b_and W (zN zs k) (by omega) (by omega)
      have hal : W &&& zN zs k < 65536 := Nat.lt_of_le_of_lt Nat.and_le_left (by omega)
      have HO := Lib.hid (fun W2 => o7_spec (W &&& zN zs k) W2 hal)
      have HK : Hid (F k = .bool (odB (W &&& zN zs k))) := Lib.hid (by rw [HFE.out]; rfl)
      clear hzk hal
      generalize W &&& zN zs k = x at hand HO HK
      generalize zN zs k = y at hck hand hzl
      generalize odB x = od at HO HK
      have hsz := HWB.out.size
      have HNE := Lib.hid (Gat.block HG.out)
      go_wp2_with (first | (go_at_call 104; refine (HO.out _).mono ?_; rintro e w' ⟨rfl, hw⟩; subst hw) | (at_builtin; refine wpList_append_lies _ rfl _ _ 36 rfl w.heap.size 4 i0 (.bool false) 1 1 Try.underlying36 hi hz0 hz1 hz2 rfl (by omega) v k ((List.range k).map F) rfl (World.ownsRow.alloc HG.out _) ⟨wr.heap.size, 0, none⟩ 1 1 [.bool od] rfl rfl (World.news_of_block (cs := #[.bool od]) (t := 4) (fr := (0, 0)) (heap_alloc_new _ _)) (by simp [Value.oneCell']) (by omega) (by unfold maxLen; omega) (by omega) (by simp; omega) (wr.heap.size + 1) (by simp) ?_; intro gg cp w1 hown1 hgrow hat hlt3; have HO2 := Lib.hid hown1; have HG2 := Lib.hid hgrow; clear hown1 hgrow hat hlt3) | fail)
      exact ⟨⟨k + 1, _, _, by omega, rfl, by first | rfl | go_num | (congr 1), rfl, Lib.hid (Gat.step HO2.out HK.out.symm), Lib.hid (Below.grown (Below.alloc HWB.out HWB.out.size _) HG2.out (by simp; omega) (fun j hj => Nat.le_trans (by omega) (HNE.out j hj)))⟩, by show m - ((k : Int) + 1).toNat < m - (k : Int).toNat; omega⟩
    · obtain rfl : k = m := by omega
      have hp1 : wr.cell? ⟨p, 1, none⟩ = some (.slice a k cap) := by rw [HWB.out.cell (p := ⟨p, 1, none⟩) hpw]; exact HP.out
      go_wp2
      go_ret
      exact ⟨_, rfl, HG.out, HWB.out⟩
set_option maxRecDepth 100000 in
set_option maxHeartbeats 8000000 in
theorem sd_spec (p M n cap2 : Nat) (f : Nat → Bool) (b : Option Addr) (a : Option Addr) (m cap : Nat) (zs : List Int) (w : World) (h : IRow w a m zs) (hb : BRow w b n f) (hn : n ≤ 40) (hm : 1 ≤ m ∧ m ≤ 4) (hM : 1 ≤ M ∧ M ≤ 4) (hz : crP zs m M) (hpw : p < w.heap.size) (h0 : w.cell? ⟨p, 0, none⟩ = some (.int .i64 (M : Int))) (hp : w.cell? ⟨p, 1, none⟩ = some (.slice a m cap)) :
    Calls Try.prog 70 #[.pointer (some ⟨p, 0, none⟩), .slice b n cap2] w fun e w' => ∃ g cp, e = .returned (.slice (some ⟨g, 0, none⟩) ((n + M) * m) cp) ∧ New w w' g (.bl ((n + M) * m) (snF f n M zs m)) := by
  obtain ⟨i0, hi, hz0, hz1, hz2⟩ := info_parts Try.infoB
  have HA := Lib.hid h
  have HB := Lib.hid hb
  have HZ := Lib.hid hz
  have HMM := Lib.hid hm
  have HM := Lib.hid hM
  have HP0 := Lib.hid h0
  have HP := Lib.hid hp
  obtain ⟨F, hF⟩ : ∃ F : Nat → Value, F = fun i => .bool (snF f n M zs m i) := ⟨_, rfl⟩
  have HFE := Lib.hid hF
  obtain ⟨hm1, hm4⟩ := hm
  obtain ⟨hM1, hM4⟩ := hM
  have hp16 := pow_le4 hM4
  clear h hb hz hF h0 hp
  go_enter Try.func70, Try.ntmps70
  go_wp2
  go_loopw [5, 6, 7] (fun v0 sv iv w0 => ∃ (k s K : Nat) (v : Value) (wr : World), k ≤ n + M ∧ v = v0 ∧ sv = .int .i64 (s : Int) ∧ iv = .int .i64 k ∧ wr = w0 ∧ Hid (s = stq f n M k) ∧ Hid (K = k * m) ∧ Hid (Gat wr w.heap.size 4 v K F) ∧ Hid (Below w.heap.size w wr)) (fun _ _ iv _ => n + M - (intOf iv).toNat)
  case atStart => exact ⟨0, 0, 0, _, _, by omega, rfl, rfl, rfl, rfl, Lib.hid rfl, Lib.hid (by rw [Nat.zero_mul]), Lib.hid (Gat.empty _ _ _), Lib.hid ((Below.refl _ _).alloc (Nat.le_refl _) _)⟩
  case round =>
    obtain ⟨k, s, K, v, wr, hk, rfl, rfl, rfl, rfl, HS, HK, HG, HWB⟩ := hrel
    have hp0 : wr.cell? ⟨p, 0, none⟩ = some (.int .i64 (M : Int)) := by rw [HWB.out.cell (p := ⟨p, 0, none⟩) hpw]; exact HP0.out
    have HSZ := Lib.hid HWB.out.size
    by_cases hlt : k < n + M
    · have hs16 : s < 16 := by have := stq_lt f n M k; rw [← HS.out] at this; omega
      have hK : K ≤ 172 := by rw [HK.out]; exact Nat.le_trans (Nat.mul_le_mul (show k ≤ 43 by omega) hm4) (by decide)
      have hkd : decide ((k : Int) < (n : Int) + (M : Int)) = true := decide_eq_true (by omega)
      have hpl : p < wr.heap.size := Nat.lt_of_lt_of_le hpw HWB.out.size
      have HSE : Hid (∀ bit, bit = btF f n k → Calls Try.prog 93 #[.pointer (some ⟨p, 0, none⟩), .int .i64 (s : Int), .bool bit] wr fun e w' => ∃ v, e = .returned v ∧ Gat w' wr.heap.size 4 v m (fun i => .bool (stF zs (whN s bit) i)) ∧ Below wr.heap.size wr w') := Lib.hid (fun bit _ => ss_spec p M s bit a m cap zs wr (HA.out.below HWB.out) hm4 hM4 HZ.out hs16 hpl (by rw [HWB.out.cell (p := ⟨p, 1, none⟩) hpw]; exact HP.out))
      have HNX : Hid (∀ bit W, Below w.heap.size w W → Calls Try.prog 94 #[.pointer (some ⟨p, 0, none⟩), .int .i64 (s : Int), .bool bit] W fun e w' => e = .returned (.int .i64 ((whN s bit % 2 ^ M : Nat) : Int)) ∧ Drew W w') := Lib.hid (fun bit W hb => nx_spec p M s bit W hM4 hs16 (by rw [hb.cell (p := ⟨p, 0, none⟩) hpw]; exact HP0.out))
      have HST : Hid (∀ bit, bit = btF f n k → stq f n M (k + 1) = whN s bit % 2 ^ M) := Lib.hid (fun bit e => by rw [e, HS.out]; rfl)
      have HEV : Hid (∀ bit, bit = btF f n k → ∀ i, i < m → Value.bool (stF zs (whN s bit) i) = F (K + i)) := Lib.hid (fun bit e i hi => by rw [HFE.out, HK.out]; show _ = Value.bool (snF f n M zs m (k * m + i)); rw [sn_at hi, e, HS.out])
      have HNE := Lib.hid (Gat.block HG.out)
      by_cases hkn : k < n
      · obtain ⟨b1, o1, rfl, hck⟩ := (HB.out.below HWB.out).cell hkn
        have HBT : Hid (f k = btF f n k) := Lib.hid (bt_in hkn).symm
        have hkd2 : decide ((k : Int) < (n : Int)) = true := decide_eq_true (by omega)
        generalize f k = bit at hck HBT
        go_wp2_with (first | (go_at_call 93; refine (HSE.out bit HBT.out).mono ?_; rintro e w2 ⟨v2, rfl, hg, hb⟩; obtain ⟨g2, cp2, rfl, hg2, hgl2, hok2⟩ := hg.fin (by omega); have HO2 := Lib.hid (gv_news hok2); have HG2 := Lib.hid (HG.out.keep hb); have HB2 := Lib.hid hb; have HW2 := Lib.hid (Below.next HWB.out hb); have HSZ2 := Lib.hid HW2.out.size; clear hg hb hok2) | (go_at_call 94; refine (HNX.out bit _ HW3.out).mono ?_; rintro e w4 ⟨rfl, hd⟩; have HD := Lib.hid hd; clear hd) | (at_builtin; refine wpList_append_lies _ rfl _ _ 36 rfl w.heap.size 4 i0 (.bool false) 1 1 Try.underlying36 hi hz0 hz1 hz2 rfl (by omega) v K ((List.range K).map F) rfl HG2.out ⟨g2, 0, none⟩ m cp2 ((List.range m).map (fun i => .bool (stF zs (whN s bit) i))) rfl (by simp) HO2.out (by intro u hu; obtain ⟨z, _, rfl⟩ := List.mem_map.1 hu; simp [Value.oneCell']) (by omega) (by unfold maxLen; omega) (by omega) (by have := HSZ2.out; omega) w2.heap.size rfl ?_; intro gg cp w3 hown1 hgrow hat hlt3; have HO3 := Lib.hid (Gat.stepM hown1 (HEV.out bit HBT.out)); have HW3 := Lib.hid (Below.grown HW2.out hgrow (by have := HSZ2.out; omega) (fun j hj => Nat.le_trans (by omega) (HNE.out j hj))); clear hown1 hgrow hat hlt3) | fail)
        exact ⟨⟨k + 1, _, K + m, _, _, by omega, rfl, rfl, by first | rfl | go_num | (congr 1), rfl, Lib.hid (HST.out bit HBT.out).symm, Lib.hid (by rw [HK.out, Nat.succ_mul]), Lib.hid (HO3.out.keep HD.out.below), Lib.hid (Below.next HW3.out HD.out.below)⟩, by show n + M - ((k : Int) + 1).toNat < n + M - (k : Int).toNat; omega⟩
      · have HBT : Hid (false = btF f n k) := Lib.hid (bt_out hkn).symm
        have hkd2 : decide ((k : Int) < (n : Int)) = false := decide_eq_false (by omega)
        go_wp2_with (first | (go_at_call 93; refine (HSE.out false HBT.out).mono ?_; rintro e w2 ⟨v2, rfl, hg, hb⟩; obtain ⟨g2, cp2, rfl, hg2, hgl2, hok2⟩ := hg.fin (by omega); have HO2 := Lib.hid (gv_news hok2); have HG2 := Lib.hid (HG.out.keep hb); have HB2 := Lib.hid hb; have HW2 := Lib.hid (Below.next HWB.out hb); have HSZ2 := Lib.hid HW2.out.size; clear hg hb hok2) | (go_at_call 94; refine (HNX.out false _ HW3.out).mono ?_; rintro e w4 ⟨rfl, hd⟩; have HD := Lib.hid hd; clear hd) | (at_builtin; refine wpList_append_lies _ rfl _ _ 36 rfl w.heap.size 4 i0 (.bool false) 1 1 Try.underlying36 hi hz0 hz1 hz2 rfl (by omega) v K ((List.range K).map F) rfl HG2.out ⟨g2, 0, none⟩ m cp2 ((List.range m).map (fun i => .bool (stF zs (whN s false) i))) rfl (by simp) HO2.out (by intro u hu; obtain ⟨z, _, rfl⟩ := List.mem_map.1 hu; simp [Value.oneCell']) (by omega) (by unfold maxLen; omega) (by omega) (by have := HSZ2.out; omega) w2.heap.size rfl ?_; intro gg cp w3 hown1 hgrow hat hlt3; have HO3 := Lib.hid (Gat.stepM hown1 (HEV.out false HBT.out)); have HW3 := Lib.hid (Below.grown HW2.out hgrow (by have := HSZ2.out; omega) (fun j hj => Nat.le_trans (by omega) (HNE.out j hj))); clear hown1 hgrow hat hlt3) | fail)
        exact ⟨⟨k + 1, _, K + m, _, _, by omega, rfl, rfl, by first | rfl | go_num | (congr 1), rfl, Lib.hid (HST.out false HBT.out).symm, Lib.hid (by rw [HK.out, Nat.succ_mul]), Lib.hid (HO3.out.keep HD.out.below), Lib.hid (Below.next HW3.out HD.out.below)⟩, by show n + M - ((k : Int) + 1).toNat < n + M - (k : Int).toNat; omega⟩
    · obtain rfl : k = n + M := by omega
      have hkd : decide (((n + M : Nat) : Int) < (n : Int) + (M : Int)) = false := decide_eq_false (by omega)
      have hpos : K ≠ 0 := by rw [HK.out]; have := Nat.mul_le_mul (show 1 ≤ n + M by omega) hm1; omega
      obtain ⟨g, cp, rfl, hnew⟩ := HG.out.new HWB.out hpos
      have HNW : Hid (New w wr g (.bl ((n + M) * m) (snF f n M zs m))) := Lib.hid (by rw [← HK.out]; rw [HFE.out] at hnew; exact hnew)
      have HKK := Lib.hid HK.out
      clear hnew HG
      go_wp2
      go_ret
      exact ⟨g, cp, by rw [HKK.out]; rfl, HNW.out⟩
/-- Is it sent? -/
def sbB (r : Int) (zs : List Int) (m n : Nat) : Bool := crB r zs m && decide (n ≤ 40)
theorem sb_out {r : Int} {zs : List Int} {m n : Nat} (h : sbB r zs m n = true) : crB r zs m = true ∧ n ≤ 40 := by
  unfold sbB at h; rw [Bool.and_eq_true] at h; exact ⟨h.1, of_decide_eq_true h.2⟩
set_option maxRecDepth 100000 in
set_option maxHeartbeats 4000000 in
theorem sb_spec (r : Int) (a : Option Addr) (m cap : Nat) (zs : List Int) (b : Option Addr) (n cap2 : Nat) (f : Nat → Bool) (w : World) (h : IRow w a m zs) (hb : BRow w b n f) (hm : m ≤ 1048576) (_ : n ≤ 1048576) (hok : sbB r zs m n = true) :
    Calls Try.prog 36 #[.agg #[.int .i64 r, .slice a m cap], .slice b n cap2] w fun e w' => ∃ g cp, e = .returned (.tuple #[.slice (some ⟨g, 0, none⟩) ((n + r.toNat) * m) cp, .bool true]) ∧ New w w' g (.bl ((n + r.toNat) * m) (snF f n r.toNat zs m)) := by
  obtain ⟨hcr, hn40⟩ := sb_out hok
  obtain ⟨hr, hm2, hz⟩ := cr_out hcr
  obtain ⟨M, rfl⟩ : ∃ M : Nat, r = (M : Int) := ⟨r.toNat, by omega⟩
  rw [Int.toNat_natCast] at hz ⊢
  have HC := two_cells' w (.int .i64 (M : Int)) (.slice a m cap) 31
  have HV := Lib.hid (hcr ▸ cr_spec w.heap.size (M : Int) a m cap zs (w.alloc (.cells #[.int .i64 (M : Int), .slice a m cap] 31)) (h.alloc _) hm HC.1 HC.2)
  have HS : Hid (∀ W, Drew (w.alloc (.cells #[.int .i64 (M : Int), .slice a m cap] 31)) W → Calls Try.prog 70 #[.pointer (some ⟨w.heap.size, 0, none⟩), .slice b n cap2] W fun e w' => ∃ g cp, e = .returned (.slice (some ⟨g, 0, none⟩) ((n + M) * m) cp) ∧ New W w' g (.bl ((n + M) * m) (snF f n M zs m))) := Lib.hid (fun W hd => sd_spec w.heap.size M n cap2 f b a m cap zs W ((h.alloc _).below hd.below) ((hb.alloc _).below hd.below) hn40 hm2 (by omega) hz (Nat.lt_of_lt_of_le (by simp) hd.below.size) (by rw [hd.below.cell (p := ⟨w.heap.size, 0, none⟩) (by simp)]; exact HC.1) (by rw [hd.below.cell (p := ⟨w.heap.size, 1, none⟩) (by simp)]; exact HC.2))
  have d1 : decide ((40 : Int) < (n : Int)) = false := decide_eq_false (by omega)
  obtain ⟨N, hN⟩ : ∃ N, N = (n + M) * m := ⟨_, rfl⟩
  rw [← hN] at HS ⊢
  clear hok hcr hr hm2 hz h hb HC hN
  go_enter Try.func36, Try.ntmps36
  go_wp2_with (first | (go_at_call 61; refine HV.out.mono ?_; rintro e w2 ⟨rfl, hd⟩; have HD := Lib.hid hd; clear hd) | (go_at_call 70; refine (HS.out _ HD.out).mono ?_; rintro e w3 ⟨g, cp, rfl, hnn⟩; have HN := Lib.hid hnn; clear hnn) | fail)
  have hb0 : Below w.heap.size w w2 := Below.next (belowA _ _) HD.out.below
  exact bodyPost_ret (v := .tuple #[.slice (some ⟨g, 0, none⟩) N cp, .bool true]) (by simp [results, Try.results36, go_sem]) rfl ⟨g, cp, rfl, Nat.le_trans hb0.size HN.out.1, HN.out.2.1, HN.out.2.2.1, Below.next hb0 HN.out.2.2.2⟩
set_option maxRecDepth 100000 in
set_option maxHeartbeats 4000000 in
theorem sb_specN (r : Int) (a : Option Addr) (m cap : Nat) (zs : List Int) (b : Option Addr) (n cap2 : Nat) (f : Nat → Bool) (w : World) (h : IRow w a m zs) (_ : BRow w b n f) (hm : m ≤ 1048576) (_ : n ≤ 1048576) (hok : sbB r zs m n = false) :
    Calls Try.prog 36 #[.agg #[.int .i64 r, .slice a m cap], .slice b n cap2] w fun e w' => e = .returned (.tuple #[.slice none 0 0, .bool false]) ∧ Below w.heap.size w w' := by
  have HC := two_cells' w (.int .i64 r) (.slice a m cap) 31
  have HV := Lib.hid (cr_spec w.heap.size r a m cap zs (w.alloc (.cells #[.int .i64 r, .slice a m cap] 31)) (h.alloc _) hm HC.1 HC.2)
  clear h HC
  cases hcr : crB r zs m with
  | true =>
    have d1 : decide ((40 : Int) < (n : Int)) = true := decide_eq_true (by
      have h2 : ¬ n ≤ 40 := fun e => by unfold sbB at hok; rw [hcr, decide_eq_true e] at hok; cases hok
      omega)
    rw [hcr] at HV
    clear hok hcr
    go_enter Try.func36, Try.ntmps36
    go_wp2_with (first | (go_at_call 61; refine HV.out.mono ?_; rintro e w2 ⟨rfl, hd⟩; have HD := Lib.hid hd; clear hd) | fail)
    exact bodyPost_ret (v := .tuple #[.slice none 0 0, .bool false]) (by simp [results, Try.results36, go_sem]) rfl ⟨rfl, Below.next (belowA _ _) HD.out.below⟩
  | false =>
    rw [hcr] at HV
    clear hok hcr
    go_enter Try.func36, Try.ntmps36
    go_wp2_with (first | (go_at_call 61; refine HV.out.mono ?_; rintro e w2 ⟨rfl, hd⟩; have HD := Lib.hid hd; clear hd) | fail)
    exact bodyPost_ret (v := .tuple #[.slice none 0 0, .bool false]) (by simp [results, Try.results36, go_sem]) rfl ⟨rfl, Below.next (belowA _ _) HD.out.below⟩
end Go.Proofs.Ytmfegjflaajkkaa
