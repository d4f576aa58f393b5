/- What comes out of a channel: functions. -/
import Derived.Test.YtffamppflelflaaHgi
import Derived.Test.YtffamppflelflaaSmv
namespace Go.Proofs.Ytffamppflelflaa
open Go.Proofs.Ytffamppflelflaa.Flo Go.RowKit

theorem row_num {zs : List Nat} {n k : Nat} (h : rowB zs n = true) (hk : k < n) : PosD ((FloatKind.f32).decode (zs.getD k 0)) ∧ finD ((FloatKind.f32).decode (zs.getD k 0)) = true := by
  obtain ⟨s, m, i, hd, hs, _⟩ := ch_each (row_n h).2 hk
  rw [hd]
  exact ⟨hs, rfl⟩
theorem row_num' {zs : List Nat} {R C i k : Nat} (h : rowsB zs R C = true) (hi : i < R) (hk : k < C) : PosD ((FloatKind.f32).decode (zs.getD (i * C + k) 0)) ∧ finD ((FloatKind.f32).decode (zs.getD (i * C + k) 0)) = true := by
  have := row_num (rows_at h hi) hk
  rwa [sub_get _ _ _ hk] at this
/-- The chance of what comes out, by and by. -/
def thrN (zr zc : List Nat) (C k : Nat) : Nat → Nat
  | 0 => 0
  | i + 1 => (floatBits .add .f32 (thrN zr zc C k i) ((floatBits .mul .f32 (zr.getD i 0) (zc.getD (i * C + k) 0)).getD 0)).getD 0
def thrV (zr zc : List Nat) (R C k : Nat) : Option Nat := cls .f32 (thrN zr zc C k R)
theorem thr_step {zr zc : List Nat} {R C k : Nat} (hr : rowB zr R = true) (hc : rowsB zc R C = true) (hk : k < C) : ∀ i, i ≤ R → PosD ((FloatKind.f32).decode (thrN zr zc C k i)) ∧
    (i < R → ∃ p, floatBits .mul .f32 (zr.getD i 0) (zc.getD (i * C + k) 0) = some p ∧ floatBits .add .f32 (thrN zr zc C k i) p = some (thrN zr zc C k (i + 1)))
  | 0, _ => by
    have h0 : PosD ((FloatKind.f32).decode 0) := by rw [dec_032]; exact .inl rfl
    refine ⟨h0, fun hi => ?_⟩
    obtain ⟨p, hp, hpp⟩ := floatBits_pos (row_num hr hi).1 (row_num' hc hi hk).1 (row_num hr hi).2 (row_num' hc hi hk).2
    obtain ⟨s, hs, _⟩ := floatBits_sum h0 hpp
    refine ⟨p, hp, ?_⟩
    show floatBits .add .f32 0 p = some ((floatBits .add .f32 0 ((floatBits .mul .f32 (zr.getD 0 0) (zc.getD (0 * C + k) 0)).getD 0)).getD 0)
    rw [hp]
    show floatBits .add .f32 0 p = some ((floatBits .add .f32 0 p).getD 0)
    rw [hs]; rfl
  | i + 1, hi => by
    obtain ⟨h1, h2⟩ := thr_step hr hc hk i (by omega)
    obtain ⟨p, hp, hs⟩ := h2 (by omega)
    have hpos : PosD ((FloatKind.f32).decode (thrN zr zc C k (i + 1))) := by
      obtain ⟨q, hq, hqp⟩ := floatBits_pos (row_num hr (show i < R by omega)).1 (row_num' hc (show i < R by omega) hk).1 (row_num hr (show i < R by omega)).2 (row_num' hc (show i < R by omega) hk).2
      rw [hp] at hq
      obtain rfl : p = q := by injection hq
      obtain ⟨t, ht, htp⟩ := floatBits_sum h1 hqp
      rw [hs] at ht
      obtain rfl : thrN zr zc C k (i + 1) = t := by injection ht
      exact htp
    refine ⟨hpos, fun hi2 => ?_⟩
    obtain ⟨q, hq, hqp⟩ := floatBits_pos (row_num hr hi2).1 (row_num' hc hi2 hk).1 (row_num hr hi2).2 (row_num' hc hi2 hk).2
    obtain ⟨t, ht, _⟩ := floatBits_sum hpos hqp
    refine ⟨q, hq, ?_⟩
    show floatBits .add .f32 (thrN zr zc C k (i + 1)) q = some ((floatBits .add .f32 (thrN zr zc C k (i + 1)) ((floatBits .mul .f32 (zr.getD (i + 1) 0) (zc.getD ((i + 1) * C + k) 0)).getD 0)).getD 0)
    rw [hq]
    show floatBits .add .f32 _ q = some ((floatBits .add .f32 _ q).getD 0)
    rw [ht]; rfl
def takeB (r c : Int) (zc : List Nat) (n : Nat) (zr : List Nat) (m : Nat) : Bool := chanB r c zc n && (decide ((m : Int) = r) && rowB zr m)
def okTh (r c : Int) (zc : List Nat) (n : Nat) (zr : List Nat) (m : Nat) : Bool := takeB r c zc n zr m && rowV (thrV zr zc r.toNat c.toNat) c.toNat
theorem take_out {r c : Int} {zc zr : List Nat} {n m : Nat} (h : takeB r c zc n zr m = true) : ∃ R C : Nat, r = R ∧ c = C ∧ n = R * C ∧ (1 ≤ R ∧ R ≤ 8) ∧ (1 ≤ C ∧ C ≤ 8) ∧ rowsB zc R C = true ∧ m = R ∧ rowB zr R = true := by
  unfold takeB at h
  rw [Bool.and_eq_true, Bool.and_eq_true] at h
  obtain ⟨R, C, rfl, rfl, h1, h2, h3, h4⟩ := chan_nat h.1
  have h5 := of_decide_eq_true h.2.1
  obtain rfl : m = R := by omega
  exact ⟨m, C, rfl, rfl, h1, h2, h3, h4, rfl, h.2.2⟩
set_option maxRecDepth 100000 in
set_option maxHeartbeats 4000000 in
theorem take_spec (p : Nat) (r c : Int) (a : Option Addr) (n cap : Nat) (zc : List Nat) (a2 : Option Addr) (m cap2 : Nat) (zr : List Nat) (w : World) (hc : FRow w a n zc) (hr : FRow w a2 m zr) (hn : n ≤ 1048576) (hm : m ≤ 1048576) (hcap : n ≤ cap) (ht : Tab w p r c a n cap) :
    Calls Try.prog 73 #[.pointer (some ⟨p, 0, none⟩), .slice a2 m cap2] w fun e w' => e = .returned (.bool (takeB r c zc n zr m)) ∧ Drew w w' := by
  have HA := Lib.hid hc
  have HB := Lib.hid hr
  have HT := Lib.hid ht
  obtain ⟨hp, h0, h1, h2⟩ := ht
  clear hc hr h1 h2
  cases h1 : chanB r c zc n with
  | false =>
    have HV : Hid (takeB r c zc n zr m = false) := Lib.hid (by unfold takeB; rw [h1]; rfl)
    go_enter Try.func73, Try.ntmps73
    go_wp2_with (first | (go_at_call 57; refine (is_spec _ r c a n cap zc _ HA.out hn hcap HT.out.2.1 HT.out.2.2.1 HT.out.2.2.2).mono ?_; rintro e w' ⟨rfl, q1, rfl⟩) | (go_at_call 91; refine (row_spec _ m _ zr _ (HB.out.drewN _) hm).mono ?_; rintro e w' ⟨rfl, q2, rfl⟩) | go_in)
    go_ret
    exact ⟨ret_bool2 HV.out.symm, Drew.mk _ _⟩
  | true =>
    by_cases he : (m : Int) = r
    · have hd : ((m : Int) == r) = true := by simpa using he
      have HV : Hid (takeB r c zc n zr m = rowB zr m) := Lib.hid (by unfold takeB; rw [h1, decide_eq_true he]; rfl)
      clear he
      cases h2 : rowB zr m with
      | false =>
        have HV : Hid (takeB r c zc n zr m = false) := Lib.hid (HV.out.trans h2)
        go_enter Try.func73, Try.ntmps73
        go_wp2_with (first | (go_at_call 57; refine (is_spec _ r c a n cap zc _ HA.out hn hcap HT.out.2.1 HT.out.2.2.1 HT.out.2.2.2).mono ?_; rintro e w' ⟨rfl, q1, rfl⟩) | (go_at_call 91; refine (row_spec _ m _ zr _ (HB.out.drewN _) hm).mono ?_; rintro e w' ⟨rfl, q2, rfl⟩) | go_in)
        go_ret
        exact ⟨ret_bool2 HV.out.symm, Drew.mk _ _⟩
      | true =>
        have HV : Hid (takeB r c zc n zr m = true) := Lib.hid (HV.out.trans h2)
        go_enter Try.func73, Try.ntmps73
        go_wp2_with (first | (go_at_call 57; refine (is_spec _ r c a n cap zc _ HA.out hn hcap HT.out.2.1 HT.out.2.2.1 HT.out.2.2.2).mono ?_; rintro e w' ⟨rfl, q1, rfl⟩) | (go_at_call 91; refine (row_spec _ m _ zr _ (HB.out.drewN _) hm).mono ?_; rintro e w' ⟨rfl, q2, rfl⟩) | go_in)
        go_ret
        exact ⟨ret_bool2 HV.out.symm, Drew.mk _ _⟩
    · have hd : ((m : Int) == r) = false := by simpa using he
      have HV : Hid (takeB r c zc n zr m = false) := Lib.hid (by unfold takeB; rw [h1, decide_eq_false he]; rfl)
      clear he
      cases h2 : rowB zr m with
      | false =>
        go_enter Try.func73, Try.ntmps73
        go_wp2_with (first | (go_at_call 57; refine (is_spec _ r c a n cap zc _ HA.out hn hcap HT.out.2.1 HT.out.2.2.1 HT.out.2.2.2).mono ?_; rintro e w' ⟨rfl, q1, rfl⟩) | (go_at_call 91; refine (row_spec _ m _ zr _ (HB.out.drewN _) hm).mono ?_; rintro e w' ⟨rfl, q2, rfl⟩) | go_in)
        go_ret
        exact ⟨ret_bool2 HV.out.symm, Drew.mk _ _⟩
      | true =>
        go_enter Try.func73, Try.ntmps73
        go_wp2_with (first | (go_at_call 57; refine (is_spec _ r c a n cap zc _ HA.out hn hcap HT.out.2.1 HT.out.2.2.1 HT.out.2.2.2).mono ?_; rintro e w' ⟨rfl, q1, rfl⟩) | (go_at_call 91; refine (row_spec _ m _ zr _ (HB.out.drewN _) hm).mono ?_; rintro e w' ⟨rfl, q2, rfl⟩) | go_in)
        go_ret
        exact ⟨ret_bool2 HV.out.symm, Drew.mk _ _⟩
set_option maxRecDepth 100000 in
set_option maxHeartbeats 4000000 in
theorem take_impl (r c : Int) (a : Option Addr) (n cap : Nat) (zc : List Nat) (a2 : Option Addr) (m cap2 : Nat) (zr : List Nat) (w : World) (hc : FRow w a n zc) (hr : FRow w a2 m zr) (hn : n ≤ 1048576) (hm : m ≤ 1048576) (hcap : n ≤ cap) :
    Calls Try.prog 76 #[.agg #[.int .i64 r, .int .i64 c, .slice a n cap], .slice a2 m cap2] w fun e w' => e = .returned (.bool (takeB r c zc n zr m)) ∧ Below w.heap.size w w' := by
  have HA := Lib.hid (hc.alloc (.cells #[.int .i64 r, .int .i64 c, .slice a n cap] 27))
  have HB := Lib.hid (hr.alloc (.cells #[.int .i64 r, .int .i64 c, .slice a n cap] 27))
  have HT := Lib.hid (Tab.new w r c a n cap 27)
  clear hc hr
  cases h1 : chanB r c zc n with
  | false =>
    have HV : Hid (takeB r c zc n zr m = false) := Lib.hid (by unfold takeB; rw [h1]; rfl)
    go_enter Try.func76, Try.ntmps76
    go_wp2_with (first | (go_at_call 18; refine (hv_impl r c a n cap zc _ HA.out hn hcap).mono ?_; rintro e w2 ⟨rfl, hb⟩; have HW := Lib.hid (Below.next (below_alloc _ _) hb); have HB := Lib.hid (HB.out.below hb); obtain ⟨_, hc0, _⟩ := HT.out.below hb; clear hb) | (go_at_call 60; refine (row_impl _ m _ zr _ HB.out hm).mono ?_; rintro e w' ⟨rfl, q2, rfl⟩) | go_in)
    go_ret
    exact ⟨ret_bool2 HV.out.symm, (by first | exact HW.out | exact Below.drewN' HW.out _)⟩
  | true =>
    by_cases he : (m : Int) = r
    · have hd : ((m : Int) == r) = true := by simpa using he
      have HV : Hid (takeB r c zc n zr m = rowB zr m) := Lib.hid (by unfold takeB; rw [h1, decide_eq_true he]; rfl)
      clear he
      cases h2 : rowB zr m with
      | false =>
        have HV : Hid (takeB r c zc n zr m = false) := Lib.hid (HV.out.trans h2)
        go_enter Try.func76, Try.ntmps76
        go_wp2_with (first | (go_at_call 18; refine (hv_impl r c a n cap zc _ HA.out hn hcap).mono ?_; rintro e w2 ⟨rfl, hb⟩; have HW := Lib.hid (Below.next (below_alloc _ _) hb); have HB := Lib.hid (HB.out.below hb); obtain ⟨_, hc0, _⟩ := HT.out.below hb; clear hb) | (go_at_call 60; refine (row_impl _ m _ zr _ HB.out hm).mono ?_; rintro e w' ⟨rfl, q2, rfl⟩) | go_in)
        go_ret
        exact ⟨ret_bool2 HV.out.symm, (by first | exact HW.out | exact Below.drewN' HW.out _)⟩
      | true =>
        have HV : Hid (takeB r c zc n zr m = true) := Lib.hid (HV.out.trans h2)
        go_enter Try.func76, Try.ntmps76
        go_wp2_with (first | (go_at_call 18; refine (hv_impl r c a n cap zc _ HA.out hn hcap).mono ?_; rintro e w2 ⟨rfl, hb⟩; have HW := Lib.hid (Below.next (below_alloc _ _) hb); have HB := Lib.hid (HB.out.below hb); obtain ⟨_, hc0, _⟩ := HT.out.below hb; clear hb) | (go_at_call 60; refine (row_impl _ m _ zr _ HB.out hm).mono ?_; rintro e w' ⟨rfl, q2, rfl⟩) | go_in)
        go_ret
        exact ⟨ret_bool2 HV.out.symm, (by first | exact HW.out | exact Below.drewN' HW.out _)⟩
    · have hd : ((m : Int) == r) = false := by simpa using he
      have HV : Hid (takeB r c zc n zr m = false) := Lib.hid (by unfold takeB; rw [h1, decide_eq_false he]; rfl)
      clear he
      cases h2 : rowB zr m with
      | false =>
        go_enter Try.func76, Try.ntmps76
        go_wp2_with (first | (go_at_call 18; refine (hv_impl r c a n cap zc _ HA.out hn hcap).mono ?_; rintro e w2 ⟨rfl, hb⟩; have HW := Lib.hid (Below.next (below_alloc _ _) hb); have HB := Lib.hid (HB.out.below hb); obtain ⟨_, hc0, _⟩ := HT.out.below hb; clear hb) | (go_at_call 60; refine (row_impl _ m _ zr _ HB.out hm).mono ?_; rintro e w' ⟨rfl, q2, rfl⟩) | go_in)
        go_ret
        exact ⟨ret_bool2 HV.out.symm, (by first | exact HW.out | exact Below.drewN' HW.out _)⟩
      | true =>
        go_enter Try.func76, Try.ntmps76
        go_wp2_with (first | (go_at_call 18; refine (hv_impl r c a n cap zc _ HA.out hn hcap).mono ?_; rintro e w2 ⟨rfl, hb⟩; have HW := Lib.hid (Below.next (below_alloc _ _) hb); have HB := Lib.hid (HB.out.below hb); obtain ⟨_, hc0, _⟩ := HT.out.below hb; clear hb) | (go_at_call 60; refine (row_impl _ m _ zr _ HB.out hm).mono ?_; rintro e w' ⟨rfl, q2, rfl⟩) | go_in)
        go_ret
        exact ⟨ret_bool2 HV.out.symm, (by first | exact HW.out | exact Below.drewN' HW.out _)⟩
set_option maxRecDepth 100000 in
set_option maxHeartbeats 4000000 in
theorem th_spec (p b off R C n cap : Nat) (zc : List Nat) (a2 : Option Addr) (cap2 : Nat) (zr : List Nat) (w : World) (ht : Tab w p R C (some ⟨b, off, none⟩) n cap)
    (hc : FRow w (some ⟨b, off, none⟩) n zc) (hr : FRow w a2 R zr) (hn : n = R * C) (hR : 1 ≤ R ∧ R ≤ 8) (hC : 1 ≤ C ∧ C ≤ 8) (hrow : rowB zr R = true) (hrows : rowsB zc R C = true) :
    Calls Try.prog 75 #[.pointer (some ⟨p, 0, none⟩), .slice a2 R cap2] w fun e w' => ∃ v, e = .returned v ∧ Got w' w.heap.size 32 v C (thrV zr zc R C) ∧ Below w.heap.size w w' := by
  obtain ⟨i0, hi, hz0, hz1, hz2⟩ := info_parts Try.info32
  obtain ⟨hp, h0, h1, h2⟩ := ht
  have HA := Lib.hid hc
  have HB := Lib.hid hr
  have HN := Lib.hid hn
  have HROW := Lib.hid hrow
  have HROWS := Lib.hid hrows
  have HE := Lib.hid (Got.empty w 32 (thrV zr zc R C))
  have H0 := Lib.hid h0
  have H1 := Lib.hid h1
  have H2 := Lib.hid h2
  obtain ⟨hR1, hR2⟩ := hR
  obtain ⟨hC1, hC2⟩ := hC
  have hn64 : n ≤ 64 := by rw [hn]; exact Nat.le_trans (Nat.mul_le_mul hR2 hC2) (by decide)
  have hdz : ∀ w2 : World, w2.drewN 0 = w2 := World.drewN_zero
  clear hc hr hn hrow hrows h0 h1 h2
  go_enter Try.func75, Try.ntmps75
  go_wp2
  go_loopw [5, 6] (fun v0 iv wr0 => ∃ (k : Nat) (v : Value) (wr : World), k ≤ C ∧ v = v0 ∧ iv = .int .i64 k ∧ wr = wr0 ∧ Hid (Got wr w.heap.size 32 v k (thrV zr zc R C)) ∧ Hid (Below w.heap.size w wr)) (fun _ iv _ => C - (intOf iv).toNat)
  case atStart => exact ⟨0, _, _, by omega, rfl, rfl, rfl, Lib.hid HE.out, Lib.hid ((Below.refl _ _).alloc (Nat.le_refl _) _)⟩
  case round =>
    obtain ⟨k, v, wr, hk, rfl, rfl, rfl, HO, HW⟩ := hrel
    have hc0 : wr.cell? ⟨p, 0, none⟩ = some (.int .i64 (R : Int)) := (HW.out.cell (p := ⟨p, 0, none⟩) hp).trans H0.out
    have hc1 : wr.cell? ⟨p, 1, none⟩ = some (.int .i64 (C : Int)) := (HW.out.cell (p := ⟨p, 1, none⟩) hp).trans H1.out
    have hc2 : wr.cell? ⟨p, 2, none⟩ = some (.slice (some ⟨b, off, none⟩) n cap) := (HW.out.cell (p := ⟨p, 2, none⟩) hp).trans H2.out
    by_cases hltk : k < C
    · go_wp2
      go_loopw [7, 8] (fun sv iv w' => ∃ i q : Nat, i ≤ R ∧ sv = .float .f32 (thrN zr zc C k i) ∧ iv = .int .i64 i ∧ w' = wr.drewN q) (fun _ iv _ => R - (intOf iv).toNat)
      case atStart => exact ⟨0, 0, by omega, rfl, rfl, rfl⟩
      case round =>
        obtain ⟨i, q, hki, rfl, rfl, rfl⟩ := hrel
        by_cases hlti : i < R
        · obtain ⟨b2, o2, rfl, hck2⟩ := (HB.out.below HW.out).cell hlti
          obtain ⟨a, ha⟩ : ∃ a, a = i * C := ⟨_, rfl⟩
          obtain ⟨x, hx⟩ : ∃ x, x = a + k := ⟨_, rfl⟩
          have hxn : x < n := by rw [hx, ha]; exact mul_in HN.out hlti hltk
          obtain ⟨pp, hmul, hadd⟩ := (thr_step HROW.out HROWS.out hltk i (by omega)).2 hlti
          rw [← ha, ← hx] at hmul
          have hw1 : IntKind.i64.wrap ((i : Int) * (C : Int)) = (a : Int) := by rw [ha, Int.natCast_mul]; exact IntWalk.i64_in _ (by rw [← Int.natCast_mul]; omega)
          have hw2 : IntKind.i64.wrap ((a : Int) + (k : Int)) = (x : Int) := by rw [IntWalk.i64_in _ (by omega)]; omega
          have hck : wr.cell? ⟨b, off + x, none⟩ = some (.float .f32 (zc.getD x 0)) := row_cell2 (HA.out.below HW.out) hxn
          have hr1 := fun w2 => fres_some hmul w2
          have hf1 := fcnt_some hmul
          have hr2 := fun w2 => fres_some hadd w2
          have hf2 := fcnt_some hadd
          clear ha hx hmul hadd
          generalize zr.getD i 0 = y at hck2 hr1 hf1
          generalize zc.getD x 0 = z at hck hr1 hf1
          generalize hsv : thrN zr zc C k (i + 1) = sv at hr2 hf2
          have HSV := Lib.hid hsv
          clear hsv
          go_wp2
          go_quiet (fail)
          go_wp2
          exact ⟨⟨i + 1, _, by omega, by rw [HSV.out], by first | rfl | go_num | (congr 1), rfl⟩, by show R - ((i : Int) + 1).toNat < R - (i : Int).toNat; omega⟩
        · obtain rfl : i = R := by omega
          obtain ⟨zs0, hzz, ho⟩ := HO.out
          have HZ := Lib.hid hzz
          have HO1 := Lib.hid ho
          have HNE := Lib.hid (own_block ho)
          have HB3 := Lib.hid HW.out.size
          clear hzz ho
          go_wp2_with (first | (at_builtin; refine wpList_append_lies _ rfl _ _ 22 rfl w.heap.size 32 i0 (.float .f32 0) 1 4 Try.underlying22 hi hz0 hz1 hz2 rfl (by omega) v k (zs0.map (Value.float .f32)) rfl (World.ownsRow.alloc HO1.out _) ⟨wr.heap.size, 0, none⟩ 1 1 [.float .f32 (thrN zr zc C k i)] rfl rfl (World.news_of_block (cs := #[.float .f32 (thrN zr zc C k i)]) (t := 32) (fr := (0, 0)) (heap_alloc_new _ _)) (by simp [Value.oneCell']) (by omega) (by unfold maxLen; omega) (by omega) (by have := HB3.out; simp; omega) (wr.heap.size + 1) (by simp) ?_; intro gg cp w1 hown1 hgrow hat hlt2; have HO2 := Lib.hid hown1; have HG := Lib.hid hgrow; clear hown1 hgrow hat hlt2) | go_in)
          exact ⟨⟨k + 1, _, _, by omega, rfl, by first | rfl | go_num | (congr 1), rfl, Lib.hid (Got.step HZ.out (Got.len HO1.out) rfl HO2.out), Lib.hid (Below.grown ((Below.drewN' HW.out _).alloc HW.out.size _) HG.out (by have := HB3.out; simp; omega) HNE.out)⟩, by show C - ((k : Int) + 1).toNat < C - (k : Int).toNat; omega⟩
    · obtain rfl : k = C := by omega
      go_wp2
      go_ret
      exact ⟨_, rfl, HO.out, HW.out⟩
/-- Cells of numbers, in a block of their own. -/
def FCell (w : World) (p n : Nat) (f : Nat → Nat) : Prop := p < w.heap.size ∧ ∀ j, j < n → w.cell? ⟨p, j, none⟩ = some (.float .f32 (f j)) ∧ w.frozen? ⟨p, j, none⟩ = false
theorem FCell.put {w : World} {p n k z : Nat} {f : Nat → Nat} (h : FCell w p n f) (hk : k < n) : FCell (w.setCell ⟨p, k, none⟩ (.float .f32 z)) p n (fun j => if j = k then z else f j) := by
  refine ⟨by rw [World.size_setCell]; exact h.1, fun j hj => ⟨?_, by rw [World.frozen?_setCell]; exact (h.2 j hj).2⟩⟩
  by_cases e : j = k
  · subst e
    rw [World.cell?_setCell_same (h := (h.2 j hj).1)]; simp
  · rw [World.cell?_setCell_other (h := fun e2 => e (by injection e2 with _ e3 _; exact e3.symm)), (h.2 j hj).1]; simp [e]
theorem FCell.drewN {w : World} {p n : Nat} {f : Nat → Nat} (h : FCell w p n f) (q : Nat) : FCell (w.drewN q) p n f := h
theorem FCell.drew {w : World} {p n : Nat} {f : Nat → Nat} (h : FCell w p n f) : FCell w.drew p n f := h
theorem FCell.eq {w : World} {p n : Nat} {f f' : Nat → Nat} (h : FCell w p n f) (e : ∀ j, j < n → f j = f' j) : FCell w p n f' := ⟨h.1, fun j hj => by rw [← e j hj]; exact h.2 j hj⟩
theorem FCell.below {w w' : World} {p n : Nat} {f : Nat → Nat} (h : FCell w p n f) (hb : Below w.heap.size w w') : FCell w' p n f :=
  ⟨Nat.lt_of_lt_of_le h.1 hb.size, fun j hj => ⟨(hb.cell (p := ⟨p, j, none⟩) h.1).trans (h.2 j hj).1, (hb.frozen (p := ⟨p, j, none⟩) h.1).trans (h.2 j hj).2⟩⟩
theorem FCell.ent {w : World} {p n : Nat} {f : Nat → Nat} {V : Nat → Option Nat} (h : FCell w p n f) (hV : ∀ j, j < n → cls .f32 (f j) = V j) : Ent.ok w p (.cl n V) := by
  refine ⟨(List.range n).map f, fun i hi => ?_, by show ((List.range n).map f).length = n; simp, fun i hi => ?_⟩
  · rw [← hV i hi]; simp [List.getD_eq_getElem?_getD, hi]
  · have hi : i < n := hi
    have e : (Ent.fl n ((List.range n).map f)).cell i = .float .f32 (f i) := by show Value.float .f32 (((List.range n).map f).getD i 0) = _; simp [List.getD_eq_getElem?_getD, hi]
    rw [e]; exact h.2 i hi
theorem rows_far {w : World} {g b off R C : Nat} (h : RowsAt w g b off R C) {p : Addr} (hp : p.block ≠ g) (v : Value) : RowsAt (w.setCell p v) g b off R C :=
  ⟨by rw [World.size_setCell]; exact h.1, fun i hi => by rw [World.cell?_setCell_far _ _ _ _ hp]; exact h.2 i hi⟩
theorem FRow.drew' {w : World} {a : Option Addr} {n : Nat} {zs : List Nat} (h : FRow w a n zs) : FRow w.drew a n zs := h
theorem fcell_new (w : World) (n : Nat) (T : TypeId) : FCell (w.alloc (.cells (madeCells #[Value.float .f32 0] n) T)) w.heap.size n (fun _ => 0) := by
  refine ⟨by simp, fun j hj => ⟨?_, World.frozen?_alloc_at _ _ _ _ rfl⟩⟩
  rw [World.cell?_alloc_at _ _ _ _ rfl, made_eq]
  simp [hj]
set_option maxRecDepth 100000 in
set_option maxHeartbeats 8000000 in
theorem th_impl (b off R C n cap : Nat) (zc : List Nat) (a2 : Option Addr) (cap2 : Nat) (zr : List Nat) (w : World)
    (hc : FRow w (some ⟨b, off, none⟩) n zc) (hr : FRow w a2 R zr) (hn : n = R * C) (hR : 1 ≤ R ∧ R ≤ 8) (hC : 1 ≤ C ∧ C ≤ 8) (hcap : n ≤ cap) (hrow : rowB zr R = true) (hrows : rowsB zc R C = true) :
    Calls Try.prog 78 #[.agg #[.int .i64 (R : Int), .int .i64 (C : Int), .slice (some ⟨b, off, none⟩) n cap], .slice a2 R cap2] w fun e w' => ∃ g, e = .returned (.slice (some ⟨g, 0, none⟩) C C) ∧ New w w' g (.cl C (thrV zr zc R C)) := by
  have HN := Lib.hid hn
  have HROW := Lib.hid hrow
  have HROWS := Lib.hid hrows
  have HCAP := Lib.hid hcap
  have HRR := Lib.hid hR
  have HCC := Lib.hid hC
  obtain ⟨hR1, hR2⟩ := hR
  obtain ⟨hC1, hC2⟩ := hC
  have hn64 : n ≤ 64 := by rw [hn]; exact Nat.le_trans (Nat.mul_le_mul hR2 hC2) (by decide)
  obtain ⟨b2, o2, rfl⟩ := hr.some (by omega : 0 < R)
  have hb2l : b2 < w.heap.size := frow_block hr (by omega)
  have hdz : ∀ w2 : World, w2.drewN 0 = w2 := World.drewN_zero
  have hmk := fun w2 : World => run_make_row' (P := Try.prog) 22 32 (.float .f32 0) 4 Try.underlying22 Try.info32 rfl .i64 .i64 C (by omega) (by omega) w2
  have HA0 := Lib.hid ((hc.alloc (.cells #[.int .i64 (R : Int), .int .i64 (C : Int), .slice (some ⟨b, off, none⟩) n cap] 27)).alloc (.cells (madeCells #[Value.float .f32 0] C) 32))
  have HB0 := Lib.hid ((hr.alloc (.cells #[.int .i64 (R : Int), .int .i64 (C : Int), .slice (some ⟨b, off, none⟩) n cap] 27)).alloc (.cells (madeCells #[Value.float .f32 0] C) 32))
  have hbl : b < w.heap.size := frow_block hc (by rw [hn]; exact Nat.mul_pos hR1 hC1)
  have HF0 : Hid (FCell ((w.alloc (.cells #[.int .i64 (R : Int), .int .i64 (C : Int), .slice (some ⟨b, off, none⟩) n cap] 27)).alloc (.cells (madeCells #[Value.float .f32 0] C) 32)) (w.heap.size + 1) C (fun _ => 0)) := Lib.hid (by
    have h := fcell_new (w.alloc (.cells #[.int .i64 (R : Int), .int .i64 (C : Int), .slice (some ⟨b, off, none⟩) n cap] 27)) C 32
    have e : (w.alloc (.cells #[.int .i64 (R : Int), .int .i64 (C : Int), .slice (some ⟨b, off, none⟩) n cap] 27)).heap.size = w.heap.size + 1 := by simp
    rw [e] at h
    exact h)
  have HW0 : Hid (Below w.heap.size w ((w.alloc (.cells #[.int .i64 (R : Int), .int .i64 (C : Int), .slice (some ⟨b, off, none⟩) n cap] 27)).alloc (.cells (madeCells #[Value.float .f32 0] C) 32))) := Lib.hid (Below.next (below_alloc _ _) (below_alloc _ _))
  clear hc hr hn hrow hrows hcap
  go_enter Try.func78, Try.ntmps78
  go_wp2_with (first | (go_at_call 59; refine (ro_impl b off R C n cap _ HN.out HRR.out HCC.out HCAP.out).mono ?_; rintro e w2 ⟨g, rfl, hg, hge, hb⟩; have HG := Lib.hid hg; have HGE := Lib.hid hge; have HA := Lib.hid (HA0.out.below hb); have HB := Lib.hid (HB0.out.below hb); have HF := Lib.hid (HF0.out.below hb); have HW := Lib.hid (Below.next HW0.out hb); clear hg hge hb) | go_in)
  clear hmk HA0 HB0 HF0 HW0
  have HGE2 : Hid (w.heap.size + 2 ≤ g) := Lib.hid (by have := HGE.out; simp at this; omega)
  clear HGE
  go_loopw [16] (fun iv w' => ∃ (i : Nat) (wr : World), i ≤ R ∧ iv = .int .i64 i ∧ wr = w' ∧ Hid (FCell wr (w.heap.size + 1) C (fun k => thrN zr zc C k i)) ∧ Hid (Below (w.heap.size + 1) w2 wr) ∧ Hid (RowsAt wr g b off R C) ∧ Hid (FRow wr (some ⟨b, off, none⟩) n zc) ∧ Hid (FRow wr (some ⟨b2, o2, none⟩) R zr)) (fun iv _ => R - (intOf iv).toNat)
  case atStart => exact ⟨0, _, by omega, rfl, rfl, HF, Lib.hid (Below.refl _ _), HG, HA, HB⟩
  case round =>
    clear HF HG HA HB
    obtain ⟨i, wr0, hki, rfl, rfl, HF, HD, HG, HA, HB⟩ := hrel
    by_cases hlti : i < R
    · have hrs : wr0.cell? ⟨g, i, none⟩ = some (.slice (some ⟨b, off + i * C, none⟩) C C) := HG.out.2 i hlti
      go_wp2
      clear hrs
      go_loopw [23] (fun kv w' => ∃ (k : Nat) (wr : World), k ≤ C ∧ kv = .int .i64 k ∧ wr = w' ∧ Hid (FCell wr (w.heap.size + 1) C (fun j => if j < k then thrN zr zc C j (i + 1) else thrN zr zc C j i)) ∧ Hid (Below (w.heap.size + 1) w2 wr) ∧ Hid (RowsAt wr g b off R C) ∧ Hid (FRow wr (some ⟨b, off, none⟩) n zc) ∧ Hid (FRow wr (some ⟨b2, o2, none⟩) R zr)) (fun kv _ => C - (intOf kv).toNat)
      case atStart => exact ⟨0, _, by omega, rfl, rfl, Lib.hid (HF.out.eq (fun j _ => by rw [if_neg (Nat.not_lt_zero _)])), HD, HG, HA, HB⟩
      case round =>
        clear HF HD HG HA HB
        obtain ⟨k, wr, hkk, rfl, rfl, HF, HD, HG, HA, HB⟩ := hrel
        by_cases hltk : k < C
        · have hck2 : wr.cell? ⟨b2, o2 + i, none⟩ = some (.float .f32 (zr.getD i 0)) := row_cell2 HB.out hlti
          obtain ⟨a, ha⟩ : ∃ a, a = i * C := ⟨_, rfl⟩
          obtain ⟨x, hx⟩ : ∃ x, x = a + k := ⟨_, rfl⟩
          have hxn : x < n := by rw [hx, ha]; exact mul_in HN.out hlti hltk
          obtain ⟨pp, hmul, hadd⟩ := (thr_step HROW.out HROWS.out hltk i (by omega)).2 hlti
          rw [← ha, ← hx] at hmul
          have hck : wr.cell? ⟨b, off + i * C + k, none⟩ = some (.float .f32 (zc.getD x 0)) := by rw [Nat.add_assoc, ← ha, ← hx]; exact row_cell2 HA.out hxn
          have hr1 := fun w2 => fres_some hmul w2
          have hf1 := fcnt_some hmul
          have hr2 := fun w2 => fres_some hadd w2
          have hf2 := fcnt_some hadd
          have hct : wr.cell? ⟨w.heap.size + 1, k, none⟩ = some (.float .f32 (thrN zr zc C k i)) := by rw [(HF.out.2 k hltk).1]; simp
          have hfz := (HF.out.2 k hltk).2
          have hst : ∀ (a : Addr) (m : Mode) (x : Nat) (w : World), (store a (.float .f32 x) m).run Try.prog w = stored Try.prog w a (.float .f32 x) m := fun a m x w => run_store Try.prog w a (.float .f32 x) m rfl
          clear ha hx hmul hadd
          generalize zr.getD i 0 = y at hck2 hr1 hf1
          generalize zc.getD x 0 = z at hck hr1 hf1
          generalize thrN zr zc C k i = s0 at hct hr2 hf2
          generalize hsv : thrN zr zc C k (i + 1) = sv at hr2 hf2
          have HSV := Lib.hid hsv
          clear hsv
          go_wp2
          go_region
          all_goals
            go_wp2
            exact ⟨⟨k + 1, _, by omega, by first | rfl | go_num | (congr 1), rfl, Lib.hid ((FCell.put (by first | exact HF.out | exact HF.out.drew | exact HF.out.drewN _) hltk).eq (fun j hj => by
              by_cases e : j = k
              · subst e; rw [if_pos rfl, if_pos (by omega), HSV.out]
              · rw [if_neg e]; by_cases e2 : j < k
                · rw [if_pos e2, if_pos (by omega)]
                · rw [if_neg e2, if_neg (by omega)])), Lib.hid (by first | exact Below.setCell HD.out (p := ⟨w.heap.size + 1, k, none⟩) (Nat.le_refl (w.heap.size + 1)) _ | exact Below.drew (Below.setCell HD.out (p := ⟨w.heap.size + 1, k, none⟩) (Nat.le_refl (w.heap.size + 1)) _) | exact Below.drewN' (Below.setCell HD.out (p := ⟨w.heap.size + 1, k, none⟩) (Nat.le_refl (w.heap.size + 1)) _) _ | exact Below.setCell (Below.drew HD.out) (p := ⟨w.heap.size + 1, k, none⟩) (Nat.le_refl (w.heap.size + 1)) _), Lib.hid (rows_far (by first | exact HG.out | exact HG.out.drew | exact HG.out.drewN _) (by show w.heap.size + 1 ≠ g; have := HGE2.out; omega) _), Lib.hid (FRow.setCell (by first | exact HA.out | exact HA.out.drew' | exact HA.out.drewN _) _ (by intro b3 o3 e; injection e with e; injection e with e1 _; show w.heap.size + 1 ≠ b3; omega)), Lib.hid (FRow.setCell (by first | exact HB.out | exact HB.out.drew' | exact HB.out.drewN _) _ (by intro b3 o3 e; injection e with e; injection e with e1 _; show w.heap.size + 1 ≠ b3; omega))⟩, by show C - ((k : Int) + 1).toNat < C - (k : Int).toNat; omega⟩
        · obtain rfl : k = C := by omega
          go_wp2
          exact ⟨⟨i + 1, _, by omega, by first | rfl | go_num | (congr 1), rfl, Lib.hid (HF.out.eq (fun j hj => by rw [if_pos hj])), HD, HG, HA, HB⟩, by show R - ((i : Int) + 1).toNat < R - (i : Int).toNat; omega⟩
    · obtain rfl : i = R := by omega
      go_wp2
      go_ret
      exact ⟨_, rfl, by omega, HF.out.1, HF.out.ent (fun j _ => rfl), HW.out.trans (HD.out.mono (by omega))⟩
end Go.Proofs.Ytffamppflelflaa
