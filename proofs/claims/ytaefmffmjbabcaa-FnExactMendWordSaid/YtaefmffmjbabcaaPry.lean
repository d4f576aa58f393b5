
/- Parities: the small functions over words. -/
import Derived.Test.YtaefmffmjbabcaaPrx
namespace Go.Proofs.Ytaefmffmjbabcaa
open Go.Proofs.Ytaefmffmjbabcaa.Flo Go.RowKit Go.Proofs.Ytaefmffmjbabcaa.Pr

theorem p2_16 {m : Nat} (h : m ≤ 16) : (1 : Int) ≤ 2 ^ m ∧ (2 : Int) ^ m ≤ 65536 := by
  have h1 : 2 ^ m ≤ 2 ^ 16 := Nat.pow_le_pow_right (by decide) h
  have h2 : 0 < 2 ^ m := Nat.two_pow_pos m
  have e : ((2 ^ m : Nat) : Int) = 2 ^ m := by rw [Int.natCast_pow]; rfl
  rw [← e]
  have h1 : 2 ^ m ≤ 65536 := h1
  omega
set_option maxHeartbeats 1000000 in
theorem has_spec (x m : Nat) (w : World) (hx : x < 2 ^ 62) (hm : m ≤ 62) : Calls Try.prog 148 #[.int .i64 (x : Int), .int .i64 (m : Int)] w fun e w' => e = .returned (.bool (x.testBit m)) ∧ w = w' := by
  have hmin : min m 64 = m := by omega
  have hb := b_bit x m hx
  cases ht : x.testBit m with
  | true =>
    rw [ht] at hb
    simp only [if_true] at hb
    clear ht
    go_enter Try.func148, Try.ntmps148
    go_wp2
    go_ret
    exact ⟨rfl, rfl⟩
  | false =>
    rw [ht] at hb
    simp only [Bool.false_eq_true, if_false] at hb
    clear ht
    go_enter Try.func148, Try.ntmps148
    go_wp2
    go_ret
    exact ⟨rfl, rfl⟩
set_option maxHeartbeats 1000000 in
theorem word_spec (x : Int) (m : Nat) (w : World) (hm : m ≤ 16) : Calls Try.prog 119 #[.int .i64 x, .int .i64 (m : Int)] w fun e w' => e = .returned (.bool (woB x m)) ∧ w = w' := by
  have hmin : min m 64 = m := by omega
  obtain ⟨hp0, hp1⟩ := p2_16 hm
  have hwr : IntKind.i64.wrap ((2 : Int) ^ m) = 2 ^ m := IntWalk.i64_in _ (by omega)
  have hw2 : IntKind.i64.wrap ((2 : Int) ^ m - 1) = 2 ^ m - 1 := IntWalk.i64_in _ (by omega)
  by_cases h : 0 ≤ x ∧ x ≤ 2 ^ m - 1
  · have H := Lib.hid h
    have HF : Hid (woB x m = true) := Lib.hid (decide_eq_true (by omega))
    clear h
    go_enter Try.func119, Try.ntmps119
    go_wp2_with (first | (go_at_call 67; refine (in_true x 0 (2 ^ m - 1) _ H.out.1 H.out.2).mono ?_; rintro e w' ⟨rfl, hw⟩; have hw := hw.symm; subst hw) | go_in)
    go_ret
    exact ⟨ret_bool2 HF.out.symm, rfl⟩
  · have H := Lib.hid h
    have HF : Hid (woB x m = false) := Lib.hid (decide_eq_false (by omega))
    clear h
    go_enter Try.func119, Try.ntmps119
    go_wp2_with (first | (go_at_call 67; refine (in_false x 0 (2 ^ m - 1) _ H.out).mono ?_; rintro e w' ⟨rfl, hw⟩; have hw := hw.symm; subst hw) | go_in)
    go_ret
    exact ⟨ret_bool2 HF.out.symm, rfl⟩
set_option maxHeartbeats 1000000 in
theorem word_impl (x : Int) (m : Nat) (w : World) (hm : m ≤ 16) : Calls Try.prog 113 #[.int .i64 x, .int .i64 (m : Int)] w fun e w' => e = .returned (.bool (woB x m)) ∧ w = w' := by
  have hmin : min m 64 = m := by omega
  obtain ⟨hp0, hp1⟩ := p2_16 hm
  have hwr : IntKind.i64.wrap ((2 : Int) ^ m) = 2 ^ m := IntWalk.i64_in _ (by omega)
  by_cases h0 : 0 ≤ x
  · have d0 : decide (0 ≤ x) = true := decide_eq_true h0
    by_cases h1 : x < 2 ^ m
    · have d1 : decide (x < (2 : Int) ^ m) = true := decide_eq_true h1
      have HF : Hid (woB x m = true) := Lib.hid (decide_eq_true ⟨h0, h1⟩)
      clear h0 h1
      go_enter Try.func113, Try.ntmps113
      go_wp2
      go_ret
      exact ⟨ret_bool2 HF.out.symm, rfl⟩
    · have d1 : decide (x < (2 : Int) ^ m) = false := decide_eq_false h1
      have HF : Hid (woB x m = false) := Lib.hid (decide_eq_false (fun e => h1 e.2))
      clear h0 h1
      go_enter Try.func113, Try.ntmps113
      go_wp2
      go_ret
      exact ⟨ret_bool2 HF.out.symm, rfl⟩
  · have d0 : decide (0 ≤ x) = false := decide_eq_false h0
    have HF : Hid (woB x m = false) := Lib.hid (decide_eq_false (fun e => h0 e.1))
    clear h0
    go_enter Try.func113, Try.ntmps113
    go_wp2
    go_ret
    exact ⟨ret_bool2 HF.out.symm, rfl⟩
def wiB (n : Int) : Bool := decide (1 ≤ n ∧ n ≤ 16)
set_option maxHeartbeats 1000000 in
theorem wide_impl (n : Int) (w : World) : Calls Try.prog 172 #[.int .i64 n] w fun e w' => e = .returned (.bool (wiB n)) ∧ w = w' := by
  by_cases h0 : 1 ≤ n
  · have d0 : decide (1 ≤ n) = true := decide_eq_true h0
    by_cases h1 : n ≤ 16
    · have d1 : decide (n ≤ 16) = true := decide_eq_true h1
      have HF : Hid (wiB n = true) := Lib.hid (decide_eq_true ⟨h0, h1⟩)
      clear h0 h1
      go_enter Try.func172, Try.ntmps172
      go_wp2
      go_ret
      exact ⟨ret_bool2 HF.out.symm, rfl⟩
    · have d1 : decide (n ≤ 16) = false := decide_eq_false h1
      have HF : Hid (wiB n = false) := Lib.hid (decide_eq_false (fun e => h1 e.2))
      clear h0 h1
      go_enter Try.func172, Try.ntmps172
      go_wp2
      go_ret
      exact ⟨ret_bool2 HF.out.symm, rfl⟩
  · have d0 : decide (1 ≤ n) = false := decide_eq_false h0
    have HF : Hid (wiB n = false) := Lib.hid (decide_eq_false (fun e => h0 e.1))
    clear h0
    go_enter Try.func172, Try.ntmps172
    go_wp2
    go_ret
    exact ⟨ret_bool2 HF.out.symm, rfl⟩
/-- Numbers of the call's own, or none. -/
theorem own_rowI {w : World} {base : Nat} {T : TypeId} {v : Value} {k : Nat} {L : List Int} (h : w.ownsRow base T 1 v k (L.map (Value.int .i64))) : ∃ a cp, v = .slice a k cp ∧ IRow w a k L := by
  have hl : L.length = k := by simpa using h.1
  by_cases h0 : k = 0
  · subst h0
    rcases h.2 with ⟨e, _⟩ | ⟨g, cap, cur, e, _⟩
    · exact ⟨none, 0, e, hl, .inl rfl⟩
    · exact ⟨_, cap, e, hl, .inl rfl⟩
  · obtain ⟨g, cp, rfl, hg, hgl⟩ := World.ownsRow.form h (by omega)
    exact ⟨_, cp, rfl, (ICl.own h h0).1.row⟩
def nL (l : List Nat) : List Int := l.map (fun x : Nat => (x : Int))
theorem nL_get (l : List Nat) (i : Nat) : (nL l).getD i 0 = ((l.getD i 0 : Nat) : Int) := by
  unfold nL
  rw [List.getD_eq_getElem?_getD, List.getD_eq_getElem?_getD, List.getElem?_map]
  cases l[i]? <;> rfl
theorem nL_on (z : Nat → Nat) (k : Nat) : (nL (lefts z (k + 1))).map (Value.int .i64) = (nL (lefts z k)).map (Value.int .i64) ++ [.int .i64 ((lf z k : Nat) : Int)] := by
  show ((lefts z k ++ [lf z k]).map (fun x : Nat => (x : Int))).map (Value.int .i64) = _
  simp [nL]
theorem rdx_lt {f : Nat → Nat} {x r : Nat} (hx : x < 2 ^ r) : ∀ j, rdx f x j < 2 ^ r
  | 0 => hx
  | j + 1 => by
    have := rdx_lt (f := f) hx j
    show min (rdx f x j) (rdx f x j ^^^ f j) < 2 ^ r
    omega
theorem lf_lt {z : Nat → Nat} {k r : Nat} (h : z k < 2 ^ r) : lf z k < 2 ^ r := rdx_lt h k
theorem lfs_lt {z : Nat → Nat} {k r i : Nat} (h : ∀ j, j < k → z j < 2 ^ r) (hi : i < k) : (lefts z k).getD i 0 < 2 ^ r := by
  rw [lefts_get z k i hi]; exact lf_lt (h i hi)
set_option maxRecDepth 100000 in
set_option maxHeartbeats 4000000 in
theorem ap_impl (a : Option Addr) (n cap : Nat) (zs : List Int) (w : World) (h : IRow w a n zs) (hn : n ≤ 8) (hz : woP zs n 16) :
    Calls Try.prog 173 #[.slice a n cap] w fun e w' => e = .returned (.bool (decide (apP (zN zs) n))) ∧ Below w.heap.size w w' := by
  obtain ⟨i0, hi, hz0, hz1, hz2⟩ := info_parts Try.info64
  have HA := Lib.hid h
  have HZ := Lib.hid hz
  clear h hz
  go_enter Try.func173, Try.ntmps173
  go_wp2
  go_loopw [3, 10] (fun v0 iv wr0 => ∃ (k : Nat) (v : Value) (wr : World), k ≤ n ∧ v = v0 ∧ iv = .int .i64 k ∧ wr = wr0 ∧ Hid (∀ j, j < k → lf (zN zs) j ≠ 0) ∧ Hid (wr.ownsRow w.heap.size 2 1 v k ((nL (lefts (zN zs) k)).map (Value.int .i64))) ∧ Hid (Below w.heap.size w wr)) (fun _ iv _ => n - (intOf iv).toNat)
  case atStart => exact ⟨0, _, _, by omega, rfl, rfl, rfl, Lib.hid (by intro j hj; omega), Lib.hid (World.ownsRow_nil _ _ _ _), Lib.hid (Below.refl _ _)⟩
  case round =>
    obtain ⟨k, v, wr, hk, rfl, rfl, rfl, HN, HO, HW⟩ := hrel
    by_cases hlt : k < n
    · obtain ⟨b1, o1, rfl, hblt, hck1⟩ := (HA.out.below HW.out).cell' hlt
      obtain ⟨hzk, hzk2⟩ := zN_at HZ.out hlt
      have HX := Lib.hid hzk2
      obtain ⟨a2, cp2, rfl, hrow⟩ := own_rowI HO.out
      have HR := Lib.hid hrow
      have HLT : Hid (∀ i, i < k → (lefts (zN zs) k).getD i 0 < 2 ^ 16) := Lib.hid (fun i hi => lfs_lt (fun j hj => (zN_at HZ.out (by omega)).2) hi)
      have hll : (lefts (zN zs) k).length = k := lefts_len _ _
      have HLF : Hid (lf (zN zs) k = rdx (fun i => (lefts (zN zs) k).getD i 0) (zN zs k) k) := Lib.hid rfl
      have HON := Lib.hid (nL_on (zN zs) k)
      rw [hzk] at hck1
      have HNE := Lib.hid (own_block HO.out)
      clear hrow hzk
      generalize zN zs k = x at hck1 HX HLF
      generalize lefts (zN zs) k = L at HR HLT hll HLF
      go_wp2
      go_loop [5, 16] (fun xv iv => ∃ j : Nat, j ≤ k ∧ xv = .int .i64 ((rdx (fun i => L.getD i 0) x j : Nat) : Int) ∧ iv = .int .i64 j) (fun _ iv => k - (intOf iv).toNat)
      case atStart => exact ⟨0, by omega, rfl, rfl⟩
      case round =>
        obtain ⟨j, hj, rfl, rfl⟩ := hrel
        by_cases hjk : j < k
        · obtain ⟨b2, o2, rfl, hb2lt, hck2⟩ := HR.out.cell' hjk
          rw [nL_get] at hck2
          have hlo := HLT.out j hjk
          have hxl := rdx_lt (f := fun i => L.getD i 0) HX.out j
          have HS : Hid (rdx (fun i => L.getD i 0) x (j + 1) = min (rdx (fun i => L.getD i 0) x j) (rdx (fun i => L.getD i 0) x j ^^^ L.getD j 0)) := Lib.hid rfl
          generalize rdx (fun i => L.getD i 0) x j = y at hxl HS
          generalize L.getD j 0 = o at hck2 hlo HS
          have hbx := b_xor y o (by omega) (by omega)
          by_cases hm : y ≤ (y ^^^ o)
          · have hs : min y (y ^^^ o) = y := by omega
            rw [hs] at HS
            generalize y ^^^ o = yo at hbx hm
            have d1 : decide ((yo : Int) < (y : Int)) = false := decide_eq_false (by omega)
            have d2 : decide ((y : Int) ≤ (yo : Int)) = true := decide_eq_true (by omega)
            go_wp2
            go_round
            case rel => exact ⟨j + 1, by omega, by rw [HS.out], by go_num⟩
            case measure => simp [intOf]; omega
          · have hs : min y (y ^^^ o) = y ^^^ o := by omega
            rw [hs] at HS
            generalize y ^^^ o = yo at hbx hm HS
            have d1 : decide ((yo : Int) < (y : Int)) = true := decide_eq_true (by omega)
            have d2 : decide ((y : Int) ≤ (yo : Int)) = false := decide_eq_false (by omega)
            go_wp2
            go_round
            case rel => exact ⟨j + 1, by omega, by rw [HS.out], by go_num⟩
            case measure => simp [intOf]; omega
        · obtain rfl : j = k := by omega
          rw [← HLF.out]
          by_cases h0 : lf (zN zs) j = 0
          · have HF : Hid (decide (apP (zN zs) n) = false) := Lib.hid (decide_eq_false (fun e => e j hlt h0))
            rw [h0]
            go_wp2
            go_ret
            exact ⟨ret_bool2 HF.out.symm, HW.out⟩
          · have HN2 : Hid (∀ i, i < j + 1 → lf (zN zs) i ≠ 0) := Lib.hid (fun i hi => by
              by_cases e : i = j
              · subst e; exact h0
              · exact HN.out i (by omega))
            generalize lf (zN zs) j = y at h0 HON
            have hne : ((y : Int) == 0) = false := by simpa using h0
            have hsz := HW.out.size
            go_wp2_with (first | (at_builtin; refine wpList_append_lies _ rfl _ _ 22 rfl (w.heap.size) 2 i0 (.int .i64 0) 1 8 Try.underlying22 hi hz0 hz1 hz2 rfl (by omega) (.slice a2 j cp2) j ((nL (lefts (zN zs) j)).map (Value.int .i64)) rfl (World.ownsRow.alloc HO.out _) ⟨wr.heap.size, 0, none⟩ 1 1 [.int .i64 (y : Int)] rfl rfl (World.news_of_block (cs := #[.int .i64 (y : Int)]) (t := 2) (fr := (0, 0)) (heap_alloc_new _ _)) (by simp [Value.oneCell']) (by omega) (by unfold maxLen; omega) (by omega) (by simp; omega) (wr.heap.size + 1) (by simp) ?_; intro gg cp w3 hown1 hgrow hat hlt2; have HO2 := Lib.hid hown1; have HG2 := Lib.hid hgrow; clear hown1 hgrow hat hlt2) | fail)
            exact ⟨⟨j + 1, _, _, by omega, rfl, by first | rfl | go_num | (congr 1), rfl, HN2, Lib.hid (by rw [HON.out]; exact HO2.out), Lib.hid (Below.grown (Below.alloc HW.out HW.out.size _) HG2.out (by simp; omega) HNE.out)⟩, by show n - ((j : Int) + 1).toNat < n - (j : Int).toNat; omega⟩
    · obtain rfl : k = n := by omega
      have HF : Hid (decide (apP (zN zs) k) = true) := Lib.hid (decide_eq_true HN.out)
      go_wp2
      go_ret
      exact ⟨ret_bool2 HF.out.symm, HW.out⟩
end Go.Proofs.Ytaefmffmjbabcaa
