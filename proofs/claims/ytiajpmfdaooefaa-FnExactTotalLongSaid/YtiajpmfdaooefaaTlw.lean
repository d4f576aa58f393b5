/- TotalLong: the functions. -/
import Derived.Test.YtiajpmfdaooefaaCdv
namespace Go.Proofs.Ytiajpmfdaooefaa
open Go.Proofs.Ytiajpmfdaooefaa.Flo Go.RowKit

def wB (ys : List Int) (m : Nat) : Bool := decide (m ≤ 16) && cntB ys m
theorem wB_out {ys : List Int} {m : Nat} (h : wB ys m = true) : (1 ≤ m ∧ m ≤ 16) ∧ ∀ k, k < m → 0 ≤ ys.getD k 0 ∧ ys.getD k 0 ≤ 1000000 := by
  unfold wB at h
  rw [Bool.and_eq_true] at h
  obtain ⟨h1, h2⟩ := cnt_out h.2
  exact ⟨⟨h1.1, of_decide_eq_true h.1⟩, h2⟩
theorem wB_no {ys : List Int} {m k : Nat} (hk : k < m) (h : ¬ (0 ≤ ys.getD k 0 ∧ ys.getD k 0 ≤ 1000000)) : wB ys m = false := by
  unfold wB; rw [cnt_no hk h]; simp
theorem wB_end {ys : List Int} {m : Nat} (h : ∀ k, k < m → 0 ≤ ys.getD k 0 ∧ ys.getD k 0 ≤ 1000000) : wB ys m = decide (1 ≤ m ∧ m ≤ 16) := by
  unfold wB; rw [cnt_end h]
  by_cases h1 : m ≤ 16
  · rw [decide_eq_true h1, Bool.true_and]
    exact decide_eq_decide.2 (by omega)
  · rw [decide_eq_false h1, decide_eq_false (p := 1 ≤ m ∧ m ≤ 16) (fun e => h1 e.2)]; rfl
/-- How long weighed words are together, the first k of them. -/
def tlI (zs ys : List Int) : Nat → Int
  | 0 => 0
  | k + 1 => tlI zs ys k + ys.getD k 0 * zs.getD k 0
theorem tl_one {x y : Int} (hx : 1 ≤ x ∧ x ≤ 32) (hy : 0 ≤ y ∧ y ≤ 1000000) : 0 ≤ y * x ∧ y * x ≤ 32000000 :=
  ⟨Int.mul_nonneg hy.1 (by omega), by have := Int.mul_le_mul hy.2 hx.2 (by omega) (by omega); omega⟩
theorem tl_le {zs ys : List Int} {n : Nat} (h : lnP zs n) (hw : ∀ k, k < n → 0 ≤ ys.getD k 0 ∧ ys.getD k 0 ≤ 1000000) : ∀ k, k ≤ n → 0 ≤ tlI zs ys k ∧ tlI zs ys k ≤ (k : Int) * 32000000 := by
  intro k
  induction k with
  | zero => intro _; exact ⟨Int.le_refl _, by show (0 : Int) ≤ _; omega⟩
  | succ k ih =>
    intro hk
    have h1 := ih (by omega)
    have h2 := tl_one (h k (by omega)) (hw k (by omega))
    have e : tlI zs ys (k + 1) = tlI zs ys k + ys.getD k 0 * zs.getD k 0 := rfl
    rw [e]
    omega
def okT (zs : List Int) (n : Nat) (ys : List Int) (m : Nat) : Bool := codeB zs n && (wB ys m && decide (m = n))
theorem okT_out {zs ys : List Int} {n m : Nat} (h : okT zs n ys m = true) : codeB zs n = true ∧ wB ys m = true ∧ m = n := by
  unfold okT at h
  rw [Bool.and_eq_true, Bool.and_eq_true] at h
  exact ⟨h.1, h.2.1, of_decide_eq_true h.2.2⟩
theorem okT_no {zs ys : List Int} {n m : Nat} (h : okT zs n ys m = false) (h1 : codeB zs n = true) (h2 : wB ys m = true) : ¬ m = n := by
  intro e
  unfold okT at h
  rw [h1, h2, decide_eq_true e] at h
  cases h
set_option maxHeartbeats 2000000 in
theorem wt_spec (a : Option Addr) (n cap : Nat) (zs : List Int) (w : World) (h : IRow w a n zs) (hn : n ≤ 1048576) :
    Calls Try.prog 61 #[.slice a n cap] w fun e w' => e = .returned (.bool (wB zs n)) ∧ w = w' := by
  have HA := Lib.hid h
  clear h
  go_enter Try.func61, Try.ntmps61
  go_wp2
  go_loop [3] (fun iv => ∃ k : Nat, k ≤ n ∧ Hid (∀ j, j < k → 0 ≤ zs.getD j 0 ∧ zs.getD j 0 ≤ 1000000) ∧ iv = .int .i64 k) (fun iv => n - (intOf iv).toNat)
  case atStart => exact ⟨0, by omega, Lib.hid (by intro j hj; omega), rfl⟩
  case round =>
    obtain ⟨k, hk, HL, rfl⟩ := hrel
    by_cases hlt : k < n
    · obtain ⟨b1, o1, rfl, _, hck1⟩ := HA.out.cell' hlt
      by_cases hc : 0 ≤ zs.getD k 0 ∧ zs.getD k 0 ≤ 1000000
      · have HN : Hid (∀ j, j < k + 1 → 0 ≤ zs.getD j 0 ∧ zs.getD j 0 ≤ 1000000) := Lib.hid (fun j hj => by
          by_cases e : j < k
          · exact HL.out j e
          · obtain rfl : j = k := by omega
            exact hc)
        have HC := Lib.hid hc
        clear hc
        generalize zs.getD k 0 = c at hck1 HC
        go_wp2_with (first | (go_at_call 75; refine (in_true c 0 1000000 _ HC.out.1 HC.out.2).mono ?_; rintro e w' ⟨rfl, rfl⟩) | go_in)
        go_round
        case rel => exact ⟨k + 1, by omega, HN, by go_num⟩
        case measure => simp [intOf]; omega
      · have HF := Lib.hid (wB_no hlt hc)
        have HC := Lib.hid hc
        clear hc
        generalize zs.getD k 0 = c at hck1 HC
        go_wp2_with (first | (go_at_call 75; refine (in_false c 0 1000000 _ HC.out).mono ?_; rintro e w' ⟨rfl, rfl⟩) | go_in)
        go_ret
        exact ⟨ret_bool2 HF.out.symm, rfl⟩
    · obtain rfl : k = n := by omega
      have HF := Lib.hid (wB_end HL.out)
      by_cases h1 : 1 ≤ k
      · by_cases h2 : k ≤ 16
        · go_wp2
          go_ret
          exact ⟨ret_bool2 (by rw [HF.out, decide_eq_true (p := 1 ≤ k ∧ k ≤ 16) ⟨h1, h2⟩]; exact decide_eq_true (by omega)), rfl⟩
        · go_wp2
          go_ret
          exact ⟨ret_bool2 (by rw [HF.out, decide_eq_false (p := 1 ≤ k ∧ k ≤ 16) (fun e => h2 e.2)]; exact decide_eq_false (by omega)), rfl⟩
      · go_wp2
        go_ret
        exact ⟨ret_bool2 (by rw [HF.out, decide_eq_false (p := 1 ≤ k ∧ k ≤ 16) (fun e => h1 e.1)]), rfl⟩
set_option maxHeartbeats 2000000 in
theorem wt_impl (a : Option Addr) (n cap : Nat) (zs : List Int) (w : World) (h : IRow w a n zs) (hn : n ≤ 1048576) :
    Calls Try.prog 62 #[.slice a n cap] w fun e w' => e = .returned (.bool (wB zs n)) ∧ w = w' := by
  have HA := Lib.hid h
  clear h
  by_cases h1 : n ≤ 16
  · have HF : Hid (wB zs n = cntB zs n) := Lib.hid (by unfold wB; rw [decide_eq_true h1]; rfl)
    go_enter Try.func62, Try.ntmps62
    go_wp2_with (first | (go_at_call 98; refine (cnt_impl _ n _ zs _ HA.out hn).mono ?_; rintro e w' ⟨rfl, rfl⟩) | go_in)
    go_ret
    exact ⟨ret_bool2 HF.out.symm, rfl⟩
  · have HF : Hid (wB zs n = false) := Lib.hid (by unfold wB; rw [decide_eq_false h1]; rfl)
    go_enter Try.func62, Try.ntmps62
    go_wp2
    go_ret
    exact ⟨ret_bool2 HF.out.symm, rfl⟩
set_option maxRecDepth 100000 in
set_option maxHeartbeats 4000000 in
theorem tl_spec (a : Option Addr) (n cap : Nat) (zs : List Int) (b : Option Addr) (m capb : Nat) (ys : List Int) (w : World) (ha : IRow w a n zs) (hb : IRow w b m ys) (hn : n ≤ 1048576) (hm : m ≤ 1048576) (hok : okT zs n ys m = true) :
    Calls Try.prog 24 #[.agg #[.slice a n cap], .slice b m capb] w fun e w' => e = .returned (.tuple #[.int .i64 (tlI zs ys n), .bool true]) ∧ Below w.heap.size w w' := by
  have HA := Lib.hid (ha.alloc (.cells #[.slice a n cap] 27))
  have HB := Lib.hid (hb.alloc (.cells #[.slice a n cap] 27))
  obtain ⟨hcb, hwb, rfl⟩ := okT_out hok
  obtain ⟨h1, h2, _⟩ := code_out hcb
  obtain ⟨_, h3⟩ := wB_out hwb
  have HL := Lib.hid h2
  have HW := Lib.hid h3
  obtain ⟨h10, h11⟩ := h1
  clear ha hb h2 h3 hok
  go_enter Try.func24, Try.ntmps24
  go_wp2_with (first | (go_at_call 56; refine (cdis_spec _ a m cap zs _ HA.out hn (cell_box _ _ _)).mono ?_; rintro e w' ⟨rfl, rfl⟩) | (go_at_call 61; refine (wt_spec _ m _ ys _ HB.out hm).mono ?_; rintro e w' ⟨rfl, rfl⟩) | go_in)
  go_loopw [6, 7] (fun sv iv w' => ∃ k q : Nat, k ≤ m ∧ sv = .int .i64 (tlI zs ys k) ∧ iv = .int .i64 k ∧ w' = (w.alloc (.cells #[.slice a m cap] 27)).drewN q) (fun _ iv _ => m - (intOf iv).toNat)
  case atStart => exact ⟨0, 0, by omega, rfl, rfl, rfl⟩
  case round =>
    obtain ⟨k, q, hk, rfl, rfl, rfl⟩ := hrel
    have hbd := tl_le HL.out HW.out k hk
    by_cases hlt : k < m
    · obtain ⟨b1, o1, rfl, _, hck1⟩ := HA.out.cell' hlt
      obtain ⟨b2, o2, rfl, _, hck2⟩ := HB.out.cell' hlt
      have HT1 : Hid (tlI zs ys (k + 1) = tlI zs ys k + ys.getD k 0 * zs.getD k 0) := Lib.hid rfl
      have hone := tl_one (HL.out k hlt) (HW.out k hlt)
      generalize zs.getD k 0 = x at hck1 HT1 hone
      generalize ys.getD k 0 = y at hck2 HT1 hone
      have hw1 : IntKind.i64.wrap (y * x) = y * x := IntWalk.i64_in _ (by omega)
      generalize tlI zs ys k = T at hbd HT1
      have hw2 : IntKind.i64.wrap (T + y * x) = T + y * x := IntWalk.i64_in _ (by omega)
      go_wp2
      go_region_with fail
      all_goals
        go_wp2
        exact ⟨⟨k + 1, _, by omega, val_i HT1.out.symm, by first | rfl | go_num | (congr 1), rfl⟩, by show m - ((k : Int) + 1).toNat < m - (k : Int).toNat; omega⟩
    · obtain rfl : k = m := by omega
      go_wp2
      go_ret2
      exact ⟨rfl, Below.drewN' (belowA _ _) _⟩
set_option maxHeartbeats 4000000 in
theorem tl_spec' (a : Option Addr) (n cap : Nat) (zs : List Int) (b : Option Addr) (m capb : Nat) (ys : List Int) (w : World) (ha : IRow w a n zs) (hb : IRow w b m ys) (hn : n ≤ 1048576) (hm : m ≤ 1048576) (hok : okT zs n ys m = false) :
    Calls Try.prog 24 #[.agg #[.slice a n cap], .slice b m capb] w fun e w' => e = .returned (.tuple #[.int .i64 0, .bool false]) ∧ Below w.heap.size w w' := by
  have HA := Lib.hid (ha.alloc (.cells #[.slice a n cap] 27))
  have HB := Lib.hid (hb.alloc (.cells #[.slice a n cap] 27))
  have HK := Lib.hid hok
  clear ha hb hok
  cases hcb : codeB zs n with
  | false =>
    go_enter Try.func24, Try.ntmps24
    go_wp2_with (first | (go_at_call 56; refine (cdis_spec _ a n cap zs _ HA.out hn (cell_box _ _ _)).mono ?_; rintro e w' ⟨rfl, rfl⟩) | go_in)
    go_ret2
    exact ⟨rfl, belowA _ _⟩
  | true =>
    cases hwb : wB ys m with
    | false =>
      go_enter Try.func24, Try.ntmps24
      go_wp2_with (first | (go_at_call 56; refine (cdis_spec _ a n cap zs _ HA.out hn (cell_box _ _ _)).mono ?_; rintro e w' ⟨rfl, rfl⟩) | (go_at_call 61; refine (wt_spec _ m _ ys _ HB.out hm).mono ?_; rintro e w' ⟨rfl, rfl⟩) | go_in)
      go_ret2
      exact ⟨rfl, belowA _ _⟩
    | true =>
      have hne := okT_no HK.out hcb hwb
      have hne2 : ((m : Int) == (n : Int)) = false := by simpa using fun h : (m : Int) = (n : Int) => hne (by omega)
      go_enter Try.func24, Try.ntmps24
      go_wp2_with (first | (go_at_call 56; refine (cdis_spec _ a n cap zs _ HA.out hn (cell_box _ _ _)).mono ?_; rintro e w' ⟨rfl, rfl⟩) | (go_at_call 61; refine (wt_spec _ m _ ys _ HB.out hm).mono ?_; rintro e w' ⟨rfl, rfl⟩) | go_in)
      go_ret2
      exact ⟨rfl, belowA _ _⟩
set_option maxRecDepth 100000 in
set_option maxHeartbeats 4000000 in
theorem tl_impl (a : Option Addr) (n cap : Nat) (zs : List Int) (b : Option Addr) (m capb : Nat) (ys : List Int) (w : World) (ha : IRow w a n zs) (hb : IRow w b m ys) (hn : n ≤ 1048576) (hm : m ≤ 1048576) (hok : okT zs n ys m = true) :
    Calls Try.prog 26 #[.agg #[.slice a n cap], .slice b m capb] w fun e w' => e = .returned (.tuple #[.int .i64 (tlI zs ys n), .bool true]) ∧ Below w.heap.size w w' := by
  have HS := Lib.hid ((Mine.nil w).alloc1 (.slice a n cap) 27)
  have HA := Lib.hid (ha.alloc (.cells #[.slice a n cap] 27))
  have HB := Lib.hid (hb.alloc (.cells #[.slice a n cap] 27))
  obtain ⟨hcb, hwb, rfl⟩ := okT_out hok
  obtain ⟨h1, h2, _⟩ := code_out hcb
  obtain ⟨_, h3⟩ := wB_out hwb
  have HL := Lib.hid h2
  have HW := Lib.hid h3
  obtain ⟨h10, h11⟩ := h1
  clear ha hb h2 h3 hok
  go_enter Try.func26, Try.ntmps26
  go_wp2_with (first | (go_at_call 18; refine (vc_impl a m cap zs _ HA.out hn).mono ?_; rintro e w2 ⟨rfl, hb⟩; replace HA := Lib.hid (HA.out.below hb); replace HB := Lib.hid (HB.out.below hb); replace HS := Lib.hid (HS.out.below hb); obtain ⟨⟨hf0, hf1, hf2⟩, _⟩ := HS.out.facts1; clear hb) | (go_at_call 62; refine (wt_impl _ m _ ys _ HB.out hm).mono ?_; rintro e w' ⟨rfl, rfl⟩) | go_in)
  go_loop [6, 27] (fun sv iv => ∃ k : Nat, k ≤ m ∧ sv = .int .i64 (tlI zs ys k) ∧ iv = .int .i64 k) (fun _ iv => m - (intOf iv).toNat)
  case atStart => exact ⟨0, by omega, rfl, rfl⟩
  case round =>
    obtain ⟨k, hk, rfl, rfl⟩ := hrel
    have hbd := tl_le HL.out HW.out k hk
    by_cases hlt : k < m
    · obtain ⟨b1, o1, rfl, _, hck1⟩ := HA.out.cell' hlt
      obtain ⟨b2, o2, rfl, _, hck2⟩ := HB.out.cell' hlt
      have HT1 : Hid (tlI zs ys (k + 1) = tlI zs ys k + ys.getD k 0 * zs.getD k 0) := Lib.hid rfl
      have hone := tl_one (HL.out k hlt) (HW.out k hlt)
      generalize zs.getD k 0 = x at hck1 HT1 hone
      generalize ys.getD k 0 = y at hck2 HT1 hone
      have hw1 : IntKind.i64.wrap (y * x) = y * x := IntWalk.i64_in _ (by omega)
      generalize tlI zs ys k = T at hbd HT1
      have hw2 : IntKind.i64.wrap (T + y * x) = T + y * x := IntWalk.i64_in _ (by omega)
      go_wp2
      go_round
      case rel => exact ⟨k + 1, by omega, val_i HT1.out.symm, by go_num⟩
      case measure => simp [intOf]; omega
    · obtain rfl : k = m := by omega
      go_wp2
      go_ret2
      exact ⟨rfl, HS.out.out⟩
set_option maxHeartbeats 4000000 in
theorem tl_impl' (a : Option Addr) (n cap : Nat) (zs : List Int) (b : Option Addr) (m capb : Nat) (ys : List Int) (w : World) (ha : IRow w a n zs) (hb : IRow w b m ys) (hn : n ≤ 1048576) (hm : m ≤ 1048576) (hok : okT zs n ys m = false) :
    Calls Try.prog 26 #[.agg #[.slice a n cap], .slice b m capb] w fun e w' => e = .returned (.tuple #[.int .i64 0, .bool false]) ∧ Below w.heap.size w w' := by
  have HS := Lib.hid ((Mine.nil w).alloc1 (.slice a n cap) 27)
  have HA := Lib.hid (ha.alloc (.cells #[.slice a n cap] 27))
  have HB := Lib.hid (hb.alloc (.cells #[.slice a n cap] 27))
  have HK := Lib.hid hok
  clear ha hb hok
  cases hcb : codeB zs n with
  | false =>
    go_enter Try.func26, Try.ntmps26
    go_wp2_with (first | (go_at_call 18; refine (vc_impl a n cap zs _ HA.out hn).mono ?_; rintro e w2 ⟨rfl, hb⟩; replace HS := Lib.hid (HS.out.below hb); clear hb) | go_in)
    go_ret2
    exact ⟨rfl, HS.out.out⟩
  | true =>
    cases hwb : wB ys m with
    | false =>
      go_enter Try.func26, Try.ntmps26
      go_wp2_with (first | (go_at_call 18; refine (vc_impl a n cap zs _ HA.out hn).mono ?_; rintro e w2 ⟨rfl, hb⟩; replace HB := Lib.hid (HB.out.below hb); replace HS := Lib.hid (HS.out.below hb); clear hb) | (go_at_call 62; refine (wt_impl _ m _ ys _ HB.out hm).mono ?_; rintro e w' ⟨rfl, rfl⟩) | go_in)
      go_ret2
      exact ⟨rfl, HS.out.out⟩
    | true =>
      have hne := okT_no HK.out hcb hwb
      have hne2 : ((m : Int) == (n : Int)) = false := by simpa using fun h : (m : Int) = (n : Int) => hne (by omega)
      go_enter Try.func26, Try.ntmps26
      go_wp2_with (first | (go_at_call 18; refine (vc_impl a n cap zs _ HA.out hn).mono ?_; rintro e w2 ⟨rfl, hb⟩; replace HB := Lib.hid (HB.out.below hb); replace HS := Lib.hid (HS.out.below hb); obtain ⟨⟨hf0, hf1, hf2⟩, _⟩ := HS.out.facts1; clear hb) | (go_at_call 62; refine (wt_impl _ m _ ys _ HB.out hm).mono ?_; rintro e w' ⟨rfl, rfl⟩) | go_in)
      go_ret2
      exact ⟨rfl, HS.out.out⟩
end Go.Proofs.Ytiajpmfdaooefaa
