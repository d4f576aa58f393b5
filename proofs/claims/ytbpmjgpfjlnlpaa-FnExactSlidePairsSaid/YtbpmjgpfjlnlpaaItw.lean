/- Texts, counts and shares: the functions that tell whether they are valid. -/
import Derived.Test.YtbpmjgpfjlnlpaaItv
namespace Go.Proofs.Ytbpmjgpfjlnlpaa
open Go.Proofs.Ytbpmjgpfjlnlpaa.Flo Go.RowKit

set_option maxHeartbeats 1000000 in
theorem l5_true (x : Int) (w : World) (h : 2 ≤ x ∧ x ≤ 16) : Calls Try.prog 84 #[.int .i64 x] w fun e w' => e = .returned (.bool true) ∧ w = w' := by
  have H := Lib.hid h
  clear h
  go_enter Try.func84, Try.ntmps84
  go_wp2_with (first | (go_at_call 80; refine (in_true x 2 16 _ H.out.1 H.out.2).mono ?_; rintro e w' ⟨rfl, rfl⟩) | go_in)
  go_ret
  exact ⟨rfl, rfl⟩
set_option maxHeartbeats 1000000 in
theorem l5_false (x : Int) (w : World) (h : ¬ (2 ≤ x ∧ x ≤ 16)) : Calls Try.prog 84 #[.int .i64 x] w fun e w' => e = .returned (.bool false) ∧ w = w' := by
  have H := Lib.hid h
  clear h
  go_enter Try.func84, Try.ntmps84
  go_wp2_with (first | (go_at_call 80; refine (in_false x 2 16 _ H.out).mono ?_; rintro e w' ⟨rfl, rfl⟩) | go_in)
  go_ret
  exact ⟨rfl, rfl⟩
set_option maxHeartbeats 1000000 in
theorem as_true (n : Int) (w : World) (h : 2 ≤ n ∧ n ≤ 16) : Calls Try.prog 88 #[.int .i64 n] w fun e w' => e = .returned (.bool true) ∧ w = w' := by
  have d1 : decide (2 ≤ n) = true := decide_eq_true h.1
  have d2 : decide (n ≤ 16) = true := decide_eq_true h.2
  clear h
  go_enter Try.func88, Try.ntmps88
  go_wp2
  go_ret
  exact ⟨rfl, rfl⟩
set_option maxHeartbeats 1000000 in
theorem as_false (n : Int) (w : World) (h : ¬ (2 ≤ n ∧ n ≤ 16)) : Calls Try.prog 88 #[.int .i64 n] w fun e w' => e = .returned (.bool false) ∧ w = w' := by
  by_cases h1 : 2 ≤ n
  · have d1 : decide (2 ≤ n) = true := decide_eq_true h1
    have d2 : decide (n ≤ 16) = false := decide_eq_false (fun e => h ⟨h1, e⟩)
    clear h h1
    go_enter Try.func88, Try.ntmps88
    go_wp2
    go_ret
    exact ⟨rfl, rfl⟩
  · have d1 : decide (2 ≤ n) = false := decide_eq_false h1
    clear h h1
    go_enter Try.func88, Try.ntmps88
    go_wp2
    go_ret
    exact ⟨rfl, rfl⟩
set_option maxHeartbeats 1000000 in
theorem tl_true (n : Int) (w : World) (h : 0 ≤ n ∧ n ≤ 64) : Calls Try.prog 99 #[.int .i64 n] w fun e w' => e = .returned (.bool true) ∧ w = w' := by
  have d1 : decide (0 ≤ n) = true := decide_eq_true h.1
  have d2 : decide (n ≤ 64) = true := decide_eq_true h.2
  clear h
  go_enter Try.func99, Try.ntmps99
  go_wp2
  go_ret
  exact ⟨rfl, rfl⟩
set_option maxHeartbeats 1000000 in
theorem tl_false (n : Int) (w : World) (h : ¬ (0 ≤ n ∧ n ≤ 64)) : Calls Try.prog 99 #[.int .i64 n] w fun e w' => e = .returned (.bool false) ∧ w = w' := by
  by_cases h1 : 0 ≤ n
  · have d1 : decide (0 ≤ n) = true := decide_eq_true h1
    have d2 : decide (n ≤ 64) = false := decide_eq_false (fun e => h ⟨h1, e⟩)
    clear h h1
    go_enter Try.func99, Try.ntmps99
    go_wp2
    go_ret
    exact ⟨rfl, rfl⟩
  · have d1 : decide (0 ≤ n) = false := decide_eq_false h1
    clear h h1
    go_enter Try.func99, Try.ntmps99
    go_wp2
    go_ret
    exact ⟨rfl, rfl⟩
set_option maxHeartbeats 2000000 in
theorem itx_spec (a : Option Addr) (m cap : Nat) (zs : List Int) (n : Int) (w : World) (h : IRow w a m zs) (hm : m ≤ 1048576) :
    Calls Try.prog 79 #[.slice a m cap, .int .i64 n] w fun e w' => e = .returned (.bool (itB zs m n)) ∧ w = w' := by
  have HA := Lib.hid h
  clear h
  by_cases h1 : 2 ≤ n ∧ n ≤ 16
  · have H1 := Lib.hid h1
    by_cases h2 : m ≤ 64
    · have hw : IntKind.i64.wrap (n - 1) = n - 1 := IntWalk.i64_in _ (by omega)
      go_enter Try.func79, Try.ntmps79
      go_wp2_with (first | (go_at_call 84; refine (l5_true n _ H1.out).mono ?_; rintro e w' ⟨rfl, hw⟩; have hw := hw.symm; subst hw) | go_in)
      go_loop [16] (fun iv => ∃ k : Nat, k ≤ m ∧ Hid (letP zs n k) ∧ iv = .int .i64 k) (fun iv => m - (intOf iv).toNat)
      case atStart => exact ⟨0, by omega, Lib.hid (by intro j hj; omega), rfl⟩
      case round =>
        obtain ⟨k, hk, HL, rfl⟩ := hrel
        by_cases hlt : k < m
        · obtain ⟨b1, o1, rfl, _, hck1⟩ := HA.out.cell' hlt
          by_cases hc : 0 ≤ zs.getD k 0 ∧ zs.getD k 0 < n
          · have HN : Hid (letP zs n (k + 1)) := Lib.hid (fun j hj => by
              by_cases e : j < k
              · exact HL.out j e
              · obtain rfl : j = k := by omega
                exact hc)
            have HC : Hid (0 ≤ zs.getD k 0 ∧ zs.getD k 0 ≤ n - 1) := Lib.hid (by omega)
            clear hc
            generalize zs.getD k 0 = c at hck1 HC
            go_wp2_with (first | (go_at_call 80; refine (in_true c 0 (n - 1) _ HC.out.1 HC.out.2).mono ?_; rintro e w' ⟨rfl, rfl⟩) | go_in)
            go_round
            case rel => exact ⟨k + 1, by omega, HN, by go_num⟩
            case measure => simp [intOf]; omega
          · have HF : Hid (itB zs m n = false) := Lib.hid (it_k hlt hc)
            have HC : Hid (¬ (0 ≤ zs.getD k 0 ∧ zs.getD k 0 ≤ n - 1)) := Lib.hid (by omega)
            clear hc
            generalize zs.getD k 0 = c at hck1 HC
            go_wp2_with (first | (go_at_call 80; refine (in_false c 0 (n - 1) _ HC.out).mono ?_; rintro e w' ⟨rfl, rfl⟩) | go_in)
            go_ret
            exact ⟨ret_bool2 HF.out.symm, rfl⟩
        · obtain rfl : k = m := by omega
          have HF : Hid (itB zs k n = true) := Lib.hid (it_all H1.out h2 HL.out)
          go_wp2
          go_ret
          exact ⟨ret_bool2 HF.out.symm, rfl⟩
    · have HF : Hid (itB zs m n = false) := Lib.hid (it_m h2)
      have hd : decide (64 < (m : Int)) = true := decide_eq_true (by omega)
      go_enter Try.func79, Try.ntmps79
      go_wp2_with (first | (go_at_call 84; refine (l5_true n _ H1.out).mono ?_; rintro e w' ⟨rfl, rfl⟩) | go_in)
      go_ret
      exact ⟨ret_bool2 HF.out.symm, rfl⟩
  · have HF : Hid (itB zs m n = false) := Lib.hid (it_n h1)
    have H1 := Lib.hid h1
    clear h1
    go_enter Try.func79, Try.ntmps79
    go_wp2_with (first | (go_at_call 84; refine (l5_false n _ H1.out).mono ?_; rintro e w' ⟨rfl, rfl⟩) | go_in)
    go_ret
    exact ⟨ret_bool2 HF.out.symm, rfl⟩
set_option maxHeartbeats 2000000 in
theorem itx_impl (a : Option Addr) (m cap : Nat) (zs : List Int) (n : Int) (w : World) (h : IRow w a m zs) (hm : m ≤ 1048576) :
    Calls Try.prog 82 #[.slice a m cap, .int .i64 n] w fun e w' => e = .returned (.bool (itB zs m n)) ∧ w = w' := by
  have HA := Lib.hid h
  clear h
  by_cases h1 : 2 ≤ n ∧ n ≤ 16
  · have H1 := Lib.hid h1
    by_cases h2 : m ≤ 64
    · have H2 : Hid (0 ≤ (m : Int) ∧ (m : Int) ≤ 64) := Lib.hid (by omega)
      have HE := Lib.hid (it_let (zs := zs) h1 h2)
      clear h1
      go_enter Try.func82, Try.ntmps82
      go_wp2_with (first | (go_at_call 88; refine (as_true n _ H1.out).mono ?_; rintro e w' ⟨rfl, rfl⟩) | (go_at_call 99; refine (tl_true (m : Int) _ H2.out).mono ?_; rintro e w' ⟨rfl, rfl⟩) | (go_at_call 90; refine (al_impl a m cap zs n _ HA.out hm).mono ?_; rintro e w' ⟨rfl, rfl⟩) | go_in)
      go_ret
      exact ⟨ret_bool2 HE.out.symm, rfl⟩
    · have HF : Hid (itB zs m n = false) := Lib.hid (it_m h2)
      have H2 : Hid (¬ (0 ≤ (m : Int) ∧ (m : Int) ≤ 64)) := Lib.hid (by omega)
      clear h1 h2
      go_enter Try.func82, Try.ntmps82
      go_wp2_with (first | (go_at_call 88; refine (as_true n _ H1.out).mono ?_; rintro e w' ⟨rfl, rfl⟩) | (go_at_call 99; refine (tl_false (m : Int) _ H2.out).mono ?_; rintro e w' ⟨rfl, rfl⟩) | go_in)
      go_ret
      exact ⟨ret_bool2 HF.out.symm, rfl⟩
  · have HF : Hid (itB zs m n = false) := Lib.hid (it_n h1)
    have H1 := Lib.hid h1
    clear h1
    go_enter Try.func82, Try.ntmps82
    go_wp2_with (first | (go_at_call 88; refine (as_false n _ H1.out).mono ?_; rintro e w' ⟨rfl, rfl⟩) | go_in)
    go_ret
    exact ⟨ret_bool2 HF.out.symm, rfl⟩
set_option maxHeartbeats 2000000 in
theorem t5_spec (p : Nat) (a : Option Addr) (n cap : Nat) (zs : List Int) (w : World) (h : IRow w a n zs) (hc : cntB zs n = true) (hp : w.cell? ⟨p, 1, none⟩ = some (.slice a n cap)) :
    Calls Try.prog 137 #[.pointer (some ⟨p, 0, none⟩)] w fun e w' => e = .returned (.int .i64 (tot zs n)) ∧ w = w' := by
  obtain ⟨hn, hz⟩ := cnt_out hc
  have HA := Lib.hid h
  have HP := Lib.hid hz
  clear h hz hc
  go_enter Try.func137, Try.ntmps137
  go_wp2
  go_loop [3, 10] (fun sv iv => ∃ k : Nat, k ≤ n ∧ sv = .int .i64 (tot zs k) ∧ iv = .int .i64 k) (fun _ iv => n - (intOf iv).toNat)
  case atStart => exact ⟨0, by omega, rfl, rfl⟩
  case round =>
    obtain ⟨k, hk, rfl, rfl⟩ := hrel
    have hb := tot_le HP.out k hk
    by_cases hlt : k < n
    · obtain ⟨b1, o1, rfl, _, hck1⟩ := HA.out.cell' hlt
      have HT1 : Hid (tot zs (k + 1) = tot zs k + zs.getD k 0) := Lib.hid rfl
      obtain ⟨hc0, hc1⟩ := HP.out k hlt
      generalize zs.getD k 0 = c at hck1 hc0 hc1 HT1
      generalize tot zs k = T at hb HT1
      go_wp2
      go_round
      case rel => exact ⟨k + 1, by omega, val_i HT1.out.symm, by go_num⟩
      case measure => simp [intOf]; omega
    · obtain rfl : k = n := by omega
      go_wp2
      go_ret
      exact ⟨rfl, rfl⟩
set_option maxRecDepth 100000 in
set_option maxHeartbeats 4000000 in
theorem co_spec (p : Nat) (r : Int) (a : Option Addr) (n cap : Nat) (zs : List Int) (w : World) (h : IRow w a n zs) (hn : n ≤ 1048576) (h0 : w.cell? ⟨p, 0, none⟩ = some (.int .i64 r)) (hp : w.cell? ⟨p, 1, none⟩ = some (.slice a n cap)) :
    Calls Try.prog 112 #[.pointer (some ⟨p, 0, none⟩)] w fun e w' => e = .returned (.bool (coB r zs n)) ∧ Drew w w' := by
  have HA := Lib.hid h
  have HPP := Lib.hid hp
  clear h
  by_cases h1 : 2 ≤ r ∧ r ≤ 16
  · have H1 := Lib.hid h1
    by_cases h2 : (n : Int) = r
    · subst h2
      have hnn : ((n : Int) != (n : Int)) = false := by simp
      go_enter Try.func112, Try.ntmps112
      go_wp2
      go_region_held3 (fun w' => w'.cell? ⟨p, 0, none⟩ = some (.int .i64 (n : Int)) ∧ w'.cell? ⟨p, 1, none⟩ = some (.slice a n cap)) (go_keep) (first | (go_at_call 84; refine (l5_true _ _ H1.out).mono ?_; rintro e w' ⟨rfl, hw⟩; have hw := hw.symm; subst hw))
      go_wp2
      go_loopw [27] (fun iv w' => ∃ k q : Nat, k ≤ n ∧ Hid (ptP zs k) ∧ iv = .int .i64 k ∧ w' = w.drewN q) (fun iv _ => n - (intOf iv).toNat)
      case atStart => exact ⟨0, _, by omega, Lib.hid (by intro j hj; omega), rfl, by first | rfl | exact World.drew_is_drewN _⟩
      case round =>
        obtain ⟨k, q, hk, HL, rfl, rfl⟩ := hrel
        have hp' : (w.drewN q).cell? ⟨p, 1, none⟩ = some (.slice a n cap) := HPP.out
        by_cases hlt : k < n
        · obtain ⟨b1, o1, rfl, _, hck1⟩ := (HA.out.drewN q).cell' hlt
          by_cases hc : 1 ≤ zs.getD k 0 ∧ zs.getD k 0 ≤ 16384
          · have HN : Hid (ptP zs (k + 1)) := Lib.hid (fun j hj => by
              by_cases e : j < k
              · exact HL.out j e
              · obtain rfl : j = k := by omega
                exact hc)
            have HC := Lib.hid hc
            clear hc
            generalize zs.getD k 0 = c at hck1 HC
            go_wp2_with (first | (go_at_call 80; refine (in_true c 1 16384 _ HC.out.1 HC.out.2).mono ?_; rintro e w' ⟨rfl, hw⟩; have hw := hw.symm; subst hw) | go_in)
            exact ⟨⟨k + 1, q, by omega, HN, by first | rfl | go_num | (congr 1), rfl⟩, by show n - ((k : Int) + 1).toNat < n - (k : Int).toNat; omega⟩
          · have HF := Lib.hid (co_p (r := (n : Int)) (pt_k hlt hc))
            have HC := Lib.hid hc
            clear hc
            generalize zs.getD k 0 = c at hck1 HC
            go_wp2_with (first | (go_at_call 80; refine (in_false c 1 16384 _ HC.out).mono ?_; rintro e w' ⟨rfl, hw⟩; have hw := hw.symm; subst hw) | go_in)
            go_ret
            exact ⟨ret_bool2 HF.out.symm, Drew.mk _ _⟩
        · obtain rfl : k = n := by omega
          have hpt : ptB zs k = true := by rw [pt_end HL.out]; exact decide_eq_true (by have := H1.out; omega)
          have HF := Lib.hid (co_end (r := (k : Int)) rfl hpt)
          have HCN := Lib.hid (pt_cnt hpt)
          go_wp2_with (first | (go_at_call 137; refine (t5_spec p a k cap zs _ (HA.out.drewN q) HCN.out hp').mono ?_; rintro e w' ⟨rfl, hw⟩; have hw := hw.symm; subst hw) | go_in)
          go_ret
          exact ⟨ret_bool2 HF.out.symm, Drew.mk _ _⟩
    · have HF := Lib.hid (co_r (zs := zs) h2)
      have hnn : ((n : Int) != r) = true := by simpa using h2
      go_enter Try.func112, Try.ntmps112
      go_wp2
      go_region_with (first | (go_at_call 84; refine (l5_true _ _ H1.out).mono ?_; rintro e w' ⟨rfl, hw⟩; have hw := hw.symm; subst hw))
      all_goals
        go_wp2
        go_ret
        exact ⟨ret_bool2 HF.out.symm, by first | exact Drew.mk _ _ | exact Drew.drew (Drew.refl _)⟩
  · have HF := Lib.hid (co_n (zs := zs) (n := n) h1)
    have H1 := Lib.hid h1
    clear h1
    go_enter Try.func112, Try.ntmps112
    go_wp2
    (first | go_region_with (go_at_call 84; refine (l5_false _ _ H1.out).mono ?_; rintro e w' ⟨rfl, hw⟩; have hw := hw.symm; subst hw) | fail)
    all_goals
      go_wp2
      go_ret
      exact ⟨ret_bool2 HF.out.symm, by first | exact Drew.mk _ _ | exact Drew.drew (Drew.refl _)⟩
theorem two_cells (w : World) (x y : Value) (T : TypeId) : (w.alloc (.cells #[x, y] T)).cell? ⟨w.heap.size, 0, none⟩ = some x ∧ (w.alloc (.cells #[x, y] T)).cell? ⟨w.heap.size, 1, none⟩ = some y := by
  constructor <;> (rw [World.cell?_alloc_at _ _ _ _ rfl]; rfl)
theorem Drew.below2 {w w' : World} (h : Drew w w') : Below w.heap.size w w' := h.below
set_option maxHeartbeats 2000000 in
theorem pt_impl (a : Option Addr) (n cap : Nat) (zs : List Int) (w : World) (h : IRow w a n zs) (hn : n ≤ 1048576) :
    Calls Try.prog 156 #[.slice a n cap] w fun e w' => e = .returned (.bool (ptB zs n)) ∧ w = w' := by
  have HA := Lib.hid h
  clear h
  go_enter Try.func156, Try.ntmps156
  go_wp2
  go_loop [7] (fun iv => ∃ k : Nat, k ≤ n ∧ Hid (ptP zs k) ∧ iv = .int .i64 k) (fun iv => n - (intOf iv).toNat)
  case atStart => exact ⟨0, by omega, Lib.hid (by intro j hj; omega), rfl⟩
  case round =>
    obtain ⟨k, hk, HL, rfl⟩ := hrel
    by_cases hlt : k < n
    · obtain ⟨b1, o1, rfl, _, hck1⟩ := HA.out.cell' hlt
      by_cases hc0 : 1 ≤ zs.getD k 0
      · by_cases hc1 : zs.getD k 0 ≤ 16384
        · have HN : Hid (ptP zs (k + 1)) := Lib.hid (fun j hj => by
            by_cases e : j < k
            · exact HL.out j e
            · obtain rfl : j = k := by omega
              exact ⟨hc0, hc1⟩)
          generalize zs.getD k 0 = c at hck1 hc0 hc1
          have d1 : decide (c < 1) = false := decide_eq_false (by omega)
          have d2 : decide (16384 < c) = false := decide_eq_false (by omega)
          go_wp2
          go_round
          case rel => exact ⟨k + 1, by omega, HN, by go_num⟩
          case measure => simp [intOf]; omega
        · have HF := Lib.hid (pt_k hlt (fun e => hc1 e.2))
          generalize zs.getD k 0 = c at hck1 hc0 hc1
          have d1 : decide (c < 1) = false := decide_eq_false (by omega)
          have d2 : decide (16384 < c) = true := decide_eq_true (by omega)
          go_wp2
          go_ret
          exact ⟨ret_bool2 HF.out.symm, rfl⟩
      · have HF := Lib.hid (pt_k hlt (fun e => hc0 e.1))
        generalize zs.getD k 0 = c at hck1 hc0
        have d1 : decide (c < 1) = true := decide_eq_true (by omega)
        go_wp2
        go_ret
        exact ⟨ret_bool2 HF.out.symm, rfl⟩
    · obtain rfl : k = n := by omega
      have HF := Lib.hid (pt_end HL.out)
      by_cases h1 : 2 ≤ k ∧ k ≤ 16
      · have H1 : Hid (2 ≤ (k : Int) ∧ (k : Int) ≤ 16) := Lib.hid (by omega)
        have HD : Hid (ptB zs k = true) := Lib.hid (by rw [HF.out]; exact decide_eq_true h1)
        go_wp2_with (first | (go_at_call 88; refine (as_true _ _ H1.out).mono ?_; rintro e w' ⟨rfl, rfl⟩) | go_in)
        go_ret
        exact ⟨ret_bool2 HD.out.symm, rfl⟩
      · have H1 : Hid (¬ (2 ≤ (k : Int) ∧ (k : Int) ≤ 16)) := Lib.hid (by omega)
        have HD : Hid (ptB zs k = false) := Lib.hid (by rw [HF.out]; exact decide_eq_false h1)
        go_wp2_with (first | (go_at_call 88; refine (as_false _ _ H1.out).mono ?_; rintro e w' ⟨rfl, rfl⟩) | go_in)
        go_ret
        exact ⟨ret_bool2 HD.out.symm, rfl⟩
set_option maxRecDepth 100000 in
set_option maxHeartbeats 4000000 in
theorem vco_impl (r : Int) (a : Option Addr) (n cap : Nat) (zs : List Int) (w : World) (h : IRow w a n zs) (hn : n ≤ 1048576) :
    Calls Try.prog 141 #[.agg #[.int .i64 r, .slice a n cap]] w fun e w' => e = .returned (.bool (coB r zs n)) ∧ Below w.heap.size w w' := by
  have HA := Lib.hid (h.alloc (.cells #[.int .i64 r, .slice a n cap] 68))
  clear h
  by_cases h2 : (n : Int) = r
  · subst h2
    cases hpt : ptB zs n with
    | true =>
      have HF := Lib.hid (co_end (r := (n : Int)) rfl hpt)
      have HCN := Lib.hid (pt_cnt hpt)
      go_enter Try.func141, Try.ntmps141
      go_wp2_with (first | (go_at_call 156; refine (pt_impl a n _ zs _ HA.out hn).mono ?_; rw [hpt]; rintro e w' ⟨rfl, rfl⟩) | (go_at_call 145; refine (tot_impl a n _ zs _ HA.out HCN.out).mono ?_; rintro e w' ⟨rfl, rfl⟩) | go_in)
      go_ret
      exact ⟨ret_bool2 HF.out.symm, belowA _ _⟩
    | false =>
      have HF := Lib.hid (co_p (r := (n : Int)) hpt)
      go_enter Try.func141, Try.ntmps141
      go_wp2_with (first | (go_at_call 156; refine (pt_impl a n _ zs _ HA.out hn).mono ?_; rw [hpt]; rintro e w' ⟨rfl, rfl⟩) | go_in)
      go_ret
      exact ⟨ret_bool2 HF.out.symm, belowA _ _⟩
  · have HF := Lib.hid (co_r (zs := zs) h2)
    have hnn : ((n : Int) == r) = false := by simpa using h2
    go_enter Try.func141, Try.ntmps141
    go_wp2
    go_ret
    exact ⟨ret_bool2 HF.out.symm, belowA _ _⟩
end Go.Proofs.Ytbpmjgpfjlnlpaa
