
/- ValidCoder: the functions. -/
import Derived.Test.YtmfegjflaajkkaaPry
import Derived.Test.YtmfegjflaajkkaaGat
import Derived.Deep.QuietTactic
import Derived.BigQuiet
namespace Go.Proofs.Ytmfegjflaajkkaa
open Go.Proofs.Ytmfegjflaajkkaa.Flo Go.RowKit

def crP (zs : List Int) (n m : Nat) : Prop := ∀ k, k < n → 1 ≤ zs.getD k 0 ∧ zs.getD k 0 < 2 ^ (m + 1)
instance (zs : List Int) (n m : Nat) : Decidable (crP zs n m) := inferInstanceAs (Decidable (∀ k, k < n → 1 ≤ zs.getD k 0 ∧ zs.getD k 0 < 2 ^ (m + 1)))
/-- Is a coder valid? -/
def crB (r : Int) (zs : List Int) (n : Nat) : Bool := decide (1 ≤ r ∧ r ≤ 4) && (decide (1 ≤ n ∧ n ≤ 4) && decide (crP zs n r.toNat))
theorem cr_out {r : Int} {zs : List Int} {n : Nat} (h : crB r zs n = true) : (1 ≤ r ∧ r ≤ 4) ∧ (1 ≤ n ∧ n ≤ 4) ∧ crP zs n r.toNat := by
  unfold crB at h
  rw [Bool.and_eq_true, Bool.and_eq_true] at h
  exact ⟨of_decide_eq_true h.1, of_decide_eq_true h.2.1, of_decide_eq_true h.2.2⟩
theorem cr_r {r : Int} {zs : List Int} {n : Nat} (h : ¬ (1 ≤ r ∧ r ≤ 4)) : crB r zs n = false := by unfold crB; rw [decide_eq_false h]; rfl
theorem cr_n {r : Int} {zs : List Int} {n : Nat} (h : ¬ (1 ≤ n ∧ n ≤ 4)) : crB r zs n = false := by unfold crB; rw [decide_eq_false h]; simp
theorem cr_k {m : Nat} {zs : List Int} {n k : Nat} (hk : k < n) (h : ¬ (1 ≤ zs.getD k 0 ∧ zs.getD k 0 < 2 ^ (m + 1))) : crB (m : Int) zs n = false := by
  unfold crB; rw [Int.toNat_natCast, decide_eq_false (p := crP zs n m) (fun e => h (e k hk))]; simp
theorem cr_end {m : Nat} {zs : List Int} {n : Nat} (h1 : 1 ≤ m ∧ m ≤ 4) (h2 : 1 ≤ n ∧ n ≤ 4) (h3 : crP zs n m) : crB (m : Int) zs n = true := by
  unfold crB; rw [Int.toNat_natCast, decide_eq_true (show 1 ≤ (m : Int) ∧ (m : Int) ≤ 4 by omega), decide_eq_true h2, decide_eq_true h3]; rfl
theorem p2_4 {m : Nat} (h : m ≤ 4) : (1 : Int) ≤ 2 ^ m ∧ (2 : Int) ^ m ≤ 16 := by
  have h1 : 2 ^ m ≤ 2 ^ 4 := Nat.pow_le_pow_right (by decide) h
  have h2 : 0 < 2 ^ m := Nat.two_pow_pos m
  have e : ((2 ^ m : Nat) : Int) = 2 ^ m := by rw [Int.natCast_pow]; rfl
  rw [← e]
  have h1 : 2 ^ m ≤ 16 := h1
  omega
theorem p2_on (m : Nat) : (2 : Int) ^ (m + 1) = 2 * 2 ^ m := by rw [Int.pow_succ, Int.mul_comm]
theorem two_cells' (w : World) (x y : Value) (T : TypeId) : (w.alloc (.cells #[x, y] T)).cell? ⟨w.heap.size, 0, none⟩ = some x ∧ (w.alloc (.cells #[x, y] T)).cell? ⟨w.heap.size, 1, none⟩ = some y := by
  constructor <;> (rw [World.cell?_alloc_at _ _ _ _ rfl]; rfl)
set_option maxRecDepth 100000 in
set_option maxHeartbeats 4000000 in
theorem cr_spec (p : Nat) (r : Int) (a : Option Addr) (n cap : Nat) (zs : List Int) (w : World) (h : IRow w a n zs) (hn : n ≤ 1048576) (h0 : w.cell? ⟨p, 0, none⟩ = some (.int .i64 r)) (hp : w.cell? ⟨p, 1, none⟩ = some (.slice a n cap)) :
    Calls Try.prog 61 #[.pointer (some ⟨p, 0, none⟩)] w fun e w' => e = .returned (.bool (crB r zs n)) ∧ Drew w w' := by
  have HA := Lib.hid h
  clear h
  by_cases h1 : 1 ≤ r ∧ r ≤ 4
  · have H1 := Lib.hid h1
    obtain ⟨m, rfl⟩ : ∃ m : Nat, r = (m : Int) := ⟨r.toNat, by omega⟩
    have hm4 : 1 ≤ m ∧ m ≤ 4 := by omega
    have HM4 := Lib.hid hm4
    by_cases h2 : 1 ≤ n
    · by_cases h3 : n ≤ 4
      · have d1 : decide ((n : Int) < 1) = false := decide_eq_false (by omega)
        have d2 : decide (4 < (n : Int)) = false := decide_eq_false (by omega)
        have hmin : min m 64 = m := by omega
        obtain ⟨hp0, hp1⟩ := p2_4 hm4.2
        have hwu : IntKind.u64.wrap (m : Int) = (m : Int) := IntWalk.u64_in _ (by omega)
        have hwr : IntKind.i64.wrap ((2 : Int) * 2 ^ m) = 2 * 2 ^ m := IntWalk.i64_in _ (by omega)
        have hw2 : IntKind.i64.wrap ((2 : Int) * 2 ^ m - 1) = 2 * 2 ^ m - 1 := IntWalk.i64_in _ (by omega)
        clear h1 hm4
        go_enter Try.func61, Try.ntmps61
        go_wp2_with (first | (go_at_call 91; refine (in_true (m : Int) 1 4 _ H1.out.1 H1.out.2).mono ?_; rintro e w' ⟨rfl, hw⟩; have hw := hw.symm; subst hw) | fail)
        go_loopw [31] (fun iv w' => ∃ (k : Nat) (wr : World), k ≤ n ∧ iv = .int .i64 k ∧ wr = w' ∧ Hid (crP zs k m) ∧ Hid (Drew w wr)) (fun iv _ => n - (intOf iv).toNat)
        case atStart => exact ⟨0, _, by omega, rfl, rfl, Lib.hid (by intro j hj; omega), Lib.hid ⟨0, rfl⟩⟩
        case round =>
          obtain ⟨k, wr, hk, rfl, rfl, HL, HD⟩ := hrel
          by_cases hlt : k < n
          · obtain ⟨b1, o1, rfl, _, hck1⟩ := (HA.out.below HD.out.below).cell' hlt
            have hc0 : wr.cell? ⟨p, 0, none⟩ = some (.int .i64 (m : Int)) := by obtain ⟨q, hq⟩ := HD.out; rw [hq]; exact h0
            have hc1 : wr.cell? ⟨p, 1, none⟩ = some (.slice (some ⟨b1, o1, none⟩) n cap) := by obtain ⟨q, hq⟩ := HD.out; rw [hq]; exact hp
            by_cases hc : 1 ≤ zs.getD k 0 ∧ zs.getD k 0 < 2 ^ (m + 1)
            · have HN : Hid (crP zs (k + 1) m) := Lib.hid (fun j hj => by
                by_cases e : j < k
                · exact HL.out j e
                · obtain rfl : j = k := by omega
                  exact hc)
              have HC := Lib.hid hc
              rw [p2_on] at HC
              clear hc
              generalize zs.getD k 0 = c at hck1 HC
              go_wp2
              go_quiet ((go_at_call 91; with_reducible exact Calls.quiet_of_same (in_true c 1 (2 * 2 ^ m - 1) _ HC.out.1 (by have := HC.out.2; omega))))
              go_wp2
              exact ⟨⟨k + 1, _, by omega, by first | rfl | go_num | (congr 1), rfl, HN, Lib.hid (HD.out.trans (by first | exact Drew.mk _ _ | exact ⟨_, rfl⟩))⟩, by show n - ((k : Int) + 1).toNat < n - (k : Int).toNat; omega⟩
            · have HF := Lib.hid (cr_k (m := m) hlt hc)
              have HC := Lib.hid hc
              rw [p2_on] at HC
              have HC2 : Hid (¬ (1 ≤ zs.getD k 0 ∧ zs.getD k 0 ≤ 2 * 2 ^ m - 1)) := Lib.hid (fun e => HC.out ⟨e.1, by have := e.2; omega⟩)
              clear hc HC
              generalize zs.getD k 0 = c at hck1 HC2
              go_wp2
              go_quiet ((go_at_call 91; with_reducible exact Calls.quiet_of_same (in_false c 1 (2 * 2 ^ m - 1) _ HC2.out)))
              go_wp2
              go_ret
              exact ⟨ret_bool2 HF.out.symm, HD.out.trans (by first | exact Drew.mk _ _ | exact ⟨_, rfl⟩)⟩
          · obtain rfl : k = n := by omega
            have HF := Lib.hid (cr_end HM4.out ⟨h2, h3⟩ HL.out)
            go_wp2
            go_ret
            exact ⟨ret_bool2 HF.out.symm, HD.out⟩
      · have HF := Lib.hid (cr_n (r := (m : Int)) (zs := zs) (n := n) (fun e => h3 e.2))
        have d1 : decide ((n : Int) < 1) = false := decide_eq_false (by omega)
        have d2 : decide (4 < (n : Int)) = true := decide_eq_true (by omega)
        clear h1 hm4
        go_enter Try.func61, Try.ntmps61
        go_wp2_with (first | (go_at_call 91; refine (in_true (m : Int) 1 4 _ H1.out.1 H1.out.2).mono ?_; rintro e w' ⟨rfl, hw⟩; have hw := hw.symm; subst hw) | fail)
        go_ret
        exact ⟨ret_bool2 HF.out.symm, ⟨0, rfl⟩⟩
    · have HF := Lib.hid (cr_n (r := (m : Int)) (zs := zs) (n := n) (fun e => h2 e.1))
      have d1 : decide ((n : Int) < 1) = true := decide_eq_true (by omega)
      clear h1 hm4
      go_enter Try.func61, Try.ntmps61
      go_wp2_with (first | (go_at_call 91; refine (in_true (m : Int) 1 4 _ H1.out.1 H1.out.2).mono ?_; rintro e w' ⟨rfl, hw⟩; have hw := hw.symm; subst hw) | fail)
      go_ret
      exact ⟨ret_bool2 HF.out.symm, ⟨0, rfl⟩⟩
  · have HF := Lib.hid (cr_r (zs := zs) (n := n) h1)
    have H1 := Lib.hid h1
    clear h1
    go_enter Try.func61, Try.ntmps61
    go_wp2_with (first | (go_at_call 91; refine (in_false r 1 4 _ H1.out).mono ?_; rintro e w' ⟨rfl, hw⟩; have hw := hw.symm; subst hw) | fail)
    go_ret
    exact ⟨ret_bool2 HF.out.symm, ⟨0, rfl⟩⟩
set_option maxHeartbeats 2000000 in
theorem vcr_spec (r : Int) (a : Option Addr) (n cap : Nat) (zs : List Int) (w : World) (h : IRow w a n zs) (hn : n ≤ 1048576) :
    Calls Try.prog 20 #[.agg #[.int .i64 r, .slice a n cap]] w fun e w' => e = .returned (.bool (crB r zs n)) ∧ Below w.heap.size w w' := by
  have HA := Lib.hid (h.alloc (.cells #[.int .i64 r, .slice a n cap] 31))
  have HC := Lib.hid (two_cells' w (.int .i64 r) (.slice a n cap) 31)
  clear h
  go_enter Try.func20, Try.ntmps20
  go_wp2_with (first | (go_at_call 61; refine (cr_spec _ r a n cap zs _ HA.out hn HC.out.1 HC.out.2).mono ?_; rintro e w2 ⟨rfl, hd⟩; have HD := Lib.hid hd.below; clear hd) | fail)
  go_ret
  exact ⟨rfl, Below.next (belowA _ _) HD.out⟩
set_option maxRecDepth 100000 in
set_option maxHeartbeats 4000000 in
theorem vcr_impl (r : Int) (a : Option Addr) (n cap : Nat) (zs : List Int) (w : World) (h : IRow w a n zs) (hn : n ≤ 1048576) :
    Calls Try.prog 22 #[.agg #[.int .i64 r, .slice a n cap]] w fun e w' => e = .returned (.bool (crB r zs n)) ∧ Below w.heap.size w w' := by
  have HA := Lib.hid (h.alloc (.cells #[.int .i64 r, .slice a n cap] 31))
  clear h
  by_cases h1 : 1 ≤ r
  · have d1 : decide (r < 1) = false := decide_eq_false (by omega)
    by_cases h2 : r ≤ 4
    · obtain ⟨m, rfl⟩ : ∃ m : Nat, r = (m : Int) := ⟨r.toNat, by omega⟩
      have HM4 : Hid (1 ≤ m ∧ m ≤ 4) := Lib.hid (by omega)
      have d2 : decide (4 < (m : Int)) = false := decide_eq_false (by omega)
      by_cases h3 : 1 ≤ n
      · have d3 : decide ((n : Int) < 1) = false := decide_eq_false (by omega)
        by_cases h4 : n ≤ 4
        · have d4 : decide (4 < (n : Int)) = false := decide_eq_false (by omega)
          have hwm : IntKind.i64.wrap ((m : Int) + 1) = (m : Int) + 1 := IntWalk.i64_in _ (by omega)
          go_enter Try.func22, Try.ntmps22
          go_wp2
          go_loop [28] (fun iv => ∃ k : Nat, k ≤ n ∧ iv = .int .i64 k ∧ Hid (crP zs k m)) (fun iv => n - (intOf iv).toNat)
          case atStart => exact ⟨0, by omega, rfl, Lib.hid (by intro j hj; omega)⟩
          case round =>
            obtain ⟨k, hk, rfl, HL⟩ := hrel
            by_cases hlt : k < n
            · obtain ⟨b1, o1, rfl, _, hck1⟩ := HA.out.cell' hlt
              by_cases hc1 : 1 ≤ zs.getD k 0
              · have e1 : decide (zs.getD k 0 < 1) = false := decide_eq_false (by omega)
                by_cases hc2 : zs.getD k 0 < 2 ^ (m + 1)
                · have HN : Hid (crP zs (k + 1) m) := Lib.hid (fun j hj => by
                    by_cases e : j < k
                    · exact HL.out j e
                    · obtain rfl : j = k := by omega
                      exact ⟨hc1, hc2⟩)
                  have HWD : Hid (∀ W, Calls Try.prog 62 #[.int .i64 (zs.getD k 0), .int .i64 ((m : Int) + 1)] W fun e w' => e = .returned (.bool true) ∧ W = w') := Lib.hid (fun W => by
                    have h := word_impl (zs.getD k 0) (m + 1) W (by have := HM4.out; omega)
                    rw [show woB (zs.getD k 0) (m + 1) = true from decide_eq_true ⟨by omega, hc2⟩, show (((m + 1 : Nat)) : Int) = (m : Int) + 1 by omega] at h
                    exact h)
                  clear hc1 hc2
                  generalize zs.getD k 0 = c at hck1 HWD e1
                  go_wp2_with (first | (go_at_call 62; refine (HWD.out _).mono ?_; rintro e w' ⟨rfl, rfl⟩) | fail)
                  go_round
                  case rel => exact ⟨k + 1, by omega, by go_num, HN⟩
                  case measure => simp [intOf]; omega
                · have HF := Lib.hid (cr_k (m := m) hlt (fun e => hc2 e.2))
                  have HWD : Hid (∀ W, Calls Try.prog 62 #[.int .i64 (zs.getD k 0), .int .i64 ((m : Int) + 1)] W fun e w' => e = .returned (.bool false) ∧ W = w') := Lib.hid (fun W => by
                    have h := word_impl (zs.getD k 0) (m + 1) W (by have := HM4.out; omega)
                    rw [show woB (zs.getD k 0) (m + 1) = false from decide_eq_false (fun e => hc2 e.2), show (((m + 1 : Nat)) : Int) = (m : Int) + 1 by omega] at h
                    exact h)
                  clear hc1 hc2
                  generalize zs.getD k 0 = c at hck1 HWD e1
                  go_wp2_with (first | (go_at_call 62; refine (HWD.out _).mono ?_; rintro e w' ⟨rfl, hw⟩; have hw := hw.symm; subst hw) | fail)
                  go_ret
                  exact ⟨ret_bool2 HF.out.symm, belowA _ _⟩
              · have HF := Lib.hid (cr_k (m := m) hlt (fun e => hc1 e.1))
                have e1 : decide (zs.getD k 0 < 1) = true := decide_eq_true (by omega)
                clear hc1
                generalize zs.getD k 0 = c at hck1 e1
                go_wp2
                go_ret
                exact ⟨ret_bool2 HF.out.symm, belowA _ _⟩
            · obtain rfl : k = n := by omega
              have HF := Lib.hid (cr_end HM4.out ⟨h3, h4⟩ HL.out)
              go_wp2
              go_ret
              exact ⟨ret_bool2 HF.out.symm, belowA _ _⟩
        · have HF := Lib.hid (cr_n (r := (m : Int)) (zs := zs) (n := n) (fun e => h4 e.2))
          have d4 : decide (4 < (n : Int)) = true := decide_eq_true (by omega)
          go_enter Try.func22, Try.ntmps22
          go_wp2
          go_ret
          exact ⟨ret_bool2 HF.out.symm, belowA _ _⟩
      · have HF := Lib.hid (cr_n (r := (m : Int)) (zs := zs) (n := n) (fun e => h3 e.1))
        have d3 : decide ((n : Int) < 1) = true := decide_eq_true (by omega)
        go_enter Try.func22, Try.ntmps22
        go_wp2
        go_ret
        exact ⟨ret_bool2 HF.out.symm, belowA _ _⟩
    · have HF := Lib.hid (cr_r (r := r) (zs := zs) (n := n) (fun e => h2 e.2))
      have d2 : decide (4 < r) = true := decide_eq_true (by omega)
      go_enter Try.func22, Try.ntmps22
      go_wp2
      go_ret
      exact ⟨ret_bool2 HF.out.symm, belowA _ _⟩
  · have HF := Lib.hid (cr_r (r := r) (zs := zs) (n := n) (fun e => h1 e.1))
    have d1 : decide (r < 1) = true := decide_eq_true (by omega)
    go_enter Try.func22, Try.ntmps22
    go_wp2
    go_ret
    exact ⟨ret_bool2 HF.out.symm, belowA _ _⟩
end Go.Proofs.Ytmfegjflaajkkaa
