
/- Shares: whether lists are places and shares: both sides. -/
import Derived.Test.YtaefmffmjbabcaaJss
import Derived.Test.YtaefmffmjbabcaaShv
set_option linter.unusedVariables false
namespace Go.Proofs.Ytaefmffmjbabcaa
open Go.Proofs.Ytaefmffmjbabcaa.Flo Go.RowKit

/-- The first i numbers are not 0, and no two are the same. -/
def dsP (zs : List Int) (i : Nat) : Prop := ∀ j, j < i → zs.getD j 0 ≠ 0 ∧ ∀ k, k < j → zs.getD k 0 ≠ zs.getD j 0
instance (zs : List Int) (i : Nat) : Decidable (dsP zs i) := inferInstanceAs (Decidable (∀ j, j < i → zs.getD j 0 ≠ 0 ∧ ∀ k, k < j → zs.getD k 0 ≠ zs.getD j 0))
theorem dsP_on {zs : List Int} {i : Nat} (h : dsP zs i) (h0 : zs.getD i 0 ≠ 0) (hd : ∀ k, k < i → zs.getD k 0 ≠ zs.getD i 0) : dsP zs (i + 1) := fun j hj => by
  by_cases e : j < i
  · exact h j e
  · obtain rfl : j = i := by omega
    exact ⟨h0, hd⟩
def shB (p : Int) (zs : List Int) (n : Nat) (ys : List Int) (m : Nat) : Bool := prB p && (nuB p zs n && (nuB p ys m && (decide (n = m) && decide (dsP zs n))))
theorem shB_yes {p : Int} {zs : List Int} {n : Nat} {ys : List Int} {m : Nat} (h : shB p zs n ys m = true) : prB p = true ∧ (letP zs p n ∧ 1 ≤ n ∧ n ≤ 8) ∧ letP ys p m ∧ n = m ∧ dsP zs n := by
  unfold shB nuB at h
  rw [Bool.and_eq_true, Bool.and_eq_true, Bool.and_eq_true, Bool.and_eq_true, Bool.and_eq_true, Bool.and_eq_true] at h
  exact ⟨h.1, ⟨of_decide_eq_true h.2.1.1, of_decide_eq_true h.2.1.2⟩, of_decide_eq_true h.2.2.1.1, of_decide_eq_true h.2.2.2.1, of_decide_eq_true h.2.2.2.2⟩
theorem ds_ne {zs : List Int} {n : Nat} (h : dsP zs n) : ∀ i j, i < j → j < n → zs.getD j 0 ≠ zs.getD i 0 := fun i j hij hj e => (h j hj).2 i hij e.symm
set_option maxRecDepth 100000 in
set_option maxHeartbeats 8000000 in
theorem sh_spec (p : Int) (a : Option Addr) (n cap : Nat) (zs : List Int) (b : Option Addr) (m capb : Nat) (ys : List Int) (w : World) (ha : IRow w a n zs) (hb : IRow w b m ys) (hn : n ≤ 1048576) (hm : m ≤ 1048576) :
    Calls Try.prog 74 #[.int .i64 p, .slice a n cap, .slice b m capb] w fun e w' => e = .returned (.bool (shB p zs n ys m)) ∧ Below w.heap.size w w' := by
  have HA := Lib.hid ha
  have HB := Lib.hid hb
  clear ha hb
  have HPR : Hid (∀ w2, Calls Try.prog 65 #[.int .i64 p] w2 fun e w' => e = .returned (.bool (prB p)) ∧ Below w2.heap.size w2 w') := Lib.hid (fun w2 => pr_spec p w2)
  have HNA : Hid (∀ w2, IRow w2 a n zs → Calls Try.prog 66 #[.slice a n cap, .int .i64 1, .int .i64 8, .int .i64 p] w2 fun e w' => e = .returned (.bool (nuB p zs n)) ∧ w2 = w') := Lib.hid (fun w2 hh => nu_spec p a n cap zs w2 hh (by omega))
  have HNB : Hid (∀ w2, IRow w2 b m ys → Calls Try.prog 66 #[.slice b m capb, .int .i64 1, .int .i64 8, .int .i64 p] w2 fun e w' => e = .returned (.bool (nuB p ys m)) ∧ w2 = w') := Lib.hid (fun w2 hh => nu_spec p b m capb ys w2 hh (by omega))
  cases h1 : prB p with
  | false =>
    have HF : Hid (shB p zs n ys m = false) := Lib.hid (by unfold shB; rw [h1]; rfl)
    rw [h1] at HPR
    go_enter Try.func74, Try.ntmps74
    go_wp2_with (first | (go_at_call 65; (with_reducible refine (HPR.out _).mono ?_); rintro e w2 ⟨rfl, hb⟩; have HW := Lib.hid hb; replace HA := Lib.hid (HA.out.below hb); replace HB := Lib.hid (HB.out.below hb); clear hb) | (go_at_call 66; (first | (with_reducible refine (HNA.out _ HA.out).mono ?_) | (with_reducible refine (HNB.out _ HB.out).mono ?_)); rintro e w' ⟨rfl, hw⟩; subst hw) | fail)
    go_ret
    exact ⟨ret_bool2 HF.out.symm, HW.out⟩
  | true =>
    rw [h1] at HPR
    cases h2 : nuB p zs n with
    | false =>
      have HF : Hid (shB p zs n ys m = false) := Lib.hid (by unfold shB; rw [h1, h2]; rfl)
      rw [h2] at HNA
      go_enter Try.func74, Try.ntmps74
      go_wp2_with (first | (go_at_call 65; (with_reducible refine (HPR.out _).mono ?_); rintro e w2 ⟨rfl, hb⟩; have HW := Lib.hid hb; replace HA := Lib.hid (HA.out.below hb); replace HB := Lib.hid (HB.out.below hb); clear hb) | (go_at_call 66; (first | (with_reducible refine (HNA.out _ HA.out).mono ?_) | (with_reducible refine (HNB.out _ HB.out).mono ?_)); rintro e w' ⟨rfl, hw⟩; subst hw) | fail)
      go_ret
      exact ⟨ret_bool2 HF.out.symm, HW.out⟩
    | true =>
      rw [h2] at HNA
      cases h3 : nuB p ys m with
      | false =>
        have HF : Hid (shB p zs n ys m = false) := Lib.hid (by unfold shB; rw [h1, h2, h3]; rfl)
        rw [h3] at HNB
        go_enter Try.func74, Try.ntmps74
        go_wp2_with (first | (go_at_call 65; (with_reducible refine (HPR.out _).mono ?_); rintro e w2 ⟨rfl, hb⟩; have HW := Lib.hid hb; replace HA := Lib.hid (HA.out.below hb); replace HB := Lib.hid (HB.out.below hb); clear hb) | (go_at_call 66; (first | (with_reducible refine (HNA.out _ HA.out).mono ?_) | (with_reducible refine (HNB.out _ HB.out).mono ?_)); rintro e w' ⟨rfl, hw⟩; subst hw) | fail)
        go_ret
        exact ⟨ret_bool2 HF.out.symm, HW.out⟩
      | true =>
        rw [h3] at HNB
        by_cases h4 : n = m
        · subst h4
          have HFF : Hid (∀ q : Bool, decide (dsP zs n) = q → shB p zs n ys n = q) := Lib.hid (fun q hq => by unfold shB; rw [h1, h2, h3, hq, decide_eq_true rfl]; simp)
          have hn8 := (let_nu h2).2
          clear h1 h2 h3
          go_enter Try.func74, Try.ntmps74
          go_wp2_with (first | (go_at_call 65; (with_reducible refine (HPR.out _).mono ?_); rintro e w2 ⟨rfl, hb⟩; have HW := Lib.hid hb; replace HA := Lib.hid (HA.out.below hb); replace HB := Lib.hid (HB.out.below hb); clear hb) | (go_at_call 66; (first | (with_reducible refine (HNA.out _ HA.out).mono ?_) | (with_reducible refine (HNB.out _ HB.out).mono ?_)); rintro e w' ⟨rfl, hw⟩; subst hw) | fail)
          go_loopw [7] (fun iv w' => ∃ (i q : Nat), i ≤ n ∧ Hid (dsP zs i) ∧ iv = .int .i64 i ∧ w' = w2.drewN q) (fun iv _ => n - (intOf iv).toNat)
          case atStart => exact ⟨0, 0, by omega, Lib.hid (by intro j hj; omega), rfl, rfl⟩
          case round =>
            obtain ⟨i, q, hi, HD, rfl, rfl⟩ := hrel
            by_cases hlt : i < n
            · obtain ⟨ba, oa, rfl, hba, hca⟩ := HA.out.cell' hlt
              have hwi : IntKind.i64.wrap ((i : Int) + 1) = (i : Int) + 1 := IntWalk.i64_in _ (by omega)
              have HNO : Hid (zs.getD i 0 = 0 ∨ (∃ k, k < i ∧ zs.getD k 0 = zs.getD i 0) → shB p zs n ys n = false) := Lib.hid (fun h => HFF.out false (decide_eq_false (fun q => by
                rcases h with h | ⟨k, hk, h⟩
                · exact (q i hlt).1 h
                · exact (q i hlt).2 k hk h)))
              have HON : Hid (zs.getD i 0 ≠ 0 → (∀ k, k < i → zs.getD k 0 ≠ zs.getD i 0) → dsP zs (i + 1)) := Lib.hid (fun h0 hd => dsP_on HD.out h0 hd)
              have HZK : Hid (∀ k, k < i → ba < w2.heap.size ∧ w2.cell? ⟨ba, oa + k, none⟩ = some (.int .i64 (zs.getD k 0))) := Lib.hid (fun k hk => by
                obtain ⟨b2, o2, e2, h5, h6⟩ := HA.out.cell' (show k < n by omega)
                injection e2 with e2
                injection e2 with e21 e22
                subst e21; subst e22
                exact ⟨h5, h6⟩)
              generalize zs.getD i 0 = x at hca HNO HON
              go_wp2
              go_loopw [8] (fun kv w' => ∃ (k q2 : Nat), k ≤ i ∧ Hid (∀ j, j < k → zs.getD j 0 ≠ x) ∧ kv = .int .i64 k ∧ w' = w2.drewN q2) (fun kv _ => i - (intOf kv).toNat)
              case atStart => exact ⟨0, _, by omega, Lib.hid (by intro j hj; omega), rfl, rfl⟩
              case round =>
                obtain ⟨k, q2, hk, HK, rfl, rfl⟩ := hrel
                have hint0 : (0 : Int) ≤ (k : Int) := by omega
                have hint1 : (k : Int) < (n : Int) := by omega
                have hint2 : (0 : Int) ≤ (i : Int) := by omega
                have hint3 : (i : Int) < (n : Int) := by omega
                by_cases hlk : k < i
                · obtain ⟨hbk, hck⟩ := HZK.out k hlk
                  have hwk : IntKind.i64.wrap ((k : Int) + 1) = (k : Int) + 1 := IntWalk.i64_in _ (by omega)
                  by_cases he : zs.getD k 0 = x
                  · have HF := Lib.hid (HNO.out (.inr ⟨k, hlk, he⟩))
                    rw [he] at hck
                    clear he
                    go_wp2
                    go_quiet (fail)
                    go_wp2
                    go_ret
                    exact ⟨ret_bool2 HF.out.symm, (by first | exact Below.drewN' HW.out _ | exact Below.drewN' (Below.drewN' HW.out _) _)⟩
                  · have HK2 : Hid (∀ j, j < k + 1 → zs.getD j 0 ≠ x) := Lib.hid (fun j hj => by
                      by_cases e : j < k
                      · exact HK.out j e
                      · obtain rfl : j = k := by omega
                        exact he)
                    have heb : (zs.getD k 0 == x) = false := by simpa using he
                    generalize zs.getD k 0 = y at hck heb he
                    go_wp2
                    go_quiet (fail)
                    go_wp2
                    exact ⟨⟨k + 1, _, by omega, HK2, by first | rfl | go_num | (congr 1), rfl⟩, by show i - ((k : Int) + 1).toNat < i - (k : Int).toNat; omega⟩
                · obtain rfl : k = i := by omega
                  by_cases h0 : x = 0
                  · have HF := Lib.hid (HNO.out (.inl h0))
                    subst h0
                    go_wp2
                    go_ret
                    exact ⟨ret_bool2 HF.out.symm, (by first | exact Below.drewN' HW.out _ | exact Below.drewN' (Below.drewN' HW.out _) _)⟩
                  · have HN := Lib.hid (HON.out h0 HK.out)
                    have h0b : (x == 0) = false := by simpa using h0
                    go_wp2
                    exact ⟨⟨k + 1, _, by omega, HN, by first | rfl | go_num | (congr 1), rfl⟩, by show n - ((k : Int) + 1).toNat < n - (k : Int).toNat; omega⟩
            · obtain rfl : i = n := by omega
              have HF := Lib.hid (HFF.out true (decide_eq_true HD.out))
              go_wp2
              go_ret
              exact ⟨ret_bool2 HF.out.symm, (by first | exact Below.drewN' HW.out _ | exact Below.drewN' (Below.drewN' HW.out _) _)⟩
        · have HF : Hid (shB p zs n ys m = false) := Lib.hid (by unfold shB; rw [h1, h2, h3, decide_eq_false h4]; rfl)
          have h4b : ((n : Int) == (m : Int)) = false := by simpa using (show ¬ (n : Int) = (m : Int) by omega)
          go_enter Try.func74, Try.ntmps74
          go_wp2_with (first | (go_at_call 65; (with_reducible refine (HPR.out _).mono ?_); rintro e w2 ⟨rfl, hb⟩; have HW := Lib.hid hb; replace HA := Lib.hid (HA.out.below hb); replace HB := Lib.hid (HB.out.below hb); clear hb) | (go_at_call 66; (first | (with_reducible refine (HNA.out _ HA.out).mono ?_) | (with_reducible refine (HNB.out _ HB.out).mono ?_)); rintro e w' ⟨rfl, hw⟩; subst hw) | fail)
          go_ret
          exact ⟨ret_bool2 HF.out.symm, HW.out⟩
def hasP (zs : List Int) (n : Nat) (x : Int) : Prop := ∃ k, k < n ∧ zs.getD k 0 = x
theorem hasP_part {zs : List Int} {i : Nat} {x : Int} : hasP (zs.take i) i x ↔ hasP zs i x := by
  have e : ∀ k, k < i → (zs.take i).getD k 0 = zs.getD k 0 := fun k hk => by
    rw [List.getD_eq_getElem?_getD, List.getD_eq_getElem?_getD, List.getElem?_take, if_pos hk]
  constructor
  · rintro ⟨k, hk, h⟩; exact ⟨k, hk, by rw [← e k hk]; exact h⟩
  · rintro ⟨k, hk, h⟩; exact ⟨k, hk, by rw [e k hk]; exact h⟩
theorem irow_take {w : World} {a : Option Addr} {n i : Nat} {zs : List Int} (h : IRow w a n zs) (hi : i ≤ n) : IRow w a i (zs.take i) := by
  refine ⟨by rw [List.length_take, h.1]; omega, ?_⟩
  rcases h.2 with h0 | ⟨b, o, e, hl, hc⟩
  · exact .inl (by omega)
  · refine .inr ⟨b, o, e, hl, fun k hk => ?_⟩
    rw [hc k (by omega), List.getD_eq_getElem?_getD, List.getD_eq_getElem?_getD, List.getElem?_take, if_pos hk]
set_option maxHeartbeats 4000000 in
theorem ix2_impl (a : Option Addr) (n cap : Nat) (zs : List Int) (x : Int) (w : World) (h : IRow w a n zs) (hn : n ≤ 1048576) :
    Calls Try.prog 157 #[.slice a n cap, .int .i64 x] w fun e w' => ∃ r : Int, e = .returned (.int .i64 r) ∧ (-1 ≤ r ∧ r ≤ 1048576) ∧ (0 ≤ r ↔ hasP zs n x) ∧ w = w' := by
  have HA := Lib.hid h
  clear h
  go_enter Try.func157, Try.ntmps157
  go_wp2
  go_loop [8] (fun iv => ∃ k : Nat, k ≤ n ∧ Hid (∀ j, j < k → zs.getD j 0 ≠ x) ∧ iv = .int .i64 k) (fun iv => n - (intOf iv).toNat)
  case atStart => exact ⟨0, by omega, Lib.hid (by intro j hj; omega), rfl⟩
  case round =>
    obtain ⟨k, hk, HK, rfl⟩ := hrel
    by_cases hlt : k < n
    · obtain ⟨b1, o1, rfl, _, hck⟩ := HA.out.cell' hlt
      have hwk : IntKind.i64.wrap ((k : Int) + 1) = (k : Int) + 1 := IntWalk.i64_in _ (by omega)
      by_cases he : zs.getD k 0 = x
      · have HF : Hid (hasP zs n x) := Lib.hid ⟨k, hlt, he⟩
        rw [he] at hck
        clear he
        go_wp2
        go_ret
        exact ⟨(k : Int), rfl, by omega, ⟨fun _ => HF.out, fun _ => by omega⟩, rfl⟩
      · have HK2 : Hid (∀ j, j < k + 1 → zs.getD j 0 ≠ x) := Lib.hid (fun j hj => by
          by_cases e : j < k
          · exact HK.out j e
          · obtain rfl : j = k := by omega
            exact he)
        have heb : (x == zs.getD k 0) = false := by simpa using fun e => he e.symm
        have hne : ¬ x = zs.getD k 0 := fun e => he e.symm
        generalize zs.getD k 0 = y at hck heb he hne
        go_wp2
        exact ⟨⟨k + 1, by omega, HK2, by first | rfl | go_num | (congr 1)⟩, by show n - ((k : Int) + 1).toNat < n - (k : Int).toNat; omega⟩
    · obtain rfl : k = n := by omega
      go_wp2
      go_ret
      exact ⟨-1, rfl, by omega, ⟨fun h => by omega, fun ⟨j, hj, e⟩ => absurd e (HK.out j hj)⟩, rfl⟩
set_option maxHeartbeats 4000000 in
theorem cn_impl (a : Option Addr) (n cap : Nat) (zs : List Int) (x : Int) (w : World) (h : IRow w a n zs) (hn : n ≤ 1048576) :
    Calls Try.prog 125 #[.slice a n cap, .int .i64 x] w fun e w' => ∃ q : Bool, e = .returned (.bool q) ∧ (q = true ↔ hasP zs n x) ∧ w = w' := by
  have HA := Lib.hid h
  clear h
  have HI : Hid (∀ w2, IRow w2 a n zs → Calls Try.prog 157 #[.slice a n cap, .int .i64 x] w2 fun e w' => ∃ r : Int, e = .returned (.int .i64 r) ∧ (-1 ≤ r ∧ r ≤ 1048576) ∧ (0 ≤ r ↔ hasP zs n x) ∧ w2 = w') := Lib.hid (fun w2 hh => ix2_impl a n cap zs x w2 hh hn)
  go_enter Try.func125, Try.ntmps125
  go_wp2_with (first | (go_at_call 157; (with_reducible refine (HI.out _ HA.out).mono ?_); rintro e w' ⟨r, rfl, hr1, hr2, hw⟩; subst hw; have HR := Lib.hid hr2; clear hr2) | fail)
  go_ret
  exact ⟨decide (0 ≤ r), rfl, ⟨fun h => HR.out.1 (of_decide_eq_true h), fun h => decide_eq_true (HR.out.2 h)⟩, rfl⟩
set_option maxRecDepth 100000 in
set_option maxHeartbeats 8000000 in
theorem sh_impl (p : Int) (a : Option Addr) (n cap : Nat) (zs : List Int) (b : Option Addr) (m capb : Nat) (ys : List Int) (w : World) (ha : IRow w a n zs) (hb : IRow w b m ys) (hn : n ≤ 1048576) (hm : m ≤ 1048576) (hcp : n ≤ cap) :
    Calls Try.prog 76 #[.int .i64 p, .slice a n cap, .slice b m capb] w fun e w' => e = .returned (.bool (shB p zs n ys m)) ∧ w = w' := by
  have HA := Lib.hid ha
  have HB := Lib.hid hb
  clear ha hb
  by_cases h1 : m < 1
  · have HF : Hid (shB p zs n ys m = false) := Lib.hid (by unfold shB nuB; rw [decide_eq_false (fun q : 1 ≤ m ∧ m ≤ 8 => by omega)]; simp)
    have d1 : decide ((m : Int) < 1) = true := decide_eq_true (by omega)
    go_enter Try.func76, Try.ntmps76
    go_wp2
    go_ret
    exact ⟨ret_bool2 HF.out.symm, rfl⟩
  · have d1 : decide ((m : Int) < 1) = false := decide_eq_false (by omega)
    by_cases h2 : 8 < m
    · have HF : Hid (shB p zs n ys m = false) := Lib.hid (by unfold shB nuB; rw [decide_eq_false (fun q : 1 ≤ m ∧ m ≤ 8 => by omega)]; simp)
      have d2 : decide ((8 : Int) < (m : Int)) = true := decide_eq_true (by omega)
      go_enter Try.func76, Try.ntmps76
      go_wp2
      go_ret
      exact ⟨ret_bool2 HF.out.symm, rfl⟩
    · have d2 : decide ((8 : Int) < (m : Int)) = false := decide_eq_false (by omega)
      by_cases h4 : n = m
      · subst h4
        have HS : Hid (shB p zs n ys n = ((prB p && letB zs n p) && (letB ys n p && decide (dsP zs n)))) := Lib.hid (by
          unfold shB nuB letB
          rw [decide_eq_true (show 1 ≤ n ∧ n ≤ 8 by omega), decide_eq_true (show n ≤ 512 by omega), decide_eq_true (rfl : n = n)]
          cases prB p <;> simp)
        have HAN : Hid (∀ w2, IRow w2 a n zs → Calls Try.prog 70 #[.int .i64 p, .slice a n cap] w2 fun e w' => e = .returned (.bool (prB p && letB zs n p)) ∧ w2 = w') := Lib.hid (fun w2 hh => an_impl p a n cap zs w2 hh (by omega))
        have HBN : Hid (∀ w2, IRow w2 b n ys → Calls Try.prog 70 #[.int .i64 p, .slice b n capb] w2 fun e w' => e = .returned (.bool (prB p && letB ys n p)) ∧ w2 = w') := Lib.hid (fun w2 hh => an_impl p b n capb ys w2 hh (by omega))
        go_enter Try.func76, Try.ntmps76
        go_wp2
        go_loop [26] (fun iv => ∃ i : Nat, i ≤ n ∧ Hid (dsP zs i) ∧ iv = .int .i64 i) (fun iv => n - (intOf iv).toNat)
        case atStart => exact ⟨0, by omega, Lib.hid (by intro j hj; omega), rfl⟩
        case round =>
          obtain ⟨i, hi, HD, rfl⟩ := hrel
          by_cases hlt : i < n
          · obtain ⟨ba, oa, rfl, hba, hca⟩ := HA.out.cell' hlt
            have hwi : IntKind.i64.wrap ((i : Int) + 1) = (i : Int) + 1 := IntWalk.i64_in _ (by omega)
            have HNO : Hid (zs.getD i 0 = 0 ∨ hasP zs i (zs.getD i 0) → shB p zs n ys n = false) := Lib.hid (fun h => by
              rw [HS.out, decide_eq_false (fun q : dsP zs n => by
                rcases h with h | ⟨k, hk, h⟩
                · exact (q i hlt).1 h
                · exact (q i hlt).2 k hk h)]
              simp)
            have HON : Hid (zs.getD i 0 ≠ 0 → ¬ hasP zs i (zs.getD i 0) → dsP zs (i + 1)) := Lib.hid (fun h0 hd => dsP_on HD.out h0 (fun k hk e => hd ⟨k, hk, e⟩))
            have HCN : Hid (∀ w2 c9, IRow w2 (some ⟨ba, oa, none⟩) n zs → Calls Try.prog 125 #[.slice (some ⟨ba, oa, none⟩) i c9, .int .i64 (zs.getD i 0)] w2 fun e w' => ∃ q : Bool, e = .returned (.bool q) ∧ (q = true ↔ hasP zs i (zs.getD i 0)) ∧ w2 = w') := Lib.hid (fun w2 c9 hh => (cn_impl (some ⟨ba, oa, none⟩) i c9 (zs.take i) (zs.getD i 0) w2 (irow_take hh (by omega)) (by omega)).mono (fun e w' ⟨q, h1, h2, h3⟩ => ⟨q, h1, h2.trans hasP_part, h3⟩))
            generalize zs.getD i 0 = x at hca HNO HON HCN
            have hic : i ≤ cap := by omega
            have hici : (i : Int) ≤ (cap : Int) := by omega
            by_cases h0 : x = 0
            · have HF := Lib.hid (HNO.out (.inl h0))
              subst h0
              go_wp2
              go_ret
              exact ⟨ret_bool2 HF.out.symm, rfl⟩
            · have h0b : (x == 0) = false := by simpa using h0
              by_cases hh : hasP zs i x
              · have HF := Lib.hid (HNO.out (.inr hh))
                have HC1 : Hid (∀ w2 c9, IRow w2 (some ⟨ba, oa, none⟩) n zs → Calls Try.prog 125 #[.slice (some ⟨ba, oa, none⟩) i c9, .int .i64 x] w2 fun e w' => e = .returned (.bool true) ∧ w2 = w') := Lib.hid (fun w2 c9 h => (HCN.out w2 c9 h).mono (fun e w' ⟨q, h1, h2, h3⟩ => ⟨by rw [h1, h2.2 hh], h3⟩))
                clear HCN
                go_wp2_with (first | (go_at_call 125; (with_reducible refine (HC1.out _ _ HA.out).mono ?_); rintro e w' ⟨rfl, hw⟩; subst hw) | fail)
                go_ret
                exact ⟨ret_bool2 HF.out.symm, rfl⟩
              · have HN := Lib.hid (HON.out h0 hh)
                have HC1 : Hid (∀ w2 c9, IRow w2 (some ⟨ba, oa, none⟩) n zs → Calls Try.prog 125 #[.slice (some ⟨ba, oa, none⟩) i c9, .int .i64 x] w2 fun e w' => e = .returned (.bool false) ∧ w2 = w') := Lib.hid (fun w2 c9 h => (HCN.out w2 c9 h).mono (fun e w' ⟨q, h1, h2, h3⟩ => ⟨by rw [h1]; cases q with
                  | false => rfl
                  | true => exact absurd (h2.1 rfl) hh, h3⟩))
                clear HCN
                go_wp2_with (first | (go_at_call 125; (with_reducible refine (HC1.out _ _ HA.out).mono ?_); rintro e w' ⟨rfl, hw⟩; subst hw) | fail)
                exact ⟨⟨i + 1, by omega, HN, by first | rfl | go_num | (congr 1)⟩, by show n - ((i : Int) + 1).toNat < n - (i : Int).toNat; omega⟩
          · obtain rfl : i = n := by omega
            have HS2 : Hid (shB p zs i ys i = ((prB p && letB zs i p) && (prB p && letB ys i p))) := Lib.hid (by
              rw [HS.out, decide_eq_true HD.out]
              cases prB p <;> simp)
            cases hb1 : (prB p && letB zs i p) with
            | false =>
              rw [hb1] at HAN HS2
              go_wp2_with (first | (go_at_call 70; (first | (with_reducible refine (HAN.out _ HA.out).mono ?_) | (with_reducible refine (HBN.out _ HB.out).mono ?_)); rintro e w' ⟨rfl, hw⟩; subst hw) | fail)
              go_ret
              exact ⟨ret_bool2 HS2.out.symm, rfl⟩
            | true =>
              rw [hb1] at HAN HS2
              go_wp2_with (first | (go_at_call 70; (first | (with_reducible refine (HAN.out _ HA.out).mono ?_) | (with_reducible refine (HBN.out _ HB.out).mono ?_)); rintro e w' ⟨rfl, hw⟩; subst hw) | fail)
              go_ret
              exact ⟨ret_bool2 (by rw [HS2.out]; rfl), rfl⟩
      · have HF : Hid (shB p zs n ys m = false) := Lib.hid (by unfold shB; rw [decide_eq_false h4]; simp)
        have h4b : ((n : Int) == (m : Int)) = false := by simpa using (show ¬ (n : Int) = (m : Int) by omega)
        go_enter Try.func76, Try.ntmps76
        go_wp2
        go_ret
        exact ⟨ret_bool2 HF.out.symm, rfl⟩
end Go.Proofs.Ytaefmffmjbabcaa
