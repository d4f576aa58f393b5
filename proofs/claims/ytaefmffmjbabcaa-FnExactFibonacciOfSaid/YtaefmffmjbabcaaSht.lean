
/- Shares: the program's smaller functions. -/
import Derived.Test.YtaefmffmjbabcaaShr
import Derived.Test.YtaefmffmjbabcaaCci
import Derived.Test.YtaefmffmjbabcaaFrx
set_option linter.unusedVariables false
namespace Go.Proofs.Ytaefmffmjbabcaa
open Go.Proofs.Ytaefmffmjbabcaa.Flo Go.RowKit

def prB (p : Int) : Bool := decide (p ∈ Pol.prs)
def shcB (p n : Int) : Bool := decide (1 ≤ n ∧ n ≤ 8 ∧ n < p)
theorem pr_in {p : Int} (h : prB p = true) : p ∈ Pol.prs := of_decide_eq_true h
theorem pr_le {p : Int} (h : prB p = true) : 7 ≤ p ∧ p ≤ 257 := by
  have := pr_in h
  simp [Pol.prs] at this
  omega
theorem pr_cases (p : Int) : (p = 7 ∨ p = 11 ∨ p = 13 ∨ p = 17 ∨ p = 31 ∨ p = 127 ∨ p = 257) ∨ (prB p = false ∧ ¬ p = 7 ∧ ¬ p = 11 ∧ ¬ p = 13 ∧ ¬ p = 17 ∧ ¬ p = 31 ∧ ¬ p = 127 ∧ ¬ p = 257) := by
  by_cases h : p ∈ Pol.prs
  · left; simpa [Pol.prs] using h
  · right
    refine ⟨decide_eq_false h, ?_⟩
    simpa [Pol.prs, not_or] using h
set_option maxRecDepth 100000 in
set_option maxHeartbeats 4000000 in
theorem kp_impl (p : Int) (w : World) : Calls Try.prog 122 #[.int .i64 p] w fun e w' => e = .returned (.bool (prB p)) ∧ w = w' := by
  rcases pr_cases p with h | ⟨hb, h1, h2, h3, h4, h5, h6, h7⟩
  · rcases h with rfl | rfl | rfl | rfl | rfl | rfl | rfl
    all_goals
      go_enter Try.func122, Try.ntmps122
      go_wp2
      go_ret
      exact ⟨rfl, rfl⟩
  · rw [hb]
    have d1 : (p == 7) = false := by simpa using h1
    have d2 : (p == 11) = false := by simpa using h2
    have d3 : (p == 13) = false := by simpa using h3
    have d4 : (p == 17) = false := by simpa using h4
    have d5 : (p == 31) = false := by simpa using h5
    have d6 : (p == 127) = false := by simpa using h6
    have d7 : (p == 257) = false := by simpa using h7
    clear hb
    go_enter Try.func122, Try.ntmps122
    go_wp2
    go_ret
    exact ⟨rfl, rfl⟩
set_option maxHeartbeats 4000000 in
theorem ic_impl (p n : Int) (w : World) : Calls Try.prog 71 #[.int .i64 p, .int .i64 n] w fun e w' => e = .returned (.bool (shcB p n)) ∧ w = w' := by
  by_cases h1 : 1 ≤ n
  · by_cases h2 : n ≤ 8
    · by_cases h3 : n < p
      · have e : shcB p n = true := decide_eq_true ⟨h1, h2, h3⟩
        rw [e]
        have d3 : decide (n < p) = true := decide_eq_true h3
        go_enter Try.func71, Try.ntmps71
        go_wp2
        go_ret
        exact ⟨by simp, rfl⟩
      · have e : shcB p n = false := decide_eq_false (fun h => h3 h.2.2)
        rw [e]
        have d3 : decide (n < p) = false := decide_eq_false h3
        go_enter Try.func71, Try.ntmps71
        go_wp2
        go_ret
        exact ⟨by simp, rfl⟩
    · have e : shcB p n = false := decide_eq_false (fun h => h2 h.2.1)
      rw [e]
      have d2 : decide (n ≤ 8) = false := decide_eq_false h2
      go_enter Try.func71, Try.ntmps71
      go_wp2
      go_ret
      exact ⟨by simp, rfl⟩
  · have e : shcB p n = false := decide_eq_false (fun h => h1 h.1)
    rw [e]
    have d1 : decide (1 ≤ n) = false := decide_eq_false h1
    go_enter Try.func71, Try.ntmps71
    go_wp2
    go_ret
    exact ⟨by simp, rfl⟩
set_option maxHeartbeats 2000000 in
theorem al_impl2 (a : Option Addr) (m cap : Nat) (zs : List Int) (n : Int) (w : World) (h : IRow w a m zs) (hm : m ≤ 2097152) :
    Calls Try.prog 123 #[.slice a m cap, .int .i64 n] w fun e w' => e = .returned (.bool (letB zs m n)) ∧ w = w' := by
  have HA := Lib.hid h
  clear h
  go_enter Try.func123, Try.ntmps123
  go_wp2
  go_loop [9] (fun iv => ∃ k : Nat, k ≤ m ∧ Hid (letP zs n k) ∧ iv = .int .i64 k) (fun iv => m - (intOf iv).toNat)
  case atStart => exact ⟨0, by omega, Lib.hid (by intro j hj; omega), rfl⟩
  case round =>
    obtain ⟨k, hk, HL, rfl⟩ := hrel
    by_cases hlt : k < m
    · obtain ⟨b1, o1, rfl, _, hck1⟩ := HA.out.cell' hlt
      by_cases hc0 : 0 ≤ zs.getD k 0
      · by_cases hc1 : zs.getD k 0 < n
        · have HN : Hid (letP zs n (k + 1)) := Lib.hid (fun j hj => by
            by_cases e : j < k
            · exact HL.out j e
            · obtain rfl : j = k := by omega
              exact ⟨hc0, hc1⟩)
          generalize zs.getD k 0 = c at hck1 hc0 hc1
          have d1 : decide (c < 0) = false := decide_eq_false (by omega)
          have d2 : decide (n ≤ c) = false := decide_eq_false (by omega)
          go_wp2
          go_round
          case rel => exact ⟨k + 1, by omega, HN, by go_num⟩
          case measure => simp [intOf]; omega
        · have HF : Hid (letB zs m n = false) := Lib.hid (by
            unfold letB
            rw [decide_eq_false (p := letP zs n m) (fun e => hc1 (e k hlt).2)]; rfl)
          generalize zs.getD k 0 = c at hck1 hc0 hc1
          have d1 : decide (c < 0) = false := decide_eq_false (by omega)
          have d2 : decide (n ≤ c) = true := decide_eq_true (by omega)
          go_wp2
          go_ret
          exact ⟨ret_bool2 HF.out.symm, rfl⟩
      · have HF : Hid (letB zs m n = false) := Lib.hid (by
          unfold letB
          rw [decide_eq_false (p := letP zs n m) (fun e => hc0 (e k hlt).1)]; rfl)
        generalize zs.getD k 0 = c at hck1 hc0
        have d1 : decide (c < 0) = true := decide_eq_true (by omega)
        go_wp2
        go_ret
        exact ⟨ret_bool2 HF.out.symm, rfl⟩
    · obtain rfl : k = m := by omega
      by_cases h2 : k ≤ 512
      · have HF : Hid (letB zs k n = true) := Lib.hid (by unfold letB; rw [decide_eq_true h2, decide_eq_true HL.out]; rfl)
        have hd : decide ((k : Int) ≤ 512) = true := decide_eq_true (by omega)
        go_wp2
        go_ret
        exact ⟨ret_bool2 HF.out.symm, rfl⟩
      · have HF : Hid (letB zs k n = false) := Lib.hid (by unfold letB; rw [decide_eq_false h2]; simp)
        have hd : decide ((k : Int) ≤ 512) = false := decide_eq_false (by omega)
        go_wp2
        go_ret
        exact ⟨ret_bool2 HF.out.symm, rfl⟩
set_option maxHeartbeats 4000000 in
theorem an_impl (p : Int) (a : Option Addr) (m cap : Nat) (zs : List Int) (w : World) (h : IRow w a m zs) (hm : m ≤ 2097152) : Calls Try.prog 70 #[.int .i64 p, .slice a m cap] w fun e w' => e = .returned (.bool (prB p && letB zs m p)) ∧ w = w' := by
  have HA := Lib.hid h
  clear h
  have HP : Hid (∀ w2, Calls Try.prog 122 #[.int .i64 p] w2 fun e w' => e = .returned (.bool (prB p)) ∧ w2 = w') := Lib.hid (fun w2 => kp_impl p w2)
  cases hb : prB p with
  | false =>
    rw [hb] at HP
    go_enter Try.func70, Try.ntmps70
    go_wp2_with (first | (go_at_call 122; refine (HP.out _).mono ?_; rintro e w' ⟨rfl, hw⟩; subst hw) | fail)
    go_ret
    exact ⟨rfl, rfl⟩
  | true =>
    rw [hb] at HP
    go_enter Try.func70, Try.ntmps70
    go_wp2_with (first | (go_at_call 122; refine (HP.out _).mono ?_; rintro e w' ⟨rfl, hw⟩; subst hw) | (go_at_call 123; refine (al_impl2 _ m _ zs p _ HA.out hm).mono ?_; rintro e w' ⟨rfl, hw⟩; subst hw) | fail)
    go_ret
    exact ⟨by simp, rfl⟩
theorem below_setCells8 {n p : Nat} {w : World} (hp : n ≤ p) : ∀ (vs : List Value) (o : Nat) (w' : World), Below n w w' → Below n w (w'.setCells p o vs)
  | [], _, _, h => h
  | v :: r, o, _, h => below_setCells8 hp r (o + 1) _ (Below.setCell h hp v)
theorem frz8 (p : Nat) : ∀ (vs : List Value) (o : Nat) (w : World) (i : Nat), (w.setCells p o vs).frozen? ⟨p, i, none⟩ = w.frozen? ⟨p, i, none⟩
  | [], _, _, _ => rfl
  | v :: r, o, w, i => by
    show ((w.setCell ⟨p, o, none⟩ v).setCells p (o + 1) r).frozen? ⟨p, i, none⟩ = _
    rw [frz8 p r, World.frozen?_setCell]
/-- A block with eight ints in it, that may be written. -/
def A8 (w : World) (p : Nat) (g : Nat → Int) : Prop := p < w.heap.size ∧ ∀ i, i < 8 → w.cell? ⟨p, i, none⟩ = some (.int .i64 (g i)) ∧ w.frozen? ⟨p, i, none⟩ = false
def l8 (g : Nat → Int) : List Value := [.int .i64 (g 0), .int .i64 (g 1), .int .i64 (g 2), .int .i64 (g 3), .int .i64 (g 4), .int .i64 (g 5), .int .i64 (g 6), .int .i64 (g 7)]
theorem a8_l8 (g : Nat → Int) : a8 g = (l8 g).toArray := rfl
theorem l8_get (g : Nat → Int) {i : Nat} (hi : i < 8) : (l8 g)[i]? = some (.int .i64 (g i)) := by
  have h : i = 0 ∨ i = 1 ∨ i = 2 ∨ i = 3 ∨ i = 4 ∨ i = 5 ∨ i = 6 ∨ i = 7 := by omega
  rcases h with rfl | rfl | rfl | rfl | rfl | rfl | rfl | rfl <;> rfl
theorem a8_at (g : Nat → Int) {i : Nat} (hi : i < 8) : (a8 g)[i]? = some (.int .i64 (g i)) := by rw [a8_l8, List.getElem?_toArray]; exact l8_get g hi
theorem a8_congr {g h : Nat → Int} (e : ∀ i, i < 8 → g i = h i) : a8 g = a8 h := by
  unfold a8
  rw [e 0 (by omega), e 1 (by omega), e 2 (by omega), e 3 (by omega), e 4 (by omega), e 5 (by omega), e 6 (by omega), e 7 (by omega)]
theorem A8.new (w : World) (g : Nat → Int) (T : TypeId) : A8 (w.alloc (.cells (a8 g) T)) w.heap.size g := ⟨by simp, fun i hi => ⟨by rw [World.cell?_alloc_at _ _ _ _ rfl]; exact a8_at g hi, World.frozen?_alloc_at _ _ _ _ rfl⟩⟩
theorem A8.alloc {w : World} {p : Nat} {g : Nat → Int} (h : A8 w p g) (o : Obj) : A8 (w.alloc o) p g := ⟨by have := h.1; simp; omega, fun i hi => ⟨by rw [World.cell?_alloc_past _ _ _ h.1]; exact (h.2 i hi).1, by rw [World.frozen?_alloc_past _ _ _ h.1]; exact (h.2 i hi).2⟩⟩
theorem A8.below {w w' : World} {p : Nat} {g : Nat → Int} (h : A8 w p g) (hb : Below w.heap.size w w') : A8 w' p g := ⟨Nat.lt_of_lt_of_le h.1 hb.size, fun i hi => ⟨by rw [hb.cell (p := ⟨p, i, none⟩) h.1]; exact (h.2 i hi).1, by rw [hb.frozen (p := ⟨p, i, none⟩) h.1]; exact (h.2 i hi).2⟩⟩
theorem A8.drewN {w : World} {p : Nat} {g : Nat → Int} (h : A8 w p g) (q : Nat) : A8 (w.drewN q) p g := by simpa [A8] using h
theorem A8.set {w : World} {p k : Nat} {g : Nat → Int} (h : A8 w p g) (v : Int) : A8 (w.setCell ⟨p, k, none⟩ (.int .i64 v)) p (fun i => if i = k then v else g i) := by
  refine ⟨by rw [World.size_setCell]; exact h.1, fun i hi => ⟨?_, by rw [World.frozen?_setCell]; exact (h.2 i hi).2⟩⟩
  show _ = some (Value.int .i64 (if i = k then v else g i))
  by_cases e : i = k
  · subst e
    rw [World.cell?_setCell_same (h := (h.2 i hi).1), if_pos rfl]
  · rw [World.cell?_setCell_other (h := fun e2 => e (by injection e2 with _ e3 _; exact e3.symm)), if_neg e]; exact (h.2 i hi).1
theorem A8.other {w : World} {p q k : Nat} {g : Nat → Int} (h : A8 w p g) (hq : q ≠ p) (v : Value) : A8 (w.setCell ⟨q, k, none⟩ v) p g := by
  refine ⟨by rw [World.size_setCell]; exact h.1, fun i hi => ⟨?_, by rw [World.frozen?_setCell]; exact (h.2 i hi).2⟩⟩
  rw [World.cell?_setCell_other (h := fun e2 => hq (by injection e2))]; exact (h.2 i hi).1
theorem A8.congr {w : World} {p : Nat} {g g2 : Nat → Int} (h : A8 w p g) (e : ∀ i, i < 8 → g i = g2 i) : A8 w p g2 := ⟨h.1, fun i hi => by rw [← e i hi]; exact h.2 i hi⟩
theorem A8.range {w : World} {p : Nat} {g : Nat → Int} (h : A8 w p g) : w.rangeAt p 0 (l8 g) := fun j v hv => by
  have hj : j < 8 := by have := (List.getElem?_eq_some_iff.1 hv).1; simpa [l8] using this
  rw [l8_get g hj] at hv
  rw [Nat.zero_add, (h.2 j hj).1, hv]
theorem A8.there {w : World} {p : Nat} {g : Nat → Int} (h : A8 w p g) : w.there p 0 8 := fun j hj => by
  rw [Nat.zero_add, (h.2 j hj).1, (h.2 j hj).2]; exact ⟨rfl, rfl⟩
theorem A8.setCells {w : World} {p : Nat} {g : Nat → Int} (h : A8 w p g) (g2 : Nat → Int) : A8 (w.setCells p 0 (a8 g2).toList) p g2 := by
  have h1 := World.rangeAt_setCells_same w p 0 (l8 g2) h.there
  refine ⟨?_, fun i hi => ⟨?_, ?_⟩⟩
  · exact Nat.lt_of_lt_of_le h.1 (below_setCells8 (Nat.le_refl p) _ 0 _ (Below.refl p w)).size
  · have := h1 i _ (l8_get g2 hi)
    rw [Nat.zero_add] at this
    exact this
  · exact (frz8 p (a8 g2).toList 0 w i).trans (h.2 i hi).2
theorem info8 : (Try.prog.info? 100).map (·.size) = some 8 := by kernel_rfl
theorem load_8 {ops : Array Oper} {rest : List Oper} {op : Oper} {a : Act} {w : World} {Q : Exit → Act → World → Prop} (hgd : op.guard = none) (x : Operand) (ho : op.op = .load 100 x) (p : Nat) (hx : a.eval x = .pointer (some ⟨p, 0, none⟩)) (g : Nat → Int) (hc : w.rangeAt p 0 (l8 g))
    (h : wpList Try.prog ops Q rest (a.put op.dst (.agg (a8 g))) w) : wpList Try.prog ops Q (op :: rest) a w :=
  wpList_load_mid hgd _ x ho p 0 hx (l8 g) _ hc Try.underlying100 rfl info8 h
theorem store_8 {ops : Array Oper} {rest : List Oper} {op : Oper} {a : Act} {w : World} {Q : Exit → Act → World → Prop} (hgd : op.guard = none) (x y : Operand) (ho : op.op = .store 100 x y) (p : Nat) (hx : a.eval x = .pointer (some ⟨p, 0, none⟩)) (g : Nat → Int) (hy : a.eval y = .agg (a8 g)) (ht : w.there p 0 8)
    (h : wpList Try.prog ops Q rest (a.put op.dst undef) (w.setCells p 0 (a8 g).toList)) : wpList Try.prog ops Q (op :: rest) a w :=
  wpList_store_mid hgd _ x y ho p 0 (a8 g) hx hy ht info8 (by simp [a8, Value.oneCell']) h
theorem res_8 {fn : Func} {t : Tmp} (h : fn.results = #[.cell t 100]) (tmps : Array Value) (w : World) (p : Nat) (g : Nat → Int) (hp : tmps.getD t undef = .pointer (some ⟨p, 0, none⟩)) (hc : w.rangeAt p 0 (l8 g)) : (results fn tmps).run Try.prog w = .ok (.agg (a8 g)) w := by
  have hp' : tmps[t]?.getD undef = .pointer (some ⟨p, 0, none⟩) := by simpa using hp
  simp [results, h, hp', asAddr, run_loadVar_mid w p 0 100 (l8 g) _ hc Try.underlying100 rfl info8, a8_l8]
end Go.Proofs.Ytaefmffmjbabcaa
