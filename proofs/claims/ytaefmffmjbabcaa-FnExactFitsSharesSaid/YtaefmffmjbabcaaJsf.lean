
/- FitsShares: both sides. -/
import Derived.Test.YtaefmffmjbabcaaJsj
set_option linter.unusedVariables false
namespace Go.Proofs.Ytaefmffmjbabcaa
open Go.Proofs.Ytaefmffmjbabcaa.Flo Go.RowKit

def fiB (p need : Int) (zs : List Int) (n : Nat) (ys : List Int) (m : Nat) : Bool := shB p zs n ys m && decide (1 ≤ need ∧ need ≤ 8)
/-- How many shares the polynomial is made of. -/
def f0 (need : Int) (n : Nat) : Nat := min need.toNat n
def fitJ (p : Int) (zs ys : List Int) (k i : Nat) : Int := jsV p (zs.take k) (ys.take k) k (zs.getD i 0)
def fitP (p : Int) (zs ys : List Int) (k i : Nat) : Prop := ∀ j, j < i → k ≤ j → fitJ p zs ys k j = ys.getD j 0
instance (p : Int) (zs ys : List Int) (k i : Nat) : Decidable (fitP p zs ys k i) := inferInstanceAs (Decidable (∀ j, j < i → k ≤ j → fitJ p zs ys k j = ys.getD j 0))
def fitV (p need : Int) (zs ys : List Int) (n : Nat) : Bool := decide (fitP p zs ys (f0 need n) n)
theorem take_at {zs : List Int} {k j : Nat} (hj : j < k) : (zs.take k).getD j 0 = zs.getD j 0 := by
  rw [List.getD_eq_getElem?_getD, List.getD_eq_getElem?_getD, List.getElem?_take, if_pos hj]
theorem let_take {p : Int} {zs : List Int} {n k : Nat} (h : letP zs p n) (hk : k ≤ n) : letP (zs.take k) p k := fun j hj => by rw [take_at hj]; exact h j (by omega)
theorem ds_take {zs : List Int} {n k : Nat} (h : dsP zs n) (hk : k ≤ n) : dsP (zs.take k) k := fun j hj => by
  rw [take_at hj]
  refine ⟨(h j (by omega)).1, fun i hi => ?_⟩
  rw [take_at (by omega : i < k)]
  exact (h j (by omega)).2 i hi
theorem jsV_in {p : Int} (hp : 0 < p) (zs ys : List Int) (n : Nat) (x : Int) : 0 ≤ jsV p zs ys n x ∧ jsV p zs ys n x < p := lg_in hp _ _ _ _ _
/-- At the places of which it is made, the value is the share. -/
theorem hit_js {p : Int} {zs ys : List Int} {n : Nat} {th no : Nat → Int} (hp : p ∈ Pol.prs) (hy : letP ys p n) (h : Pol.Nwt p (fun k => zs.getD k 0) (fun k => ys.getD k 0) n th no) {j : Nat} (hj : j < n) : Pol.ho p th (zs.getD j 0) 8 8 = ys.getD j 0 := by
  have hp0 : 0 < p := by simp [Pol.prs] at hp; omega
  have h1 := (Pol.ho_pv p (zs.getD j 0) 8 th).trans (h.hit j hj)
  have h2 := Pol.ho_in hp0 th (zs.getD j 0) 8 8
  have h3 := hy j hj
  have h4 := Pol.Eqp.iff_emod.1 h1
  rwa [Int.emod_eq_of_lt h2.1 h2.2, Int.emod_eq_of_lt h3.1 h3.2] at h4
theorem fi_yes {p need : Int} {zs : List Int} {n : Nat} {ys : List Int} {m : Nat} (h : fiB p need zs n ys m = true) : shB p zs n ys m = true ∧ 1 ≤ need ∧ need ≤ 8 := by
  unfold fiB at h
  rw [Bool.and_eq_true] at h
  exact ⟨h.1, of_decide_eq_true h.2⟩
theorem fi_no {p need : Int} {zs : List Int} {n : Nat} {ys : List Int} {m : Nat} (h : fiB p need zs n ys m = false) : shB p zs n ys m = false ∨ (shB p zs n ys m = true ∧ ¬ (1 ≤ need ∧ need ≤ 8)) := by
  unfold fiB at h
  cases h1 : shB p zs n ys m with
  | false => exact .inl rfl
  | true => rw [h1, Bool.true_and] at h; exact .inr ⟨rfl, of_decide_eq_false h⟩
set_option maxHeartbeats 2000000 in
theorem mn_spec (need : Int) (n : Nat) (w : World) (h : 0 ≤ need) : Calls Try.prog 79 #[.int .i64 need, .int .i64 (n : Int)] w fun e w' => e = .returned (.int .i64 ((f0 need n : Nat) : Int)) ∧ w = w' := by
  by_cases h1 : need < (n : Int)
  · have e : ((f0 need n : Nat) : Int) = need := by unfold f0; omega
    have d : decide (need < (n : Int)) = true := decide_eq_true h1
    rw [e]
    go_enter Try.func79, Try.ntmps79
    go_wp2
    go_ret
    exact ⟨rfl, rfl⟩
  · have e : ((f0 need n : Nat) : Int) = (n : Int) := by unfold f0; omega
    have d : decide (need < (n : Int)) = false := decide_eq_false h1
    rw [e]
    go_enter Try.func79, Try.ntmps79
    go_wp2
    go_ret
    exact ⟨rfl, rfl⟩
set_option maxRecDepth 100000 in
set_option maxHeartbeats 4000000 in
theorem fiSN (p need : Int) (a : Option Addr) (n cap : Nat) (zs : List Int) (b : Option Addr) (m capb : Nat) (ys : List Int) (w : World) (ha : IRow w a n zs) (hb : IRow w b m ys) (hn : n ≤ 1048576) (hm : m ≤ 1048576) (hok : fiB p need zs n ys m = false) :
    Calls Try.prog 31 #[.int .i64 p, .int .i64 need, .slice a n cap, .slice b m capb] w fun e w' => e = .returned (.tuple #[.bool false, .bool false]) ∧ Below w.heap.size w w' := by
  have HA := Lib.hid ha
  have HB := Lib.hid hb
  clear ha hb
  rcases fi_no hok with h1 | ⟨h1, h2⟩
  · have HS : Hid (∀ w2, IRow w2 a n zs → IRow w2 b m ys → Calls Try.prog 74 #[.int .i64 p, .slice a n cap, .slice b m capb] w2 fun e w' => e = .returned (.bool false) ∧ Below w2.heap.size w2 w') := Lib.hid (fun w2 h3 h4 => by have := sh_spec p a n cap zs b m capb ys w2 h3 h4 hn hm; rw [h1] at this; exact this)
    go_enter Try.func31, Try.ntmps31
    go_wp2_with (first | (go_at_call 74; (with_reducible refine (HS.out _ HA.out HB.out).mono ?_); rintro e w2 ⟨rfl, hb⟩; have HW := Lib.hid hb; clear hb) | fail)
    exact bodyPost_ret (v := .tuple #[.bool false, .bool false]) (by simp [results, Try.results31, go_sem]) rfl ⟨rfl, HW.out⟩
  · have HS : Hid (∀ w2, IRow w2 a n zs → IRow w2 b m ys → Calls Try.prog 74 #[.int .i64 p, .slice a n cap, .slice b m capb] w2 fun e w' => e = .returned (.bool true) ∧ Below w2.heap.size w2 w') := Lib.hid (fun w2 h3 h4 => by have := sh_spec p a n cap zs b m capb ys w2 h3 h4 hn hm; rw [h1] at this; exact this)
    have HC := Lib.hid h2
    go_enter Try.func31, Try.ntmps31
    go_wp2_with (first | (go_at_call 74; (with_reducible refine (HS.out _ HA.out HB.out).mono ?_); rintro e w2 ⟨rfl, hb⟩; have HW := Lib.hid hb; clear hb) | (go_at_call 67; (with_reducible refine (in_false need 1 8 _ HC.out).mono ?_); rintro e w' ⟨rfl, hw⟩; have hw := hw.symm; subst hw) | fail)
    exact bodyPost_ret (v := .tuple #[.bool false, .bool false]) (by simp [results, Try.results31, go_sem]) rfl ⟨rfl, HW.out⟩
set_option maxRecDepth 100000 in
set_option maxHeartbeats 4000000 in
theorem fiSY (p need : Int) (a : Option Addr) (n cap : Nat) (zs : List Int) (b : Option Addr) (m capb : Nat) (ys : List Int) (w : World) (ha : IRow w a n zs) (hb : IRow w b m ys) (hn : n ≤ 1048576) (hm : m ≤ 1048576) (hcp : n ≤ cap) (hcpb : m ≤ capb) (hok : fiB p need zs n ys m = true) :
    Calls Try.prog 31 #[.int .i64 p, .int .i64 need, .slice a n cap, .slice b m capb] w fun e w' => e = .returned (.tuple #[.bool (fitV p need zs ys n), .bool true]) ∧ Below w.heap.size w w' := by
  have HA := Lib.hid ha
  have HB := Lib.hid hb
  obtain ⟨hsh, hd1, hd8⟩ := fi_yes hok
  obtain ⟨hp, ⟨hz, hn1, hn8⟩, hy, rfl, hd⟩ := shB_yes hsh
  have HS : Hid (∀ w2, IRow w2 a n zs → IRow w2 b n ys → Calls Try.prog 74 #[.int .i64 p, .slice a n cap, .slice b n capb] w2 fun e w' => e = .returned (.bool true) ∧ Below w2.heap.size w2 w') := Lib.hid (fun w2 h1 h2 => by have := sh_spec p a n cap zs b n capb ys w2 h1 h2 hn hm; rw [hsh] at this; exact this)
  have HC : Hid (1 ≤ need ∧ need ≤ 8) := Lib.hid ⟨hd1, hd8⟩
  have HMN : Hid (∀ w2, Calls Try.prog 79 #[.int .i64 need, .int .i64 (n : Int)] w2 fun e w' => e = .returned (.int .i64 ((f0 need n : Nat) : Int)) ∧ w2 = w') := Lib.hid (fun w2 => mn_spec need n w2 (by omega))
  have hkn : f0 need n ≤ n := by unfold f0; omega
  have HF : Hid (∀ q : Bool, decide (fitP p zs ys (f0 need n) n) = q → fitV p need zs ys n = q) := Lib.hid (fun q h => h)
  generalize f0 need n = k at HMN hkn HF
  obtain ⟨ba, oa, rfl⟩ : ∃ ba oa, a = some ⟨ba, oa, none⟩ := by
    rcases ha.2 with h0 | ⟨b, o, e, _⟩
    · omega
    · exact ⟨b, o, e⟩
  obtain ⟨bb, ob, rfl⟩ : ∃ bb ob, b = some ⟨bb, ob, none⟩ := by
    rcases hb.2 with h0 | ⟨b, o, e, _⟩
    · omega
    · exact ⟨b, o, e⟩
  have HPS : Hid (∀ (x : Int) c1 c2 w2, 0 ≤ x ∧ x < p → IRow w2 (some ⟨ba, oa, none⟩) n zs → IRow w2 (some ⟨bb, ob, none⟩) n ys → Calls Try.prog 75 #[.int .i64 p, .slice (some ⟨ba, oa, none⟩) k c1, .slice (some ⟨bb, ob, none⟩) k c2, .int .i64 x] w2 fun e w' => e = .returned (.int .i64 (jsV p (zs.take k) (ys.take k) k x)) ∧ ∃ q, w' = w2.drewN q) := Lib.hid (fun x c1 c2 w2 hx h1 h2 => ps_spec p x _ k c1 (zs.take k) _ k c2 (ys.take k) w2 (irow_take h1 hkn) (irow_take h2 hkn) (pr_in hp) (by omega) (Nat.le_refl _) hx (let_take hz hkn) (let_take hy hkn) (ds_ne (ds_take hd hkn)))
  have HZ := Lib.hid hz
  clear ha hb hok hsh hp hz hy hd
  go_enter Try.func31, Try.ntmps31
  go_wp2_with (first | (go_at_call 74; (with_reducible refine (HS.out _ HA.out HB.out).mono ?_); rintro e w2 ⟨rfl, hb⟩; have HW := Lib.hid hb; replace HA := Lib.hid (HA.out.below hb); replace HB := Lib.hid (HB.out.below hb); clear hb) | (go_at_call 67; (with_reducible refine (in_true need 1 8 _ HC.out.1 HC.out.2).mono ?_); rintro e w' ⟨rfl, hw⟩; have hw := hw.symm; subst hw) | (go_at_call 79; (with_reducible refine (HMN.out _).mono ?_); rintro e w' ⟨rfl, hw⟩; subst hw) | fail)
  go_loopw [11] (fun iv w' => ∃ (i q : Nat), k ≤ i ∧ i ≤ n ∧ Hid (fitP p zs ys k i) ∧ iv = .int .i64 i ∧ w' = w2.drewN q) (fun iv _ => n - (intOf iv).toNat)
  case atStart => exact ⟨k, 0, Nat.le_refl _, hkn, Lib.hid (by intro j hj hj2; omega), rfl, rfl⟩
  case round =>
    obtain ⟨i, q, hki, hi, HFP, rfl, rfl⟩ := hrel
    by_cases hlt : i < n
    · obtain ⟨ba2, oa2, e2, _, hca⟩ := HA.out.cell' hlt
      injection e2 with e2
      injection e2 with e21 e22
      subst e21; subst e22
      obtain ⟨bb2, ob2, e2, _, hcb⟩ := HB.out.cell' hlt
      injection e2 with e2
      injection e2 with e21 e22
      subst e21; subst e22
      have hwi : IntKind.i64.wrap ((i : Int) + 1) = (i : Int) + 1 := IntWalk.i64_in _ (by omega)
      have hkc : k ≤ cap := by omega
      have hkcb : k ≤ capb := by omega
      have hkci : (k : Int) ≤ (cap : Int) := by omega
      have hkcbi : (k : Int) ≤ (capb : Int) := by omega
      have hint0 : (0 : Int) ≤ (i : Int) := by omega
      have hint1 : (i : Int) < (n : Int) := by omega
      have hint2 : (0 : Int) ≤ (k : Int) := by omega
      have HJ : Hid (fitJ p zs ys k i = jsV p (zs.take k) (ys.take k) k (zs.getD i 0)) := Lib.hid rfl
      have HP1 : Hid (∀ c1 c2 q2, Calls Try.prog 75 #[.int .i64 p, .slice (some ⟨ba, oa, none⟩) k c1, .slice (some ⟨bb, ob, none⟩) k c2, .int .i64 (zs.getD i 0)] (w2.drewN (q + q2)) fun e w' => e = .returned (.int .i64 (jsV p (zs.take k) (ys.take k) k (zs.getD i 0))) ∧ ∃ m, w' = w2.drewN (q + m)) := Lib.hid (fun c1 c2 q2 => (HPS.out _ c1 c2 _ (HZ.out i hlt) (HA.out.drewN (q + q2)) (HB.out.drewN (q + q2))).mono (fun e w' ⟨h1, m, h2⟩ => ⟨h1, q2 + m, by rw [h2, World.drewN_drewN, Nat.add_assoc]⟩))
      have HON : Hid (jsV p (zs.take k) (ys.take k) k (zs.getD i 0) = ys.getD i 0 → fitP p zs ys k (i + 1)) := Lib.hid (fun h j hj hj2 => by
        by_cases e : j < i
        · exact HFP.out j e hj2
        · obtain rfl : j = i := by omega
          exact h)
      have HNO : Hid (jsV p (zs.take k) (ys.take k) k (zs.getD i 0) ≠ ys.getD i 0 → fitV p need zs ys n = false) := Lib.hid (fun h => HF.out false (decide_eq_false (fun q => h (q i hlt hki))))
      generalize jsV p (zs.take k) (ys.take k) k (zs.getD i 0) = V at HP1 HON HNO
      generalize zs.getD i 0 = x at hca HP1
      generalize ys.getD i 0 = y at hcb HON HNO
      by_cases he : V = y
      · have HN := Lib.hid (HON.out he)
        subst he
        go_wp2
        go_quiet ((go_at_call 75; exact HP1.out _ _ _))
        go_wp2
        exact ⟨⟨i + 1, _, by omega, by omega, HN, by first | rfl | go_num | (congr 1), rfl⟩, by show n - ((i : Int) + 1).toNat < n - (i : Int).toNat; omega⟩
      · have HN := Lib.hid (HNO.out he)
        have heb : (V == y) = false := by simpa using he
        go_wp2
        go_quiet ((go_at_call 75; exact HP1.out _ _ _))
        go_wp2
        exact bodyPost_ret (v := .tuple #[.bool false, .bool true]) (by simp [results, Try.results31, go_sem]) rfl ⟨by rw [HN.out], (by first | exact Below.drewN' HW.out _ | exact Below.drewN' (Below.drewN' HW.out _) _)⟩
    · obtain rfl : i = n := by omega
      have HN := Lib.hid (HF.out true (decide_eq_true HFP.out))
      go_wp2
      exact bodyPost_ret (v := .tuple #[.bool true, .bool true]) (by simp [results, Try.results31, go_sem]) rfl ⟨by rw [HN.out], (by first | exact Below.drewN' HW.out _ | exact Below.drewN' (Below.drewN' HW.out _) _)⟩
/-- The polynomial's block and a share, in a later world. -/
def PF (w W : World) (T : Nat) (th : Nat → Int) (bb ob : Nat) (y : Int) : Prop := Below w.heap.size w W ∧ A8 W T th ∧ bb < w.heap.size ∧ W.cell? ⟨bb, ob, none⟩ = some (.int .i64 y)
theorem PF.below {w W W' : World} {T : Nat} {th : Nat → Int} {bb ob : Nat} {y : Int} (h : PF w W T th bb ob y) (hb : Below W.heap.size W W') : PF w W' T th bb ob y :=
  ⟨Below.next h.1 hb, h.2.1.below hb, h.2.2.1, by rw [hb.cell (p := ⟨bb, ob, none⟩) (Nat.lt_of_lt_of_le h.2.2.1 h.1.size)]; exact h.2.2.2⟩
theorem PF.drewN {w W : World} {T : Nat} {th : Nat → Int} {bb ob : Nat} {y : Int} (h : PF w W T th bb ob y) (q : Nat) : PF w (W.drewN q) T th bb ob y := h.below (Below.drewN' (Below.refl _ _) q)
theorem PF.drew {w W : World} {T : Nat} {th : Nat → Int} {bb ob : Nat} {y : Int} (h : PF w W T th bb ob y) : PF w W.drew T th bb ob y := by rw [World.drew_is_drewN]; exact h.drewN 1
theorem pf_cells {w W : World} {T : Nat} {th : Nat → Int} {bb ob : Nat} {y : Int} (h : PF w W T th bb ob y) : W.cell? ⟨T, 0, none⟩ = some (.int .i64 (th 0)) ∧ W.cell? ⟨T, 1, none⟩ = some (.int .i64 (th 1)) ∧ W.cell? ⟨T, 2, none⟩ = some (.int .i64 (th 2)) ∧ W.cell? ⟨T, 3, none⟩ = some (.int .i64 (th 3)) ∧ W.cell? ⟨T, 4, none⟩ = some (.int .i64 (th 4)) ∧ W.cell? ⟨T, 5, none⟩ = some (.int .i64 (th 5)) ∧ W.cell? ⟨T, 6, none⟩ = some (.int .i64 (th 6)) ∧ W.cell? ⟨T, 7, none⟩ = some (.int .i64 (th 7)) ∧ W.cell? ⟨bb, ob, none⟩ = some (.int .i64 y) :=
  ⟨(h.2.1.2 0 (by decide)).1, (h.2.1.2 1 (by decide)).1, (h.2.1.2 2 (by decide)).1, (h.2.1.2 3 (by decide)).1, (h.2.1.2 4 (by decide)).1, (h.2.1.2 5 (by decide)).1, (h.2.1.2 6 (by decide)).1, (h.2.1.2 7 (by decide)).1, h.2.2.2⟩
set_option maxRecDepth 100000 in
set_option maxHeartbeats 4000000 in
theorem fiIN (p need : Int) (a : Option Addr) (n cap : Nat) (zs : List Int) (b : Option Addr) (m capb : Nat) (ys : List Int) (w : World) (ha : IRow w a n zs) (hb : IRow w b m ys) (hn : n ≤ 1048576) (hm : m ≤ 1048576) (hcp : n ≤ cap) (hok : fiB p need zs n ys m = false) :
    Calls Try.prog 32 #[.int .i64 p, .int .i64 need, .slice a n cap, .slice b m capb] w fun e w' => e = .returned (.tuple #[.bool false, .bool false]) ∧ Below w.heap.size w w' := by
  have HA := Lib.hid ha
  have HB := Lib.hid hb
  clear ha hb
  rcases fi_no hok with h1 | ⟨h1, h2⟩
  · have HS : Hid (∀ w2, IRow w2 a n zs → IRow w2 b m ys → Calls Try.prog 76 #[.int .i64 p, .slice a n cap, .slice b m capb] w2 fun e w' => e = .returned (.bool false) ∧ w2 = w') := Lib.hid (fun w2 h3 h4 => by have := sh_impl p a n cap zs b m capb ys w2 h3 h4 hn hm hcp; rw [h1] at this; exact this)
    go_enter Try.func32, Try.ntmps32
    go_wp2_with (first | (go_at_call 76; (with_reducible refine (HS.out _ HA.out HB.out).mono ?_); rintro e w' ⟨rfl, hw⟩; subst hw) | fail)
    exact bodyPost_ret (v := .tuple #[.bool false, .bool false]) (by simp [results, Try.results32, go_sem]) rfl ⟨rfl, Below.refl _ _⟩
  · have HS : Hid (∀ w2, IRow w2 a n zs → IRow w2 b m ys → Calls Try.prog 76 #[.int .i64 p, .slice a n cap, .slice b m capb] w2 fun e w' => e = .returned (.bool true) ∧ w2 = w') := Lib.hid (fun w2 h3 h4 => by have := sh_impl p a n cap zs b m capb ys w2 h3 h4 hn hm hcp; rw [h1] at this; exact this)
    by_cases h3 : need < 1
    · have d1 : decide (need < 1) = true := decide_eq_true h3
      go_enter Try.func32, Try.ntmps32
      go_wp2_with (first | (go_at_call 76; (with_reducible refine (HS.out _ HA.out HB.out).mono ?_); rintro e w' ⟨rfl, hw⟩; subst hw) | fail)
      exact bodyPost_ret (v := .tuple #[.bool false, .bool false]) (by simp [results, Try.results32, go_sem]) rfl ⟨rfl, Below.refl _ _⟩
    · have d1 : decide (need < 1) = false := decide_eq_false h3
      have d2 : decide (8 < need) = true := decide_eq_true (by omega)
      go_enter Try.func32, Try.ntmps32
      go_wp2_with (first | (go_at_call 76; (with_reducible refine (HS.out _ HA.out HB.out).mono ?_); rintro e w' ⟨rfl, hw⟩; subst hw) | fail)
      exact bodyPost_ret (v := .tuple #[.bool false, .bool false]) (by simp [results, Try.results32, go_sem]) rfl ⟨rfl, Below.refl _ _⟩
set_option maxRecDepth 100000 in
set_option maxHeartbeats 4000000 in
theorem fiIY (p need : Int) (a : Option Addr) (n cap : Nat) (zs : List Int) (b : Option Addr) (m capb : Nat) (ys : List Int) (w : World) (ha : IRow w a n zs) (hb : IRow w b m ys) (hn : n ≤ 1048576) (hm : m ≤ 1048576) (hcp : n ≤ cap) (hcpb : m ≤ capb) (hok : fiB p need zs n ys m = true) :
    Calls Try.prog 32 #[.int .i64 p, .int .i64 need, .slice a n cap, .slice b m capb] w fun e w' => e = .returned (.tuple #[.bool (fitV p need zs ys n), .bool true]) ∧ Below w.heap.size w w' := by
  have HA := Lib.hid ha
  have HB := Lib.hid hb
  obtain ⟨hsh, hd1, hd8⟩ := fi_yes hok
  obtain ⟨hp, ⟨hz, hn1, hn8⟩, hy, rfl, hd⟩ := shB_yes hsh
  have HS : Hid (∀ w2, IRow w2 a n zs → IRow w2 b n ys → Calls Try.prog 76 #[.int .i64 p, .slice a n cap, .slice b n capb] w2 fun e w' => e = .returned (.bool true) ∧ w2 = w') := Lib.hid (fun w2 h3 h4 => by have := sh_impl p a n cap zs b n capb ys w2 h3 h4 hn hm hcp; rw [hsh] at this; exact this)
  have hkn : f0 need n ≤ n := by unfold f0; omega
  have hmin : min need (n : Int) = ((f0 need n : Nat) : Int) := by unfold f0; omega
  have HF : Hid (∀ q : Bool, decide (fitP p zs ys (f0 need n) n) = q → fitV p need zs ys n = q) := Lib.hid (fun q h => h)
  generalize f0 need n = k at hmin hkn HF
  obtain ⟨ba, oa, rfl⟩ : ∃ ba oa, a = some ⟨ba, oa, none⟩ := by
    rcases ha.2 with h0 | ⟨b, o, e, _⟩
    · omega
    · exact ⟨b, o, e⟩
  obtain ⟨bb, ob, rfl⟩ : ∃ bb ob, b = some ⟨bb, ob, none⟩ := by
    rcases hb.2 with h0 | ⟨b, o, e, _⟩
    · omega
    · exact ⟨b, o, e⟩
  have hp7 := pr_le hp
  have HPT : Hid (∀ c1 c2 w2, IRow w2 (some ⟨ba, oa, none⟩) n zs → IRow w2 (some ⟨bb, ob, none⟩) n ys → Calls Try.prog 77 #[.int .i64 p, .slice (some ⟨ba, oa, none⟩) k c1, .slice (some ⟨bb, ob, none⟩) k c2] w2 fun e w' => ∃ th, e = .returned (.agg (a8 th)) ∧ Below w2.heap.size w2 w' ∧ ((∀ i, i < n → Pol.ho p th (zs.getD i 0) 8 8 = if i < k then ys.getD i 0 else fitJ p zs ys k i) ∧ ∀ j, j < 8 → 0 ≤ th j ∧ th j < 257)) := Lib.hid (fun c1 c2 w2 h1 h2 =>
    (pt_impl8 p _ k c1 (zs.take k) _ k c2 (ys.take k) w2 (irow_take h1 hkn) (irow_take h2 hkn) (pr_in hp) (by omega) (Nat.le_refl _) (let_take hz hkn) (let_take hy hkn) (ds_ne (ds_take hd hkn))).mono (fun e w' ⟨th, no, h3, h4, h5⟩ => ⟨th, h3, h4, fun i hi => by
      by_cases hik : i < k
      · rw [if_pos hik]
        have := hit_js (pr_in hp) (let_take hy hkn) h5 hik
        rwa [take_at hik, take_at hik] at this
      · rw [if_neg hik]
        exact ho_js (pr_in hp) (by omega) (let_take hz hkn) (ds_take hd hkn) h5 _, fun j hj => by have := h5.tin j hj; omega⟩))
  have HZ := Lib.hid hz
  have HY := Lib.hid hy
  have HP := Lib.hid hp7
  have hkc : k ≤ cap := by omega
  have hkcb : k ≤ capb := by omega
  have hkci : (k : Int) ≤ (cap : Int) := by omega
  have hkcbi : (k : Int) ≤ (capb : Int) := by omega
  have hint2 : (0 : Int) ≤ (k : Int) := by omega
  have d1 : decide (need < 1) = false := decide_eq_false (by omega)
  have d2 : decide (8 < need) = false := decide_eq_false (by omega)
  clear ha hb hok hsh hp hz hy hd hp7
  have hcase : (k = n ∧ (n : Int) < need) ∨ (need = (k : Int) ∧ k < n) ∨ (need = (k : Int) ∧ k = n) := by omega
  rcases hcase with ⟨hk0, hlt0⟩ | ⟨hk0, hlt0⟩ | ⟨hk0, hlt0⟩
  · skip
    subst hk0
    have hl1 : decide (need < (k : Int)) = false := decide_eq_false (by omega)
    have hl2 : decide ((k : Int) < need) = true := decide_eq_true hlt0
    have hl3 : (need == (k : Int)) = false := by simpa using (show ¬ need = (k : Int) by omega)
    have hl4 : ¬ need ≤ (k : Int) := by omega
    go_enter Try.func32, Try.ntmps32
    go_wp2_with (first | (go_at_call 76; (with_reducible refine (HS.out _ HA.out HB.out).mono ?_); rintro e w' ⟨rfl, hw⟩; subst hw) | fail)
    go_region_held3 (fun _ => True) (trivial)
      (first | (go_at_call 77; (first | (with_reducible refine (HPT.out _ _ _ HA.out HB.out).mono ?_) | (with_reducible refine (HPT.out _ _ _ (HA.out.below (by repeat (first | exact Below.refl _ _ | refine Below.drew ?_ | refine Below.alloc ?_ (by first | exact Nat.le_refl _ | (simp; done) | (simp; omega)) _))) (HB.out.below (by repeat (first | exact Below.refl _ _ | refine Below.drew ?_ | refine Below.alloc ?_ (by first | exact Nat.le_refl _ | (simp; done) | (simp; omega)) _)))).mono ?_)); rintro e w2 ⟨th, rfl, hb, hth⟩; have HTH := Lib.hid hth; have HBW := Lib.hid hb; (first | (have h8 := (A8.new w.drew (fun _ => 0) 100).below hb; have hst := st_8 h8 th; have hA4 := h8.setCells th; have hB4 := below_setCells8 (p := w.heap.size) (Nat.le_refl _) (a8 th).toList 0 _ (Below.next (Below.alloc (Below.drew (Below.refl _ w)) (Nat.le_refl _) _) hb); (obtain ⟨W4, hW4⟩ : ∃ W4, W4 = w2.setCells w.heap.size 0 (a8 th).toList := ⟨_, rfl⟩); simp only [World.size_drew] at hst hA4; rw [← hW4] at hst hA4 hB4; clear hW4 h8; have HA4 := Lib.hid hA4; have HB4 := Lib.hid hB4; clear hA4 hB4) | (have h8 := A8.new w2 (fun _ => 0) 100; have hst := st_8 h8 th; have hA4 := h8.setCells th; have hB4 := below_setCells8 (p := w2.heap.size) (n := w.heap.size) hb.size (a8 th).toList 0 _ (Below.alloc (Below.next (Below.drew (Below.refl _ w)) hb) hb.size (.cells (a8 (fun _ => 0)) 100)); (obtain ⟨W4, hW4⟩ : ∃ W4, W4 = (w2.alloc (.cells (a8 (fun _ => 0)) 100)).setCells w2.heap.size 0 (a8 th).toList := ⟨_, rfl⟩); rw [← hW4] at hst hA4 hB4; rw [z8] at hst; clear hW4 h8; have HA4 := Lib.hid hA4; have HB4 := Lib.hid hB4; clear hA4 hB4)); clear hb hth) | fail)
    · skip
      have HAr := Lib.hid (HA.out.below HB4.out)
      have HBr := Lib.hid (HB.out.below HB4.out)
      clear HPT HS hst HBW
      go_wp2
      go_loopw [41] (fun iv w' => ∃ (i : Nat) (wr : World), i ≤ k ∧ iv = .int .i64 i ∧ wr = w' ∧ Hid (Below w.heap.size w wr) ∧ Hid (A8 wr w2.heap.size th) ∧ Hid (∀ j, j < i → Pol.ho p th (zs.getD j 0) 8 8 = ys.getD j 0)) (fun iv _ => k - (intOf iv).toNat)
      case atStart => exact ⟨0, _, Nat.zero_le _, rfl, rfl, HB4, HA4, Lib.hid (by intro j hj; omega)⟩
      case round =>
        obtain ⟨i, wr, hi, rfl, rfl, HW, HT8, HL⟩ := hrel
        by_cases hlt : i < k
        · obtain ⟨ba2, oa2, e2, hba, hca⟩ := (HA.out.below HW.out).cell' hlt
          injection e2 with e2
          injection e2 with e21 e22
          subst e21; subst e22
          obtain ⟨bb2, ob2, e2, hbb, hcb0⟩ := HB.out.cell' hlt
          injection e2 with e2
          injection e2 with e21 e22
          subst e21; subst e22
          have hcb : wr.cell? ⟨bb, ob + i, none⟩ = some (.int .i64 (ys.getD i 0)) := by rw [HW.out.cell (p := ⟨bb, ob + i, none⟩) hbb]; exact hcb0
          have HX : Hid (PF w wr w2.heap.size th bb (ob + i) (ys.getD i 0)) := Lib.hid ⟨HW.out, HT8.out, hbb, hcb⟩
          have hwi : IntKind.i64.wrap ((i : Int) + 1) = (i : Int) + 1 := IntWalk.i64_in _ (by omega)
          have hint0 : (0 : Int) ≤ (i : Int) := by omega
          have hint1 : (i : Int) < (k : Int) := by omega
          have HAT : Hid (∀ w3, Calls Try.prog 78 #[.agg (a8 th), .int .i64 p, .int .i64 (zs.getD i 0)] w3 fun e w' => e = .returned (.int .i64 (Pol.ho p th (zs.getD i 0) 8 8)) ∧ Below w3.heap.size w3 w') := Lib.hid (fun w3 => at_impl p _ th w3 (by have := HP.out; omega) HP.out.2 (HZ.out i hlt).1 (by have := (HZ.out i hlt).2; have := HP.out; omega) HTH.out.2)
          have HON : Hid (Pol.ho p th (zs.getD i 0) 8 8 = ys.getD i 0 → ∀ j, j < i + 1 → Pol.ho p th (zs.getD j 0) 8 8 = ys.getD j 0) := Lib.hid (fun h j hj => by
            by_cases e : j < i
            · exact HL.out j e
            · obtain rfl : j = i := by omega
              exact h)
          have HNO : Hid (Pol.ho p th (zs.getD i 0) 8 8 ≠ ys.getD i 0 → fitV p need zs ys k = false) := Lib.hid (fun h => HF.out false (decide_eq_false (fun q => by
            have h1 := HTH.out.1 i hlt
            by_cases hik : i < k
            · rw [if_pos hik] at h1; exact h h1
            · rw [if_neg hik] at h1; rw [q i hlt (by omega)] at h1; exact h h1)))
          clear hcb0
          generalize Pol.ho p th (zs.getD i 0) 8 8 = V at HAT HON HNO
          generalize zs.getD i 0 = x at hca HAT
          generalize ys.getD i 0 = y at hcb HON HNO HX
          simp only [a8] at HAT
          by_cases he : V = y
          · have HN := Lib.hid (HON.out he)
            clear HON HNO HL HT8 HW
            subst he
            go_wp2
            go_region_held3 (fun w' => w'.cell? ⟨w2.heap.size, 0, none⟩ = some (.int .i64 (th 0)) ∧ w'.cell? ⟨w2.heap.size, 1, none⟩ = some (.int .i64 (th 1)) ∧ w'.cell? ⟨w2.heap.size, 2, none⟩ = some (.int .i64 (th 2)) ∧ w'.cell? ⟨w2.heap.size, 3, none⟩ = some (.int .i64 (th 3)) ∧ w'.cell? ⟨w2.heap.size, 4, none⟩ = some (.int .i64 (th 4)) ∧ w'.cell? ⟨w2.heap.size, 5, none⟩ = some (.int .i64 (th 5)) ∧ w'.cell? ⟨w2.heap.size, 6, none⟩ = some (.int .i64 (th 6)) ∧ w'.cell? ⟨w2.heap.size, 7, none⟩ = some (.int .i64 (th 7)) ∧ w'.cell? ⟨bb, ob + i, none⟩ = some (.int .i64 V)) (first | exact pf_cells HX.out | exact pf_cells HX.out.drew | exact pf_cells (HX.out.drewN _) | go_keep)
              (first | (go_at_call 78; (with_reducible refine (HAT.out _).mono ?_); rintro e w5 ⟨rfl, hb⟩; (first | (have HX2 := Lib.hid (HX.out.below hb)) | (have HX2 := Lib.hid ((HX.out.drewN _).below hb)) | (have HX2 := Lib.hid (HX.out.drew.below hb))); clear hb; have HX := HX2; clear HX2) | fail)
            all_goals
              have HW5 := Lib.hid HX.out.1
              have HT5 := Lib.hid HX.out.2.1
              go_wp2
              exact ⟨⟨i + 1, _, by omega, by first | rfl | go_num | (congr 1), rfl, HW5, HT5, HN⟩, by show k - ((i : Int) + 1).toNat < k - (i : Int).toNat; omega⟩
          · have HN := Lib.hid (HNO.out he)
            have heb : (V == y) = false := by simpa using he
            clear HON HNO HL HT8 HW
            go_wp2
            go_region_held3 (fun w' => w'.cell? ⟨w2.heap.size, 0, none⟩ = some (.int .i64 (th 0)) ∧ w'.cell? ⟨w2.heap.size, 1, none⟩ = some (.int .i64 (th 1)) ∧ w'.cell? ⟨w2.heap.size, 2, none⟩ = some (.int .i64 (th 2)) ∧ w'.cell? ⟨w2.heap.size, 3, none⟩ = some (.int .i64 (th 3)) ∧ w'.cell? ⟨w2.heap.size, 4, none⟩ = some (.int .i64 (th 4)) ∧ w'.cell? ⟨w2.heap.size, 5, none⟩ = some (.int .i64 (th 5)) ∧ w'.cell? ⟨w2.heap.size, 6, none⟩ = some (.int .i64 (th 6)) ∧ w'.cell? ⟨w2.heap.size, 7, none⟩ = some (.int .i64 (th 7)) ∧ w'.cell? ⟨bb, ob + i, none⟩ = some (.int .i64 y)) (first | exact pf_cells HX.out | exact pf_cells HX.out.drew | exact pf_cells (HX.out.drewN _) | go_keep)
              (first | (go_at_call 78; (with_reducible refine (HAT.out _).mono ?_); rintro e w5 ⟨rfl, hb⟩; (first | (have HX2 := Lib.hid (HX.out.below hb)) | (have HX2 := Lib.hid ((HX.out.drewN _).below hb)) | (have HX2 := Lib.hid (HX.out.drew.below hb))); clear hb; have HX := HX2; clear HX2) | fail)
            all_goals
              have HW5 := Lib.hid HX.out.1
              go_wp2
              exact bodyPost_ret (v := .tuple #[.bool false, .bool true]) (by simp [results, Try.results32, go_sem]) rfl ⟨by rw [HN.out], HW5.out⟩
        · obtain rfl : i = k := by omega
          have HN := Lib.hid (HF.out true (decide_eq_true (fun j hj hkj => by
            have h1 := HTH.out.1 j hj
            rw [if_neg (by omega), HL.out j hj] at h1
            exact h1.symm)))
          go_wp2
          exact bodyPost_ret (v := .tuple #[.bool true, .bool true]) (by simp [results, Try.results32, go_sem]) rfl ⟨by rw [HN.out], HW.out⟩
    · skip
      have HAr := Lib.hid (HA.out.below HB4.out)
      have HBr := Lib.hid (HB.out.below HB4.out)
      clear HPT HS hst HBW
      go_wp2
      go_loopw [41] (fun iv w' => ∃ (i : Nat) (wr : World), i ≤ k ∧ iv = .int .i64 i ∧ wr = w' ∧ Hid (Below w.heap.size w wr) ∧ Hid (A8 wr w.heap.size th) ∧ Hid (∀ j, j < i → Pol.ho p th (zs.getD j 0) 8 8 = ys.getD j 0)) (fun iv _ => k - (intOf iv).toNat)
      case atStart => exact ⟨0, _, Nat.zero_le _, rfl, rfl, HB4, HA4, Lib.hid (by intro j hj; omega)⟩
      case round =>
        obtain ⟨i, wr, hi, rfl, rfl, HW, HT8, HL⟩ := hrel
        by_cases hlt : i < k
        · obtain ⟨ba2, oa2, e2, hba, hca⟩ := (HA.out.below HW.out).cell' hlt
          injection e2 with e2
          injection e2 with e21 e22
          subst e21; subst e22
          obtain ⟨bb2, ob2, e2, hbb, hcb0⟩ := HB.out.cell' hlt
          injection e2 with e2
          injection e2 with e21 e22
          subst e21; subst e22
          have hcb : wr.cell? ⟨bb, ob + i, none⟩ = some (.int .i64 (ys.getD i 0)) := by rw [HW.out.cell (p := ⟨bb, ob + i, none⟩) hbb]; exact hcb0
          have HX : Hid (PF w wr w.heap.size th bb (ob + i) (ys.getD i 0)) := Lib.hid ⟨HW.out, HT8.out, hbb, hcb⟩
          have hwi : IntKind.i64.wrap ((i : Int) + 1) = (i : Int) + 1 := IntWalk.i64_in _ (by omega)
          have hint0 : (0 : Int) ≤ (i : Int) := by omega
          have hint1 : (i : Int) < (k : Int) := by omega
          have HAT : Hid (∀ w3, Calls Try.prog 78 #[.agg (a8 th), .int .i64 p, .int .i64 (zs.getD i 0)] w3 fun e w' => e = .returned (.int .i64 (Pol.ho p th (zs.getD i 0) 8 8)) ∧ Below w3.heap.size w3 w') := Lib.hid (fun w3 => at_impl p _ th w3 (by have := HP.out; omega) HP.out.2 (HZ.out i hlt).1 (by have := (HZ.out i hlt).2; have := HP.out; omega) HTH.out.2)
          have HON : Hid (Pol.ho p th (zs.getD i 0) 8 8 = ys.getD i 0 → ∀ j, j < i + 1 → Pol.ho p th (zs.getD j 0) 8 8 = ys.getD j 0) := Lib.hid (fun h j hj => by
            by_cases e : j < i
            · exact HL.out j e
            · obtain rfl : j = i := by omega
              exact h)
          have HNO : Hid (Pol.ho p th (zs.getD i 0) 8 8 ≠ ys.getD i 0 → fitV p need zs ys k = false) := Lib.hid (fun h => HF.out false (decide_eq_false (fun q => by
            have h1 := HTH.out.1 i hlt
            by_cases hik : i < k
            · rw [if_pos hik] at h1; exact h h1
            · rw [if_neg hik] at h1; rw [q i hlt (by omega)] at h1; exact h h1)))
          clear hcb0
          generalize Pol.ho p th (zs.getD i 0) 8 8 = V at HAT HON HNO
          generalize zs.getD i 0 = x at hca HAT
          generalize ys.getD i 0 = y at hcb HON HNO HX
          simp only [a8] at HAT
          by_cases he : V = y
          · have HN := Lib.hid (HON.out he)
            clear HON HNO HL HT8 HW
            subst he
            go_wp2
            go_region_held3 (fun w' => w'.cell? ⟨w.heap.size, 0, none⟩ = some (.int .i64 (th 0)) ∧ w'.cell? ⟨w.heap.size, 1, none⟩ = some (.int .i64 (th 1)) ∧ w'.cell? ⟨w.heap.size, 2, none⟩ = some (.int .i64 (th 2)) ∧ w'.cell? ⟨w.heap.size, 3, none⟩ = some (.int .i64 (th 3)) ∧ w'.cell? ⟨w.heap.size, 4, none⟩ = some (.int .i64 (th 4)) ∧ w'.cell? ⟨w.heap.size, 5, none⟩ = some (.int .i64 (th 5)) ∧ w'.cell? ⟨w.heap.size, 6, none⟩ = some (.int .i64 (th 6)) ∧ w'.cell? ⟨w.heap.size, 7, none⟩ = some (.int .i64 (th 7)) ∧ w'.cell? ⟨bb, ob + i, none⟩ = some (.int .i64 V)) (first | exact pf_cells HX.out | exact pf_cells HX.out.drew | exact pf_cells (HX.out.drewN _) | go_keep)
              (first | (go_at_call 78; (with_reducible refine (HAT.out _).mono ?_); rintro e w5 ⟨rfl, hb⟩; (first | (have HX2 := Lib.hid (HX.out.below hb)) | (have HX2 := Lib.hid ((HX.out.drewN _).below hb)) | (have HX2 := Lib.hid (HX.out.drew.below hb))); clear hb; have HX := HX2; clear HX2) | fail)
            all_goals
              have HW5 := Lib.hid HX.out.1
              have HT5 := Lib.hid HX.out.2.1
              go_wp2
              exact ⟨⟨i + 1, _, by omega, by first | rfl | go_num | (congr 1), rfl, HW5, HT5, HN⟩, by show k - ((i : Int) + 1).toNat < k - (i : Int).toNat; omega⟩
          · have HN := Lib.hid (HNO.out he)
            have heb : (V == y) = false := by simpa using he
            clear HON HNO HL HT8 HW
            go_wp2
            go_region_held3 (fun w' => w'.cell? ⟨w.heap.size, 0, none⟩ = some (.int .i64 (th 0)) ∧ w'.cell? ⟨w.heap.size, 1, none⟩ = some (.int .i64 (th 1)) ∧ w'.cell? ⟨w.heap.size, 2, none⟩ = some (.int .i64 (th 2)) ∧ w'.cell? ⟨w.heap.size, 3, none⟩ = some (.int .i64 (th 3)) ∧ w'.cell? ⟨w.heap.size, 4, none⟩ = some (.int .i64 (th 4)) ∧ w'.cell? ⟨w.heap.size, 5, none⟩ = some (.int .i64 (th 5)) ∧ w'.cell? ⟨w.heap.size, 6, none⟩ = some (.int .i64 (th 6)) ∧ w'.cell? ⟨w.heap.size, 7, none⟩ = some (.int .i64 (th 7)) ∧ w'.cell? ⟨bb, ob + i, none⟩ = some (.int .i64 y)) (first | exact pf_cells HX.out | exact pf_cells HX.out.drew | exact pf_cells (HX.out.drewN _) | go_keep)
              (first | (go_at_call 78; (with_reducible refine (HAT.out _).mono ?_); rintro e w5 ⟨rfl, hb⟩; (first | (have HX2 := Lib.hid (HX.out.below hb)) | (have HX2 := Lib.hid ((HX.out.drewN _).below hb)) | (have HX2 := Lib.hid (HX.out.drew.below hb))); clear hb; have HX := HX2; clear HX2) | fail)
            all_goals
              have HW5 := Lib.hid HX.out.1
              go_wp2
              exact bodyPost_ret (v := .tuple #[.bool false, .bool true]) (by simp [results, Try.results32, go_sem]) rfl ⟨by rw [HN.out], HW5.out⟩
        · obtain rfl : i = k := by omega
          have HN := Lib.hid (HF.out true (decide_eq_true (fun j hj hkj => by
            have h1 := HTH.out.1 j hj
            rw [if_neg (by omega), HL.out j hj] at h1
            exact h1.symm)))
          go_wp2
          exact bodyPost_ret (v := .tuple #[.bool true, .bool true]) (by simp [results, Try.results32, go_sem]) rfl ⟨by rw [HN.out], HW.out⟩
  · skip
    subst hk0
    have hl1 : decide ((n : Int) < (k : Int)) = false := decide_eq_false (by omega)
    have hl2 : decide ((k : Int) < (n : Int)) = true := decide_eq_true (by omega)
    have hl3 : ((k : Int) == (n : Int)) = false := by simpa using (show ¬ (k : Int) = (n : Int) by omega)
    have hl4 : ¬ (n : Int) ≤ (k : Int) := by omega
    have hl5 : (k : Int) ≤ (n : Int) := by omega
    go_enter Try.func32, Try.ntmps32
    go_wp2_with (first | (go_at_call 76; (with_reducible refine (HS.out _ HA.out HB.out).mono ?_); rintro e w' ⟨rfl, hw⟩; subst hw) | fail)
    go_region_held3 (fun _ => True) (trivial)
      (first | (go_at_call 77; (first | (with_reducible refine (HPT.out _ _ _ HA.out HB.out).mono ?_) | (with_reducible refine (HPT.out _ _ _ (HA.out.below (by repeat (first | exact Below.refl _ _ | refine Below.drew ?_ | refine Below.alloc ?_ (by first | exact Nat.le_refl _ | (simp; done) | (simp; omega)) _))) (HB.out.below (by repeat (first | exact Below.refl _ _ | refine Below.drew ?_ | refine Below.alloc ?_ (by first | exact Nat.le_refl _ | (simp; done) | (simp; omega)) _)))).mono ?_)); rintro e w2 ⟨th, rfl, hb, hth⟩; have HTH := Lib.hid hth; have HBW := Lib.hid hb; (first | (have h8 := (A8.new w.drew (fun _ => 0) 100).below hb; have hst := st_8 h8 th; have hA4 := h8.setCells th; have hB4 := below_setCells8 (p := w.heap.size) (Nat.le_refl _) (a8 th).toList 0 _ (Below.next (Below.alloc (Below.drew (Below.refl _ w)) (Nat.le_refl _) _) hb); (obtain ⟨W4, hW4⟩ : ∃ W4, W4 = w2.setCells w.heap.size 0 (a8 th).toList := ⟨_, rfl⟩); simp only [World.size_drew] at hst hA4; rw [← hW4] at hst hA4 hB4; clear hW4 h8; have HA4 := Lib.hid hA4; have HB4 := Lib.hid hB4; clear hA4 hB4) | (have h8 := A8.new w2 (fun _ => 0) 100; have hst := st_8 h8 th; have hA4 := h8.setCells th; have hB4 := below_setCells8 (p := w2.heap.size) (n := w.heap.size) hb.size (a8 th).toList 0 _ (Below.alloc (Below.next (Below.drew (Below.refl _ w)) hb) hb.size (.cells (a8 (fun _ => 0)) 100)); (obtain ⟨W4, hW4⟩ : ∃ W4, W4 = (w2.alloc (.cells (a8 (fun _ => 0)) 100)).setCells w2.heap.size 0 (a8 th).toList := ⟨_, rfl⟩); rw [← hW4] at hst hA4 hB4; rw [z8] at hst; clear hW4 h8; have HA4 := Lib.hid hA4; have HB4 := Lib.hid hB4; clear hA4 hB4)); clear hb hth) | fail)
    · skip
      have HAr := Lib.hid (HA.out.below HB4.out)
      have HBr := Lib.hid (HB.out.below HB4.out)
      clear HPT HS hst HBW
      go_wp2
      go_loopw [41] (fun iv w' => ∃ (i : Nat) (wr : World), i ≤ n ∧ iv = .int .i64 i ∧ wr = w' ∧ Hid (Below w.heap.size w wr) ∧ Hid (A8 wr w2.heap.size th) ∧ Hid (∀ j, j < i → Pol.ho p th (zs.getD j 0) 8 8 = ys.getD j 0)) (fun iv _ => n - (intOf iv).toNat)
      case atStart => exact ⟨0, _, Nat.zero_le _, rfl, rfl, HB4, HA4, Lib.hid (by intro j hj; omega)⟩
      case round =>
        obtain ⟨i, wr, hi, rfl, rfl, HW, HT8, HL⟩ := hrel
        by_cases hlt : i < n
        · obtain ⟨ba2, oa2, e2, hba, hca⟩ := (HA.out.below HW.out).cell' hlt
          injection e2 with e2
          injection e2 with e21 e22
          subst e21; subst e22
          obtain ⟨bb2, ob2, e2, hbb, hcb0⟩ := HB.out.cell' hlt
          injection e2 with e2
          injection e2 with e21 e22
          subst e21; subst e22
          have hcb : wr.cell? ⟨bb, ob + i, none⟩ = some (.int .i64 (ys.getD i 0)) := by rw [HW.out.cell (p := ⟨bb, ob + i, none⟩) hbb]; exact hcb0
          have HX : Hid (PF w wr w2.heap.size th bb (ob + i) (ys.getD i 0)) := Lib.hid ⟨HW.out, HT8.out, hbb, hcb⟩
          have hwi : IntKind.i64.wrap ((i : Int) + 1) = (i : Int) + 1 := IntWalk.i64_in _ (by omega)
          have hint0 : (0 : Int) ≤ (i : Int) := by omega
          have hint1 : (i : Int) < (n : Int) := by omega
          have HAT : Hid (∀ w3, Calls Try.prog 78 #[.agg (a8 th), .int .i64 p, .int .i64 (zs.getD i 0)] w3 fun e w' => e = .returned (.int .i64 (Pol.ho p th (zs.getD i 0) 8 8)) ∧ Below w3.heap.size w3 w') := Lib.hid (fun w3 => at_impl p _ th w3 (by have := HP.out; omega) HP.out.2 (HZ.out i hlt).1 (by have := (HZ.out i hlt).2; have := HP.out; omega) HTH.out.2)
          have HON : Hid (Pol.ho p th (zs.getD i 0) 8 8 = ys.getD i 0 → ∀ j, j < i + 1 → Pol.ho p th (zs.getD j 0) 8 8 = ys.getD j 0) := Lib.hid (fun h j hj => by
            by_cases e : j < i
            · exact HL.out j e
            · obtain rfl : j = i := by omega
              exact h)
          have HNO : Hid (Pol.ho p th (zs.getD i 0) 8 8 ≠ ys.getD i 0 → fitV p (k : Int) zs ys n = false) := Lib.hid (fun h => HF.out false (decide_eq_false (fun q => by
            have h1 := HTH.out.1 i hlt
            by_cases hik : i < k
            · rw [if_pos hik] at h1; exact h h1
            · rw [if_neg hik] at h1; rw [q i hlt (by omega)] at h1; exact h h1)))
          clear hcb0
          generalize Pol.ho p th (zs.getD i 0) 8 8 = V at HAT HON HNO
          generalize zs.getD i 0 = x at hca HAT
          generalize ys.getD i 0 = y at hcb HON HNO HX
          simp only [a8] at HAT
          by_cases he : V = y
          · have HN := Lib.hid (HON.out he)
            clear HON HNO HL HT8 HW
            subst he
            go_wp2
            go_region_held3 (fun w' => w'.cell? ⟨w2.heap.size, 0, none⟩ = some (.int .i64 (th 0)) ∧ w'.cell? ⟨w2.heap.size, 1, none⟩ = some (.int .i64 (th 1)) ∧ w'.cell? ⟨w2.heap.size, 2, none⟩ = some (.int .i64 (th 2)) ∧ w'.cell? ⟨w2.heap.size, 3, none⟩ = some (.int .i64 (th 3)) ∧ w'.cell? ⟨w2.heap.size, 4, none⟩ = some (.int .i64 (th 4)) ∧ w'.cell? ⟨w2.heap.size, 5, none⟩ = some (.int .i64 (th 5)) ∧ w'.cell? ⟨w2.heap.size, 6, none⟩ = some (.int .i64 (th 6)) ∧ w'.cell? ⟨w2.heap.size, 7, none⟩ = some (.int .i64 (th 7)) ∧ w'.cell? ⟨bb, ob + i, none⟩ = some (.int .i64 V)) (first | exact pf_cells HX.out | exact pf_cells HX.out.drew | exact pf_cells (HX.out.drewN _) | go_keep)
              (first | (go_at_call 78; (with_reducible refine (HAT.out _).mono ?_); rintro e w5 ⟨rfl, hb⟩; (first | (have HX2 := Lib.hid (HX.out.below hb)) | (have HX2 := Lib.hid ((HX.out.drewN _).below hb)) | (have HX2 := Lib.hid (HX.out.drew.below hb))); clear hb; have HX := HX2; clear HX2) | fail)
            all_goals
              have HW5 := Lib.hid HX.out.1
              have HT5 := Lib.hid HX.out.2.1
              go_wp2
              exact ⟨⟨i + 1, _, by omega, by first | rfl | go_num | (congr 1), rfl, HW5, HT5, HN⟩, by show n - ((i : Int) + 1).toNat < n - (i : Int).toNat; omega⟩
          · have HN := Lib.hid (HNO.out he)
            have heb : (V == y) = false := by simpa using he
            clear HON HNO HL HT8 HW
            go_wp2
            go_region_held3 (fun w' => w'.cell? ⟨w2.heap.size, 0, none⟩ = some (.int .i64 (th 0)) ∧ w'.cell? ⟨w2.heap.size, 1, none⟩ = some (.int .i64 (th 1)) ∧ w'.cell? ⟨w2.heap.size, 2, none⟩ = some (.int .i64 (th 2)) ∧ w'.cell? ⟨w2.heap.size, 3, none⟩ = some (.int .i64 (th 3)) ∧ w'.cell? ⟨w2.heap.size, 4, none⟩ = some (.int .i64 (th 4)) ∧ w'.cell? ⟨w2.heap.size, 5, none⟩ = some (.int .i64 (th 5)) ∧ w'.cell? ⟨w2.heap.size, 6, none⟩ = some (.int .i64 (th 6)) ∧ w'.cell? ⟨w2.heap.size, 7, none⟩ = some (.int .i64 (th 7)) ∧ w'.cell? ⟨bb, ob + i, none⟩ = some (.int .i64 y)) (first | exact pf_cells HX.out | exact pf_cells HX.out.drew | exact pf_cells (HX.out.drewN _) | go_keep)
              (first | (go_at_call 78; (with_reducible refine (HAT.out _).mono ?_); rintro e w5 ⟨rfl, hb⟩; (first | (have HX2 := Lib.hid (HX.out.below hb)) | (have HX2 := Lib.hid ((HX.out.drewN _).below hb)) | (have HX2 := Lib.hid (HX.out.drew.below hb))); clear hb; have HX := HX2; clear HX2) | fail)
            all_goals
              have HW5 := Lib.hid HX.out.1
              go_wp2
              exact bodyPost_ret (v := .tuple #[.bool false, .bool true]) (by simp [results, Try.results32, go_sem]) rfl ⟨by rw [HN.out], HW5.out⟩
        · obtain rfl : i = n := by omega
          have HN := Lib.hid (HF.out true (decide_eq_true (fun j hj hkj => by
            have h1 := HTH.out.1 j hj
            rw [if_neg (by omega), HL.out j hj] at h1
            exact h1.symm)))
          go_wp2
          exact bodyPost_ret (v := .tuple #[.bool true, .bool true]) (by simp [results, Try.results32, go_sem]) rfl ⟨by rw [HN.out], HW.out⟩
    · skip
      have HAr := Lib.hid (HA.out.below HB4.out)
      have HBr := Lib.hid (HB.out.below HB4.out)
      clear HPT HS hst HBW
      go_wp2
      go_loopw [41] (fun iv w' => ∃ (i : Nat) (wr : World), i ≤ n ∧ iv = .int .i64 i ∧ wr = w' ∧ Hid (Below w.heap.size w wr) ∧ Hid (A8 wr w.heap.size th) ∧ Hid (∀ j, j < i → Pol.ho p th (zs.getD j 0) 8 8 = ys.getD j 0)) (fun iv _ => n - (intOf iv).toNat)
      case atStart => exact ⟨0, _, Nat.zero_le _, rfl, rfl, HB4, HA4, Lib.hid (by intro j hj; omega)⟩
      case round =>
        obtain ⟨i, wr, hi, rfl, rfl, HW, HT8, HL⟩ := hrel
        by_cases hlt : i < n
        · obtain ⟨ba2, oa2, e2, hba, hca⟩ := (HA.out.below HW.out).cell' hlt
          injection e2 with e2
          injection e2 with e21 e22
          subst e21; subst e22
          obtain ⟨bb2, ob2, e2, hbb, hcb0⟩ := HB.out.cell' hlt
          injection e2 with e2
          injection e2 with e21 e22
          subst e21; subst e22
          have hcb : wr.cell? ⟨bb, ob + i, none⟩ = some (.int .i64 (ys.getD i 0)) := by rw [HW.out.cell (p := ⟨bb, ob + i, none⟩) hbb]; exact hcb0
          have HX : Hid (PF w wr w.heap.size th bb (ob + i) (ys.getD i 0)) := Lib.hid ⟨HW.out, HT8.out, hbb, hcb⟩
          have hwi : IntKind.i64.wrap ((i : Int) + 1) = (i : Int) + 1 := IntWalk.i64_in _ (by omega)
          have hint0 : (0 : Int) ≤ (i : Int) := by omega
          have hint1 : (i : Int) < (n : Int) := by omega
          have HAT : Hid (∀ w3, Calls Try.prog 78 #[.agg (a8 th), .int .i64 p, .int .i64 (zs.getD i 0)] w3 fun e w' => e = .returned (.int .i64 (Pol.ho p th (zs.getD i 0) 8 8)) ∧ Below w3.heap.size w3 w') := Lib.hid (fun w3 => at_impl p _ th w3 (by have := HP.out; omega) HP.out.2 (HZ.out i hlt).1 (by have := (HZ.out i hlt).2; have := HP.out; omega) HTH.out.2)
          have HON : Hid (Pol.ho p th (zs.getD i 0) 8 8 = ys.getD i 0 → ∀ j, j < i + 1 → Pol.ho p th (zs.getD j 0) 8 8 = ys.getD j 0) := Lib.hid (fun h j hj => by
            by_cases e : j < i
            · exact HL.out j e
            · obtain rfl : j = i := by omega
              exact h)
          have HNO : Hid (Pol.ho p th (zs.getD i 0) 8 8 ≠ ys.getD i 0 → fitV p (k : Int) zs ys n = false) := Lib.hid (fun h => HF.out false (decide_eq_false (fun q => by
            have h1 := HTH.out.1 i hlt
            by_cases hik : i < k
            · rw [if_pos hik] at h1; exact h h1
            · rw [if_neg hik] at h1; rw [q i hlt (by omega)] at h1; exact h h1)))
          clear hcb0
          generalize Pol.ho p th (zs.getD i 0) 8 8 = V at HAT HON HNO
          generalize zs.getD i 0 = x at hca HAT
          generalize ys.getD i 0 = y at hcb HON HNO HX
          simp only [a8] at HAT
          by_cases he : V = y
          · have HN := Lib.hid (HON.out he)
            clear HON HNO HL HT8 HW
            subst he
            go_wp2
            go_region_held3 (fun w' => w'.cell? ⟨w.heap.size, 0, none⟩ = some (.int .i64 (th 0)) ∧ w'.cell? ⟨w.heap.size, 1, none⟩ = some (.int .i64 (th 1)) ∧ w'.cell? ⟨w.heap.size, 2, none⟩ = some (.int .i64 (th 2)) ∧ w'.cell? ⟨w.heap.size, 3, none⟩ = some (.int .i64 (th 3)) ∧ w'.cell? ⟨w.heap.size, 4, none⟩ = some (.int .i64 (th 4)) ∧ w'.cell? ⟨w.heap.size, 5, none⟩ = some (.int .i64 (th 5)) ∧ w'.cell? ⟨w.heap.size, 6, none⟩ = some (.int .i64 (th 6)) ∧ w'.cell? ⟨w.heap.size, 7, none⟩ = some (.int .i64 (th 7)) ∧ w'.cell? ⟨bb, ob + i, none⟩ = some (.int .i64 V)) (first | exact pf_cells HX.out | exact pf_cells HX.out.drew | exact pf_cells (HX.out.drewN _) | go_keep)
              (first | (go_at_call 78; (with_reducible refine (HAT.out _).mono ?_); rintro e w5 ⟨rfl, hb⟩; (first | (have HX2 := Lib.hid (HX.out.below hb)) | (have HX2 := Lib.hid ((HX.out.drewN _).below hb)) | (have HX2 := Lib.hid (HX.out.drew.below hb))); clear hb; have HX := HX2; clear HX2) | fail)
            all_goals
              have HW5 := Lib.hid HX.out.1
              have HT5 := Lib.hid HX.out.2.1
              go_wp2
              exact ⟨⟨i + 1, _, by omega, by first | rfl | go_num | (congr 1), rfl, HW5, HT5, HN⟩, by show n - ((i : Int) + 1).toNat < n - (i : Int).toNat; omega⟩
          · have HN := Lib.hid (HNO.out he)
            have heb : (V == y) = false := by simpa using he
            clear HON HNO HL HT8 HW
            go_wp2
            go_region_held3 (fun w' => w'.cell? ⟨w.heap.size, 0, none⟩ = some (.int .i64 (th 0)) ∧ w'.cell? ⟨w.heap.size, 1, none⟩ = some (.int .i64 (th 1)) ∧ w'.cell? ⟨w.heap.size, 2, none⟩ = some (.int .i64 (th 2)) ∧ w'.cell? ⟨w.heap.size, 3, none⟩ = some (.int .i64 (th 3)) ∧ w'.cell? ⟨w.heap.size, 4, none⟩ = some (.int .i64 (th 4)) ∧ w'.cell? ⟨w.heap.size, 5, none⟩ = some (.int .i64 (th 5)) ∧ w'.cell? ⟨w.heap.size, 6, none⟩ = some (.int .i64 (th 6)) ∧ w'.cell? ⟨w.heap.size, 7, none⟩ = some (.int .i64 (th 7)) ∧ w'.cell? ⟨bb, ob + i, none⟩ = some (.int .i64 y)) (first | exact pf_cells HX.out | exact pf_cells HX.out.drew | exact pf_cells (HX.out.drewN _) | go_keep)
              (first | (go_at_call 78; (with_reducible refine (HAT.out _).mono ?_); rintro e w5 ⟨rfl, hb⟩; (first | (have HX2 := Lib.hid (HX.out.below hb)) | (have HX2 := Lib.hid ((HX.out.drewN _).below hb)) | (have HX2 := Lib.hid (HX.out.drew.below hb))); clear hb; have HX := HX2; clear HX2) | fail)
            all_goals
              have HW5 := Lib.hid HX.out.1
              go_wp2
              exact bodyPost_ret (v := .tuple #[.bool false, .bool true]) (by simp [results, Try.results32, go_sem]) rfl ⟨by rw [HN.out], HW5.out⟩
        · obtain rfl : i = n := by omega
          have HN := Lib.hid (HF.out true (decide_eq_true (fun j hj hkj => by
            have h1 := HTH.out.1 j hj
            rw [if_neg (by omega), HL.out j hj] at h1
            exact h1.symm)))
          go_wp2
          exact bodyPost_ret (v := .tuple #[.bool true, .bool true]) (by simp [results, Try.results32, go_sem]) rfl ⟨by rw [HN.out], HW.out⟩
  · skip
    subst hk0
    subst hlt0
    go_enter Try.func32, Try.ntmps32
    go_wp2_with (first | (go_at_call 76; (with_reducible refine (HS.out _ HA.out HB.out).mono ?_); rintro e w' ⟨rfl, hw⟩; subst hw) | fail)
    go_region_held3 (fun _ => True) (trivial)
      (first | (go_at_call 77; (first | (with_reducible refine (HPT.out _ _ _ HA.out HB.out).mono ?_) | (with_reducible refine (HPT.out _ _ _ (HA.out.below (by repeat (first | exact Below.refl _ _ | refine Below.drew ?_ | refine Below.alloc ?_ (by first | exact Nat.le_refl _ | (simp; done) | (simp; omega)) _))) (HB.out.below (by repeat (first | exact Below.refl _ _ | refine Below.drew ?_ | refine Below.alloc ?_ (by first | exact Nat.le_refl _ | (simp; done) | (simp; omega)) _)))).mono ?_)); rintro e w2 ⟨th, rfl, hb, hth⟩; have HTH := Lib.hid hth; have HBW := Lib.hid hb; (first | (have h8 := (A8.new w.drew (fun _ => 0) 100).below hb; have hst := st_8 h8 th; have hA4 := h8.setCells th; have hB4 := below_setCells8 (p := w.heap.size) (Nat.le_refl _) (a8 th).toList 0 _ (Below.next (Below.alloc (Below.drew (Below.refl _ w)) (Nat.le_refl _) _) hb); (obtain ⟨W4, hW4⟩ : ∃ W4, W4 = w2.setCells w.heap.size 0 (a8 th).toList := ⟨_, rfl⟩); simp only [World.size_drew] at hst hA4; rw [← hW4] at hst hA4 hB4; clear hW4 h8; have HA4 := Lib.hid hA4; have HB4 := Lib.hid hB4; clear hA4 hB4) | (have h8 := A8.new w2 (fun _ => 0) 100; have hst := st_8 h8 th; have hA4 := h8.setCells th; have hB4 := below_setCells8 (p := w2.heap.size) (n := w.heap.size) hb.size (a8 th).toList 0 _ (Below.alloc (Below.next (Below.drew (Below.refl _ w)) hb) hb.size (.cells (a8 (fun _ => 0)) 100)); (obtain ⟨W4, hW4⟩ : ∃ W4, W4 = (w2.alloc (.cells (a8 (fun _ => 0)) 100)).setCells w2.heap.size 0 (a8 th).toList := ⟨_, rfl⟩); rw [← hW4] at hst hA4 hB4; rw [z8] at hst; clear hW4 h8; have HA4 := Lib.hid hA4; have HB4 := Lib.hid hB4; clear hA4 hB4)); clear hb hth) | fail)
    · skip
      have HAr := Lib.hid (HA.out.below HB4.out)
      have HBr := Lib.hid (HB.out.below HB4.out)
      clear HPT HS hst HBW
      go_wp2
      go_loopw [41] (fun iv w' => ∃ (i : Nat) (wr : World), i ≤ k ∧ iv = .int .i64 i ∧ wr = w' ∧ Hid (Below w.heap.size w wr) ∧ Hid (A8 wr w2.heap.size th) ∧ Hid (∀ j, j < i → Pol.ho p th (zs.getD j 0) 8 8 = ys.getD j 0)) (fun iv _ => k - (intOf iv).toNat)
      case atStart => exact ⟨0, _, Nat.zero_le _, rfl, rfl, HB4, HA4, Lib.hid (by intro j hj; omega)⟩
      case round =>
        obtain ⟨i, wr, hi, rfl, rfl, HW, HT8, HL⟩ := hrel
        by_cases hlt : i < k
        · obtain ⟨ba2, oa2, e2, hba, hca⟩ := (HA.out.below HW.out).cell' hlt
          injection e2 with e2
          injection e2 with e21 e22
          subst e21; subst e22
          obtain ⟨bb2, ob2, e2, hbb, hcb0⟩ := HB.out.cell' hlt
          injection e2 with e2
          injection e2 with e21 e22
          subst e21; subst e22
          have hcb : wr.cell? ⟨bb, ob + i, none⟩ = some (.int .i64 (ys.getD i 0)) := by rw [HW.out.cell (p := ⟨bb, ob + i, none⟩) hbb]; exact hcb0
          have HX : Hid (PF w wr w2.heap.size th bb (ob + i) (ys.getD i 0)) := Lib.hid ⟨HW.out, HT8.out, hbb, hcb⟩
          have hwi : IntKind.i64.wrap ((i : Int) + 1) = (i : Int) + 1 := IntWalk.i64_in _ (by omega)
          have hint0 : (0 : Int) ≤ (i : Int) := by omega
          have hint1 : (i : Int) < (k : Int) := by omega
          have HAT : Hid (∀ w3, Calls Try.prog 78 #[.agg (a8 th), .int .i64 p, .int .i64 (zs.getD i 0)] w3 fun e w' => e = .returned (.int .i64 (Pol.ho p th (zs.getD i 0) 8 8)) ∧ Below w3.heap.size w3 w') := Lib.hid (fun w3 => at_impl p _ th w3 (by have := HP.out; omega) HP.out.2 (HZ.out i hlt).1 (by have := (HZ.out i hlt).2; have := HP.out; omega) HTH.out.2)
          have HON : Hid (Pol.ho p th (zs.getD i 0) 8 8 = ys.getD i 0 → ∀ j, j < i + 1 → Pol.ho p th (zs.getD j 0) 8 8 = ys.getD j 0) := Lib.hid (fun h j hj => by
            by_cases e : j < i
            · exact HL.out j e
            · obtain rfl : j = i := by omega
              exact h)
          have HNO : Hid (Pol.ho p th (zs.getD i 0) 8 8 ≠ ys.getD i 0 → fitV p (k : Int) zs ys k = false) := Lib.hid (fun h => HF.out false (decide_eq_false (fun q => by
            have h1 := HTH.out.1 i hlt
            by_cases hik : i < k
            · rw [if_pos hik] at h1; exact h h1
            · rw [if_neg hik] at h1; rw [q i hlt (by omega)] at h1; exact h h1)))
          clear hcb0
          generalize Pol.ho p th (zs.getD i 0) 8 8 = V at HAT HON HNO
          generalize zs.getD i 0 = x at hca HAT
          generalize ys.getD i 0 = y at hcb HON HNO HX
          simp only [a8] at HAT
          by_cases he : V = y
          · have HN := Lib.hid (HON.out he)
            clear HON HNO HL HT8 HW
            subst he
            go_wp2
            go_region_held3 (fun w' => w'.cell? ⟨w2.heap.size, 0, none⟩ = some (.int .i64 (th 0)) ∧ w'.cell? ⟨w2.heap.size, 1, none⟩ = some (.int .i64 (th 1)) ∧ w'.cell? ⟨w2.heap.size, 2, none⟩ = some (.int .i64 (th 2)) ∧ w'.cell? ⟨w2.heap.size, 3, none⟩ = some (.int .i64 (th 3)) ∧ w'.cell? ⟨w2.heap.size, 4, none⟩ = some (.int .i64 (th 4)) ∧ w'.cell? ⟨w2.heap.size, 5, none⟩ = some (.int .i64 (th 5)) ∧ w'.cell? ⟨w2.heap.size, 6, none⟩ = some (.int .i64 (th 6)) ∧ w'.cell? ⟨w2.heap.size, 7, none⟩ = some (.int .i64 (th 7)) ∧ w'.cell? ⟨bb, ob + i, none⟩ = some (.int .i64 V)) (first | exact pf_cells HX.out | exact pf_cells HX.out.drew | exact pf_cells (HX.out.drewN _) | go_keep)
              (first | (go_at_call 78; (with_reducible refine (HAT.out _).mono ?_); rintro e w5 ⟨rfl, hb⟩; (first | (have HX2 := Lib.hid (HX.out.below hb)) | (have HX2 := Lib.hid ((HX.out.drewN _).below hb)) | (have HX2 := Lib.hid (HX.out.drew.below hb))); clear hb; have HX := HX2; clear HX2) | fail)
            all_goals
              have HW5 := Lib.hid HX.out.1
              have HT5 := Lib.hid HX.out.2.1
              go_wp2
              exact ⟨⟨i + 1, _, by omega, by first | rfl | go_num | (congr 1), rfl, HW5, HT5, HN⟩, by show k - ((i : Int) + 1).toNat < k - (i : Int).toNat; omega⟩
          · have HN := Lib.hid (HNO.out he)
            have heb : (V == y) = false := by simpa using he
            clear HON HNO HL HT8 HW
            go_wp2
            go_region_held3 (fun w' => w'.cell? ⟨w2.heap.size, 0, none⟩ = some (.int .i64 (th 0)) ∧ w'.cell? ⟨w2.heap.size, 1, none⟩ = some (.int .i64 (th 1)) ∧ w'.cell? ⟨w2.heap.size, 2, none⟩ = some (.int .i64 (th 2)) ∧ w'.cell? ⟨w2.heap.size, 3, none⟩ = some (.int .i64 (th 3)) ∧ w'.cell? ⟨w2.heap.size, 4, none⟩ = some (.int .i64 (th 4)) ∧ w'.cell? ⟨w2.heap.size, 5, none⟩ = some (.int .i64 (th 5)) ∧ w'.cell? ⟨w2.heap.size, 6, none⟩ = some (.int .i64 (th 6)) ∧ w'.cell? ⟨w2.heap.size, 7, none⟩ = some (.int .i64 (th 7)) ∧ w'.cell? ⟨bb, ob + i, none⟩ = some (.int .i64 y)) (first | exact pf_cells HX.out | exact pf_cells HX.out.drew | exact pf_cells (HX.out.drewN _) | go_keep)
              (first | (go_at_call 78; (with_reducible refine (HAT.out _).mono ?_); rintro e w5 ⟨rfl, hb⟩; (first | (have HX2 := Lib.hid (HX.out.below hb)) | (have HX2 := Lib.hid ((HX.out.drewN _).below hb)) | (have HX2 := Lib.hid (HX.out.drew.below hb))); clear hb; have HX := HX2; clear HX2) | fail)
            all_goals
              have HW5 := Lib.hid HX.out.1
              go_wp2
              exact bodyPost_ret (v := .tuple #[.bool false, .bool true]) (by simp [results, Try.results32, go_sem]) rfl ⟨by rw [HN.out], HW5.out⟩
        · obtain rfl : i = k := by omega
          have HN := Lib.hid (HF.out true (decide_eq_true (fun j hj hkj => by
            have h1 := HTH.out.1 j hj
            rw [if_neg (by omega), HL.out j hj] at h1
            exact h1.symm)))
          go_wp2
          exact bodyPost_ret (v := .tuple #[.bool true, .bool true]) (by simp [results, Try.results32, go_sem]) rfl ⟨by rw [HN.out], HW.out⟩
    · skip
      have HAr := Lib.hid (HA.out.below HB4.out)
      have HBr := Lib.hid (HB.out.below HB4.out)
      clear HPT HS hst HBW
      go_wp2
      go_loopw [41] (fun iv w' => ∃ (i : Nat) (wr : World), i ≤ k ∧ iv = .int .i64 i ∧ wr = w' ∧ Hid (Below w.heap.size w wr) ∧ Hid (A8 wr w.heap.size th) ∧ Hid (∀ j, j < i → Pol.ho p th (zs.getD j 0) 8 8 = ys.getD j 0)) (fun iv _ => k - (intOf iv).toNat)
      case atStart => exact ⟨0, _, Nat.zero_le _, rfl, rfl, HB4, HA4, Lib.hid (by intro j hj; omega)⟩
      case round =>
        obtain ⟨i, wr, hi, rfl, rfl, HW, HT8, HL⟩ := hrel
        by_cases hlt : i < k
        · obtain ⟨ba2, oa2, e2, hba, hca⟩ := (HA.out.below HW.out).cell' hlt
          injection e2 with e2
          injection e2 with e21 e22
          subst e21; subst e22
          obtain ⟨bb2, ob2, e2, hbb, hcb0⟩ := HB.out.cell' hlt
          injection e2 with e2
          injection e2 with e21 e22
          subst e21; subst e22
          have hcb : wr.cell? ⟨bb, ob + i, none⟩ = some (.int .i64 (ys.getD i 0)) := by rw [HW.out.cell (p := ⟨bb, ob + i, none⟩) hbb]; exact hcb0
          have HX : Hid (PF w wr w.heap.size th bb (ob + i) (ys.getD i 0)) := Lib.hid ⟨HW.out, HT8.out, hbb, hcb⟩
          have hwi : IntKind.i64.wrap ((i : Int) + 1) = (i : Int) + 1 := IntWalk.i64_in _ (by omega)
          have hint0 : (0 : Int) ≤ (i : Int) := by omega
          have hint1 : (i : Int) < (k : Int) := by omega
          have HAT : Hid (∀ w3, Calls Try.prog 78 #[.agg (a8 th), .int .i64 p, .int .i64 (zs.getD i 0)] w3 fun e w' => e = .returned (.int .i64 (Pol.ho p th (zs.getD i 0) 8 8)) ∧ Below w3.heap.size w3 w') := Lib.hid (fun w3 => at_impl p _ th w3 (by have := HP.out; omega) HP.out.2 (HZ.out i hlt).1 (by have := (HZ.out i hlt).2; have := HP.out; omega) HTH.out.2)
          have HON : Hid (Pol.ho p th (zs.getD i 0) 8 8 = ys.getD i 0 → ∀ j, j < i + 1 → Pol.ho p th (zs.getD j 0) 8 8 = ys.getD j 0) := Lib.hid (fun h j hj => by
            by_cases e : j < i
            · exact HL.out j e
            · obtain rfl : j = i := by omega
              exact h)
          have HNO : Hid (Pol.ho p th (zs.getD i 0) 8 8 ≠ ys.getD i 0 → fitV p (k : Int) zs ys k = false) := Lib.hid (fun h => HF.out false (decide_eq_false (fun q => by
            have h1 := HTH.out.1 i hlt
            by_cases hik : i < k
            · rw [if_pos hik] at h1; exact h h1
            · rw [if_neg hik] at h1; rw [q i hlt (by omega)] at h1; exact h h1)))
          clear hcb0
          generalize Pol.ho p th (zs.getD i 0) 8 8 = V at HAT HON HNO
          generalize zs.getD i 0 = x at hca HAT
          generalize ys.getD i 0 = y at hcb HON HNO HX
          simp only [a8] at HAT
          by_cases he : V = y
          · have HN := Lib.hid (HON.out he)
            clear HON HNO HL HT8 HW
            subst he
            go_wp2
            go_region_held3 (fun w' => w'.cell? ⟨w.heap.size, 0, none⟩ = some (.int .i64 (th 0)) ∧ w'.cell? ⟨w.heap.size, 1, none⟩ = some (.int .i64 (th 1)) ∧ w'.cell? ⟨w.heap.size, 2, none⟩ = some (.int .i64 (th 2)) ∧ w'.cell? ⟨w.heap.size, 3, none⟩ = some (.int .i64 (th 3)) ∧ w'.cell? ⟨w.heap.size, 4, none⟩ = some (.int .i64 (th 4)) ∧ w'.cell? ⟨w.heap.size, 5, none⟩ = some (.int .i64 (th 5)) ∧ w'.cell? ⟨w.heap.size, 6, none⟩ = some (.int .i64 (th 6)) ∧ w'.cell? ⟨w.heap.size, 7, none⟩ = some (.int .i64 (th 7)) ∧ w'.cell? ⟨bb, ob + i, none⟩ = some (.int .i64 V)) (first | exact pf_cells HX.out | exact pf_cells HX.out.drew | exact pf_cells (HX.out.drewN _) | go_keep)
              (first | (go_at_call 78; (with_reducible refine (HAT.out _).mono ?_); rintro e w5 ⟨rfl, hb⟩; (first | (have HX2 := Lib.hid (HX.out.below hb)) | (have HX2 := Lib.hid ((HX.out.drewN _).below hb)) | (have HX2 := Lib.hid (HX.out.drew.below hb))); clear hb; have HX := HX2; clear HX2) | fail)
            all_goals
              have HW5 := Lib.hid HX.out.1
              have HT5 := Lib.hid HX.out.2.1
              go_wp2
              exact ⟨⟨i + 1, _, by omega, by first | rfl | go_num | (congr 1), rfl, HW5, HT5, HN⟩, by show k - ((i : Int) + 1).toNat < k - (i : Int).toNat; omega⟩
          · have HN := Lib.hid (HNO.out he)
            have heb : (V == y) = false := by simpa using he
            clear HON HNO HL HT8 HW
            go_wp2
            go_region_held3 (fun w' => w'.cell? ⟨w.heap.size, 0, none⟩ = some (.int .i64 (th 0)) ∧ w'.cell? ⟨w.heap.size, 1, none⟩ = some (.int .i64 (th 1)) ∧ w'.cell? ⟨w.heap.size, 2, none⟩ = some (.int .i64 (th 2)) ∧ w'.cell? ⟨w.heap.size, 3, none⟩ = some (.int .i64 (th 3)) ∧ w'.cell? ⟨w.heap.size, 4, none⟩ = some (.int .i64 (th 4)) ∧ w'.cell? ⟨w.heap.size, 5, none⟩ = some (.int .i64 (th 5)) ∧ w'.cell? ⟨w.heap.size, 6, none⟩ = some (.int .i64 (th 6)) ∧ w'.cell? ⟨w.heap.size, 7, none⟩ = some (.int .i64 (th 7)) ∧ w'.cell? ⟨bb, ob + i, none⟩ = some (.int .i64 y)) (first | exact pf_cells HX.out | exact pf_cells HX.out.drew | exact pf_cells (HX.out.drewN _) | go_keep)
              (first | (go_at_call 78; (with_reducible refine (HAT.out _).mono ?_); rintro e w5 ⟨rfl, hb⟩; (first | (have HX2 := Lib.hid (HX.out.below hb)) | (have HX2 := Lib.hid ((HX.out.drewN _).below hb)) | (have HX2 := Lib.hid (HX.out.drew.below hb))); clear hb; have HX := HX2; clear HX2) | fail)
            all_goals
              have HW5 := Lib.hid HX.out.1
              go_wp2
              exact bodyPost_ret (v := .tuple #[.bool false, .bool true]) (by simp [results, Try.results32, go_sem]) rfl ⟨by rw [HN.out], HW5.out⟩
        · obtain rfl : i = k := by omega
          have HN := Lib.hid (HF.out true (decide_eq_true (fun j hj hkj => by
            have h1 := HTH.out.1 j hj
            rw [if_neg (by omega), HL.out j hj] at h1
            exact h1.symm)))
          go_wp2
          exact bodyPost_ret (v := .tuple #[.bool true, .bool true]) (by simp [results, Try.results32, go_sem]) rfl ⟨by rw [HN.out], HW.out⟩
end Go.Proofs.Ytaefmffmjbabcaa
