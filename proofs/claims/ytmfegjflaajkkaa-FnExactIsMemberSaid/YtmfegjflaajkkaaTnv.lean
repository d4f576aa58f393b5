
/- Turned bits: plain facts, and what holds a row of bits. -/
import Derived.Test.YtmfegjflaajkkaaGat
import Derived.Test.YtmfegjflaajkkaaWgs
namespace Go.Proofs.Ytmfegjflaajkkaa
open Go.Proofs.Ytmfegjflaajkkaa.Flo Go.RowKit Go.Proofs.Ytmfegjflaajkkaa.Pr

/-- One pass at the half h. -/
def tnP (h : Nat) (f : Nat → Bool) (i : Nat) : Bool := if (i / h) % 2 = 0 then (f i != f (i + h)) else f i
/-- All passes, from the half 2^(p - 1) down. -/
def tnF : Nat → (Nat → Bool) → (Nat → Bool)
  | 0, f => f
  | p + 1, f => tnF p (tnP (2 ^ p) f)
def ptB (n : Nat) : Bool := decide (∃ p, p < 6 ∧ n = 2 ^ p)
theorem pt_out {n : Nat} (h : ptB n = true) : ∃ p, p ≤ 5 ∧ n = 2 ^ p := by
  obtain ⟨p, h1, h2⟩ := of_decide_eq_true h
  exact ⟨p, by omega, h2⟩
theorem pt_no {n : Nat} (h : ptB n = false) : ∀ p, p ≤ 5 → n ≠ 2 ^ p := fun p h1 e => of_decide_eq_false h ⟨p, by omega, e⟩
theorem pt_log (p : Nat) : (2 ^ p).log2 = p := Nat.log2_two_pow
theorem pt_le {p : Nat} (h : p ≤ 5) : 1 ≤ 2 ^ p ∧ 2 ^ p ≤ 32 := ⟨Nat.two_pow_pos p, Nat.pow_le_pow_right (n := 2) (j := 5) (by decide) h⟩
theorem pt_in0 : ∀ p, p < 6 → ∀ q, q < p → ∀ i, i < 2 ^ p → (i / 2 ^ q) % 2 = 0 → i + 2 ^ q < 2 ^ p := by decide +kernel
theorem pt_in {p q i : Nat} (hp : p ≤ 5) (hq : q < p) (hi : i < 2 ^ p) (h : (i / 2 ^ q) % 2 = 0) : i + 2 ^ q < 2 ^ p := pt_in0 p (by omega) q hq i hi h
theorem pt_and0 : ∀ q, q < 5 → ∀ i, i < 32 → (i &&& 2 ^ q) = if (i / 2 ^ q) % 2 = 0 then 0 else 2 ^ q := by decide +kernel
theorem pt_and {q i : Nat} (hq : q < 5) (hi : i < 32) : bits .and .i64 (i : Int) ((2 ^ q : Nat) : Int) = if (i / 2 ^ q) % 2 = 0 then 0 else ((2 ^ q : Nat) : Int) := by
  have h2 : 2 ^ q ≤ 16 := Nat.pow_le_pow_right (n := 2) (j := 4) (by decide) (by omega)
  rw [b_and i (2 ^ q) (by omega) (by omega), pt_and0 q hq i hi]
  split <;> rfl
theorem pt_wt0 : ∀ n, n < 33 → (wt n = 1 ↔ ∃ p, p < 6 ∧ n = 2 ^ p) := by decide +kernel
theorem pt_wt {p : Nat} (h : p ≤ 5) : wt (2 ^ p) = 1 := (pt_wt0 _ (by have := (pt_le h).2; omega)).2 ⟨p, by omega, rfl⟩
theorem pt_wn {n : Nat} (h : ptB n = false) (h1 : wt n = 1) : 32 < n := by
  by_cases h2 : n < 33
  · exact absurd ((pt_wt0 n h2).1 h1) (of_decide_eq_false h)
  · omega
theorem pt_half (t : Nat) : 2 ^ (t + 1) / 2 = 2 ^ t := by rw [Nat.pow_succ, Nat.mul_div_cancel _ (by decide)]
/-- A block of bits of the call's own. -/
def BCl (w : World) (g n : Nat) (f : Nat → Bool) : Prop := g < w.heap.size ∧ Ent.ok w g (.bl n f)
theorem BCl.cell {w : World} {g n j : Nat} {f : Nat → Bool} (h : BCl w g n f) (hj : j < n) : w.cell? ⟨g, j, none⟩ = some (.bool (f j)) ∧ w.frozen? ⟨g, j, none⟩ = false := h.2.2 j hj
theorem PM.skip {w wr : World} {p k : Nat} {old new : Ent} (h : PM w p old new k wr) (e : new.cell k = old.cell k) : PM w p old new (k + 1) wr := by
  obtain ⟨h1, h2, h3, h4⟩ := h
  refine ⟨h1, h2, fun j hj => ⟨?_, (h3 j hj).2⟩, h4⟩
  rw [(h3 j hj).1]
  by_cases c : j < k
  · rw [if_pos c, if_pos (by omega)]
  · rw [if_neg c]
    by_cases c2 : j = k
    · subst c2; rw [if_pos (by omega), e]
    · rw [if_neg (by omega)]
theorem PM.bcl {w wr : World} {p n : Nat} {old : Ent} {f : Nat → Bool} (h : PM w p old (.bl n f) n wr) (hp : p < w.heap.size) (hn : old.n = n) : BCl wr p n f := by
  obtain ⟨h1, _, h3, _⟩ := h
  refine ⟨by rw [h1]; exact hp, trivial, fun j hj => ?_⟩
  have hj : j < n := hj
  have := h3 j (by omega)
  rw [if_pos hj] at this
  exact this
theorem PM.same {w wr : World} {p n k j : Nat} {f : Nat → Bool} {new : Ent} (h : PM w p (.bl n f) new k wr) (hj : j < n) (hk : k ≤ j) : wr.cell? ⟨p, j, none⟩ = some (.bool (f j)) ∧ wr.frozen? ⟨p, j, none⟩ = false := by
  have := h.2.2.1 j hj
  rw [if_neg (by omega)] at this
  exact this
theorem brow_news {w : World} {b o m : Nat} {f : Nat → Bool} (h : BRow w (some ⟨b, o, none⟩) m f) : ∀ j u, ((List.range m).map (fun i => Value.bool (f i)))[j]? = some u → w.cell? ((⟨b, o, none⟩ : Addr).add j) = some u := by
  intro j u hu
  have hj : j < m := by have := (List.getElem?_eq_some_iff.1 hu).1; simpa using this
  have hadd : (⟨b, o, none⟩ : Addr).add j = ⟨b, o + j, none⟩ := by unfold Addr.add; split <;> simp_all
  rw [List.getElem?_map, List.getElem?_range hj] at hu
  obtain ⟨b1, o1, e, hc⟩ := h.cell hj
  injection e with e
  injection e with e1 e2
  subst e1; subst e2
  rw [hadd, hc]
  exact hu
theorem one_cellsB (f : Nat → Bool) (n : Nat) : ∀ u ∈ (List.range n).map (fun i => Value.bool (f i)), u.oneCell' = true := by
  intro u hu
  obtain ⟨z, _, rfl⟩ := List.mem_map.1 hu
  simp [Value.oneCell']
theorem BRow.alloc {w : World} {a : Option Addr} {n : Nat} {f : Nat → Bool} (h : BRow w a n f) (o : Obj) : BRow (w.alloc o) a n f := h.below ((Below.refl _ _).alloc (Nat.le_refl _) o)
set_option maxRecDepth 100000 in
set_option maxHeartbeats 4000000 in
theorem clone_implB (b o n cap : Nat) (f : Nat → Bool) (w : World) (h : BRow w (some ⟨b, o, none⟩) n f) (h1 : 1 ≤ n) (h2 : n ≤ 1048576) :
    Calls Try.prog 84 #[.slice (some ⟨b, o, none⟩) n cap] w fun e w' => ∃ g cp, e = .returned (.slice (some ⟨g, 0, none⟩) n cp) ∧ New w w' g (.bl n f) := by
  obtain ⟨i0, hi, hz0, hz1, hz2⟩ := info_parts Try.infoB
  have HA := Lib.hid (h.alloc (.cells #[] 4))
  have HL : Hid (((List.range n).map (fun i => Value.bool (f i))).length = n * 1) := Lib.hid (by simp)
  have HE := Lib.hid (own_empty w 4)
  have he : ∀ w : World, (binOp .eql 36 (.slice (some ⟨b, o, none⟩) n cap) (.slice none 0 0)).run Try.prog w = .ok (.bool false) w := fun _ => rfl
  clear h
  go_enter Try.func84, Try.ntmps84
  go_wp2_with (first | (at_builtin; refine wpList_append_lies _ rfl _ _ 36 rfl (w.heap.size) 4 i0 (.bool false) 1 1 Try.underlying36 hi hz0 hz1 hz2 rfl (by omega) (.slice (some ⟨w.heap.size, 0, none⟩) 0 0) 0 [] rfl HE.out ⟨b, o, none⟩ n cap ((List.range n).map (fun i => Value.bool (f i))) rfl HL.out (brow_news HA.out) (one_cellsB f n) (by omega) (by unfold maxLen; omega) (by omega) (by simp) (w.heap.size + 1) (by simp) ?_; intro gg cp w1 hown1 hgrow hat hlt2; (have HO := Lib.hid (by rw [Nat.zero_add] at hown1; simpa using hown1 : w1.ownsRow w.heap.size 4 1 (.slice (some ⟨gg, 0, none⟩) n cp) n ((List.range n).map (fun i => Value.bool (f i))))); have HG := Lib.hid hgrow; clear hown1 hgrow hat hlt2) | fail)
  obtain ⟨g, cp2, e, hn⟩ := Gat.new (f := fun i => Value.bool (f i)) HO.out (Below.grown (belowA _ _) HG.out (by simp) (own_block HE.out)) (by omega)
  cases e
  go_ret
  exact ⟨_, _, rfl, hn⟩
set_option maxRecDepth 100000 in
set_option maxHeartbeats 2000000 in
theorem oc_any (x : Int) (w : World) : Calls Try.prog 99 #[.int .u64 x] w fun e w' => (∃ r, e = .returned (.int .i64 r)) ∧ w = w' := by
  go_enter Try.func99, Try.ntmps99
  go_wp2
  go_ret
  exact ⟨⟨_, rfl⟩, rfl⟩
set_option maxHeartbeats 1000000 in
theorem wo_any (x : Int) (w : World) : Calls Try.prog 83 #[.int .i64 x] w fun e w' => (∃ r, e = .returned (.int .i64 r)) ∧ w = w' := by
  go_enter Try.func83, Try.ntmps83
  go_wp2_with (first | (go_at_call 99; refine (oc_any _ _).mono ?_; rintro e w' ⟨⟨r, rfl⟩, hw⟩; subst hw) | fail)
  go_ret
  exact ⟨⟨_, rfl⟩, rfl⟩
end Go.Proofs.Ytmfegjflaajkkaa
