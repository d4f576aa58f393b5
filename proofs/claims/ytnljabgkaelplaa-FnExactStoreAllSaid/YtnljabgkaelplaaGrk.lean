
/- Rows of rows of ints, and graphs: the laws' helpers, how one is opened. -/
import Derived.Test.YtnljabgkaelplaaCob
import Derived.Test.YtnljabgkaelplaaGat
import Derived.Test.YtnljabgkaelplaaTwp
import Derived.Deep.Matrix
import Derived.Deep.QuietTactic
import Derived.BigQuiet
namespace Go.Proofs.Ytnljabgkaelplaa
open Go.Proofs.Ytnljabgkaelplaa.Flo Go.RowKit

/-- A slice of n rows: where each lies, how long it is, its capacity, its numbers. -/
def GRow (w : World) (a : Option Addr) (n : Nat) (A : Nat → Option Addr) (Ln Cp : Nat → Nat) (Z : Nat → List Int) : Prop :=
  (n = 0 ∨ ∃ b off, a = some ⟨b, off, none⟩ ∧ b < w.heap.size ∧ ∀ i, i < n → w.cell? ⟨b, off + i, none⟩ = some (.slice (A i) (Ln i) (Cp i))) ∧ ∀ i, i < n → IRow w (A i) (Ln i) (Z i)
theorem GRow.below {w w' : World} {a : Option Addr} {n : Nat} {A : Nat → Option Addr} {Ln Cp : Nat → Nat} {Z : Nat → List Int} (h : GRow w a n A Ln Cp Z) (hb : Below w.heap.size w w') : GRow w' a n A Ln Cp Z := by
  refine ⟨?_, fun i hi => (h.2 i hi).below hb⟩
  rcases h.1 with h | ⟨b, off, ha, hk, hc⟩
  · exact .inl h
  · exact .inr ⟨b, off, ha, Nat.lt_of_lt_of_le hk hb.size, fun i hi => by rw [hb.cell (p := ⟨b, off + i, none⟩) hk]; exact hc i hi⟩
theorem GRow.cell {w : World} {a : Option Addr} {n : Nat} {A : Nat → Option Addr} {Ln Cp : Nat → Nat} {Z : Nat → List Int} (h : GRow w a n A Ln Cp Z) {k : Nat} (hk : k < n) : ∃ b o, a = some ⟨b, o, none⟩ ∧ b < w.heap.size ∧ w.cell? ⟨b, o + k, none⟩ = some (.slice (A k) (Ln k) (Cp k)) := by
  rcases h.1 with h | ⟨b, off, ha, hb, hc⟩
  · omega
  · exact ⟨b, off, ha, hb, hc k hk⟩
theorem GRow.alloc {w : World} {a : Option Addr} {n : Nat} {A : Nat → Option Addr} {Ln Cp : Nat → Nat} {Z : Nat → List Int} (h : GRow w a n A Ln Cp Z) (o : Obj) : GRow (w.alloc o) a n A Ln Cp Z := h.below (belowA _ _)
theorem Drew.grow {w w' : World} {a : Option Addr} {n : Nat} {A : Nat → Option Addr} {Ln Cp : Nat → Nat} {Z : Nat → List Int} (d : Drew w w') (h : GRow w a n A Ln Cp Z) : GRow w' a n A Ln Cp Z := h.below d.below
/-- How long rows are together. -/
def gtot (Ln : Nat → Nat) : Nat → Nat
  | 0 => 0
  | k + 1 => gtot Ln k + Ln k
theorem gtot_mono (Ln : Nat → Nat) {k : Nat} : ∀ n, k ≤ n → gtot Ln k ≤ gtot Ln n
  | 0, h => by rw [show k = 0 by omega]; exact Nat.le_refl _
  | n + 1, h => by
    by_cases e : k = n + 1
    · rw [e]; exact Nat.le_refl _
    · exact Nat.le_trans (gtot_mono Ln n (by omega)) (Nat.le_add_right _ _)
theorem gtot_each (Ln : Nat → Nat) {k n : Nat} (h : k < n) : Ln k ≤ gtot Ln n := Nat.le_trans (Nat.le_add_left _ (gtot Ln k)) (gtot_mono Ln n h)
/-- The copy's rows. -/
def gA (p : Nat) (i : Nat) : Option Addr := some ⟨p + 1 + i, 0, none⟩
/-- A copy that is being made. -/
def GMk (w : World) (p n k : Nat) (Ln : Nat → Nat) (Z : Nat → List Int) (wr : World) : Prop :=
  wr.heap.size = p + 1 + k ∧ (∀ i, i < n → wr.cell? ⟨p, i, none⟩ = some (if i < k then .slice (gA p i) (Ln i) (Ln i) else .slice none 0 0) ∧ wr.frozen? ⟨p, i, none⟩ = false) ∧ (∀ i, i < k → IRow wr (gA p i) (Ln i) (Z i)) ∧ Below p w wr
theorem GMk.step {w wr : World} {p n k : Nat} {Ln : Nat → Nat} {Z : Nat → List Int} {T : TypeId} (h : GMk w p n k Ln Z wr) (hk : k < n) (hl : (Z k).length = Ln k) :
    GMk w p n (k + 1) Ln Z ((wr.setCell ⟨p, k, none⟩ (.slice (some ⟨wr.heap.size, 0, none⟩) (Ln k) (Ln k))).alloc (.cells (il (Z k)) T)) := by
  obtain ⟨h1, h2, h3, h4⟩ := h
  have hp : p < wr.heap.size := by omega
  have hp2 : p < (wr.setCell ⟨p, k, none⟩ (.slice (some ⟨wr.heap.size, 0, none⟩) (Ln k) (Ln k))).heap.size := by rw [World.size_setCell]; exact hp
  refine ⟨by rw [World.size_alloc, World.size_setCell, h1]; omega, fun i hi => ⟨?_, ?_⟩, fun i hi => ?_, Below.alloc (Below.setCell h4 (Nat.le_refl _) _) (Nat.le_of_lt hp2) _⟩
  · rw [World.cell?_alloc_past _ _ _ hp2]
    by_cases e : i = k
    · subst e
      rw [World.cell?_setCell_same (h := (h2 i hi).1), if_pos (by omega), h1]; rfl
    · rw [World.cell?_setCell_other (h := fun e2 => e (by injection e2 with _ e3 _; exact e3.symm)), (h2 i hi).1]
      by_cases c : i < k
      · rw [if_pos c, if_pos (by omega)]
      · rw [if_neg c, if_neg (by omega)]
  · rw [World.frozen?_alloc_past _ _ _ hp2, World.frozen?_setCell]; exact (h2 i hi).2
  · by_cases e : i = k
    · subst e
      have := IRow.new (w := wr.setCell ⟨p, i, none⟩ (.slice (some ⟨wr.heap.size, 0, none⟩) (Ln i) (Ln i))) hl T
      rw [World.size_setCell, h1] at this
      rw [h1]
      exact this
    · refine IRow.alloc (IRow.setCell (h3 i (by omega)) _ ?_) _
      intro b e2
      unfold gA at e2
      injection e2 with e2
      subst e2
      show p + 1 + i ≠ p
      omega
theorem GMk.fin {w wr : World} {p n : Nat} {Ln : Nat → Nat} {Z : Nat → List Int} (h : GMk w p n n Ln Z wr) : GRow wr (some ⟨p, 0, none⟩) n (gA p) Ln Ln Z :=
  ⟨.inr ⟨p, 0, rfl, by have := h.1; omega, fun i hi => by rw [Nat.zero_add, (h.2.1 i hi).1, if_pos hi]⟩, fun i hi => h.2.2.1 i hi⟩
theorem Try.infoG : (Try.prog.info? 40).map (fun i => (i.zero, i.size, i.bytes)) = some (some (.slice none 0 0), 1, 24) := by kernel_rfl
set_option maxRecDepth 100000 in
set_option maxHeartbeats 4000000 in
theorem toSS (a : Option Addr) (n cap : Nat) (A : Nat → Option Addr) (Ln Cp : Nat → Nat) (Z : Nat → List Int) (w : World) (h : GRow w a n A Ln Cp Z) (hn : n + gtot Ln n ≤ 1048576) :
    Calls Try.prog 73 #[.slice a n cap] w fun e w' => ∃ p, e = .returned (.slice (some ⟨p, 0, none⟩) n n) ∧ w.heap.size ≤ p ∧ GRow w' (some ⟨p, 0, none⟩) n (gA p) Ln Ln Z ∧ Below w.heap.size w w' := by
  have hmk := fun w2 : World => run_make_row' (P := Try.prog) 60 40 (.slice none 0 0) 24 Try.underlying60 Try.infoG rfl .i64 .i64 n (by omega) (by omega) w2
  have HA := Lib.hid h
  have HN := Lib.hid hn
  have HM0 : Hid (GMk w w.heap.size n 0 Ln Z (w.alloc (.cells (madeCells #[Value.slice none 0 0] n) 40))) := Lib.hid ⟨by simp, fun i hi => ⟨by rw [World.cell?_alloc_at _ _ _ _ rfl, if_neg (Nat.not_lt_zero i)]; simp [madeCells, hi, Nat.mod_one], World.frozen?_alloc_at _ _ _ _ rfl⟩, fun i hi => absurd hi (Nat.not_lt_zero i), belowA _ _⟩
  have hn1 : n ≤ 1048576 := by omega
  clear h hn
  go_enter Try.func73, Try.ntmps73
  go_wp2
  clear hmk
  go_loopw [4] (fun iv w' => ∃ (k : Nat) (wr : World), k ≤ n ∧ iv = .int .i64 k ∧ wr = w' ∧ Hid (GMk w w.heap.size n k Ln Z wr)) (fun iv _ => n - (intOf iv).toNat)
  case atStart => exact ⟨0, _, by omega, rfl, rfl, HM0⟩
  case round =>
    obtain ⟨k, wr, hk, rfl, rfl, HM⟩ := hrel
    clear HM0
    by_cases hlt : k < n
    · have HW : Hid (Below w.heap.size w wr) := Lib.hid HM.out.2.2.2
      obtain ⟨b1, o1, rfl, hb1, hck⟩ := (HA.out.below HW.out).cell hlt
      have HR := Lib.hid ((HA.out.below HW.out).2 k hlt)
      have hl : Ln k ≤ 1048576 := by have := gtot_each Ln hlt; have := HN.out; omega
      have hpw : w.heap.size < wr.heap.size := by have := HM.out.1; omega
      have hc0 : wr.cell? ⟨w.heap.size, k, none⟩ = some (.slice none 0 0) := by rw [(HM.out.2.1 k hlt).1, if_neg (Nat.lt_irrefl k)]
      have hf0 := (HM.out.2.1 k hlt).2
      have HC0 : Hid (∀ o, (wr.alloc o).cell? ⟨w.heap.size, k, none⟩ = some (.slice none 0 0)) := Lib.hid (fun o => by rw [World.cell?_alloc_past _ _ _ hpw]; exact hc0)
      have HF0 : Hid (∀ o, (wr.alloc o).frozen? ⟨w.heap.size, k, none⟩ = false) := Lib.hid (fun o => by rw [World.frozen?_alloc_past _ _ _ hpw]; exact hf0)
      have HT : Hid (Calls Try.prog 21 #[.slice (A k) (Ln k) (Cp k)] wr fun e w' => e = .returned (.slice (some ⟨wr.heap.size, 0, none⟩) (Ln k) (Ln k)) ∧ wr.alloc (.cells (il (Z k)) 2) = w') := Lib.hid (toI (A k) (Ln k) (Cp k) (Z k) wr HR.out hl)
      have HN2 : Hid (GMk w w.heap.size n (k + 1) Ln Z ((wr.setCell ⟨w.heap.size, k, none⟩ (.slice (some ⟨wr.heap.size, 0, none⟩) (Ln k) (Ln k))).alloc (.cells (il (Z k)) 2))) := Lib.hid (HM.out.step hlt HR.out.1)
      clear hc0 hf0
      generalize A k = ak at hck HT
      generalize Cp k = ck at hck HT
      go_wp2_with (first | (go_at_call 21; refine HT.out.mono ?_; rintro e w2 ⟨rfl, rfl⟩; have hc1 := HC0.out (.cells (il (Z k)) 2); have hf1 := HF0.out (.cells (il (Z k)) 2)) | fail)
      exact ⟨⟨k + 1, _, by omega, by first | rfl | go_num | (congr 1), rfl, HN2⟩, by show n - ((k : Int) + 1).toNat < n - (k : Int).toNat; omega⟩
    · obtain rfl : k = n := by omega
      go_wp2
      go_ret
      exact ⟨_, rfl, Nat.le_refl _, HM.out.fin, HM.out.2.2.2⟩
set_option maxRecDepth 100000 in
set_option maxHeartbeats 4000000 in
theorem eqSS (a b : Option Addr) (n cap capb : Nat) (A A2 : Nat → Option Addr) (Ln Cp Cp2 : Nat → Nat) (Z : Nat → List Int) (w : World) (ha : GRow w a n A Ln Cp Z) (hb : GRow w b n A2 Ln Cp2 Z) (hn : n + gtot Ln n ≤ 1048576) :
    Calls Try.prog 80 #[.slice a n cap, .slice b n capb] w fun e w' => e = .returned (.bool true) ∧ Drew w w' := by
  have HA := Lib.hid ha
  have HB := Lib.hid hb
  have HN := Lib.hid hn
  have hn1 : n ≤ 1048576 := by omega
  clear ha hb hn
  go_enter Try.func80, Try.ntmps80
  go_wp2
  go_loopw [5] (fun iv w' => ∃ (k : Nat) (wr : World), k ≤ n ∧ iv = .int .i64 k ∧ wr = w' ∧ Hid (Drew w wr)) (fun iv _ => n - (intOf iv).toNat)
  case atStart => exact ⟨0, _, by omega, rfl, rfl, Lib.hid (Drew.refl _)⟩
  case round =>
    obtain ⟨k, wr, hk, rfl, rfl, HD⟩ := hrel
    by_cases hlt : k < n
    · obtain ⟨b1, o1, rfl, _, hck1⟩ := (HD.out.grow HA.out).cell hlt
      obtain ⟨b2, o2, rfl, _, hck2⟩ := (HD.out.grow HB.out).cell hlt
      have hl : Ln k ≤ 1048576 := by have := gtot_each Ln hlt; have := HN.out; omega
      have HE : Hid (∀ q, Calls Try.prog 25 #[.slice (A k) (Ln k) (Cp k), .slice (A2 k) (Ln k) (Cp2 k)] (wr.drewN q) fun e w' => e = .returned (.bool true) ∧ Drew (wr.drewN q) w') := Lib.hid (fun q => eqI _ _ _ _ _ (Z k) _ ((HD.out.grow HA.out).2 k hlt) ((HD.out.grow HB.out).2 k hlt) hl)
      generalize A k = a1 at hck1 HE
      generalize A2 k = a2 at hck2 HE
      generalize Cp k = c1 at hck1 HE
      generalize Cp2 k = c2 at hck2 HE
      go_wp2
      go_quiet ((go_at_call 25; with_reducible exact Calls.quiet_of (HE.out _)))
      go_wp2
      exact ⟨⟨k + 1, _, by omega, by first | rfl | go_num | (congr 1), rfl, Lib.hid (HD.out.trans (by first | exact Drew.mk _ _ | exact ⟨_, rfl⟩))⟩, by show n - ((k : Int) + 1).toNat < n - (k : Int).toNat; omega⟩
    · obtain rfl : k = n := by omega
      go_wp2
      go_ret
      exact ⟨rfl, HD.out⟩
set_option maxHeartbeats 1000000 in
theorem szI_yes (a : Option Addr) (n cap : Nat) (w : World) (L : Int) (hn : (n : Int) ≤ L) (hL : L ≤ 1048576) :
    Calls Try.prog 54 #[.slice a n cap, .int .i64 L] w fun e w' => e = .returned (.int .i64 (L - n)) ∧ w = w' := by
  have hd : decide (L - (n : Int) < 0) = false := decide_eq_false (by omega)
  go_enter Try.func54, Try.ntmps54
  go_wp2
  go_ret
  exact ⟨rfl, rfl⟩
set_option maxHeartbeats 1000000 in
theorem szI_no (a : Option Addr) (n cap : Nat) (w : World) (L : Int) (hn : L < (n : Int)) (h0 : 0 ≤ L) (hL : L ≤ 1048576) (hm : n ≤ 9223372036854775807) :
    Calls Try.prog 54 #[.slice a n cap, .int .i64 L] w fun e w' => e = .returned (.int .i64 (-1)) ∧ w = w' := by
  have hd : decide (L - (n : Int) < 0) = true := decide_eq_true (by omega)
  go_enter Try.func54, Try.ntmps54
  go_wp2
  go_ret
  exact ⟨rfl, rfl⟩
/-- What is left of a size. -/
def gzV (Ln : Nat → Nat) (n : Nat) (left : Int) : Int := if (n : Int) + gtot Ln n ≤ left then left - n - gtot Ln n else -1
set_option maxRecDepth 100000 in
set_option maxHeartbeats 4000000 in
theorem szSS (a : Option Addr) (n cap : Nat) (left : Int) (A : Nat → Option Addr) (Ln Cp : Nat → Nat) (Z : Nat → List Int) (w : World) (h : GRow w a n A Ln Cp Z) (hn : n ≤ 9223372036854775807) (hf : ∀ k, k < n → Ln k ≤ 9223372036854775807) (h0 : 0 ≤ left) (hl : left ≤ 1048576) :
    Calls Try.prog 68 #[.slice a n cap, .int .i64 left] w fun e w' => e = .returned (.int .i64 (gzV Ln n left)) ∧ w = w' := by
  have HA := Lib.hid h
  have HF := Lib.hid hf
  clear h hf
  have hw0 : IntKind.i64.wrap (left - (n : Int)) = left - (n : Int) := IntWalk.i64_in _ (by omega)
  by_cases h1 : (n : Int) ≤ left
  · have hd : decide (left - (n : Int) < 0) = false := decide_eq_false (by omega)
    go_enter Try.func68, Try.ntmps68
    go_wp2
    clear hd hw0
    go_loop [1, 5] (fun lv iv => ∃ (k : Nat) (L : Int), k ≤ n ∧ 0 ≤ L ∧ L ≤ 1048576 ∧ lv = .int .i64 L ∧ iv = .int .i64 k ∧ Hid (L = left - n - gtot Ln k)) (fun _ iv => n - (intOf iv).toNat)
    case atStart => exact ⟨0, left - n, by omega, by omega, by omega, rfl, rfl, Lib.hid (by show left - n = left - n - ((0 : Nat) : Int); omega)⟩
    case round =>
      obtain ⟨k, L, hk, hL0, hL1, rfl, rfl, HL⟩ := hrel
      by_cases hlt : k < n
      · obtain ⟨b1, o1, rfl, _, hck1⟩ := HA.out.cell hlt
        have hfk := HF.out k hlt
        have HT : Hid (gtot Ln (k + 1) = gtot Ln k + Ln k) := Lib.hid rfl
        have HM := Lib.hid (gtot_mono Ln (k := k + 1) n hlt)
        by_cases h2 : (Ln k : Int) ≤ L
        · have HZ := Lib.hid (fun W => szI_yes (A k) (Ln k) (Cp k) W L h2 hL1)
          have HN : Hid (L - (Ln k : Int) = left - n - gtot Ln (k + 1)) := Lib.hid (by rw [HT.out, HL.out]; omega)
          have hd : decide (L - (Ln k : Int) < 0) = false := decide_eq_false (by omega)
          generalize A k = a1 at hck1 HZ
          generalize Cp k = c1 at hck1 HZ
          generalize Ln k = l at hck1 HZ HN hd h2 hfk
          go_wp2_with (first | (go_at_call 54; refine (HZ.out _).mono ?_; rintro e w' ⟨rfl, hw⟩; subst hw) | fail)
          go_round
          case rel => exact ⟨k + 1, L - l, by omega, by omega, by omega, rfl, by go_num, HN⟩
          case measure => simp [intOf]; omega
        · have HZ := Lib.hid (fun W => szI_no (A k) (Ln k) (Cp k) W L (by omega) hL0 hL1 hfk)
          have HV : Hid (gzV Ln n left = -1) := Lib.hid (by unfold gzV; rw [if_neg (by have := HM.out; rw [HT.out] at this; have := HL.out; omega)])
          generalize A k = a1 at hck1 HZ
          generalize Cp k = c1 at hck1 HZ
          generalize Ln k = l at hck1 HZ
          go_wp2_with (first | (go_at_call 54; refine (HZ.out _).mono ?_; rintro e w' ⟨rfl, hw⟩; subst hw) | fail)
          go_ret
          exact ⟨by rw [HV.out]; rfl, rfl⟩
      · obtain rfl : k = n := by omega
        have HV : Hid (gzV Ln k left = L) := Lib.hid (by unfold gzV; have := HL.out; rw [if_pos (by omega)]; omega)
        go_wp2
        go_ret
        exact ⟨by rw [HV.out]; rfl, rfl⟩
  · have hd : decide (left - (n : Int) < 0) = true := decide_eq_true (by omega)
    have HV : Hid (gzV Ln n left = -1) := Lib.hid (by unfold gzV; rw [if_neg (by omega)])
    go_enter Try.func68, Try.ntmps68
    go_wp2
    go_ret
    exact ⟨by rw [HV.out]; rfl, rfl⟩
theorem GRow.setOld {w : World} {p n : Nat} {Ln : Nat → Nat} {Z : Nat → List Int} (h : GRow w (some ⟨p, 0, none⟩) n (gA p) Ln Ln Z) {a : Addr} (ha : a.block < p) (v : Value) : GRow (w.setCell a v) (some ⟨p, 0, none⟩) n (gA p) Ln Ln Z := by
  refine ⟨?_, fun i hi => IRow.setCell (h.2 i hi) v ?_⟩
  · rcases h.1 with h | ⟨b, off, e, hb, hc⟩
    · exact .inl h
    · injection e with e
      injection e with e1 e2
      subst e1; subst e2
      exact .inr ⟨p, 0, rfl, by rw [World.size_setCell]; exact hb, fun i hi => by rw [World.cell?_setCell_other (h := fun e => by have := congrArg Addr.block e; simp at this; omega)]; exact hc i hi⟩
  · intro b e2
    unfold gA at e2
    injection e2 with e2
    subst e2
    show p + 1 + i ≠ a.block
    omega
set_option maxRecDepth 100000 in
set_option maxHeartbeats 2000000 in
theorem toG (r : Int) (a : Option Addr) (n cap : Nat) (A : Nat → Option Addr) (Ln Cp : Nat → Nat) (Z : Nat → List Int) (w : World) (h : GRow w a n A Ln Cp Z) (hn : n + gtot Ln n ≤ 1048576) :
    Calls Try.prog 36 #[.agg #[.int .i64 r, .slice a n cap]] w fun e w' => ∃ p, e = .returned (.agg #[.int .i64 r, .slice (some ⟨p, 0, none⟩) n n]) ∧ GRow w' (some ⟨p, 0, none⟩) n (gA p) Ln Ln Z ∧ Below w.heap.size w w' := by
  have HT := Lib.hid (fun W (hb : Below w.heap.size w W) => toSS a n cap A Ln Cp Z W (h.below hb) hn)
  clear h
  go_enter Try.func36, Try.ntmps36
  go_wp2_with (first | (go_at_call 73; (refine (HT.out _ ?_).mono ?_); (next => (repeat (first | exact Below.refl _ _ | refine Below.setCell ?_ (by first | (simp; done) | (simp; omega)) _ | refine Below.alloc ?_ (by first | (simp; done) | (simp; omega)) _))); rintro e w2 ⟨p, rfl, hp, hg, hb⟩; have HG := Lib.hid hg; have HB := Lib.hid hb; have HPP := Lib.hid hp; have HK2 := Lib.hid (Kin.below (p := w.heap.size + 1 + 1) (x := .int .i64 r) (y := .slice none 0 0) (by first | exact Kin.new' (by simp) | exact Kin.set0 (Kin.new' (by simp)) _) hb); have HK1 := Lib.hid (Kin.below (p := w.heap.size + 1) (x := .int .i64 0) (y := .slice none 0 0) (by first | exact (Kin.new' (by simp)).below (belowA _ _) | exact ((Kin.new' (by simp)).below (belowA _ _)).far (by simp) _) hb); obtain ⟨hQ, hq0, hq1, hqf0, hqf1⟩ := HK2.out; obtain ⟨hQ1, hr0, hr1, hrf0, hrf1⟩ := HK1.out; clear hg hb hp) | fail)
  have hsz : w.heap.size + 1 + 1 < p := by have := HPP.out; simp at this; omega
  have HR := Lib.hid ((HK1.out.far (a := ⟨w.heap.size + 1 + 1, 1, none⟩) (by simp) (.slice (some ⟨p, 0, none⟩) n n)).res (.int .i64 r) (.slice (some ⟨p, 0, none⟩) n n))
  obtain ⟨_, hs1, hs2⟩ := HR.out
  exact bodyPost_ret (v := .agg #[.int .i64 r, .slice (some ⟨p, 0, none⟩) n n]) (by simp [results, Try.results36, go_sem, hs1, hs2]) rfl ⟨p, rfl, ((HG.out.setOld (by simpa using hsz) _).setOld (by show w.heap.size + 1 < p; omega) _).setOld (by show w.heap.size + 1 < p; omega) _, Below.setCell (Below.setCell (Below.setCell (Below.next (by repeat (first | exact Below.refl _ _ | refine Below.setCell ?_ (by first | (simp; done) | (simp; omega)) _ | refine Below.alloc ?_ (by first | (simp; done) | (simp; omega)) _)) HB.out) (by simp; omega) _) (by simp) _) (by simp) _⟩
set_option maxRecDepth 100000 in
set_option maxHeartbeats 2000000 in
theorem eqG (r : Int) (a b : Option Addr) (n cap capb : Nat) (A A2 : Nat → Option Addr) (Ln Cp Cp2 : Nat → Nat) (Z : Nat → List Int) (w : World) (ha : GRow w a n A Ln Cp Z) (hb : GRow w b n A2 Ln Cp2 Z) (hn : n + gtot Ln n ≤ 1048576) :
    Calls Try.prog 39 #[.agg #[.int .i64 r, .slice a n cap], .agg #[.int .i64 r, .slice b n capb]] w fun e w' => e = .returned (.bool true) ∧ Below w.heap.size w w' := by
  have HE := Lib.hid (fun W (hw : Below w.heap.size w W) => eqSS a b n cap capb A A2 Ln Cp Cp2 Z W (ha.below hw) (hb.below hw) hn)
  clear ha hb
  go_enter Try.func39, Try.ntmps39
  go_wp2_with (first | (go_at_call 80; (refine (HE.out _ ?_).mono ?_); (next => (repeat (first | exact Below.refl _ _ | refine Below.alloc ?_ (by first | (simp; done) | (simp; omega)) _))); rintro e w2 ⟨rfl, hd⟩; have HB := Lib.hid hd.below; clear hd) | fail)
  go_ret
  exact ⟨rfl, Below.next (by repeat (first | exact Below.refl _ _ | refine Below.alloc ?_ (by first | (simp; done) | (simp; omega)) _)) HB.out⟩
set_option maxRecDepth 100000 in
set_option maxHeartbeats 2000000 in
theorem szG (r : Int) (a : Option Addr) (n cap : Nat) (left : Int) (A : Nat → Option Addr) (Ln Cp : Nat → Nat) (Z : Nat → List Int) (w : World) (h : GRow w a n A Ln Cp Z) (hn : n ≤ 9223372036854775807) (hf : ∀ k, k < n → Ln k ≤ 9223372036854775807) (h0 : 0 ≤ left) (hl : left ≤ 1048576) :
    Calls Try.prog 34 #[.agg #[.int .i64 r, .slice a n cap], .int .i64 left] w fun e w' => e = .returned (.int .i64 (gzV Ln n left)) ∧ Below w.heap.size w w' := by
  have HS := Lib.hid (fun W (hw : Below w.heap.size w W) => szSS a n cap left A Ln Cp Z W (h.below hw) hn hf h0 hl)
  clear h hf
  have HV : Hid (gzV Ln n left = -1 ∨ 0 ≤ gzV Ln n left) := Lib.hid (by unfold gzV; split <;> omega)
  generalize gzV Ln n left = v at HS HV ⊢
  by_cases hv : v < 0
  · have hvv : v = -1 := by rcases HV.out with e | e <;> omega
    subst hvv
    go_enter Try.func34, Try.ntmps34
    go_wp2_with (first | (go_at_call 68; (refine (HS.out _ ?_).mono ?_); (next => exact belowA _ _); rintro e w2 ⟨rfl, hd⟩; subst hd) | fail)
    go_ret
    exact ⟨rfl, belowA _ _⟩
  · have hd : decide (v < 0) = false := decide_eq_false hv
    go_enter Try.func34, Try.ntmps34
    go_wp2_with (first | (go_at_call 68; (refine (HS.out _ ?_).mono ?_); (next => exact belowA _ _); rintro e w2 ⟨rfl, hd⟩; subst hd) | fail)
    go_ret
    exact ⟨rfl, belowA _ _⟩
theorem cellsIG : Try.prog.cellsOf 2 = 1 := by kernel_rfl
theorem cellsSG : Try.prog.cellsOf 40 = 1 := by kernel_rfl
theorem cellsSSG : Try.prog.cellsOf 60 = 1 := by kernel_rfl
theorem cellsG2 : Try.prog.cellsOf 62 = 2 := by kernel_rfl
section
open Go.ChangeShapes Go.WideShapes Go.Deep
variable {H : Type} {enc : TypeId × Value → H} {w : World} {base : Nat} {held : Bool}
theorem add_spot {w : World} {y : Addr} {v : Value} (h : w.cell? (y.add 0) = some v) : y.spot = none ∧ y.block < w.heap.size := by
  have e0 : y.add 0 = y := by simp [Addr.add]
  rw [e0] at h
  refine ⟨?_, ?_⟩
  · unfold World.cell? at h
    split at h
    · split at h
      · cases h
      · rename_i hn; cases hy : y.spot with
        | none => rfl
        | some s => rw [hy] at hn; simp at hn
    · cases h
  · unfold World.cell? at h
    split at h
    · rename_i hh; exact (Array.getElem?_eq_some_iff.1 hh).1
    · cases h
theorem add_at {y : Addr} (h : y.spot = none) (i : Nat) : y.add i = ⟨y.block, y.off + i, none⟩ := by
  obtain ⟨b, off, spot⟩ := y
  simp at h
  subst h
  unfold Addr.add; split <;> simp_all
theorem open_grow {t : TypeId} {fuel : Nat} {a : Option Addr} {len cap : Nat} {x : DataW H × List MemPlace} (ht : Try.prog.underlying t = some (.slice 40)) (h : DataW.trod enc Try.prog w base (fun _ => true) held fuel t [.slice a len cap] = some x) :
    ∃ A Ln Cp Z, GRow w a len A Ln Cp Z ∧ len ≤ 9223372036854775807 ∧ ∀ k, k < len → Ln k ≤ 9223372036854775807 := by
  rcases open_int_rows ht Try.underlying40 Try.underlying2 cellsSG cellsIG h with ⟨hcs, _⟩ | ⟨y, l, c, A, L, C, Z, hcs, _, hl, hm, _, hx⟩
  · simp at hcs
    obtain ⟨rfl, rfl, rfl⟩ := hcs
    exact ⟨fun _ => none, fun _ => 0, fun _ => 0, fun _ => [], ⟨.inl rfl, fun i hi => by omega⟩, by omega, fun k hk => by omega⟩
  · simp at hcs
    obtain ⟨rfl, rfl, rfl⟩ := hcs
    unfold maxLen at hm
    refine ⟨A, L, C, fun r => (Z r).take (L r), ⟨?_, fun i hi => ?_⟩, by omega, fun k hk => ?_⟩
    · by_cases h0 : len = 0
      · exact .inl h0
      · obtain ⟨hs, hb⟩ := add_spot (hx 0 (by omega)).1
        refine .inr ⟨y.block, y.off, ?_, hb, fun i hi => ?_⟩
        · obtain ⟨b, off, spot⟩ := y
          simp at hs
          rw [hs]
        · rw [← add_at hs]; exact (hx i (by omega)).1
    · obtain ⟨_, h2, h3, h4, _, h6, h7⟩ := hx i (by omega)
      refine ⟨by rw [List.length_take, h4]; omega, ?_⟩
      by_cases h0 : L i = 0
      · exact .inl h0
      · cases hA : A i with
        | none => have := h6 hA; omega
        | some a' =>
          obtain ⟨_, h8⟩ := h7 a' hA
          obtain ⟨hs, hb⟩ := add_spot (h8 0 (by omega))
          refine .inr ⟨a'.block, a'.off, ?_, hb, fun k hk => ?_⟩
          · obtain ⟨b, off, spot⟩ := a'
            simp at hs
            rw [hs]
          · rw [← add_at hs, h8 k (by omega)]
            simp [List.getD_eq_getElem?_getD, hk]
    · obtain ⟨_, h2, h3, _⟩ := hx k (by omega)
      unfold maxLen at h3
      omega
set_option maxRecDepth 100000 in
theorem open_G {fuel : Nat} {cs : List Value} {x : DataW H × List MemPlace} (h : DataW.trod enc Try.prog w base (fun _ => true) held fuel 62 cs = some x) (hs : cs.length = 2) :
    ∃ r a n cap A Ln Cp Z, cs = [.int .i64 r, .slice a n cap] ∧ GRow w a n A Ln Cp Z ∧ n ≤ 9223372036854775807 ∧ ∀ k, k < n → Ln k ≤ 9223372036854775807 := by
  obtain ⟨y0, y1, m, -, -, h0, h1⟩ := trod_struct2 Try.underlying62 h
  match cs, hs with
  | [v0, v1], _ =>
    simp only [cellsIG, cellsSSG, List.drop, List.take] at h0 h1
    obtain ⟨r, e0, _⟩ := trod_i64 Try.underlying2 h0
    rcases open_slice1 Try.underlying60 cellsSG h1 with ⟨e2, _⟩ | ⟨y, l, k, mm, q, V, D, Pl, e2, _, hl, hk, _⟩
    · simp at e0 e2
      subst e0; subst e2
      obtain ⟨A, Ln, Cp, Z, hg, hn, hf⟩ := open_grow Try.underlying60 h1
      exact ⟨r, none, 0, 0, A, Ln, Cp, Z, rfl, hg, hn, hf⟩
    · simp at e0 e2
      subst e0; subst e2
      obtain ⟨A, Ln, Cp, Z, hg, hn, hf⟩ := open_grow Try.underlying60 h1
      exact ⟨r, some y, l, k, A, Ln, Cp, Z, rfl, hg, hn, hf⟩
end
end Go.Proofs.Ytnljabgkaelplaa
