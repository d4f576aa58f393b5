
/- DropOf: what both answer. -/
import Derived.Test.YtnljabgkaelplaaDoorDrt
set_option linter.unusedVariables false
namespace Go.Proofs.YtnljabgkaelplaaDoor
open Go.Proofs.YtnljabgkaelplaaDoor.Flo Go.RowKit Go.Shelf Go.Sort Go.Proofs.YtnljabgkaelplaaDoor.Pr
attribute [local go_sem] Oper.semAt_some

def sx (z : Nat → Nat) {n : Nat} (l : List (Fin n)) : Nat := l.foldl (fun s i => s ^^^ z i.val) 0
theorem sx_snoc (z : Nat → Nat) {n : Nat} (l : List (Fin n)) (i : Fin n) : sx z (l ++ [i]) = sx z l ^^^ z i.val := by unfold sx; rw [List.foldl_append]; rfl
theorem sx_lt {z : Nat → Nat} {n m : Nat} (hz : ∀ i, i < n → z i < 2 ^ m) (l : List (Fin n)) : sx z l < 2 ^ m := by
  unfold sx
  have : ∀ (l : List (Fin n)) (s : Nat), s < 2 ^ m → l.foldl (fun s i => s ^^^ z i.val) s < 2 ^ m := by
    intro l
    induction l with
    | nil => intro s hs; exact hs
    | cons i l ih => intro s hs; exact ih _ (Nat.xor_lt_two_pow hs (hz i.val i.isLt))
  exact this l 0 (Nat.two_pow_pos m)
theorem irow_at {w : World} {b1 o1 n : Nat} {zs : List Int} (h : IRow w (some ⟨b1, o1, none⟩) n zs) {i : Nat} (hi : i < n) : b1 < w.heap.size ∧ w.cell? ⟨b1, o1 + i, none⟩ = some (.int .i64 (zs.getD i 0)) := by
  obtain ⟨b, o, e, hb, hc⟩ := h.cell' hi
  injection e with e
  injection e with e1 e2
  subst e1; subst e2
  exact ⟨hb, hc⟩

theorem dirow_some {w : World} {a : Option Addr} {n : Nat} {zs : List Int} (h : IRow w a n zs) (hn : 1 ≤ n) : ∃ b o, a = some ⟨b, o, none⟩ := by
  obtain ⟨b, o, e, _⟩ := h.cell' (show 0 < n by omega)
  exact ⟨b, o, e⟩
def dlP (zs : List Int) (n : Int) (k : Nat) : Prop := ∀ j, j < k → 0 ≤ zs.getD j 0 ∧ zs.getD j 0 < n
instance (zs : List Int) (n : Int) (k : Nat) : Decidable (dlP zs n k) := inferInstanceAs (Decidable (∀ j, j < k → 0 ≤ zs.getD j 0 ∧ zs.getD j 0 < n))
def dlB (zs : List Int) (m : Nat) (n : Int) : Bool := decide (dlP zs n m) && decide (m ≤ 512)
theorem dl_wo {zs : List Int} {n : Nat} (h : dlP zs 256 n) : woP zs n 8 := fun k hk => by
  have e : (2 : Int) ^ 8 = 256 := by decide
  rw [e]; exact h k hk
def doB (zs : List Int) (n : Nat) (s : Int) : Bool := decide (1 ≤ n ∧ n ≤ 32) && (decide (dlP zs 256 n) && seB s)
def doV (zs : List Int) (n : Nat) (s : Int) : Int := ((ew (zN zs) n (wdr n s.toNat) : Nat) : Int)
theorem doB_yes {zs : List Int} {n : Nat} {s : Int} (h : doB zs n s = true) : (1 ≤ n ∧ n ≤ 32) ∧ dlP zs 256 n ∧ ∃ t : Nat, s = (t : Int) ∧ t < 4294967296 := by
  unfold doB seB at h
  rw [Bool.and_eq_true, Bool.and_eq_true] at h
  have h1 := of_decide_eq_true h.1
  have h2 := of_decide_eq_true h.2.1
  have h3 := of_decide_eq_true h.2.2
  exact ⟨h1, h2, s.toNat, by omega, by omega⟩
theorem doB_no {zs : List Int} {n : Nat} {s : Int} (h : doB zs n s = false) : ¬ (1 ≤ n ∧ n ≤ 32) ∨ ((1 ≤ n ∧ n ≤ 32) ∧ ¬ dlP zs 256 n) ∨ ((1 ≤ n ∧ n ≤ 32) ∧ dlP zs 256 n ∧ seB s = false) := by
  unfold doB at h
  by_cases h1 : 1 ≤ n ∧ n ≤ 32
  · rw [decide_eq_true h1] at h
    by_cases h2 : dlP zs 256 n
    · rw [decide_eq_true h2] at h; exact .inr (.inr ⟨h1, h2, by simpa using h⟩)
    · exact .inr (.inl ⟨h1, h2⟩)
  · exact .inl h1
set_option maxHeartbeats 2000000 in
theorem dal_impl (a : Option Addr) (m cap : Nat) (zs : List Int) (n : Int) (w : World) (h : IRow w a m zs) (hm : m ≤ 1048576) :
    Calls Tryd.prog 48 #[.slice a m cap, .int .i64 n] w fun e w' => e = .returned (.bool (dlB zs m n)) ∧ w = w' := by
  have HA := Lib.hid h
  clear h
  go_enter Tryd.func48, Tryd.ntmps48
  go_wp2
  go_loop [9] (fun iv => ∃ k : Nat, k ≤ m ∧ Hid (dlP zs n k) ∧ iv = .int .i64 k) (fun iv => m - (intOf iv).toNat)
  case atStart => exact ⟨0, by omega, Lib.hid (by intro j hj; omega), rfl⟩
  case round =>
    obtain ⟨k, hk, HL, rfl⟩ := hrel
    by_cases hlt : k < m
    · obtain ⟨b1, o1, rfl, _, hck1⟩ := HA.out.cell' hlt
      by_cases hc0 : 0 ≤ zs.getD k 0
      · by_cases hc1 : zs.getD k 0 < n
        · have HN : Hid (dlP zs n (k + 1)) := Lib.hid (fun j hj => by
            by_cases e : j < k
            · exact HL.out j e
            · obtain rfl : j = k := by omega
              exact ⟨hc0, hc1⟩)
          generalize zs.getD k 0 = c at hck1 hc0 hc1
          have d1 : decide (c < 0) = false := decide_eq_false (by omega)
          have d2 : decide (n ≤ c) = false := decide_eq_false (by omega)
          go_wp2
          go_round
          case rel => exact ⟨k + 1, by omega, HN, by go_num⟩
          case measure => simp [intOf]; omega
        · have HF : Hid (dlB zs m n = false) := Lib.hid (by
            unfold dlB
            rw [decide_eq_false (p := dlP zs n m) (fun e => hc1 (e k hlt).2)]; rfl)
          generalize zs.getD k 0 = c at hck1 hc0 hc1
          have d1 : decide (c < 0) = false := decide_eq_false (by omega)
          have d2 : decide (n ≤ c) = true := decide_eq_true (by omega)
          go_wp2
          go_ret
          exact ⟨ret_bool2 HF.out.symm, rfl⟩
      · have HF : Hid (dlB zs m n = false) := Lib.hid (by
          unfold dlB
          rw [decide_eq_false (p := dlP zs n m) (fun e => hc0 (e k hlt).1)]; rfl)
        generalize zs.getD k 0 = c at hck1 hc0
        have d1 : decide (c < 0) = true := decide_eq_true (by omega)
        go_wp2
        go_ret
        exact ⟨ret_bool2 HF.out.symm, rfl⟩
    · obtain rfl : k = m := by omega
      by_cases h2 : k ≤ 512
      · have HF : Hid (dlB zs k n = true) := Lib.hid (by unfold dlB; rw [decide_eq_true h2, decide_eq_true HL.out]; rfl)
        have hd : decide ((k : Int) ≤ 512) = true := decide_eq_true (by omega)
        go_wp2
        go_ret
        exact ⟨ret_bool2 HF.out.symm, rfl⟩
      · have HF : Hid (dlB zs k n = false) := Lib.hid (by unfold dlB; rw [decide_eq_false h2]; simp)
        have hd : decide ((k : Int) ≤ 512) = false := decide_eq_false (by omega)
        go_wp2
        go_ret
        exact ⟨ret_bool2 HF.out.symm, rfl⟩
set_option maxRecDepth 100000 in
set_option maxHeartbeats 4000000 in
theorem oa_impl (b1 o1 n cap : Nat) (zs : List Int) (x : Nat) (w0 w : World) (hp : Db w0) (hb : Below w0.heap.size w0 w) (h : IRow w (some ⟨b1, o1, none⟩) n zs) (hn : n ≤ 32) (hz : woP zs n 8) (hx : x < 2 ^ n) :
    Calls Tryd.prog 49 #[.slice (some ⟨b1, o1, none⟩) n cap, .int .i64 (x : Int)] w fun e w' => e = .returned (.int .i64 (ew (zN zs) n x : Int)) ∧ Below w.heap.size w w' := by
  refine (callsIn_wide (n := 6)).1 ?_
  have hFW : ∀ f, Fence.wide.fn f := fun _ => trivial
  have hFD : Fence.wide.depth.isSome = false := rfl
  have HA := Lib.hid h
  have HZ := Lib.hid hz
  have HX := Lib.hid hx
  have HB := Lib.hid hb
  clear h hz hx hb
  refine callsIn_of_wp_marks Tryd.func49 rfl trivial ?_ rfl
  simp only [Tryd.ntmps49, List.size_toArray, List.length_cons, List.length_nil, Nat.reduceAdd, Nat.reduceSub, Array.replicate_succ, Array.replicate_zero, List.push_toArray, List.append_toArray, List.nil_append, List.cons_append]
  gi_wp2_with (first | (gi_at_call 45; (with_reducible refine (callsIn_wide.2 (ix_impl (x : Int) _)).mono ?_); rintro e w' ⟨rfl, rfl⟩) | fail)
  have bR := ((Boxed.new w 22 (.slice (some ⟨b1, o1, none⟩) n cap)).alloc (.cells #[.int .i64 0] 2)).alloc (.cells #[.int .i64 (x : Int)] 2)
  have bS := (Boxed.new (w.alloc (.cells #[.slice (some ⟨b1, o1, none⟩) n cap] 22)) 2 (.int .i64 0)).alloc (.cells #[.int .i64 (x : Int)] 2)
  have bX := Boxed.new ((w.alloc (.cells #[.slice (some ⟨b1, o1, none⟩) n cap] 22)).alloc (.cells #[.int .i64 0] 2)) 2 (.int .i64 (x : Int))
  simp only [World.size_alloc] at bS bX
  have hB0 : Below w.heap.size w (((w.alloc (.cells #[.slice (some ⟨b1, o1, none⟩) n cap] 22)).alloc (.cells #[.int .i64 0] 2)).alloc (.cells #[.int .i64 (x : Int)] 2)) := (((Below.refl _ w).alloc (Nat.le_refl _) _).alloc (by simp) _).alloc (by simp; omega) _
  have hsz : (((w.alloc (.cells #[.slice (some ⟨b1, o1, none⟩) n cap] 22)).alloc (.cells #[.int .i64 0] 2)).alloc (.cells #[.int .i64 (x : Int)] 2)).heap.size = w.heap.size + 3 := by simp
  obtain ⟨W0, hW0⟩ : ∃ W0, (((w.alloc (.cells #[.slice (some ⟨b1, o1, none⟩) n cap] 22)).alloc (.cells #[.int .i64 0] 2)).alloc (.cells #[.int .i64 (x : Int)] 2)) = W0 := ⟨_, rfl⟩
  rw [hW0] at bR bS bX hB0 hsz ⊢
  clear hW0
  have hb00 : Below w0.heap.size w0 W0 := HB.out.trans (hB0.mono HB.out.size)
  have hle := HB.out.size
  refine wpIn_rangeFunc_ownG rfl (by decide) (gf := 71) (lb := #[.pointer (some ⟨w.heap.size + 1 + 1, 0, none⟩)]) rfl trivial (enters_of Tryd.func71 (by kernel_rfl) rfl)
    (ix_stops5 5 (w.heap.size + 1 + 1) n x HX.out hn w0 W0 hp hb00 (by omega) bX.cell) belowK_t (belowK_b (by omega)) (Below.refl _ _) (fun _ => rfl)
    (fun pre W => (Boxed W (w.heap.size + 1) 2 (.int .i64 (sx (zN zs) pre : Int)) ∧ Boxed W w.heap.size 22 (.slice (some ⟨b1, o1, none⟩) n cap)) ∧ Below w.heap.size w W)
    (fun _ _ _ => False)
    (OwnFrom.and (OwnFrom.and (Own.from (boxed_own _ _ _) _) (Own.from (boxed_own _ _ _) _)) (ownFrom_below (Nat.le_refl _) (by omega)))
    (fun _ _ _ _ _ hs _ _ => hs)
    ⟨⟨bS, bR⟩, hB0⟩
    (fun i => { tmps := #[.slice (some ⟨b1, o1, none⟩) n cap, .int .i64 (x : Int), .pointer (some ⟨w.heap.size, 0, none⟩), undef, .int .i64 0, .pointer (some ⟨w.heap.size + 1, 0, none⟩), .int .i64 (i.val : Int), .int .i64 (x : Int), .func (.func 71) #[] #[.pointer (some ⟨w.heap.size + 1 + 1, 0, none⟩)], .int .i64 (i.val : Int), undef, undef, undef, undef, undef, undef, undef], defers := [] }) ?assign ?body ?done ?stop
  case assign =>
    intro l i W K hK
    gi_wp2
    exact hK
  case body =>
    rintro l pre i W ⟨⟨bS1, bR1⟩, hB1⟩ _
    have hi := i.isLt
    obtain ⟨hb1, hck⟩ := irow_at HA.out hi
    obtain ⟨hzk, hzl⟩ := zN_at HZ.out hi
    rw [hzk] at hck
    have hck2 : W.cell? ⟨b1, o1 + i.val, none⟩ = some (.int .i64 (zN zs i.val : Int)) := (hB1.cell (p := ⟨b1, o1 + i.val, none⟩) hb1).trans hck
    have hsl := sx_lt (z := zN zs) (fun j hj => (zN_at HZ.out hj).2) pre
    have hx := b_xor (sx (zN zs) pre) (zN zs i.val) (by omega) (by omega)
    have cS := bS1.cell
    have fS := bS1.frozen
    have cR := bR1.cell
    have HS1 := Lib.hid (sx_snoc (zN zs) pre i)
    clear hzk hck
    have hmx : Tryd.prog.follows .mixedOrders = true := by kernel_rfl
    gi_wp2
    gi_region_with_o (fail)
    all_goals gi_wp2
    all_goals (try go_bits)
    all_goals exact ⟨((KeepsOthers.setCell _ _ _).trans (KeepsOthers.drew _)).from _, ((Below.refl w0.heap.size W).setCell (p := ⟨w.heap.size + 1, 0, none⟩) (Nat.le_succ_of_le hle) _).drew, ⟨(show Boxed (W.setCell ⟨w.heap.size + 1, 0, none⟩ _) (w.heap.size + 1) 2 _ from by rw [HS1.out]; exact bS1.set _), (show Boxed (W.setCell ⟨w.heap.size + 1, 0, none⟩ _) w.heap.size 22 _ from bR1.other (by omega) _)⟩, (hB1.setCell (p := ⟨w.heap.size + 1, 0, none⟩) (Nat.le_succ _) _).drew⟩
  case done =>
    rintro D ys W hD rfl ⟨⟨bS1, bR1⟩, hB1⟩ hK
    have cS := bS1.cell
    gi_wp2
    refine ⟨by simp, .inl ⟨_, _, rfl, run_takeDeferred hK, ?_⟩⟩
    exact ⟨_, results_tmp rfl _ _ _, rfl, hB1.trans (belowK_b (w := w) (Nat.le_refl _) W D _ _ (by omega) hK rfl rfl)⟩
  case stop =>
    rintro D c pre W _ _ h _
    exact h.elim

def blkB (zs : List Int) (n : Nat) : Bool := decide (dlP zs 256 n) && decide (1 ≤ n ∧ n ≤ 32)
set_option maxHeartbeats 2000000 in
theorem blk_spec (a : Option Addr) (m cap : Nat) (zs : List Int) (w : World) (h : IRow w a m zs) (hm : m ≤ 1048576) :
    Calls Tryd.prog 47 #[.slice a m cap, .int .i64 1, .int .i64 32] w fun e w' => e = .returned (.bool (blkB zs m)) ∧ w = w' := by
  have HA := Lib.hid h
  clear h
  go_enter Tryd.func47, Tryd.ntmps47
  go_wp2
  go_loopw [10] (fun iv w' => ∃ k : Nat, k ≤ m ∧ Hid (dlP zs 256 k) ∧ iv = .int .i64 (k : Int) ∧ w = w') (fun iv _ => m - (intOf iv).toNat)
  case atStart => exact ⟨0, by omega, Lib.hid (by intro j hj; omega), rfl, rfl⟩
  case round =>
    obtain ⟨k, hk, HL, rfl, hw⟩ := hrel
    subst hw
    by_cases hlt : k < m
    · obtain ⟨b1, o1, rfl, _, hck1⟩ := HA.out.cell' hlt
      by_cases hc : 0 ≤ zs.getD k 0 ∧ zs.getD k 0 ≤ 255
      · have HN : Hid (dlP zs 256 (k + 1)) := Lib.hid (fun j hj => by
          by_cases e : j < k
          · exact HL.out j e
          · obtain rfl : j = k := by omega
            omega)
        generalize zs.getD k 0 = c at hck1 hc
        have HC := Lib.hid hc
        clear hc
        go_wp2_with (first | (go_at_call 29; (with_reducible refine (in_true c 0 255 _ HC.out.1 HC.out.2).mono ?_); rintro e w' ⟨rfl, hw⟩; have hw := hw.symm; subst hw) | fail)
        exact ⟨⟨k + 1, by omega, HN, by first | rfl | go_num | (congr 1), by first | rfl | trivial⟩, by show m - ((k : Int) + 1).toNat < m - (k : Int).toNat; omega⟩
      · have HF : Hid (blkB zs m = false) := Lib.hid (by
          unfold blkB
          rw [decide_eq_false (p := dlP zs 256 m) (fun e => hc (by have := e k hlt; omega))]; rfl)
        generalize zs.getD k 0 = c at hck1 hc
        have HC := Lib.hid hc
        clear hc
        go_wp2_with (first | (go_at_call 29; (with_reducible refine (in_false c 0 255 _ HC.out).mono ?_); rintro e w' ⟨rfl, hw⟩; have hw := hw.symm; subst hw) | fail)
        go_ret
        exact ⟨ret_bool2 HF.out.symm, rfl⟩
    · obtain rfl : k = m := by omega
      by_cases h1 : 1 ≤ k
      · have d1 : decide ((1 : Int) ≤ (k : Int)) = true := decide_eq_true (by omega)
        have d1b : decide (1 ≤ k) = true := decide_eq_true h1
        by_cases h2 : k ≤ 32
        · have HF : Hid (blkB zs k = true) := Lib.hid (by unfold blkB; rw [decide_eq_true HL.out, decide_eq_true ⟨h1, h2⟩]; rfl)
          have d2 : decide ((k : Int) ≤ 32) = true := decide_eq_true (by omega)
          go_wp2
          go_ret
          exact ⟨ret_bool2 HF.out.symm, rfl⟩
        · have HF : Hid (blkB zs k = false) := Lib.hid (by unfold blkB; rw [decide_eq_false (p := 1 ≤ k ∧ k ≤ 32) (fun e => h2 e.2)]; simp)
          have d2 : decide ((k : Int) ≤ 32) = false := decide_eq_false (by omega)
          go_wp2
          go_ret
          exact ⟨ret_bool2 HF.out.symm, rfl⟩
      · have d1 : decide ((1 : Int) ≤ (k : Int)) = false := decide_eq_false (by omega)
        have d1b : decide (1 ≤ k) = false := decide_eq_false h1
        have HF : Hid (blkB zs k = false) := Lib.hid (by unfold blkB; rw [decide_eq_false (p := 1 ≤ k ∧ k ≤ 32) (fun e => h1 e.1)]; simp)
        go_wp2
        go_ret
        exact ⟨ret_bool2 HF.out.symm, rfl⟩
theorem take_sx (z : Nat → Nat) {n : Nat} (l : List (Fin n)) {i : Nat} (h : i < l.length) : sx z (l.take (i + 1)) = sx z (l.take i) ^^^ z (l[i]'h).val := by
  rw [List.take_succ_eq_append_getElem h, sx_snoc]
theorem ints_get {n : Nat} (l : List (Fin n)) {i : Nat} (h : i < l.length) : (ints l).getD i 0 = (((l[i]'h).val : Nat) : Int) := by
  unfold ints
  rw [List.getD_eq_getElem?_getD, List.getElem?_map, List.getElem?_eq_getElem h]
  rfl
set_option maxRecDepth 100000 in
set_option maxHeartbeats 4000000 in
theorem dosN (a : Option Addr) (n cap : Nat) (zs : List Int) (s : Int) (w : World) (h : IRow w a n zs) (hn : n ≤ 1048576) (hok : doB zs n s = false) : Calls Tryd.prog 18 #[.slice a n cap, .int .i64 s] w fun e w' => e = .returned (.tuple #[.int .i64 0, .bool false]) ∧ Below w.heap.size w w' := by
  by_cases hb : blkB zs n = true
  · have hs0 : seB s = false := by
      rcases doB_no hok with h1 | ⟨h1, h2⟩ | ⟨h1, h2, h3⟩
      · unfold blkB at hb; rw [decide_eq_false h1] at hb; simp at hb
      · unfold blkB at hb; rw [decide_eq_false h2] at hb; simp at hb
      · exact h3
    have HBK : Hid (Calls Tryd.prog 47 #[.slice a n cap, .int .i64 1, .int .i64 32] w fun e w' => e = .returned (.bool true) ∧ w = w') := Lib.hid (by have := blk_spec a n cap zs w h hn; rw [hb] at this; exact this)
    have HSE : Hid (∀ w3 : World, Calls Tryd.prog 40 #[.int .i64 s] w3 fun e w' => e = .returned (.bool false) ∧ w3 = w') := Lib.hid (fun w3 => by have := seed_spec s w3; rw [hs0] at this; exact this)
    clear hok hb hs0 h
    go_enter Tryd.func18, Tryd.ntmps18
    go_wp2_with (first | (go_at_call 47; (with_reducible refine HBK.out.mono ?_); rintro e w' ⟨rfl, hw⟩; subst hw) | (go_at_call 40; (with_reducible refine (HSE.out _).mono ?_); rintro e w' ⟨rfl, hw⟩; subst hw) | fail)
    go_ret2
    exact ⟨rfl, Below.refl _ _⟩
  · have hb : blkB zs n = false := Bool.eq_false_iff.2 hb
    have HBK : Hid (Calls Tryd.prog 47 #[.slice a n cap, .int .i64 1, .int .i64 32] w fun e w' => e = .returned (.bool false) ∧ w = w') := Lib.hid (by have := blk_spec a n cap zs w h hn; rw [hb] at this; exact this)
    clear hok hb h
    go_enter Tryd.func18, Tryd.ntmps18
    go_wp2_with (first | (go_at_call 47; (with_reducible refine HBK.out.mono ?_); rintro e w' ⟨rfl, hw⟩; subst hw) | fail)
    go_ret2
    exact ⟨rfl, Below.refl _ _⟩
set_option maxRecDepth 100000 in
set_option maxHeartbeats 4000000 in
theorem dosY (a : Option Addr) (n cap : Nat) (zs : List Int) (s : Int) (w : World) (h : IRow w a n zs) (hn : n ≤ 1048576) (hok : doB zs n s = true) : Calls Tryd.prog 18 #[.slice a n cap, .int .i64 s] w fun e w' => e = .returned (.tuple #[.int .i64 (doV zs n s), .bool true]) ∧ Below w.heap.size w w' := by
  obtain ⟨⟨hn1, hn2⟩, hdl, q, rfl, hq⟩ := doB_yes hok
  have hsq : seB (q : Int) = true := decide_eq_true (by omega)
  have hb : blkB zs n = true := by unfold blkB; rw [decide_eq_true hdl, decide_eq_true ⟨hn1, hn2⟩]; rfl
  have HBK : Hid (Calls Tryd.prog 47 #[.slice a n cap, .int .i64 1, .int .i64 32] w fun e w' => e = .returned (.bool true) ∧ w = w') := Lib.hid (by have := blk_spec a n cap zs w h hn; rw [hb] at this; exact this)
  have HSE : Hid (∀ w3 : World, Calls Tryd.prog 40 #[.int .i64 (q : Int)] w3 fun e w' => e = .returned (.bool true) ∧ w3 = w') := Lib.hid (fun w3 => by have := seed_spec (q : Int) w3; rw [hsq] at this; exact this)
  have HDR := Lib.hid (drp_spec n q w ⟨hn1, hn2⟩ hq)
  have HKL : Hid (dpK n q = (dgs n (wdr n q)).length ∧ dpL n q = ints (dgs n (wdr n q))) := Lib.hid ⟨by unfold dpK; rw [dpL_dgs, ints_len], dpL_dgs n q⟩
  have HV : Hid (doV zs n (q : Int) = ((sx (zN zs) (dgs n (wdr n q)) : Nat) : Int)) := Lib.hid (by unfold doV; rw [Int.toNat_natCast]; rfl)
  have HZ := Lib.hid (dl_wo hdl)
  have HA := Lib.hid h
  have hK32 := (dpK_pos (show 0 < n by omega) q).2
  generalize doV zs n (q : Int) = V at HV ⊢
  generalize dpK n q = K at HKL HDR hK32
  generalize dpL n q = L at HKL HDR
  generalize dgs n (wdr n q) = l at HKL HV
  clear hok hsq hb h hdl
  go_enter Tryd.func18, Tryd.ntmps18
  go_wp2_with (first | (go_at_call 47; (with_reducible refine HBK.out.mono ?_); rintro e w' ⟨rfl, hw⟩; subst hw) | (go_at_call 40; (with_reducible refine (HSE.out _).mono ?_); rintro e w' ⟨rfl, hw⟩; subst hw) | (go_at_call 41; (with_reducible refine HDR.out.mono ?_); rintro e w2 ⟨g, cp, rfl, hnw⟩; have HN := Lib.hid hnw; clear hnw) | fail)
  go_loopw [7, 23] (fun ov iv w' => ∃ (i : Nat), i ≤ K ∧ ov = .int .i64 ((sx (zN zs) (l.take i) : Nat) : Int) ∧ iv = .int .i64 (i : Int) ∧ w2 = w') (fun _ iv _ => K - (intOf iv).toNat)
  case atStart => exact ⟨0, by omega, by rw [List.take_zero]; rfl, rfl, rfl⟩
  case round =>
    obtain ⟨i, hik, rfl, rfl, hw⟩ := hrel
    subst hw
    by_cases hlt : i < K
    · have hll : i < l.length := by have := HKL.out.1; omega
      have hck : w2.cell? ⟨g, i, none⟩ = some (.int .i64 (L.getD i 0)) := (HN.out.2.2.1.2 i hlt).1
      rw [HKL.out.2, ints_get l hll] at hck
      have hj := (l[i]'hll).isLt
      have HS1 := Lib.hid (take_sx (zN zs) l hll)
      generalize (l[i]'hll).val = j at hck hj HS1
      have hA2 := HA.out.below (HN.out.2.2.2)
      obtain ⟨b1, o1, rfl, _, hcj⟩ := hA2.cell' hj
      obtain ⟨hzk, hzl⟩ := zN_at HZ.out hj
      rw [hzk] at hcj
      have hsl := sx_lt (z := zN zs) (fun j hj => (zN_at HZ.out hj).2) (l.take i)
      have hx := b_xor (sx (zN zs) (l.take i)) (zN zs j) (by omega) (by omega)
      clear hzk hA2
      generalize sx (zN zs) (l.take i) = s1 at HS1 hsl hx ⊢
      generalize zN zs j = z1 at HS1 hzl hx hcj
      go_wp2
      exact ⟨⟨i + 1, by omega, by rw [HS1.out], by first | rfl | go_num | (congr 1), by first | rfl | trivial⟩, by show K - ((i : Int) + 1).toNat < K - (i : Int).toNat; omega⟩
    · obtain rfl : i = K := by omega
      have HT : Hid (l.take i = l) := Lib.hid (List.take_of_length_le (by have := HKL.out.1; omega))
      go_wp2
      go_ret2
      exact ⟨by rw [HT.out, HV.out]; rfl, HN.out.2.2.2⟩
theorem dlB_true {zs : List Int} {n : Nat} (h : dlP zs 256 n) (hn : n ≤ 32) : dlB zs n 256 = true := by unfold dlB; rw [decide_eq_true h, decide_eq_true (show n ≤ 512 by omega)]; rfl
theorem dlB_false {zs : List Int} {n : Nat} (h : ¬ dlP zs 256 n) : dlB zs n 256 = false := by unfold dlB; rw [decide_eq_false h]; rfl
theorem nn_dec {n : Nat} (h : ¬ (1 ≤ n ∧ n ≤ 32)) : decide (1 ≤ (n : Int) ∧ (n : Int) ≤ 32) = false := decide_eq_false (by omega)
theorem nn_dec2 {n : Nat} (h : 1 ≤ n ∧ n ≤ 32) : decide (1 ≤ (n : Int) ∧ (n : Int) ≤ 32) = true := decide_eq_true (by omega)
set_option maxRecDepth 100000 in
set_option maxHeartbeats 4000000 in
theorem doiN (a : Option Addr) (n cap : Nat) (zs : List Int) (s : Int) (w0 w : World) (hp : Db w0) (hb0 : Below w0.heap.size w0 w) (h : IRow w a n zs) (hn : n ≤ 1048576) (hok : doB zs n s = false) : Calls Tryd.prog 19 #[.slice a n cap, .int .i64 s] w fun e w' => e = .returned (.tuple #[.int .i64 0, .bool false]) ∧ Below w.heap.size w w' := by
  rcases doB_no hok with h1 | ⟨h1, h2⟩ | ⟨h1, h2, h3⟩
  · have HI : Hid (∀ w3 : World, Calls Tryd.prog 42 #[.int .i64 (n : Int)] w3 fun e w' => e = .returned (.bool false) ∧ w3 = w') := Lib.hid (fun w3 => by have := isd_impl (n : Int) w3; rw [nn_dec h1] at this; exact this)
    clear h1 hok h
    go_enter Tryd.func19, Tryd.ntmps19
    go_wp2_with (first | (go_at_call 42; (with_reducible refine (HI.out _).mono ?_); rintro e w' ⟨rfl, hw⟩; subst hw) | fail)
    go_ret2
    exact ⟨rfl, Below.refl _ _⟩
  · have HI : Hid (∀ w3 : World, Calls Tryd.prog 42 #[.int .i64 (n : Int)] w3 fun e w' => e = .returned (.bool true) ∧ w3 = w') := Lib.hid (fun w3 => by have := isd_impl (n : Int) w3; rw [nn_dec2 h1] at this; exact this)
    have HAL : Hid (Calls Tryd.prog 48 #[.slice a n cap, .int .i64 256] w fun e w' => e = .returned (.bool false) ∧ w = w') := Lib.hid (by have := dal_impl a n cap zs 256 w h hn; rw [dlB_false h2] at this; exact this)
    clear h1 h2 hok h
    go_enter Tryd.func19, Tryd.ntmps19
    go_wp2_with (first | (go_at_call 42; (with_reducible refine (HI.out _).mono ?_); rintro e w' ⟨rfl, hw⟩; subst hw) | (go_at_call 48; (with_reducible refine HAL.out.mono ?_); rintro e w' ⟨rfl, hw⟩; subst hw) | fail)
    go_ret2
    exact ⟨rfl, Below.refl _ _⟩
  · have HI : Hid (∀ w3 : World, Calls Tryd.prog 42 #[.int .i64 (n : Int)] w3 fun e w' => e = .returned (.bool true) ∧ w3 = w') := Lib.hid (fun w3 => by have := isd_impl (n : Int) w3; rw [nn_dec2 h1] at this; exact this)
    have HAL : Hid (Calls Tryd.prog 48 #[.slice a n cap, .int .i64 256] w fun e w' => e = .returned (.bool true) ∧ w = w') := Lib.hid (by have := dal_impl a n cap zs 256 w h hn; rw [dlB_true h2 h1.2] at this; exact this)
    have HSE : Hid (∀ w3 : World, Calls Tryd.prog 43 #[.int .i64 s] w3 fun e w' => e = .returned (.bool false) ∧ w3 = w') := Lib.hid (fun w3 => by have := seed_impl s w3; rw [h3] at this; exact this)
    clear h1 h2 h3 hok h
    go_enter Tryd.func19, Tryd.ntmps19
    go_wp2_with (first | (go_at_call 42; (with_reducible refine (HI.out _).mono ?_); rintro e w' ⟨rfl, hw⟩; subst hw) | (go_at_call 48; (with_reducible refine HAL.out.mono ?_); rintro e w' ⟨rfl, hw⟩; subst hw) | (go_at_call 43; (with_reducible refine (HSE.out _).mono ?_); rintro e w' ⟨rfl, hw⟩; subst hw) | fail)
    go_ret2
    exact ⟨rfl, Below.refl _ _⟩
set_option maxRecDepth 100000 in
set_option maxHeartbeats 4000000 in
theorem doiY (a : Option Addr) (n cap : Nat) (zs : List Int) (s : Int) (w0 w : World) (hp : Db w0) (hb0 : Below w0.heap.size w0 w) (h : IRow w a n zs) (hn : n ≤ 1048576) (hok : doB zs n s = true) : Calls Tryd.prog 19 #[.slice a n cap, .int .i64 s] w fun e w' => e = .returned (.tuple #[.int .i64 (doV zs n s), .bool true]) ∧ Below w.heap.size w w' := by
  obtain ⟨h1, hdl, q, rfl, hq⟩ := doB_yes hok
  have hsq : seB (q : Int) = true := decide_eq_true (by omega)
  obtain ⟨b1, o1, rfl⟩ := dirow_some h h1.1
  have HOA := Lib.hid (oa_impl b1 o1 n cap zs (wdr n q) w0 w hp hb0 h h1.2 (dl_wo hdl) (wdr_lt (by omega) q))
  have HW := Lib.hid (wod_impl n q w h1 hq)
  have HV : Hid (doV zs n (q : Int) = ((ew (zN zs) n (wdr n q) : Nat) : Int)) := Lib.hid (by unfold doV; rw [Int.toNat_natCast])
  have HI : Hid (∀ w3 : World, Calls Tryd.prog 42 #[.int .i64 (n : Int)] w3 fun e w' => e = .returned (.bool true) ∧ w3 = w') := Lib.hid (fun w3 => by have := isd_impl (n : Int) w3; rw [nn_dec2 h1] at this; exact this)
  have HAL : Hid (Calls Tryd.prog 48 #[.slice (some ⟨b1, o1, none⟩) n cap, .int .i64 256] w fun e w' => e = .returned (.bool true) ∧ w = w') := Lib.hid (by have := dal_impl (some ⟨b1, o1, none⟩) n cap zs 256 w h hn; rw [dlB_true hdl h1.2] at this; exact this)
  have HSE : Hid (∀ w3 : World, Calls Tryd.prog 43 #[.int .i64 (q : Int)] w3 fun e w' => e = .returned (.bool true) ∧ w3 = w') := Lib.hid (fun w3 => by have := seed_impl (q : Int) w3; rw [hsq] at this; exact this)
  generalize doV zs n (q : Int) = V at HV ⊢
  generalize ew (zN zs) n (wdr n q) = U at HV HOA
  obtain rfl := HV.out
  generalize wdr n q = W at HW HOA
  clear hok hsq hdl h
  go_enter Tryd.func19, Tryd.ntmps19
  go_wp2_with (first | (go_at_call 42; (with_reducible refine (HI.out _).mono ?_); rintro e w' ⟨rfl, hw⟩; subst hw) | (go_at_call 48; (with_reducible refine HAL.out.mono ?_); rintro e w' ⟨rfl, hw⟩; subst hw) | (go_at_call 43; (with_reducible refine (HSE.out _).mono ?_); rintro e w' ⟨rfl, hw⟩; subst hw) | (go_at_call 46; (with_reducible refine HW.out.mono ?_); rintro e w' ⟨rfl, hw⟩; subst hw) | (go_at_call 49; (with_reducible refine HOA.out.mono ?_); rintro e w2 ⟨rfl, hb⟩; have HB := Lib.hid hb; clear hb) | fail)
  go_ret2
  exact ⟨rfl, HB.out⟩
end Go.Proofs.YtnljabgkaelplaaDoor
