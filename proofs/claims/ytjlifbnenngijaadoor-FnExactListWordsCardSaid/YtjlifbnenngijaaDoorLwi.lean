
/- The near words of a code: the program. -/
import Derived.Test.YtjlifbnenngijaaDoorLws
import Derived.Test.YtjlifbnenngijaaDoorShf
import Derived.Test.YtjlifbnenngijaaDoorDbi
import Derived.Maps.AppendAt
import Derived.Lib.OwnBridge
import Derived.Lib.AppendIntMem
set_option linter.unusedVariables false
namespace Go.Proofs.YtjlifbnenngijaaDoor
open Go.Proofs.YtjlifbnenngijaaDoor.Flo Go.RowKit Go.Shelf Go.Sort Go.Proofs.YtjlifbnenngijaaDoor.Pr
attribute [local go_sem] Oper.semAt_some

theorem grownBy_grow (W : World) (os : Array Obj) : W.grownBy (grow W os) none := ⟨rfl, rfl, rfl, by show W.heap.size ≤ (W.heap ++ os).size; rw [Array.size_append]; omega, fun k hk _ => Array.getElem?_append_left hk⟩
theorem sort_heap {W : World} {b k D : Nat} {d : Array Int} {os : Array Obj} (hD : D < W.heap.size) (hne : b ≠ D) : (grow (putRow (Value.int .i64) (Sort.ahead W k) b 0 d) os).heap[D]? = W.heap[D]? := by
  have h1 : (putRow (Value.int .i64) (Sort.ahead W k) b 0 d).heap[D]? = W.heap[D]? := by simp [putRow, mapBlock, Sort.ahead, Array.getElem?_modify, hne]
  have h2 : (putRow (Value.int .i64) (Sort.ahead W k) b 0 d).heap.size = W.heap.size := by simp [putRow, mapBlock, Sort.ahead]
  exact (Array.getElem?_append_left (by rw [h2]; exact hD)).trans h1
theorem app_kept {W w1 : World} {o : Obj} {row : Option Nat} {g B n0 : Nat} (u : Value) (hg : (W.alloc o).grownBy w1 row) (hrow : ∀ j, row = some j → n0 ≤ j) (hB : B < n0) (hn : n0 ≤ W.heap.size) (hBg : B ≠ g) : (w1.setCell ⟨g, 0, none⟩ u).heap[B]? = W.heap[B]? :=
  (Below.heap_setCell _ _ _ B (fun e => hBg e)).trans ((hg.block B (by simp; omega) (fun e => by have := hrow B e.symm; omega)).trans (Below.heap_alloc W o B (by omega)))
set_option maxRecDepth 100000 in
set_option maxHeartbeats 4000000 in
theorem lw_implA (r : Int) (a : Option Addr) (n cap : Nat) (zs : List Int) (x far : Int) (w0 w : World) (hp : Db w0) (hb0 : Below w0.heap.size w0 w) (h : IRow w a n zs) (hn : n ≤ 1048576) (hok : paB r zs n = false) :
    Calls Tryd.prog 26 #[.agg #[.int .i64 r, .slice a n cap], .int .i64 x, .int .i64 far] w fun e w' => e = .returned (.tuple #[.slice none 0 0, .bool false]) ∧ Below w.heap.size w w' := by
  have HIS := Lib.hid (fun (w3 : World) (h3 : IRow w3 a n zs) => by have := vp_impl r a n cap zs w3 h3 hn; rw [hok] at this; exact this)
  have HA := Lib.hid (((h.alloc (.cells #[.int .i64 r, .slice a n cap] 24)).alloc (.cells #[.int .i64 x] 2)).alloc (.cells #[.int .i64 far] 2))
  have HC := Lib.hid (((Kin.new (w := w) (x := .int .i64 r) (y := .slice a n cap) (T := 24)).below (below_alloc _ (.cells #[.int .i64 x] 2))).below (below_alloc _ (.cells #[.int .i64 far] 2)))
  clear h hok
  refine (callsIn_wide (n := 6)).1 ?_
  have hFW : ∀ f, Fence.wide.fn f := fun _ => trivial
  have hFD : Fence.wide.depth.isSome = false := rfl
  refine callsIn_of_wp_marks Tryd.func26 rfl trivial ?_ rfl
  simp only [Tryd.ntmps26, List.size_toArray, List.length_cons, List.length_nil, Nat.reduceAdd, Nat.reduceSub, Array.replicate_succ, Array.replicate_zero, List.push_toArray, List.append_toArray, List.nil_append, List.cons_append]
  gi_wp2_with fail
  have bX := (Boxed.new (w.alloc (.cells #[.int .i64 r, .slice a n cap] 24)) 2 (.int .i64 x)).alloc (.cells #[.int .i64 far] 2)
  have bF := Boxed.new ((w.alloc (.cells #[.int .i64 r, .slice a n cap] 24)).alloc (.cells #[.int .i64 x] 2)) 2 (.int .i64 far)
  have hB0 : Below w.heap.size w (((w.alloc (.cells #[.int .i64 r, .slice a n cap] 24)).alloc (.cells #[.int .i64 x] 2)).alloc (.cells #[.int .i64 far] 2)) := (((Below.refl _ w).alloc (Nat.le_refl _) _).alloc (by simp) _).alloc (by simp; omega) _
  simp only [World.size_alloc] at bX bF
  refine (callsIn_wide.2 (HIS.out _ HA.out)).mono ?_
  rintro e w2 ⟨rfl, hb⟩
  have bX2 := boxed_below bX hb
  have bF2 := boxed_below bF hb
  have HB := Lib.hid (Below.next hB0 hb)
  have HA2 := Lib.hid (HA.out.below hb)
  have HK2 := Lib.hid (HC.out.below hb)
  have hk0 := HK2.out.2.1
  have hk1 := HK2.out.2.2.1
  have hs2 : w.heap.size + 1 + 1 + 1 ≤ w2.heap.size := by have := hb.size; simpa using this
  have hs3 : w.heap.size < w2.heap.size := by omega
  have cX := bX2.cell
  have cF := bF2.cell
  clear bX bF hB0 hb HA HC HIS
  gi_wp2
  exact ⟨.tuple #[.slice none 0 0, .bool false], by simp [results, Tryd.f26, go_sem], rfl, HB.out⟩
set_option maxRecDepth 100000 in
set_option maxHeartbeats 4000000 in
theorem lw_implN (r : Int) (a : Option Addr) (n cap : Nat) (zs : List Int) (x far : Int) (w0 w : World) (hp : Db w0) (hb0 : Below w0.heap.size w0 w) (h : IRow w a n zs) (hn : n ≤ 1048576) (hok : paB r zs n = true) (hwb : woB x r.toNat = false) :
    Calls Tryd.prog 26 #[.agg #[.int .i64 r, .slice a n cap], .int .i64 x, .int .i64 far] w fun e w' => e = .returned (.tuple #[.slice none 0 0, .bool false]) ∧ Below w.heap.size w w' := by
  obtain ⟨m, rfl⟩ : ∃ m : Nat, r = (m : Int) := ⟨r.toNat, by have := (pa_out hok).1; omega⟩
  have hm16 : m ≤ 16 := by have := (pa_out hok).1.2; omega
  rw [Int.toNat_natCast] at hwb
  have HWO : Hid (∀ w2 : World, Calls Tryd.prog 53 #[.int .i64 x, .int .i64 (m : Int)] w2 fun e w' => e = .returned (.bool false) ∧ w2 = w') := Lib.hid (fun w2 => by have := word_impl x m w2 hm16; rw [hwb] at this; exact this)
  have HIS := Lib.hid (fun (w3 : World) (h3 : IRow w3 a n zs) => by have := vp_impl (m : Int) a n cap zs w3 h3 hn; rw [hok] at this; exact this)
  have HA := Lib.hid (((h.alloc (.cells #[.int .i64 (m : Int), .slice a n cap] 24)).alloc (.cells #[.int .i64 x] 2)).alloc (.cells #[.int .i64 far] 2))
  have HC := Lib.hid (((Kin.new (w := w) (x := .int .i64 (m : Int)) (y := .slice a n cap) (T := 24)).below (below_alloc _ (.cells #[.int .i64 x] 2))).below (below_alloc _ (.cells #[.int .i64 far] 2)))
  clear h hok hwb
  refine (callsIn_wide (n := 6)).1 ?_
  have hFW : ∀ f, Fence.wide.fn f := fun _ => trivial
  have hFD : Fence.wide.depth.isSome = false := rfl
  refine callsIn_of_wp_marks Tryd.func26 rfl trivial ?_ rfl
  simp only [Tryd.ntmps26, List.size_toArray, List.length_cons, List.length_nil, Nat.reduceAdd, Nat.reduceSub, Array.replicate_succ, Array.replicate_zero, List.push_toArray, List.append_toArray, List.nil_append, List.cons_append]
  gi_wp2_with fail
  have bX := (Boxed.new (w.alloc (.cells #[.int .i64 (m : Int), .slice a n cap] 24)) 2 (.int .i64 x)).alloc (.cells #[.int .i64 far] 2)
  have bF := Boxed.new ((w.alloc (.cells #[.int .i64 (m : Int), .slice a n cap] 24)).alloc (.cells #[.int .i64 x] 2)) 2 (.int .i64 far)
  have hB0 : Below w.heap.size w (((w.alloc (.cells #[.int .i64 (m : Int), .slice a n cap] 24)).alloc (.cells #[.int .i64 x] 2)).alloc (.cells #[.int .i64 far] 2)) := (((Below.refl _ w).alloc (Nat.le_refl _) _).alloc (by simp) _).alloc (by simp; omega) _
  simp only [World.size_alloc] at bX bF
  refine (callsIn_wide.2 (HIS.out _ HA.out)).mono ?_
  rintro e w2 ⟨rfl, hb⟩
  have bX2 := boxed_below bX hb
  have bF2 := boxed_below bF hb
  have HB := Lib.hid (Below.next hB0 hb)
  have HA2 := Lib.hid (HA.out.below hb)
  have HK2 := Lib.hid (HC.out.below hb)
  have hk0 := HK2.out.2.1
  have hk1 := HK2.out.2.2.1
  have hs2 : w.heap.size + 1 + 1 + 1 ≤ w2.heap.size := by have := hb.size; simpa using this
  have hs3 : w.heap.size < w2.heap.size := by omega
  have cX := bX2.cell
  have cF := bF2.cell
  clear bX bF hB0 hb HA HC HIS
  gi_wp2_with (first | (gi_at_call 53; (with_reducible refine (callsIn_wide.2 (HWO.out _)).mono ?_); rintro e w' ⟨rfl, hw⟩; subst hw) | fail)
  exact ⟨.tuple #[.slice none 0 0, .bool false], by simp [results, Tryd.f26, go_sem], rfl, HB.out⟩
set_option maxRecDepth 100000 in
set_option maxHeartbeats 4000000 in
theorem lw_implF (r : Int) (a : Option Addr) (n cap : Nat) (zs : List Int) (x far : Int) (w0 w : World) (hp : Db w0) (hb0 : Below w0.heap.size w0 w) (h : IRow w a n zs) (hn : n ≤ 1048576) (hok : paB r zs n = true) (hwb : woB x r.toNat = true) (hf : ¬ (0 ≤ far ∧ far ≤ 16)) :
    Calls Tryd.prog 26 #[.agg #[.int .i64 r, .slice a n cap], .int .i64 x, .int .i64 far] w fun e w' => e = .returned (.tuple #[.slice none 0 0, .bool false]) ∧ Below w.heap.size w w' := by
  obtain ⟨m, rfl⟩ : ∃ m : Nat, r = (m : Int) := ⟨r.toNat, by have := (pa_out hok).1; omega⟩
  have hm16 : m ≤ 16 := by have := (pa_out hok).1.2; omega
  rw [Int.toNat_natCast] at hwb
  have HWO : Hid (∀ w2 : World, Calls Tryd.prog 53 #[.int .i64 x, .int .i64 (m : Int)] w2 fun e w' => e = .returned (.bool true) ∧ w2 = w') := Lib.hid (fun w2 => by have := word_impl x m w2 hm16; rw [hwb] at this; exact this)
  have HIS := Lib.hid (fun (w3 : World) (h3 : IRow w3 a n zs) => by have := vp_impl (m : Int) a n cap zs w3 h3 hn; rw [hok] at this; exact this)
  have HA := Lib.hid (((h.alloc (.cells #[.int .i64 (m : Int), .slice a n cap] 24)).alloc (.cells #[.int .i64 x] 2)).alloc (.cells #[.int .i64 far] 2))
  have HC := Lib.hid (((Kin.new (w := w) (x := .int .i64 (m : Int)) (y := .slice a n cap) (T := 24)).below (below_alloc _ (.cells #[.int .i64 x] 2))).below (below_alloc _ (.cells #[.int .i64 far] 2)))
  clear h hok hwb
  refine (callsIn_wide (n := 6)).1 ?_
  have hFW : ∀ f, Fence.wide.fn f := fun _ => trivial
  have hFD : Fence.wide.depth.isSome = false := rfl
  refine callsIn_of_wp_marks Tryd.func26 rfl trivial ?_ rfl
  simp only [Tryd.ntmps26, List.size_toArray, List.length_cons, List.length_nil, Nat.reduceAdd, Nat.reduceSub, Array.replicate_succ, Array.replicate_zero, List.push_toArray, List.append_toArray, List.nil_append, List.cons_append]
  gi_wp2_with fail
  have bX := (Boxed.new (w.alloc (.cells #[.int .i64 (m : Int), .slice a n cap] 24)) 2 (.int .i64 x)).alloc (.cells #[.int .i64 far] 2)
  have bF := Boxed.new ((w.alloc (.cells #[.int .i64 (m : Int), .slice a n cap] 24)).alloc (.cells #[.int .i64 x] 2)) 2 (.int .i64 far)
  have hB0 : Below w.heap.size w (((w.alloc (.cells #[.int .i64 (m : Int), .slice a n cap] 24)).alloc (.cells #[.int .i64 x] 2)).alloc (.cells #[.int .i64 far] 2)) := (((Below.refl _ w).alloc (Nat.le_refl _) _).alloc (by simp) _).alloc (by simp; omega) _
  simp only [World.size_alloc] at bX bF
  refine (callsIn_wide.2 (HIS.out _ HA.out)).mono ?_
  rintro e w2 ⟨rfl, hb⟩
  have bX2 := boxed_below bX hb
  have bF2 := boxed_below bF hb
  have HB := Lib.hid (Below.next hB0 hb)
  have HA2 := Lib.hid (HA.out.below hb)
  have HK2 := Lib.hid (HC.out.below hb)
  have hk0 := HK2.out.2.1
  have hk1 := HK2.out.2.2.1
  have hs2 : w.heap.size + 1 + 1 + 1 ≤ w2.heap.size := by have := hb.size; simpa using this
  have hs3 : w.heap.size < w2.heap.size := by omega
  have cX := bX2.cell
  have cF := bF2.cell
  clear bX bF hB0 hb HA HC HIS
  by_cases hf0 : far < 0
  · have hd1 : decide (far < 0) = true := decide_eq_true hf0
    clear hf
    gi_wp2_with (first | (gi_at_call 53; (with_reducible refine (callsIn_wide.2 (HWO.out _)).mono ?_); rintro e w' ⟨rfl, hw⟩; subst hw) | fail)
    exact ⟨.tuple #[.slice none 0 0, .bool false], by simp [results, Tryd.f26, go_sem], rfl, HB.out⟩
  · have hd1 : decide (far < 0) = false := decide_eq_false hf0
    have hd2 : decide (16 < far) = true := decide_eq_true (by omega)
    clear hf
    gi_wp2_with (first | (gi_at_call 53; (with_reducible refine (callsIn_wide.2 (HWO.out _)).mono ?_); rintro e w' ⟨rfl, hw⟩; subst hw) | fail)
    exact ⟨.tuple #[.slice none 0 0, .bool false], by simp [results, Tryd.f26, go_sem], rfl, HB.out⟩
set_option maxRecDepth 100000 in
set_option maxHeartbeats 4000000 in
theorem lw_implY (r : Int) (b1 o1 : Nat) (n cap : Nat) (zs : List Int) (x far : Int) (w0 w : World) (hp : Db w0) (hb0 : Below w0.heap.size w0 w) (h : IRow w (some ⟨b1, o1, none⟩) n zs) (hn : n ≤ 1048576) (hok : paB r zs n = true) (hwb : woB x r.toNat = true) (hf : 0 ≤ far ∧ far ≤ 16) :
    Calls Tryd.prog 26 #[.agg #[.int .i64 r, .slice (some ⟨b1, o1, none⟩) n cap], .int .i64 x, .int .i64 far] w (LwYes (lwK zs n x far) (lwL zs n x far) w) := by
  unfold LwYes
  obtain ⟨i0, hi, hz0, hz1, hz2⟩ := info_parts Tryd.info64
  obtain ⟨⟨hr1, hr2⟩, ⟨hn1, hn8⟩, hwz, _⟩ := pa_out hok
  obtain ⟨m, rfl⟩ : ∃ m : Nat, r = (m : Int) := ⟨r.toNat, by have := (pa_out hok).1; omega⟩
  have hm16 : m ≤ 16 := by have := (pa_out hok).1.2; omega
  rw [Int.toNat_natCast] at hwb
  rw [Int.toNat_natCast] at hwz
  have hbw := (irow_at h hn1).1
  have HWO : Hid (∀ w2 : World, Calls Tryd.prog 53 #[.int .i64 x, .int .i64 (m : Int)] w2 fun e w' => e = .returned (.bool true) ∧ w2 = w') := Lib.hid (fun w2 => by have := word_impl x m w2 hm16; rw [hwb] at this; exact this)
  obtain ⟨y, rfl, hy, hy16⟩ := wo_out hwb hm16
  obtain ⟨f, rfl⟩ : ∃ f : Nat, far = (f : Int) := ⟨far.toNat, by omega⟩
  have hd1 : decide ((f : Int) < 0) = false := decide_eq_false (by omega)
  have hd2 : decide (16 < (f : Int)) = false := decide_eq_false (by omega)
  obtain ⟨N, hN⟩ : ∃ N, 2 ^ n = N := ⟨_, rfl⟩
  have hp8 : 2 ^ n ≤ 2 ^ 8 := Nat.pow_le_pow_right (by decide) hn8
  have hN8 : N ≤ 256 := by omega
  have HN := Lib.hid hN
  have HB00 := Lib.hid hb0
  have HZ := Lib.hid (woP_wide hwz hm16)
  have HE16 := Lib.hid (fun y => (ew_lt (z := zN zs) (n := n) (m := 16) (fun i hi => (zN_at HZ.out hi).2) y))
  have HY16 := Lib.hid hy16
  have HL : Hid (lwL zs n (y : Int) (f : Int) = srt (nf (zN zs) n y f N)) := Lib.hid (by rw [← hN]; rfl)
  have HLK : Hid (lwK zs n (y : Int) (f : Int) = (lwL zs n (y : Int) (f : Int)).length) := Lib.hid rfl
  generalize lwK zs n (y : Int) (f : Int) = K at HLK ⊢
  generalize lwL zs n (y : Int) (f : Int) = LL at HL HLK ⊢
  have HIS := Lib.hid (fun (w3 : World) (h3 : IRow w3 (some ⟨b1, o1, none⟩) n zs) => by have := vp_impl (m : Int) (some ⟨b1, o1, none⟩) n cap zs w3 h3 hn; rw [hok] at this; exact this)
  have HA := Lib.hid (((h.alloc (.cells #[.int .i64 (m : Int), .slice (some ⟨b1, o1, none⟩) n cap] 24)).alloc (.cells #[.int .i64 (y : Int)] 2)).alloc (.cells #[.int .i64 (f : Int)] 2))
  have HC := Lib.hid (((Kin.new (w := w) (x := .int .i64 (m : Int)) (y := .slice (some ⟨b1, o1, none⟩) n cap) (T := 24)).below (below_alloc _ (.cells #[.int .i64 (y : Int)] 2))).below (below_alloc _ (.cells #[.int .i64 (f : Int)] 2)))
  clear h hok hwb hwz hN hp8 hb0 hf hy hy16
  refine (callsIn_wide (n := 6)).1 ?_
  have hFW : ∀ f, Fence.wide.fn f := fun _ => trivial
  have hFD : Fence.wide.depth.isSome = false := rfl
  refine callsIn_of_wp_marks Tryd.func26 rfl trivial ?_ rfl
  simp only [Tryd.ntmps26, List.size_toArray, List.length_cons, List.length_nil, Nat.reduceAdd, Nat.reduceSub, Array.replicate_succ, Array.replicate_zero, List.push_toArray, List.append_toArray, List.nil_append, List.cons_append]
  gi_wp2_with fail
  have bX := (Boxed.new (w.alloc (.cells #[.int .i64 (m : Int), .slice (some ⟨b1, o1, none⟩) n cap] 24)) 2 (.int .i64 (y : Int))).alloc (.cells #[.int .i64 (f : Int)] 2)
  have bF := Boxed.new ((w.alloc (.cells #[.int .i64 (m : Int), .slice (some ⟨b1, o1, none⟩) n cap] 24)).alloc (.cells #[.int .i64 (y : Int)] 2)) 2 (.int .i64 (f : Int))
  have hB0 : Below w.heap.size w (((w.alloc (.cells #[.int .i64 (m : Int), .slice (some ⟨b1, o1, none⟩) n cap] 24)).alloc (.cells #[.int .i64 (y : Int)] 2)).alloc (.cells #[.int .i64 (f : Int)] 2)) := (((Below.refl _ w).alloc (Nat.le_refl _) _).alloc (by simp) _).alloc (by simp; omega) _
  simp only [World.size_alloc] at bX bF
  refine (callsIn_wide.2 (HIS.out _ HA.out)).mono ?_
  rintro e w2 ⟨rfl, hb⟩
  have bX2 := boxed_below bX hb
  have bF2 := boxed_below bF hb
  have HB := Lib.hid (Below.next hB0 hb)
  have HA2 := Lib.hid (HA.out.below hb)
  have HK2 := Lib.hid (HC.out.below hb)
  have hk0 := HK2.out.2.1
  have hk1 := HK2.out.2.2.1
  have hs2 : w.heap.size + 1 + 1 + 1 ≤ w2.heap.size := by have := hb.size; simpa using this
  have hs3 : w.heap.size < w2.heap.size := by omega
  have cX := bX2.cell
  have cF := bF2.cell
  clear bX bF hB0 hb HA HC HIS
  gi_wp2_with (first | (gi_at_call 53; (with_reducible refine (callsIn_wide.2 (HWO.out _)).mono ?_); rintro e w' ⟨rfl, hw⟩; subst hw) | (gi_at_call 57; (with_reducible refine (callsIn_wide.2 (wc_impl2 (m : Int) _ n cap _)).mono ?_); rintro e w' ⟨rfl, rfl⟩) | fail)
  have bO3 := (Boxed.new w2 22 (.slice none 0 0)).alloc (.cells #[.int .i64 (m : Int), .slice (some ⟨b1, o1, none⟩) n cap] 24)
  have bX3 := (bX2.alloc (.cells #[.slice none 0 0] 22)).alloc (.cells #[.int .i64 (m : Int), .slice (some ⟨b1, o1, none⟩) n cap] 24)
  have bF3 := (bF2.alloc (.cells #[.slice none 0 0] 22)).alloc (.cells #[.int .i64 (m : Int), .slice (some ⟨b1, o1, none⟩) n cap] 24)
  have hc3 : (((w2.alloc (.cells #[.slice none 0 0] 22)).alloc (.cells #[.int .i64 (m : Int), .slice (some ⟨b1, o1, none⟩) n cap] 24))).cell? ⟨w2.heap.size + 1, 1, none⟩ = some (.slice (some ⟨b1, o1, none⟩) n cap) := by
    simp
  have hB3 : Below w.heap.size w (((w2.alloc (.cells #[.slice none 0 0] 22)).alloc (.cells #[.int .i64 (m : Int), .slice (some ⟨b1, o1, none⟩) n cap] 24))) := Below.next (Below.next HB.out (below_alloc _ _)) (below_alloc _ _)
  have HA3 := Lib.hid ((HA2.out.alloc (.cells #[.slice none 0 0] 22)).alloc (.cells #[.int .i64 (m : Int), .slice (some ⟨b1, o1, none⟩) n cap] 24))
  have hsz3 : (((w2.alloc (.cells #[.slice none 0 0] 22)).alloc (.cells #[.int .i64 (m : Int), .slice (some ⟨b1, o1, none⟩) n cap] 24))).heap.size = w2.heap.size + 1 + 1 := by simp
  clear hk0 hk1 HK2 HA2 bX2 bF2 cX cF HB HWO
  generalize (((w2.alloc (.cells #[.slice none 0 0] 22)).alloc (.cells #[.int .i64 (m : Int), .slice (some ⟨b1, o1, none⟩) n cap] 24))) = W0 at bO3 bX3 bF3 hc3 hB3 HA3 hsz3 ⊢
  have hb03 : Below w0.heap.size w0 W0 := HB00.out.trans (hB3.mono HB00.out.size)
  generalize w2.heap.size = g at bO3 hc3 hsz3 hs2 ⊢
  refine wpIn_rangeFunc_ownG rfl (by decide) (gf := 77) (lb := #[.pointer (some ⟨g + 1, 0, none⟩)]) rfl trivial (enters_of Tryd.func77 (by kernel_rfl) rfl)
    (wc_stops 5 (g + 1) w.heap.size b1 o1 n cap N zs w0 W0 hp hb03 HB00.out.size (by omega) (by omega) hc3 HA3.out hbw hn8 HZ.out HN.out) kpB_t (kpB_b (by omega) (by omega)) (Below.refl _ _) (fun _ => rfl)
    (fun pre W => ((((∃ v, Boxed W g 22 v ∧ W.ownsRow (g + 1 + 1) 2 1 v (np (zN zs) n y f pre).length ((np (zN zs) n y f pre).map (Value.int .i64)) ∧ (v = .slice none 0 0 ↔ (np (zN zs) n y f pre) = [])) ∧ Boxed W (w.heap.size + 1) 2 (.int .i64 (y : Int))) ∧ Boxed W (w.heap.size + 1 + 1) 2 (.int .i64 (f : Int))) ∧ g + 1 + 1 ≤ W.heap.size) ∧ Below w.heap.size w W)
    (fun _ _ _ => False)
    (OwnFrom.and (OwnFrom.and (OwnFrom.and (OwnFrom.and (Own.from (holdsRow_own (g + 1 + 1) g 22 2 1 (fun pre => (np (zN zs) n y f pre).length) (fun pre => (np (zN zs) n y f pre).map (Value.int .i64)) (fun pre v => v = .slice none 0 0 ↔ (np (zN zs) n y f pre) = [])) _) (Own.from (boxed_own _ _ _) _)) (Own.from (boxed_own _ _ _) _)) (Own.from (fun s X Y row hs hg _ => Nat.le_trans hs hg.size) _)) (ownFrom_below (Nat.le_refl _) (by omega)))
    (fun _ _ _ _ _ hs _ _ => hs)
    ⟨⟨⟨⟨⟨_, bO3, World.ownsRow_nil _ _ _ _, by simp [np]⟩, bX3⟩, bF3⟩, by omega⟩, hB3⟩
    (fun z => { tmps := #[.agg #[.int .i64 (m : Int), .slice (some ⟨b1, o1, none⟩) n cap], .int .i64 (y : Int), .int .i64 (f : Int), .pointer (some ⟨w.heap.size, 0, none⟩), .pointer (some ⟨w.heap.size + 1, 0, none⟩), .pointer (some ⟨w.heap.size + 1 + 1, 0, none⟩), .slice none 0 0, .bool false, .pointer (some ⟨g, 0, none⟩), undef, .int .i64 (ew (zN zs) n z.val : Int), .agg #[.int .i64 (m : Int), .slice (some ⟨b1, o1, none⟩) n cap], .bool true, .bool false, .bool false, .int .i64 (y : Int), .pointer (some ⟨w.heap.size, 0, none⟩), .int .i64 (m : Int), .bool true, .bool false, .bool false, .bool false, .int .i64 (f : Int), .bool false, .bool false, .bool false, .int .i64 (f : Int), .bool false, .bool false, .agg #[.int .i64 (m : Int), .slice (some ⟨b1, o1, none⟩) n cap], .func (.func 77) #[] #[.pointer (some ⟨g + 1, 0, none⟩)], .int .i64 (z.val : Int), .int .i64 (ew (zN zs) n z.val : Int), undef, undef, undef, undef, undef, undef, undef, undef, undef, undef, undef, undef, undef], defers := [] }) ?assign ?body ?done ?stop
  case assign =>
    intro l z W J hJ
    gi_wp2
    exact hJ
  case body =>
    rintro l pre z W ⟨⟨⟨⟨⟨v, hv, hrow, hnil⟩, bX4⟩, bF4⟩, hW⟩, hB4⟩ hlen
    have hmx : Tryd.prog.follows .mixedOrders = true := by kernel_rfl
    have cO := hv.cell
    have fO := hv.frozen
    have cX := bX4.cell
    have cF := bF4.cell
    have HE := HE16.out z.val
    have hxr := b_xor y (ew (zN zs) n z.val) (by have := HY16.out; omega) (by omega)
    have hxl : y ^^^ ew (zN zs) n z.val < 65536 := Nat.xor_lt_two_pow (n := 16) HY16.out HE
    have HW1 : Hid (∀ n2 (w3 : World), CallsIn Fence.wide n2 Tryd.prog 44 #[.int .i64 ((y ^^^ ew (zN zs) n z.val : Nat) : Int)] w3 fun e w' => e = .returned (.int .i64 (wt (ew (zN zs) n z.val ^^^ y) : Int)) ∧ w3 = w') := Lib.hid (fun n2 w3 => callsIn_wide.2 (by have := wo_impl _ w3 hxl; rw [Nat.xor_comm y] at this ⊢; exact this))
    have HPL := Lib.hid (np_len (z := zN zs) (n := n) (x := y) (f := f) pre)
    have HYES : Hid (wt (ew (zN zs) n z.val ^^^ y) ≤ f → np (zN zs) n y f (pre ++ [z]) = np (zN zs) n y f pre ++ [((ew (zN zs) n z.val : Nat) : Int)]) := Lib.hid (fun e => np_yes pre e)
    have HNO : Hid (¬ wt (ew (zN zs) n z.val ^^^ y) ≤ f → np (zN zs) n y f (pre ++ [z]) = np (zN zs) n y f pre) := Lib.hid (fun e => np_no pre e)
    have hlen2 : (np (zN zs) n y f pre).length ≤ 256 := by have := HPL.out; omega
    generalize np (zN zs) n y f pre = P1 at hrow hnil HYES HNO hlen2
    generalize wt (ew (zN zs) n z.val ^^^ y) = q at HW1 HYES HNO
    generalize y ^^^ ew (zN zs) n z.val = xx at hxr HW1
    generalize ew (zN zs) n z.val = E at hxr HYES HNO HE ⊢
    have HROW : Hid (W.drew.ownsRow (g + 1 + 1) 2 1 v P1.length (P1.map (Value.int .i64))) := Lib.hid hrow
    have HROWA : Hid (((W.alloc (.cells #[.int .i64 (E : Int)] 2)).drew).ownsRow (g + 1 + 1) 2 1 v P1.length (P1.map (Value.int .i64))) := Lib.hid (HROW.out.alloc (.cells #[.int .i64 (E : Int)] 2))
    have HCN : Hid (∀ (j : Nat) (u : Value), [Value.int .i64 (E : Int)][j]? = some u → ((W.alloc (.cells #[.int .i64 (E : Int)] 2)).drew).cell? ((⟨W.heap.size, 0, none⟩ : Addr).add j) = some u) := Lib.hid (cell_one_new _ _ _)
    have HV : Hid (Boxed W.drew g 22 v) := Lib.hid hv
    have HNB := Lib.hid (own_block HROW.out)
    have HNIL := Lib.hid hnil
    clear hrow hnil hxl hlen HPL HE
    by_cases hq : q ≤ f
    · have hd3 : decide ((q : Int) ≤ (f : Int)) = true := decide_eq_true (by omega)
      have hd4 : decide (q ≤ f) = true := decide_eq_true hq
      have HF := Lib.hid (HYES.out hq)
      clear HYES HNO
      gi_wp2
      gi_region_with_o (gi_at_call 44; (with_reducible refine (CallsIn.inRound l (HW1.out _ _)).mono ?_); rintro e w' ⟨rfl, hw⟩; subst hw)
      all_goals (gi_wp2_with (first | (gi_at_builtin; refine wpListIn_append_own _ rfl _ _ 22 rfl (g + 1 + 1) 2 i0 (.int .i64 0) 1 8 Tryd.underlying22 hi hz0 hz1 hz2 rfl (by decide) v P1.length (P1.map (Value.int .i64)) rfl HROWA.out ⟨W.heap.size, 0, none⟩ 1 1 [.int .i64 (E : Int)] rfl rfl HCN.out (by simp [Value.oneCell']) (by unfold maxLen; omega) (by omega) (by simp; omega) ?_; intro v' w5 hown' hgrow0 _; have hgrow : (W.drew.alloc (.cells #[.int .i64 (E : Int)] 2)).grownBy w5 v.ownBlock := hgrow0; clear hgrow0; have HO := Lib.hid hown'; have HG := Lib.hid hgrow; obtain ⟨g', cap', rfl⟩ := ownsRow_succ hown'; obtain ⟨hv1, hv2, hr2, hk2, hb2⟩ := HV.out.appended (by decide) (HROW.out.mono (show w.heap.size ≤ g + 1 + 1 by omega)) (by simp; omega) (show w.heap.size ≤ g by omega) (hown'.mono (show w.heap.size ≤ g + 1 + 1 by omega)) hgrow; have hc1 := hv1.cell; have hf1 := hv1.frozen; have HV2 := Lib.hid hv2; have HK5 := Lib.hid hk2; have HB5 := Lib.hid hb2; clear hown' hgrow hv1 hv2 hr2 hk2 hb2) | fail))
      all_goals (try go_bits)
      all_goals exact ⟨((KeepsOthers.drew W).trans HK5.out).from _, ⟨((Below.refl _ W).drew).trans HB5.out, app_kept (W := W.drew) _ HG.out HNB.out (by omega) hW (by omega)⟩, ⟨⟨⟨⟨_, HV2.out, by rw [HF.out]; simpa using HO.out.kept (grownBy_setCell' _ g _) (.inr ((HV2.out.not_row (by decide) (HO.out.kept (grownBy_setCell' _ g _) (.inr (fun e => by have e2 := own_block HO.out g e; omega)))).symm)), by rw [HF.out]; simp⟩, (show Boxed _ _ _ _ from (app_kept (W := W.drew) _ HG.out HNB.out (by omega) hW (by omega)).trans bX4)⟩, (show Boxed _ _ _ _ from (app_kept (W := W.drew) _ HG.out HNB.out (by omega) hW (by omega)).trans bF4)⟩, Nat.le_trans hW HB5.out.size⟩, hB4.drew.trans HB5.out⟩
    · have hd3 : decide ((q : Int) ≤ (f : Int)) = false := decide_eq_false (by omega)
      have hd4 : decide (q ≤ f) = false := decide_eq_false hq
      have hd5 : f < q := by omega
      have HF := Lib.hid (HNO.out hq)
      clear HYES HNO
      gi_wp2
      gi_region_with_o (gi_at_call 44; (with_reducible refine (CallsIn.inRound l (HW1.out _ _)).mono ?_); rintro e w' ⟨rfl, hw⟩; subst hw)
      all_goals gi_wp2
      all_goals (try go_bits)
      all_goals exact ⟨(KeepsOthers.drew W).from _, ⟨(Below.refl _ W).drew, rfl⟩, ⟨⟨⟨⟨v, HV.out, by rw [HF.out]; exact HROW.out, by rw [HF.out]; exact HNIL.out⟩, bX4⟩, bF4⟩, hW⟩, hB4.drew⟩
  case done =>
    rintro D ys W hD rfl ⟨⟨⟨⟨⟨v, hv, hrow, hnil⟩, bX4⟩, bF4⟩, hW⟩, hB4⟩ hK
    have hnp : np (zN zs) n y f (upF N N) = nf (zN zs) n y f N := np_up _ _ _ _ _ N (Nat.le_refl _)
    rw [hnp] at hrow hnil
    have hll := nf_len (zN zs) n y f N
    generalize nf (zN zs) n y f N = L at hrow hnil hll HL
    have hc := hv.cell
    have hDlt : D < W.heap.size := (Array.getElem?_eq_some_iff.1 hK).1
    clear hnp
    by_cases hL0 : L = []
    · obtain rfl := hnil.2 hL0
      subst hL0
      have hKL : K = 0 := by rw [HLK.out, HL.out, srt_nil]; rfl
      have hLL : LL = [] := by rw [HL.out, srt_nil]
      subst hKL hLL
      clear HL HLK
      gi_wp2_with (first | (gi_at_call 60; (with_reducible refine (callsIn_wide.2 (Tryd.slices_Sort_int_none _ _ _)).mono ?_); rintro e w' ⟨rfl, hw⟩; have hw := hw.symm; subst hw) | fail)
      refine ⟨by simp, .inl ⟨_, _, rfl, run_takeDeferred hK, ?_⟩⟩
      exact ⟨.tuple #[.slice none 0 0, .bool true], by simp [results, Tryd.f26, go_sem], _, rfl, World.ownsRow_nil _ _ _ _, hB4.trans (belowK_b (w := w) (Nat.le_refl _) W D _ _ (by omega) hK rfl rfl)⟩
    · obtain ⟨b, cap5, rfl, hb, hblt, hncap, hcapm, hll2, hH⟩ := Lib.holds_of_ownsRow hrow (fun e => hL0 (hnil.1 e))
      have hbD : b ≠ D := by
        rintro rfl
        rcases hrow.2 with ⟨e, _⟩ | ⟨g1, c1, cur, e, _, hgb, _⟩
        · cases e
        · cases e; rw [hgb] at hK; cases hK
      have hbg : b ≠ g := by omega
      have HS : Hid (∀ k5 os5, ∃ w5, w5 = grow (putRow (Value.int .i64) (Sort.ahead W k5) b 0 (srt L).toArray) os5 ∧ Boxed w5 g 22 (.slice (some ⟨b, 0, none⟩) L.length cap5) ∧ w5.heap[D]? = some (.deferred (some [])) ∧ w5.ownsRow (g + 1 + 1) 2 1 (.slice (some ⟨b, 0, none⟩) L.length cap5) L.length ((srt L).map (Value.int .i64)) ∧ Below w.heap.size w w5) := Lib.hid (fun k5 os5 => by
        refine ⟨_, rfl, (show Boxed _ _ _ _ from (sort_heap hv.lt hbg).trans hv), (sort_heap hDlt hbD).trans hK, ?_, ?_⟩
        · have h1 := Lib.ownsRow_putRow (q := k5) (ys := srt L) hrow (srt_len L) (Nat.le_refl _)
          rw [List.take_of_length_le (by rw [srt_len]; exact Nat.le_refl _)] at h1
          exact h1.kept (grownBy_grow _ os5) (.inr (by simp [Value.ownBlock]))
        · exact (Lib.below_putRow (q := k5) (d := (srt L).toArray) hB4 (show w.heap.size ≤ b by omega)).grown (grownBy_grow _ os5) (by simp [putRow, mapBlock, Sort.ahead]; omega) (fun j e => by cases e))
      have hKL : K = L.length := by rw [HLK.out, HL.out, srt_len]
      have hLL : LL = srt L := HL.out
      subst hKL hLL
      have HSO : Hid (Calls Tryd.prog 60 #[.slice (some ⟨b, 0, none⟩) L.length cap5] W fun e w' => e = .returned (.tuple #[]) ∧ ∃ n os, w' = grow (putRow (Value.int .i64) (Sort.ahead W n) b 0 (srt L).toArray) os) := Lib.hid (Tryd.slices_Sort_int b 0 cap5 L W hH hblt (by omega))
      clear HL HLK hH hrow hnil hv bX4 bF4
      gi_wp2_with (first | (gi_at_call 60; (with_reducible refine (callsIn_wide.2 HSO.out).mono ?_); rintro e w5 ⟨rfl, k5, os5, hw5⟩; obtain ⟨w6, hw6, hv6, hD6, hr6, hB6⟩ := HS.out k5 os5; (obtain rfl : w5 = w6 := hw5.trans hw6.symm); have hc6 := hv6.cell; have HD6 := Lib.hid hD6; have HR6 := Lib.hid hr6; have HB6 := Lib.hid hB6; clear hw5 hw6 hD6 hr6 hB6) | fail)
      refine ⟨by simp, .inl ⟨_, _, rfl, run_takeDeferred HD6.out, ?_⟩⟩
      exact ⟨.tuple #[.slice (some ⟨b, 0, none⟩) L.length cap5, .bool true], by simp [results, Tryd.f26, go_sem], _, rfl, ownsRow_putObj (HR6.out.mono (show w.heap.size ≤ g + 1 + 1 by omega)) _ HD6.out rfl, HB6.out.trans (belowK_b (w := w) (Nat.le_refl _) _ D _ _ (by omega) HD6.out rfl rfl)⟩
  case stop =>
    rintro D c pre W _ _ h _
    exact h.elim
end Go.Proofs.YtjlifbnenngijaaDoor
