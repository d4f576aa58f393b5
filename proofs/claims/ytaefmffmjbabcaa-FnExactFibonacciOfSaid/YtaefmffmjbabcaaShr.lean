
/- Shares: the value of a polynomial, as the program reckons it. -/
import Derived.Test.YtaefmffmjbabcaaBkw
import Derived.Test.YtaefmffmjbabcaaPol
import Derived.Deep.MidRow
set_option linter.unusedVariables false
namespace Go.Proofs.Ytaefmffmjbabcaa
open Go.Proofs.Ytaefmffmjbabcaa.Flo Go.RowKit Go.Shelf
attribute [local go_sem] Oper.semAt_some

/-- An array's cells. -/
def a8 (g : Nat → Int) : Array Value := #[.int .i64 (g 0), .int .i64 (g 1), .int .i64 (g 2), .int .i64 (g 3), .int .i64 (g 4), .int .i64 (g 5), .int .i64 (g 6), .int .i64 (g 7)]
/-- The value of terms that have come. -/
def hv (p x : Int) (t : Nat → Int) {N : Nat} (l : List (Fin N)) : Int := l.foldl (fun v m => (v * x + t m.val) % p) 0
theorem hv_snoc (p x : Int) (t : Nat → Int) {N : Nat} (l : List (Fin N)) (m : Fin N) : hv p x t (l ++ [m]) = (hv p x t l * x + t m.val) % p := by unfold hv; rw [List.foldl_append]; rfl
theorem hv_in {p : Int} (hp : 0 < p) (x : Int) (t : Nat → Int) {N : Nat} (l : List (Fin N)) : 0 ≤ hv p x t l ∧ hv p x t l < p := by
  unfold hv
  have : ∀ (l : List (Fin N)) (s : Int), 0 ≤ s → s < p → 0 ≤ l.foldl (fun v m => (v * x + t m.val) % p) s ∧ l.foldl (fun v m => (v * x + t m.val) % p) s < p := by
    intro l
    induction l with
    | nil => intro s h1 h2; exact ⟨h1, h2⟩
    | cons a l ih => intro s _ _; exact ih _ (Int.emod_nonneg _ (by omega)) (Int.emod_lt_of_pos _ hp)
  exact this l 0 (Int.le_refl _) hp
theorem hv_ho (p x : Int) (t : Nat → Int) (N : Nat) : ∀ m, m ≤ N → hv p x t (Bk.dnF N m) = Pol.ho p t x N m
  | 0, _ => rfl
  | m + 1, h => by
    rw [Bk.dnF_succ h, hv_snoc, hv_ho p x t N m (by omega)]
    rfl
theorem a8_row (w : World) (g : Nat → Int) (T : TypeId) : IRow (w.alloc (.cells (a8 g) T)) (some ⟨w.heap.size, 0, none⟩) 8 [g 0, g 1, g 2, g 3, g 4, g 5, g 6, g 7] := by
  refine ⟨rfl, .inr ⟨w.heap.size, 0, rfl, by simp, fun i hi => ?_⟩⟩
  rw [World.cell?_alloc_at _ _ _ _ rfl]
  have h : i = 0 ∨ i = 1 ∨ i = 2 ∨ i = 3 ∨ i = 4 ∨ i = 5 ∨ i = 6 ∨ i = 7 := by omega
  rcases h with rfl | rfl | rfl | rfl | rfl | rfl | rfl | rfl <;> rfl
theorem a8_get (g : Nat → Int) {i : Nat} (hi : i < 8) : [g 0, g 1, g 2, g 3, g 4, g 5, g 6, g 7].getD i 0 = g i := by
  have h : i = 0 ∨ i = 1 ∨ i = 2 ∨ i = 3 ∨ i = 4 ∨ i = 5 ∨ i = 6 ∨ i = 7 := by omega
  rcases h with rfl | rfl | rfl | rfl | rfl | rfl | rfl | rfl <;> rfl
set_option maxRecDepth 100000 in
set_option maxHeartbeats 4000000 in
theorem at_impl (p x : Int) (t : Nat → Int) (w : World) (hp0 : 0 < p) (hp1 : p ≤ 257) (hx0 : 0 ≤ x) (hx1 : x ≤ 257) (ht : ∀ k, k < 8 → 0 ≤ t k ∧ t k < 257) :
    Calls Try.prog 78 #[.agg (a8 t), .int .i64 p, .int .i64 x] w fun e w' => e = .returned (.int .i64 (Pol.ho p t x 8 8)) ∧ Below w.heap.size w w' := by
  refine (callsIn_wide (n := 6)).1 ?_
  have hFW : ∀ f, Fence.wide.fn f := fun _ => trivial
  have hFD : Fence.wide.depth.isSome = false := rfl
  have hmx : Try.prog.follows .mixedOrders = true := by kernel_rfl
  have HT := Lib.hid ht
  clear ht
  refine callsIn_of_wp_marks Try.func78 rfl trivial ?_ rfl
  simp only [Try.ntmps78, List.size_toArray, List.length_cons, List.length_nil, Nat.reduceAdd, Nat.reduceSub, Array.replicate_succ, Array.replicate_zero, List.push_toArray, List.append_toArray, List.nil_append, List.cons_append]
  gi_wp2_with (first | (gi_at_call 100; (with_reducible refine (callsIn_wide.2 (bw_impl _ _ _ _)).mono ?_); rintro e w' ⟨rfl, rfl⟩) | fail)
  have hA := a8_row w t 100
  have hA := (((hA.alloc (.cells #[.int .i64 p] 2)).alloc (.cells #[.int .i64 x] 2)).alloc (.cells #[.int .i64 0] 2)).alloc (.cells #[.slice (some ⟨w.heap.size, 0, none⟩) 8 8] 22)
  have bP := (((Boxed.new (w.alloc (.cells (a8 t) 100)) 2 (.int .i64 p)).alloc (.cells #[.int .i64 x] 2)).alloc (.cells #[.int .i64 0] 2)).alloc (.cells #[.slice (some ⟨w.heap.size, 0, none⟩) 8 8] 22)
  have bX := ((Boxed.new ((w.alloc (.cells (a8 t) 100)).alloc (.cells #[.int .i64 p] 2)) 2 (.int .i64 x)).alloc (.cells #[.int .i64 0] 2)).alloc (.cells #[.slice (some ⟨w.heap.size, 0, none⟩) 8 8] 22)
  have bV := (Boxed.new (((w.alloc (.cells (a8 t) 100)).alloc (.cells #[.int .i64 p] 2)).alloc (.cells #[.int .i64 x] 2)) 2 (.int .i64 0)).alloc (.cells #[.slice (some ⟨w.heap.size, 0, none⟩) 8 8] 22)
  have bB := Boxed.new ((((w.alloc (.cells (a8 t) 100)).alloc (.cells #[.int .i64 p] 2)).alloc (.cells #[.int .i64 x] 2)).alloc (.cells #[.int .i64 0] 2)) 22 (.slice (some ⟨w.heap.size, 0, none⟩) 8 8)
  simp only [World.size_alloc] at bP bX bV bB
  have hB0 : Below w.heap.size w (((((w.alloc (.cells (a8 t) 100)).alloc (.cells #[.int .i64 p] 2)).alloc (.cells #[.int .i64 x] 2)).alloc (.cells #[.int .i64 0] 2)).alloc (.cells #[.slice (some ⟨w.heap.size, 0, none⟩) 8 8] 22)) := (((((Below.refl _ w).alloc (Nat.le_refl _) _).alloc (by simp) _).alloc (by simp; omega) _).alloc (by simp; omega) _).alloc (by simp; omega) _
  have hsz : (((((w.alloc (.cells (a8 t) 100)).alloc (.cells #[.int .i64 p] 2)).alloc (.cells #[.int .i64 x] 2)).alloc (.cells #[.int .i64 0] 2)).alloc (.cells #[.slice (some ⟨w.heap.size, 0, none⟩) 8 8] 22)).heap.size = w.heap.size + 5 := by simp
  have hcB := bB.cell
  generalize (((((w.alloc (.cells (a8 t) 100)).alloc (.cells #[.int .i64 p] 2)).alloc (.cells #[.int .i64 x] 2)).alloc (.cells #[.int .i64 0] 2)).alloc (.cells #[.slice (some ⟨w.heap.size, 0, none⟩) 8 8] 22)) = W0 at hA bP bX bV hcB hB0 hsz ⊢
  clear bB
  refine wpIn_rangeFunc_ownG rfl (by decide) (gf := 141) (lb := #[.pointer (some ⟨w.heap.size + 1 + 1 + 1 + 1, 0, none⟩)]) rfl trivial (enters_of Try.func141 (by kernel_rfl) rfl)
    (bw_stops 5 (w.heap.size + 1 + 1 + 1 + 1) (w.heap.size + 1) w.heap.size 0 8 8 [t 0, t 1, t 2, t 3, t 4, t 5, t 6, t 7] W0 (by omega) (by omega) hcB hA (by omega) (by omega)) Bk.kpB_t (Bk.kpB_b (by omega) (by omega)) (Below.refl _ _) (fun _ => rfl)
    (fun pre W => ((Boxed W (w.heap.size + 1 + 1 + 1) 2 (.int .i64 (hv p x t pre)) ∧ Boxed W (w.heap.size + 1) 2 (.int .i64 p)) ∧ Boxed W (w.heap.size + 1 + 1) 2 (.int .i64 x)) ∧ Below w.heap.size w W)
    (fun _ _ _ => False)
    (OwnFrom.and (OwnFrom.and (OwnFrom.and (Own.from (boxed_own _ _ (fun pre => Value.int .i64 (hv p x t pre))) _) (Own.from (boxed_own _ _ _) _)) (Own.from (boxed_own _ _ _) _)) (ownFrom_below (Nat.le_refl _) (by omega)))
    (fun _ _ _ _ _ hs _ _ => hs)
    ⟨⟨⟨bV, bP⟩, bX⟩, hB0⟩
    (fun i => { tmps := #[.agg (a8 t), .int .i64 p, .int .i64 x, .pointer (some ⟨w.heap.size, 0, none⟩), .pointer (some ⟨w.heap.size + 1, 0, none⟩), .pointer (some ⟨w.heap.size + 1 + 1, 0, none⟩), .int .i64 0, .pointer (some ⟨w.heap.size + 1 + 1 + 1, 0, none⟩), undef, .int .i64 ([t 0, t 1, t 2, t 3, t 4, t 5, t 6, t 7].getD i.val 0), .slice (some ⟨w.heap.size, 0, none⟩) 8 8, .func (.func 141) #[] #[.pointer (some ⟨w.heap.size + 1 + 1 + 1 + 1, 0, none⟩)], .int .i64 (i.val : Int), .int .i64 ([t 0, t 1, t 2, t 3, t 4, t 5, t 6, t 7].getD i.val 0), undef, undef, undef, undef, undef, undef, undef, undef], defers := [] }) ?assign ?body ?done ?stop
  case assign =>
    intro l i W K hK
    generalize [t 0, t 1, t 2, t 3, t 4, t 5, t 6, t 7].getD i.val 0 = z at hK ⊢
    gi_wp2
    exact hK
  case body =>
    rintro l pre i W ⟨⟨⟨bV1, bP1⟩, bX1⟩, hB1⟩ _
    have hi := i.isLt
    obtain ⟨h0, h1⟩ := HT.out i.val hi
    rw [a8_get t hi]
    obtain ⟨hv0, hv1⟩ := hv_in hp0 x t pre
    have hm0 : 0 ≤ hv p x t pre * x := Int.mul_nonneg hv0 hx0
    have hm1 : hv p x t pre * x ≤ 257 * 257 := Int.mul_le_mul (by omega) hx1 hx0 (by omega)
    have HS1 := Lib.hid (hv_snoc p x t pre i)
    have cV := bV1.cell
    have fV := bV1.frozen
    have cP := bP1.cell
    have cX := bX1.cell
    generalize hv p x t pre = v at hv0 hv1 hm0 hm1 cV HS1
    generalize t i.val = z at h0 h1 HS1 ⊢
    have e1 : IntKind.i64.wrap (v * x) = v * x := IntWalk.i64_in _ (by omega)
    have e2 : IntKind.i64.wrap (v * x + z) = v * x + z := IntWalk.i64_in _ (by omega)
    have e3 : (v * x + z).tmod p = (v * x + z) % p := Int.tmod_eq_emod_of_nonneg (by omega)
    have hpn : (p == 0) = false := by simpa using (show ¬ p = 0 by omega)
    gi_wp2
    exact ⟨(KeepsOthers.setCell _ _ _).from _, (Bk.KpB.refl _ _ _).set (by omega) (by omega) _, ⟨⟨by rw [HS1.out]; exact bV1.set _, bP1.other (by omega) _⟩, bX1.other (by omega) _⟩, hB1.setCell (p := ⟨w.heap.size + 1 + 1 + 1, 0, none⟩) (by simp; omega) _⟩
  case done =>
    rintro D ys W hD rfl ⟨⟨⟨bV1, bP1⟩, bX1⟩, hB1⟩ hK
    have cV := bV1.cell
    rw [hv_ho p x t 8 8 (by omega)] at cV
    gi_wp2
    refine ⟨by simp, .inl ⟨_, _, rfl, run_takeDeferred hK, ?_⟩⟩
    exact ⟨_, results_tmp rfl _ _ _, rfl, hB1.trans (belowK_b (w := w) (Nat.le_refl _) W D _ _ (by omega) hK rfl rfl)⟩
  case stop =>
    rintro D c pre W _ _ h _
    exact h.elim
end Go.Proofs.Ytaefmffmjbabcaa
