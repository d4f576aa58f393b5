
/- FibonacciOf: the program. -/
import Derived.Test.YtaefmffmjbabcaaFbw
import Derived.Test.YtaefmffmjbabcaaBkv
import Derived.Test.YtaefmffmjbabcaaRep
import Derived.Test.YtaefmffmjbabcaaUnw
import Derived.Test.YtaefmffmjbabcaaByt
import Derived.Laws.IdiomStrings
set_option linter.unusedVariables false
namespace Go.Proofs.Ytaefmffmjbabcaa
open Go.Proofs.Ytaefmffmjbabcaa.Flo Go.RowKit Go.Shelf
attribute [local go_sem] Oper.semAt_some

/-- A block with n bytes in it, that may be written. -/
def Rbp (W : World) (g n : Nat) (f : Nat → UInt8) : Prop := (∃ o, W.heap[g]? = some o ∧ o.isCells = true) ∧ ∀ i, i < n → W.cell? ⟨g, i, none⟩ = some (.int .u8 ((f i).toNat : Int)) ∧ W.frozen? ⟨g, i, none⟩ = false
theorem Rbp.lt {W : World} {g n : Nat} {f : Nat → UInt8} (h : Rbp W g n f) : g < W.heap.size := by obtain ⟨⟨o, ho, _⟩, _⟩ := h; exact (Array.getElem?_eq_some_iff.1 ho).1
theorem Rbp.block {W W' : World} {g n : Nat} {f : Nat → UInt8} (h : Rbp W g n f) (hb : W'.heap[g]? = W.heap[g]?) : Rbp W' g n f := by
  refine ⟨by rw [hb]; exact h.1, fun i hi => ⟨(World.cell?_of_block (a := ⟨g, i, none⟩) hb).trans (h.2 i hi).1, ?_⟩⟩
  have : W'.frozen? ⟨g, i, none⟩ = W.frozen? ⟨g, i, none⟩ := by simp only [World.frozen?, hb]
  exact this.trans (h.2 i hi).2
theorem Rbp.kept {W W' : World} {row : Option Nat} {g n : Nat} {f : Nat → UInt8} (h : Rbp W g n f) (hg : W.grownBy W' row) (hne : some g ≠ row) : Rbp W' g n f := h.block (hg.block g h.lt hne)
theorem Rbp.alloc {W : World} {g n : Nat} {f : Nat → UInt8} (h : Rbp W g n f) (o : Obj) : Rbp (W.alloc o) g n f := h.kept (World.grownBy_alloc W o none) (by simp)
theorem grownBy_setCellF (W : World) (b j : Nat) (v : Value) : W.grownBy (W.setCell ⟨b, j, none⟩ v) (some b) :=
  ⟨rfl, rfl, rfl, (KeepsWalks.setCell W _ v).size, fun k _ hk => Below.heap_setCell _ _ _ k (fun e => hk (by rw [e]))⟩
theorem boxedF_other {W : World} {B B' : Nat} {t : TypeId} {v : Value} (h : Boxed W B t v) (hne : B ≠ B') (j : Nat) (u : Value) : Boxed (W.setCell ⟨B', j, none⟩ u) B t v := h.kept (grownBy_setCellF W B' j u) (fun e => hne (by cases e; rfl))
theorem Rbp.other {W : World} {g n B : Nat} {f : Nat → UInt8} (h : Rbp W g n f) (hne : g ≠ B) (j : Nat) (u : Value) : Rbp (W.setCell ⟨B, j, none⟩ u) g n f := h.kept (grownBy_setCellF W B j u) (fun e => hne (by cases e; rfl))
theorem Rbp.set {W : World} {g n j : Nat} {f : Nat → UInt8} (h : Rbp W g n f) (v : UInt8) : Rbp (W.setCell ⟨g, j, none⟩ (.int .u8 (v.toNat : Int))) g n (fun i => if i = j then v else f i) := by
  refine ⟨?_, fun i hi => ⟨?_, by rw [World.frozen?_setCell]; exact (h.2 i hi).2⟩⟩
  · obtain ⟨o, ho, hc⟩ := h.1
    cases o <;> simp_all [World.setCell, Array.getElem?_modify, Obj.isCells]
  · show _ = some (Value.int .u8 (((if i = j then v else f i)).toNat : Int))
    by_cases e : i = j
    · subst e
      rw [World.cell?_setCell_same (h := (h.2 i hi).1), if_pos rfl]
    · rw [World.cell?_setCell_other (h := fun e2 => e (by injection e2 with _ e3 _; exact e3.symm)), if_neg e]; exact (h.2 i hi).1
theorem rbp_own {β : Type} (g n : Nat) (f : β → Nat → UInt8) : Own (fun s W => Rbp W g n (f s)) := fun s X Y row hs hg hrow =>
  hs.kept hg (fun e' => by obtain ⟨o, ho, hc⟩ := hrow g e'.symm; obtain ⟨o2, ho2, hc2⟩ := hs.1; rw [ho2] at ho; cases ho; rw [hc2] at hc; cases hc)
theorem Rbp.congr {W : World} {g n : Nat} {f f2 : Nat → UInt8} (h : Rbp W g n f) (e : ∀ i, i < n → f i = f2 i) : Rbp W g n f2 := ⟨h.1, fun i hi => by rw [← e i hi]; exact h.2 i hi⟩
theorem boxedF_below {W W' : World} {B : Nat} {t : TypeId} {v : Value} (h : Boxed W B t v) (hb : Below W.heap.size W W') : Boxed W' B t v := (hb.block B h.lt).trans h
theorem rbp_new (w : World) (l : List UInt8) (C n : Nat) (T : TypeId) (hn : (txB l).size = n) : Rbp (w.alloc (.cells (bytesRow (txB l) C) T ((bytesRow (txB l) C).size, (bytesRow (txB l) C).size + 1))) w.heap.size n (fun i => l.getD i 0) := by
  refine ⟨⟨_, World.alloc_heap_new w _, rfl⟩, fun i hi => ?_⟩
  have hl : i < l.length := by rw [txB_size] at hn; omega
  have hsz : i < (bytesRow (txB l) C).size := by
    unfold bytesRow
    rw [Array.size_append, Array.size_map]
    have : (txB l).data.size = l.length := txB_size l
    omega
  have hh := World.alloc_heap_new w (.cells (bytesRow (txB l) C) T ((bytesRow (txB l) C).size, (bytesRow (txB l) C).size + 1))
  refine ⟨?_, ?_⟩
  · have h1 : (w.alloc (.cells (bytesRow (txB l) C) T ((bytesRow (txB l) C).size, (bytesRow (txB l) C).size + 1))).cell? ⟨w.heap.size, i, none⟩ = (bytesRow (txB l) C)[i]? := by
      simp only [World.cell?]
      rw [hh]
      simp
    rw [h1]
    unfold bytesRow
    rw [Array.getElem?_append_left (by rw [Array.size_map]; have : (txB l).data.size = l.length := txB_size l; omega)]
    show (l.toArray.map _)[i]? = _
    simp [List.getD_eq_getElem?_getD, hl]
  · simp only [World.frozen?]
    rw [hh]
    simp
    omega
/-- One number more. -/
def fst1 (s : Nat × (Nat → UInt8)) (i : Nat) : Nat × (Nat → UInt8) := if Fb.fb i ≤ s.1 then (s.1 - Fb.fb i, fun t => if t = i then 49 else s.2 t) else s
def fst (n K : Nat) (l : List (Fin K)) : Nat × (Nat → UInt8) := l.foldl (fun s i => fst1 s i.val) (n, Fb.dp n K 0)
theorem fst_snoc (n K : Nat) (l : List (Fin K)) (i : Fin K) : fst n K (l ++ [i]) = fst1 (fst n K l) i.val := by unfold fst; rw [List.foldl_append]; rfl
theorem fst_le (n K : Nat) (l : List (Fin K)) : (fst n K l).1 ≤ n := by
  unfold fst
  have : ∀ (l : List (Fin K)) (s : Nat × (Nat → UInt8)), s.1 ≤ n → (l.foldl (fun s i => fst1 s i.val) s).1 ≤ n := by
    intro l
    induction l with
    | nil => intro s h; exact h
    | cons i l ih =>
      intro s h
      refine ih _ ?_
      show (fst1 s i.val).1 ≤ n
      unfold fst1
      split
      · show s.1 - _ ≤ n; omega
      · exact h
  exact this l _ (Nat.le_refl _)
theorem fst_dn (n K : Nat) : ∀ j, j ≤ K → (fst n K (Bk.dnF K j)).1 = Fb.rs n K j ∧ ∀ t, t < K + 1 → (fst n K (Bk.dnF K j)).2 t = Fb.dp n K j t
  | 0, _ => ⟨rfl, fun _ _ => rfl⟩
  | j + 1, h => by
    obtain ⟨h1, h2⟩ := fst_dn n K j (by omega)
    rw [Bk.dnF_succ (show j < K by omega), fst_snoc]
    unfold fst1
    rw [h1]
    by_cases hle : Fb.fb (K - 1 - j) ≤ Fb.rs n K j
    · rw [if_pos hle]
      refine ⟨(Fb.dg_yes (show j < K by omega) hle).2.symm, fun t ht => ?_⟩
      show (if t = K - 1 - j then 49 else (fst n K (Bk.dnF K j)).2 t) = _
      rw [← Fb.dp_yes (show j < K by omega) hle t ht, h2 t ht]
    · rw [if_neg hle]
      exact ⟨h1.trans (Fb.dg_no (show j < K by omega) hle).2.symm, fun t ht => by rw [h2 t ht, ← Fb.dp_no (show j < K by omega) hle t ht]⟩
set_option maxHeartbeats 4000000 in
theorem fbIN (x : Int) (w : World) (hok : fbB x = false) : Calls Try.prog 44 #[.int .i64 x] w fun e w' => e = .returned (.tuple #[.string ⟨#[]⟩, .bool false]) ∧ Below w.heap.size w w' := by
  have HC : Hid (∀ w2, Calls Try.prog 97 #[.int .i64 x] w2 fun e w' => e = .returned (.bool false) ∧ w2 = w') := Lib.hid (fun w2 => isc_no x w2 (of_decide_eq_false hok))
  have HB := Lib.hid (below_alloc w (.cells #[.int .i64 x] 2))
  go_enter Try.func44, Try.ntmps44
  go_wp2_with (first | (go_at_call 97; (with_reducible refine (HC.out _).mono ?_); rintro e w' ⟨rfl, hw⟩; subst hw) | fail)
  exact bodyPost_ret (v := .tuple #[.string ⟨#[]⟩, .bool false]) (by simp [results, Try.results44, go_sem]) rfl ⟨rfl, HB.out⟩
set_option maxRecDepth 100000 in
set_option maxHeartbeats 4000000 in
theorem fbIY (x : Int) (K : Nat) (w : World) (hk : FbOk x K) : Calls Try.prog 44 #[.int .i64 x] w fun e w' => e = .returned (.tuple #[.string (fbT x K), .bool true]) ∧ Below w.heap.size w w' := by
  obtain ⟨n, rfl, hn1, hn0, ⟨hK1, hK2⟩, hkk, hnK⟩ := hk
  refine (callsIn_wide (n := 6)).1 ?_
  have hFW : ∀ f, Fence.wide.fn f := fun _ => trivial
  have hFD : Fence.wide.depth.isSome = false := rfl
  have hmx : Try.prog.follows .mixedOrders = true := by kernel_rfl
  have HC : Hid (∀ n2 w2, CallsIn Fence.wide n2 Try.prog 97 #[.int .i64 (n : Int)] w2 fun e w' => e = .returned (.bool true) ∧ w2 = w') := Lib.hid (fun n2 w2 => callsIn_wide.2 (isc_yes (n : Int) w2 (by omega)))
  have HFN : Hid (∀ n2 w2, CallsIn Fence.wide n2 Try.prog 98 #[.int .i64 (n : Int)] w2 fun e w' => ∃ g cp, e = .returned (.slice (some ⟨g, 0, none⟩) K cp) ∧ New w2 w' g (.il K (Fb.fbL K))) := Lib.hid (fun n2 w2 => callsIn_wide.2 (fn_impl n K w2 hn1 ⟨hK1, hK2⟩ hkk hnK))
  have HRP : Hid (∀ n2 w2, CallsIn Fence.wide n2 Try.prog 99 #[.string ⟨#[48]⟩, .int .i64 (K : Int)] w2 fun e w' => e = .returned (.string (txB (repL 48 K))) ∧ Below w2.heap.size w2 w') := Lib.hid (fun n2 w2 => callsIn_wide.2 (rep1 48 K w2 (by omega)))
  have hadd := fun W : World => run_tx Try.prog (repL 48 K) [49] (by rw [repL_len]; simp; omega) W
  have hone : txB [49] = ⟨#[49]⟩ := rfl
  rw [hone] at hadd
  have hcv := fun W : World => run_bytes_of_string (P := Try.prog) W 9 114 5 (txB (repL 48 K ++ [49])) Try.underlying9 Try.underlying114 Try.underlying5
  clear hkk hnK
  refine callsIn_of_wp_marks Try.func44 rfl trivial ?_ rfl
  simp only [Try.ntmps44, List.size_toArray, List.length_cons, List.length_nil, Nat.reduceAdd, Nat.reduceSub, Array.replicate_succ, Array.replicate_zero, List.push_toArray, List.append_toArray, List.nil_append, List.cons_append]
  gi_wp2_with (first | (gi_at_call 97; (with_reducible refine (HC.out _ _).mono ?_); rintro e w' ⟨rfl, hw⟩; subst hw) | (gi_at_call 98; (with_reducible refine (HFN.out _ _).mono ?_); rintro e w2 ⟨g, cp, rfl, hg⟩; have HG := Lib.hid hg; clear hg) | (gi_at_call 99; (with_reducible refine (HRP.out _ _).mono ?_); rintro e w3 ⟨rfl, hb⟩; have HB3 := Lib.hid hb; clear hb) | (gi_at_call 100; (with_reducible refine (callsIn_wide.2 (bw_impl _ _ _ _)).mono ?_); rintro e w' ⟨rfl, rfl⟩) | fail)
  have hs9 : (txB (repL 48 K ++ [49])).size = K + 1 := by rw [txB_size, List.length_append, repL_len]; rfl
  have bN1 := Boxed.new w 2 (.int .i64 (n : Int))
  have bN3 : Boxed w3 w.heap.size 2 (.int .i64 (n : Int)) := boxedF_below (boxedF_below bN1 HG.out.2.2.2) HB3.out
  have hBw3 : Below w.heap.size w w3 := Below.next (Below.next (below_alloc w (.cells #[.int .i64 (n : Int)] 2)) HG.out.2.2.2) HB3.out
  have hR3 : IRow w3 (some ⟨g, 0, none⟩) K (Fb.fbL K) := (ICl.of HG.out).row.below HB3.out
  have hg1 : w.heap.size < g := by have := HG.out.1; simp at this; omega
  have hg3 : g < w3.heap.size := Nat.lt_of_lt_of_le HG.out.2.1 HB3.out.size
  rw [hs9]
  generalize grownCap w3 (K + 1) 0 5 = C
  have hRB := rbp_new w3 (repL 48 K ++ [49]) C (K + 1) 5 hs9
  generalize hWA : w3.alloc (.cells (bytesRow (txB (repL 48 K ++ [49])) C) 5 ((bytesRow (txB (repL 48 K ++ [49])) C).size, (bytesRow (txB (repL 48 K ++ [49])) C).size + 1)) = WA at hRB ⊢
  have hszA : WA.heap.size = w3.heap.size + 1 := by rw [← hWA]; simp
  have hBA : Below w3.heap.size w3 WA := by rw [← hWA]; exact below_alloc _ _
  clear hWA
  have hRB2 : Rbp WA w3.heap.size (K + 1) (Fb.dp n K 0) := hRB.congr (fun i hi => by
    have h1 := Fb.dp_first n K
    have h2 : (repL 48 K ++ [49]).getD i 0 = ((List.range (K + 1)).map (Fb.dp n K 0)).getD i 0 := by rw [h1]
    rw [h2]
    simp [List.getD_eq_getElem?_getD, hi])
  have bN4 := ((boxedF_below bN3 hBA).alloc (.cells #[.slice (some ⟨w3.heap.size, 0, none⟩) (K + 1) C] 114)).alloc (.cells #[.slice (some ⟨g, 0, none⟩) K cp] 22)
  have bD4 := (Boxed.new WA 114 (.slice (some ⟨w3.heap.size, 0, none⟩) (K + 1) C)).alloc (.cells #[.slice (some ⟨g, 0, none⟩) K cp] 22)
  have bB4 := Boxed.new (WA.alloc (.cells #[.slice (some ⟨w3.heap.size, 0, none⟩) (K + 1) C] 114)) 22 (.slice (some ⟨g, 0, none⟩) K cp)
  have hR4 := ((hR3.below hBA).alloc (.cells #[.slice (some ⟨w3.heap.size, 0, none⟩) (K + 1) C] 114)).alloc (.cells #[.slice (some ⟨g, 0, none⟩) K cp] 22)
  have hRB4 := (hRB2.alloc (.cells #[.slice (some ⟨w3.heap.size, 0, none⟩) (K + 1) C] 114)).alloc (.cells #[.slice (some ⟨g, 0, none⟩) K cp] 22)
  have hB4 : Below w.heap.size w ((WA.alloc (.cells #[.slice (some ⟨w3.heap.size, 0, none⟩) (K + 1) C] 114)).alloc (.cells #[.slice (some ⟨g, 0, none⟩) K cp] 22)) := (((Below.next hBw3 hBA).alloc (by omega) _).alloc (by simp; omega) _)
  have hsz4 : ((WA.alloc (.cells #[.slice (some ⟨w3.heap.size, 0, none⟩) (K + 1) C] 114)).alloc (.cells #[.slice (some ⟨g, 0, none⟩) K cp] 22)).heap.size = w3.heap.size + 3 := by simp [hszA]
  simp only [World.size_alloc, hszA] at bD4 bB4
  have hcB := bB4.cell
  obtain ⟨W0, hW0⟩ : ∃ W0, ((WA.alloc (.cells #[.slice (some ⟨w3.heap.size, 0, none⟩) (K + 1) C] 114)).alloc (.cells #[.slice (some ⟨g, 0, none⟩) K cp] 22)).drew = W0 := ⟨_, rfl⟩
  have bN : Boxed W0 w.heap.size 2 (.int .i64 (n : Int)) := by rw [← hW0]; exact bN4
  have bD : Boxed W0 (w3.heap.size + 1) 114 (.slice (some ⟨w3.heap.size, 0, none⟩) (K + 1) C) := by rw [← hW0]; exact bD4
  have hc0 : W0.cell? ⟨w3.heap.size + 1 + 1, 0, none⟩ = some (.slice (some ⟨g, 0, none⟩) K cp) := by rw [← hW0]; exact hcB
  have hR0 : IRow W0 (some ⟨g, 0, none⟩) K (Fb.fbL K) := by rw [← hW0]; exact hR4
  have hb0 : Rbp W0 w3.heap.size (K + 1) (Fb.dp n K 0) := by rw [← hW0]; exact hRB4
  have hB0 : Below w.heap.size w W0 := by rw [← hW0]; exact Below.drew hB4
  have hsz0 : W0.heap.size = w3.heap.size + 3 := by rw [← hW0]; exact hsz4
  rw [hW0]
  clear hW0 bN4 bD4 bB4 hR4 hRB4 hB4 hsz4 hcB hRB2 hRB hBA hszA bN3 bN1 hR3 HG HB3 HC HFN HRP hadd hcv hone hs9
  have hw3 : w.heap.size < w3.heap.size := by omega
  refine wpIn_rangeFunc_ownG rfl (by decide) (gf := 141) (lb := #[.pointer (some ⟨w3.heap.size + 1 + 1, 0, none⟩)]) rfl trivial (enters_of Try.func141 (by kernel_rfl) rfl)
    (bw_stops2 5 (w3.heap.size + 1 + 1) g 0 cp K (Fb.fbL K) W0 (by omega) hc0 hR0 (by omega) (by omega)) kpG_t (kpG_b (by omega) (by omega)) (Below.refl _ _) (fun _ => rfl)
    (fun pre W => ((Boxed W w.heap.size 2 (.int .i64 ((fst n K pre).1 : Int)) ∧ Boxed W (w3.heap.size + 1) 114 (.slice (some ⟨w3.heap.size, 0, none⟩) (K + 1) C)) ∧ Rbp W w3.heap.size (K + 1) (fst n K pre).2) ∧ Below w.heap.size w W)
    (fun _ _ _ => False)
    (OwnFrom.and (OwnFrom.and (OwnFrom.and (Own.from (boxed_own _ _ (fun pre => Value.int .i64 ((fst n K pre).1 : Int))) _) (Own.from (boxed_own _ _ _) _)) (Own.from (rbp_own _ _ (fun pre => (fst n K pre).2)) _)) (ownFrom_below (Nat.le_refl _) (by omega)))
    (fun _ _ _ _ _ hs _ _ => hs)
    ⟨⟨⟨bN, bD⟩, hb0⟩, hB0⟩
    (fun i => { tmps := #[.int .i64 (n : Int), .pointer (some ⟨w.heap.size, 0, none⟩), .string ⟨#[]⟩, .bool false, .slice (some ⟨g, 0, none⟩) K cp, .pointer (some ⟨w3.heap.size + 1, 0, none⟩), .int .i64 (i.val : Int), .int .i64 ((Fb.fbL K).getD i.val 0), .int .i64 (n : Int), .bool true, .bool false, .int .i64 (n : Int), .slice (some ⟨g, 0, none⟩) K cp, .slice (some ⟨g, 0, none⟩) K cp, .int .i64 (K : Int), .string (txB (repL 48 K)), .string (txB (repL 48 K ++ [49])), .slice (some ⟨w3.heap.size, 0, none⟩) (K + 1) C, .slice (some ⟨g, 0, none⟩) K cp, .func (.func 141) #[] #[.pointer (some ⟨w3.heap.size + 1 + 1, 0, none⟩)], .int .i64 (i.val : Int), .int .i64 ((Fb.fbL K).getD i.val 0), undef, undef, undef, undef, undef, undef, undef, undef, undef, undef, undef], defers := [] }) ?assign ?body ?done ?stop
  case assign =>
    intro l i W K2 hK
    generalize (Fb.fbL K).getD i.val 0 = z at hK ⊢
    gi_wp2
    exact hK
  case body =>
    rintro l pre i W ⟨⟨⟨bN1, bD1⟩, hb1⟩, hB1⟩ _
    have hi := i.isLt
    rw [Fb.fbL_at hi]
    have hle := fst_le n K pre
    have hfb := Fb.fb_31 (show i.val ≤ 31 by omega)
    have HSN := Lib.hid (fst_snoc n K pre i)
    have cN := bN1.cell
    have fN := bN1.frozen
    have cD := bD1.cell
    have fD := (hb1.2 i.val (by omega)).2
    have cDi := (hb1.2 i.val (by omega)).1
    have hil : i.val < K + 1 := by omega
    have hili : (i.val : Int) < ((K + 1 : Nat) : Int) := by omega
    have hbs := hb1.lt
    by_cases hy : Fb.fb i.val ≤ (fst n K pre).1
    · have HS2 : Hid (fst n K (pre ++ [i]) = ((fst n K pre).1 - Fb.fb i.val, fun t => if t = i.val then 49 else (fst n K pre).2 t)) := Lib.hid (by rw [HSN.out]; unfold fst1; rw [if_pos hy])
      have hd : decide ((Fb.fb i.val : Int) ≤ ((fst n K pre).1 : Int)) = true := decide_eq_true (by omega)
      have hd2 : decide (Fb.fb i.val ≤ (fst n K pre).1) = true := decide_eq_true hy
      have hsub : IntKind.i64.wrap (((fst n K pre).1 : Int) - (Fb.fb i.val : Int)) = (((fst n K pre).1 - Fb.fb i.val : Nat) : Int) := by rw [IntWalk.i64_in _ (by omega)]; omega
      have hsub2 : ((fst n K pre).1 : Int) - (Fb.fb i.val : Int) = (((fst n K pre).1 - Fb.fb i.val : Nat) : Int) := by omega
      have hwsub : IntKind.i64.wrap ((((fst n K pre).1 - Fb.fb i.val : Nat)) : Int) = (((fst n K pre).1 - Fb.fb i.val : Nat) : Int) := IntWalk.i64_in _ (by omega)
      gi_wp2
      exact ⟨((KeepsOthers.setCell _ _ _).trans (KeepsOthers.setCell _ _ _)).from _, ((KpG.refl _ _ _).set (by omega) (by omega) _).set (by omega) (by omega) _, ⟨⟨by rw [HS2.out]; exact (boxedF_other bN1 (by omega) _ _).set _, boxedF_other (boxedF_other bD1 (by omega) _ _) (by omega) _ _⟩, by rw [HS2.out]; exact (hb1.set (49 : UInt8)).other (by omega) _ _⟩, (hB1.setCell (p := ⟨w3.heap.size, i.val, none⟩) (by simp; omega) _).setCell (p := ⟨w.heap.size, 0, none⟩) (by simp) _⟩
    · have HS2 : Hid (fst n K (pre ++ [i]) = fst n K pre) := Lib.hid (by rw [HSN.out]; unfold fst1; rw [if_neg hy])
      have hd : decide ((Fb.fb i.val : Int) ≤ ((fst n K pre).1 : Int)) = false := decide_eq_false (by omega)
      have hd2 : decide (Fb.fb i.val ≤ (fst n K pre).1) = false := decide_eq_false hy
      gi_wp2
      exact ⟨KeepsFrom.refl _ _, KpG.refl _ _ _, ⟨⟨by rw [HS2.out]; exact bN1, bD1⟩, by rw [HS2.out]; exact hb1⟩, hB1⟩
  case done =>
    rintro D ys W hD rfl ⟨⟨⟨bN1, bD1⟩, hb1⟩, hB1⟩ hK
    have cD := bD1.cell
    obtain ⟨_, hdp⟩ := fst_dn n K K (Nat.le_refl _)
    have hb2 := hb1.congr hdp
    have htx := text_cells W 114 9 5 w3.heap.size 0 (K + 1) C (Fb.dgL n K K ++ [49]) Try.underlying114 Try.underlying5 Try.underlying9 (by rw [List.length_append, Fb.dgL_len]; rfl) (fun j hj => by
      rw [Nat.zero_add, (hb2.2 j hj).1, ← Fb.dp_last]
      simp [List.getD_eq_getElem?_getD, hj])
    have HT : Hid (fbT (n : Int) K = txB (Fb.dgL n K K ++ [49])) := Lib.hid rfl
    gi_wp2
    refine ⟨by simp, .inl ⟨_, _, rfl, run_takeDeferred hK, ?_⟩⟩
    exact ⟨.tuple #[.string (txB (Fb.dgL n K K ++ [49])), .bool true], by simp [results, Try.results44, go_sem], by rw [HT.out], hB1.trans (belowK_b (w := w) (Nat.le_refl _) W D _ _ (by omega) hK rfl rfl)⟩
  case stop =>
    rintro D c pre W _ _ h _
    exact h.elim
end Go.Proofs.Ytaefmffmjbabcaa
