
/- Drops: the model. -/
import Derived.Test.YtnljabgkaelplaaDoorDra
import Derived.Test.YtnljabgkaelplaaDoorBoo
import Derived.Lib.OwnBridge
import Derived.RangeFuncBox
import Derived.Deep.Onto
set_option linter.unusedVariables false
namespace Go.Proofs.YtnljabgkaelplaaDoor
open Go.Proofs.YtnljabgkaelplaaDoor.Flo Go.RowKit Go.Shelf Go.Proofs.YtnljabgkaelplaaDoor.Pr
attribute [local go_sem] Oper.semAt_some

def dpL (n s : Nat) : List Int := plc (wdr n s) n
def dpK (n s : Nat) : Nat := (dpL n s).length
theorem dpL_dgs (n s : Nat) : dpL n s = ints (dgs n (wdr n s)) := by unfold dpL; rw [dgs_plc]
theorem dpK_pos {n : Nat} (hn : 0 < n) (s : Nat) : 1 ≤ dpK n s ∧ dpK n s ≤ n := by
  refine ⟨?_, plc_len _ _⟩
  unfold dpK
  rw [dpL_dgs]
  have h1 := wdr_ne hn s
  have h2 := wdr_lt hn s
  have h3 : dgs n (wdr n s) ≠ [] := fun e => h1 (dg_nil n n 0 (Nat.zero_add n) (wdr n s) h2 e)
  unfold ints
  rw [List.length_map]
  exact List.length_pos_iff.2 h3
/-- A block of n bits that may be written. -/
def Dbb (W : World) (g n : Nat) (f : Nat → Bool) : Prop := g < W.heap.size ∧ ∀ i, i < n → W.cell? ⟨g, i, none⟩ = some (.bool (f i)) ∧ W.frozen? ⟨g, i, none⟩ = false
theorem Dbb.block {W W' : World} {g n : Nat} {f : Nat → Bool} (h : Dbb W g n f) (hb : W'.heap[g]? = W.heap[g]?) (hs : W.heap.size ≤ W'.heap.size) : Dbb W' g n f :=
  ⟨Nat.lt_of_lt_of_le h.1 hs, fun i hi => ⟨(World.cell?_of_block (a := ⟨g, i, none⟩) hb).trans (h.2 i hi).1, (World.frozen?_of_block (a := ⟨g, i, none⟩) hb).trans (h.2 i hi).2⟩⟩
theorem Dbb.set {W : World} {g n j : Nat} {f : Nat → Bool} (h : Dbb W g n f) (v : Bool) : Dbb (W.setCell ⟨g, j, none⟩ (.bool v)) g n (fun i => if i = j then v else f i) := by
  refine ⟨by simpa [World.setCell] using h.1, fun i hi => ⟨?_, by rw [World.frozen?_setCell]; exact (h.2 i hi).2⟩⟩
  show _ = some (Value.bool (if i = j then v else f i))
  by_cases e : i = j
  · subst e
    rw [World.cell?_setCell_same (h := (h.2 i hi).1), if_pos rfl]
  · rw [World.cell?_setCell_other (h := fun e2 => e (by injection e2 with _ e3 _; exact e3.symm)), if_neg e]; exact (h.2 i hi).1
theorem Dbb.congr {W : World} {g n : Nat} {f f2 : Nat → Bool} (h : Dbb W g n f) (e : ∀ i, i < n → f i = f2 i) : Dbb W g n f2 := ⟨h.1, fun i hi => by rw [← e i hi]; exact h.2 i hi⟩
theorem made_eqD (n : Nat) : madeCells #[Value.bool false] n = Array.replicate n (Value.bool false) := by
  apply Array.ext
  · simp [madeCells]
  · intro i h1 h2
    simp [madeCells, Nat.mod_one]
theorem dbb_made (w : World) (n : Nat) (T : TypeId) : Dbb (w.alloc (.cells (madeCells #[Value.bool false] n) T)) w.heap.size n (fun _ => false) := by
  refine ⟨by simp, fun i hi => ⟨?_, World.frozen?_alloc_at _ _ _ _ rfl⟩⟩
  rw [World.cell?_alloc_at _ _ _ _ rfl, made_eqD]
  simp [hi]
theorem drp_new {w w' : World} {v : Value} {K : Nat} {L : List Int} (ho : w'.ownsRow w.heap.size 2 1 v K (L.map (Value.int .i64))) (hb : Below w.heap.size w w') (hK : K ≠ 0) : ∃ g cp, v = .slice (some ⟨g, 0, none⟩) K cp ∧ New w w' g (.il K L) := by
  have hv : v ≠ .slice none 0 0 := by
    rintro rfl
    rcases ho.2 with ⟨_, h0⟩ | ⟨g, c, cur, e, _⟩
    · exact hK h0
    · cases e
  obtain ⟨g, cp, rfl, h1, h2, _, _, h3, h4⟩ := Lib.holds_of_ownsRow ho hv
  refine ⟨g, cp, rfl, h1, h2, ?_, hb⟩
  refine ⟨h3, fun i hi => ?_⟩
  have hi : i < K := hi
  have h5 := h4 i (by simpa [h3] using hi)
  rw [Nat.zero_add] at h5
  refine ⟨h5.1.trans ?_, h5.2⟩
  have e : L.toArray[i]! = L.getD i 0 := by
    rw [List.getElem!_toArray, List.getD_eq_getElem?_getD, List.getElem!_eq_getElem?_getD]
    rfl
  rw [e]
  rfl
theorem drp_empty (w : World) (T : TypeId) : (w.alloc (.cells #[] T)).ownsRow w.heap.size T 1 (.slice (some ⟨w.heap.size, 0, none⟩) 0 0) 0 [] :=
  ⟨by simp, .inr ⟨w.heap.size, 0, #[], rfl, Nat.le_refl _, World.alloc_heap_new w _, by simp, by simp [maxLen], by simp, by simp⟩⟩
set_option maxHeartbeats 1000000 in
theorem drw_spec (B p s n : Nat) (w : World) (hB : B ≤ p) (hs : s < 4294967296) (hn : n ≤ 32) (h : Boxed w p 2 (.int .i64 (s : Int))) :
    Calls Tryd.prog 69 #[.pointer (some ⟨p, 0, none⟩), .int .i64 (n : Int)] w fun e w' => e = .returned (.int .i64 ((dw (nx s) n : Nat) : Int)) ∧ Boxed w' p 2 (.int .i64 ((nx s : Nat) : Int)) ∧ Below B w w' ∧ (∀ g, g ≠ p → w'.heap[g]? = w.heap[g]?) ∧ w'.heap.size = w.heap.size := by
  have hc := h.cell
  have hf := h.frozen
  have HB := Lib.hid h
  have hw1 : IntKind.i64.wrap (1664525 * (s : Int)) = 1664525 * (s : Int) := IntWalk.i64_in _ (by omega)
  have hw2 : IntKind.i64.wrap (1664525 * (s : Int) + 1013904223) = 1664525 * (s : Int) + 1013904223 := IntWalk.i64_in _ (by omega)
  have hm : (1664525 * (s : Int) + 1013904223).tmod 4294967296 = ((nx s : Nat) : Int) := by unfold nx; rw [Int.tmod_eq_emod_of_nonneg (by omega)]; omega
  have hx := nx_lt s
  generalize nx s = t at hm hx ⊢
  have hp : t * n ≤ 4294967296 * 32 := Nat.mul_le_mul (Nat.le_of_lt hx) hn
  obtain ⟨q, hq⟩ : ∃ q, t * n = q := ⟨_, rfl⟩
  have hmm : (t : Int) * (n : Int) = (q : Int) := by rw [← hq]; exact_mod_cast rfl
  have hwq : IntKind.i64.wrap (q : Int) = (q : Int) := IntWalk.i64_in _ (by omega)
  have hd : ((q : Int)).tdiv 4294967296 = ((dw t n : Nat) : Int) := by
    unfold dw; rw [hq]; exact quo_natD q 4294967296
  have hlt : dw t n ≤ 32 := by
    unfold dw; rw [hq]; omega
  have hw3 : IntKind.i64.wrap ((dw t n : Nat) : Int) = ((dw t n : Nat) : Int) := IntWalk.i64_in _ (by omega)
  generalize dw t n = R at hd hlt hw3 ⊢
  clear hp hq h
  go_enter Tryd.func69, Tryd.ntmps69
  go_wp2
  go_ret
  exact ⟨rfl, HB.out.set _, (Below.refl B w).setCell (p := ⟨p, 0, none⟩) hB _, fun g hg => Below.heap_setCell _ _ _ g (fun e => hg e), by simp [World.setCell]⟩
set_option maxRecDepth 100000 in
set_option maxHeartbeats 8000000 in
theorem drp_spec (n s : Nat) (w : World) (hn : 1 ≤ n ∧ n ≤ 32) (hs : s < 4294967296) :
    Calls Tryd.prog 41 #[.int .i64 (n : Int), .int .i64 (s : Int)] w fun e w' => ∃ g cp, e = .returned (.slice (some ⟨g, 0, none⟩) (dpK n s) cp) ∧ New w w' g (.il (dpK n s) (dpL n s)) := by
  obtain ⟨i0, hi, hz0, hz1, hz2⟩ := info_parts Tryd.info64
  obtain ⟨hn1, hn2⟩ := hn
  have hKL := dpK_pos (show 0 < n by omega) s
  have HKL : Hid (dpK n s = (dpL n s).length ∧ dpL n s = plc (wdr n s) n) := Lib.hid ⟨rfl, rfl⟩
  generalize dpK n s = KK at hKL HKL ⊢
  generalize dpL n s = LL at HKL ⊢
  have HDS : Hid (∀ (t : Nat) (w3 : World), t < 4294967296 → Boxed w3 w.heap.size 2 (.int .i64 (t : Int)) → Calls Tryd.prog 69 #[.pointer (some ⟨w.heap.size, 0, none⟩), .int .i64 (n : Int)] w3 fun e w' => e = .returned (.int .i64 ((dw (nx t) n : Nat) : Int)) ∧ Boxed w' w.heap.size 2 (.int .i64 ((nx t : Nat) : Int)) ∧ Below w.heap.size w3 w' ∧ (∀ g, g ≠ w.heap.size → w'.heap[g]? = w3.heap[g]?) ∧ w'.heap.size = w3.heap.size) := Lib.hid (fun t w3 h1 h2 => drw_spec w.heap.size w.heap.size t n w3 (Nat.le_refl _) h1 hn2 h2)
  have HD1 := Lib.hid (HDS.out s (w.alloc (.cells #[.int .i64 (s : Int)] 2)) hs (Boxed.new w _ _))
  have hdl := dw_lt (nx_lt s) (show 0 < n by omega)
  obtain ⟨hK1, hK2⟩ := wk_le (show 0 < n by omega) s
  have HKD : Hid (∀ k, k < wk n s ↔ k * (dw (nx s) n + 1) < n) := Lib.hid (fun k => ks_lt (by omega))
  have HWD : Hid (wdr n s = wj n s (wk n s)) := Lib.hid (wdr_eq n s)
  have HR0 : Hid (sj s 0 = nx s) := Lib.hid (sj_zero s)
  generalize wk n s = K at hK1 hK2 HKD HWD
  generalize wdr n s = WR at HWD HKL
  generalize nx s = s1 at HD1 hdl HKD HR0
  generalize dw s1 n = d at HD1 hdl HKD
  have hwp : IntKind.i64.wrap ((d : Int) + 1) = (d : Int) + 1 := IntWalk.i64_in _ (by omega)
  have hmk := fun w2 : World => run_make_row' (P := Tryd.prog) 64 4 (.bool false) 1 Tryd.underlying64 Tryd.infoB rfl .i64 .i64 n (by omega) (by omega) w2
  have hn0 : ((n : Int) == 0) = false := by simp; omega
  have hn0' : ¬ ((n : Int) = 0) := by omega
  have hB0 := below_alloc w (.cells #[.int .i64 (s : Int)] 2)
  have HB0 := Lib.hid hB0
  clear hB0
  go_enter Tryd.func41, Tryd.ntmps41
  go_wp2_with (first | (go_at_call 69; (with_reducible refine HD1.out.mono ?_); rintro e w2 ⟨rfl, hbx, hbl, _, hsz⟩; have HX2 := Lib.hid hbx; have HB2 := Lib.hid (HB0.out.trans hbl); have HSZ2 : Hid (w2.heap.size = w.heap.size + 1) := Lib.hid (by rw [hsz]; simp); clear hbx hbl hsz) | fail)
  go_loopw [6] (fun kv w' => ∃ (k : Nat), k ≤ K ∧ 1 ≤ k ∧ kv = .int .i64 (k : Int) ∧ w2 = w') (fun kv _ => K - (intOf kv).toNat)
  case atStart => exact ⟨1, hK1, by omega, rfl, rfl⟩
  case round =>
    obtain ⟨k, hk, hk1, rfl, hw⟩ := hrel
    subst hw
    have hq : k * (d + 1) ≤ 32 * 32 := Nat.mul_le_mul (by omega) (by omega)
    have hiff := HKD.out k
    obtain ⟨q, hqe⟩ : ∃ q, k * (d + 1) = q := ⟨_, rfl⟩
    rw [hqe] at hq hiff
    have hmm : (k : Int) * ((d : Int) + 1) = (q : Int) := by rw [← hqe]; push_cast; rfl
    have hwq : IntKind.i64.wrap (q : Int) = (q : Int) := IntWalk.i64_in _ (by omega)
    clear hqe
    by_cases hlt : k < K
    · have hqn := hiff.1 hlt
      have hd1 : decide ((q : Int) < (n : Int)) = true := decide_eq_true (by omega)
      have hd2 : decide (q < n) = true := decide_eq_true hqn
      clear hiff
      go_wp2
      exact ⟨⟨k + 1, by omega, by omega, by first | rfl | go_num | (congr 1), by first | rfl | trivial⟩, by show K - ((k : Int) + 1).toNat < K - (k : Int).toNat; omega⟩
    · obtain rfl : k = K := by omega
      have hqn : ¬ q < n := fun e => hlt (hiff.2 e)
      have hd1 : decide ((q : Int) < (n : Int)) = false := decide_eq_false (by omega)
      have hd2 : decide (q < n) = false := decide_eq_false hqn
      clear hiff
      go_wp2
      go_loopw [6] (fun kv w' => ∃ (j : Nat) (wr : World), j ≤ k ∧ kv = .int .i64 ((k - j : Nat) : Int) ∧ wr = w' ∧ Hid (Boxed wr w.heap.size 2 (.int .i64 ((sj s j : Nat) : Int))) ∧ Hid (Dbb wr w2.heap.size n (wj n s j).testBit) ∧ Hid (Below w.heap.size w wr)) (fun kv _ => (intOf kv).toNat)
      case atStart => exact ⟨0, _, by omega, by first | rfl | simp, rfl, Lib.hid (by rw [HR0.out]; exact HX2.out.alloc _), Lib.hid ((dbb_made w2 n _).congr (fun i _ => by rw [wj_zero, Nat.zero_testBit])), Lib.hid (HB2.out.alloc (by have := HSZ2.out; omega) _)⟩
      case round =>
        obtain ⟨j, wr, hj, rfl, rfl, HX, HZ, HW⟩ := hrel
        by_cases hlt2 : j < k
        · have HSj := Lib.hid (sj_lt s j)
          have hSx := nx_lt (sj s j)
          have hPn := pl_lt (show 0 < n by omega) (wj n s j) (sj s j)
          have HFR := Lib.hid (wj_free (n := n) (s := s) (j := j) (by omega))
          have HWY := Lib.hid (pl_way (show 0 < n by omega) (wj n s j) (sj s j))
          have HS0 : Hid (sj s (j + 1) = nx (sj s j)) := Lib.hid (sj_succ s j)
          have HS1 : Hid (wj n s (j + 1) = wj n s j ||| 2 ^ pl n (wj n s j) (sj s j)) := Lib.hid (wj_succ n s j)
          have HD2 := Lib.hid (HDS.out (sj s j) wr HSj.out HX.out)
          generalize pl n (wj n s j) (sj s j) = P at hPn HFR HWY HS1
          generalize wj n s j = W at HFR HWY HS1 HZ
          generalize nx (sj s j) = s2 at hSx HWY HS0 HD2
          generalize sj s j = sv at HSj HD2 HX
          have hdn := HWY.out.1
          generalize dw s2 n = a0 at HWY HD2 hdn
          have hkj : decide ((0 : Int) < ((k - j : Nat) : Int)) = true := decide_eq_true (by omega)
          have hkj2 : (((k - j : Nat) : Int) > 0) = True := by simp; omega
          have hkj3 : decide (0 < k - j) = true := decide_eq_true (by omega)
          obtain ⟨c, hc⟩ : ∃ c, k - j = c + 1 := ⟨k - j - 1, by omega⟩
          rw [hc]
          go_wp2_with (first | (go_at_call 69; (with_reducible refine HD2.out.mono ?_); rintro e w3 ⟨rfl, hbx, hbl, hfr, hsz⟩; have HX3 := Lib.hid hbx; have HB3 := Lib.hid (HW.out.trans hbl); have HZ3 := Lib.hid (HZ.out.block (hfr _ (by have := HSZ2.out; omega)) (by omega)); clear hbx hbl hsz hfr) | fail)
          go_loopw [8] (fun av w' => ∃ (a : Nat), Hid (DWay n W.testBit P a) ∧ av = .int .i64 (a : Int) ∧ w3 = w') (fun av _ => dist n (intOf av).toNat P)
          case atStart => exact ⟨a0, HWY, rfl, rfl⟩
          case round =>
            obtain ⟨a, HA, rfl, hw⟩ := hrel
            subst hw
            have han := HA.out.1
            obtain ⟨hca, hfa⟩ := HZ3.out.2 a han
            have hwm : IntKind.i64.wrap ((a : Int) + 1) = (a : Int) + 1 := IntWalk.i64_in _ (by omega)
            have hmd : ((a : Int) + 1).tmod (n : Int) = (((a + 1) % n : Nat) : Int) := by
              rw [Int.tmod_eq_emod_of_nonneg (by omega)]; simp
            cases hb : W.testBit a with
            | true =>
              rw [hb] at hca
              obtain ⟨h1, h2⟩ := HA.out.step HFR.out hPn hb
              have H1 := Lib.hid h1
              have H2 := Lib.hid h2
              clear h1 h2 hb HA
              generalize (a + 1) % n = a1 at hmd H1 H2
              go_wp2
              exact ⟨⟨a1, H1, by first | rfl | go_num, by first | rfl | trivial⟩, by simpa [intOf] using H2.out⟩
            | false =>
              rw [hb] at hca
              obtain rfl := HA.out.stop hb
              clear hmd hwm hb HA
              go_wp2
              have hz2 := HSZ2.out
              have h1 : Boxed (w3.setCell ⟨w2.heap.size, a, none⟩ (.bool true)) w.heap.size 2 (.int .i64 ((sj s (j + 1) : Nat) : Int)) := by
                rw [HS0.out]
                exact (Below.heap_setCell _ _ _ _ (show w.heap.size ≠ w2.heap.size by omega)).trans HX3.out
              have h2 : Dbb (w3.setCell ⟨w2.heap.size, a, none⟩ (.bool true)) w2.heap.size n (wj n s (j + 1)).testBit := (HZ3.out.set (j := a) true).congr (fun i _ => by
                rw [HS1.out, Nat.testBit_or, Nat.testBit_two_pow]
                by_cases e : i = a
                · rw [if_pos e, e]; simp
                · rw [if_neg e, decide_eq_false (fun e2 => e e2.symm), Bool.or_false])
              have h3 : Below w.heap.size w (w3.setCell ⟨w2.heap.size, a, none⟩ (.bool true)) := HB3.out.setCell (p := ⟨w2.heap.size, a, none⟩) (show w.heap.size ≤ w2.heap.size by omega) _
              have hkc : k - (j + 1) = c := by omega
              exact ⟨⟨j + 1, _, by omega, by rw [hkc], rfl, Lib.hid h1, Lib.hid h2, Lib.hid h3⟩, by simp [intOf]⟩
        · obtain rfl : j = k := by omega
          have hkk : ((j - j : Nat) : Int) = 0 := by omega
          rw [hkk]
          have HWF : Hid (wj n s j = WR) := Lib.hid HWD.out.symm
          generalize wj n s j = W at HWF HZ
          obtain rfl := HWF.out
          clear HWF HWD
          have hsw := HW.out.size
          go_wp2
          have HOE := Lib.hid (drp_empty wr 2)
          go_loopw [9, 43] (fun v0 iv w' => ∃ (i : Nat) (v : Value) (w4 : World), i ≤ n ∧ v = v0 ∧ iv = .int .i64 (i : Int) ∧ w4 = w' ∧ Hid (Dbb w4 w2.heap.size n W.testBit) ∧ Hid (w4.ownsRow wr.heap.size 2 1 v (plc W i).length ((plc W i).map (Value.int .i64))) ∧ Hid (Below w.heap.size w w4) ∧ Hid (wr.heap.size ≤ w4.heap.size)) (fun _ iv _ => n - (intOf iv).toNat)
          case atStart => exact ⟨0, _, _, by omega, rfl, rfl, rfl, Lib.hid (HZ.out.block (Below.heap_alloc _ _ _ HZ.out.1) (by simp)), HOE, Lib.hid (HW.out.alloc hsw _), Lib.hid (by simp)⟩
          case round =>
            obtain ⟨i, v, w4, hi4, rfl, rfl, rfl, HZ4, HO, HW4, HS4⟩ := hrel
            by_cases hlt4 : i < n
            · obtain ⟨hca, hfa⟩ := HZ4.out.2 i hlt4
              have hlen := plc_len W i
              have HNE := Lib.hid (own_block HO.out)
              have hs4 := HS4.out
              have hzl := HZ4.out.1
              cases hb : W.testBit i with
              | true =>
                have HF : Hid (plc W (i + 1) = plc W i ++ [(i : Int)]) := Lib.hid (by show (if W.testBit i = true then _ else _) = _; rw [if_pos hb])
                rw [hb] at hca
                clear hb
                generalize plc W i = L at HF HO hlen
                have hl2 : L.length ≤ 32 := by omega
                go_wp2_with (first | (at_builtin; refine wpList_append_lies _ rfl _ _ 22 rfl (wr.heap.size) 2 i0 (.int .i64 0) 1 8 Tryd.underlying22 hi hz0 hz1 hz2 rfl (by omega) v L.length (L.map (Value.int .i64)) rfl (World.ownsRow.alloc HO.out _) ⟨w4.heap.size, 0, none⟩ 1 1 [.int .i64 (i : Int)] rfl rfl (World.news_of_block (cs := #[.int .i64 (i : Int)]) (t := 2) (fr := (0, 0)) (heap_alloc_new _ _)) (by simp [Value.oneCell']) (by omega) (by unfold maxLen; omega) (by omega) (by simp; omega) (w4.heap.size + 1) (by simp) ?_; intro gg cp w5 hown1 hgrow hat hlt5; have HO2 := Lib.hid hown1; have HG2 := Lib.hid hgrow; clear hown1 hgrow hat hlt5) | fail)
                exact ⟨⟨i + 1, _, _, by omega, rfl, by first | rfl | go_num | (congr 1), rfl, Lib.hid (HZ4.out.block ((HG2.out.block _ (by simp; omega) (fun e => by have := HNE.out _ e.symm; have := HZ.out.1; omega)).trans (Below.heap_alloc _ _ _ hzl)) (Nat.le_trans (by simp) HG2.out.size)), Lib.hid (by rw [HF.out]; simpa using HO2.out), Lib.hid (Below.grown (Below.alloc HW4.out HW4.out.size _) HG2.out (by simp; omega) (fun k hk => by have := HNE.out k hk; omega)), Lib.hid (Nat.le_trans hs4 (Nat.le_trans (by simp) HG2.out.size))⟩, by show n - ((i : Int) + 1).toNat < n - (i : Int).toNat; omega⟩
              | false =>
                have HF : Hid (plc W (i + 1) = plc W i) := Lib.hid (by show (if W.testBit i = true then _ else _) = _; rw [if_neg (by rw [hb]; decide)])
                rw [hb] at hca
                clear hb
                go_wp2
                exact ⟨⟨i + 1, _, _, by omega, rfl, by first | rfl | go_num | (congr 1), rfl, HZ4, Lib.hid (by rw [HF.out]; exact HO.out), HW4, HS4⟩, by show n - ((i : Int) + 1).toNat < n - (i : Int).toNat; omega⟩
            · obtain rfl : i = n := by omega
              have hle := HKL.out.2
              obtain ⟨g3, cp3, e, hnew⟩ := drp_new (HO.out.mono hsw) HW4.out (by rw [← hle, ← HKL.out.1]; omega)
              subst e
              rw [← hle, ← HKL.out.1] at hnew
              have HNW := Lib.hid hnew
              have hLK : (plc W i).length = KK := by rw [← hle, ← HKL.out.1]
              rw [hLK]
              clear hnew HO
              go_wp2
              go_ret
              exact ⟨_, _, rfl, HNW.out⟩
end Go.Proofs.YtnljabgkaelplaaDoor
