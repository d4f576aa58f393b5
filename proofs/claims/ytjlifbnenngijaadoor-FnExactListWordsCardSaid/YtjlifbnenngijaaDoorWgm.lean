
/- How many words of a code have each weight: the model. -/
import Derived.Test.YtjlifbnenngijaaDoorDba
set_option linter.unusedVariables false
namespace Go.Proofs.YtjlifbnenngijaaDoor
open Go.Proofs.YtjlifbnenngijaaDoor.Flo Go.RowKit Go.Shelf Go.Proofs.YtjlifbnenngijaaDoor.Pr

theorem wtF_le_pow : ∀ (f m x : Nat), x < 2 ^ m → wtF f x ≤ m
  | 0, _, _, _ => Nat.zero_le _
  | f + 1, 0, x, h => by
    have : x = 0 := by have : x < 1 := h; omega
    subst this; rw [wtF_zero]; exact Nat.le_refl _
  | f + 1, m + 1, x, h => by
    have := wtF_le_pow f m (x / 2) (by rw [Nat.pow_succ] at h; omega)
    show x % 2 + wtF f (x / 2) ≤ m + 1
    omega
theorem wt_pow {m x : Nat} (h : x < 2 ^ m) : wt x ≤ m := wtF_le_pow 16 m x h
/-- How many of the first k words have the weight j. -/
def cw (z : Nat → Nat) (n : Nat) : Nat → Nat → Nat
  | 0, _ => 0
  | k + 1, j => cw z n k j + if wt (ew z n k) = j then 1 else 0
theorem cw_le (z : Nat → Nat) (n : Nat) : ∀ k j, cw z n k j ≤ k
  | 0, _ => Nat.le_refl _
  | k + 1, j => by
    have := cw_le z n k j
    unfold cw
    split <;> omega
def cL (z : Nat → Nat) (n m k : Nat) : List Int := (List.range (m + 1)).map fun j => ((cw z n k j : Nat) : Int)
theorem cL_len (z : Nat → Nat) (n m k : Nat) : (cL z n m k).length = m + 1 := by unfold cL; simp
theorem cL_get (z : Nat → Nat) (n m k : Nat) {j : Nat} (h : j < m + 1) : (cL z n m k).getD j 0 = ((cw z n k j : Nat) : Int) := by
  unfold cL
  rw [List.getD_eq_getElem?_getD]
  simp [h]
theorem cL_zero (z : Nat → Nat) (n m : Nat) : cL z n m 0 = List.replicate (m + 1) 0 := by
  apply List.ext_getElem
  · simp [cL]
  · intro i h1 h2
    simp [cL, cw]
theorem cL_set (z : Nat → Nat) (n m k : Nat) (h : wt (ew z n k) < m + 1) : (cL z n m k).set (wt (ew z n k)) ((cw z n k (wt (ew z n k)) + 1 : Nat) : Int) = cL z n m (k + 1) := by
  apply List.ext_getElem
  · simp [cL]
  · intro i h1 h2
    simp only [cL, List.getElem_set, List.getElem_map, List.getElem_range, cw]
    by_cases e : wt (ew z n k) = i
    · rw [if_pos e, if_pos e, e]
    · rw [if_neg e, if_neg e, Nat.add_zero]
def awL (z : Nat → Nat) (n k : Nat) : List Int := (List.range k).map fun y => ((ew z n y : Nat) : Int)
theorem awL_len (z : Nat → Nat) (n k : Nat) : (awL z n k).length = k := by unfold awL; simp
theorem awL_on (z : Nat → Nat) (n k : Nat) : (awL z n (k + 1)).map (Value.int .i64) = (awL z n k).map (Value.int .i64) ++ [.int .i64 ((ew z n k : Nat) : Int)] := by unfold awL; simp [List.range_succ]
theorem awL_get (z : Nat → Nat) (n k : Nat) {j : Nat} (h : j < k) : (awL z n k).getD j 0 = ((ew z n j : Nat) : Int) := by
  unfold awL
  rw [List.getD_eq_getElem?_getD]
  simp [h]
theorem made_eq6 (n : Nat) : madeCells #[Value.int .i64 0] n = Array.replicate n (Value.int .i64 0) := by
  apply Array.ext
  · simp [madeCells]
  · intro i h1 h2
    simp [madeCells, Nat.mod_one]
theorem icl_made6 (w : World) (n : Nat) (T : TypeId) : ICl (w.alloc (.cells (madeCells #[Value.int .i64 0] n) T)) w.heap.size n (List.replicate n 0) := by
  refine ⟨by simp, by show (List.replicate n (0 : Int)).length = n; simp, fun i hi => ⟨?_, World.frozen?_alloc_at _ _ _ _ rfl⟩⟩
  have hi : i < n := hi
  rw [World.cell?_alloc_at _ _ _ _ rfl, made_eq6]
  show (Array.replicate n (Value.int .i64 0))[i]? = some (Value.int .i64 ((List.replicate n (0 : Int)).getD i 0))
  rw [List.getD_eq_getElem?_getD]
  simp [hi]
set_option maxRecDepth 100000 in
set_option maxHeartbeats 4000000 in
theorem all_spec (p b1 o1 n cap N : Nat) (zs : List Int) (w : World) (h : IRow w (some ⟨b1, o1, none⟩) n zs) (hps : p < w.heap.size) (hn1 : 1 ≤ n) (hn : n ≤ 8) (hz : woP zs n 16) (hp : w.cell? ⟨p, 1, none⟩ = some (.slice (some ⟨b1, o1, none⟩) n cap)) (hN : 2 ^ n = N) :
    Calls Tryd.prog 59 #[.pointer (some ⟨p, 0, none⟩)] w fun e w' => ∃ g cp, e = .returned (.slice (some ⟨g, 0, none⟩) N cp) ∧ New w w' g (.il N (awL (zN zs) n N)) := by
  obtain ⟨i0, hi, hz0, hz1, hz2⟩ := info_parts Tryd.info64
  have hp8 : 2 ^ n ≤ 2 ^ 8 := Nat.pow_le_pow_right (by decide) hn
  have hp2 : 2 ^ 1 ≤ 2 ^ n := Nat.pow_le_pow_right (by decide) hn1
  have hN8 : N ≤ 256 := by omega
  have hN2 : 2 ≤ N := by omega
  have hmin : min n 64 = n := by omega
  have hwu : IntKind.u64.wrap (n : Int) = (n : Int) := by rw [IntKind.wrap_u64]; omega
  have hwp : IntKind.i64.wrap ((2 : Int) ^ n) = (N : Int) := by
    have e : (2 : Int) ^ n = (N : Int) := by rw [← hN]; simp
    rw [e]; exact IntWalk.i64_in _ (by omega)
  have HA := Lib.hid h
  have HZ := Lib.hid hz
  have HPP : Hid (∀ w3 : World, Below w.heap.size w w3 → w3.cell? ⟨p, 1, none⟩ = some (.slice (some ⟨b1, o1, none⟩) n cap)) := Lib.hid (fun w3 hb => (hb.cell (p := ⟨p, 1, none⟩) hps).trans hp)
  have HE := Lib.hid (own_empty w 2)
  clear h hz hN hp8 hp2 hp
  go_enter Tryd.func59, Tryd.ntmps59
  go_wp2
  go_loopw [3, 4] (fun v0 kv w' => ∃ (k : Nat) (v : Value) (wr : World), k ≤ N ∧ v = v0 ∧ kv = .int .i64 (k : Int) ∧ wr = w' ∧ Hid (wr.ownsRow w.heap.size 2 1 v k ((awL (zN zs) n k).map (Value.int .i64))) ∧ Hid (Below w.heap.size w wr)) (fun _ kv _ => N - (intOf kv).toNat)
  case atStart => exact ⟨0, _, _, by omega, rfl, rfl, rfl, Lib.hid HE.out, Lib.hid (belowA _ _)⟩
  case round =>
    obtain ⟨k, v, wr, hk, rfl, rfl, rfl, HO, HW⟩ := hrel
    have hp1 := HPP.out _ HW.out
    have hwk : IntKind.i64.wrap ((k : Int) + 1) = (k : Int) + 1 := IntWalk.i64_in _ (by omega)
    have hws := HW.out.size
    by_cases hlt : k < N
    · have HP1 := Lib.hid hp1
      have HEN : Hid (Calls Tryd.prog 50 #[.pointer (some ⟨p, 0, none⟩), .int .i64 (k : Int)] wr fun e w' => e = .returned (.int .i64 (ew (zN zs) n k : Int)) ∧ wr = w') := Lib.hid (enc_spec p b1 o1 n cap zs k wr (HA.out.below HW.out) (by omega) HZ.out (by omega) HP1.out)
      have HD := Lib.hid (awL_on (zN zs) n k)
      have HNE := Lib.hid (own_block HO.out)
      generalize ew (zN zs) n k = E at HEN HD
      generalize hDL : (awL (zN zs) n k).map (Value.int .i64) = DL at HO HD
      have HO1 := Lib.hid HO.out.1
      clear hDL
      go_wp2_with (first | (go_at_call 50; (with_reducible refine HEN.out.mono ?_); rintro e w' ⟨rfl, hw⟩; subst hw) | (at_builtin; refine wpList_append_lies _ rfl _ _ 22 rfl (w.heap.size) 2 i0 (.int .i64 0) 1 8 Tryd.underlying22 hi hz0 hz1 hz2 rfl (by omega) v k DL rfl (World.ownsRow.alloc HO.out _) ⟨wr.heap.size, 0, none⟩ 1 1 [.int .i64 (E : Int)] rfl rfl (World.news_of_block (cs := #[.int .i64 (E : Int)]) (t := 2) (fr := (0, 0)) (heap_alloc_new _ _)) (by simp [Value.oneCell']) (by omega) (by unfold maxLen; omega) (by omega) (by simp; omega) (wr.heap.size + 1) (by simp) ?_; intro gg cp2 w5 hown1 hgrow hat hlt9; have HO2 := Lib.hid hown1; have HG2 := Lib.hid hgrow; clear hown1 hgrow hat hlt9) | fail)
      exact ⟨⟨k + 1, _, _, hlt, rfl, by first | rfl | go_num | (congr 1), rfl, Lib.hid (by rw [HD.out]; exact HO2.out), Lib.hid (Below.grown (Below.alloc HW.out HW.out.size _) HG2.out (by simp; omega) HNE.out)⟩, by show N - ((k : Int) + 1).toNat < N - (k : Int).toNat; omega⟩
    · obtain rfl : k = N := by omega
      have HF := Lib.hid (own_irowF HO.out (by omega))
      go_wp2
      go_ret
      obtain ⟨g, cp, e, hg, hgl, hir, hfz⟩ := HF.out
      exact ⟨g, cp, by rw [e]; rfl, ⟨hg, hgl, Ent.il_ok hir hfz, HW.out⟩⟩
set_option maxRecDepth 100000 in
set_option maxHeartbeats 4000000 in
theorem wgs_spec (p m b1 o1 n cap N : Nat) (zs : List Int) (w : World) (h : IRow w (some ⟨b1, o1, none⟩) n zs) (hps : p < w.heap.size) (hm : m ≤ 16) (hn1 : 1 ≤ n) (hn : n ≤ 8) (hz : woP zs n m) (h0 : w.cell? ⟨p, 0, none⟩ = some (.int .i64 (m : Int))) (hp : w.cell? ⟨p, 1, none⟩ = some (.slice (some ⟨b1, o1, none⟩) n cap)) (hN : 2 ^ n = N) :
    Calls Tryd.prog 61 #[.pointer (some ⟨p, 0, none⟩)] w fun e w' => ∃ g cp, e = .returned (.slice (some ⟨g, 0, none⟩) (m + 1) cp) ∧ New w w' g (.il (m + 1) (cL (zN zs) n m N)) := by
  have hp8 : 2 ^ n ≤ 2 ^ 8 := Nat.pow_le_pow_right (by decide) hn
  have hN8 : N ≤ 256 := by omega
  obtain ⟨M, hM⟩ : ∃ M, M = m + 1 := ⟨_, rfl⟩
  have hwm : IntKind.i64.wrap ((m : Int) + 1) = (M : Int) := by rw [IntWalk.i64_in _ (by omega)]; omega
  have hmM : (m : Int) + 1 = (M : Int) := by omega
  have hmk := fun w9 : World => run_make_row' (P := Tryd.prog) 22 2 (.int .i64 0) 8 Tryd.underlying22 Tryd.info64 rfl .i64 .i64 M (by omega) (by omega) w9
  have HMK := Lib.hid (icl_made6 w M 2)
  have HBA : Hid (Below w.heap.size w (w.alloc (.cells (madeCells #[Value.int .i64 0] M) 2))) := Lib.hid (below_alloc _ _)
  have HAL : Hid (∀ w3 : World, Below w.heap.size w w3 → Calls Tryd.prog 59 #[.pointer (some ⟨p, 0, none⟩)] w3 fun e w' => ∃ g cp, e = .returned (.slice (some ⟨g, 0, none⟩) N cp) ∧ New w3 w' g (.il N (awL (zN zs) n N))) := Lib.hid (fun w3 hb => all_spec p b1 o1 n cap N zs w3 (h.below hb) (Nat.lt_of_lt_of_le hps hb.size) hn1 hn (woP_wide hz hm) ((hb.cell (p := ⟨p, 1, none⟩) hps).trans hp) hN)
  have HWT := Lib.hid (fun y => wt_pow (ew_lt (z := zN zs) (n := n) (m := m) (fun i hi => (zN_at hz hi).2) y))
  have HE16 := Lib.hid (fun y => (ew_lt (z := zN zs) (n := n) (m := 16) (fun i hi => (zN_at (woP_wide hz hm) hi).2) y))
  have HM := Lib.hid hM
  clear h hz hN hp8 hp hM
  go_enter Tryd.func61, Tryd.ntmps61
  go_wp2_with fail
  refine (HAL.out _ HBA.out).mono ?_
  rintro e w2 ⟨g, cp, rfl, hnw⟩
  have HMK2 := Lib.hid (HMK.out.below hnw.2.2.2)
  have HIC := Lib.hid (ICl.of hnw)
  have hgg : w.heap.size < g := by
    have h9 := hnw.1
    simp at h9
    omega
  have HB2 := Lib.hid (Below.next HBA.out hnw.2.2.2)
  clear hnw
  go_wp2
  clear hwm hmM hmk
  go_loopw [5] (fun kv w' => ∃ (k : Nat) (wr : World), k ≤ N ∧ kv = .int .i64 (k : Int) ∧ wr = w' ∧ Hid (ICl wr w.heap.size M (cL (zN zs) n m k)) ∧ Hid (ICl wr g N (awL (zN zs) n N)) ∧ Hid (Below w.heap.size w wr)) (fun kv _ => N - (intOf kv).toNat)
  case atStart => exact ⟨0, _, by omega, rfl, rfl, Lib.hid (by rw [cL_zero, ← HM.out]; exact HMK2.out), HIC, HB2⟩
  case round =>
    clear HMK2 HIC HB2 HMK HBA
    obtain ⟨k, wr, hk, rfl, rfl, HI, HG, HW⟩ := hrel
    by_cases hlt : k < N
    · have hck := (HG.out.cell hlt).1
      rw [awL_get (zN zs) n N hlt] at hck
      have hwt := HWT.out k
      have hwM : wt (ew (zN zs) n k) < M := by have := HM.out; omega
      have HE := Lib.hid (HE16.out k)
      have hcc := HI.out.cell hwM
      obtain ⟨hc1, hc2⟩ := hcc
      rw [cL_get (zN zs) n m k (by have := HM.out; omega)] at hc1
      have hle := cw_le (zN zs) n k (wt (ew (zN zs) n k))
      have HS : Hid ((cL (zN zs) n m k).set (wt (ew (zN zs) n k)) (((cw (zN zs) n k (wt (ew (zN zs) n k)) + 1 : Nat) : Int)) = cL (zN zs) n m (k + 1)) := Lib.hid (cL_set (zN zs) n m k (by have := HM.out; omega))
      have HWO : Hid (Calls Tryd.prog 41 #[.int .i64 (ew (zN zs) n k : Int)] wr fun e w' => e = .returned (.int .i64 (wt (ew (zN zs) n k) : Int)) ∧ wr = w') := Lib.hid (wo_spec _ wr HE.out)
      generalize cw (zN zs) n k (wt (ew (zN zs) n k)) = c at hc1 hle HS
      generalize wt (ew (zN zs) n k) = q at hwt hwM hc1 hc2 HS HWO
      generalize ew (zN zs) n k = E at hck HWO HE
      have hwc : IntKind.i64.wrap ((c : Int) + 1) = ((c + 1 : Nat) : Int) := by rw [IntWalk.i64_in _ (by omega)]; omega
      have hcn : (c : Int) + 1 = ((c + 1 : Nat) : Int) := by omega
      have HP := Lib.hid (HI.out.put hwM ((c + 1 : Nat) : Int))
      rw [HS.out] at HP
      have HG2 := Lib.hid (HG.out.far (a := ⟨w.heap.size, q, none⟩) (show w.heap.size ≠ g by omega) (.int .i64 ((c + 1 : Nat) : Int)))
      have HW2 : Hid (Below w.heap.size w (wr.setCell ⟨w.heap.size, q, none⟩ (.int .i64 ((c + 1 : Nat) : Int)))) := Lib.hid (Below.setCell HW.out (Nat.le_refl _) _)
      generalize c + 1 = c1 at hwc hcn HP HG2 HW2
      clear HS
      go_wp2_with (first | (go_at_call 41; (with_reducible refine HWO.out.mono ?_); rintro e w' ⟨rfl, hw⟩; subst hw) | fail)
      exact ⟨⟨k + 1, _, hlt, by first | rfl | go_num | (congr 1), rfl, HP, HG2, HW2⟩, by show N - ((k : Int) + 1).toNat < N - (k : Int).toNat; omega⟩
    · obtain rfl : k = N := by omega
      go_wp2
      go_ret
      exact ⟨w.heap.size, M, by rw [HM.out]; rfl, by rw [← HM.out]; exact ⟨Nat.le_refl _, HI.out.1, HI.out.2, HW.out⟩⟩
def wgN (r : Int) : Nat := r.toNat + 1
def wgL (r : Int) (zs : List Int) (n : Nat) : List Int := cL (zN zs) n r.toNat (2 ^ n)
set_option maxRecDepth 100000 in
set_option maxHeartbeats 4000000 in
theorem wg_specNo (r : Int) (a : Option Addr) (n cap : Nat) (zs : List Int) (w : World) (h : IRow w a n zs) (hn : n ≤ 1048576) (hok : paB r zs n = false) : Calls Tryd.prog 30 #[.agg #[.int .i64 r, .slice a n cap]] w fun e w' => e = .returned (.tuple #[.slice none 0 0, .bool false]) ∧ Below w.heap.size w w' := by
  have HC := Lib.hid (Kin.new (w := w) (x := .int .i64 r) (y := .slice a n cap) (T := 24))
  have HA := Lib.hid (h.alloc (.cells #[.int .i64 r, .slice a n cap] 24))
  have HIS : Hid (Calls Tryd.prog 48 #[.pointer (some ⟨w.heap.size, 0, none⟩)] (w.alloc (.cells #[.int .i64 r, .slice a n cap] 24)) fun e w' => e = .returned (.bool false) ∧ Below (w.alloc (.cells #[.int .i64 r, .slice a n cap] 24)).heap.size (w.alloc (.cells #[.int .i64 r, .slice a n cap] 24)) w') := Lib.hid (by have := pi_spec w.heap.size r a n cap zs (w.alloc (.cells #[.int .i64 r, .slice a n cap] 24)) (h.alloc _) hn (by simp) HC.out.2.1 HC.out.2.2.1; rw [hok] at this; exact this)
  clear h hok
  go_enter Tryd.func30, Tryd.ntmps30
  go_wp2_with (first | (go_at_call 48; (with_reducible refine HIS.out.mono ?_); rintro e w2 ⟨rfl, hb⟩; have HB := Lib.hid (Below.next (below_alloc _ _ : Below w.heap.size w (w.alloc (.cells #[.int .i64 r, .slice a n cap] 24))) hb); have HA2 := Lib.hid (HA.out.below hb); have HK := Lib.hid (HC.out.below hb); have hp0 := HK.out.2.1; have hp1 := HK.out.2.2.1; have HP1 := Lib.hid hp1; clear hb) | fail)
  exact bodyPost_ret (v := .tuple #[.slice none 0 0, .bool false]) (by simp [results, Tryd.results30, go_sem]) rfl ⟨rfl, HB.out⟩
set_option maxRecDepth 100000 in
set_option maxHeartbeats 4000000 in
theorem wg_specYes (r : Int) (a : Option Addr) (n cap : Nat) (zs : List Int) (w : World) (h : IRow w a n zs) (hn : n ≤ 1048576) (hok : paB r zs n = true) : Calls Tryd.prog 30 #[.agg #[.int .i64 r, .slice a n cap]] w fun e w' => ∃ g cp, e = .returned (.tuple #[.slice (some ⟨g, 0, none⟩) (wgN r) cp, .bool true]) ∧ New w w' g (.il (wgN r) (wgL r zs n)) := by
  obtain ⟨⟨hr1, hr2⟩, ⟨hn1, hn8⟩, hwz, _⟩ := pa_out hok
  obtain ⟨m, rfl⟩ : ∃ m : Nat, r = (m : Int) := ⟨r.toNat, by omega⟩
  unfold wgN wgL
  rw [Int.toNat_natCast] at hwz ⊢
  have hm16 : m ≤ 16 := by omega
  obtain ⟨b1, o1, rfl⟩ := irow_some h hn1
  have HC := Lib.hid (Kin.new (w := w) (x := .int .i64 (m : Int)) (y := .slice (some ⟨b1, o1, none⟩) n cap) (T := 24))
  have HA := Lib.hid (h.alloc (.cells #[.int .i64 (m : Int), .slice (some ⟨b1, o1, none⟩) n cap] 24))
  have HIS : Hid (Calls Tryd.prog 48 #[.pointer (some ⟨w.heap.size, 0, none⟩)] (w.alloc (.cells #[.int .i64 (m : Int), .slice (some ⟨b1, o1, none⟩) n cap] 24)) fun e w' => e = .returned (.bool true) ∧ Below (w.alloc (.cells #[.int .i64 (m : Int), .slice (some ⟨b1, o1, none⟩) n cap] 24)).heap.size (w.alloc (.cells #[.int .i64 (m : Int), .slice (some ⟨b1, o1, none⟩) n cap] 24)) w') := Lib.hid (by have := pi_spec w.heap.size (m : Int) (some ⟨b1, o1, none⟩) n cap zs (w.alloc (.cells #[.int .i64 (m : Int), .slice (some ⟨b1, o1, none⟩) n cap] 24)) (h.alloc _) hn (by simp) HC.out.2.1 HC.out.2.2.1; rw [hok] at this; exact this)
  have HWG : Hid (∀ w3 : World, IRow w3 (some ⟨b1, o1, none⟩) n zs → w.heap.size < w3.heap.size → w3.cell? ⟨w.heap.size, 0, none⟩ = some (.int .i64 (m : Int)) → w3.cell? ⟨w.heap.size, 1, none⟩ = some (.slice (some ⟨b1, o1, none⟩) n cap) → Calls Tryd.prog 61 #[.pointer (some ⟨w.heap.size, 0, none⟩)] w3 fun e w' => ∃ g cp, e = .returned (.slice (some ⟨g, 0, none⟩) (m + 1) cp) ∧ New w3 w' g (.il (m + 1) (cL (zN zs) n m (2 ^ n)))) := Lib.hid (fun w3 h1 h2 h3 h4 => wgs_spec w.heap.size m b1 o1 n cap (2 ^ n) zs w3 h1 h2 hm16 hn1 hn8 hwz h3 h4 rfl)
  clear h hok hwz
  go_enter Tryd.func30, Tryd.ntmps30
  go_wp2_with (first | (go_at_call 48; (with_reducible refine HIS.out.mono ?_); rintro e w2 ⟨rfl, hb⟩; have HB := Lib.hid (Below.next (below_alloc _ _ : Below w.heap.size w (w.alloc (.cells #[.int .i64 (m : Int), .slice (some ⟨b1, o1, none⟩) n cap] 24))) hb); have HA2 := Lib.hid (HA.out.below hb); have HK := Lib.hid (HC.out.below hb); have hp0 := HK.out.2.1; have hp1 := HK.out.2.2.1; have HP1 := Lib.hid hp1; have HP0 := Lib.hid hp0; have HLT := Lib.hid HK.out.1; clear hb) | (go_at_call 61; (with_reducible refine (HWG.out _ HA2.out HLT.out HP0.out HP1.out).mono ?_); rintro e w3 ⟨g, cp, rfl, hnw⟩; have HNW := Lib.hid hnw; clear hnw) | fail)
  exact bodyPost_ret (v := .tuple #[.slice (some ⟨g, 0, none⟩) (m + 1) cp, .bool true]) (by simp [results, Tryd.results30, go_sem]) rfl ⟨g, cp, rfl, (Nat.le_trans HB.out.size HNW.out.1), HNW.out.2.1, HNW.out.2.2.1, Below.next HB.out HNW.out.2.2.2⟩
end Go.Proofs.YtjlifbnenngijaaDoor
