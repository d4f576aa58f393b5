
/- The least weight of a code: the functions. -/
import Derived.Test.YtjlifbnenngijaaDoorWgi
set_option linter.unusedVariables false
namespace Go.Proofs.YtjlifbnenngijaaDoor
open Go.Proofs.YtjlifbnenngijaaDoor.Flo Go.RowKit Go.Shelf Go.Proofs.YtjlifbnenngijaaDoor.Pr

theorem cw_pos {z : Nat → Nat} {n y : Nat} : ∀ k, y < k → 1 ≤ cw z n k (wt (ew z n y))
  | k + 1, h => by
    unfold cw
    by_cases e : y = k
    · subst e; rw [if_pos rfl]; omega
    · have := cw_pos (z := z) (n := n) (y := y) k (by omega); omega
theorem wtF_pos : ∀ (f x : Nat), x < 2 ^ f → x ≠ 0 → 1 ≤ wtF f x
  | 0, x, h, h0 => by have : x < 1 := h; omega
  | f + 1, x, h, h0 => by
    show 1 ≤ x % 2 + wtF f (x / 2)
    by_cases e : x / 2 = 0
    · omega
    · have := wtF_pos f (x / 2) (by rw [Nat.pow_succ] at h; omega) e
      omega
theorem ew_one (z : Nat → Nat) {n : Nat} (h : 1 ≤ n) : ew z n 1 = z 0 := by
  obtain ⟨k, rfl⟩ : ∃ k, n = k + 1 := ⟨n - 1, by omega⟩
  unfold ew dgs
  rw [dg, if_pos (by decide), show 1 / 2 = 0 by decide, dg_zero]
  simp
theorem lf_zero (z : Nat → Nat) : lf z 0 = z 0 := by unfold lf; simp [rdx]
/-- The least weight but 0. -/
def dsD (z : Nat → Nat) (n m : Nat) : Nat := ((List.range (m + 1)).find? fun d => decide (1 ≤ d ∧ cw z n (2 ^ n) d ≠ 0)).getD 0
theorem ds_out {zs : List Int} {n m : Nat} (hn1 : 1 ≤ n) (hz : woP zs n m) (hm : m ≤ 16) (ha : apP (zN zs) n) : 1 ≤ dsD (zN zs) n m ∧ dsD (zN zs) n m ≤ m ∧ cw (zN zs) n (2 ^ n) (dsD (zN zs) n m) ≠ 0 ∧ ∀ j, 1 ≤ j → j < dsD (zN zs) n m → cw (zN zs) n (2 ^ n) j = 0 := by
  have h0 : zN zs 0 ≠ 0 := by have := ha 0 hn1; rwa [lf_zero] at this
  have hl := (zN_at hz (show 0 < n by omega)).2
  have hw : wt (zN zs 0) ≤ m := wt_pow hl
  have hw1 : 1 ≤ wt (zN zs 0) := wtF_pos 16 _ (Nat.lt_of_lt_of_le hl (Nat.pow_le_pow_right (by decide) hm)) h0
  have hN : 1 < 2 ^ n := by
    have := Nat.pow_le_pow_right (show 0 < 2 by decide) hn1
    omega
  have hc : cw (zN zs) n (2 ^ n) (wt (zN zs 0)) ≠ 0 := by
    have := cw_pos (z := zN zs) (n := n) (y := 1) (2 ^ n) hN
    rw [ew_one _ hn1] at this
    omega
  cases hd : (List.range (m + 1)).find? fun d => decide (1 ≤ d ∧ cw (zN zs) n (2 ^ n) d ≠ 0) with
  | none =>
    rw [List.find?_range_eq_none] at hd
    have := hd (wt (zN zs 0)) (by omega)
    rw [decide_eq_true ⟨hw1, hc⟩] at this
    cases this
  | some d =>
    have e : dsD (zN zs) n m = d := by unfold dsD; rw [hd]; rfl
    rw [e]
    rw [List.find?_range_eq_some] at hd
    obtain ⟨h1, h2, h3⟩ := hd
    have h1 := of_decide_eq_true h1
    refine ⟨h1.1, by have := List.mem_range.1 h2; omega, h1.2, fun j hj1 hj2 => ?_⟩
    have h4 := h3 j hj2
    by_cases e2 : cw (zN zs) n (2 ^ n) j = 0
    · exact e2
    · rw [decide_eq_true ⟨hj1, e2⟩] at h4; cases h4
set_option maxRecDepth 100000 in
set_option maxHeartbeats 4000000 in
theorem cld (x : Nat) (w : World) : Calls Tryd.prog 64 #[.int .i64 (x : Int)] w fun e w' => e = .returned (.bool (decide (x ≠ 0))) ∧ w = w' := by
  by_cases h : x = 0
  · subst h
    go_enter Tryd.func64, Tryd.ntmps64
    go_wp2
    go_ret
    exact ⟨rfl, rfl⟩
  · have hd : decide (0 < (x : Int)) = true := decide_eq_true (by omega)
    have hd2 : decide (0 < x) = true := decide_eq_true (by omega)
    have HD2 := Lib.hid hd2
    have HF : Hid (decide (x ≠ 0) = true) := Lib.hid (decide_eq_true h)
    clear h
    go_enter Tryd.func64, Tryd.ntmps64
    go_wp2
    go_ret
    exact ⟨ret_bool2 HF.out.symm, rfl⟩
set_option maxRecDepth 100000 in
set_option maxHeartbeats 4000000 in
theorem ixd (g K cap d : Nat) (c : Nat → Nat) (w : World) (hc : ∀ j, j ≤ K → w.cell? ⟨g, j, none⟩ = some (.int .i64 ((c j : Nat) : Int))) (hK : K ≤ 16) (hd1 : 1 ≤ d) (hdK : d ≤ K) (hpos : c d ≠ 0) (hz : ∀ j, 1 ≤ j → j < d → c j = 0) :
    Calls Tryd.prog 63 #[.slice (some ⟨g, 1, none⟩) K cap, .func (.func 64) #[] #[]] w fun e w' => e = .returned (.int .i64 ((d - 1 : Nat) : Int)) ∧ w = w' := by
  have HC := Lib.hid hc
  have HZ := Lib.hid hz
  have HP := Lib.hid hpos
  clear hc hz hpos
  go_enter Tryd.func63, Tryd.ntmps63
  go_wp2
  go_loop [8] (fun jv => ∃ j : Nat, j + 1 ≤ d ∧ jv = .int .i64 j) (fun jv => K - (intOf jv).toNat)
  case atStart => exact ⟨0, by omega, rfl⟩
  case round =>
    obtain ⟨j, hj, rfl⟩ := hrel
    have hlt : j < K := by omega
    have hck := HC.out (1 + j) (by omega)
    by_cases he : j + 1 = d
    · have hcd : decide (c (1 + j) ≠ 0) = true := decide_eq_true (by rw [show 1 + j = d by omega]; exact HP.out)
      have HCL := Lib.hid (fun w3 => cld (c (1 + j)) w3)
      rw [hcd] at HCL
      generalize c (1 + j) = x at hck HCL
      obtain rfl : d = j + 1 := he.symm
      clear hcd he
      go_wp2_with (first | (go_at_call 64; refine (HCL.out _).mono ?_; rintro e w' ⟨rfl, hw⟩; subst hw) | fail)
      go_ret
      exact ⟨rfl, rfl⟩
    · have hcd : decide (c (1 + j) ≠ 0) = false := decide_eq_false (fun e => e (HZ.out (1 + j) (by omega) (by omega)))
      have HCL := Lib.hid (fun w3 => cld (c (1 + j)) w3)
      rw [hcd] at HCL
      generalize c (1 + j) = x at hck HCL
      clear hcd
      go_wp2_with (first | (go_at_call 64; refine (HCL.out _).mono ?_; rintro e w' ⟨rfl, hw⟩; subst hw) | fail)
      go_round
      case rel => exact ⟨j + 1, by omega, by go_num⟩
      case measure => simp [intOf]; omega
set_option maxRecDepth 100000 in
set_option maxHeartbeats 4000000 in
theorem ds_implNo (r : Int) (a : Option Addr) (n cap : Nat) (zs : List Int) (w0 w : World) (hp : Db w0) (hb0 : Below w0.heap.size w0 w) (h : IRow w a n zs) (hn : n ≤ 1048576) (hok : paB r zs n = false) : Calls Tryd.prog 33 #[.agg #[.int .i64 r, .slice a n cap]] w fun e w' => e = .returned (.tuple #[.int .i64 0, .bool false]) ∧ Below w.heap.size w w' := by
  have HA := Lib.hid (h.alloc (.cells #[.int .i64 r, .slice a n cap] 24))
  have HB0 := Lib.hid (Below.trans hb0 ((below_alloc w (.cells #[.int .i64 r, .slice a n cap] 24)).mono hb0.size))
  have HWG := Lib.hid (wg_implNo r a n cap zs w0 _ hp HB0.out HA.out hn hok)
  clear h hok hb0
  go_enter Tryd.func33, Tryd.ntmps33
  go_wp2_with (first | (go_at_call 31; (with_reducible refine HWG.out.mono ?_); rintro e w2 ⟨rfl, hb⟩; have HB := Lib.hid (Below.next (below_alloc _ _ : Below w.heap.size w (w.alloc (.cells #[.int .i64 r, .slice a n cap] 24))) hb); clear hb) | fail)
  exact bodyPost_ret (v := .tuple #[.int .i64 0, .bool false]) (by simp [results, Tryd.results33, go_sem]) rfl ⟨rfl, HB.out⟩
def dsV (r : Int) (zs : List Int) (n : Nat) : Int := ((dsD (zN zs) n r.toNat : Nat) : Int)
set_option maxRecDepth 100000 in
set_option maxHeartbeats 4000000 in
theorem ds_implYes (r : Int) (a : Option Addr) (n cap : Nat) (zs : List Int) (w0 w : World) (hp : Db w0) (hb0 : Below w0.heap.size w0 w) (h : IRow w a n zs) (hn : n ≤ 1048576) (hok : paB r zs n = true) : Calls Tryd.prog 33 #[.agg #[.int .i64 r, .slice a n cap]] w fun e w' => e = .returned (.tuple #[.int .i64 (dsV r zs n), .bool true]) ∧ Below w.heap.size w w' := by
  have HA := Lib.hid (h.alloc (.cells #[.int .i64 r, .slice a n cap] 24))
  have HB0 := Lib.hid (Below.trans hb0 ((below_alloc w (.cells #[.int .i64 r, .slice a n cap] 24)).mono hb0.size))
  have HWG := Lib.hid (wg_implYesC r a n cap zs w0 _ hp HB0.out HA.out hn hok)
  obtain ⟨⟨hr1, hr2⟩, ⟨hn1, hn8⟩, hwz, hap⟩ := pa_out hok
  obtain ⟨m, rfl⟩ : ∃ m : Nat, r = (m : Int) := ⟨r.toNat, by omega⟩
  unfold wgN wgL at HWG
  unfold dsV
  rw [Int.toNat_natCast] at hwz HWG ⊢
  have hm16 : m ≤ 16 := by omega
  obtain ⟨hd1, hdm, hdp, hdz⟩ := ds_out hn1 hwz hm16 hap
  have HCG : Hid (∀ (g : Nat) (w3 : World), ICl w3 g (m + 1) (cL (zN zs) n m (2 ^ n)) → ∀ cap9 : Nat, Calls Tryd.prog 63 #[.slice (some ⟨g, 1, none⟩) m cap9, .func (.func 64) #[] #[]] w3 fun e w' => e = .returned (.int .i64 ((dsD (zN zs) n m - 1 : Nat) : Int)) ∧ w3 = w') := Lib.hid (fun g w3 hi cap9 => ixd g m cap9 (dsD (zN zs) n m) (cw (zN zs) n (2 ^ n)) w3 (fun j hj => by rw [(hi.cell (show j < m + 1 by omega)).1, cL_get (zN zs) n m (2 ^ n) (show j < m + 1 by omega)]) hm16 hd1 hdm hdp hdz)
  generalize dsD (zN zs) n m = d at hd1 hdm HCG ⊢
  generalize cL (zN zs) n m (2 ^ n) = CL at HWG HCG
  have hwd : IntKind.i64.wrap (((d - 1 : Nat) : Int)) = ((d - 1 : Nat) : Int) := IntWalk.i64_in _ (by omega)
  have hwd1 : ((d - 1 : Nat) : Int) + 1 = (d : Int) := by omega
  have hw64 : wrap64 (d : Int) = (d : Int) := by unfold wrap64; omega
  have hne : ¬ 1 = m + 1 := by omega
  have hm0 : 1 ≤ m := by omega
  clear h hok hb0 hwz hap hdp hdz hd1 hdm
  go_enter Tryd.func33, Tryd.ntmps33
  go_wp2_with (first | (go_at_call 31; (with_reducible refine HWG.out.mono ?_); rintro e w2 ⟨g, rfl, hnw⟩; have HB := Lib.hid (Below.next (below_alloc _ _ : Below w.heap.size w (w.alloc (.cells #[.int .i64 (m : Int), .slice a n cap] 24))) hnw.2.2.2); have HI := Lib.hid (HCG.out g _ (ICl.of hnw)); clear hnw) | (go_at_call 63; (with_reducible refine (HI.out _).mono ?_); rintro e w' ⟨rfl, hw⟩; subst hw) | fail)
  exact bodyPost_ret (v := .tuple #[.int .i64 (d : Int), .bool true]) (by simp [results, Tryd.results33, go_sem, hw64]) rfl ⟨rfl, HB.out⟩
set_option maxRecDepth 100000 in
set_option maxHeartbeats 4000000 in
theorem dis_spec (p m b1 o1 n cap : Nat) (zs : List Int) (w : World) (h : IRow w (some ⟨b1, o1, none⟩) n zs) (hps : p < w.heap.size) (hok : paB (m : Int) zs n = true) (h0 : w.cell? ⟨p, 0, none⟩ = some (.int .i64 (m : Int))) (hp : w.cell? ⟨p, 1, none⟩ = some (.slice (some ⟨b1, o1, none⟩) n cap)) :
    Calls Tryd.prog 62 #[.pointer (some ⟨p, 0, none⟩)] w fun e w' => e = .returned (.int .i64 (dsV (m : Int) zs n)) ∧ Below w.heap.size w w' := by
  obtain ⟨⟨hr1, hr2⟩, ⟨hn1, hn8⟩, hwz, hap⟩ := pa_out hok
  unfold dsV
  rw [Int.toNat_natCast] at hwz ⊢
  have hm16 : m ≤ 16 := by omega
  obtain ⟨hd1, hdm, hdp, hdz⟩ := ds_out hn1 hwz hm16 hap
  have HWG := Lib.hid (wgs_spec p m b1 o1 n cap (2 ^ n) zs w h hps hm16 hn1 hn8 hwz h0 hp rfl)
  have HC := Lib.hid (fun (g : Nat) (w3 : World) (hi : ICl w3 g (m + 1) (cL (zN zs) n m (2 ^ n))) (j : Nat) (hj : j ≤ m) => (show w3.cell? ⟨g, j, none⟩ = some (.int .i64 ((cw (zN zs) n (2 ^ n) j : Nat) : Int)) by rw [(hi.cell (show j < m + 1 by omega)).1, cL_get (zN zs) n m (2 ^ n) (show j < m + 1 by omega)]))
  have HP := Lib.hid hdp
  have HZ := Lib.hid hdz
  generalize dsD (zN zs) n m = d at hd1 hdm HP HZ ⊢
  generalize cL (zN zs) n m (2 ^ n) = CL at HWG HC
  generalize cw (zN zs) n (2 ^ n) = c at HC HP HZ
  clear h hok h0 hp hwz hap hdp hdz
  go_enter Tryd.func62, Tryd.ntmps62
  go_wp2_with fail
  refine HWG.out.mono ?_
  rintro e w2 ⟨g, cp, rfl, hnw⟩
  have HB := Lib.hid hnw.2.2.2
  have HC2 := Lib.hid (HC.out g _ (ICl.of hnw))
  clear hnw
  go_wp2
  go_loop [4] (fun dv => ∃ k : Nat, 1 ≤ k ∧ k ≤ d ∧ dv = .int .i64 (k : Int)) (fun dv => d - (intOf dv).toNat)
  case atStart => exact ⟨1, by omega, hd1, rfl⟩
  case round =>
    obtain ⟨k, hk1, hk2, rfl⟩ := hrel
    have hck := HC2.out k (by omega)
    by_cases he : k = d
    · have hne : ((c k : Int) == 0) = false := by have := HP.out; rw [← he] at this; simpa using this
      generalize c k = x at hck hne
      subst he
      go_wp2
      go_ret
      exact ⟨rfl, HB.out⟩
    · have hz := HZ.out k hk1 (by omega)
      rw [hz] at hck
      clear hz
      go_wp2
      go_round
      case rel => exact ⟨k + 1, by omega, by omega, by go_num⟩
      case measure => simp [intOf]; omega
set_option maxRecDepth 100000 in
set_option maxHeartbeats 4000000 in
theorem ds_specNo (r : Int) (a : Option Addr) (n cap : Nat) (zs : List Int) (w : World) (h : IRow w a n zs) (hn : n ≤ 1048576) (hok : paB r zs n = false) : Calls Tryd.prog 32 #[.agg #[.int .i64 r, .slice a n cap]] w fun e w' => e = .returned (.tuple #[.int .i64 0, .bool false]) ∧ Below w.heap.size w w' := by
  have HC := Lib.hid (Kin.new (w := w) (x := .int .i64 r) (y := .slice a n cap) (T := 24))
  have HA := Lib.hid (h.alloc (.cells #[.int .i64 r, .slice a n cap] 24))
  have HIS : Hid (Calls Tryd.prog 48 #[.pointer (some ⟨w.heap.size, 0, none⟩)] (w.alloc (.cells #[.int .i64 r, .slice a n cap] 24)) fun e w' => e = .returned (.bool false) ∧ Below (w.alloc (.cells #[.int .i64 r, .slice a n cap] 24)).heap.size (w.alloc (.cells #[.int .i64 r, .slice a n cap] 24)) w') := Lib.hid (by have := pi_spec w.heap.size r a n cap zs (w.alloc (.cells #[.int .i64 r, .slice a n cap] 24)) (h.alloc _) hn (by simp) HC.out.2.1 HC.out.2.2.1; rw [hok] at this; exact this)
  clear h hok
  go_enter Tryd.func32, Tryd.ntmps32
  go_wp2_with (first | (go_at_call 48; (with_reducible refine HIS.out.mono ?_); rintro e w2 ⟨rfl, hb⟩; have HB := Lib.hid (Below.next (below_alloc _ _ : Below w.heap.size w (w.alloc (.cells #[.int .i64 r, .slice a n cap] 24))) hb); have HA2 := Lib.hid (HA.out.below hb); have HK := Lib.hid (HC.out.below hb); have hp0 := HK.out.2.1; have hp1 := HK.out.2.2.1; have HP1 := Lib.hid hp1; clear hb) | fail)
  exact bodyPost_ret (v := .tuple #[.int .i64 0, .bool false]) (by simp [results, Tryd.results32, go_sem]) rfl ⟨rfl, HB.out⟩
set_option maxRecDepth 100000 in
set_option maxHeartbeats 4000000 in
theorem ds_specYes (r : Int) (a : Option Addr) (n cap : Nat) (zs : List Int) (w : World) (h : IRow w a n zs) (hn : n ≤ 1048576) (hok : paB r zs n = true) : Calls Tryd.prog 32 #[.agg #[.int .i64 r, .slice a n cap]] w fun e w' => e = .returned (.tuple #[.int .i64 (dsV r zs n), .bool true]) ∧ Below w.heap.size w w' := by
  obtain ⟨⟨hr1, hr2⟩, ⟨hn1, hn8⟩, hwz, _⟩ := pa_out hok
  obtain ⟨m, rfl⟩ : ∃ m : Nat, r = (m : Int) := ⟨r.toNat, by omega⟩
  obtain ⟨b1, o1, rfl⟩ := irow_some h hn1
  have HC := Lib.hid (Kin.new (w := w) (x := .int .i64 (m : Int)) (y := .slice (some ⟨b1, o1, none⟩) n cap) (T := 24))
  have HA := Lib.hid (h.alloc (.cells #[.int .i64 (m : Int), .slice (some ⟨b1, o1, none⟩) n cap] 24))
  have HIS : Hid (Calls Tryd.prog 48 #[.pointer (some ⟨w.heap.size, 0, none⟩)] (w.alloc (.cells #[.int .i64 (m : Int), .slice (some ⟨b1, o1, none⟩) n cap] 24)) fun e w' => e = .returned (.bool true) ∧ Below (w.alloc (.cells #[.int .i64 (m : Int), .slice (some ⟨b1, o1, none⟩) n cap] 24)).heap.size (w.alloc (.cells #[.int .i64 (m : Int), .slice (some ⟨b1, o1, none⟩) n cap] 24)) w') := Lib.hid (by have := pi_spec w.heap.size (m : Int) (some ⟨b1, o1, none⟩) n cap zs (w.alloc (.cells #[.int .i64 (m : Int), .slice (some ⟨b1, o1, none⟩) n cap] 24)) (h.alloc _) hn (by simp) HC.out.2.1 HC.out.2.2.1; rw [hok] at this; exact this)
  have HDS : Hid (∀ w3 : World, IRow w3 (some ⟨b1, o1, none⟩) n zs → w.heap.size < w3.heap.size → w3.cell? ⟨w.heap.size, 0, none⟩ = some (.int .i64 (m : Int)) → w3.cell? ⟨w.heap.size, 1, none⟩ = some (.slice (some ⟨b1, o1, none⟩) n cap) → Calls Tryd.prog 62 #[.pointer (some ⟨w.heap.size, 0, none⟩)] w3 fun e w' => e = .returned (.int .i64 (dsV (m : Int) zs n)) ∧ Below w3.heap.size w3 w') := Lib.hid (fun w3 h1 h2 h3 h4 => dis_spec w.heap.size m b1 o1 n cap zs w3 h1 h2 hok h3 h4)
  generalize dsV (m : Int) zs n = V at HDS ⊢
  clear h hok hwz
  go_enter Tryd.func32, Tryd.ntmps32
  go_wp2_with (first | (go_at_call 48; (with_reducible refine HIS.out.mono ?_); rintro e w2 ⟨rfl, hb⟩; have HB := Lib.hid (Below.next (below_alloc _ _ : Below w.heap.size w (w.alloc (.cells #[.int .i64 (m : Int), .slice (some ⟨b1, o1, none⟩) n cap] 24))) hb); have HA2 := Lib.hid (HA.out.below hb); have HK := Lib.hid (HC.out.below hb); have hp0 := HK.out.2.1; have hp1 := HK.out.2.2.1; have HP1 := Lib.hid hp1; have HP0 := Lib.hid hp0; have HLT := Lib.hid HK.out.1; clear hb) | (go_at_call 62; (with_reducible refine (HDS.out _ HA2.out HLT.out HP0.out HP1.out).mono ?_); rintro e w3 ⟨rfl, hb⟩; have HB3 := Lib.hid (Below.next HB.out hb); clear hb) | fail)
  exact bodyPost_ret (v := .tuple #[.int .i64 V, .bool true]) (by simp [results, Tryd.results32, go_sem]) rfl ⟨rfl, HB3.out⟩
end Go.Proofs.YtjlifbnenngijaaDoor
