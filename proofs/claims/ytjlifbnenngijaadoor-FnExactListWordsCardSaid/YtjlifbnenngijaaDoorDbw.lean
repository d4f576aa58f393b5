
/- The message of a word: the model. -/
import Derived.Test.YtjlifbnenngijaaDoorEbw
import Derived.Test.YtjlifbnenngijaaDoorDwc
set_option linter.unusedVariables false
namespace Go.Proofs.YtjlifbnenngijaaDoor
open Go.Proofs.YtjlifbnenngijaaDoor.Flo Go.RowKit Go.Shelf Go.Proofs.YtjlifbnenngijaaDoor.Pr

/-- The first message whose word is x. -/
def dm (z : Nat → Nat) (n : Nat) (x : Int) : Option Nat := (List.range (2 ^ n)).find? fun m => decide ((ew z n m : Int) = x)
theorem dm_some {z : Nat → Nat} {n m : Nat} {x : Int} (hm : m < 2 ^ n) (h : (ew z n m : Int) = x) (hb : ∀ j, j < m → ¬ (ew z n j : Int) = x) : dm z n x = some m := by
  unfold dm
  rw [List.find?_range_eq_some]
  exact ⟨decide_eq_true h, List.mem_range.2 hm, fun j hj => by rw [decide_eq_false (hb j hj)]; rfl⟩
theorem dm_none {z : Nat → Nat} {n : Nat} {x : Int} (hb : ∀ j, j < 2 ^ n → ¬ (ew z n j : Int) = x) : dm z n x = none := by
  unfold dm
  rw [List.find?_range_eq_none]
  exact fun j hj => by rw [decide_eq_false (hb j hj)]; rfl
theorem dm_lt {z : Nat → Nat} {n m : Nat} {x : Int} (h : dm z n x = some m) : m < 2 ^ n ∧ (ew z n m : Int) = x := by
  unfold dm at h
  rw [List.find?_range_eq_some] at h
  exact ⟨List.mem_range.1 h.2.1, of_decide_eq_true h.1⟩
def msgV (o : Option Nat) : Int := match o with | some m => (m : Int) | none => -1
/-- A word that is none of the code's width is no word of it. -/
theorem dm_out {zs : List Int} {n m : Nat} {x : Int} (hz : woP zs n m) (h : woB x m = false) : dm (zN zs) n x = none := by
  refine dm_none fun j _ he => ?_
  have h1 := ew_lt (z := zN zs) (m := m) (fun i hi => (zN_at hz hi).2) j
  have h2 := of_decide_eq_false h
  have e : ((2 ^ m : Nat) : Int) = (2 : Int) ^ m := by simp
  exact h2 (by omega)
set_option maxRecDepth 100000 in
set_option maxHeartbeats 4000000 in
theorem msg_spec (p b1 o1 n cap : Nat) (zs : List Int) (x : Int) (w : World) (h : IRow w (some ⟨b1, o1, none⟩) n zs) (hn : n ≤ 8) (hz : woP zs n 16) (hp : w.cell? ⟨p, 1, none⟩ = some (.slice (some ⟨b1, o1, none⟩) n cap)) :
    Calls Tryd.prog 56 #[.pointer (some ⟨p, 0, none⟩), .int .i64 x] w fun e w' => e = .returned (.int .i64 (msgV (dm (zN zs) n x))) ∧ w = w' := by
  obtain ⟨N, hN⟩ : ∃ N, 2 ^ n = N := ⟨_, rfl⟩
  have hp8 : 2 ^ n ≤ 2 ^ 8 := Nat.pow_le_pow_right (by decide) hn
  have hN8 : N ≤ 256 := by omega
  have hmin : min n 64 = n := by omega
  have hwu : IntKind.u64.wrap (n : Int) = (n : Int) := by rw [IntKind.wrap_u64]; omega
  have hwp : IntKind.i64.wrap ((2 : Int) ^ n) = (N : Int) := by
    have e : (2 : Int) ^ n = (N : Int) := by rw [← hN]; simp
    rw [e]; exact IntWalk.i64_in _ (by omega)
  have HA := Lib.hid h
  have HZ := Lib.hid hz
  have HN := Lib.hid hN
  have HP := Lib.hid hp
  clear h hz hN hp8
  go_enter Tryd.func56, Tryd.ntmps56
  go_wp2
  go_loop [5] (fun mv => ∃ m : Nat, m ≤ N ∧ mv = .int .i64 (m : Int) ∧ Hid (∀ j, j < m → ¬ (ew (zN zs) n j : Int) = x)) (fun mv => N - (intOf mv).toNat)
  case atStart => exact ⟨0, Nat.zero_le _, rfl, Lib.hid (fun j hj => absurd hj (Nat.not_lt_zero _))⟩
  case round =>
    obtain ⟨m, hm, rfl, HJ⟩ := hrel
    by_cases hlt : m < N
    · have hlti : decide ((m : Int) < (N : Int)) = true := decide_eq_true (by omega)
      have HE : Hid (∀ w2 : World, w = w2 → Calls Tryd.prog 50 #[.pointer (some ⟨p, 0, none⟩), .int .i64 (m : Int)] w2 fun e w' => e = .returned (.int .i64 (ew (zN zs) n m : Int)) ∧ w2 = w') := Lib.hid (fun w2 e => by subst e; exact enc_spec p b1 o1 n cap zs m w HA.out (by omega) HZ.out (by omega) HP.out)
      have HV : ∀ v, (ew (zN zs) n m : Int) = v → Hid (ew (zN zs) n m = v) := fun v e => Lib.hid e
      have HMX : Hid ((ew (zN zs) n m : Int) = x → dm (zN zs) n x = some m) := Lib.hid (fun e => dm_some (by rw [HN.out]; exact hlt) e HJ.out)
      have HJ2 : Hid (¬ (ew (zN zs) n m : Int) = x → ∀ j, j < m + 1 → ¬ (ew (zN zs) n j : Int) = x) := Lib.hid (fun e j hj => by
        rcases Nat.lt_or_ge j m with h1 | h1
        · exact HJ.out j h1
        · obtain rfl : j = m := by omega
          exact e)
      clear HV
      by_cases he : (ew (zN zs) n m : Int) = x
      · have HF := Lib.hid (HMX.out he)
        have hb : ((ew (zN zs) n m : Int) == x) = true := by rw [he]; simp
        generalize (ew (zN zs) n m : Int) = v at HE hb
        clear he HMX HJ2
        go_wp2_with (first | (go_at_call 50; (with_reducible refine (HE.out _ rfl).mono ?_); rintro e w' ⟨rfl, hw⟩; subst hw) | fail)
        go_ret
        exact ⟨by rw [HF.out]; rfl, rfl⟩
      · have HF := Lib.hid (HJ2.out he)
        have hb : ((ew (zN zs) n m : Int) == x) = false := by simpa using he
        generalize (ew (zN zs) n m : Int) = v at HE hb
        clear he HMX HJ2
        go_wp2_with (first | (go_at_call 50; (with_reducible refine (HE.out _ rfl).mono ?_); rintro e w' ⟨rfl, hw⟩; subst hw) | fail)
        go_round
        case rel => exact ⟨m + 1, hlt, by go_num, HF⟩
        case measure => simp [intOf]; omega
    · obtain rfl : m = N := by omega
      have hlti : decide ((m : Int) < (m : Int)) = false := decide_eq_false (by omega)
      have HF : Hid (dm (zN zs) n x = none) := Lib.hid (dm_none (by rw [HN.out]; exact HJ.out))
      go_wp2
      go_ret
      exact ⟨by rw [HF.out]; rfl, rfl⟩
set_option maxRecDepth 100000 in
set_option maxHeartbeats 4000000 in
theorem canF (p : Nat) (r : Int) (a : Option Addr) (n cap : Nat) (zs : List Int) (x : Int) (w : World) (h : IRow w a n zs) (hn : n ≤ 1048576) (hps : p < w.heap.size) (h0 : w.cell? ⟨p, 0, none⟩ = some (.int .i64 r)) (hp : w.cell? ⟨p, 1, none⟩ = some (.slice a n cap)) (hok : paB r zs n = false) :
    Calls Tryd.prog 55 #[.pointer (some ⟨p, 0, none⟩), .int .i64 x] w fun e w' => e = .returned (.bool (false)) ∧ Below w.heap.size w w' := by
  have HP0 : Hid (∀ w3 : World, Below w.heap.size w w3 → w3.cell? ⟨p, 0, none⟩ = some (.int .i64 r)) := Lib.hid (fun w3 hb => (hb.cell (p := ⟨p, 0, none⟩) hps).trans h0)
  have HIS : Hid (Calls Tryd.prog 48 #[.pointer (some ⟨p, 0, none⟩)] w fun e w' => e = .returned (.bool false) ∧ Below w.heap.size w w') := Lib.hid (by have := pi_spec p r a n cap zs w h hn hps h0 hp; rw [hok] at this; exact this)
  have HWO : Hid True := Lib.hid trivial
  clear h h0 hp hok
  go_enter Tryd.func55, Tryd.ntmps55
  go_wp2_with (first | (go_at_call 48; (with_reducible refine HIS.out.mono ?_); rintro e w2 ⟨rfl, hb⟩; have HB := Lib.hid hb; have hp0 := HP0.out _ hb; clear hb) | fail)
  go_ret
  exact ⟨rfl, HB.out⟩
set_option maxRecDepth 100000 in
set_option maxHeartbeats 4000000 in
theorem canT (p : Nat) (r : Int) (a : Option Addr) (n cap : Nat) (zs : List Int) (x : Int) (w : World) (h : IRow w a n zs) (hn : n ≤ 1048576) (hps : p < w.heap.size) (h0 : w.cell? ⟨p, 0, none⟩ = some (.int .i64 r)) (hp : w.cell? ⟨p, 1, none⟩ = some (.slice a n cap)) (hok : paB r zs n = true) :
    Calls Tryd.prog 55 #[.pointer (some ⟨p, 0, none⟩), .int .i64 x] w fun e w' => e = .returned (.bool (woB x r.toNat)) ∧ Below w.heap.size w w' := by
  have HP0 : Hid (∀ w3 : World, Below w.heap.size w w3 → w3.cell? ⟨p, 0, none⟩ = some (.int .i64 r)) := Lib.hid (fun w3 hb => (hb.cell (p := ⟨p, 0, none⟩) hps).trans h0)
  have HIS : Hid (Calls Tryd.prog 48 #[.pointer (some ⟨p, 0, none⟩)] w fun e w' => e = .returned (.bool true) ∧ Below w.heap.size w w') := Lib.hid (by have := pi_spec p r a n cap zs w h hn hps h0 hp; rw [hok] at this; exact this)
  obtain ⟨m, rfl⟩ : ∃ m : Nat, r = (m : Int) := ⟨r.toNat, by have := (pa_out hok).1; omega⟩
  have hm16 : m ≤ 16 := by have := (pa_out hok).1.2; omega
  rw [Int.toNat_natCast]
  have HWO : Hid (∀ w2 : World, Calls Tryd.prog 49 #[.int .i64 x, .int .i64 (m : Int)] w2 fun e w' => e = .returned (.bool (woB x m)) ∧ w2 = w') := Lib.hid (fun w2 => word_spec x m w2 hm16)
  generalize woB x m = B at HWO ⊢
  clear h h0 hp hok
  go_enter Tryd.func55, Tryd.ntmps55
  go_wp2_with (first | (go_at_call 48; (with_reducible refine HIS.out.mono ?_); rintro e w2 ⟨rfl, hb⟩; have HB := Lib.hid hb; have hp0 := HP0.out _ hb; clear hb) | (go_at_call 49; (with_reducible refine (HWO.out _).mono ?_); rintro e w' ⟨rfl, hw⟩; subst hw) | fail)
  go_ret
  exact ⟨rfl, HB.out⟩
def dcO (r : Int) (zs : List Int) (n : Nat) (x : Int) : Option Nat := if paB r zs n then dm (zN zs) n x else none
def dcB (r : Int) (zs : List Int) (n : Nat) (x : Int) : Bool := (dcO r zs n x).isSome
def dcV (r : Int) (zs : List Int) (n : Nat) (x : Int) : Int := (((dcO r zs n x).getD 0 : Nat) : Int)
/-- Is x a word, so that InCode answers? -/
def icB (r : Int) (zs : List Int) (n : Nat) (x : Int) : Bool := paB r zs n && woB x r.toNat
theorem icB_no {r : Int} {zs : List Int} {n : Nat} {x : Int} (h : icB r zs n x = false) : paB r zs n = false ∨ (paB r zs n = true ∧ woB x r.toNat = false) := by
  unfold icB at h
  cases h1 : paB r zs n with
  | false => exact .inl rfl
  | true => rw [h1] at h; exact .inr ⟨rfl, by simpa using h⟩
theorem dc_f {r : Int} {zs : List Int} {n : Nat} {x : Int} (h : paB r zs n = false) : dcO r zs n x = none := by unfold dcO; rw [h]; rfl
theorem dc_t {r : Int} {zs : List Int} {n : Nat} {x : Int} (h : paB r zs n = true) : dcO r zs n x = dm (zN zs) n x := by unfold dcO; rw [h]; rfl
theorem dc_w {r : Int} {zs : List Int} {n : Nat} {x : Int} (h : paB r zs n = true) (hw : woB x r.toNat = false) : dcO r zs n x = none := by rw [dc_t h]; exact dm_out (pa_out h).2.2.1 hw
theorem ret_db {a b : Int} {c d : Bool} (h : a = b) (h2 : c = d) : Ending.returned (.tuple #[.int .i64 a, .bool c]) = .returned (.tuple #[.int .i64 b, .bool d]) := by rw [h, h2]
theorem ret_bb {a b c d : Bool} (h : a = b) (h2 : c = d) : Ending.returned (.tuple #[.bool a, .bool c]) = .returned (.tuple #[.bool b, .bool d]) := by rw [h, h2]
set_option maxRecDepth 100000 in
set_option maxHeartbeats 4000000 in
theorem db_specA (r : Int) (a : Option Addr) (n cap : Nat) (zs : List Int) (x : Int) (w : World) (h : IRow w a n zs) (hn : n ≤ 1048576) (hok : paB r zs n = false) : Calls Tryd.prog 23 #[.agg #[.int .i64 r, .slice a n cap], .int .i64 x] w fun e w' => e = .returned (.tuple #[.int .i64 0, .bool false]) ∧ Below w.heap.size w w' := by
  have HC := Lib.hid (Kin.new (w := w) (x := .int .i64 r) (y := .slice a n cap) (T := 24))
  have HA := Lib.hid (h.alloc (.cells #[.int .i64 r, .slice a n cap] 24))
  have HIS : Hid (Calls Tryd.prog 55 #[.pointer (some ⟨w.heap.size, 0, none⟩), .int .i64 x] (w.alloc (.cells #[.int .i64 r, .slice a n cap] 24)) fun e w' => e = .returned (.bool false) ∧ Below (w.alloc (.cells #[.int .i64 r, .slice a n cap] 24)).heap.size (w.alloc (.cells #[.int .i64 r, .slice a n cap] 24)) w') := Lib.hid (by have := canF w.heap.size r a n cap zs x (w.alloc (.cells #[.int .i64 r, .slice a n cap] 24)) (h.alloc _) hn (by simp) HC.out.2.1 HC.out.2.2.1 hok; exact this)
  clear h hok
  go_enter Tryd.func23, Tryd.ntmps23
  go_wp2_with (first | (go_at_call 55; (with_reducible refine HIS.out.mono ?_); rintro e w2 ⟨rfl, hb⟩; have HB := Lib.hid (Below.next (below_alloc _ _ : Below w.heap.size w (w.alloc (.cells #[.int .i64 r, .slice a n cap] 24))) hb); have HA2 := Lib.hid (HA.out.below hb); have HK := Lib.hid (HC.out.below hb); have hp0 := HK.out.2.1; have hp1 := HK.out.2.2.1; have HP1 := Lib.hid hp1; clear hb) | fail)
  exact bodyPost_ret (v := .tuple #[.int .i64 0, .bool false]) (by simp [results, Tryd.results23, go_sem]) rfl ⟨rfl, HB.out⟩
set_option maxRecDepth 100000 in
set_option maxHeartbeats 4000000 in
theorem db_specN (r : Int) (a : Option Addr) (n cap : Nat) (zs : List Int) (x : Int) (w : World) (h : IRow w a n zs) (hn : n ≤ 1048576) (hok : paB r zs n = true) (hwb : woB x r.toNat = false) : Calls Tryd.prog 23 #[.agg #[.int .i64 r, .slice a n cap], .int .i64 x] w fun e w' => e = .returned (.tuple #[.int .i64 0, .bool false]) ∧ Below w.heap.size w w' := by
  have HC := Lib.hid (Kin.new (w := w) (x := .int .i64 r) (y := .slice a n cap) (T := 24))
  have HA := Lib.hid (h.alloc (.cells #[.int .i64 r, .slice a n cap] 24))
  have HIS : Hid (Calls Tryd.prog 55 #[.pointer (some ⟨w.heap.size, 0, none⟩), .int .i64 x] (w.alloc (.cells #[.int .i64 r, .slice a n cap] 24)) fun e w' => e = .returned (.bool false) ∧ Below (w.alloc (.cells #[.int .i64 r, .slice a n cap] 24)).heap.size (w.alloc (.cells #[.int .i64 r, .slice a n cap] 24)) w') := Lib.hid (by have := canT w.heap.size r a n cap zs x (w.alloc (.cells #[.int .i64 r, .slice a n cap] 24)) (h.alloc _) hn (by simp) HC.out.2.1 HC.out.2.2.1 hok; rw [hwb] at this; exact this)
  clear h hok hwb
  go_enter Tryd.func23, Tryd.ntmps23
  go_wp2_with (first | (go_at_call 55; (with_reducible refine HIS.out.mono ?_); rintro e w2 ⟨rfl, hb⟩; have HB := Lib.hid (Below.next (below_alloc _ _ : Below w.heap.size w (w.alloc (.cells #[.int .i64 r, .slice a n cap] 24))) hb); have HA2 := Lib.hid (HA.out.below hb); have HK := Lib.hid (HC.out.below hb); have hp0 := HK.out.2.1; have hp1 := HK.out.2.2.1; have HP1 := Lib.hid hp1; clear hb) | fail)
  exact bodyPost_ret (v := .tuple #[.int .i64 0, .bool false]) (by simp [results, Tryd.results23, go_sem]) rfl ⟨rfl, HB.out⟩
set_option maxRecDepth 100000 in
set_option maxHeartbeats 4000000 in
theorem db_specY (r : Int) (a : Option Addr) (n cap : Nat) (zs : List Int) (x : Int) (w : World) (h : IRow w a n zs) (hn : n ≤ 1048576) (hok : paB r zs n = true) (hwb : woB x r.toNat = true) : Calls Tryd.prog 23 #[.agg #[.int .i64 r, .slice a n cap], .int .i64 x] w fun e w' => e = .returned (.tuple #[.int .i64 (((dm (zN zs) n x).getD 0 : Nat) : Int), .bool (dm (zN zs) n x).isSome]) ∧ Below w.heap.size w w' := by
  obtain ⟨⟨hr1, hr2⟩, ⟨hn1, hn8⟩, hwz, _⟩ := pa_out hok
  have HZ := Lib.hid (woP_wide hwz (show r.toNat ≤ 16 by omega))
  obtain ⟨b1, o1, rfl⟩ := irow_some h hn1
  have HC := Lib.hid (Kin.new (w := w) (x := .int .i64 r) (y := .slice (some ⟨b1, o1, none⟩) n cap) (T := 24))
  have HA := Lib.hid (h.alloc (.cells #[.int .i64 r, .slice (some ⟨b1, o1, none⟩) n cap] 24))
  have HIS : Hid (Calls Tryd.prog 55 #[.pointer (some ⟨w.heap.size, 0, none⟩), .int .i64 x] (w.alloc (.cells #[.int .i64 r, .slice (some ⟨b1, o1, none⟩) n cap] 24)) fun e w' => e = .returned (.bool true) ∧ Below (w.alloc (.cells #[.int .i64 r, .slice (some ⟨b1, o1, none⟩) n cap] 24)).heap.size (w.alloc (.cells #[.int .i64 r, .slice (some ⟨b1, o1, none⟩) n cap] 24)) w') := Lib.hid (by have := canT w.heap.size r (some ⟨b1, o1, none⟩) n cap zs x (w.alloc (.cells #[.int .i64 r, .slice (some ⟨b1, o1, none⟩) n cap] 24)) (h.alloc _) hn (by simp) HC.out.2.1 HC.out.2.2.1 hok; rw [hwb] at this; exact this)
  have HM : Hid (∀ w2 : World, IRow w2 (some ⟨b1, o1, none⟩) n zs → w2.cell? ⟨w.heap.size, 1, none⟩ = some (.slice (some ⟨b1, o1, none⟩) n cap) → Calls Tryd.prog 56 #[.pointer (some ⟨w.heap.size, 0, none⟩), .int .i64 x] w2 fun e w' => e = .returned (.int .i64 (msgV (dm (zN zs) n x))) ∧ w2 = w') := Lib.hid (fun w2 h1 h2 => msg_spec w.heap.size b1 o1 n cap zs x w2 h1 hn8 HZ.out h2)
  clear h hok hwb hwz
  cases hdm : dm (zN zs) n x with
  | none =>
    rw [hdm] at HM
    have HM : Hid (∀ w2 : World, IRow w2 (some ⟨b1, o1, none⟩) n zs → w2.cell? ⟨w.heap.size, 1, none⟩ = some (.slice (some ⟨b1, o1, none⟩) n cap) → Calls Tryd.prog 56 #[.pointer (some ⟨w.heap.size, 0, none⟩), .int .i64 x] w2 fun e w' => e = .returned (.int .i64 (-1)) ∧ w2 = w') := HM
    clear hdm
    go_enter Tryd.func23, Tryd.ntmps23
    go_wp2_with (first | (go_at_call 55; (with_reducible refine HIS.out.mono ?_); rintro e w2 ⟨rfl, hb⟩; have HB := Lib.hid (Below.next (below_alloc _ _ : Below w.heap.size w (w.alloc (.cells #[.int .i64 r, .slice (some ⟨b1, o1, none⟩) n cap] 24))) hb); have HA2 := Lib.hid (HA.out.below hb); have HK := Lib.hid (HC.out.below hb); have hp0 := HK.out.2.1; have hp1 := HK.out.2.2.1; have HP1 := Lib.hid hp1; clear hb) | (go_at_call 56; (with_reducible refine (HM.out _ HA2.out HP1.out).mono ?_); rintro e w' ⟨rfl, hw⟩; subst hw) | fail)
    exact bodyPost_ret (v := .tuple #[.int .i64 0, .bool false]) (by simp [results, Tryd.results23, go_sem]) rfl ⟨rfl, HB.out⟩
  | some m =>
    rw [hdm] at HM
    have HM : Hid (∀ w2 : World, IRow w2 (some ⟨b1, o1, none⟩) n zs → w2.cell? ⟨w.heap.size, 1, none⟩ = some (.slice (some ⟨b1, o1, none⟩) n cap) → Calls Tryd.prog 56 #[.pointer (some ⟨w.heap.size, 0, none⟩), .int .i64 x] w2 fun e w' => e = .returned (.int .i64 (m : Int)) ∧ w2 = w') := HM
    clear hdm
    have hm0 : decide ((m : Int) < 0) = false := decide_eq_false (by omega)
    have hm1 : decide ((0 : Int) ≤ (m : Int)) = true := decide_eq_true (by omega)
    go_enter Tryd.func23, Tryd.ntmps23
    go_wp2_with (first | (go_at_call 55; (with_reducible refine HIS.out.mono ?_); rintro e w2 ⟨rfl, hb⟩; have HB := Lib.hid (Below.next (below_alloc _ _ : Below w.heap.size w (w.alloc (.cells #[.int .i64 r, .slice (some ⟨b1, o1, none⟩) n cap] 24))) hb); have HA2 := Lib.hid (HA.out.below hb); have HK := Lib.hid (HC.out.below hb); have hp0 := HK.out.2.1; have hp1 := HK.out.2.2.1; have HP1 := Lib.hid hp1; clear hb) | (go_at_call 56; (with_reducible refine (HM.out _ HA2.out HP1.out).mono ?_); rintro e w' ⟨rfl, hw⟩; subst hw) | fail)
    exact bodyPost_ret (v := .tuple #[.int .i64 (m : Int), .bool true]) (by simp [results, Tryd.results23, go_sem]) rfl ⟨rfl, HB.out⟩
theorem db_spec (r : Int) (a : Option Addr) (n cap : Nat) (zs : List Int) (x : Int) (w : World) (h : IRow w a n zs) (hn : n ≤ 1048576) : Calls Tryd.prog 23 #[.agg #[.int .i64 r, .slice a n cap], .int .i64 x] w fun e w' => e = .returned (.tuple #[.int .i64 (dcV r zs n x), .bool (dcB r zs n x)]) ∧ Below w.heap.size w w' := by
  unfold dcV dcB
  cases hok : paB r zs n with
  | false => rw [dc_f hok]; exact db_specA r a n cap zs x w h hn hok
  | true =>
    cases hwb : woB x r.toNat with
    | false => rw [dc_w hok hwb]; exact db_specN r a n cap zs x w h hn hok hwb
    | true => rw [dc_t hok]; exact db_specY r a n cap zs x w h hn hok hwb
set_option maxRecDepth 100000 in
set_option maxHeartbeats 4000000 in
theorem ic_specA (r : Int) (a : Option Addr) (n cap : Nat) (zs : List Int) (x : Int) (w : World) (h : IRow w a n zs) (hn : n ≤ 1048576) (hok : paB r zs n = false) : Calls Tryd.prog 21 #[.agg #[.int .i64 r, .slice a n cap], .int .i64 x] w fun e w' => e = .returned (.tuple #[.bool false, .bool false]) ∧ Below w.heap.size w w' := by
  have HC := Lib.hid (Kin.new (w := w) (x := .int .i64 r) (y := .slice a n cap) (T := 24))
  have HA := Lib.hid (h.alloc (.cells #[.int .i64 r, .slice a n cap] 24))
  have HIS : Hid (Calls Tryd.prog 55 #[.pointer (some ⟨w.heap.size, 0, none⟩), .int .i64 x] (w.alloc (.cells #[.int .i64 r, .slice a n cap] 24)) fun e w' => e = .returned (.bool false) ∧ Below (w.alloc (.cells #[.int .i64 r, .slice a n cap] 24)).heap.size (w.alloc (.cells #[.int .i64 r, .slice a n cap] 24)) w') := Lib.hid (by have := canF w.heap.size r a n cap zs x (w.alloc (.cells #[.int .i64 r, .slice a n cap] 24)) (h.alloc _) hn (by simp) HC.out.2.1 HC.out.2.2.1 hok; exact this)
  clear h hok
  go_enter Tryd.func21, Tryd.ntmps21
  go_wp2_with (first | (go_at_call 55; (with_reducible refine HIS.out.mono ?_); rintro e w2 ⟨rfl, hb⟩; have HB := Lib.hid (Below.next (below_alloc _ _ : Below w.heap.size w (w.alloc (.cells #[.int .i64 r, .slice a n cap] 24))) hb); have HA2 := Lib.hid (HA.out.below hb); have HK := Lib.hid (HC.out.below hb); have hp0 := HK.out.2.1; have hp1 := HK.out.2.2.1; have HP1 := Lib.hid hp1; clear hb) | fail)
  exact bodyPost_ret (v := .tuple #[.bool false, .bool false]) (by simp [results, Tryd.results21, go_sem]) rfl ⟨rfl, HB.out⟩
set_option maxRecDepth 100000 in
set_option maxHeartbeats 4000000 in
theorem ic_specN (r : Int) (a : Option Addr) (n cap : Nat) (zs : List Int) (x : Int) (w : World) (h : IRow w a n zs) (hn : n ≤ 1048576) (hok : paB r zs n = true) (hwb : woB x r.toNat = false) : Calls Tryd.prog 21 #[.agg #[.int .i64 r, .slice a n cap], .int .i64 x] w fun e w' => e = .returned (.tuple #[.bool false, .bool false]) ∧ Below w.heap.size w w' := by
  have HC := Lib.hid (Kin.new (w := w) (x := .int .i64 r) (y := .slice a n cap) (T := 24))
  have HA := Lib.hid (h.alloc (.cells #[.int .i64 r, .slice a n cap] 24))
  have HIS : Hid (Calls Tryd.prog 55 #[.pointer (some ⟨w.heap.size, 0, none⟩), .int .i64 x] (w.alloc (.cells #[.int .i64 r, .slice a n cap] 24)) fun e w' => e = .returned (.bool false) ∧ Below (w.alloc (.cells #[.int .i64 r, .slice a n cap] 24)).heap.size (w.alloc (.cells #[.int .i64 r, .slice a n cap] 24)) w') := Lib.hid (by have := canT w.heap.size r a n cap zs x (w.alloc (.cells #[.int .i64 r, .slice a n cap] 24)) (h.alloc _) hn (by simp) HC.out.2.1 HC.out.2.2.1 hok; rw [hwb] at this; exact this)
  clear h hok hwb
  go_enter Tryd.func21, Tryd.ntmps21
  go_wp2_with (first | (go_at_call 55; (with_reducible refine HIS.out.mono ?_); rintro e w2 ⟨rfl, hb⟩; have HB := Lib.hid (Below.next (below_alloc _ _ : Below w.heap.size w (w.alloc (.cells #[.int .i64 r, .slice a n cap] 24))) hb); have HA2 := Lib.hid (HA.out.below hb); have HK := Lib.hid (HC.out.below hb); have hp0 := HK.out.2.1; have hp1 := HK.out.2.2.1; have HP1 := Lib.hid hp1; clear hb) | fail)
  exact bodyPost_ret (v := .tuple #[.bool false, .bool false]) (by simp [results, Tryd.results21, go_sem]) rfl ⟨rfl, HB.out⟩
set_option maxRecDepth 100000 in
set_option maxHeartbeats 4000000 in
theorem ic_specY (r : Int) (a : Option Addr) (n cap : Nat) (zs : List Int) (x : Int) (w : World) (h : IRow w a n zs) (hn : n ≤ 1048576) (hok : paB r zs n = true) (hwb : woB x r.toNat = true) : Calls Tryd.prog 21 #[.agg #[.int .i64 r, .slice a n cap], .int .i64 x] w fun e w' => e = .returned (.tuple #[.bool (dm (zN zs) n x).isSome, .bool true]) ∧ Below w.heap.size w w' := by
  obtain ⟨⟨hr1, hr2⟩, ⟨hn1, hn8⟩, hwz, _⟩ := pa_out hok
  have HZ := Lib.hid (woP_wide hwz (show r.toNat ≤ 16 by omega))
  obtain ⟨b1, o1, rfl⟩ := irow_some h hn1
  have HC := Lib.hid (Kin.new (w := w) (x := .int .i64 r) (y := .slice (some ⟨b1, o1, none⟩) n cap) (T := 24))
  have HA := Lib.hid (h.alloc (.cells #[.int .i64 r, .slice (some ⟨b1, o1, none⟩) n cap] 24))
  have HIS : Hid (Calls Tryd.prog 55 #[.pointer (some ⟨w.heap.size, 0, none⟩), .int .i64 x] (w.alloc (.cells #[.int .i64 r, .slice (some ⟨b1, o1, none⟩) n cap] 24)) fun e w' => e = .returned (.bool true) ∧ Below (w.alloc (.cells #[.int .i64 r, .slice (some ⟨b1, o1, none⟩) n cap] 24)).heap.size (w.alloc (.cells #[.int .i64 r, .slice (some ⟨b1, o1, none⟩) n cap] 24)) w') := Lib.hid (by have := canT w.heap.size r (some ⟨b1, o1, none⟩) n cap zs x (w.alloc (.cells #[.int .i64 r, .slice (some ⟨b1, o1, none⟩) n cap] 24)) (h.alloc _) hn (by simp) HC.out.2.1 HC.out.2.2.1 hok; rw [hwb] at this; exact this)
  have HM : Hid (∀ w2 : World, IRow w2 (some ⟨b1, o1, none⟩) n zs → w2.cell? ⟨w.heap.size, 1, none⟩ = some (.slice (some ⟨b1, o1, none⟩) n cap) → Calls Tryd.prog 56 #[.pointer (some ⟨w.heap.size, 0, none⟩), .int .i64 x] w2 fun e w' => e = .returned (.int .i64 (msgV (dm (zN zs) n x))) ∧ w2 = w') := Lib.hid (fun w2 h1 h2 => msg_spec w.heap.size b1 o1 n cap zs x w2 h1 hn8 HZ.out h2)
  clear h hok hwb hwz
  cases hdm : dm (zN zs) n x with
  | none =>
    rw [hdm] at HM
    have HM : Hid (∀ w2 : World, IRow w2 (some ⟨b1, o1, none⟩) n zs → w2.cell? ⟨w.heap.size, 1, none⟩ = some (.slice (some ⟨b1, o1, none⟩) n cap) → Calls Tryd.prog 56 #[.pointer (some ⟨w.heap.size, 0, none⟩), .int .i64 x] w2 fun e w' => e = .returned (.int .i64 (-1)) ∧ w2 = w') := HM
    clear hdm
    go_enter Tryd.func21, Tryd.ntmps21
    go_wp2_with (first | (go_at_call 55; (with_reducible refine HIS.out.mono ?_); rintro e w2 ⟨rfl, hb⟩; have HB := Lib.hid (Below.next (below_alloc _ _ : Below w.heap.size w (w.alloc (.cells #[.int .i64 r, .slice (some ⟨b1, o1, none⟩) n cap] 24))) hb); have HA2 := Lib.hid (HA.out.below hb); have HK := Lib.hid (HC.out.below hb); have hp0 := HK.out.2.1; have hp1 := HK.out.2.2.1; have HP1 := Lib.hid hp1; clear hb) | (go_at_call 56; (with_reducible refine (HM.out _ HA2.out HP1.out).mono ?_); rintro e w' ⟨rfl, hw⟩; subst hw) | fail)
    exact bodyPost_ret (v := .tuple #[.bool false, .bool true]) (by simp [results, Tryd.results21, go_sem]) rfl ⟨rfl, HB.out⟩
  | some m =>
    rw [hdm] at HM
    have HM : Hid (∀ w2 : World, IRow w2 (some ⟨b1, o1, none⟩) n zs → w2.cell? ⟨w.heap.size, 1, none⟩ = some (.slice (some ⟨b1, o1, none⟩) n cap) → Calls Tryd.prog 56 #[.pointer (some ⟨w.heap.size, 0, none⟩), .int .i64 x] w2 fun e w' => e = .returned (.int .i64 (m : Int)) ∧ w2 = w') := HM
    clear hdm
    have hm0 : decide ((m : Int) < 0) = false := decide_eq_false (by omega)
    have hm1 : decide ((0 : Int) ≤ (m : Int)) = true := decide_eq_true (by omega)
    go_enter Tryd.func21, Tryd.ntmps21
    go_wp2_with (first | (go_at_call 55; (with_reducible refine HIS.out.mono ?_); rintro e w2 ⟨rfl, hb⟩; have HB := Lib.hid (Below.next (below_alloc _ _ : Below w.heap.size w (w.alloc (.cells #[.int .i64 r, .slice (some ⟨b1, o1, none⟩) n cap] 24))) hb); have HA2 := Lib.hid (HA.out.below hb); have HK := Lib.hid (HC.out.below hb); have hp0 := HK.out.2.1; have hp1 := HK.out.2.2.1; have HP1 := Lib.hid hp1; clear hb) | (go_at_call 56; (with_reducible refine (HM.out _ HA2.out HP1.out).mono ?_); rintro e w' ⟨rfl, hw⟩; subst hw) | fail)
    exact bodyPost_ret (v := .tuple #[.bool true, .bool true]) (by simp [results, Tryd.results21, go_sem]) rfl ⟨rfl, HB.out⟩
theorem ic_spec (r : Int) (a : Option Addr) (n cap : Nat) (zs : List Int) (x : Int) (w : World) (h : IRow w a n zs) (hn : n ≤ 1048576) : Calls Tryd.prog 21 #[.agg #[.int .i64 r, .slice a n cap], .int .i64 x] w fun e w' => e = .returned (.tuple #[.bool (dcB r zs n x), .bool (icB r zs n x)]) ∧ Below w.heap.size w w' := by
  unfold icB dcB
  cases hok : paB r zs n with
  | false => rw [dc_f hok]; exact ic_specA r a n cap zs x w h hn hok
  | true =>
    cases hwb : woB x r.toNat with
    | false => rw [dc_w hok hwb]; exact ic_specN r a n cap zs x w h hn hok hwb
    | true => rw [dc_t hok]; exact ic_specY r a n cap zs x w h hn hok hwb
end Go.Proofs.YtjlifbnenngijaaDoor
