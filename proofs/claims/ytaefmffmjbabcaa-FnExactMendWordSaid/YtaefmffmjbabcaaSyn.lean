
/- SyndromeOf: the functions. -/
import Derived.Test.YtaefmffmjbabcaaOdd
import Derived.Test.YtaefmffmjbabcaaDud
namespace Go.Proofs.Ytaefmffmjbabcaa
open Go.Proofs.Ytaefmffmjbabcaa.Flo Go.RowKit Go.Proofs.Ytaefmffmjbabcaa.Pr

set_option maxRecDepth 100000 in
set_option maxHeartbeats 2000000 in
theorem sy_spec2 (a : Option Addr) (n cap : Nat) (zs : List Int) (x : Nat) (w : World) (h : IRow w a n zs) (hn : n ≤ 16) (hz : woP zs n 16) (hx : x < 65536) :
    Calls Try.prog 62 #[.slice a n cap, .int .i64 (x : Int)] w fun e w' => e = .returned (.int .i64 (od (zN zs) x n : Int)) ∧ w = w' := by
  have HA := Lib.hid h
  have HZ := Lib.hid hz
  clear h hz
  go_enter Try.func62, Try.ntmps62
  go_wp2
  go_loop [5, 6] (fun sv jv => ∃ j : Nat, j ≤ n ∧ sv = .int .i64 (od (zN zs) x j : Int) ∧ jv = .int .i64 j) (fun _ jv => n - (intOf jv).toNat)
  case atStart => exact ⟨0, by omega, rfl, rfl⟩
  case round =>
    obtain ⟨j, hj, rfl, rfl⟩ := hrel
    by_cases hlt : j < n
    · obtain ⟨b1, o1, rfl, hblt, hck⟩ := HA.out.cell' hlt
      obtain ⟨hzk, hzl⟩ := zN_at HZ.out hlt
      rw [hzk] at hck
      have hod := od_lt (zN zs) x j
      have hp : 2 ^ j ≤ 2 ^ 15 := Nat.pow_le_pow_right (by decide) (by omega)
      have HY := fun h => od_yes (z := zN zs) (x := x) (j := j) h
      have HN := fun h => od_no (z := zN zs) (x := x) (j := j) h
      have hand := b_and (zN zs j) x (by omega) (by omega)
      have hal : zN zs j &&& x < 65536 := Nat.lt_of_le_of_lt Nat.and_le_right hx
      have hor := b_or (od (zN zs) x j) (2 ^ j) (by omega) (by omega)
      have hor0 : bits .or .i64 ((od (zN zs) x j : Nat) : Int) 0 = ((od (zN zs) x j : Nat) : Int) := by
        have h9 := b_or (od (zN zs) x j) 0 (by omega) (by omega)
        rw [Nat.or_zero] at h9
        exact h9
      have hcast := two_cast j
      have hmin : min j 64 = j := by omega
      have hwu : IntKind.u64.wrap (j : Int) = (j : Int) := by rw [IntKind.wrap_u64]; omega
      clear hzk
      generalize hS1 : od (zN zs) x (j + 1) = S' at HY HN
      generalize od (zN zs) x j = S at HY HN hor hor0 hod ⊢
      have HS1 := Lib.hid hS1
      clear hS1
      generalize hP : 2 ^ j = P at HY hor hcast hod hp
      have hwp : IntKind.i64.wrap ((2 : Int) ^ j) = (P : Int) := by rw [← hcast]; exact IntWalk.i64_in _ (by omega)
      generalize hQ : S ||| P = Q at HY hor
      generalize zN zs j = y at hck hand hal HY HN hzl
      generalize y &&& x = v at hand hal HY HN
      have HV := Lib.hid hal
      have hvl := wt_le v
      clear hP hQ hcast
      by_cases ho : wt v % 2 = 1
      · have hq : (wt v : Int).tmod 2 = 1 := by rw [Int.tmod_eq_emod_of_nonneg (by omega)]; omega
        have HS := Lib.hid (HY ho)
        clear HY HN ho hvl
        go_wp2_with (first | (go_at_call 63; (with_reducible refine (wo_spec v _ HV.out).mono ?_); rintro e w' ⟨rfl, hw⟩; subst hw) | fail)
        go_round
        case rel => exact ⟨j + 1, by omega, val_i (by rw [HS1.out, HS.out]), by go_num⟩
        case measure => simp [intOf]; omega
      · have hq : (wt v : Int).tmod 2 = 0 := by rw [Int.tmod_eq_emod_of_nonneg (by omega)]; omega
        have HS := Lib.hid (HN ho)
        clear HY HN ho hvl
        go_wp2_with (first | (go_at_call 63; (with_reducible refine (wo_spec v _ HV.out).mono ?_); rintro e w' ⟨rfl, hw⟩; subst hw) | fail)
        go_round
        case rel => exact ⟨j + 1, by omega, val_i (by rw [HS1.out, HS.out]), by go_num⟩
        case measure => simp [intOf]; omega
    · obtain rfl : j = n := by omega
      go_wp2
      go_ret
      exact ⟨rfl, rfl⟩
set_option maxRecDepth 100000 in
set_option maxHeartbeats 2000000 in
theorem can_spec (p m : Nat) (a : Option Addr) (n cap : Nat) (zs : List Int) (x : Int) (w : World) (h : IRow w a n zs) (hn : n ≤ 1048576) (hps : p < w.heap.size) (h0 : w.cell? ⟨p, 0, none⟩ = some (.int .i64 (m : Int))) (hp : w.cell? ⟨p, 1, none⟩ = some (.slice a n cap)) (hok : paB (m : Int) zs n = true) :
    Calls Try.prog 61 #[.pointer (some ⟨p, 0, none⟩), .int .i64 x] w fun e w' => e = .returned (.bool (woB x m)) ∧ Below w.heap.size w w' := by
  have hm16 : m ≤ 16 := by have := (pa_out hok).1.2; omega
  have HP0 : Hid (∀ w3 : World, Below w.heap.size w w3 → w3.cell? ⟨p, 0, none⟩ = some (.int .i64 (m : Int))) := Lib.hid (fun w3 hb => (hb.cell (p := ⟨p, 0, none⟩) hps).trans h0)
  have HIS : Hid (Calls Try.prog 108 #[.pointer (some ⟨p, 0, none⟩)] w fun e w' => e = .returned (.bool true) ∧ Below w.heap.size w w') := Lib.hid (by have := pi_spec p (m : Int) a n cap zs w h hn hps h0 hp; rw [hok] at this; exact this)
  have HWO : Hid (∀ w2 : World, Calls Try.prog 119 #[.int .i64 x, .int .i64 (m : Int)] w2 fun e w' => e = .returned (.bool (woB x m)) ∧ w2 = w') := Lib.hid (fun w2 => word_spec x m w2 hm16)
  generalize woB x m = B at HWO ⊢
  clear h h0 hp hok
  go_enter Try.func61, Try.ntmps61
  go_wp2_with (first | (go_at_call 108; (with_reducible refine HIS.out.mono ?_); rintro e w2 ⟨rfl, hb⟩; have HB := Lib.hid hb; have hp0 := HP0.out _ hb; clear hb) | (go_at_call 119; (with_reducible refine (HWO.out _).mono ?_); rintro e w' ⟨rfl, hw⟩; subst hw) | fail)
  go_ret
  exact ⟨rfl, HB.out⟩
def snB (r : Int) (zs : List Int) (n : Nat) (x : Int) : Bool := duB r zs n && woB x r.toNat
def snV (r : Int) (zs : List Int) (n : Nat) (x : Int) : Int := (od (zN (duL r zs n)) x.toNat (duL r zs n).length : Nat)
theorem snB_no {r : Int} {zs : List Int} {n : Nat} {x : Int} (h : snB r zs n x = false) : duB r zs n = false ∨ (duB r zs n = true ∧ woB x r.toNat = false) := by
  unfold snB at h
  cases ha : duB r zs n with
  | false => exact .inl rfl
  | true => rw [ha] at h; exact .inr ⟨rfl, by simpa using h⟩
set_option maxRecDepth 100000 in
set_option maxHeartbeats 2000000 in
theorem sn_implA (r : Int) (a : Option Addr) (n cap : Nat) (zs : List Int) (x : Int) (w : World) (h : IRow w a n zs) (hn : n ≤ 1048576) (hok : duB r zs n = false) : Calls Try.prog 120 #[.agg #[.int .i64 r, .slice a n cap], .int .i64 x] w fun e w' => e = .returned (.tuple #[.int .i64 0, .bool false]) ∧ Below w.heap.size w w' := by
  have HA2 := Lib.hid (h.alloc (.cells #[.int .i64 r, .slice a n cap] 28))
  have HOK := Lib.hid hok
  clear h hok
  go_enter Try.func120, Try.ntmps120
  go_wp2_with (first | (go_at_call 57; refine (du_implNo r _ n cap zs _ HA2.out hn HOK.out).mono ?_; rintro e w2 ⟨rfl, hd⟩; have HB := Lib.hid (Below.next (Below.next (below_alloc _ _) hd : Below w.heap.size w w2) (below_alloc w2 (.cells #[.int .i64 0, .slice none 0 0] 28))); clear hd) | fail)
  exact bodyPost_ret (v := .tuple #[.int .i64 0, .bool false]) (by simp [results, Try.results120, go_sem]) rfl ⟨rfl, HB.out⟩
set_option maxRecDepth 100000 in
set_option maxHeartbeats 4000000 in
theorem sn_implN (r : Int) (a : Option Addr) (n cap : Nat) (zs : List Int) (x : Int) (w : World) (h : IRow w a n zs) (hn : n ≤ 1048576) (hok : duB r zs n = true) (hwb : woB x r.toNat = false) : Calls Try.prog 120 #[.agg #[.int .i64 r, .slice a n cap], .int .i64 x] w fun e w' => e = .returned (.tuple #[.int .i64 0, .bool false]) ∧ Below w.heap.size w w' := by
  obtain ⟨hpa, hpd⟩ := duB_out hok
  obtain ⟨⟨hr1, hr2⟩, _, _, _⟩ := pa_out hpa
  obtain ⟨_, ⟨hK1, hK2⟩, hwz, _⟩ := pa_out hpd
  obtain ⟨m, rfl⟩ : ∃ m : Nat, r = (m : Int) := ⟨r.toNat, by omega⟩
  rw [Int.toNat_natCast] at hwb hwz
  have hm16 : m ≤ 16 := by omega
  have HWZ := Lib.hid (woP_wide hwz hm16)
  have HA2 := Lib.hid (h.alloc (.cells #[.int .i64 (m : Int), .slice a n cap] 28))
  have HC := Lib.hid (Kin.new (w := w) (x := .int .i64 (m : Int)) (y := .slice a n cap) (T := 28))
  have HPA := Lib.hid hpa
  have HWB := Lib.hid hwb
  have HWO : Hid (∀ w2 : World, Calls Try.prog 113 #[.int .i64 x, .int .i64 (m : Int)] w2 fun e w' => e = .returned (.bool false) ∧ w2 = w') := Lib.hid (fun w2 => by have := word_impl x m w2 hm16; rw [HWB.out] at this; exact this)
  have HDU : Hid (∀ w3 : World, IRow w3 a n zs → Calls Try.prog 57 #[.agg #[.int .i64 (m : Int), .slice a n cap]] w3 fun e w' => ∃ g cp, e = .returned (.tuple #[.agg #[.int .i64 (m : Int), .slice (some ⟨g, 0, none⟩) (duL (m : Int) zs n).length cp], .bool true]) ∧ New w3 w' g (.il (duL (m : Int) zs n).length (duL (m : Int) zs n))) := Lib.hid (fun w3 h1 => du_implYes (m : Int) a n cap zs w3 h1 hn hok)
  generalize hDD : duL (m : Int) zs n = DL at HDU HWZ hK1 hK2 ⊢
  generalize hKL : DL.length = K at HDU HWZ hK1 hK2 ⊢
  clear h hok hpa hpd hwb hwz hDD hKL
  go_enter Try.func120, Try.ntmps120
  go_wp2_with (first | (go_at_call 57; (with_reducible refine (HDU.out _ HA2.out).mono ?_); rintro e w2 ⟨g, cp, rfl, hnw⟩; have HIC := Lib.hid ((ICl.of hnw).below (below_alloc w2 (.cells #[.int .i64 (m : Int), .slice (some ⟨g, 0, none⟩) K cp] 28))); have HC2 := Lib.hid ((HC.out.below hnw.2.2.2).below (below_alloc w2 (.cells #[.int .i64 (m : Int), .slice (some ⟨g, 0, none⟩) K cp] 28))); have HA3 := Lib.hid ((HA2.out.below hnw.2.2.2).below (below_alloc w2 (.cells #[.int .i64 (m : Int), .slice (some ⟨g, 0, none⟩) K cp] 28))); have HT6 : Hid (Kin (w2.alloc (.cells #[.int .i64 (m : Int), .slice (some ⟨g, 0, none⟩) K cp] 28)) w2.heap.size (.int .i64 (m : Int)) (.slice (some ⟨g, 0, none⟩) K cp)) := Lib.hid Kin.new; have HB2 := Lib.hid (Below.next (Below.next (below_alloc _ _) hnw.2.2.2 : Below w.heap.size w w2) (below_alloc w2 (.cells #[.int .i64 (m : Int), .slice (some ⟨g, 0, none⟩) K cp] 28))); have hp0 := HC2.out.2.1; clear hnw) | (go_at_call 113; (with_reducible refine (HWO.out _).mono ?_); rintro e w' ⟨rfl, hw⟩; subst hw) | fail | fail)
  exact bodyPost_ret (v := .tuple #[.int .i64 0, .bool false]) (by simp [results, Try.results120, go_sem]) rfl ⟨rfl, HB2.out⟩
set_option maxRecDepth 100000 in
set_option maxHeartbeats 4000000 in
theorem sn_implY (r : Int) (a : Option Addr) (n cap : Nat) (zs : List Int) (x : Int) (w : World) (h : IRow w a n zs) (hn : n ≤ 1048576) (hok : duB r zs n = true) (hwb : woB x r.toNat = true) : Calls Try.prog 120 #[.agg #[.int .i64 r, .slice a n cap], .int .i64 x] w fun e w' => e = .returned (.tuple #[.int .i64 (snV r zs n x), .bool true]) ∧ Below w.heap.size w w' := by
  obtain ⟨hpa, hpd⟩ := duB_out hok
  obtain ⟨⟨hr1, hr2⟩, _, _, _⟩ := pa_out hpa
  obtain ⟨_, ⟨hK1, hK2⟩, hwz, _⟩ := pa_out hpd
  obtain ⟨m, rfl⟩ : ∃ m : Nat, r = (m : Int) := ⟨r.toNat, by omega⟩
  rw [Int.toNat_natCast] at hwb hwz
  have hm16 : m ≤ 16 := by omega
  have HWZ := Lib.hid (woP_wide hwz hm16)
  obtain ⟨y, rfl, hy⟩ : ∃ y : Nat, x = (y : Int) ∧ y < 65536 := by
    have h1 : 0 ≤ x ∧ x < 2 ^ m := of_decide_eq_true hwb
    have h2 := (p2_16 hm16).2
    exact ⟨x.toNat, by omega, by omega⟩
  have HY := Lib.hid hy
  unfold snV
  rw [Int.toNat_natCast]
  have HA2 := Lib.hid (h.alloc (.cells #[.int .i64 (m : Int), .slice a n cap] 28))
  have HC := Lib.hid (Kin.new (w := w) (x := .int .i64 (m : Int)) (y := .slice a n cap) (T := 28))
  have HPA := Lib.hid hpa
  have HWB := Lib.hid hwb
  have HWO : Hid (∀ w2 : World, Calls Try.prog 113 #[.int .i64 (y : Int), .int .i64 (m : Int)] w2 fun e w' => e = .returned (.bool true) ∧ w2 = w') := Lib.hid (fun w2 => by have := word_impl (y : Int) m w2 hm16; rw [HWB.out] at this; exact this)
  have HDU : Hid (∀ w3 : World, IRow w3 a n zs → Calls Try.prog 57 #[.agg #[.int .i64 (m : Int), .slice a n cap]] w3 fun e w' => ∃ g cp, e = .returned (.tuple #[.agg #[.int .i64 (m : Int), .slice (some ⟨g, 0, none⟩) (duL (m : Int) zs n).length cp], .bool true]) ∧ New w3 w' g (.il (duL (m : Int) zs n).length (duL (m : Int) zs n))) := Lib.hid (fun w3 h1 => du_implYes (m : Int) a n cap zs w3 h1 hn hok)
  generalize hDD : duL (m : Int) zs n = DL at HDU HWZ hK1 hK2 ⊢
  generalize hKL : DL.length = K at HDU HWZ hK1 hK2 ⊢
  clear h hok hpa hpd hwb hwz hDD hKL
  go_enter Try.func120, Try.ntmps120
  go_wp2_with (first | (go_at_call 57; (with_reducible refine (HDU.out _ HA2.out).mono ?_); rintro e w2 ⟨g, cp, rfl, hnw⟩; have HIC := Lib.hid ((ICl.of hnw).below (below_alloc w2 (.cells #[.int .i64 (m : Int), .slice (some ⟨g, 0, none⟩) K cp] 28))); have HC2 := Lib.hid ((HC.out.below hnw.2.2.2).below (below_alloc w2 (.cells #[.int .i64 (m : Int), .slice (some ⟨g, 0, none⟩) K cp] 28))); have HA3 := Lib.hid ((HA2.out.below hnw.2.2.2).below (below_alloc w2 (.cells #[.int .i64 (m : Int), .slice (some ⟨g, 0, none⟩) K cp] 28))); have HT6 : Hid (Kin (w2.alloc (.cells #[.int .i64 (m : Int), .slice (some ⟨g, 0, none⟩) K cp] 28)) w2.heap.size (.int .i64 (m : Int)) (.slice (some ⟨g, 0, none⟩) K cp)) := Lib.hid Kin.new; have HB2 := Lib.hid (Below.next (Below.next (below_alloc _ _) hnw.2.2.2 : Below w.heap.size w w2) (below_alloc w2 (.cells #[.int .i64 (m : Int), .slice (some ⟨g, 0, none⟩) K cp] 28))); have hp0 := HC2.out.2.1; clear hnw) | (go_at_call 113; (with_reducible refine (HWO.out _).mono ?_); rintro e w' ⟨rfl, hw⟩; subst hw) | (go_at_call 60; refine (od_impl2 _ K _ DL y _ HIC.out.row (by omega) HWZ.out HY.out).mono ?_; rintro e w' ⟨rfl, hw⟩; subst hw) | fail)
  exact bodyPost_ret (v := .tuple #[.int .i64 (od (zN DL) y K : Int), .bool true]) (by simp [results, Try.results120, go_sem]) rfl ⟨rfl, HB2.out⟩
theorem sn_implYes (r : Int) (a : Option Addr) (n cap : Nat) (zs : List Int) (x : Int) (w : World) (h : IRow w a n zs) (hn : n ≤ 1048576) (hok : snB r zs n x = true) : Calls Try.prog 120 #[.agg #[.int .i64 r, .slice a n cap], .int .i64 x] w fun e w' => e = .returned (.tuple #[.int .i64 (snV r zs n x), .bool true]) ∧ Below w.heap.size w w' := by
  unfold snB at hok
  rw [Bool.and_eq_true] at hok
  exact sn_implY r a n cap zs x w h hn hok.1 hok.2
theorem sn_implNo (r : Int) (a : Option Addr) (n cap : Nat) (zs : List Int) (x : Int) (w : World) (h : IRow w a n zs) (hn : n ≤ 1048576) (hok : snB r zs n x = false) : Calls Try.prog 120 #[.agg #[.int .i64 r, .slice a n cap], .int .i64 x] w fun e w' => e = .returned (.tuple #[.int .i64 0, .bool false]) ∧ Below w.heap.size w w' := by
  rcases snB_no hok with h1 | h1
  · exact sn_implA r a n cap zs x w h hn h1
  · exact sn_implN r a n cap zs x w h hn h1.1 h1.2
end Go.Proofs.Ytaefmffmjbabcaa
