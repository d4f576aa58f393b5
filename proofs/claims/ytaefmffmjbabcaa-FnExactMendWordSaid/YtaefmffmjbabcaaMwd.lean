/- MendWord: the functions. -/
import Derived.Test.YtaefmffmjbabcaaLdw
import Derived.Test.YtaefmffmjbabcaaWgt
set_option linter.unusedVariables false
namespace Go.Proofs.Ytaefmffmjbabcaa
open Go.Proofs.Ytaefmffmjbabcaa.Flo Go.RowKit Go.Proofs.Ytaefmffmjbabcaa.Pr

/-- A word's leader. -/
def mwV (r : Int) (zs : List Int) (n : Nat) (x : Int) : Nat := (LdX.ldM wt (fun x => od (zN (duL r zs n)) x (duL r zs n).length) (2 ^ r.toNat) (od (zN (duL r zs n)) x.toNat (duL r zs n).length)).toNat
theorem ld_at {syn : Nat → Nat} {N x : Nat} (h : x < N) : ∃ v : Nat, v < N ∧ LdX.ldM wt syn N (syn x) = (v : Int) := by
  rcases LdX.ldM_lst wt syn N (syn x) with ⟨_, h1⟩ | ⟨x0, h0, hx0, _⟩
  · exact absurd rfl (h1 x h)
  · exact ⟨x0, hx0, h0⟩
set_option maxRecDepth 100000 in
set_option maxHeartbeats 2000000 in
theorem mw_specA (r : Int) (a : Option Addr) (n cap : Nat) (zs : List Int) (x : Int) (w : World) (h : IRow w a n zs) (hn : n ≤ 1048576) (hok : duB r zs n = false) : Calls Try.prog 22 #[.agg #[.int .i64 r, .slice a n cap], .int .i64 x] w fun e w' => e = .returned (.tuple #[.int .i64 0, .int .i64 0, .bool false]) ∧ Below w.heap.size w w' := by
  have HA2 := Lib.hid (h.alloc (.cells #[.int .i64 r, .slice a n cap] 28))
  have HOK := Lib.hid hok
  clear h hok
  go_enter Try.func22, Try.ntmps22
  go_wp2_with (first | (go_at_call 55; refine (du_specNo r _ n cap zs _ HA2.out hn HOK.out).mono ?_; rintro e w2 ⟨rfl, hd⟩; have HB := Lib.hid (Below.next (Below.next (below_alloc _ _) hd : Below w.heap.size w w2) (below_alloc w2 (.cells #[.int .i64 0, .slice none 0 0] 28))); clear hd) | fail)
  exact bodyPost_ret (v := .tuple #[.int .i64 0, .int .i64 0, .bool false]) (by simp [results, Try.results22, go_sem]) rfl ⟨rfl, HB.out⟩
set_option maxRecDepth 100000 in
set_option maxHeartbeats 4000000 in
theorem mw_specN (r : Int) (a : Option Addr) (n cap : Nat) (zs : List Int) (x : Int) (w : World) (h : IRow w a n zs) (hn : n ≤ 1048576) (hok : duB r zs n = true) (hwb : woB x r.toNat = false) : Calls Try.prog 22 #[.agg #[.int .i64 r, .slice a n cap], .int .i64 x] w fun e w' => e = .returned (.tuple #[.int .i64 0, .int .i64 0, .bool false]) ∧ Below w.heap.size w w' := by
  obtain ⟨hpa, hpd⟩ := duB_out hok
  obtain ⟨⟨hr1, hr2⟩, _, _, _⟩ := pa_out hpa
  obtain ⟨_, ⟨hK1, hK2⟩, hwz, _⟩ := pa_out hpd
  obtain ⟨m, rfl⟩ : ∃ m : Nat, r = (m : Int) := ⟨r.toNat, by omega⟩
  rw [Int.toNat_natCast] at hwb hwz
  have hm16 : m ≤ 16 := by omega
  have HWZ := Lib.hid (woP_wide hwz hm16)
  have HA2 := Lib.hid (h.alloc (.cells #[.int .i64 (m : Int), .slice a n cap] 28))
  have HC := Lib.hid (Kin.new (w := w) (x := .int .i64 (m : Int)) (y := .slice a n cap) (T := 28))
  have HPA := Lib.hid hpa
  have HWB := Lib.hid hwb
  have HDU : Hid (∀ w3 : World, IRow w3 a n zs → Calls Try.prog 55 #[.agg #[.int .i64 (m : Int), .slice a n cap]] w3 fun e w' => ∃ g cp, e = .returned (.tuple #[.agg #[.int .i64 (m : Int), .slice (some ⟨g, 0, none⟩) (duL (m : Int) zs n).length cp], .bool true]) ∧ New w3 w' g (.il (duL (m : Int) zs n).length (duL (m : Int) zs n))) := Lib.hid (fun w3 h1 => du_specYes (m : Int) a n cap zs w3 h1 hn hok)
  generalize hDD : duL (m : Int) zs n = DL at HDU HWZ hK1 hK2 ⊢
  generalize hKL : DL.length = K at HDU HWZ hK1 hK2 ⊢
  clear h hok hpa hpd hwb hwz hDD hKL
  go_enter Try.func22, Try.ntmps22
  go_wp2_with (first | (go_at_call 55; (with_reducible refine (HDU.out _ HA2.out).mono ?_); rintro e w2 ⟨g, cp, rfl, hnw⟩; have HIC := Lib.hid ((ICl.of hnw).below (below_alloc w2 (.cells #[.int .i64 (m : Int), .slice (some ⟨g, 0, none⟩) K cp] 28))); have HC2 := Lib.hid ((HC.out.below hnw.2.2.2).below (below_alloc w2 (.cells #[.int .i64 (m : Int), .slice (some ⟨g, 0, none⟩) K cp] 28))); have HA3 := Lib.hid ((HA2.out.below hnw.2.2.2).below (below_alloc w2 (.cells #[.int .i64 (m : Int), .slice (some ⟨g, 0, none⟩) K cp] 28))); have HT6 : Hid (Kin (w2.alloc (.cells #[.int .i64 (m : Int), .slice (some ⟨g, 0, none⟩) K cp] 28)) w2.heap.size (.int .i64 (m : Int)) (.slice (some ⟨g, 0, none⟩) K cp)) := Lib.hid Kin.new; have HB2 := Lib.hid (Below.next (Below.next (below_alloc _ _) hnw.2.2.2 : Below w.heap.size w w2) (below_alloc w2 (.cells #[.int .i64 (m : Int), .slice (some ⟨g, 0, none⟩) K cp] 28))); have hp0 := HC2.out.2.1; clear hnw) | (go_at_call 61; refine (can_spec _ m _ n cap zs x _ HA3.out hn HC2.out.1 HC2.out.2.1 HC2.out.2.2.1 HPA.out).mono ?_; rw [HWB.out]; rintro e w3 ⟨rfl, hb3⟩; have HB := Lib.hid (Below.next HB2.out hb3); have HI3 := Lib.hid (HIC.out.below hb3); have HT3 := Lib.hid (HT6.out.below hb3); obtain ⟨hT, ht0, ht1, htf0, htf1⟩ := HT3.out; clear hb3) | fail | fail)
  exact bodyPost_ret (v := .tuple #[.int .i64 0, .int .i64 0, .bool false]) (by simp [results, Try.results22, go_sem]) rfl ⟨rfl, HB.out⟩
set_option maxRecDepth 100000 in
set_option maxHeartbeats 8000000 in
theorem mw_specY (r : Int) (a : Option Addr) (n cap : Nat) (zs : List Int) (x : Int) (w : World) (h : IRow w a n zs) (hn : n ≤ 1048576) (hok : duB r zs n = true) (hwb : woB x r.toNat = true) : Calls Try.prog 22 #[.agg #[.int .i64 r, .slice a n cap], .int .i64 x] w fun e w' => e = .returned (.tuple #[.int .i64 ((x.toNat ^^^ mwV r zs n x : Nat) : Int), .int .i64 (wt (mwV r zs n x) : Int), .bool true]) ∧ Below w.heap.size w w' := by
  obtain ⟨hpa, hpd⟩ := duB_out hok
  obtain ⟨⟨hr1, hr2⟩, _, _, _⟩ := pa_out hpa
  obtain ⟨_, ⟨hK1, hK2⟩, hwz, _⟩ := pa_out hpd
  obtain ⟨m, rfl⟩ : ∃ m : Nat, r = (m : Int) := ⟨r.toNat, by omega⟩
  unfold mwV
  rw [Int.toNat_natCast] at hwb hwz ⊢
  have hm16 : m ≤ 16 := by omega
  have HWZ := Lib.hid (woP_wide hwz hm16)
  obtain ⟨y, rfl, hy, hyN⟩ : ∃ y : Nat, x = (y : Int) ∧ y < 65536 ∧ y < 2 ^ m := by
    have h1 : 0 ≤ x ∧ x < 2 ^ m := of_decide_eq_true hwb
    have h2 := (p2_16 hm16).2
    refine ⟨x.toNat, by omega, by omega, ?_⟩
    have h3 : ((x.toNat : Nat) : Int) < ((2 ^ m : Nat) : Int) := by rw [Int.toNat_of_nonneg h1.1]; simpa using h1.2
    omega
  rw [Int.toNat_natCast]
  have HA2 := Lib.hid (h.alloc (.cells #[.int .i64 (m : Int), .slice a n cap] 28))
  have HC := Lib.hid (Kin.new (w := w) (x := .int .i64 (m : Int)) (y := .slice a n cap) (T := 28))
  have HPA := Lib.hid hpa
  have HWB := Lib.hid hwb
  have HDU : Hid (∀ w3 : World, IRow w3 a n zs → Calls Try.prog 55 #[.agg #[.int .i64 (m : Int), .slice a n cap]] w3 fun e w' => ∃ g cp, e = .returned (.tuple #[.agg #[.int .i64 (m : Int), .slice (some ⟨g, 0, none⟩) (duL (m : Int) zs n).length cp], .bool true]) ∧ New w3 w' g (.il (duL (m : Int) zs n).length (duL (m : Int) zs n))) := Lib.hid (fun w3 h1 => du_specYes (m : Int) a n cap zs w3 h1 hn hok)
  generalize hDD : duL (m : Int) zs n = DL at HDU HWZ hK1 hK2 ⊢
  generalize hKL : DL.length = K at HDU HWZ hK1 hK2 ⊢
  have HLD : Hid (∀ (gg cc : Nat) (w3 : World), IRow w3 (some ⟨gg, 0, none⟩) K DL → Calls Try.prog 56 #[.int .i64 (m : Int), .slice (some ⟨gg, 0, none⟩) K cc] w3 fun e w' => ∃ g cp L, e = .returned (.slice (some ⟨g, 0, none⟩) (2 ^ K) cp) ∧ New w3 w' g (.il (2 ^ K) L) ∧ ∀ s, s < 2 ^ K → L.getD s 0 = LdX.ldM wt (fun x => od (zN DL) x K) (2 ^ m) s) := Lib.hid (fun gg cc w3 h1 => ld_spec m K cc (some ⟨gg, 0, none⟩) DL w3 h1 hK2 HWZ.out hm16)
  have HSY : Hid (∀ (gg cc : Nat) (w3 : World), IRow w3 (some ⟨gg, 0, none⟩) K DL → Calls Try.prog 62 #[.slice (some ⟨gg, 0, none⟩) K cc, .int .i64 (y : Int)] w3 fun e w' => e = .returned (.int .i64 (od (zN DL) y K : Int)) ∧ w3 = w') := Lib.hid (fun gg cc w3 h1 => sy_spec2 _ K cc DL y w3 h1 (by omega) HWZ.out hy)
  obtain ⟨v, hvN, hv⟩ := ld_at (syn := fun x => od (zN DL) x K) hyN
  have HV0 : Hid (LdX.ldM wt (fun x => od (zN DL) x K) (2 ^ m) (od (zN DL) y K) = (v : Int)) := Lib.hid hv
  rw [HV0.out, Int.toNat_natCast]
  have hSM : od (zN DL) y K < 2 ^ K := od_lt _ _ _
  have hv16 : v < 65536 := by have := (p2_16 hm16).2; have h3 : ((2 ^ m : Nat) : Int) ≤ 65536 := by simpa using this
                              omega
  generalize 2 ^ K = M at HLD hSM
  generalize LdX.ldM wt (fun x => od (zN DL) x K) (2 ^ m) = FF at HLD HV0
  generalize od (zN DL) y K = S at HV0 HSY hSM
  have HSM := Lib.hid hSM
  have hS1 : (S : Int) < (M : Int) := by omega
  have hS0 : (0 : Int) ≤ (S : Int) := by omega
  have hxor := b_xor y v (by omega) (by omega)
  have HWT : Hid (∀ w3 : World, Calls Try.prog 63 #[.int .i64 (v : Int)] w3 fun e w' => e = .returned (.int .i64 (wt v : Int)) ∧ w3 = w') := Lib.hid (fun w3 => wo_spec v w3 hv16)
  clear h hok hpa hpd hwb hwz hDD hKL hv hvN hyN
  go_enter Try.func22, Try.ntmps22
  go_wp2_with (first | (go_at_call 55; (with_reducible refine (HDU.out _ HA2.out).mono ?_); rintro e w2 ⟨g, cp, rfl, hnw⟩; have HIC := Lib.hid ((ICl.of hnw).below (below_alloc w2 (.cells #[.int .i64 (m : Int), .slice (some ⟨g, 0, none⟩) K cp] 28))); have HC2 := Lib.hid ((HC.out.below hnw.2.2.2).below (below_alloc w2 (.cells #[.int .i64 (m : Int), .slice (some ⟨g, 0, none⟩) K cp] 28))); have HA3 := Lib.hid ((HA2.out.below hnw.2.2.2).below (below_alloc w2 (.cells #[.int .i64 (m : Int), .slice (some ⟨g, 0, none⟩) K cp] 28))); have HT6 : Hid (Kin (w2.alloc (.cells #[.int .i64 (m : Int), .slice (some ⟨g, 0, none⟩) K cp] 28)) w2.heap.size (.int .i64 (m : Int)) (.slice (some ⟨g, 0, none⟩) K cp)) := Lib.hid Kin.new; have HB2 := Lib.hid (Below.next (Below.next (below_alloc _ _) hnw.2.2.2 : Below w.heap.size w w2) (below_alloc w2 (.cells #[.int .i64 (m : Int), .slice (some ⟨g, 0, none⟩) K cp] 28))); have hp0 := HC2.out.2.1; clear hnw) | (go_at_call 61; refine (can_spec _ m _ n cap zs (y : Int) _ HA3.out hn HC2.out.1 HC2.out.2.1 HC2.out.2.2.1 HPA.out).mono ?_; rw [HWB.out]; rintro e w3 ⟨rfl, hb3⟩; have HB := Lib.hid (Below.next HB2.out hb3); have HI3 := Lib.hid (HIC.out.below hb3); have HT3 := Lib.hid (HT6.out.below hb3); have hq0 := (HC2.out.below hb3).2.1; obtain ⟨hT, ht0, ht1, htf0, htf1⟩ := HT3.out; clear hb3) | fail)
  have HI3d := Lib.hid (HI3.out.below (Below.refl w3.heap.size w3).drew)
  have HBd := Lib.hid HB.out.drew
  have hTd : w2.heap.size < w3.drew.heap.size := hT
  go_region_with (first | (go_at_call 56; (with_reducible refine (HLD.out _ _ _ HI3d.out.row).mono ?_); rintro e w4 ⟨g3, cp3, L, rfl, hn3, hL⟩; have HI4 := Lib.hid (HI3d.out.below hn3.2.2.2); have hcell := ((ICl.of hn3).cell HSM.out).1; rw [hL _ HSM.out, HV0.out] at hcell; have HB4 := Lib.hid (Below.next HBd.out hn3.2.2.2); have ht41 := (hn3.2.2.2.cell (p := ⟨w2.heap.size, 1, none⟩) hTd).trans ht1; clear hn3 hL) | (go_at_call 62; (with_reducible refine (HSY.out _ _ _ HI4.out.row).mono ?_); rintro e w' ⟨rfl, hw⟩; subst hw) | fail)
  all_goals go_wp2_with (first | (go_at_call 63; (with_reducible refine (HWT.out _).mono ?_); rintro e w' ⟨rfl, hw⟩; subst hw) | fail)
  all_goals exact bodyPost_ret (v := .tuple #[.int .i64 ((y ^^^ v : Nat) : Int), .int .i64 (wt v : Int), .bool true]) (by simp [results, Try.results22, go_sem]) rfl ⟨rfl, HB4.out⟩
theorem mw_specYes (r : Int) (a : Option Addr) (n cap : Nat) (zs : List Int) (x : Int) (w : World) (h : IRow w a n zs) (hn : n ≤ 1048576) (hok : snB r zs n x = true) : Calls Try.prog 22 #[.agg #[.int .i64 r, .slice a n cap], .int .i64 x] w fun e w' => e = .returned (.tuple #[.int .i64 ((x.toNat ^^^ mwV r zs n x : Nat) : Int), .int .i64 (wt (mwV r zs n x) : Int), .bool true]) ∧ Below w.heap.size w w' := by
  unfold snB at hok
  rw [Bool.and_eq_true] at hok
  exact mw_specY r a n cap zs x w h hn hok.1 hok.2
theorem mw_specNo (r : Int) (a : Option Addr) (n cap : Nat) (zs : List Int) (x : Int) (w : World) (h : IRow w a n zs) (hn : n ≤ 1048576) (hok : snB r zs n x = false) : Calls Try.prog 22 #[.agg #[.int .i64 r, .slice a n cap], .int .i64 x] w fun e w' => e = .returned (.tuple #[.int .i64 0, .int .i64 0, .bool false]) ∧ Below w.heap.size w w' := by
  rcases snB_no hok with h1 | h1
  · exact mw_specA r a n cap zs x w h hn h1
  · exact mw_specN r a n cap zs x w h hn h1.1 h1.2
set_option maxRecDepth 100000 in
set_option maxHeartbeats 4000000 in
theorem me_implNo (lv : Value) (r : Int) (a : Option Addr) (n cap : Nat) (zs : List Int) (x : Int) (w : World) (h : IRow w a n zs) (hn : n ≤ 1048576) (hok : snB r zs n x = false) : Calls Try.prog 64 #[.agg #[.int .i64 r, .slice a n cap], lv, .int .i64 x] w fun e w' => e = .returned (.tuple #[.int .i64 0, .int .i64 0, .bool false]) ∧ Below w.heap.size w w' := by
  have HA2 := Lib.hid (h.alloc (.cells #[.int .i64 r, .slice a n cap] 28))
  have HA := Lib.hid h
  have HOK := Lib.hid hok
  clear h hok
  go_enter Try.func64, Try.ntmps64
  go_wp2_with (first | (go_at_call 120; refine (sn_implNo r _ n cap zs x _ HA2.out hn HOK.out).mono ?_; rintro e w2 ⟨rfl, hd⟩; have HB := Lib.hid (Below.next (below_alloc _ _ : Below w.heap.size w (w.alloc (.cells #[.int .i64 r, .slice a n cap] 28))) hd); clear hd) | fail)
  exact bodyPost_ret (v := .tuple #[.int .i64 0, .int .i64 0, .bool false]) (by simp [results, Try.results64, go_sem]) rfl ⟨rfl, HB.out⟩
set_option maxRecDepth 100000 in
set_option maxHeartbeats 4000000 in
theorem me_implYes (g M cp v S y : Nat) (r : Int) (a : Option Addr) (n cap : Nat) (zs : List Int) (w : World) (h : IRow w a n zs) (hn : n ≤ 1048576) (hok : snB r zs n (y : Int) = true) (hS : snV r zs n (y : Int) = (S : Int)) (hSM : S < M) (hg : g < w.heap.size) (hc : w.cell? ⟨g, S, none⟩ = some (.int .i64 (v : Int))) (hv : v < 65536) (hy : y < 65536) :
    Calls Try.prog 64 #[.agg #[.int .i64 r, .slice a n cap], .slice (some ⟨g, 0, none⟩) M cp, .int .i64 (y : Int)] w fun e w' => e = .returned (.tuple #[.int .i64 ((y ^^^ v : Nat) : Int), .int .i64 (wt v : Int), .bool true]) ∧ Below w.heap.size w w' := by
  have HA := Lib.hid (h.alloc (.cells #[.int .i64 r, .slice a n cap] 28))
  have HSN : Hid (∀ w3, IRow w3 a n zs → Calls Try.prog 120 #[.agg #[.int .i64 r, .slice a n cap], .int .i64 (y : Int)] w3 fun e w' => e = .returned (.tuple #[.int .i64 (S : Int), .bool true]) ∧ Below w3.heap.size w3 w') := Lib.hid (fun w3 h3 => by have := sn_implYes r a n cap zs (y : Int) w3 h3 hn hok; rw [hS] at this; exact this)
  have HCE : Hid (∀ w3, Below w.heap.size w w3 → w3.cell? ⟨g, S, none⟩ = some (.int .i64 (v : Int))) := Lib.hid (fun w3 hb => (hb.cell (p := ⟨g, S, none⟩) hg).trans hc)
  have hS1 : (S : Int) < (M : Int) := by omega
  have hS0 : (0 : Int) ≤ (S : Int) := by omega
  have hxor := b_xor y v (by omega) (by omega)
  have HWT : Hid (∀ w3 : World, Calls Try.prog 117 #[.int .i64 (v : Int)] w3 fun e w' => e = .returned (.int .i64 (wt v : Int)) ∧ w3 = w') := Lib.hid (fun w3 => wo_impl v w3 hv)
  clear h hok hc hS
  go_enter Try.func64, Try.ntmps64
  go_wp2_with (first | (go_at_call 120; (with_reducible refine (HSN.out _ HA.out).mono ?_); rintro e w2 ⟨rfl, hd⟩; have HB := Lib.hid (Below.next (below_alloc _ _ : Below w.heap.size w (w.alloc (.cells #[.int .i64 r, .slice a n cap] 28))) hd); have hcell := HCE.out _ HB.out; clear hd) | (go_at_call 117; (with_reducible refine (HWT.out _).mono ?_); rintro e w' ⟨rfl, hw⟩; subst hw) | fail)
  exact bodyPost_ret (v := .tuple #[.int .i64 ((y ^^^ v : Nat) : Int), .int .i64 (wt v : Int), .bool true]) (by simp [results, Try.results64, go_sem]) rfl ⟨rfl, HB.out⟩
set_option maxRecDepth 100000 in
set_option maxHeartbeats 4000000 in
theorem mw_implNo (r : Int) (a : Option Addr) (n cap : Nat) (zs : List Int) (x : Int) (w : World) (h : IRow w a n zs) (hn : n ≤ 1048576) (hok : snB r zs n x = false) : Calls Try.prog 23 #[.agg #[.int .i64 r, .slice a n cap], .int .i64 x] w fun e w' => e = .returned (.tuple #[.int .i64 0, .int .i64 0, .bool false]) ∧ Below w.heap.size w w' := by
  have HC1 := Lib.hid (Kin.new (w := w) (x := .int .i64 r) (y := .slice a n cap) (T := 28))
  have HA := Lib.hid (h.alloc (.cells #[.int .i64 r, .slice a n cap] 28))
  have HLO : Hid (Calls Try.prog 16 #[.agg #[.int .i64 r, .slice a n cap]] (w.alloc (.cells #[.int .i64 r, .slice a n cap] 28)) fun e w' => ∃ lv b, e = .returned (.tuple #[lv, .bool b]) ∧ Below (w.alloc (.cells #[.int .i64 r, .slice a n cap] 28)).heap.size (w.alloc (.cells #[.int .i64 r, .slice a n cap] 28)) w') := Lib.hid (by
    cases hd : duB r zs n with
    | false => exact (lo_implNo r a n cap zs _ HA.out hn hd).mono fun e w' h1 => ⟨_, _, h1.1, h1.2⟩
    | true => exact (lo_implYes r a n cap zs _ HA.out hn hd).mono fun e w' ⟨g, cp, h1, h2⟩ => ⟨_, _, h1, h2.2.2.2⟩)
  have HME : Hid (∀ (lv : Value) (w3 : World), IRow w3 a n zs → Calls Try.prog 64 #[.agg #[.int .i64 r, .slice a n cap], lv, .int .i64 x] w3 fun e w' => e = .returned (.tuple #[.int .i64 0, .int .i64 0, .bool false]) ∧ Below w3.heap.size w3 w') := Lib.hid (fun lv w3 h3 => me_implNo lv r a n cap zs x w3 h3 hn hok)
  clear h hok
  go_enter Try.func23, Try.ntmps23
  go_wp2_with (first | (go_at_call 16; (with_reducible refine HLO.out.mono ?_); rintro e w2 ⟨lv, b, rfl, hd⟩; have HB := Lib.hid (Below.next (below_alloc _ _ : Below w.heap.size w (w.alloc (.cells #[.int .i64 r, .slice a n cap] 28))) hd); have HA2 := Lib.hid (HA.out.below hd); have HK := Lib.hid (HC1.out.below hd); have hk1 := HK.out.1; have hk2 := HK.out.2.1; have hk3 := HK.out.2.2.1; clear hd) | (go_at_call 64; (with_reducible refine (HME.out _ _ HA2.out).mono ?_); rintro e w3 ⟨rfl, hd⟩; have HB3 := Lib.hid (Below.next HB.out hd); clear hd) | fail)
  exact bodyPost_ret (v := .tuple #[.int .i64 0, .int .i64 0, .bool false]) (by simp [results, Try.results23, go_sem]) rfl ⟨rfl, HB3.out⟩
set_option maxRecDepth 100000 in
set_option maxHeartbeats 4000000 in
theorem mw_implYes (r : Int) (a : Option Addr) (n cap : Nat) (zs : List Int) (x : Int) (w : World) (h : IRow w a n zs) (hn : n ≤ 1048576) (hok : snB r zs n x = true) : Calls Try.prog 23 #[.agg #[.int .i64 r, .slice a n cap], .int .i64 x] w fun e w' => e = .returned (.tuple #[.int .i64 ((x.toNat ^^^ mwV r zs n x : Nat) : Int), .int .i64 (wt (mwV r zs n x) : Int), .bool true]) ∧ Below w.heap.size w w' := by
  have hok2 := hok
  unfold snB at hok2
  rw [Bool.and_eq_true] at hok2
  obtain ⟨hdu, hwb⟩ := hok2
  obtain ⟨⟨hr1, hr2⟩, _, _, _⟩ := pa_out (duB_out hdu).1
  obtain ⟨y, rfl, hy, hyN⟩ : ∃ y : Nat, x = (y : Int) ∧ y < 65536 ∧ y < 2 ^ r.toNat := by
    have h1 : 0 ≤ x ∧ x < 2 ^ r.toNat := of_decide_eq_true hwb
    have h2 := (p2_16 (show r.toNat ≤ 16 by omega)).2
    refine ⟨x.toNat, by omega, by omega, ?_⟩
    have h3 : ((x.toNat : Nat) : Int) < ((2 ^ r.toNat : Nat) : Int) := by rw [Int.toNat_of_nonneg h1.1]; simpa using h1.2
    omega
  unfold mwV
  rw [Int.toNat_natCast]
  obtain ⟨v, hvN, hv⟩ := ld_at (syn := fun x => od (zN (duL r zs n)) x (duL r zs n).length) hyN
  have hv0 : LdX.ldM wt (fun x => od (zN (duL r zs n)) x (duL r zs n).length) (2 ^ r.toNat) (od (zN (duL r zs n)) y (duL r zs n).length) = (v : Int) := hv
  rw [hv0, Int.toNat_natCast]
  have hv16 : v < 65536 := by have := (p2_16 (show r.toNat ≤ 16 by omega)).2; have h3 : ((2 ^ r.toNat : Nat) : Int) ≤ 65536 := by simpa using this
                              omega
  have hSM : od (zN (duL r zs n)) y (duL r zs n).length < loN r zs n := od_lt _ _ _
  have HC1 := Lib.hid (Kin.new (w := w) (x := .int .i64 r) (y := .slice a n cap) (T := 28))
  have HA := Lib.hid (h.alloc (.cells #[.int .i64 r, .slice a n cap] 28))
  have HLO : Hid (Calls Try.prog 16 #[.agg #[.int .i64 r, .slice a n cap]] (w.alloc (.cells #[.int .i64 r, .slice a n cap] 28)) fun e w' => ∃ g cp, e = .returned (.tuple #[.slice (some ⟨g, 0, none⟩) (loN r zs n) cp, .bool true]) ∧ g < w'.heap.size ∧ w'.cell? ⟨g, od (zN (duL r zs n)) y (duL r zs n).length, none⟩ = some (.int .i64 (v : Int)) ∧ Below (w.alloc (.cells #[.int .i64 r, .slice a n cap] 28)).heap.size (w.alloc (.cells #[.int .i64 r, .slice a n cap] 28)) w') := Lib.hid ((lo_implYes r a n cap zs _ HA.out hn hdu).mono fun e w' ⟨g, cp, h1, h2⟩ => ⟨g, cp, h1, h2.2.1, by
    have h3 := ((ICl.of h2).cell hSM).1
    rw [h3]
    unfold loL
    rw [range_at hSM, hv0], h2.2.2.2⟩)
  have HME : Hid (∀ (g cp : Nat) (w3 : World), IRow w3 a n zs → g < w3.heap.size → w3.cell? ⟨g, od (zN (duL r zs n)) y (duL r zs n).length, none⟩ = some (.int .i64 (v : Int)) → Calls Try.prog 64 #[.agg #[.int .i64 r, .slice a n cap], .slice (some ⟨g, 0, none⟩) (loN r zs n) cp, .int .i64 (y : Int)] w3 fun e w' => e = .returned (.tuple #[.int .i64 ((y ^^^ v : Nat) : Int), .int .i64 (wt v : Int), .bool true]) ∧ Below w3.heap.size w3 w') := Lib.hid (fun g cp w3 h3 hg hc => me_implYes g (loN r zs n) cp v _ y r a n cap zs w3 h3 hn hok (by unfold snV; rw [Int.toNat_natCast]) hSM hg hc hv16 hy)
  clear h hok hv hv0 hvN hSM hdu hwb
  generalize loN r zs n = M at HLO HME
  generalize od (zN (duL r zs n)) y (duL r zs n).length = S at HLO HME
  go_enter Try.func23, Try.ntmps23
  go_wp2_with (first | (go_at_call 16; (with_reducible refine HLO.out.mono ?_); rintro e w2 ⟨g, cp, rfl, hg, hc, hd⟩; have HB := Lib.hid (Below.next (below_alloc _ _ : Below w.heap.size w (w.alloc (.cells #[.int .i64 r, .slice a n cap] 28))) hd); have HA2 := Lib.hid (HA.out.below hd); have HK := Lib.hid (HC1.out.below hd); have hk1 := HK.out.1; have hk2 := HK.out.2.1; have hk3 := HK.out.2.2.1; have HG := Lib.hid hg; have HC := Lib.hid hc; clear hd hg hc) | (go_at_call 64; (with_reducible refine (HME.out _ _ _ HA2.out HG.out HC.out).mono ?_); rintro e w3 ⟨rfl, hd⟩; have HB3 := Lib.hid (Below.next HB.out hd); clear hd) | fail)
  exact bodyPost_ret (v := .tuple #[.int .i64 ((y ^^^ v : Nat) : Int), .int .i64 (wt v : Int), .bool true]) (by simp [results, Try.results23, go_sem]) rfl ⟨rfl, HB3.out⟩
end Go.Proofs.Ytaefmffmjbabcaa
