
/- Is a code perfect: the functions. -/
import Derived.Test.YtjlifbnenngijaaDoorDsw6
import Derived.Test.YtjlifbnenngijaaDoorCty
import Derived.BigQuiet
set_option linter.unusedVariables false
namespace Go.Proofs.YtjlifbnenngijaaDoor
open Go.Proofs.YtjlifbnenngijaaDoor.Flo Go.RowKit Go.Shelf Go.Proofs.YtjlifbnenngijaaDoor.Pr Go.Proofs.YtjlifbnenngijaaDoor.Ctv

/-- Binomials, as the model makes them. -/
def wz (m : Nat) : Nat → Nat
  | 0 => 1
  | k + 1 => wz m k * (m - k) / (k + 1)
theorem wz_ch : ∀ m : Fin 17, ∀ k : Fin 9, k.1 ≤ m.1 → chF k.1 (m.1 - k.1) = wz m.1 k.1 := by decide +kernel
theorem wz_le : ∀ m : Fin 17, ∀ k : Fin 10, wz m.1 k.1 ≤ 12870 := by decide +kernel
theorem ch_big : ∀ T : Fin 9, ∀ i : Fin 18, chF T.1 i.1 ≤ 2000000 := by decide +kernel
/-- How many words are near to one, up to a distance below k. -/
def nr (m : Nat) : Nat → Nat
  | 0 => 0
  | k + 1 => nr m k + wz m k
theorem nr_le (m : Nat) (hm : m ≤ 16) : ∀ k, k ≤ 9 → nr m k ≤ k * 12870
  | 0, _ => Nat.le_refl _
  | k + 1, h => by
    have h1 := nr_le m hm k (by omega)
    have h2 := wz_le ⟨m, by omega⟩ ⟨k, by omega⟩
    show nr m k + wz m k ≤ (k + 1) * 12870
    have h2 : wz m k ≤ 12870 := h2
    omega
theorem pf_steps (n l : Nat) (hn : n ≤ 8) (hl : l ≤ 16) : StepsOk [(n : Int), (l : Int)] 2 := by
  intro k hk i hi
  match k, hk with
  | 0, _ =>
    have hi : i < n := by simpa using hi
    have e0 : chF 0 i = 1 := chF_zero ⟨i, by omega⟩
    have e1 : chF 0 (i + 1) = 1 := chF_zero ⟨i + 1, by omega⟩
    show 1 * chF 0 i * (0 + i + 1) / (i + 1) = 1 * chF 0 (i + 1) ∧ 1 * chF 0 i * (0 + i + 1) < 2 ^ 62 ∧ 1 * chF 0 (i + 1) < 2 ^ 62
    rw [e0, e1, Nat.zero_add, Nat.mul_one, Nat.one_mul, Nat.div_self (by omega)]
    exact ⟨rfl, by omega, by decide⟩
  | 1, _ =>
    have hi : i < l := by simpa using hi
    have e0 : chF 0 n = 1 := chF_zero ⟨n, by omega⟩
    have eT : totN [(n : Int), (l : Int)] 1 = n := by simp [totN]
    have eW : wrd [(n : Int), (l : Int)] 1 = 1 := by
      have : wrd [(n : Int), (l : Int)] 1 = 1 * chF 0 ((n : Int).toNat) := rfl
      rw [this, Int.toNat_natCast, e0]
    rw [eT, eW, Nat.one_mul, Nat.one_mul]
    have a1 : chF n i ≤ 2000000 := ch_big ⟨n, by omega⟩ ⟨i, by omega⟩
    have a2 : chF n (i + 1) ≤ 2000000 := ch_big ⟨n, by omega⟩ ⟨i + 1, by omega⟩
    have a3 : chF n i * (n + i + 1) ≤ 2000000 * 38 := Nat.mul_le_mul a1 (by omega)
    exact ⟨rfl, by omega, by omega⟩
theorem pf_val (n l : Nat) (hn : n ≤ 30) : wrd [(n : Int), (l : Int)] 2 = chF n l := by
  have e0 : chF 0 n = 1 := chF_zero ⟨n, by omega⟩
  have eT : totN [(n : Int), (l : Int)] 1 = n := by simp [totN]
  have : wrd [(n : Int), (l : Int)] 2 = (1 * chF 0 ((n : Int).toNat)) * chF (totN [(n : Int), (l : Int)] 1) ((l : Int).toNat) := rfl
  rw [this, Int.toNat_natCast, Int.toNat_natCast, e0, eT, Nat.one_mul]
theorem pf_row (w : World) (x y : Int) (e : TypeId) : IRow (w.alloc (.cells #[.int .i64 x, .int .i64 y] e)) (some ⟨w.heap.size, 0, none⟩) 2 [x, y] := IRow.new (zs := [x, y]) rfl e
/-- Do the near words of the code's words make all words? -/
def pfB (r : Int) (zs : List Int) (n : Nat) : Bool := nr r.toNat ((dsD (zN zs) n r.toNat - 1) / 2 + 1) * 2 ^ n == 2 ^ r.toNat
set_option maxRecDepth 100000 in
set_option maxHeartbeats 4000000 in
theorem pf_implNo (r : Int) (a : Option Addr) (n cap : Nat) (zs : List Int) (w0 w : World) (hp : Db w0) (hb0 : Below w0.heap.size w0 w) (h : IRow w a n zs) (hn : n ≤ 1048576) (hok : paB r zs n = false) : Calls Tryd.prog 35 #[.agg #[.int .i64 r, .slice a n cap]] w fun e w' => e = .returned (.tuple #[.bool false, .bool false]) ∧ Below w.heap.size w w' := by
  have HA := Lib.hid (h.alloc (.cells #[.int .i64 r, .slice a n cap] 24))
  have HB0 := Lib.hid (Below.trans hb0 ((below_alloc w (.cells #[.int .i64 r, .slice a n cap] 24)).mono hb0.size))
  have HDS := Lib.hid (ds_implNo r a n cap zs w0 _ hp HB0.out HA.out hn hok)
  clear h hok hb0
  go_enter Tryd.func35, Tryd.ntmps35
  go_wp2_with (first | (go_at_call 33; (with_reducible refine HDS.out.mono ?_); rintro e w2 ⟨rfl, hb⟩; have HB := Lib.hid (Below.next (below_alloc _ _ : Below w.heap.size w (w.alloc (.cells #[.int .i64 r, .slice a n cap] 24))) hb); clear hb) | fail)
  exact bodyPost_ret (v := .tuple #[.bool false, .bool false]) (by simp [results, Tryd.results35, go_sem]) rfl ⟨rfl, HB.out⟩
set_option maxRecDepth 100000 in
set_option maxHeartbeats 4000000 in
theorem pf_implYes (r : Int) (a : Option Addr) (n cap : Nat) (zs : List Int) (w0 w : World) (hp : Db w0) (hb0 : Below w0.heap.size w0 w) (h : IRow w a n zs) (hn : n ≤ 1048576) (hok : paB r zs n = true) : Calls Tryd.prog 35 #[.agg #[.int .i64 r, .slice a n cap]] w fun e w' => e = .returned (.tuple #[.bool (pfB r zs n), .bool true]) ∧ Below w.heap.size w w' := by
  have HA := Lib.hid (h.alloc (.cells #[.int .i64 r, .slice a n cap] 24))
  have HC := Lib.hid (Kin.new (w := w) (x := .int .i64 r) (y := .slice a n cap) (T := 24))
  have HB0 := Lib.hid (Below.trans hb0 ((below_alloc w (.cells #[.int .i64 r, .slice a n cap] 24)).mono hb0.size))
  have HDS := Lib.hid (ds_implYes r a n cap zs w0 _ hp HB0.out HA.out hn hok)
  obtain ⟨⟨hr1, hr2⟩, ⟨hn1, hn8⟩, hwz, hap⟩ := pa_out hok
  obtain ⟨m, rfl⟩ : ∃ m : Nat, r = (m : Int) := ⟨r.toNat, by omega⟩
  unfold pfB
  unfold dsV at HDS
  rw [Int.toNat_natCast] at hwz HDS ⊢
  have hm16 : m ≤ 16 := by omega
  obtain ⟨hd1, hdm, _, _⟩ := ds_out hn1 hwz hm16 hap
  generalize dsD (zN zs) n m = d at hd1 hdm HDS ⊢
  obtain ⟨e0, he0⟩ : ∃ e0, d - 1 = e0 := ⟨_, rfl⟩
  obtain ⟨t0, ht0⟩ : ∃ t0, e0 / 2 = t0 := ⟨_, rfl⟩
  obtain ⟨T, hT⟩ : ∃ T, t0 + 1 = T := ⟨_, rfl⟩
  rw [he0, ht0, hT]
  have htm : 2 * t0 + 1 ≤ m := by omega
  have hT8 : T ≤ 8 := by omega
  have hnr := nr_le m hm16 T (by omega)
  have h2n : 2 ^ n ≤ 2 ^ 8 := Nat.pow_le_pow_right (by decide) hn8
  have h2m : 2 ^ m ≤ 2 ^ 16 := Nat.pow_le_pow_right (by decide) hm16
  have hprod : nr m T * 2 ^ n ≤ 8 * 12870 * 2 ^ 8 := Nat.mul_le_mul (by omega) h2n
  have hsub : IntKind.i64.wrap ((d : Int) - 1) = (e0 : Int) := by rw [IntWalk.i64_in _ (by omega)]; omega
  have hsub2 : (d : Int) - 1 = (e0 : Int) := by omega
  have hq1 : (e0 : Int).tdiv 2 = (t0 : Int) := by rw [Int.tdiv_eq_ediv_of_nonneg (by omega)]; omega
  have hq2 : (e0 : Int) / 2 = (t0 : Int) := by omega
  have hq3 : IntKind.i64.wrap (t0 : Int) = (t0 : Int) := IntWalk.i64_in _ (by omega)
  have ht1 : (t0 : Int) + 1 = (T : Int) := by omega
  have ht2 : IntKind.i64.wrap ((t0 : Int) + 1) = (T : Int) := by rw [IntWalk.i64_in _ (by omega)]; omega
  obtain ⟨A0, hA0⟩ : ∃ A0, nr m T * 2 ^ n = A0 := ⟨_, rfl⟩
  obtain ⟨B0, hB0⟩ : ∃ B0, 2 ^ m = B0 := ⟨_, rfl⟩
  rw [hA0] at hprod
  rw [hB0] at h2m
  have hA1 : IntKind.i64.wrap ((nr m T : Int) * (2 : Int) ^ n) = (A0 : Int) := by
    have e : (nr m T : Int) * (2 : Int) ^ n = (A0 : Int) := by rw [← hA0]; simp
    rw [e]; exact IntWalk.i64_in _ (by omega)
  have hB1 : IntKind.i64.wrap ((2 : Int) ^ m) = (B0 : Int) := by
    have e : (2 : Int) ^ m = (B0 : Int) := by rw [← hB0]; simp
    rw [e]; exact IntWalk.i64_in _ (by omega)
  rw [hA0, hB0]
  have hmn : min n 64 = n := by omega
  have hmm : min m 64 = m := by omega
  have hun : IntKind.u64.wrap (n : Int) = (n : Int) := by rw [IntKind.wrap_u64]; omega
  have hum : IntKind.u64.wrap (m : Int) = (m : Int) := by rw [IntKind.wrap_u64]; omega
  have HAB : Hid (((A0 : Int) == (B0 : Int)) = (A0 == B0)) := Lib.hid (by rw [Bool.eq_iff_iff]; simp; omega)
  clear h hok hb0 hwz hap hd1 hdm he0 ht0 h2n h2m hprod hA0 hB0
  have hTm : 2 * T ≤ m + 1 := by omega
  clear hT
  go_enter Tryd.func35, Tryd.ntmps35
  go_wp2_with fail
  refine HDS.out.mono ?_
  rintro e w2 ⟨rfl, hb⟩
  have HB := Lib.hid (Below.next (below_alloc _ _ : Below w.heap.size w (w.alloc (.cells #[.int .i64 (m : Int), .slice a n cap] 24))) hb)
  have HK := Lib.hid (HC.out.below hb)
  clear hb
  go_wp2
  clear hsub hsub2 hq1 hq2 hq3 ht1 ht2
  go_loopw [6, 19] (fun nv kv w' => ∃ (k : Nat) (wr : World), k ≤ T ∧ nv = .int .i64 (nr m k : Int) ∧ kv = .int .i64 (k : Int) ∧ wr = w' ∧ Hid (Below w2.heap.size w2 wr)) (fun _ kv _ => T - (intOf kv).toNat)
  case atStart => exact ⟨0, _, by omega, rfl, rfl, rfl, Lib.hid (Below.refl _ _)⟩
  case round =>
    obtain ⟨k, wr, hk, rfl, rfl, rfl, HW⟩ := hrel
    have HK2 := Lib.hid (HK.out.below HW.out)
    have hk0 := HK2.out.2.1
    have hk1 := HK2.out.2.2.1
    by_cases hlt : k < T
    · obtain ⟨l, hl⟩ : ∃ l, l = m - k := ⟨_, rfl⟩
      have hnk := nr_le m hm16 k (by omega)
      have hwk := wz_le ⟨m, by omega⟩ ⟨k, by omega⟩
      have hwk : wz m k ≤ 12870 := hwk
      have HN : Hid (nr m (k + 1) = nr m k + wz m k) := Lib.hid rfl
      have hml : (m : Int) - (k : Int) = (l : Int) := by omega
      have hml2 : IntKind.i64.wrap ((m : Int) - (k : Int)) = (l : Int) := by rw [IntWalk.i64_in _ (by omega)]; omega
      have HV : Hid (wrd [(k : Int), (l : Int)] 2 = wz m k) := Lib.hid ((pf_val k l (by omega)).trans (by rw [hl]; exact wz_ch ⟨m, by omega⟩ ⟨k, by omega⟩ (by show k ≤ m; omega)))
      have HS := Lib.hid (pf_steps k l (by omega) (by omega))
      have HTT : Hid (totN [(k : Int), (l : Int)] 2 ≤ 1000) := Lib.hid (by simp [totN]; omega)
      have HP : Hid (∀ j, j < 2 → 0 ≤ [(k : Int), (l : Int)].getD j 0) := Lib.hid (fun j hj => by match j, hj with | 0, _ => simp | 1, _ => simp)
      have HAR : Hid (Calls Tryd.prog 65 #[.slice (some ⟨wr.heap.size, 0, none⟩) 2 2] (wr.alloc (.cells #[.int .i64 (k : Int), .int .i64 (l : Int)] 2)) fun e w' => e = .returned (.int .i64 (wz m k : Int)) ∧ wr.alloc (.cells #[.int .i64 (k : Int), .int .i64 (l : Int)] 2) = w') := Lib.hid (by
        have := arr_impl _ 2 2 [(k : Int), (l : Int)] _ (pf_row wr (k : Int) (l : Int) 2) (by decide) HP.out HTT.out HS.out
        rw [HV.out] at this
        exact this)
      have hwn : IntKind.i64.wrap ((nr m k : Int) + (wz m k : Int)) = (nr m k : Int) + (wz m k : Int) := IntWalk.i64_in _ (by omega)
      generalize nr m k = Y at hnk hwn HN
      generalize wz m k = Z at hwk hwn HN HAR HV
      have HW2 := Lib.hid (Below.next HW.out (below_alloc wr (.cells #[.int .i64 (k : Int), .int .i64 (l : Int)] 2)))
      clear hl hnk
      go_wp2_with (first | (go_at_call 65; (with_reducible refine HAR.out.mono ?_); rintro e w' ⟨rfl, hw⟩; subst hw) | fail)
      exact ⟨⟨k + 1, _, hlt, by rw [HN.out]; first | rfl | go_num | (congr 1), by first | rfl | go_num | (congr 1), rfl, HW2⟩, by show T - ((k : Int) + 1).toNat < T - (k : Int).toNat; omega⟩
    · obtain rfl : k = T := by omega
      have HB2 := Lib.hid (Below.next HB.out HW.out)
      go_wp2
      go_quiet (fail)
      all_goals
        go_wp2
        exact bodyPost_ret (v := .tuple #[.bool ((A0 : Int) == (B0 : Int)), .bool true]) (by simp [results, Tryd.results35, go_sem]) rfl ⟨ret_bb HAB.out rfl, by repeat (first | exact HB2.out | refine Below.drew ?_ | refine Below.drewN' ?_ _)⟩
set_option maxRecDepth 100000 in
set_option maxHeartbeats 4000000 in
theorem pf_specNo (r : Int) (a : Option Addr) (n cap : Nat) (zs : List Int) (w : World) (h : IRow w a n zs) (hn : n ≤ 1048576) (hok : paB r zs n = false) : Calls Tryd.prog 34 #[.agg #[.int .i64 r, .slice a n cap]] w fun e w' => e = .returned (.tuple #[.bool false, .bool false]) ∧ Below w.heap.size w w' := by
  have HC := Lib.hid (Kin.new (w := w) (x := .int .i64 r) (y := .slice a n cap) (T := 24))
  have HA := Lib.hid (h.alloc (.cells #[.int .i64 r, .slice a n cap] 24))
  have HIS : Hid (Calls Tryd.prog 48 #[.pointer (some ⟨w.heap.size, 0, none⟩)] (w.alloc (.cells #[.int .i64 r, .slice a n cap] 24)) fun e w' => e = .returned (.bool false) ∧ Below (w.alloc (.cells #[.int .i64 r, .slice a n cap] 24)).heap.size (w.alloc (.cells #[.int .i64 r, .slice a n cap] 24)) w') := Lib.hid (by have := pi_spec w.heap.size r a n cap zs (w.alloc (.cells #[.int .i64 r, .slice a n cap] 24)) (h.alloc _) hn (by simp) HC.out.2.1 HC.out.2.2.1; rw [hok] at this; exact this)
  clear h hok
  go_enter Tryd.func34, Tryd.ntmps34
  go_wp2_with (first | (go_at_call 48; (with_reducible refine HIS.out.mono ?_); rintro e w2 ⟨rfl, hb⟩; have HB := Lib.hid (Below.next (below_alloc _ _ : Below w.heap.size w (w.alloc (.cells #[.int .i64 r, .slice a n cap] 24))) hb); have HA2 := Lib.hid (HA.out.below hb); have HK := Lib.hid (HC.out.below hb); have hp0 := HK.out.2.1; have hp1 := HK.out.2.2.1; have HP1 := Lib.hid hp1; clear hb) | fail)
  exact bodyPost_ret (v := .tuple #[.bool false, .bool false]) (by simp [results, Tryd.results34, go_sem]) rfl ⟨rfl, HB.out⟩
set_option maxRecDepth 100000 in
set_option maxHeartbeats 4000000 in
theorem pf_specYes (r : Int) (a : Option Addr) (n cap : Nat) (zs : List Int) (w : World) (h : IRow w a n zs) (hn : n ≤ 1048576) (hok : paB r zs n = true) : Calls Tryd.prog 34 #[.agg #[.int .i64 r, .slice a n cap]] w fun e w' => e = .returned (.tuple #[.bool (pfB r zs n), .bool true]) ∧ Below w.heap.size w w' := by
  have hok2 := hok
  obtain ⟨b1, o1, rfl⟩ := irow_some h (pa_out hok).2.1.1
  have HC := Lib.hid (Kin.new (w := w) (x := .int .i64 r) (y := .slice (some ⟨b1, o1, none⟩) n cap) (T := 24))
  have HA := Lib.hid (h.alloc (.cells #[.int .i64 r, .slice (some ⟨b1, o1, none⟩) n cap] 24))
  have HIS : Hid (Calls Tryd.prog 48 #[.pointer (some ⟨w.heap.size, 0, none⟩)] (w.alloc (.cells #[.int .i64 r, .slice (some ⟨b1, o1, none⟩) n cap] 24)) fun e w' => e = .returned (.bool true) ∧ Below (w.alloc (.cells #[.int .i64 r, .slice (some ⟨b1, o1, none⟩) n cap] 24)).heap.size (w.alloc (.cells #[.int .i64 r, .slice (some ⟨b1, o1, none⟩) n cap] 24)) w') := Lib.hid (by have := pi_spec w.heap.size r (some ⟨b1, o1, none⟩) n cap zs (w.alloc (.cells #[.int .i64 r, .slice (some ⟨b1, o1, none⟩) n cap] 24)) (h.alloc _) hn (by simp) HC.out.2.1 HC.out.2.2.1; rw [hok] at this; exact this)
  have HDS : Hid (∀ w3 : World, IRow w3 (some ⟨b1, o1, none⟩) n zs → w.heap.size < w3.heap.size → w3.cell? ⟨w.heap.size, 0, none⟩ = some (.int .i64 r) → w3.cell? ⟨w.heap.size, 1, none⟩ = some (.slice (some ⟨b1, o1, none⟩) n cap) → Calls Tryd.prog 62 #[.pointer (some ⟨w.heap.size, 0, none⟩)] w3 fun e w' => e = .returned (.int .i64 (dsV r zs n)) ∧ Below w3.heap.size w3 w') := Lib.hid (fun w3 h1 h2 h3 h4 => by
    obtain ⟨m, rfl⟩ : ∃ m : Nat, r = (m : Int) := ⟨r.toNat, by have := (pa_out hok).1; omega⟩
    exact dis_spec w.heap.size m b1 o1 n cap zs w3 h1 h2 hok h3 h4)
  obtain ⟨⟨hr1, hr2⟩, ⟨hn1, hn8⟩, hwz, hap⟩ := pa_out hok
  obtain ⟨m, rfl⟩ : ∃ m : Nat, r = (m : Int) := ⟨r.toNat, by omega⟩
  unfold pfB
  unfold dsV at HDS
  rw [Int.toNat_natCast] at hwz HDS ⊢
  have hm16 : m ≤ 16 := by omega
  obtain ⟨hd1, hdm, _, _⟩ := ds_out hn1 hwz hm16 hap
  generalize dsD (zN zs) n m = d at hd1 hdm HDS ⊢
  obtain ⟨e0, he0⟩ : ∃ e0, d - 1 = e0 := ⟨_, rfl⟩
  obtain ⟨t0, ht0⟩ : ∃ t0, e0 / 2 = t0 := ⟨_, rfl⟩
  obtain ⟨T, hT⟩ : ∃ T, t0 + 1 = T := ⟨_, rfl⟩
  rw [he0, ht0, hT]
  have htm : 2 * t0 + 1 ≤ m := by omega
  have hT8 : T ≤ 8 := by omega
  have hnr := nr_le m hm16 T (by omega)
  have h2n : 2 ^ n ≤ 2 ^ 8 := Nat.pow_le_pow_right (by decide) hn8
  have h2m : 2 ^ m ≤ 2 ^ 16 := Nat.pow_le_pow_right (by decide) hm16
  have hprod : nr m T * 2 ^ n ≤ 8 * 12870 * 2 ^ 8 := Nat.mul_le_mul (by omega) h2n
  have hsub : IntKind.i64.wrap ((d : Int) - 1) = (e0 : Int) := by rw [IntWalk.i64_in _ (by omega)]; omega
  have hsub2 : (d : Int) - 1 = (e0 : Int) := by omega
  have hq1 : (e0 : Int).tdiv 2 = (t0 : Int) := by rw [Int.tdiv_eq_ediv_of_nonneg (by omega)]; omega
  have hq2 : (e0 : Int) / 2 = (t0 : Int) := by omega
  have hq3 : IntKind.i64.wrap (t0 : Int) = (t0 : Int) := IntWalk.i64_in _ (by omega)
  have ht1 : (t0 : Int) + 1 = (T : Int) := by omega
  have ht2 : IntKind.i64.wrap ((t0 : Int) + 1) = (T : Int) := by rw [IntWalk.i64_in _ (by omega)]; omega
  obtain ⟨A0, hA0⟩ : ∃ A0, nr m T * 2 ^ n = A0 := ⟨_, rfl⟩
  obtain ⟨B0, hB0⟩ : ∃ B0, 2 ^ m = B0 := ⟨_, rfl⟩
  rw [hA0] at hprod
  rw [hB0] at h2m
  have hA1 : IntKind.i64.wrap ((nr m T : Int) * (2 : Int) ^ n) = (A0 : Int) := by
    have e : (nr m T : Int) * (2 : Int) ^ n = (A0 : Int) := by rw [← hA0]; simp
    rw [e]; exact IntWalk.i64_in _ (by omega)
  have hB1 : IntKind.i64.wrap ((2 : Int) ^ m) = (B0 : Int) := by
    have e : (2 : Int) ^ m = (B0 : Int) := by rw [← hB0]; simp
    rw [e]; exact IntWalk.i64_in _ (by omega)
  rw [hA0, hB0]
  have hmn : min n 64 = n := by omega
  have hmm : min m 64 = m := by omega
  have hun : IntKind.u64.wrap (n : Int) = (n : Int) := by rw [IntKind.wrap_u64]; omega
  have hum : IntKind.u64.wrap (m : Int) = (m : Int) := by rw [IntKind.wrap_u64]; omega
  have HAB : Hid (((A0 : Int) == (B0 : Int)) = (A0 == B0)) := Lib.hid (by rw [Bool.eq_iff_iff]; simp; omega)
  clear h hok hok2 hwz hap hd1 hdm he0 ht0 h2n h2m hprod hA0 hB0
  have hTm : 2 * T ≤ m + 1 := by omega
  have HT := Lib.hid hT
  clear hT
  go_enter Tryd.func34, Tryd.ntmps34
  go_wp2_with (first | (go_at_call 48; (with_reducible refine HIS.out.mono ?_); rintro e w2 ⟨rfl, hb⟩; have HB := Lib.hid (Below.next (below_alloc _ _ : Below w.heap.size w (w.alloc (.cells #[.int .i64 (m : Int), .slice (some ⟨b1, o1, none⟩) n cap] 24))) hb); have HA2 := Lib.hid (HA.out.below hb); have HK := Lib.hid (HC.out.below hb); have hp0 := HK.out.2.1; have hp1 := HK.out.2.2.1; have HP1 := Lib.hid hp1; have HP0 := Lib.hid hp0; have HLT := Lib.hid HK.out.1; clear hb) | (go_at_call 62; (with_reducible refine (HDS.out _ HA2.out HLT.out HP0.out HP1.out).mono ?_); rintro e w3 ⟨rfl, hb⟩; have HB3 := Lib.hid (Below.next HB.out hb); have HK3 := Lib.hid (HK.out.below hb); have hq0 := HK3.out.2.1; have hq10 := HK3.out.2.2.1; clear hb) | fail)
  clear hsub hsub2 hq1 hq2 hq3 ht1 ht2
  go_loop [5, 6, 7] (fun nv yv kv => ∃ k : Nat, k ≤ T ∧ nv = .int .i64 (nr m k : Int) ∧ yv = .int .i64 (wz m k : Int) ∧ kv = .int .i64 (k : Int)) (fun _ _ kv => T - (intOf kv).toNat)
  case atStart => exact ⟨0, by omega, rfl, rfl, rfl⟩
  case round =>
    obtain ⟨k, hk, rfl, rfl, rfl⟩ := hrel
    by_cases hlt : k < T
    · have hkt : decide ((k : Int) ≤ (t0 : Int)) = true := decide_eq_true (by have := HT.out; omega)
      have hkt2 : decide (k ≤ t0) = true := decide_eq_true (by have := HT.out; omega)
      have hkt3 : k ≤ t0 := by have := HT.out; omega
      obtain ⟨l, hl⟩ : ∃ l, l = m - k := ⟨_, rfl⟩
      have hnk := nr_le m hm16 k (by omega)
      have hwk := wz_le ⟨m, by omega⟩ ⟨k, by omega⟩
      have hwk : wz m k ≤ 12870 := hwk
      have hwk1 := wz_le ⟨m, by omega⟩ ⟨k + 1, by omega⟩
      have hwk1 : wz m (k + 1) ≤ 12870 := hwk1
      have HN : Hid (nr m (k + 1) = nr m k + wz m k) := Lib.hid rfl
      have hml : (m : Int) - (k : Int) = (l : Int) := by omega
      have hml2 : IntKind.i64.wrap ((m : Int) - (k : Int)) = (l : Int) := by rw [IntWalk.i64_in _ (by omega)]; omega
      have hpl : wz m k * l ≤ 12870 * 16 := Nat.mul_le_mul hwk (by omega)
      obtain ⟨P, hP⟩ : ∃ P, wz m k * l = P := ⟨_, rfl⟩
      rw [hP] at hpl
      have hpp : (wz m k : Int) * (l : Int) = (P : Int) := by rw [← hP]; simp
      have hpp2 : IntKind.i64.wrap ((wz m k : Int) * (l : Int)) = (P : Int) := by rw [hpp]; exact IntWalk.i64_in _ (by omega)
      have hqq : (P : Int).tdiv ((k : Int) + 1) = (wz m (k + 1) : Int) := by
        rw [Int.tdiv_eq_ediv_of_nonneg (by omega)]
        have e : wz m (k + 1) = P / (k + 1) := by rw [← hP, hl]; rfl
        rw [e]; simp
      have hqq2 : (P : Int) / ((k : Int) + 1) = (wz m (k + 1) : Int) := by
        have e : wz m (k + 1) = P / (k + 1) := by rw [← hP, hl]; rfl
        rw [e]; simp
      have hw9 : IntKind.i64.wrap ((wz m (k + 1) : Nat) : Int) = ((wz m (k + 1) : Nat) : Int) := IntWalk.i64_in _ (by omega)
      have hwn : IntKind.i64.wrap ((nr m k : Int) + (wz m k : Int)) = (nr m k : Int) + (wz m k : Int) := IntWalk.i64_in _ (by omega)
      have hk1 : IntKind.i64.wrap ((k : Int) + 1) = (k : Int) + 1 := IntWalk.i64_in _ (by omega)
      have hk0 : ((k : Int) + 1 == 0) = false := by simp; omega
      generalize hX : wz m (k + 1) = X at hqq hqq2 hw9
      have HX := Lib.hid hX
      clear hl hnk hP hX hlt
      go_wp2
      go_round
      case rel => exact ⟨k + 1, by have := HT.out; omega, by rw [HN.out]; go_num, val_i (by rw [HX.out]), by go_num⟩
      case measure => simp [intOf]; have := HT.out; omega
    · obtain rfl : k = T := by omega
      have hkt : decide ((k : Int) ≤ (t0 : Int)) = false := decide_eq_false (by have := HT.out; omega)
      have hkt2 : decide (k ≤ t0) = false := decide_eq_false (by have := HT.out; omega)
      have hkt3 : ¬ k ≤ t0 := by have := HT.out; omega
      go_wp2
      exact bodyPost_ret (v := .tuple #[.bool ((A0 : Int) == (B0 : Int)), .bool true]) (by simp [results, Tryd.results34, go_sem]) rfl ⟨ret_bb HAB.out rfl, HB3.out⟩
end Go.Proofs.YtjlifbnenngijaaDoor
