
/- Decimal numerals: the functions. -/
import Derived.Test.YthkabonnclfhmaaDoorDcn
import Derived.Test.YthkabonnclfhmaaDoorByt
import Derived.Test.YthkabonnclfhmaaDoorShf
import Derived.Lib.AppendZeros
import Derived.Lib.AppendIntMem
import Derived.Deep.AppendSrc
namespace Go.Proofs.YthkabonnclfhmaaDoor
open Go.Proofs.YthkabonnclfhmaaDoor.Flo Go.RowKit Go.Proofs.YthkabonnclfhmaaDoor.Dcn

theorem belowD (w : World) (o : Obj) : Below w.heap.size w (w.alloc o) := (Below.refl _ _).alloc (Nat.le_refl _) o
/-- A slice value of the bytes l. -/
def ByV (W : World) (v : Value) (l : List UInt8) : Prop :=
  ∃ a cap, v = .slice a l.length cap ∧ (l = [] ∨ ∃ b o, a = some ⟨b, o, none⟩ ∧ b < W.heap.size ∧ ∀ j, j < l.length → W.cell? ⟨b, o + j, none⟩ = some (.int .u8 ((l.getD j 0).toNat : Int)))
theorem ByV.below {W W' : World} {v : Value} {l : List UInt8} (h : ByV W v l) (hb : Below W.heap.size W W') : ByV W' v l := by
  obtain ⟨a, cap, rfl, h⟩ := h
  refine ⟨a, cap, rfl, ?_⟩
  rcases h with h | ⟨b, o, rfl, hlt, hc⟩
  · exact .inl h
  · exact .inr ⟨b, o, rfl, Nat.lt_of_lt_of_le hlt hb.size, fun j hj => by rw [hb.cell (p := ⟨b, o + j, none⟩) hlt]; exact hc j hj⟩
theorem ByV.nil (W : World) (a : Option Addr) (cap : Nat) : ByV W (.slice a 0 cap) [] := ⟨a, cap, rfl, .inl rfl⟩
theorem append_none {P : Program} (w : World) (t ty e : TypeId) (i : TypeInfo) (b : Addr) (l c : Nat) (a : Option Addr) (k : Nat) (hlc : l ≤ c) (ht : P.underlying t = some (.slice e)) (hi : P.info? e = some i) :
    (Builtin.append_ #[t, t] ty #[.slice (some b) l c, .slice a 0 k]).run P w = .ok (.slice (some b) l c) w := by
  cases a with
  | none =>
    have h0 := run_firstCells_none (P := P) w i.size 0 0 k
    simp [Builtin.append_, run_underlying ht, sizeOf, typeInfo, hi, Builtin.lenOf, hlc, h0, storeCells]
  | some x =>
    have h0 := run_firstCells_some (P := P) w i.size 0 x 0 k [] (by simp) (by intro j v hj; simp at hj)
    simp [Builtin.append_, run_underlying ht, sizeOf, typeInfo, hi, Builtin.lenOf, hlc, h0, storeCells]
/-- append([]byte{c}, v...). -/
theorem prepend (W : World) (x : Int) (c : UInt8) (hx : x = (c.toNat : Int)) (v : Value) (l : List UInt8) (hv : ByV W v l) (hl : l.length ≤ 1000000) :
    ∃ v' W2, (∀ ty, (Builtin.append_ #[101, 101] ty #[.slice (some ⟨W.heap.size, 0, none⟩) 1 1, v]).run Tryd.prog (W.alloc (.cells #[.int .u8 x] 5)) = .ok v' W2) ∧ ByV W2 v' (c :: l) ∧ Below W.heap.size W W2 := by
  obtain ⟨i0, hi, hz0, hz1, hz2⟩ := info_parts Tryd.info8
  obtain ⟨a, cap, rfl, hv⟩ := hv
  rcases hv with rfl | ⟨b, o, rfl, hlt, hc⟩
  · refine ⟨_, _, fun ty => append_none (P := Tryd.prog) _ 101 ty 5 i0 ⟨W.heap.size, 0, none⟩ 1 1 a cap (Nat.le_refl _) Tryd.underlying101 hi, ?_, belowD _ _⟩
    refine ⟨_, _, rfl, .inr ⟨_, _, rfl, by simp, fun j hj => ?_⟩⟩
    have hj0 : j = 0 := by simp at hj; omega
    subst hj0
    rw [World.cell?_alloc_at _ _ _ _ rfl, hx]; rfl
  · have hsrc : Src Tryd.prog i0.size 101 (.slice (some ⟨b, o, none⟩) l.length cap) l.length (l.map fun c => Value.int .u8 (c.toNat : Int)) (W.alloc (.cells #[.int .u8 x] 5)) := by
      refine Src.ofSlice _ Tryd.underlying101 _ _ _ _ (by rw [hz1]; simp) (fun j u hu => ?_) (fun u hu => by obtain ⟨_, _, rfl⟩ := List.mem_map.1 hu; rfl)
      have hj : j < l.length := by have := (List.getElem?_eq_some_iff.1 hu).1; simpa using this
      rw [show (⟨b, o, none⟩ : Addr).add j = ⟨b, o + j, none⟩ by unfold Addr.add; split <;> simp_all, World.cell?_alloc_past _ _ _ hlt, hc j hj, ← hu, List.getElem?_map, List.getD_eq_getElem?_getD, List.getElem?_eq_getElem hj]; rfl
    have hold : (Builtin.firstCells i0.size 1 (.slice (some ⟨W.heap.size, 0, none⟩) 1 1)).run Tryd.prog (W.alloc (.cells #[.int .u8 x] 5)).drew = .ok [Value.int .u8 x].toArray (W.alloc (.cells #[.int .u8 x] 5)).drew :=
      run_firstCells_some _ _ 1 ⟨W.heap.size, 0, none⟩ 1 1 [Value.int .u8 x] (by rw [hz1]; rfl) (fun j u hu => by
        have hj : j = 0 := by have := (List.getElem?_eq_some_iff.1 hu).1; simp at this; exact this
        subst hj
        rw [show (⟨W.heap.size, 0, none⟩ : Addr).add 0 = ⟨W.heap.size, 0, none⟩ by unfold Addr.add; split <;> simp_all]
        show (W.alloc (.cells #[.int .u8 x] 5)).cell? ⟨W.heap.size, 0, none⟩ = _
        rw [World.cell?_alloc_at _ _ _ _ rfl]
        simpa using hu)
    have hl0 : 0 < l.length ∨ l.length = 0 := by omega
    rcases hl0 with hl0 | hl0
    · have hr := fun ty => run_append_grow_src (P := Tryd.prog) (W.alloc (.cells #[.int .u8 x] 5)) 101 101 ty 5 i0 (.int .u8 0) Tryd.underlying101 hi hz0 (some ⟨W.heap.size, 0, none⟩) 1 1 [Value.int .u8 x] hold _ l.length _ hsrc (by omega) (by omega)
        (growslice_fits (by omega) (by rw [hz2]; omega))
      refine ⟨_, _, hr, ⟨_, _, by rw [List.length_cons, Nat.add_comm], .inr ⟨_, 0, rfl, by simp, fun j hj => ?_⟩⟩, ?_⟩
      · rw [World.cell?_alloc_at _ _ _ _ (by simp)]
        subst hx
        cases j with
        | zero => rw [Array.getElem?_append_left (by simp)]; simp
        | succ j =>
          have hj2 : j < l.length := by simpa using hj
          rw [Array.getElem?_append_left (by simp; omega)]
          simp [List.getD_eq_getElem?_getD, hj2]
      · exact (((belowD _ _).drew).alloc (by simp) _)
    · have : l = [] := List.eq_nil_of_length_eq_zero hl0
      subst this
      refine ⟨_, _, fun ty => append_none (P := Tryd.prog) _ 101 ty 5 i0 ⟨W.heap.size, 0, none⟩ 1 1 _ cap (Nat.le_refl _) Tryd.underlying101 hi, ?_, belowD _ _⟩
      refine ⟨_, _, rfl, .inr ⟨_, _, rfl, by simp, fun j hj => ?_⟩⟩
      have hj0 : j = 0 := by simp at hj; omega
      subst hj0
      rw [World.cell?_alloc_at _ _ _ _ rfl, hx]; rfl
/-- The text of the bytes. -/
theorem ByV.text {W : World} {v : Value} {l : List UInt8} (h : ByV W v l) (hl : l ≠ []) : (convert 101 9 v).run Tryd.prog W = .ok (.string (txB l)) W := by
  obtain ⟨a, cap, rfl, h⟩ := h
  rcases h with h | ⟨b, o, rfl, _, hc⟩
  · exact absurd h hl
  · exact text_cells W _ _ _ b o _ cap l Tryd.underlying101 Tryd.underlying5 Tryd.underlying9 rfl hc

/-- The table of powers of ten lies in the world that the call has entered, and in each that comes of it. -/
def Pow (w0 : World) : Prop := Lib.TabBelow Tryd.prog w0.heap.size w0 "internal/strconv.uint64pow10" .u64 Lib.pow10Tab
theorem Pow.of {w0 : World} (h : Lib.TabIs Tryd.prog w0 "internal/strconv.uint64pow10" .u64 Lib.pow10Tab) : Pow w0 := Lib.tabBelow_of_tabIs h
set_option maxRecDepth 100000 in
theorem dec_impl (n : Int) (h0 : -9223372036854775808 ≤ n) (h1 : n ≤ 9223372036854775807) (w0 w : World) (hp : Pow w0) (hb : Below w0.heap.size w0 w) :
    Calls Tryd.prog 16 #[.int .i64 n] w fun e w' => e = .returned (.string (txB (Lib.itoa n))) ∧ Below w.heap.size w w' := by
  have HT := Lib.hid (hp w hb)
  clear hp hb
  go_enter Tryd.func16, Tryd.ntmps16
  go_wp2_with (first | (go_at_call 63; refine (Tryd.strconv_FormatInt_10 n h0 h1 _ HT.out).mono ?_; rintro e w2 ⟨rfl, k, os, rfl⟩) | fail)
  go_ret
  exact ⟨rfl, Lib.below_grow _ _ (Nat.le_refl _) _ _⟩
def slN : Value → Nat
  | .slice _ n _ => n
  | _ => 0
set_option maxRecDepth 100000 in
set_option maxHeartbeats 4000000 in
theorem dec_specP (U0 : Nat) (h0 : U0 ≤ 9223372036854775807) (w : World) :
    Calls Tryd.prog 62 #[.int .i64 (U0 : Int)] w fun e w' => e = .returned (.string (txB (Lib.decDigits U0))) ∧ Below w.heap.size w w' := by
  have hU64 : U0 < 18446744073709551616 := by omega
  have HU64 := Lib.hid hU64
  clear hU64
  obtain ⟨n, hn⟩ : ∃ n : Int, n = (U0 : Int) := ⟨_, rfl⟩
  have hd0 : decide (n < 0) = false := by rw [hn]; exact decide_eq_false (by omega)
  have hn1 : n ≤ 9223372036854775807 := by omega
  have hn0 : -9223372036854775808 ≤ n := by omega
  rw [← hn]
  have HN := Lib.hid hn
  clear hn h0
  go_enter Tryd.func62, Tryd.ntmps62
  go_wp2
  go_loopw [3, 4] (fun ov rv wr => ∃ (U : Nat) (L : List UInt8) (r : Int), Hid (DigRel U0 U L) ∧ Hid (r = (U : Int)) ∧ -9223372036854775808 ≤ r ∧ r ≤ 9223372036854775807 ∧ rv = .int .i64 r ∧ Hid (ByV wr ov L) ∧ Hid (Below w.heap.size w wr)) (fun ov rv _ => 2 * (intOf rv).natAbs + (1 - slN ov))
  case atStart => exact ⟨U0, [], n, Lib.hid (DigRel.start U0), HN, hn0, hn1, rfl, Lib.hid (ByV.nil _ _ _), Lib.hid (by first | exact Below.refl _ _ | exact belowD _ _)⟩
  case round =>
    obtain ⟨U, L, r, HD, HR, hr0, hr1, rfl, HV, HB⟩ := hrel
    obtain ⟨a, cap, rfl, _⟩ := HV.out
    have HL := Lib.hid (HD.out.len HU64.out)
    obtain ⟨N, hN⟩ : ∃ N, N = L.length := ⟨_, rfl⟩
    rw [← hN] at HV ⊢
    have hgo : (N = 0 ∨ r ≠ 0) ∨ (N ≠ 0 ∧ r = 0) := by omega
    rcases hgo with hgo | ⟨hN0, hr⟩
    · have hst : L = [] ∨ U ≠ 0 := by
        rcases hgo with h | h
        · exact .inl (List.eq_nil_of_length_eq_zero (by omega))
        · exact .inr (fun e => h (by have := HR.out; omega))
      obtain ⟨m, hm⟩ : ∃ m, m = U % 10 := ⟨_, rfl⟩
      obtain ⟨q, hq⟩ : ∃ q, q = U / 10 := ⟨_, rfl⟩
      have HN2 : Hid (DigRel U0 q (UInt8.ofNat (48 + m) :: L)) := Lib.hid (by rw [hm, hq]; exact HD.out.next hst)
      have hc9 : ((UInt8.ofNat (48 + m)).toNat : Int) = 48 + (m : Int) := by rw [hm]; exact dg_val U
      have hm9 : m ≤ 9 := by omega
      have hmeas : Hid (q < U ∨ (U = 0 ∧ q = 0 ∧ N = 0)) := Lib.hid (by
        rcases hst with h | h
        · rw [h] at hN; simp at hN; omega
        · omega)
      obtain ⟨dd, hdd⟩ : ∃ dd : Int, dd = r.tmod 10 := ⟨_, rfl⟩
      obtain ⟨rq, hrq⟩ : ∃ rq : Int, rq = r.tdiv 10 := ⟨_, rfl⟩
      have hdd2 : dd = (m : Int) := by
        rw [hdd, HR.out, Int.tmod_eq_emod_of_nonneg (by omega)]
        omega
      have hrq2 : rq = (q : Int) := by
        rw [hrq, HR.out, Int.tdiv_eq_ediv_of_nonneg (by omega)]
        omega
      have hdm := hdd.symm
      have hdq := hrq.symm
      have hdr : Hid (rq = (q : Int)) := Lib.hid hrq2
      have hq0 : -9223372036854775808 ≤ rq := by have := HR.out; omega
      have hq1 : rq ≤ 9223372036854775807 := by have := HR.out; omega
      clear hdd hrq hrq2 hq
      have hdn : decide (dd < 0) = false := decide_eq_false (by omega)
      have hdl : 0 ≤ dd := by omega
      have hdu : dd ≤ 9 := by omega
      obtain ⟨v', W2, hrun, hby, hbl⟩ := prepend wr (48 + dd) (UInt8.ofNat (48 + m)) (by rw [hc9]; omega) (.slice a N cap) L HV.out (by have := HL.out; omega)
      have HRUN := Lib.hid hrun
      have HV2 := Lib.hid hby
      have HB2 := Lib.hid (HB.out.trans (hbl.mono HB.out.size))
      obtain ⟨a2, cap2, hv2, _⟩ := hby
      subst hv2
      have hgz : (N = 0 ∨ N ≠ 0) := by omega
      clear hrun hbl hm hc9 hst hN
      clear hdd2
      rcases hgz with hgz | hgz
      · have hg1 : ((N : Int) == 0) = true := by simp; omega
        clear hgz hgo
        go_wp2_with (first | (at_builtin; refine Lib.wpList_append_run _ rfl _ _ _ _ rfl _ _ rfl rfl _ _ (HRUN.out _) ?_) | fail)
        go_roundw
        case rel => exact ⟨q, _, rq, HN2, hdr, hq0, hq1, rfl, HV2, HB2⟩
        case measure => have := hmeas.out; have := hdr.out; have := HR.out; simp [intOf, slN]; omega
      · have hg1 : ((N : Int) == 0) = false := by simp; omega
        have hr2 : (r == 0) = false := by simp; omega
        have hr3 : (r != 0) = true := by simp; omega
        clear hgz hgo
        go_wp2_with (first | (at_builtin; refine Lib.wpList_append_run _ rfl _ _ _ _ rfl _ _ rfl rfl _ _ (HRUN.out _) ?_) | fail)
        go_roundw
        case rel => exact ⟨q, _, rq, HN2, hdr, hq0, hq1, rfl, HV2, HB2⟩
        case measure => have := hmeas.out; have := hdr.out; have := HR.out; simp [intOf, slN]; omega
    · have hg1 : ((N : Int) == 0) = false := by simp; omega
      have hne : L ≠ [] := by intro e; rw [e] at hN; exact hN0 hN
      have hU : U = 0 := by have := HR.out; omega
      have HF : Hid (L = Lib.decDigits U0) := Lib.hid (DigRel.stop (hU ▸ HD.out) hne)
      subst hr
      have htx := HV.out.text hne
      clear hne hU hN hN0
      go_wp2
      go_ret
      exact ⟨by rw [HF.out]; rfl, HB.out⟩
set_option maxRecDepth 100000 in
set_option maxHeartbeats 4000000 in
theorem dec_specN (U0 : Nat) (h0 : 1 ≤ U0 ∧ U0 ≤ 9223372036854775808) (w : World) :
    Calls Tryd.prog 62 #[.int .i64 (-(U0 : Int))] w fun e w' => e = .returned (.string (txB (45 :: Lib.decDigits U0))) ∧ Below w.heap.size w w' := by
  have hU64 : U0 < 18446744073709551616 := by omega
  have HU64 := Lib.hid hU64
  clear hU64
  obtain ⟨n, hn⟩ : ∃ n : Int, n = -(U0 : Int) := ⟨_, rfl⟩
  have hd0 : decide (n < 0) = true := by rw [hn]; exact decide_eq_true (by omega)
  have hn1 : n ≤ 9223372036854775807 := by omega
  have hn0 : -9223372036854775808 ≤ n := by omega
  rw [← hn]
  have HN := Lib.hid hn
  clear hn h0
  go_enter Tryd.func62, Tryd.ntmps62
  go_wp2
  go_loopw [3, 4] (fun ov rv wr => ∃ (U : Nat) (L : List UInt8) (r : Int), Hid (DigRel U0 U L) ∧ Hid (r = -(U : Int)) ∧ -9223372036854775808 ≤ r ∧ r ≤ 9223372036854775807 ∧ rv = .int .i64 r ∧ Hid (ByV wr ov L) ∧ Hid (Below w.heap.size w wr)) (fun ov rv _ => 2 * (intOf rv).natAbs + (1 - slN ov))
  case atStart => exact ⟨U0, [], n, Lib.hid (DigRel.start U0), HN, hn0, hn1, rfl, Lib.hid (ByV.nil _ _ _), Lib.hid (by first | exact Below.refl _ _ | exact belowD _ _)⟩
  case round =>
    obtain ⟨U, L, r, HD, HR, hr0, hr1, rfl, HV, HB⟩ := hrel
    obtain ⟨a, cap, rfl, _⟩ := HV.out
    have HL := Lib.hid (HD.out.len HU64.out)
    obtain ⟨N, hN⟩ : ∃ N, N = L.length := ⟨_, rfl⟩
    rw [← hN] at HV ⊢
    have hgo : (N = 0 ∨ r ≠ 0) ∨ (N ≠ 0 ∧ r = 0) := by omega
    rcases hgo with hgo | ⟨hN0, hr⟩
    · have hst : L = [] ∨ U ≠ 0 := by
        rcases hgo with h | h
        · exact .inl (List.eq_nil_of_length_eq_zero (by omega))
        · exact .inr (fun e => h (by have := HR.out; omega))
      obtain ⟨m, hm⟩ : ∃ m, m = U % 10 := ⟨_, rfl⟩
      obtain ⟨q, hq⟩ : ∃ q, q = U / 10 := ⟨_, rfl⟩
      have HN2 : Hid (DigRel U0 q (UInt8.ofNat (48 + m) :: L)) := Lib.hid (by rw [hm, hq]; exact HD.out.next hst)
      have hc9 : ((UInt8.ofNat (48 + m)).toNat : Int) = 48 + (m : Int) := by rw [hm]; exact dg_val U
      have hm9 : m ≤ 9 := by omega
      have hmeas : Hid (q < U ∨ (U = 0 ∧ q = 0 ∧ N = 0)) := Lib.hid (by
        rcases hst with h | h
        · rw [h] at hN; simp at hN; omega
        · omega)
      obtain ⟨dd, hdd⟩ : ∃ dd : Int, dd = r.tmod 10 := ⟨_, rfl⟩
      obtain ⟨rq, hrq⟩ : ∃ rq : Int, rq = r.tdiv 10 := ⟨_, rfl⟩
      have hdd2 : dd = -(m : Int) := by
        rw [hdd, HR.out, Int.neg_tmod, Int.tmod_eq_emod_of_nonneg (by omega)]
        omega
      have hrq2 : rq = -(q : Int) := by
        rw [hrq, HR.out, Int.neg_tdiv, Int.tdiv_eq_ediv_of_nonneg (by omega)]
        omega
      have hdm := hdd.symm
      have hdq := hrq.symm
      have hdr : Hid (rq = -(q : Int)) := Lib.hid hrq2
      have hq0 : -9223372036854775808 ≤ rq := by have := HR.out; omega
      have hq1 : rq ≤ 9223372036854775807 := by have := HR.out; omega
      clear hdd hrq hrq2 hq
      by_cases hm0 : m = 0
      · have hdz : dd = 0 := by omega
        clear hdd2
        subst hdz
        obtain ⟨v', W2, hrun, hby, hbl⟩ := prepend wr (48) (UInt8.ofNat (48 + m)) (by rw [hc9]; omega) (.slice a N cap) L HV.out (by have := HL.out; omega)
        have HRUN := Lib.hid hrun
        have HV2 := Lib.hid hby
        have HB2 := Lib.hid (HB.out.trans (hbl.mono HB.out.size))
        obtain ⟨a2, cap2, hv2, _⟩ := hby
        subst hv2
        have hgz : (N = 0 ∨ N ≠ 0) := by omega
        clear hrun hbl hm hc9 hst hN
        rcases hgz with hgz | hgz
        · have hg1 : ((N : Int) == 0) = true := by simp; omega
          clear hgz hgo
          go_wp2_with (first | (at_builtin; refine Lib.wpList_append_run _ rfl _ _ _ _ rfl _ _ rfl rfl _ _ (HRUN.out _) ?_) | fail)
          go_roundw
          case rel => exact ⟨q, _, rq, HN2, hdr, hq0, hq1, rfl, HV2, HB2⟩
          case measure => have := hmeas.out; have := hdr.out; have := HR.out; simp [intOf, slN]; omega
        · have hg1 : ((N : Int) == 0) = false := by simp; omega
          have hr2 : (r == 0) = false := by simp; omega
          have hr3 : (r != 0) = true := by simp; omega
          clear hgz hgo
          go_wp2_with (first | (at_builtin; refine Lib.wpList_append_run _ rfl _ _ _ _ rfl _ _ rfl rfl _ _ (HRUN.out _) ?_) | fail)
          go_roundw
          case rel => exact ⟨q, _, rq, HN2, hdr, hq0, hq1, rfl, HV2, HB2⟩
          case measure => have := hmeas.out; have := hdr.out; have := HR.out; simp [intOf, slN]; omega
      · have hdn : decide (dd < 0) = true := decide_eq_true (by omega)
        have hdl : -9 ≤ dd := by omega
        have hdu : dd ≤ -1 := by omega
        clear hm0
        obtain ⟨v', W2, hrun, hby, hbl⟩ := prepend wr (48 + -dd) (UInt8.ofNat (48 + m)) (by rw [hc9]; omega) (.slice a N cap) L HV.out (by have := HL.out; omega)
        have HRUN := Lib.hid hrun
        have HV2 := Lib.hid hby
        have HB2 := Lib.hid (HB.out.trans (hbl.mono HB.out.size))
        obtain ⟨a2, cap2, hv2, _⟩ := hby
        subst hv2
        have hgz : (N = 0 ∨ N ≠ 0) := by omega
        clear hrun hbl hm hc9 hst hN
        clear hdd2
        rcases hgz with hgz | hgz
        · have hg1 : ((N : Int) == 0) = true := by simp; omega
          clear hgz hgo
          go_wp2_with (first | (at_builtin; refine Lib.wpList_append_run _ rfl _ _ _ _ rfl _ _ rfl rfl _ _ (HRUN.out _) ?_) | fail)
          go_roundw
          case rel => exact ⟨q, _, rq, HN2, hdr, hq0, hq1, rfl, HV2, HB2⟩
          case measure => have := hmeas.out; have := hdr.out; have := HR.out; simp [intOf, slN]; omega
        · have hg1 : ((N : Int) == 0) = false := by simp; omega
          have hr2 : (r == 0) = false := by simp; omega
          have hr3 : (r != 0) = true := by simp; omega
          clear hgz hgo
          go_wp2_with (first | (at_builtin; refine Lib.wpList_append_run _ rfl _ _ _ _ rfl _ _ rfl rfl _ _ (HRUN.out _) ?_) | fail)
          go_roundw
          case rel => exact ⟨q, _, rq, HN2, hdr, hq0, hq1, rfl, HV2, HB2⟩
          case measure => have := hmeas.out; have := hdr.out; have := HR.out; simp [intOf, slN]; omega
    · have hg1 : ((N : Int) == 0) = false := by simp; omega
      have hne : L ≠ [] := by intro e; rw [e] at hN; exact hN0 hN
      have hU : U = 0 := by have := HR.out; omega
      have HF : Hid (L = Lib.decDigits U0) := Lib.hid (DigRel.stop (hU ▸ HD.out) hne)
      subst hr
      obtain ⟨v', W2, hrun, hby, hbl⟩ := prepend wr 45 45 rfl (.slice a N cap) L HV.out (by have := HL.out; omega)
      have HRUN := Lib.hid hrun
      have HB2 := Lib.hid (HB.out.trans (hbl.mono HB.out.size))
      have htx := hby.text (by simp)
      clear hrun hbl hby hne hU hN hN0
      go_wp2_with (first | (at_builtin; refine Lib.wpList_append_run _ rfl _ _ _ _ rfl _ _ rfl rfl _ _ (HRUN.out _) ?_) | fail)
      go_ret
      exact ⟨by rw [HF.out]; rfl, HB2.out⟩
theorem dec_spec (n : Int) (h0 : -9223372036854775808 ≤ n) (h1 : n ≤ 9223372036854775807) (w : World) :
    Calls Tryd.prog 62 #[.int .i64 n] w fun e w' => e = .returned (.string (txB (Lib.itoa n))) ∧ Below w.heap.size w w' := by
  by_cases hn : n < 0
  · obtain ⟨u, rfl⟩ : ∃ u : Nat, n = -(u : Int) := ⟨n.natAbs, by omega⟩
    rw [Lib.itoa_neg u (by omega)]
    exact dec_specN u ⟨by omega, by omega⟩ w
  · obtain ⟨u, rfl⟩ : ∃ u : Nat, n = (u : Int) := ⟨n.toNat, by omega⟩
    rw [Lib.itoa_nonneg]
    exact dec_specP u (by omega) w
end Go.Proofs.YthkabonnclfhmaaDoor
