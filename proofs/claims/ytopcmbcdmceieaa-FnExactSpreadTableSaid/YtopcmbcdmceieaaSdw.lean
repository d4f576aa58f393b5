/- SpreadTable: the functions. -/
import Derived.Test.YtopcmbcdmceieaaVsw
namespace Go.Proofs.Ytopcmbcdmceieaa
open Go.Proofs.Ytopcmbcdmceieaa.Flo Go.RowKit

/-- A letter is put s times. -/
def fillK (st A : Nat) (k : Nat) : Nat → List Int × Nat → List Int × Nat
  | 0, x => x
  | s + 1, x => ((fillK st A k s x).1.set (fillK st A k s x).2 (k : Int), ((fillK st A k s x).2 + st) % A)
def sdL (st A : Nat) (zs : List Int) : Nat → List Int × Nat
  | 0 => (List.replicate A 0, 0)
  | k + 1 => fillK st A k (zs.getD k 0).toNat (sdL st A zs k)
def sdA (p : Int) : Nat := 2 ^ p.toNat
def sdS (p : Int) : Nat := if 4 ≤ p then 5 * sdA p / 8 + 3 else 1
def sdR (p : Int) (zs : List Int) (n : Nat) : List Int := (sdL (sdS p) (sdA p) zs n).1
theorem fill_pl {st A k : Nat} (hA : 0 < A) {x : List Int × Nat} (hx : x.2 < A) : ∀ s, (fillK st A k s x).2 < A
  | 0 => hx
  | _ + 1 => Nat.mod_lt _ hA
theorem sd_pl {st A : Nat} (hA : 0 < A) (zs : List Int) : ∀ k, (sdL st A zs k).2 < A
  | 0 => hA
  | k + 1 => fill_pl hA (sd_pl hA zs k) _
theorem sdA_le {p : Int} (h : 1 ≤ p ∧ p ≤ 8) : 2 ≤ sdA p ∧ sdA p ≤ 256 ∧ ((sdA p : Nat) : Int) = 2 ^ p.toNat := by
  have h1 := p2_8 h
  have e : ((sdA p : Nat) : Int) = 2 ^ p.toNat := by unfold sdA; simp
  rw [← e] at h1
  exact ⟨by omega, by omega, e⟩
theorem icl_made (w : World) (n : Nat) (T : TypeId) : ICl (w.alloc (.cells (madeCells #[Value.int .i64 0] n) T)) w.heap.size n (List.replicate n 0) := by
  refine ⟨by simp, by show (List.replicate n (0 : Int)).length = n; simp, fun i hi => ⟨?_, World.frozen?_alloc_at _ _ _ _ rfl⟩⟩
  have hi : i < n := hi
  rw [World.cell?_alloc_at _ _ _ _ rfl, made_eqI]
  show (Array.replicate n (Value.int .i64 0))[i]? = some (Value.int .i64 ((List.replicate n (0 : Int)).getD i 0))
  rw [List.getD_eq_getElem?_getD]
  simp [hi]
theorem rem_nat (p st A : Nat) : ((p : Int) + (st : Int)).tmod (A : Int) = (((p + st) % A : Nat) : Int) := by
  rw [Int.tmod_eq_emod_of_nonneg (by omega)]
  simp
set_option maxRecDepth 100000 in
set_option maxHeartbeats 8000000 in
theorem sdS_a (p : Nat) (m : Nat) (a : Option Addr) (n cap : Nat) (zs : List Int) (w : World) (h : IRow w a n zs) (hok : stB (m : Int) zs n = true) (h0 : w.cell? ⟨p, 0, none⟩ = some (.int .i64 (m : Int))) (h1 : w.cell? ⟨p, 1, none⟩ = some (.slice a n cap)) (hm4 : 4 ≤ m) :
    Calls Try.prog 85 #[.pointer (some ⟨p, 0, none⟩)] w fun e w' => ∃ g cp, e = .returned (.slice (some ⟨g, 0, none⟩) (sdA (m : Int)) cp) ∧ New w w' g (.il (sdA (m : Int)) (sdL (sdS (m : Int)) (sdA (m : Int)) zs n).1) := by
  have hpl : p < w.heap.size := World.block_lt_of_cell? w _ h0
  obtain ⟨hm1, ⟨hn2, hn16⟩, hsp, _⟩ := st_out hok
  obtain ⟨hA1, hA2, hA3⟩ := sdA_le hm1
  rw [Int.toNat_natCast] at hA3
  have HA := Lib.hid h
  have H0 := Lib.hid h0
  have H1 := Lib.hid h1
  have HSP := Lib.hid hsp
  have hm8 : m ≤ 8 := by omega
  have hmin : min m 64 = m := by omega
  have hp2 := hA3.symm
  have hwr : IntKind.i64.wrap ((2 : Int) ^ m) = ((sdA (m : Int) : Nat) : Int) := by rw [hp2]; exact IntWalk.i64_in _ (by omega)
  clear h hok hsp hA3
  have hd4 : decide (4 ≤ (m : Int)) = true := decide_eq_true (by omega)
  have hst : sdS (m : Int) = 5 * sdA (m : Int) / 8 + 3 := by unfold sdS; rw [if_pos (by omega)]
  rw [hst]
  clear hst
  obtain ⟨st, hste⟩ : ∃ st : Nat, st = 5 * sdA (m : Int) / 8 + 3 := ⟨_, rfl⟩
  rw [← hste]
  generalize sdA (m : Int) = A at *
  have hw5 : IntKind.i64.wrap (5 * (A : Int)) = 5 * (A : Int) := IntWalk.i64_in _ (by omega)
  have hw8 : (5 * (A : Int)).tdiv 8 = (5 * (A : Int)) / 8 := Int.tdiv_eq_ediv_of_nonneg (by omega)
  have hw8a : IntKind.i64.wrap ((5 * (A : Int)) / 8) = (5 * (A : Int)) / 8 := IntWalk.i64_in _ (by omega)
  have HST : Hid ((5 * (A : Int)) / 8 + 3 = (st : Int)) := Lib.hid (by omega)
  have hst2 : st ≤ 163 := by omega
  have hA0 : ¬ ((A : Int) = 0) := by omega
  have hA0b : ((A : Int) == 0) = false := by simpa using hA0
  have hmk := fun w9 : World => run_make_row' (P := Try.prog) 22 2 (.int .i64 0) 8 Try.underlying22 Try.info64 rfl .i64 .i64 A (by omega) (by omega) w9
  go_enter Try.func85, Try.ntmps85
  go_wp2
  go_loopw [6, 30] (fun pv iv w' => ∃ (k : Nat) (wr : World), k ≤ n ∧ pv = .int .i64 (((sdL st A zs k).2 : Nat) : Int) ∧ iv = .int .i64 k ∧ wr = w' ∧ Hid (ICl wr w.heap.size A (sdL st A zs k).1) ∧ Hid (Below w.heap.size w wr)) (fun _ iv _ => n - (intOf iv).toNat)
  case atStart => exact ⟨0, _, by omega, rfl, rfl, rfl, Lib.hid (icl_made _ _ _), Lib.hid (below_alloc _ _)⟩
  case round =>
    obtain ⟨k, wr0, hk, rfl, rfl, rfl, HI, HW⟩ := hrel
    by_cases hlt : k < n
    · obtain ⟨b1, o1, rfl, hblt, hck1⟩ := (HA.out.below HW.out).cell' hlt
      have hc := HSP.out k hlt
      obtain ⟨hc0, hc1⟩ := hc
      obtain ⟨c, hcc⟩ : ∃ c : Nat, zs.getD k 0 = (c : Int) := ⟨(zs.getD k 0).toNat, by omega⟩
      have HK : Hid (sdL st A zs (k + 1) = fillK st A k c (sdL st A zs k)) := Lib.hid (by show fillK _ _ _ (zs.getD k 0).toNat _ = _; rw [hcc, Int.toNat_natCast])
      rw [hcc] at hck1 hc0 hc1
      have hq0 : wr0.cell? ⟨p, 0, none⟩ = some (.int .i64 (m : Int)) := (HW.out.cell (p := ⟨p, 0, none⟩) hpl).trans H0.out
      have hq1 : wr0.cell? ⟨p, 1, none⟩ = some (.slice (some ⟨b1, o1, none⟩) n cap) := (HW.out.cell (p := ⟨p, 1, none⟩) hpl).trans H1.out
      go_wp2
      clear hck1 hq0 hq1
      go_loopw [6, 8] (fun pv iv w' => ∃ (s : Nat) (wr : World), s ≤ c ∧ pv = .int .i64 (((fillK st A k s (sdL st A zs k)).2 : Nat) : Int) ∧ iv = .int .i64 s ∧ wr = w' ∧ Hid (ICl wr w.heap.size A (fillK st A k s (sdL st A zs k)).1) ∧ Hid (Below w.heap.size w wr)) (fun _ iv _ => c - (intOf iv).toNat)
      case atStart => exact ⟨0, _, by omega, rfl, rfl, rfl, HI, HW⟩
      case round =>
        clear HI HW
        obtain ⟨s, wr, hs, rfl, rfl, rfl, HI, HW⟩ := hrel
        have hq0 : wr.cell? ⟨p, 0, none⟩ = some (.int .i64 (m : Int)) := (HW.out.cell (p := ⟨p, 0, none⟩) hpl).trans H0.out
        have hq1 : wr.cell? ⟨p, 1, none⟩ = some (.slice (some ⟨b1, o1, none⟩) n cap) := (HW.out.cell (p := ⟨p, 1, none⟩) hpl).trans H1.out
        have hck1 : wr.cell? ⟨b1, o1 + k, none⟩ = some (.int .i64 (c : Int)) := by
          have := (HA.out.below HW.out).cell' hlt
          obtain ⟨b2, o2, e, _, hx⟩ := this
          injection e with e; injection e with e1 e2; subst e1; subst e2; rw [hcc] at hx; exact hx
        by_cases hls : s < c
        · have hpl2 := fill_pl (st := st) (k := k) (show 0 < A by omega) (sd_pl (st := st) (show 0 < A by omega) zs k) s
          have HF : Hid ((fillK st A k (s + 1) (sdL st A zs k)) = ((fillK st A k s (sdL st A zs k)).1.set (fillK st A k s (sdL st A zs k)).2 (k : Int), ((fillK st A k s (sdL st A zs k)).2 + st) % A)) := Lib.hid rfl
          generalize fillK st A k s (sdL st A zs k) = X at HI hpl2 HF
          obtain ⟨L, pl⟩ := X
          have hpl2 : pl < A := hpl2
          have HI : Hid (ICl wr w.heap.size A L) := HI
          obtain ⟨hck2, hfk2⟩ := HI.out.cell hpl2
          have HIP := Lib.hid (HI.out.put hpl2 (k : Int))
          have hr1 : ((pl : Int) + (st : Nat)).tmod (A : Int) = (((pl + st) % A : Nat) : Int) := rem_nat pl st A
          rw [← HST.out] at hr1
          have hr2 : (pl + st) % A < A := Nat.mod_lt _ (by omega)
          have HW2 : Hid (Below w.heap.size w (wr.setCell ⟨w.heap.size, pl, none⟩ (.int .i64 (k : Int)))) := Lib.hid (Below.setCell HW.out (Nat.le_refl _) _)
          have hq0b : (wr.setCell ⟨w.heap.size, pl, none⟩ (.int .i64 (k : Int))).cell? ⟨p, 0, none⟩ = some (.int .i64 (m : Int)) := (HW2.out.cell (p := ⟨p, 0, none⟩) hpl).trans H0.out
          generalize ((pl + st) % A) = q at hr1 hr2 HF
          go_wp2
          exact ⟨⟨s + 1, _, by omega, by rw [HF.out], by first | rfl | go_num | (congr 1), rfl, Lib.hid (by rw [HF.out]; exact HIP.out), HW2⟩, by show c - ((s : Int) + 1).toNat < c - (s : Int).toNat; omega⟩
        · obtain rfl : s = c := by omega
          go_wp2
          refine ⟨⟨k + 1, _, by omega, by rw [HK.out], by first | rfl | go_num | (congr 1), rfl, Lib.hid (by rw [HK.out]; exact HI.out), HW⟩, by show n - ((k : Int) + 1).toNat < n - (k : Int).toNat; omega⟩
    · obtain rfl : k = n := by omega
      go_wp2
      go_ret
      exact ⟨_, _, rfl, ICl.new HI.out (Nat.le_refl _) HW.out⟩
set_option maxRecDepth 100000 in
set_option maxHeartbeats 8000000 in
theorem sdS_b (p : Nat) (m : Nat) (a : Option Addr) (n cap : Nat) (zs : List Int) (w : World) (h : IRow w a n zs) (hok : stB (m : Int) zs n = true) (h0 : w.cell? ⟨p, 0, none⟩ = some (.int .i64 (m : Int))) (h1 : w.cell? ⟨p, 1, none⟩ = some (.slice a n cap)) (hm4 : ¬ 4 ≤ m) :
    Calls Try.prog 85 #[.pointer (some ⟨p, 0, none⟩)] w fun e w' => ∃ g cp, e = .returned (.slice (some ⟨g, 0, none⟩) (sdA (m : Int)) cp) ∧ New w w' g (.il (sdA (m : Int)) (sdL (sdS (m : Int)) (sdA (m : Int)) zs n).1) := by
  have hpl : p < w.heap.size := World.block_lt_of_cell? w _ h0
  obtain ⟨hm1, ⟨hn2, hn16⟩, hsp, _⟩ := st_out hok
  obtain ⟨hA1, hA2, hA3⟩ := sdA_le hm1
  rw [Int.toNat_natCast] at hA3
  have HA := Lib.hid h
  have H0 := Lib.hid h0
  have H1 := Lib.hid h1
  have HSP := Lib.hid hsp
  have hm8 : m ≤ 8 := by omega
  have hmin : min m 64 = m := by omega
  have hp2 := hA3.symm
  have hwr : IntKind.i64.wrap ((2 : Int) ^ m) = ((sdA (m : Int) : Nat) : Int) := by rw [hp2]; exact IntWalk.i64_in _ (by omega)
  clear h hok hsp hA3
  have hd4 : decide (4 ≤ (m : Int)) = false := decide_eq_false (by omega)
  have hst : sdS (m : Int) = 1 := by unfold sdS; rw [if_neg (by omega)]
  rw [hst]
  clear hst
  obtain ⟨st, hste⟩ : ∃ st : Nat, st = 1 := ⟨_, rfl⟩
  rw [← hste]
  generalize sdA (m : Int) = A at *
  subst hste
  have hst2 : 1 ≤ 163 := by omega
  have hA0 : ¬ ((A : Int) = 0) := by omega
  have hA0b : ((A : Int) == 0) = false := by simpa using hA0
  have hmk := fun w9 : World => run_make_row' (P := Try.prog) 22 2 (.int .i64 0) 8 Try.underlying22 Try.info64 rfl .i64 .i64 A (by omega) (by omega) w9
  go_enter Try.func85, Try.ntmps85
  go_wp2
  go_loopw [6, 30] (fun pv iv w' => ∃ (k : Nat) (wr : World), k ≤ n ∧ pv = .int .i64 (((sdL 1 A zs k).2 : Nat) : Int) ∧ iv = .int .i64 k ∧ wr = w' ∧ Hid (ICl wr w.heap.size A (sdL 1 A zs k).1) ∧ Hid (Below w.heap.size w wr)) (fun _ iv _ => n - (intOf iv).toNat)
  case atStart => exact ⟨0, _, by omega, rfl, rfl, rfl, Lib.hid (icl_made _ _ _), Lib.hid (below_alloc _ _)⟩
  case round =>
    obtain ⟨k, wr0, hk, rfl, rfl, rfl, HI, HW⟩ := hrel
    by_cases hlt : k < n
    · obtain ⟨b1, o1, rfl, hblt, hck1⟩ := (HA.out.below HW.out).cell' hlt
      have hc := HSP.out k hlt
      obtain ⟨hc0, hc1⟩ := hc
      obtain ⟨c, hcc⟩ : ∃ c : Nat, zs.getD k 0 = (c : Int) := ⟨(zs.getD k 0).toNat, by omega⟩
      have HK : Hid (sdL 1 A zs (k + 1) = fillK 1 A k c (sdL 1 A zs k)) := Lib.hid (by show fillK _ _ _ (zs.getD k 0).toNat _ = _; rw [hcc, Int.toNat_natCast])
      rw [hcc] at hck1 hc0 hc1
      have hq0 : wr0.cell? ⟨p, 0, none⟩ = some (.int .i64 (m : Int)) := (HW.out.cell (p := ⟨p, 0, none⟩) hpl).trans H0.out
      have hq1 : wr0.cell? ⟨p, 1, none⟩ = some (.slice (some ⟨b1, o1, none⟩) n cap) := (HW.out.cell (p := ⟨p, 1, none⟩) hpl).trans H1.out
      go_wp2
      clear hck1 hq0 hq1
      go_loopw [6, 8] (fun pv iv w' => ∃ (s : Nat) (wr : World), s ≤ c ∧ pv = .int .i64 (((fillK 1 A k s (sdL 1 A zs k)).2 : Nat) : Int) ∧ iv = .int .i64 s ∧ wr = w' ∧ Hid (ICl wr w.heap.size A (fillK 1 A k s (sdL 1 A zs k)).1) ∧ Hid (Below w.heap.size w wr)) (fun _ iv _ => c - (intOf iv).toNat)
      case atStart => exact ⟨0, _, by omega, rfl, rfl, rfl, HI, HW⟩
      case round =>
        clear HI HW
        obtain ⟨s, wr, hs, rfl, rfl, rfl, HI, HW⟩ := hrel
        have hq0 : wr.cell? ⟨p, 0, none⟩ = some (.int .i64 (m : Int)) := (HW.out.cell (p := ⟨p, 0, none⟩) hpl).trans H0.out
        have hq1 : wr.cell? ⟨p, 1, none⟩ = some (.slice (some ⟨b1, o1, none⟩) n cap) := (HW.out.cell (p := ⟨p, 1, none⟩) hpl).trans H1.out
        have hck1 : wr.cell? ⟨b1, o1 + k, none⟩ = some (.int .i64 (c : Int)) := by
          have := (HA.out.below HW.out).cell' hlt
          obtain ⟨b2, o2, e, _, hx⟩ := this
          injection e with e; injection e with e1 e2; subst e1; subst e2; rw [hcc] at hx; exact hx
        by_cases hls : s < c
        · have hpl2 := fill_pl (st := 1) (k := k) (show 0 < A by omega) (sd_pl (st := 1) (show 0 < A by omega) zs k) s
          have HF : Hid ((fillK 1 A k (s + 1) (sdL 1 A zs k)) = ((fillK 1 A k s (sdL 1 A zs k)).1.set (fillK 1 A k s (sdL 1 A zs k)).2 (k : Int), ((fillK 1 A k s (sdL 1 A zs k)).2 + 1) % A)) := Lib.hid rfl
          generalize fillK 1 A k s (sdL 1 A zs k) = X at HI hpl2 HF
          obtain ⟨L, pl⟩ := X
          have hpl2 : pl < A := hpl2
          have HI : Hid (ICl wr w.heap.size A L) := HI
          obtain ⟨hck2, hfk2⟩ := HI.out.cell hpl2
          have HIP := Lib.hid (HI.out.put hpl2 (k : Int))
          have hr1 : ((pl : Int) + (1 : Nat)).tmod (A : Int) = (((pl + 1) % A : Nat) : Int) := rem_nat pl 1 A
          have hr1 : ((pl : Int) + 1).tmod (A : Int) = (((pl + 1) % A : Nat) : Int) := hr1
          have hr2 : (pl + 1) % A < A := Nat.mod_lt _ (by omega)
          have HW2 : Hid (Below w.heap.size w (wr.setCell ⟨w.heap.size, pl, none⟩ (.int .i64 (k : Int)))) := Lib.hid (Below.setCell HW.out (Nat.le_refl _) _)
          have hq0b : (wr.setCell ⟨w.heap.size, pl, none⟩ (.int .i64 (k : Int))).cell? ⟨p, 0, none⟩ = some (.int .i64 (m : Int)) := (HW2.out.cell (p := ⟨p, 0, none⟩) hpl).trans H0.out
          generalize ((pl + 1) % A) = q at hr1 hr2 HF
          go_wp2
          exact ⟨⟨s + 1, _, by omega, by rw [HF.out], by first | rfl | go_num | (congr 1), rfl, Lib.hid (by rw [HF.out]; exact HIP.out), HW2⟩, by show c - ((s : Int) + 1).toNat < c - (s : Int).toNat; omega⟩
        · obtain rfl : s = c := by omega
          go_wp2
          refine ⟨⟨k + 1, _, by omega, by rw [HK.out], by first | rfl | go_num | (congr 1), rfl, Lib.hid (by rw [HK.out]; exact HI.out), HW⟩, by show n - ((k : Int) + 1).toNat < n - (k : Int).toNat; omega⟩
    · obtain rfl : k = n := by omega
      go_wp2
      go_ret
      exact ⟨_, _, rfl, ICl.new HI.out (Nat.le_refl _) HW.out⟩
set_option maxRecDepth 100000 in
set_option maxHeartbeats 8000000 in
theorem sdI_a (m : Nat) (a : Option Addr) (n cap : Nat) (zs : List Int) (w : World) (h : IRow w a n zs) (hn : n ≤ 1048576) (hok : stB (m : Int) zs n = true) (hm4 : 4 ≤ m) :
    Calls Try.prog 50 #[.agg #[.int .i64 (m : Int), .slice a n cap]] w fun e w' => ∃ g cp, e = .returned (.tuple #[.slice (some ⟨g, 0, none⟩) (sdA (m : Int)) cp, .bool true]) ∧ New w w' g (.il (sdA (m : Int)) (sdL (sdS (m : Int)) (sdA (m : Int)) zs n).1) := by
  obtain ⟨hm1, ⟨hn2, hn16⟩, hsp, _⟩ := st_out hok
  obtain ⟨hA1, hA2, hA3⟩ := sdA_le hm1
  rw [Int.toNat_natCast] at hA3
  have HA := Lib.hid h
  have HA2 := Lib.hid (h.alloc (.cells #[.int .i64 (m : Int), .slice a n cap] 48))
  have HC := Lib.hid (Kin.new (w := w) (x := .int .i64 (m : Int)) (y := .slice a n cap) (T := 48))
  have HOK := Lib.hid hok
  have HSP := Lib.hid hsp
  have hm8 : m ≤ 8 := by omega
  have hmin : min m 64 = m := by omega
  have hp2 := hA3.symm
  have hwr : IntKind.i64.wrap ((2 : Int) ^ m) = ((sdA (m : Int) : Nat) : Int) := by rw [hp2]; exact IntWalk.i64_in _ (by omega)
  clear h hok hsp hA3
  have hd4 : decide (4 ≤ (m : Int)) = true := decide_eq_true (by omega)
  have hst : sdS (m : Int) = 5 * sdA (m : Int) / 8 + 3 := by unfold sdS; rw [if_pos (by omega)]
  rw [hst]
  clear hst
  obtain ⟨st, hste⟩ : ∃ st : Nat, st = 5 * sdA (m : Int) / 8 + 3 := ⟨_, rfl⟩
  rw [← hste]
  generalize sdA (m : Int) = A at *
  have hw5 : IntKind.i64.wrap (5 * (A : Int)) = 5 * (A : Int) := IntWalk.i64_in _ (by omega)
  have hw8 : (5 * (A : Int)).tdiv 8 = (5 * (A : Int)) / 8 := Int.tdiv_eq_ediv_of_nonneg (by omega)
  have hw8a : IntKind.i64.wrap ((5 * (A : Int)) / 8) = (5 * (A : Int)) / 8 := IntWalk.i64_in _ (by omega)
  have HST : Hid ((5 * (A : Int)) / 8 + 3 = (st : Int)) := Lib.hid (by omega)
  have hst2 : st ≤ 163 := by omega
  have hA0 : ¬ ((A : Int) = 0) := by omega
  have hA0b : ((A : Int) == 0) = false := by simpa using hA0
  have hmk := fun w9 : World => run_make_row' (P := Try.prog) 22 2 (.int .i64 0) 8 Try.underlying22 Try.info64 rfl .i64 .i64 A (by omega) (by omega) w9
  go_enter Try.func50, Try.ntmps50
  go_wp2_with (first | (go_at_call 40; refine (vst_impl (m : Int) a n cap zs _ HA2.out hn).mono ?_; rw [HOK.out]; rintro e w2 ⟨rfl, hd⟩; have HC2 := Lib.hid (HC.out.below hd); have HB := Lib.hid (Below.next (below_alloc _ _) hd : Below w.heap.size w w2); obtain ⟨hP, hp0, hp1, hpf0, hpf1⟩ := HC2.out; have hp1a : ∀ o, (w2.alloc o).cell? ⟨w.heap.size, 1, none⟩ = some (.slice a n cap) := (fun o => ((HC2.out.below (below_alloc w2 o))).2.2.1); clear hd) | fail)
  clear hp0 hp1 hpf0 hpf1 hp1a
  go_loopw [7, 28] (fun pv iv w' => ∃ (k : Nat) (wr : World), k ≤ n ∧ pv = .int .i64 (((sdL st A zs k).2 : Nat) : Int) ∧ iv = .int .i64 k ∧ wr = w' ∧ Hid (ICl wr w2.heap.size A (sdL st A zs k).1) ∧ Hid (Below w2.heap.size w2 wr)) (fun _ iv _ => n - (intOf iv).toNat)
  case atStart => exact ⟨0, _, by omega, rfl, rfl, rfl, Lib.hid (icl_made _ _ _), Lib.hid (below_alloc _ _)⟩
  case round =>
    obtain ⟨k, wr0, hk, rfl, rfl, rfl, HI, HW⟩ := hrel
    by_cases hlt : k < n
    · obtain ⟨b1, o1, rfl, hblt, hck1⟩ := (HA.out.below (Below.next HB.out HW.out)).cell' hlt
      have hc := HSP.out k hlt
      obtain ⟨hc0, hc1⟩ := hc
      obtain ⟨c, hcc⟩ : ∃ c : Nat, zs.getD k 0 = (c : Int) := ⟨(zs.getD k 0).toNat, by omega⟩
      have HK : Hid (sdL st A zs (k + 1) = fillK st A k c (sdL st A zs k)) := Lib.hid (by show fillK _ _ _ (zs.getD k 0).toNat _ = _; rw [hcc, Int.toNat_natCast])
      rw [hcc] at hck1 hc0 hc1
      have hq1 : wr0.cell? ⟨w.heap.size, 1, none⟩ = some (.slice (some ⟨b1, o1, none⟩) n cap) := (HC2.out.below HW.out).2.2.1
      go_wp2
      clear hck1 hq1
      go_loopw [7, 34] (fun pv iv w' => ∃ (s : Nat) (wr : World), s ≤ c ∧ pv = .int .i64 (((fillK st A k s (sdL st A zs k)).2 : Nat) : Int) ∧ iv = .int .i64 s ∧ wr = w' ∧ Hid (ICl wr w2.heap.size A (fillK st A k s (sdL st A zs k)).1) ∧ Hid (Below w2.heap.size w2 wr)) (fun _ iv _ => c - (intOf iv).toNat)
      case atStart => exact ⟨0, _, by omega, rfl, rfl, rfl, HI, HW⟩
      case round =>
        clear HI HW
        obtain ⟨s, wr, hs, rfl, rfl, rfl, HI, HW⟩ := hrel
        by_cases hls : s < c
        · have hpl2 := fill_pl (st := st) (k := k) (show 0 < A by omega) (sd_pl (st := st) (show 0 < A by omega) zs k) s
          have HF : Hid ((fillK st A k (s + 1) (sdL st A zs k)) = ((fillK st A k s (sdL st A zs k)).1.set (fillK st A k s (sdL st A zs k)).2 (k : Int), ((fillK st A k s (sdL st A zs k)).2 + st) % A)) := Lib.hid rfl
          generalize fillK st A k s (sdL st A zs k) = X at HI hpl2 HF
          obtain ⟨L, pl⟩ := X
          have hpl2 : pl < A := hpl2
          have HI : Hid (ICl wr w2.heap.size A L) := HI
          obtain ⟨hck2, hfk2⟩ := HI.out.cell hpl2
          have HIP := Lib.hid (HI.out.put hpl2 (k : Int))
          have hr1 : ((pl : Int) + (st : Nat)).tmod (A : Int) = (((pl + st) % A : Nat) : Int) := rem_nat pl st A
          rw [← HST.out] at hr1
          have hr2 : (pl + st) % A < A := Nat.mod_lt _ (by omega)
          have HW2 : Hid (Below w2.heap.size w2 (wr.setCell ⟨w2.heap.size, pl, none⟩ (.int .i64 (k : Int)))) := Lib.hid (Below.setCell HW.out (Nat.le_refl _) _)
          generalize ((pl + st) % A) = q at hr1 hr2 HF
          go_wp2
          exact ⟨⟨s + 1, _, by omega, by rw [HF.out], by first | rfl | go_num | (congr 1), rfl, Lib.hid (by rw [HF.out]; exact HIP.out), HW2⟩, by show c - ((s : Int) + 1).toNat < c - (s : Int).toNat; omega⟩
        · obtain rfl : s = c := by omega
          go_wp2
          refine ⟨⟨k + 1, _, by omega, by rw [HK.out], by first | rfl | go_num | (congr 1), rfl, Lib.hid (by rw [HK.out]; exact HI.out), HW⟩, by show n - ((k : Int) + 1).toNat < n - (k : Int).toNat; omega⟩
    · obtain rfl : k = n := by omega
      go_wp2
      go_ret2
      exact ⟨_, _, rfl, ICl.new HI.out (by have := HB.out.size; omega) (Below.next HB.out HW.out)⟩
set_option maxRecDepth 100000 in
set_option maxHeartbeats 8000000 in
theorem sdI_b (m : Nat) (a : Option Addr) (n cap : Nat) (zs : List Int) (w : World) (h : IRow w a n zs) (hn : n ≤ 1048576) (hok : stB (m : Int) zs n = true) (hm4 : ¬ 4 ≤ m) :
    Calls Try.prog 50 #[.agg #[.int .i64 (m : Int), .slice a n cap]] w fun e w' => ∃ g cp, e = .returned (.tuple #[.slice (some ⟨g, 0, none⟩) (sdA (m : Int)) cp, .bool true]) ∧ New w w' g (.il (sdA (m : Int)) (sdL (sdS (m : Int)) (sdA (m : Int)) zs n).1) := by
  obtain ⟨hm1, ⟨hn2, hn16⟩, hsp, _⟩ := st_out hok
  obtain ⟨hA1, hA2, hA3⟩ := sdA_le hm1
  rw [Int.toNat_natCast] at hA3
  have HA := Lib.hid h
  have HA2 := Lib.hid (h.alloc (.cells #[.int .i64 (m : Int), .slice a n cap] 48))
  have HC := Lib.hid (Kin.new (w := w) (x := .int .i64 (m : Int)) (y := .slice a n cap) (T := 48))
  have HOK := Lib.hid hok
  have HSP := Lib.hid hsp
  have hm8 : m ≤ 8 := by omega
  have hmin : min m 64 = m := by omega
  have hp2 := hA3.symm
  have hwr : IntKind.i64.wrap ((2 : Int) ^ m) = ((sdA (m : Int) : Nat) : Int) := by rw [hp2]; exact IntWalk.i64_in _ (by omega)
  clear h hok hsp hA3
  have hd4 : decide (4 ≤ (m : Int)) = false := decide_eq_false (by omega)
  have hst : sdS (m : Int) = 1 := by unfold sdS; rw [if_neg (by omega)]
  rw [hst]
  clear hst
  obtain ⟨st, hste⟩ : ∃ st : Nat, st = 1 := ⟨_, rfl⟩
  rw [← hste]
  generalize sdA (m : Int) = A at *
  subst hste
  have hst2 : 1 ≤ 163 := by omega
  have hA0 : ¬ ((A : Int) = 0) := by omega
  have hA0b : ((A : Int) == 0) = false := by simpa using hA0
  have hmk := fun w9 : World => run_make_row' (P := Try.prog) 22 2 (.int .i64 0) 8 Try.underlying22 Try.info64 rfl .i64 .i64 A (by omega) (by omega) w9
  go_enter Try.func50, Try.ntmps50
  go_wp2_with (first | (go_at_call 40; refine (vst_impl (m : Int) a n cap zs _ HA2.out hn).mono ?_; rw [HOK.out]; rintro e w2 ⟨rfl, hd⟩; have HC2 := Lib.hid (HC.out.below hd); have HB := Lib.hid (Below.next (below_alloc _ _) hd : Below w.heap.size w w2); obtain ⟨hP, hp0, hp1, hpf0, hpf1⟩ := HC2.out; have hp1a : ∀ o, (w2.alloc o).cell? ⟨w.heap.size, 1, none⟩ = some (.slice a n cap) := (fun o => ((HC2.out.below (below_alloc w2 o))).2.2.1); clear hd) | fail)
  clear hp0 hp1 hpf0 hpf1 hp1a
  go_loopw [7, 28] (fun pv iv w' => ∃ (k : Nat) (wr : World), k ≤ n ∧ pv = .int .i64 (((sdL 1 A zs k).2 : Nat) : Int) ∧ iv = .int .i64 k ∧ wr = w' ∧ Hid (ICl wr w2.heap.size A (sdL 1 A zs k).1) ∧ Hid (Below w2.heap.size w2 wr)) (fun _ iv _ => n - (intOf iv).toNat)
  case atStart => exact ⟨0, _, by omega, rfl, rfl, rfl, Lib.hid (icl_made _ _ _), Lib.hid (below_alloc _ _)⟩
  case round =>
    obtain ⟨k, wr0, hk, rfl, rfl, rfl, HI, HW⟩ := hrel
    by_cases hlt : k < n
    · obtain ⟨b1, o1, rfl, hblt, hck1⟩ := (HA.out.below (Below.next HB.out HW.out)).cell' hlt
      have hc := HSP.out k hlt
      obtain ⟨hc0, hc1⟩ := hc
      obtain ⟨c, hcc⟩ : ∃ c : Nat, zs.getD k 0 = (c : Int) := ⟨(zs.getD k 0).toNat, by omega⟩
      have HK : Hid (sdL 1 A zs (k + 1) = fillK 1 A k c (sdL 1 A zs k)) := Lib.hid (by show fillK _ _ _ (zs.getD k 0).toNat _ = _; rw [hcc, Int.toNat_natCast])
      rw [hcc] at hck1 hc0 hc1
      have hq1 : wr0.cell? ⟨w.heap.size, 1, none⟩ = some (.slice (some ⟨b1, o1, none⟩) n cap) := (HC2.out.below HW.out).2.2.1
      go_wp2
      clear hck1 hq1
      go_loopw [7, 34] (fun pv iv w' => ∃ (s : Nat) (wr : World), s ≤ c ∧ pv = .int .i64 (((fillK 1 A k s (sdL 1 A zs k)).2 : Nat) : Int) ∧ iv = .int .i64 s ∧ wr = w' ∧ Hid (ICl wr w2.heap.size A (fillK 1 A k s (sdL 1 A zs k)).1) ∧ Hid (Below w2.heap.size w2 wr)) (fun _ iv _ => c - (intOf iv).toNat)
      case atStart => exact ⟨0, _, by omega, rfl, rfl, rfl, HI, HW⟩
      case round =>
        clear HI HW
        obtain ⟨s, wr, hs, rfl, rfl, rfl, HI, HW⟩ := hrel
        by_cases hls : s < c
        · have hpl2 := fill_pl (st := 1) (k := k) (show 0 < A by omega) (sd_pl (st := 1) (show 0 < A by omega) zs k) s
          have HF : Hid ((fillK 1 A k (s + 1) (sdL 1 A zs k)) = ((fillK 1 A k s (sdL 1 A zs k)).1.set (fillK 1 A k s (sdL 1 A zs k)).2 (k : Int), ((fillK 1 A k s (sdL 1 A zs k)).2 + 1) % A)) := Lib.hid rfl
          generalize fillK 1 A k s (sdL 1 A zs k) = X at HI hpl2 HF
          obtain ⟨L, pl⟩ := X
          have hpl2 : pl < A := hpl2
          have HI : Hid (ICl wr w2.heap.size A L) := HI
          obtain ⟨hck2, hfk2⟩ := HI.out.cell hpl2
          have HIP := Lib.hid (HI.out.put hpl2 (k : Int))
          have hr1 : ((pl : Int) + (1 : Nat)).tmod (A : Int) = (((pl + 1) % A : Nat) : Int) := rem_nat pl 1 A
          have hr1 : ((pl : Int) + 1).tmod (A : Int) = (((pl + 1) % A : Nat) : Int) := hr1
          have hr2 : (pl + 1) % A < A := Nat.mod_lt _ (by omega)
          have HW2 : Hid (Below w2.heap.size w2 (wr.setCell ⟨w2.heap.size, pl, none⟩ (.int .i64 (k : Int)))) := Lib.hid (Below.setCell HW.out (Nat.le_refl _) _)
          generalize ((pl + 1) % A) = q at hr1 hr2 HF
          go_wp2
          exact ⟨⟨s + 1, _, by omega, by rw [HF.out], by first | rfl | go_num | (congr 1), rfl, Lib.hid (by rw [HF.out]; exact HIP.out), HW2⟩, by show c - ((s : Int) + 1).toNat < c - (s : Int).toNat; omega⟩
        · obtain rfl : s = c := by omega
          go_wp2
          refine ⟨⟨k + 1, _, by omega, by rw [HK.out], by first | rfl | go_num | (congr 1), rfl, Lib.hid (by rw [HK.out]; exact HI.out), HW⟩, by show n - ((k : Int) + 1).toNat < n - (k : Int).toNat; omega⟩
    · obtain rfl : k = n := by omega
      go_wp2
      go_ret2
      exact ⟨_, _, rfl, ICl.new HI.out (by have := HB.out.size; omega) (Below.next HB.out HW.out)⟩
end Go.Proofs.Ytopcmbcdmceieaa
