
/- Rows of Saved: the laws' helpers, how one is opened. -/
import Derived.Test.YtnljabgkaelplaaSme
import Derived.Test.YtnljabgkaelplaaGrk
import Derived.Deep.Slices
namespace Go.Proofs.Ytnljabgkaelplaa
open Go.Proofs.Ytnljabgkaelplaa.Flo Go.RowKit

/-- What lies at one place: a name, a row of bits, a row of numbers. -/
structure Sv where
  s : ByteArray
  a : Option Addr
  n : Nat
  ca : Nat
  b : Option Addr
  m : Nat
  cb : Nat
  f : Nat → Bool
  z : List Nat
def Sv.val (x : Sv) : Value := .agg #[.string x.s, .slice x.a x.n x.ca, .slice x.b x.m x.cb]
def VCell (w : World) (p off : Nat) (x : Sv) : Prop := w.cell? ⟨p, off, none⟩ = some (.string x.s) ∧ w.cell? ⟨p, off + 1, none⟩ = some (.slice x.a x.n x.ca) ∧ w.cell? ⟨p, off + 2, none⟩ = some (.slice x.b x.m x.cb)
def VData (w : World) (x : Sv) : Prop := BRow w x.a x.n x.f ∧ FRow w x.b x.m x.z
def VRow (w : World) (a : Option Addr) (n : Nat) (X : Nat → Sv) : Prop :=
  (n = 0 ∨ ∃ b off, a = some ⟨b, off, none⟩ ∧ b < w.heap.size ∧ ∀ i, i < n → VCell w b (off + i * 3) (X i)) ∧ ∀ i, i < n → VData w (X i)
theorem VCell.below {w w' : World} {p off B : Nat} {x : Sv} (h : VCell w p off x) (hp : p < B) (hb : Below B w w') : VCell w' p off x := by
  obtain ⟨h0, h1, h2⟩ := h
  exact ⟨by rw [hb.cell (p := ⟨p, off, none⟩) hp]; exact h0, by rw [hb.cell (p := ⟨p, off + 1, none⟩) hp]; exact h1, by rw [hb.cell (p := ⟨p, off + 2, none⟩) hp]; exact h2⟩
theorem VData.below {w w' : World} {x : Sv} (h : VData w x) (hb : Below w.heap.size w w') : VData w' x := ⟨h.1.below hb, h.2.below hb⟩
theorem VRow.below {w w' : World} {a : Option Addr} {n : Nat} {X : Nat → Sv} (h : VRow w a n X) (hb : Below w.heap.size w w') : VRow w' a n X := by
  refine ⟨?_, fun i hi => (h.2 i hi).below hb⟩
  rcases h.1 with h | ⟨b, off, ha, hk, hc⟩
  · exact .inl h
  · exact .inr ⟨b, off, ha, Nat.lt_of_lt_of_le hk hb.size, fun i hi => (hc i hi).below hk hb⟩
theorem VRow.cell {w : World} {a : Option Addr} {n : Nat} {X : Nat → Sv} (h : VRow w a n X) {k : Nat} (hk : k < n) : ∃ b o, a = some ⟨b, o, none⟩ ∧ b < w.heap.size ∧ VCell w b (o + k * 3) (X k) := by
  rcases h.1 with h | ⟨b, off, ha, hb, hc⟩
  · omega
  · exact ⟨b, off, ha, hb, hc k hk⟩
def vone (x : Sv) : Nat := x.s.size + x.n + x.m
/-- How long they are together. -/
def vtot (X : Nat → Sv) : Nat → Nat
  | 0 => 0
  | k + 1 => vtot X k + vone (X k)
theorem vtot_mono (X : Nat → Sv) {k : Nat} : ∀ n, k ≤ n → vtot X k ≤ vtot X n
  | 0, h => by rw [show k = 0 by omega]; exact Nat.le_refl _
  | n + 1, h => by
    by_cases e : k = n + 1
    · rw [e]; exact Nat.le_refl _
    · exact Nat.le_trans (vtot_mono X n (by omega)) (Nat.le_add_right _ _)
theorem vtot_each (X : Nat → Sv) {k n : Nat} (h : k < n) : vone (X k) ≤ vtot X n := Nat.le_trans (Nat.le_add_left _ (vtot X k)) (vtot_mono X n h)
/-- Two that tell the same (they may lie elsewhere). -/
def VSame (x y : Sv) : Prop := x.s = y.s ∧ x.n = y.n ∧ x.m = y.m ∧ x.f = y.f ∧ x.z = y.z
set_option maxRecDepth 100000 in
set_option maxHeartbeats 4000000 in
theorem toV2 (s : ByteArray) (a : Option Addr) (n cap : Nat) (f : Nat → Bool) (b : Option Addr) (m capb : Nat) (zs : List Nat) (w : World) (ha : BRow w a n f) (hb : FRow w b m zs) (hn : n ≤ 1048576) (hm : m ≤ 1048576) :
    Calls Try.prog 10 #[.agg #[.string s, .slice a n cap, .slice b m capb]] w fun e w' => ∃ p q, e = .returned (.agg #[.string s, .slice (some ⟨p, 0, none⟩) n n, .slice (some ⟨q, 0, none⟩) m m]) ∧ BRow w' (some ⟨p, 0, none⟩) n f ∧ FRow w' (some ⟨q, 0, none⟩) m zs ∧ w.heap.size ≤ p ∧ w.heap.size ≤ q ∧ Below w.heap.size w w' := by
  have HA := Lib.hid (fun W (h : Below w.heap.size w W) => toB a n cap f W (ha.below h) hn)
  have HB := Lib.hid (fun W (h : Below w.heap.size w W) => toF b m capb zs W (hb.below h) hm)
  have HL := Lib.hid hb.1
  clear ha hb
  go_enter Try.func10, Try.ntmps10
  go_wp2_with (first | (go_at_call 37; (refine (HA.out _ ?_).mono ?_); (next => exact (by repeat (first | exact Below.refl _ _ | refine Below.setCell ?_ (by first | (simp; done) | (simp; omega)) _ | refine Below.drewN' ?_ _ | refine Below.drew ?_ | refine Below.alloc ?_ (by first | (simp; done) | (simp; omega)) _))); rintro e w2 ⟨rfl, rfl⟩) | (go_at_call 31; (refine (HB.out _ ?_).mono ?_); (next => exact (by repeat (first | exact Below.refl _ _ | refine Below.setCell ?_ (by first | (simp; done) | (simp; omega)) _ | refine Below.drewN' ?_ _ | refine Below.drew ?_ | refine Below.alloc ?_ (by first | (simp; done) | (simp; omega)) _))); rintro e w3 ⟨rfl, rfl⟩) | fail)
  refine bodyPost_ret (v := .agg #[.string s, .slice (some ⟨w.heap.size + 1 + 1 + 1, 0, none⟩) n n, .slice (some ⟨w.heap.size + 1 + 1 + 1 + 1, 0, none⟩) m m]) (by simp [results, Try.results10, go_sem]) rfl ⟨_, _, rfl, ?_, ?_, by omega, by omega, ?_⟩
  · refine .inr ⟨_, 0, rfl, by simp <;> omega, fun i hi => ?_⟩
    rw [Nat.zero_add]
    first
      | (rw [World.cell?_alloc_past _ _ _ (by simp), World.cell?_alloc_at _ _ _ _ (by simp)]; exact mixB_get f hi)
      | (rw [World.cell?_alloc_at _ _ _ _ (by simp)]; exact mixB_get f hi)
  · exact FRow.new' HL.out (by simp) _
  · exact (by repeat (first | exact Below.refl _ _ | refine Below.setCell ?_ (by first | (simp; done) | (simp; omega)) _ | refine Below.drewN' ?_ _ | refine Below.drew ?_ | refine Below.alloc ?_ (by first | (simp; done) | (simp; omega)) _))
def szO (L : Int) (s n m : Nat) : Int := if (s : Int) + n + m ≤ L then L - s - n - m else -1
set_option maxRecDepth 100000 in
set_option maxHeartbeats 4000000 in
theorem szVg (s : ByteArray) (a : Option Addr) (n cap : Nat) (b : Option Addr) (m capb : Nat) (L : Int) (w : World) (hL0 : 0 ≤ L) (hL : L ≤ 1048576) (hs : s.size ≤ 9223372036854775807) (hn : n ≤ 9223372036854775807) (hm : m ≤ 9223372036854775807) :
    Calls Try.prog 8 #[.agg #[.string s, .slice a n cap, .slice b m capb], .int .i64 L] w fun e w' => e = .returned (.int .i64 (szO L s.size n m)) ∧ Below w.heap.size w w' := by
  have w1 : IntKind.i64.wrap (L - (s.size : Int)) = L - (s.size : Int) := IntWalk.i64_in _ (by omega)
  by_cases h1 : (s.size : Int) ≤ L
  · have d1 : decide (L - (s.size : Int) < 0) = false := decide_eq_false (by omega)
    have w2 : IntKind.i64.wrap (L - (s.size : Int) - (n : Int)) = L - (s.size : Int) - (n : Int) := IntWalk.i64_in _ (by omega)
    by_cases h2 : (s.size : Int) + n ≤ L
    · have d2 : decide (L - (s.size : Int) - (n : Int) < 0) = false := decide_eq_false (by omega)
      have w3 : IntKind.i64.wrap (L - (s.size : Int) - (n : Int) - (m : Int)) = L - (s.size : Int) - (n : Int) - (m : Int) := IntWalk.i64_in _ (by omega)
      by_cases h3 : (s.size : Int) + n + m ≤ L
      · have d3 : decide (L - (s.size : Int) - (n : Int) - (m : Int) < 0) = false := decide_eq_false (by omega)
        have HV : Hid (szO L s.size n m = L - (s.size : Int) - n - m) := Lib.hid (by unfold szO; rw [if_pos h3])
        go_enter Try.func8, Try.ntmps8
        go_wp2
        go_ret
        exact ⟨by rw [HV.out]; rfl, belowA _ _⟩
      · have d3 : decide (L - (s.size : Int) - (n : Int) - (m : Int) < 0) = true := decide_eq_true (by omega)
        have HV : Hid (szO L s.size n m = -1) := Lib.hid (by unfold szO; rw [if_neg h3])
        go_enter Try.func8, Try.ntmps8
        go_wp2
        go_ret
        exact ⟨by rw [HV.out]; rfl, belowA _ _⟩
    · have d2 : decide (L - (s.size : Int) - (n : Int) < 0) = true := decide_eq_true (by omega)
      have HV : Hid (szO L s.size n m = -1) := Lib.hid (by unfold szO; rw [if_neg (by omega)])
      go_enter Try.func8, Try.ntmps8
      go_wp2
      go_ret
      exact ⟨by rw [HV.out]; rfl, belowA _ _⟩
  · have d1 : decide (L - (s.size : Int) < 0) = true := decide_eq_true (by omega)
    have HV : Hid (szO L s.size n m = -1) := Lib.hid (by unfold szO; rw [if_neg (by omega)])
    go_enter Try.func8, Try.ntmps8
    go_wp2
    go_ret
    exact ⟨by rw [HV.out]; rfl, belowA _ _⟩
/-- A copy that is being made. -/
def VMk (w : World) (p n k : Nat) (X : Nat → Sv) (wr : World) : Prop :=
  p < wr.heap.size ∧ Below p w wr ∧ (∃ Y : Nat → Sv, ∀ i, i < k → VSame (X i) (Y i) ∧ (∃ q1 q2, (Y i).a = some ⟨q1, 0, none⟩ ∧ (Y i).b = some ⟨q2, 0, none⟩ ∧ p < q1 ∧ p < q2) ∧ VData wr (Y i) ∧ VCell wr p (i * 3) (Y i)) ∧
  (∀ i, k ≤ i → i < n → wr.cell? ⟨p, i * 3, none⟩ = some (.string .empty) ∧ wr.cell? ⟨p, i * 3 + 1, none⟩ = some (.slice none 0 0) ∧ wr.cell? ⟨p, i * 3 + 2, none⟩ = some (.slice none 0 0)) ∧
  ∀ j, j < n * 3 → wr.frozen? ⟨p, j, none⟩ = false
theorem VCell.other {w : World} {p off o : Nat} {x : Sv} (h : VCell w p off x) (v : Value) (ho : o < off ∨ off + 3 ≤ o) : VCell (w.setCell ⟨p, o, none⟩ v) p off x := by
  obtain ⟨h0, h1, h2⟩ := h
  refine ⟨?_, ?_, ?_⟩
  · rw [World.cell?_setCell_other (h := fun e => by injection e with _ e _; omega)]; exact h0
  · rw [World.cell?_setCell_other (h := fun e => by injection e with _ e _; omega)]; exact h1
  · rw [World.cell?_setCell_other (h := fun e => by injection e with _ e _; omega)]; exact h2
theorem VData.other {w : World} {p q1 q2 o : Nat} {x : Sv} (h : VData w x) (ha : x.a = some ⟨q1, 0, none⟩) (hb : x.b = some ⟨q2, 0, none⟩) (h1 : p < q1) (h2 : p < q2) (v : Value) : VData (w.setCell ⟨p, o, none⟩ v) x := by
  obtain ⟨g1, g2⟩ := h
  rw [ha] at g1
  rw [hb] at g2
  unfold VData
  rw [ha, hb]
  refine ⟨?_, FRow.setCell g2 _ ?_⟩
  · rcases g1 with g | ⟨b, off, e, hbb, hc⟩
    · exact .inl g
    · refine .inr ⟨b, off, e, by rw [World.size_setCell]; exact hbb, fun i hi => ?_⟩
      injection e with e
      injection e with e1 e2
      subst e1
      rw [World.cell?_setCell_other (h := fun e => by injection e with e _ _; omega)]; exact hc i hi
  · intro b off e
    injection e with e
    injection e with e1 e2
    subst e1
    show p ≠ q2
    omega
theorem VMk.step {w wr w2 : World} {p n k : Nat} {X : Nat → Sv} (h : VMk w p n k X wr) (hk : k < n) (hpw : p ≤ wr.heap.size) (hb : Below wr.heap.size wr w2) {y : Sv} (hs : VSame (X k) y) (hy : VData w2 y) {q1 q2 : Nat} (ha : y.a = some ⟨q1, 0, none⟩) (hbb : y.b = some ⟨q2, 0, none⟩) (h1 : p < q1) (h2 : p < q2) :
    VMk w p n (k + 1) X (((w2.setCell ⟨p, k * 3, none⟩ (.string y.s)).setCell ⟨p, k * 3 + 1, none⟩ (.slice y.a y.n y.ca)).setCell ⟨p, k * 3 + 2, none⟩ (.slice y.b y.m y.cb)) := by
  obtain ⟨g0, g1, ⟨Y, g2⟩, g3, g4⟩ := h
  obtain ⟨z0, z1, z2⟩ := g3 k (Nat.le_refl _) hk
  obtain ⟨Y2, hY2⟩ : ∃ Y2 : Nat → Sv, ∀ i, Y2 i = if i = k then y else Y i := ⟨_, fun _ => rfl⟩
  have z0' : w2.cell? ⟨p, k * 3, none⟩ = some (.string .empty) := by rw [hb.cell (p := ⟨p, k * 3, none⟩) g0]; exact z0
  have z1' : w2.cell? ⟨p, k * 3 + 1, none⟩ = some (.slice none 0 0) := by rw [hb.cell (p := ⟨p, k * 3 + 1, none⟩) g0]; exact z1
  have z2' : w2.cell? ⟨p, k * 3 + 2, none⟩ = some (.slice none 0 0) := by rw [hb.cell (p := ⟨p, k * 3 + 2, none⟩) g0]; exact z2
  have o1 : (w2.setCell ⟨p, k * 3, none⟩ (.string y.s)).cell? ⟨p, k * 3 + 1, none⟩ = some (.slice none 0 0) := by rw [World.cell?_setCell_other (h := fun e => by injection e with _ e _; omega)]; exact z1'
  have o2 : ((w2.setCell ⟨p, k * 3, none⟩ (.string y.s)).setCell ⟨p, k * 3 + 1, none⟩ (.slice y.a y.n y.ca)).cell? ⟨p, k * 3 + 2, none⟩ = some (.slice none 0 0) := by rw [World.cell?_setCell_other (h := fun e => by injection e with _ e _; omega), World.cell?_setCell_other (h := fun e => by injection e with _ e _; omega)]; exact z2'
  refine ⟨by simp only [World.size_setCell]; exact Nat.lt_of_lt_of_le g0 hb.size, Below.setCell (Below.setCell (Below.setCell (Below.trans g1 (hb.mono hpw)) (Nat.le_refl _) _) (Nat.le_refl _) _) (Nat.le_refl _) _, ⟨Y2, fun i hi => ?_⟩, fun i h3 h4 => ?_, fun j hj => ?_⟩
  · by_cases e : i = k
    · subst e
      rw [hY2, if_pos rfl]
      refine ⟨hs, ⟨q1, q2, ha, hbb, h1, h2⟩, ((hy.other ha hbb h1 h2 _).other ha hbb h1 h2 _).other ha hbb h1 h2 _, ?_, ?_, ?_⟩
      · rw [World.cell?_setCell_other (h := fun e => by injection e with _ e _; omega), World.cell?_setCell_other (h := fun e => by injection e with _ e _; omega), World.cell?_setCell_same (h := z0')]
      · rw [World.cell?_setCell_other (h := fun e => by injection e with _ e _; omega), World.cell?_setCell_same (h := o1)]
      · rw [World.cell?_setCell_same (h := o2)]
    · rw [hY2, if_neg e]
      obtain ⟨k1, ⟨r1, r2, k2, k3, k4, k5⟩, k6, k7⟩ := g2 i (by omega)
      exact ⟨k1, ⟨r1, r2, k2, k3, k4, k5⟩, (((k6.below hb).other k2 k3 k4 k5 _).other k2 k3 k4 k5 _).other k2 k3 k4 k5 _, (((k7.below g0 hb).other _ (by omega)).other _ (by omega)).other _ (by omega)⟩
  · obtain ⟨c0, c1, c2⟩ := g3 i (by omega) h4
    refine ⟨?_, ?_, ?_⟩
    · rw [World.cell?_setCell_other (h := fun e => by injection e with _ e _; omega), World.cell?_setCell_other (h := fun e => by injection e with _ e _; omega), World.cell?_setCell_other (h := fun e => by injection e with _ e _; omega), hb.cell (p := ⟨p, i * 3, none⟩) g0]; exact c0
    · rw [World.cell?_setCell_other (h := fun e => by injection e with _ e _; omega), World.cell?_setCell_other (h := fun e => by injection e with _ e _; omega), World.cell?_setCell_other (h := fun e => by injection e with _ e _; omega), hb.cell (p := ⟨p, i * 3 + 1, none⟩) g0]; exact c1
    · rw [World.cell?_setCell_other (h := fun e => by injection e with _ e _; omega), World.cell?_setCell_other (h := fun e => by injection e with _ e _; omega), World.cell?_setCell_other (h := fun e => by injection e with _ e _; omega), hb.cell (p := ⟨p, i * 3 + 2, none⟩) g0]; exact c2
  · rw [World.frozen?_setCell, World.frozen?_setCell, World.frozen?_setCell, hb.frozen (p := ⟨p, j, none⟩) g0]; exact g4 j hj
theorem VMk.fin {w wr : World} {p n : Nat} {X : Nat → Sv} (h : VMk w p n n X wr) : ∃ Y : Nat → Sv, (∀ i, i < n → VSame (X i) (Y i)) ∧ VRow wr (some ⟨p, 0, none⟩) n Y := by
  obtain ⟨g0, _, ⟨Y, g2⟩, _, _⟩ := h
  refine ⟨Y, fun i hi => (g2 i hi).1, .inr ⟨p, 0, rfl, g0, fun i hi => by rw [Nat.zero_add]; exact (g2 i hi).2.2.2⟩, fun i hi => (g2 i hi).2.2.1⟩
theorem VMk.start (w : World) (n : Nat) (X : Nat → Sv) (T : TypeId) : VMk w w.heap.size n 0 X (w.alloc (.cells (madeCells #[.string .empty, .slice none 0 0, .slice none 0 0] (n * 3)) T)) := by
  refine ⟨by simp, belowA _ _, ⟨X, fun i hi => absurd hi (Nat.not_lt_zero i)⟩, fun i _ hi => ⟨?_, ?_, ?_⟩, fun j _ => World.frozen?_alloc_at _ _ _ _ rfl⟩
  · rw [World.cell?_alloc_at _ _ _ _ rfl]; simp [madeCells, show i * 3 < n * 3 by omega]
  · rw [World.cell?_alloc_at _ _ _ _ rfl]; simp [madeCells, show i * 3 + 1 < n * 3 by omega, show (i * 3 + 1) % 3 = 1 by omega]
  · rw [World.cell?_alloc_at _ _ _ _ rfl]; simp [madeCells, show i * 3 + 2 < n * 3 by omega, show (i * 3 + 2) % 3 = 2 by omega]
theorem Try.infoV : (Try.prog.info? 29).map (fun i => (i.zero, i.size, i.bytes)) = some (some (.agg #[.string .empty, .slice none 0 0, .slice none 0 0]), 3, 64) := by kernel_rfl
theorem mkVS (n : Nat) (hn : n ≤ 1048576) (w : World) : (Instr.makeSlice 36 (.int .i64 (n : Int)) (.int .i64 (n : Int))).run Try.prog w = .ok (.slice (some ⟨w.heap.size, 0, none⟩) n n) (w.alloc (.cells (madeCells #[.string .empty, .slice none 0 0, .slice none 0 0] (n * 3)) 29)) := by
  obtain ⟨i, hi, hzz⟩ := Option.map_eq_some_iff.1 Try.infoV
  simp only [Prod.mk.injEq] at hzz
  obtain ⟨hz, hs, hb⟩ := hzz
  have hr := run_make (P := Try.prog) w 36 29 i _ Try.underlying36 hi hz .i64 .i64 n n (by omega) (Int.le_refl _) (by rw [hb]; omega) (by omega)
  simp only [Int.toNat_natCast, hs, Value.cells] at hr
  exact hr
set_option maxRecDepth 100000 in
set_option maxHeartbeats 4000000 in
theorem toVS (a : Option Addr) (n cap : Nat) (X : Nat → Sv) (w : World) (h : VRow w a n X) (hn : n + vtot X n ≤ 1048576) :
    Calls Try.prog 15 #[.slice a n cap] w fun e w' => ∃ p Y, e = .returned (.slice (some ⟨p, 0, none⟩) n n) ∧ (∀ i, i < n → VSame (X i) (Y i)) ∧ VRow w' (some ⟨p, 0, none⟩) n Y ∧ Below w.heap.size w w' := by
  have hmk := fun w2 : World => mkVS n (by omega) w2
  have HA := Lib.hid h
  have HN := Lib.hid hn
  have HM0 := Lib.hid (VMk.start w n X 29)
  have hn1 : n ≤ 1048576 := by omega
  clear h hn
  go_enter Try.func15, Try.ntmps15
  go_wp2
  clear hmk
  go_loopw [4] (fun iv w' => ∃ (k : Nat) (wr : World), k ≤ n ∧ iv = .int .i64 k ∧ wr = w' ∧ Hid (VMk w w.heap.size n k X wr)) (fun iv _ => n - (intOf iv).toNat)
  case atStart => exact ⟨0, _, by omega, rfl, rfl, HM0⟩
  case round =>
    obtain ⟨k, wr, hk, rfl, rfl, HM⟩ := hrel
    clear HM0
    by_cases hlt : k < n
    · have HW : Hid (Below w.heap.size w wr) := Lib.hid HM.out.2.1
      obtain ⟨b1, o1, rfl, hb1, hc0, hc1, hc2⟩ := (HA.out.below HW.out).cell hlt
      have HD := Lib.hid ((HA.out.below HW.out).2 k hlt)
      have hv : vone (X k) ≤ 1048576 := by have := vtot_each X hlt; have := HN.out; omega
      have hpw : w.heap.size < wr.heap.size := HM.out.1
      obtain ⟨z0, z1, z2⟩ := HM.out.2.2.2.1 k (Nat.le_refl _) hlt
      have HZF := Lib.hid HM.out.2.2.2.2
      have HT := Lib.hid (toV2 (X k).s (X k).a (X k).n (X k).ca (X k).f (X k).b (X k).m (X k).cb (X k).z wr HD.out.1 HD.out.2 (by unfold vone at hv; omega) (by unfold vone at hv; omega))
      have hk3 : k * 3 + 2 < n * 3 := by omega
      have HST : Hid (∀ w2 p q, Below wr.heap.size wr w2 → BRow w2 (some ⟨p, 0, none⟩) (X k).n (X k).f → FRow w2 (some ⟨q, 0, none⟩) (X k).m (X k).z → wr.heap.size ≤ p → wr.heap.size ≤ q → VMk w w.heap.size n (k + 1) X (((w2.setCell ⟨w.heap.size, k * 3, none⟩ (.string (X k).s)).setCell ⟨w.heap.size, k * 3 + 1, none⟩ (.slice (some ⟨p, 0, none⟩) (X k).n (X k).n)).setCell ⟨w.heap.size, k * 3 + 2, none⟩ (.slice (some ⟨q, 0, none⟩) (X k).m (X k).m))) := Lib.hid (fun w2 p q hb h1 h2 h3 h4 => HM.out.step hlt (by omega) hb (y := ⟨(X k).s, some ⟨p, 0, none⟩, (X k).n, (X k).n, some ⟨q, 0, none⟩, (X k).m, (X k).m, (X k).f, (X k).z⟩) ⟨rfl, rfl, rfl, rfl, rfl⟩ ⟨h1, h2⟩ rfl rfl (by omega) (by omega))
      generalize (X k).s = xs at hc0 HT HST
      generalize (X k).a = xa at hc1 HT
      generalize (X k).b = xb at hc2 HT
      generalize (X k).n = xn at hc1 HT HST
      generalize (X k).m = xm at hc2 HT HST
      generalize (X k).ca = xca at hc1 HT
      generalize (X k).cb = xcb at hc2 HT
      have HZ := Lib.hid (And.intro z0 (And.intro z1 z2))
      clear z0 z1 z2
      go_wp2_with (first | (go_at_call 10; refine HT.out.mono ?_; rintro e w2 ⟨p, q, rfl, g1, g2, g3, g4, g5⟩; have HNX := Lib.hid (HST.out w2 p q g5 g1 g2 g3 g4); have y0 : w2.cell? ⟨w.heap.size, k * 3, none⟩ = some (.string .empty) := (by rw [g5.cell (p := ⟨w.heap.size, k * 3, none⟩) hpw]; exact HZ.out.1); have y1 : w2.cell? ⟨w.heap.size, k * 3 + 1, none⟩ = some (.slice none 0 0) := (by rw [g5.cell (p := ⟨w.heap.size, k * 3 + 1, none⟩) hpw]; exact HZ.out.2.1); have y2 : w2.cell? ⟨w.heap.size, k * 3 + 2, none⟩ = some (.slice none 0 0) := (by rw [g5.cell (p := ⟨w.heap.size, k * 3 + 2, none⟩) hpw]; exact HZ.out.2.2); have f0 : w2.frozen? ⟨w.heap.size, k * 3, none⟩ = false := (by rw [g5.frozen (p := ⟨w.heap.size, k * 3, none⟩) hpw]; exact HZF.out _ (by omega)); have f1 : w2.frozen? ⟨w.heap.size, k * 3 + 1, none⟩ = false := (by rw [g5.frozen (p := ⟨w.heap.size, k * 3 + 1, none⟩) hpw]; exact HZF.out _ (by omega)); have f2 : w2.frozen? ⟨w.heap.size, k * 3 + 2, none⟩ = false := (by rw [g5.frozen (p := ⟨w.heap.size, k * 3 + 2, none⟩) hpw]; exact HZF.out _ (by omega)); clear g1 g2 g3 g4 g5) | fail)
      exact ⟨⟨k + 1, _, by omega, by first | rfl | go_num | (congr 1), rfl, HNX⟩, by show n - ((k : Int) + 1).toNat < n - (k : Int).toNat; omega⟩
    · obtain rfl : k = n := by omega
      obtain ⟨Y, hY1, hY2⟩ := HM.out.fin
      have HY := Lib.hid (And.intro hY1 (And.intro hY2 HM.out.2.1))
      clear hY1 hY2
      go_wp2
      go_ret
      exact ⟨_, Y, rfl, HY.out.1, HY.out.2.1, HY.out.2.2⟩
set_option maxRecDepth 100000 in
set_option maxHeartbeats 4000000 in
theorem eqVS (a b : Option Addr) (n cap capb : Nat) (X Y : Nat → Sv) (w : World) (ha : VRow w a n X) (hb : VRow w b n Y) (hs : ∀ i, i < n → VSame (X i) (Y i)) (hn : n + vtot X n ≤ 1048576) :
    Calls Try.prog 17 #[.slice a n cap, .slice b n capb] w fun e w' => e = .returned (.bool true) ∧ Below w.heap.size w w' := by
  have HA := Lib.hid ha
  have HB := Lib.hid hb
  have HN := Lib.hid hn
  have HS := Lib.hid hs
  have hn1 : n ≤ 1048576 := by omega
  clear ha hb hn hs
  go_enter Try.func17, Try.ntmps17
  go_wp2
  go_loopw [5] (fun iv w' => ∃ (k : Nat) (wr : World), k ≤ n ∧ iv = .int .i64 k ∧ wr = w' ∧ Hid (Below w.heap.size w wr)) (fun iv _ => n - (intOf iv).toNat)
  case atStart => exact ⟨0, _, by omega, rfl, rfl, Lib.hid (Below.refl _ _)⟩
  case round =>
    obtain ⟨k, wr, hk, rfl, rfl, HW⟩ := hrel
    by_cases hlt : k < n
    · obtain ⟨b1, o1, rfl, _, hc0, hc1, hc2⟩ := (HA.out.below HW.out).cell hlt
      obtain ⟨b2, o2, rfl, _, hd0, hd1, hd2⟩ := (HB.out.below HW.out).cell hlt
      have h1 := (HA.out.below HW.out).2 k hlt
      have h2 := (HB.out.below HW.out).2 k hlt
      obtain ⟨e1, e2, e3, e4, e5⟩ := HS.out k hlt
      have hv : vone (X k) ≤ 1048576 := by have := vtot_each X hlt; have := HN.out; omega
      unfold VData at h2
      rw [← e2, ← e3, ← e4, ← e5] at h2
      rw [← e1] at hd0
      rw [← e2] at hd1
      rw [← e3] at hd2
      have HE := Lib.hid (fun W (hW : Below wr.heap.size wr W) => eqV (X k).s (X k).a (Y k).a (X k).n (X k).ca (Y k).ca (X k).f (X k).b (Y k).b (X k).m (X k).cb (Y k).cb (X k).z W (h1.1.below hW) (h2.1.below hW) (h1.2.below hW) (h2.2.below hW) (by unfold vone at hv; omega) (by unfold vone at hv; omega))
      clear h1 h2 e1 e2 e3 e4 e5 hv
      generalize (X k).s = xs at hc0 hd0 HE
      generalize (X k).a = xa at hc1 HE
      generalize (X k).b = xb at hc2 HE
      generalize (X k).n = xn at hc1 hd1 HE
      generalize (X k).m = xm at hc2 hd2 HE
      generalize (X k).ca = xca at hc1 HE
      generalize (X k).cb = xcb at hc2 HE
      generalize (Y k).a = ya at hd1 HE
      generalize (Y k).b = yb at hd2 HE
      generalize (Y k).ca = yca at hd1 HE
      generalize (Y k).cb = ycb at hd2 HE
      go_wp2
      go_region_with (first | (go_at_call 12; refine (HE.out _ (by repeat (first | exact Below.refl _ _ | refine Below.drewN' ?_ _ | refine Below.drew ?_))).mono ?_; rintro e w2 ⟨rfl, hb2⟩; have HB2 : Hid (Below wr.heap.size wr w2) := Lib.hid (Below.next (by repeat (first | exact Below.refl _ _ | refine Below.drewN' ?_ _ | refine Below.drew ?_)) hb2); clear hb2) | fail)
      all_goals
        go_wp2
        exact ⟨⟨k + 1, _, by omega, by first | rfl | go_num | (congr 1), rfl, Lib.hid (Below.next HW.out (by repeat (first | exact HB2.out | refine Below.drewN' ?_ _ | refine Below.drew ?_)))⟩, by show n - ((k : Int) + 1).toNat < n - (k : Int).toNat; omega⟩
    · obtain rfl : k = n := by omega
      go_wp2
      go_ret
      exact ⟨rfl, HW.out⟩
/-- What is left of a size. -/
def vzV (X : Nat → Sv) (n : Nat) (left : Int) : Int := if (n : Int) + vtot X n ≤ left then left - n - vtot X n else -1
set_option maxRecDepth 100000 in
set_option maxHeartbeats 4000000 in
theorem szVS (a : Option Addr) (n cap : Nat) (left : Int) (X : Nat → Sv) (w : World) (h : VRow w a n X) (hn : n ≤ 9223372036854775807) (hf : ∀ k, k < n → (X k).s.size ≤ 9223372036854775807 ∧ (X k).n ≤ 9223372036854775807 ∧ (X k).m ≤ 9223372036854775807) (h0 : 0 ≤ left) (hl : left ≤ 1048576) :
    Calls Try.prog 13 #[.slice a n cap, .int .i64 left] w fun e w' => e = .returned (.int .i64 (vzV X n left)) ∧ Below w.heap.size w w' := by
  have HA := Lib.hid h
  have HF := Lib.hid hf
  clear h hf
  have hw0 : IntKind.i64.wrap (left - (n : Int)) = left - (n : Int) := IntWalk.i64_in _ (by omega)
  by_cases h1 : (n : Int) ≤ left
  · have hd : decide (left - (n : Int) < 0) = false := decide_eq_false (by omega)
    go_enter Try.func13, Try.ntmps13
    go_wp2
    clear hd hw0
    go_loopw [1, 5] (fun lv iv w' => ∃ (k : Nat) (L : Int) (wr : World), k ≤ n ∧ 0 ≤ L ∧ L ≤ 1048576 ∧ lv = .int .i64 L ∧ iv = .int .i64 k ∧ wr = w' ∧ Hid (L = left - n - vtot X k) ∧ Hid (Below w.heap.size w wr)) (fun _ iv _ => n - (intOf iv).toNat)
    case atStart => exact ⟨0, left - n, _, by omega, by omega, by omega, rfl, rfl, rfl, Lib.hid (by show left - n = left - n - ((0 : Nat) : Int); omega), Lib.hid (Below.refl _ _)⟩
    case round =>
      obtain ⟨k, L, wr, hk, hL0, hL1, rfl, rfl, rfl, HL, HW⟩ := hrel
      by_cases hlt : k < n
      · obtain ⟨b1, o1, rfl, _, hc0, hc1, hc2⟩ := (HA.out.below HW.out).cell hlt
        obtain ⟨f1, f2, f3⟩ := HF.out k hlt
        have HT : Hid (vtot X (k + 1) = vtot X k + ((X k).s.size + (X k).n + (X k).m)) := Lib.hid rfl
        have HM := Lib.hid (vtot_mono X (k := k + 1) n hlt)
        have HZ := Lib.hid (szVg (X k).s (X k).a (X k).n (X k).ca (X k).b (X k).m (X k).cb L wr hL0 hL1 f1 f2 f3)
        by_cases h2 : ((X k).s.size : Int) + (X k).n + (X k).m ≤ L
        · rw [show szO L (X k).s.size (X k).n (X k).m = L - (X k).s.size - (X k).n - (X k).m by unfold szO; rw [if_pos h2]] at HZ
          obtain ⟨L2, hL2⟩ : ∃ L2 : Int, L2 = L - (X k).s.size - (X k).n - (X k).m := ⟨_, rfl⟩
          rw [← hL2] at HZ
          have HN : Hid (L2 = left - n - vtot X (k + 1)) := Lib.hid (by rw [HT.out, hL2, HL.out]; omega)
          have hL20 : 0 ≤ L2 := by omega
          have hL21 : L2 ≤ 1048576 := by omega
          have hd : decide (L2 < 0) = false := decide_eq_false (by omega)
          clear hL2 h2 f1 f2 f3 HT
          generalize (X k).s = xs at hc0 HZ
          generalize (X k).a = xa at hc1 HZ
          generalize (X k).b = xb at hc2 HZ
          generalize (X k).n = xn at hc1 HZ
          generalize (X k).m = xm at hc2 HZ
          generalize (X k).ca = xca at hc1 HZ
          generalize (X k).cb = xcb at hc2 HZ
          go_wp2_with (first | (go_at_call 8; refine HZ.out.mono ?_; rintro e w2 ⟨rfl, hb2⟩; have HB2 := Lib.hid (Below.next HW.out hb2); clear hb2) | fail)
          exact ⟨⟨k + 1, L2, _, by omega, hL20, hL21, rfl, by first | rfl | go_num | (congr 1), rfl, HN, HB2⟩, by show n - ((k : Int) + 1).toNat < n - (k : Int).toNat; omega⟩
        · rw [show szO L (X k).s.size (X k).n (X k).m = -1 by unfold szO; rw [if_neg h2]] at HZ
          have HV : Hid (vzV X n left = -1) := Lib.hid (by unfold vzV; rw [if_neg (by have := HM.out; rw [HT.out] at this; have := HL.out; omega)])
          clear h2 f1 f2 f3 HT
          generalize (X k).s = xs at hc0 HZ
          generalize (X k).a = xa at hc1 HZ
          generalize (X k).b = xb at hc2 HZ
          generalize (X k).n = xn at hc1 HZ
          generalize (X k).m = xm at hc2 HZ
          generalize (X k).ca = xca at hc1 HZ
          generalize (X k).cb = xcb at hc2 HZ
          go_wp2_with (first | (go_at_call 8; refine HZ.out.mono ?_; rintro e w2 ⟨rfl, hb2⟩; have HB2 := Lib.hid (Below.next HW.out hb2); clear hb2) | fail)
          go_ret
          exact ⟨by rw [HV.out]; rfl, HB2.out⟩
      · obtain rfl : k = n := by omega
        have HV : Hid (vzV X k left = L) := Lib.hid (by unfold vzV; have := HL.out; rw [if_pos (by omega)]; omega)
        go_wp2
        go_ret
        exact ⟨by rw [HV.out]; rfl, HW.out⟩
  · have hd : decide (left - (n : Int) < 0) = true := decide_eq_true (by omega)
    have HV : Hid (vzV X n left = -1) := Lib.hid (by unfold vzV; rw [if_neg (by omega)])
    go_enter Try.func13, Try.ntmps13
    go_wp2
    go_ret
    exact ⟨by rw [HV.out]; rfl, Below.refl _ _⟩
theorem cellsV3i : Try.prog.cellsOf 25 = 3 := by kernel_rfl
section
open Go.ChangeShapes Go.WideShapes Go.Deep
variable {H : Type} {enc : TypeId × Value → H} {w : World} {base : Nat} {held : Bool}
set_option maxRecDepth 100000 in
theorem open_V2 {fuel : Nat} {cs : List Value} {x : DataW H × List MemPlace} (h : DataW.trod enc Try.prog w base (fun _ => true) held fuel 25 cs = some x) (hs : cs.length = 3) :
    ∃ v : Sv, cs = [.string v.s, .slice v.a v.n v.ca, .slice v.b v.m v.cb] ∧ VData w v ∧ Wf v.z v.m ∧ v.s.size ≤ 9223372036854775807 ∧ v.n ≤ 9223372036854775807 ∧ v.m ≤ 9223372036854775807 := by
  obtain ⟨y0, y1, y2, k, -, -, h0, h1, h2⟩ := trod_struct3 Try.underlying25 h
  match cs, hs with
  | [v0, v1, v2], _ =>
    simp only [cellsTV, cellsBV, cellsFV, List.drop, List.take] at h0 h1 h2
    obtain ⟨s, e0, hs0⟩ := trod_str Try.underlying9 h0
    obtain ⟨a, n, cap, e1, hn⟩ := open_sl Try.underlying22 cellsbV h1
    obtain ⟨b, m, capb, e2, hm⟩ := open_sl Try.underlying23 cellsfV h2
    simp at e0
    subst e0; subst e1; subst e2
    obtain ⟨f, hf⟩ := open_brow Try.underlying22 Try.underlying4 cellsbV h1
    obtain ⟨zs, hz, hw⟩ := open_frow2 Try.underlying23 Try.underlying87 cellsfV h2
    exact ⟨⟨s, a, n, cap, b, m, capb, f, zs⟩, rfl, ⟨hf, hz⟩, hw, hs0, hn, hm⟩
set_option maxRecDepth 100000 in
theorem open_vrow {t : TypeId} {fuel : Nat} {a : Option Addr} {len cap : Nat} {x : DataW H × List MemPlace} (ht : Try.prog.underlying t = some (.slice 25)) (h : DataW.trod enc Try.prog w base (fun _ => true) held fuel t [.slice a len cap] = some x) :
    ∃ X, VRow w a len X ∧ len ≤ 9223372036854775807 ∧ ∀ k, k < len → Wf (X k).z (X k).m ∧ (X k).s.size ≤ 9223372036854775807 ∧ (X k).n ≤ 9223372036854775807 ∧ (X k).m ≤ 9223372036854775807 := by
  rcases Go.Deep.open_slice ht h with ⟨hcs, _⟩ | ⟨y, l, c, m, n, D, Pl, hcs, _, hl, hm, hmm, _, hx⟩
  · simp at hcs
    obtain ⟨rfl, rfl, rfl⟩ := hcs
    exact ⟨fun _ => ⟨.empty, none, 0, 0, none, 0, 0, fun _ => false, []⟩, ⟨.inl rfl, fun i hi => by omega⟩, by omega, fun k hk => by omega⟩
  · simp at hcs
    obtain ⟨rfl, rfl, rfl⟩ := hcs
    have hlm : len ≤ m := by rw [hmm]; simp; exact hl
    have key : ∀ i, ∃ v : Sv, i < len → (w.cell? ((y.add (i * 3)).add 0) = some (.string v.s) ∧ w.cell? ((y.add (i * 3)).add 1) = some (.slice v.a v.n v.ca) ∧ w.cell? ((y.add (i * 3)).add 2) = some (.slice v.b v.m v.cb)) ∧ VData w v ∧ Wf v.z v.m ∧ v.s.size ≤ 9223372036854775807 ∧ v.n ≤ 9223372036854775807 ∧ v.m ≤ 9223372036854775807 := fun i => by
      by_cases hi : i < len
      · obtain ⟨cs', hc, htr⟩ := hx i (by omega)
        rw [cellsV3i] at hc
        obtain ⟨_, hcl, hat⟩ := World.cells?_some hc
        obtain ⟨v, e, h1, h2, h3⟩ := open_V2 htr hcl
        subst e
        exact ⟨v, fun _ => ⟨⟨(hat 0 (by omega)).trans rfl, (hat 1 (by omega)).trans rfl, (hat 2 (by omega)).trans rfl⟩, h1, h2, h3⟩⟩
      · exact ⟨⟨.empty, none, 0, 0, none, 0, 0, fun _ => false, []⟩, fun h => absurd h hi⟩
    obtain ⟨X, hX⟩ : ∃ X : Nat → Sv, ∀ i, i < len → (w.cell? ((y.add (i * 3)).add 0) = some (.string (X i).s) ∧ w.cell? ((y.add (i * 3)).add 1) = some (.slice (X i).a (X i).n (X i).ca) ∧ w.cell? ((y.add (i * 3)).add 2) = some (.slice (X i).b (X i).m (X i).cb)) ∧ VData w (X i) ∧ Wf (X i).z (X i).m ∧ (X i).s.size ≤ 9223372036854775807 ∧ (X i).n ≤ 9223372036854775807 ∧ (X i).m ≤ 9223372036854775807 := ⟨fun i => (key i).choose, fun i => (key i).choose_spec⟩
    unfold maxLen at hm
    refine ⟨X, ⟨?_, fun i hi => (hX i hi).2.1⟩, by omega, fun k hk => (hX k hk).2.2⟩
    by_cases h0 : len = 0
    · exact .inl h0
    · obtain ⟨c0, _, _⟩ := (hX 0 (by omega)).1
      have c00 : w.cell? (y.add 0) = some (.string (X 0).s) := by
        have : (y.add (0 * 3)).add 0 = y.add 0 := by simp [Addr.add]
        rw [this] at c0
        exact c0
      obtain ⟨hs, hb⟩ := add_spot c00
      refine .inr ⟨y.block, y.off, ?_, hb, fun i hi => ?_⟩
      · obtain ⟨b, off, spot⟩ := y
        simp at hs
        rw [hs]
      · obtain ⟨d0, d1, d2⟩ := (hX i hi).1
        rw [add_at hs, add_at rfl] at d0 d1 d2
        exact ⟨d0, d1, d2⟩
end
end Go.Proofs.Ytnljabgkaelplaa
