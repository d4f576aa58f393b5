
/- IsMember: the program's functions: arrays. -/
import Derived.Test.YtmfegjflaajkkaaIms
import Derived.Deep.MidRow
import Derived.DeepKeys
namespace Go.Proofs.Ytmfegjflaajkkaa
open Go.Proofs.Ytmfegjflaajkkaa.Flo Go.RowKit Go.Proofs.Ytmfegjflaajkkaa.Pr

/-- An array's cells. -/
def abL (g : Nat → Bool) : List Value := (List.range 32).map fun i => Value.bool (g i)
def ab (g : Nat → Bool) : Array Value := (abL g).toArray
theorem ab_size (g : Nat → Bool) : (ab g).size = 32 := by simp [ab, abL]
theorem ab_get (g : Nat → Bool) {i : Nat} (hi : i < 32) : (ab g)[i]? = some (.bool (g i)) := by simp [ab, abL, hi]
theorem ab_congr {g g2 : Nat → Bool} (h : ∀ i, i < 32 → g i = g2 i) : ab g = ab g2 := by
  unfold ab abL
  congr 1
  exact List.map_congr_left fun i hi => by rw [h i (List.mem_range.1 hi)]
/-- A block with an array in it, that may be written. -/
def AB (w : World) (p : Nat) (g : Nat → Bool) : Prop := p < w.heap.size ∧ ∀ i, i < 32 → w.cell? ⟨p, i, none⟩ = some (.bool (g i)) ∧ w.frozen? ⟨p, i, none⟩ = false
theorem AB.below {w w' : World} {p : Nat} {g : Nat → Bool} (h : AB w p g) (hb : Below w.heap.size w w') : ∀ i, i < 32 → w'.cell? ⟨p, i, none⟩ = some (.bool (g i)) := fun i hi => by
  rw [hb.cell (p := ⟨p, i, none⟩) h.1]; exact (h.2 i hi).1
theorem AB.new (w : World) (g : Nat → Bool) (T : TypeId) : AB (w.alloc (.cells (ab g) T)) w.heap.size g := ⟨by simp, fun i hi => ⟨by rw [World.cell?_alloc_at _ _ _ _ rfl]; exact ab_get g hi, World.frozen?_alloc_at _ _ _ _ rfl⟩⟩
theorem AB.alloc {w : World} {p : Nat} {g : Nat → Bool} (h : AB w p g) (o : Obj) : AB (w.alloc o) p g := ⟨by have := h.1; simp; omega, fun i hi => ⟨by rw [World.cell?_alloc_past _ _ _ h.1]; exact (h.2 i hi).1, by rw [World.frozen?_alloc_past _ _ _ h.1]; exact (h.2 i hi).2⟩⟩
theorem AB.drewN {w : World} {p : Nat} {g : Nat → Bool} (h : AB w p g) (q : Nat) : AB (w.drewN q) p g := by simpa [AB] using h
theorem AB.set {w : World} {p k : Nat} {g : Nat → Bool} (h : AB w p g) (hk : k < 32) (v : Bool) : AB (w.setCell ⟨p, k, none⟩ (.bool v)) p (fun i => if i = k then v else g i) := by
  refine ⟨by rw [World.size_setCell]; exact h.1, fun i hi => ⟨?_, by rw [World.frozen?_setCell]; exact (h.2 i hi).2⟩⟩
  show _ = some (Value.bool (if i = k then v else g i))
  by_cases e : i = k
  · subst e
    rw [World.cell?_setCell_same (h := (h.2 i hi).1), if_pos rfl]
  · rw [World.cell?_setCell_other (h := fun e2 => e (by injection e2 with _ e3 _; exact e3.symm)), if_neg e]; exact (h.2 i hi).1
theorem AB.other {w : World} {p q k : Nat} {g : Nat → Bool} (h : AB w p g) (hq : q ≠ p) (v : Value) : AB (w.setCell ⟨q, k, none⟩ v) p g := by
  refine ⟨by rw [World.size_setCell]; exact h.1, fun i hi => ⟨?_, by rw [World.frozen?_setCell]; exact (h.2 i hi).2⟩⟩
  rw [World.cell?_setCell_other (h := fun e2 => hq (by injection e2))]; exact (h.2 i hi).1
theorem AB.congr {w : World} {p : Nat} {g g2 : Nat → Bool} (h : AB w p g) (e : ∀ i, i < 32 → g i = g2 i) : AB w p g2 := ⟨h.1, fun i hi => by rw [← e i hi]; exact h.2 i hi⟩
theorem abL_len (g : Nat → Bool) : (abL g).length = 32 := by simp [abL]
theorem ab_zero : ab (fun _ => false) = #[.bool false, .bool false, .bool false, .bool false, .bool false, .bool false, .bool false, .bool false, .bool false, .bool false, .bool false, .bool false, .bool false, .bool false, .bool false, .bool false, .bool false, .bool false, .bool false, .bool false, .bool false, .bool false, .bool false, .bool false, .bool false, .bool false, .bool false, .bool false, .bool false, .bool false, .bool false, .bool false] := rfl
theorem AB.range {w : World} {p : Nat} {g : Nat → Bool} (h : AB w p g) : w.rangeAt p 0 (abL g) := fun j v hv => by
  have hj : j < 32 := by have := (List.getElem?_eq_some_iff.1 hv).1; rwa [abL_len] at this
  have e : (abL g)[j]? = some (.bool (g j)) := by simp [abL, hj]
  rw [e] at hv
  rw [Nat.zero_add, (h.2 j hj).1, hv]
theorem AB.there {w : World} {p : Nat} {g : Nat → Bool} (h : AB w p g) : w.there p 0 32 := fun j hj => by
  rw [Nat.zero_add, (h.2 j hj).1, (h.2 j hj).2]; exact ⟨rfl, rfl⟩
theorem AB.setCells {w : World} {p : Nat} {g : Nat → Bool} (h : AB w p g) (g2 : Nat → Bool) : (w.setCells p 0 (ab g2).toList).rangeAt p 0 (abL g2) := by
  have := World.rangeAt_setCells_same w p 0 (abL g2) (by rw [abL_len]; exact h.there)
  simpa [ab] using this
theorem Below.setCells {n p : Nat} {w : World} (hp : n ≤ p) : ∀ (vs : List Value) (o : Nat) (w' : World), Below n w w' → Below n w (w'.setCells p o vs)
  | [], _, _, h => h
  | v :: r, o, _, h => Below.setCells hp r (o + 1) _ (Below.setCell h hp v)
theorem ab_one (g : Nat → Bool) : (ab g).all (·.oneCell') = true := all_oneCell_toArray (fun v hv => by
  obtain ⟨i, _, rfl⟩ := List.mem_map.1 hv
  rfl)
theorem infoNd : (Try.prog.info? 94).map (·.size) = some 32 := by kernel_rfl
theorem load_ab {ops : Array Oper} {rest : List Oper} {op : Oper} {a : Act} {w : World} {Q : Exit → Act → World → Prop} (hgd : op.guard = none) (x : Operand) (ho : op.op = .load 94 x) (p : Nat) (hx : a.eval x = .pointer (some ⟨p, 0, none⟩)) (g : Nat → Bool) (hc : w.rangeAt p 0 (abL g))
    (h : wpList Try.prog ops Q rest (a.put op.dst (.agg (ab g))) w) : wpList Try.prog ops Q (op :: rest) a w :=
  wpList_load_mid hgd _ x ho p 0 hx (abL g) _ hc Try.underlying94 rfl (by rw [abL_len]; exact infoNd) h
theorem store_ab {ops : Array Oper} {rest : List Oper} {op : Oper} {a : Act} {w : World} {Q : Exit → Act → World → Prop} (hgd : op.guard = none) (x y : Operand) (ho : op.op = .store 94 x y) (p : Nat) (hx : a.eval x = .pointer (some ⟨p, 0, none⟩)) (g : Nat → Bool) (hy : a.eval y = .agg (ab g)) (ht : w.there p 0 32)
    (h : wpList Try.prog ops Q rest (a.put op.dst undef) (w.setCells p 0 (ab g).toList)) : wpList Try.prog ops Q (op :: rest) a w :=
  wpList_store_mid hgd _ x y ho p 0 (ab g) hx hy (by rw [ab_size]; exact ht) (by rw [ab_size]; exact infoNd) (ab_one g) h
theorem res_ab {fn : Func} {t : Tmp} (h : fn.results = #[.cell t 94]) (tmps : Array Value) (w : World) (p : Nat) (g : Nat → Bool) (hp : tmps.getD t undef = .pointer (some ⟨p, 0, none⟩)) (hc : w.rangeAt p 0 (abL g)) : (results fn tmps).run Try.prog w = .ok (.agg (ab g)) w := by
  have hp' : tmps[t]?.getD undef = .pointer (some ⟨p, 0, none⟩) := by simpa using hp
  simp [results, h, hp', asAddr, run_loadVar_mid w p 0 94 (abL g) _ hc Try.underlying94 rfl (by rw [abL_len]; exact infoNd), ab]
/-- The rows that are odd so far: k rows, and j bits of the next one. -/
def odF (f : Nat → Bool) (Ln : Nat → Nat) (Z : Nat → List Int) (k j : Nat) (i : Nat) : Bool := if i < k then unB f (Z i) (Ln i) else if i = k then unB f (Z k) j else false
theorem od_zero (f : Nat → Bool) (Ln : Nat → Nat) (Z : Nat → List Int) (i : Nat) : odF f Ln Z 0 0 i = false := by unfold odF; rw [if_neg (by omega)]; split <;> rfl
theorem od_next (f : Nat → Bool) (Ln : Nat → Nat) (Z : Nat → List Int) (k i : Nat) : odF f Ln Z k (Ln k) i = odF f Ln Z (k + 1) 0 i := by
  unfold odF
  by_cases h1 : i < k
  · rw [if_pos h1, if_pos (by omega)]
  · by_cases h2 : i = k
    · subst h2; rw [if_neg h1, if_pos rfl, if_pos (by omega)]
    · rw [if_neg h1, if_neg h2, if_neg (by omega)]
      split <;> rfl
theorem od_at (f : Nat → Bool) (Ln : Nat → Nat) (Z : Nat → List Int) (k j : Nat) : odF f Ln Z k j k = unB f (Z k) j := by unfold odF; rw [if_neg (by omega), if_pos rfl]
theorem od_set (f : Nat → Bool) (Ln : Nat → Nat) (Z : Nat → List Int) (k j i : Nat) : (if i = k then unB f (Z k) (j + 1) else odF f Ln Z k j i) = odF f Ln Z k (j + 1) i := by
  unfold odF
  by_cases h2 : i = k
  · subst h2; rw [if_pos rfl, if_neg (by omega), if_pos rfl]
  · rw [if_neg h2]
    by_cases h1 : i < k
    · rw [if_pos h1, if_pos h1]
    · rw [if_neg h1, if_neg h1, if_neg h2, if_neg h2]
/-- What lies where in the loops. -/
def ORel (w wr : World) (f g : Nat → Bool) : Prop := Below w.heap.size w wr ∧ AB wr (w.heap.size + 1) f ∧ AB wr (w.heap.size + 1 + 1) (fun _ => false) ∧ AB wr (w.heap.size + 1 + 1 + 1) g
theorem ORel.drewN {w wr : World} {f g : Nat → Bool} (h : ORel w wr f g) (q : Nat) : ORel w (wr.drewN q) f g := ⟨Below.drewN' h.1 q, h.2.1.drewN q, h.2.2.1.drewN q, h.2.2.2.drewN q⟩
theorem ORel.set {w wr : World} {f g : Nat → Bool} {k : Nat} (h : ORel w wr f g) (hk : k < 32) (v : Bool) : ORel w (wr.setCell ⟨w.heap.size + 1 + 1 + 1, k, none⟩ (.bool v)) f (fun i => if i = k then v else g i) :=
  ⟨Below.setCell h.1 (by simp; omega) _, h.2.1.other (by omega) _, h.2.2.1.other (by omega) _, h.2.2.2.set hk v⟩
theorem ORel.drew {w wr : World} {f g : Nat → Bool} (h : ORel w wr f g) : ORel w wr.drew f g := by rw [World.drew_is_drewN]; exact h.drewN 1
theorem ORel.step {w wr : World} {f : Nat → Bool} {Ln : Nat → Nat} {Z : Nat → List Int} {k j : Nat} (h : ORel w wr f (odF f Ln Z k j)) (hk : k < 32) {v : Bool} (hv : unB f (Z k) (j + 1) = v) : ORel w (wr.setCell ⟨w.heap.size + 1 + 1 + 1, k, none⟩ (.bool v)).drew f (odF f Ln Z k (j + 1)) := by
  subst hv
  obtain ⟨h1, h2, h3, h4⟩ := (h.set hk (unB f (Z k) (j + 1))).drew
  exact ⟨h1, h2, h3, h4.congr (fun i _ => od_set f Ln Z k j i)⟩
theorem ORel.on {w wr : World} {f : Nat → Bool} {Ln : Nat → Nat} {Z : Nat → List Int} {k : Nat} (h : ORel w wr f (odF f Ln Z k (Ln k))) : ORel w wr f (odF f Ln Z (k + 1) 0) := ⟨h.1, h.2.1, h.2.2.1, h.2.2.2.congr (fun i _ => od_next f Ln Z k i)⟩
theorem ORel.start (w : World) (o : Obj) (f g : Nat → Bool) (T2 T3 T4 : TypeId) (h : ∀ i, g i = false) : ORel w ((((w.alloc o).alloc (.cells (ab f) T2)).alloc (.cells (ab fun _ => false) T3)).alloc (.cells (ab fun _ => false) T4)) f g := by
  have h1 := AB.new (w.alloc o) f T2
  have h2 := AB.new ((w.alloc o).alloc (.cells (ab f) T2)) (fun _ => false) T3
  have h3 := AB.new (((w.alloc o).alloc (.cells (ab f) T2)).alloc (.cells (ab fun _ => false) T3)) (fun _ => false) T4
  simp only [World.size_alloc] at h1 h2 h3
  exact ⟨Below.alloc (Below.alloc (Below.alloc (belowA _ _) (by simp) _) (by simp; omega) _) (by simp; omega) _, (h1.alloc _).alloc _, h2.alloc _, h3.congr (fun i _ => (h i).symm)⟩
set_option maxRecDepth 100000 in
set_option maxHeartbeats 2000000 in
theorem or_impl (r : Int) (a : Option Addr) (n cap : Nat) (A : Nat → Option Addr) (Ln Cp : Nat → Nat) (Z : Nat → List Int) (f : Nat → Bool) (w : World) (h : GRow w a n A Ln Cp Z) (hn : n ≤ 32) (hl : ∀ k, k < n → Ln k ≤ 1048576) (hv : ∀ k, k < n → ∀ j, j < Ln k → 0 ≤ (Z k).getD j 0 ∧ (Z k).getD j 0 < 32) :
    Calls Try.prog 98 #[.agg #[.int .i64 r, .slice a n cap], .agg (ab f)] w fun e w' => e = .returned (.agg (ab (odF f Ln Z n 0))) ∧ Below w.heap.size w w' := by
  have HA := Lib.hid h
  have HL := Lib.hid hl
  have HV := Lib.hid hv
  clear h hl hv
  go_enter Try.func98, Try.ntmps98
  go_wp2
  go_loopw [13] (fun iv w' => ∃ (k : Nat) (wr : World), k ≤ n ∧ iv = .int .i64 k ∧ wr = w' ∧ Hid (ORel w wr f (odF f Ln Z k 0))) (fun iv _ => n - (intOf iv).toNat)
  case atStart =>
    refine ⟨0, _, by omega, rfl, rfl, Lib.hid ?_⟩
    rw [← ab_zero]
    exact ORel.start w _ f _ _ _ _ (od_zero f Ln Z)
  case round =>
    obtain ⟨k, wr, hk, rfl, rfl, HR⟩ := hrel
    by_cases hlt : k < n
    · obtain ⟨b1, o1, rfl, _, hck⟩ := (HA.out.below HR.out.1).cell hlt
      have HI := Lib.hid (HA.out.2 k hlt)
      have hlk := HL.out k hlt
      have HVK := Lib.hid (HV.out k hlt)
      have hk32 : k < 32 := by omega
      have HNX : Hid (∀ W, ORel w W f (odF f Ln Z k (Ln k)) → ORel w W f (odF f Ln Z (k + 1) 0)) := Lib.hid (fun W h => h.on)
      generalize A k = a1 at hck HI
      generalize Cp k = c1 at hck
      go_wp2
      go_loopw [20] (fun iv w' => ∃ (j : Nat) (wi : World), j ≤ Ln k ∧ iv = .int .i64 j ∧ wi = w' ∧ Hid (ORel w wi f (odF f Ln Z k j))) (fun iv _ => Ln k - (intOf iv).toNat)
      case atStart => exact ⟨0, _, by omega, rfl, rfl, HR⟩
      case round =>
        obtain ⟨j, wi, hj, rfl, rfl, HS⟩ := hrel
        by_cases hjl : j < Ln k
        · obtain ⟨b2, o2, rfl, _, hcj⟩ := (HI.out.below HS.out.1).cell' hjl
          obtain ⟨hz0, hz1⟩ := HVK.out j hjl
          obtain ⟨z, hz⟩ : ∃ z : Nat, (Z k).getD j 0 = (z : Int) := ⟨((Z k).getD j 0).toNat, by omega⟩
          have hzm : z < 32 := by omega
          have hc1 := (HS.out.2.1.2 z hzm).1
          have hc2 := (HS.out.2.2.2.2 k hk32).1
          have hf2 := (HS.out.2.2.2.2 k hk32).2
          rw [od_at] at hc2
          have HU : Hid (unB f (Z k) (j + 1) = (unB f (Z k) j != f z)) := Lib.hid (by show (unB f (Z k) j != f ((Z k).getD j 0).toNat) = _; rw [hz]; rfl)
          have HST := Lib.hid (HS.out.step hk32 HU.out)
          rw [hz] at hcj
          clear hz hz0 hz1
          generalize unB f (Z k) j = u at hc2 HST
          generalize f z = y at hc1 HST
          go_wp2
          go_region_with fail
          all_goals
            go_wp2
            exact ⟨⟨j + 1, _, by omega, by first | rfl | go_num | (congr 1), rfl, HST⟩, by show Ln k - ((j : Int) + 1).toNat < Ln k - (j : Int).toNat; omega⟩
        · obtain rfl : j = Ln k := by omega
          go_wp2
          exact ⟨⟨k + 1, _, by omega, by first | rfl | go_num | (congr 1), rfl, Lib.hid (HNX.out _ HS.out)⟩, by show n - ((k : Int) + 1).toNat < n - (k : Int).toNat; omega⟩
    · obtain rfl : k = n := by omega
      have hc := HR.out.2.2.2.range
      have ht := HR.out.2.2.1.there
      have HQ := Lib.hid (HR.out.2.2.1.setCells (odF f Ln Z k 0))
      have HBB := Lib.hid (Below.setCells (p := w.heap.size + 1 + 1) (by omega) (ab (odF f Ln Z k 0)).toList 0 _ HR.out.1)
      go_wp2_with (first | (refine load_ab rfl _ rfl (w.heap.size + 1 + 1 + 1) (by rfl) (odF f Ln Z k 0) hc ?_) | (refine store_ab rfl _ _ rfl (w.heap.size + 1 + 1) (by rfl) (odF f Ln Z k 0) (by rfl) ht ?_) | fail)
      exact bodyPost_ret (v := .agg (ab (odF f Ln Z k 0))) (res_ab rfl _ _ _ _ (by rfl) HQ.out) rfl ⟨rfl, HBB.out⟩
end Go.Proofs.Ytmfegjflaajkkaa
