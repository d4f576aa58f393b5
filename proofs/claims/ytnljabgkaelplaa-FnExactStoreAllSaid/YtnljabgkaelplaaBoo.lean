
/- Rows of bits: the laws' helpers, how one is opened. -/
import Derived.Test.YtnljabgkaelplaaMgb
import Derived.Deep.Grids
import Derived.Deep.QuietTactic
import Derived.BigQuiet
namespace Go.Proofs.Ytnljabgkaelplaa
open Go.Proofs.Ytnljabgkaelplaa.Flo Go.RowKit

/-- A slice value of n bits: the cells that it leads to hold them. -/
def BRow (w : World) (a : Option Addr) (n : Nat) (f : Nat → Bool) : Prop :=
  n = 0 ∨ ∃ b off, a = some ⟨b, off, none⟩ ∧ b < w.heap.size ∧ ∀ i, i < n → w.cell? ⟨b, off + i, none⟩ = some (.bool (f i))
theorem BRow.below {w w' : World} {a : Option Addr} {n : Nat} {f : Nat → Bool} (h : BRow w a n f) (hb : Below w.heap.size w w') : BRow w' a n f := by
  rcases h with h | ⟨b, off, ha, hk, hc⟩
  · exact .inl h
  · exact .inr ⟨b, off, ha, Nat.lt_of_lt_of_le hk hb.size, fun i hi => by rw [hb.cell (p := ⟨b, off + i, none⟩) hk]; exact hc i hi⟩
theorem BRow.drewN {w : World} {a : Option Addr} {n : Nat} {f : Nat → Bool} (h : BRow w a n f) (q : Nat) : BRow (w.drewN q) a n f := h
theorem BRow.drew {w : World} {a : Option Addr} {n : Nat} {f : Nat → Bool} (h : BRow w a n f) : BRow w.drew a n f := h
theorem BRow.drewTo {w w' : World} {a : Option Addr} {n : Nat} {f : Nat → Bool} (h : BRow w a n f) (d : Drew w w') : BRow w' a n f := h.below d.below
theorem BRow.cell {w : World} {a : Option Addr} {n : Nat} {f : Nat → Bool} (h : BRow w a n f) {k : Nat} (hk : k < n) : ∃ b o, a = some ⟨b, o, none⟩ ∧ w.cell? ⟨b, o + k, none⟩ = some (.bool (f k)) := by
  rcases h with h | ⟨b, off, ha, _, hc⟩
  · omega
  · exact ⟨b, off, ha, hc k hk⟩
/-- The entry of a row of bits. -/
def Ent.bl (n : Nat) (f : Nat → Bool) : Ent := .gv n (fun i => .bool (f i))
theorem Mine.brow {w0 w : World} {L : List (Nat × Ent)} {p n : Nat} {f : Nat → Bool} (h : Mine w0 w L) (hm : (p, Ent.bl n f) ∈ L) : BRow w (some ⟨p, 0, none⟩) n f := by
  obtain ⟨_, h2, h3, h4⟩ := h.2.1 _ hm
  exact .inr ⟨p, 0, rfl, h2, fun i hi => by rw [Nat.zero_add]; exact (h4 i hi).1⟩
/-- The cells of a copy, of which k are done. -/
def mixB (f : Nat → Bool) (k n : Nat) : Array Value := ((List.range k).map (fun i => Value.bool (f i)) ++ List.replicate (n - k) (Value.bool false)).toArray
theorem mixB_zero (f : Nat → Bool) (n : Nat) : mixB f 0 n = madeCells #[Value.bool false] n := by
  have e : madeCells #[Value.bool false] n = Array.replicate n (Value.bool false) := by
    apply Array.ext
    · simp [madeCells]
    · intro i h1 h2
      simp [madeCells, Nat.mod_one]
  rw [e]
  simp [mixB]
theorem mixB_size (f : Nat → Bool) {k n : Nat} (h : k ≤ n) : (mixB f k n).size = n := by
  simp [mixB]; omega
theorem mixB_set (f : Nat → Bool) {k n : Nat} (h : k < n) : (mixB f k n).setIfInBounds k (.bool (f k)) = mixB f (k + 1) n := by
  apply Array.ext'
  unfold mixB
  simp only [Array.toList_setIfInBounds]
  have hn : n - k = (n - (k + 1)) + 1 := by omega
  rw [hn, List.replicate_succ, List.set_append_right _ _ (by simp)]
  have hl : k - ((List.range k).map (fun i => Value.bool (f i))).length = 0 := by simp
  rw [hl, List.set_cons_zero, List.range_succ]
  simp
theorem mixB_get (f : Nat → Bool) {n i : Nat} (h : i < n) : (mixB f n n)[i]? = some (.bool (f i)) := by
  unfold mixB
  simp [h]
theorem Try.infoB : (Try.prog.info? 4).map (fun i => (i.zero, i.size, i.bytes)) = some (some (.bool false), 1, 1) := by kernel_rfl
set_option maxHeartbeats 1000000 in
theorem toB (a : Option Addr) (n cap : Nat) (f : Nat → Bool) (w : World) (h : BRow w a n f) (hn : n ≤ 1048576) :
    Calls Try.prog 37 #[.slice a n cap] w fun e w' => e = .returned (.slice (some ⟨w.heap.size, 0, none⟩) n n) ∧ w.alloc (.cells (mixB f n n) 4) = w' := by
  have hmk := fun w2 : World => run_make_row' (P := Try.prog) 22 4 (.bool false) 1 Try.underlying22 Try.infoB rfl .i64 .i64 n (by omega) (by omega) w2
  have H := Lib.hid h
  clear h
  go_enter Try.func37, Try.ntmps37
  go_wp2
  clear hmk
  go_loopw [4] (fun iv w' => ∃ k : Nat, k ≤ n ∧ iv = .int .i64 k ∧ w' = w.alloc (.cells (mixB f k n) 4)) (fun iv _ => n - (intOf iv).toNat)
  case atStart => exact ⟨0, by omega, rfl, by rw [mixB_zero]⟩
  case round =>
    obtain ⟨k, hk, rfl, rfl⟩ := hrel
    by_cases hlt : k < n
    · rcases H.out with h0 | ⟨b, off, rfl, hb, hc⟩
      · omega
      · have hck := hc k hlt
        have HSET := Lib.hid (mixB_set f hlt)
        have hsz := mixB_size f hk
        have hck2 : (w.alloc (.cells (mixB f k n) 4)).cell? ⟨b, off + k, none⟩ = some (.bool (f k)) := by
          rw [World.cell?_alloc_past _ _ _ hb]; exact hck
        clear hc hck
        generalize f k = x at hck2 HSET
        go_wp2
        exact ⟨⟨k + 1, by omega, by first | rfl | go_num | (congr 1), by rw [HSET.out]⟩, by show n - ((k : Int) + 1).toNat < n - (k : Int).toNat; omega⟩
    · obtain rfl : k = n := by omega
      go_wp2
      go_ret
      exact ⟨rfl, rfl⟩
theorem toMB (a : Option Addr) (n cap : Nat) (f : Nat → Bool) (w w0 : World) (L : List (Nat × Ent)) (h : Mine w0 w L) (ha : BRow w0 a n f) (hn : n ≤ 1048576) :
    Calls Try.prog 37 #[.slice a n cap] w fun e w' => ∃ p, e = .returned (.slice (some ⟨p, 0, none⟩) n n) ∧ Mine w0 w' ((p, .bl n f) :: L) := by
  refine (toB a n cap f w (ha.below h.1) hn).mono ?_
  rintro e w' ⟨he, rfl⟩
  have hb : Below w.heap.size w (w.alloc (.cells (mixB f n n) 4)) := (Below.refl _ _).alloc (Nat.le_refl _) _
  exact ⟨_, he, h.push hb (Nat.le_refl _) (by simp) ⟨trivial, fun i hi => ⟨by rw [World.cell?_alloc_at _ _ _ _ rfl]; exact mixB_get f hi, World.frozen?_alloc_at _ _ _ _ rfl⟩⟩⟩
set_option maxHeartbeats 1000000 in
theorem eqB (a b : Option Addr) (n cap capb : Nat) (f : Nat → Bool) (w : World) (ha : BRow w a n f) (hb : BRow w b n f) (hn : n ≤ 1048576) :
    Calls Try.prog 23 #[.slice a n cap, .slice b n capb] w fun e w' => e = .returned (.bool true) ∧ Drew w w' := by
  have HA := Lib.hid ha
  have HB := Lib.hid hb
  clear ha hb
  go_enter Try.func23, Try.ntmps23
  go_wp2
  go_loopw [5] (fun iv w' => ∃ k q : Nat, k ≤ n ∧ iv = .int .i64 k ∧ w' = w.drewN q) (fun iv _ => n - (intOf iv).toNat)
  case atStart => exact ⟨0, 0, by omega, rfl, rfl⟩
  case round =>
    obtain ⟨k, q, hk, rfl, rfl⟩ := hrel
    by_cases hlt : k < n
    · obtain ⟨b1, o1, rfl, hck1⟩ := HA.out.cell hlt
      obtain ⟨b2, o2, rfl, hck2⟩ := HB.out.cell hlt
      have hbb : (f k == f k) = true := by simp
      generalize f k = x at hck1 hck2 hbb
      clear HA HB
      go_wp2
      go_quiet (fail)
      go_wp2
      exact ⟨⟨k + 1, _, by omega, by first | rfl | go_num | (congr 1), rfl⟩, by show n - ((k : Int) + 1).toNat < n - (k : Int).toNat; omega⟩
    · obtain rfl : k = n := by omega
      go_wp2
      go_ret
      exact ⟨rfl, Drew.mk _ _⟩
theorem eqMB (p q n cap capb : Nat) (f : Nat → Bool) (w w0 : World) (L : List (Nat × Ent)) (h : Mine w0 w L) (ha : (p, .bl n f) ∈ L) (hb : (q, .bl n f) ∈ L) (hn : n ≤ 1048576) :
    Calls Try.prog 23 #[.slice (some ⟨p, 0, none⟩) n cap, .slice (some ⟨q, 0, none⟩) n capb] w fun e w' => e = .returned (.bool true) ∧ Mine w0 w' L := by
  refine (eqB _ _ n cap capb f w (h.brow ha) (h.brow hb) hn).mono ?_
  rintro e w' ⟨he, d⟩
  exact ⟨he, h.below d.below⟩
theorem eqMB0 (w w0 : World) (L : List (Nat × Ent)) (h : Mine w0 w L) :
    Calls Try.prog 23 #[.slice none 0 0, .slice none 0 0] w fun e w' => e = .returned (.bool true) ∧ Mine w0 w' L := by
  refine (eqB none none 0 0 0 (fun _ => false) w (.inl rfl) (.inl rfl) (Nat.zero_le _)).mono ?_
  rintro e w' ⟨he, d⟩
  exact ⟨he, h.below d.below⟩
/-- The marks of bits. -/
def mkB (k0 : Int) (j : Nat) : Bool := decide ((k0 + (j : Int)) % 3 = 0)
set_option maxHeartbeats 2000000 in
theorem markMB (p n cap : Nat) (f : Nat → Bool) (k0 : Int) (w w0 : World) (L : List (Nat × Ent)) (i : Nat) (h : Mine w0 w L) (hi : L[i]? = some (p, .bl n f)) (hn : n ≤ 1048576) (hk0 : 0 ≤ k0 ∧ k0 ≤ 4194304) :
    Calls Try.prog 28 #[.slice (some ⟨p, 0, none⟩) n cap, .int .i64 k0] w fun e w' => e = .returned (.int .i64 (k0 + (n : Int))) ∧ Mine w0 w' (L.set i (p, .bl n (mkB k0))) := by
  have HS := Lib.hid h
  have HI := Lib.hid hi
  have HP := Lib.hid (PM.start (.bl n (mkB k0)) (h.2.1 _ (List.mem_of_getElem? hi)).2.2)
  obtain ⟨hk1, hk2⟩ := hk0
  clear h hi
  go_enter Try.func28, Try.ntmps28
  go_wp2
  go_loopw [1, 5] (fun kv iv w' => ∃ (k : Nat) (wr : World), k ≤ n ∧ kv = .int .i64 (k0 + (k : Int)) ∧ iv = .int .i64 k ∧ wr = w' ∧ Hid (PM w p (.bl n f) (.bl n (mkB k0)) k wr)) (fun _ iv _ => n - (intOf iv).toNat)
  case atStart => exact ⟨0, _, by omega, by simp, rfl, rfl, HP⟩
  case round =>
    obtain ⟨k, wr, hk, rfl, rfl, rfl, HM⟩ := hrel
    by_cases hlt : k < n
    · have hck := (HM.out.2.2.1 k hlt).1
      have hfz := (HM.out.2.2.1 k hlt).2
      have hb : ∃ b, b = decide ((k0 + (k : Int)) % 3 = 0) := ⟨_, rfl⟩
      obtain ⟨b, hb⟩ := hb
      have HN := Lib.hid (HM.out.step hlt (.bool b) (by rw [hb]; rfl))
      have hb2 : (((k0 + (k : Int)) % 3) == (0 : Int)) = b := by rw [hb]; rfl
      have hb3 : decide ((k0 + (k : Int)) % 3 = 0) = b := hb.symm
      clear hb
      generalize (if k < k then (Ent.bl n (mkB k0)).cell k else (Ent.bl n f).cell k) = old at hck
      go_wp2
      all_goals
        exact ⟨⟨k + 1, _, by omega, by first | rfl | go_num | (congr 1), by first | rfl | go_num | (congr 1), rfl, HN⟩, by show n - ((k : Int) + 1).toNat < n - (k : Int).toNat; omega⟩
    · obtain rfl : k = n := by omega
      have HR := Lib.hid (HS.out.mark (old := .bl k f) (new := .bl k (mkB k0)) HI.out rfl rfl trivial (fun _ _ h => h) HM.out)
      go_wp2
      go_ret
      exact ⟨ret_i rfl, HR.out⟩
theorem markNilB (k0 : Int) (w : World) : Calls Try.prog 28 #[.slice none 0 0, .int .i64 k0] w fun e w' => e = .returned (.int .i64 k0) ∧ w = w' := by
  go_enter Try.func28, Try.ntmps28
  go_wp2
  refine wp_loop_rounds 1 ?_
  rw [rounds_succ]
  go_wp2
  go_ret
  exact ⟨rfl, rfl⟩
set_option maxHeartbeats 2000000 in
theorem heldMB (p n cap : Nat) (k0 : Int) (w w0 : World) (L : List (Nat × Ent)) (h : Mine w0 w L) (hm : (p, .bl n (mkB k0)) ∈ L) (hn : n ≤ 1048576) (hk0 : 0 ≤ k0 ∧ k0 ≤ 4194304) :
    Calls Try.prog 29 #[.slice (some ⟨p, 0, none⟩) n cap, .int .i64 k0] w fun e w' => e = .returned (.int .i64 (k0 + (n : Int))) ∧ Mine w0 w' L := by
  have HR := Lib.hid (h.brow hm)
  have HS := Lib.hid h
  obtain ⟨hk1, hk2⟩ := hk0
  clear h hm
  go_enter Try.func29, Try.ntmps29
  go_wp2
  go_loopw [1, 5] (fun kv iv w' => ∃ k q : Nat, k ≤ n ∧ kv = .int .i64 (k0 + (k : Int)) ∧ iv = .int .i64 k ∧ w' = w.drewN q) (fun _ iv _ => n - (intOf iv).toNat)
  case atStart => exact ⟨0, 0, by omega, by simp, rfl, rfl⟩
  case round =>
    obtain ⟨k, q, hk, rfl, rfl, rfl⟩ := hrel
    by_cases hlt : k < n
    · have hck : w.cell? ⟨p, k, none⟩ = some (.bool (mkB k0 k)) := by
        rcases HR.out with h0 | ⟨b, off, e, _, hc⟩
        · omega
        · injection e with e
          injection e with e1 e2
          subst e1; subst e2
          have := hc k hlt
          rw [Nat.zero_add] at this
          exact this
      have hb : ∃ b, b = mkB k0 k := ⟨_, rfl⟩
      obtain ⟨b, hb⟩ := hb
      rw [← hb] at hck
      have hb2 : (((k0 + (k : Int)) % 3) == (0 : Int)) = b := by rw [hb]; rfl
      have hb3 : decide ((k0 + (k : Int)) % 3 = 0) = b := by rw [hb]; rfl
      have hbb : (b == b) = true := by simp
      have hbn : (b != b) = false := by simp
      clear hb
      go_wp2
      all_goals
        exact ⟨⟨k + 1, _, by omega, by first | rfl | go_num | (congr 1), by first | rfl | go_num | (congr 1), rfl⟩, by show n - ((k : Int) + 1).toNat < n - (k : Int).toNat; omega⟩
    · obtain rfl : k = n := by omega
      go_wp2
      go_ret
      exact ⟨ret_i rfl, HS.out.drewN _⟩
theorem heldNilB (k0 : Int) (w : World) : Calls Try.prog 29 #[.slice none 0 0, .int .i64 k0] w fun e w' => e = .returned (.int .i64 k0) ∧ w = w' := by
  go_enter Try.func29, Try.ntmps29
  go_wp2
  refine wp_loop_rounds 1 ?_
  rw [rounds_succ]
  go_wp2
  go_ret
  exact ⟨rfl, rfl⟩
section
open Go.ChangeShapes Go.WideShapes Go.Deep
variable {H : Type} {enc : TypeId × Value → H} {P : Program} {w : World} {base : Nat} {held : Bool}
theorem open_brow {t e : TypeId} {fuel : Nat} {a : Option Addr} {len cap : Nat} {x : DataW H × List MemPlace} (ht : P.underlying t = some (.slice e)) (he : P.underlying e = some .bool) (hc : P.cellsOf e = 1)
    (h : DataW.trod enc P w base (fun _ => true) held fuel t [.slice a len cap] = some x) : ∃ f, BRow w a len f := by
  rcases open_bools ht he hc h with ⟨hcs, _⟩ | ⟨y, l, c, S, hcs, _, hl, hm, _, hx⟩
  · simp at hcs
    obtain ⟨rfl, rfl, rfl⟩ := hcs
    exact ⟨fun _ => false, .inl rfl⟩
  · simp at hcs
    obtain ⟨rfl, rfl, rfl⟩ := hcs
    refine ⟨S, ?_⟩
    by_cases h0 : len = 0
    · exact .inl h0
    have h00 := hx 0 (by omega)
    have e0 : y.add 0 = y := by simp [Addr.add]
    rw [e0] at h00
    have hs : y.spot = none := by
      unfold World.cell? at h00
      split at h00
      · split at h00
        · cases h00
        · rename_i hn; cases hy : y.spot with
          | none => rfl
          | some s => rw [hy] at hn; simp at hn
      · cases h00
    have hb : y.block < w.heap.size := by
      unfold World.cell? at h00
      split at h00
      · rename_i hh; exact (Array.getElem?_eq_some_iff.1 hh).1
      · cases h00
    obtain ⟨b, off, spot⟩ := y
    simp at hs
    subst hs
    refine .inr ⟨b, off, rfl, hb, fun i hi => ?_⟩
    have := hx i (by omega)
    rw [show (⟨b, off, none⟩ : Addr).add i = ⟨b, off + i, none⟩ by unfold Addr.add; split <;> simp_all] at this
    exact this
end
end Go.Proofs.Ytnljabgkaelplaa
