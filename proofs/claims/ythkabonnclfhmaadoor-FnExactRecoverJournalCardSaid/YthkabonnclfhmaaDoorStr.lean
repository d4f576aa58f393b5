
/- Rows of texts: the laws' helpers, how one is opened. -/
import Derived.Test.YthkabonnclfhmaaDoorMgb
import Derived.Deep.Strs
import Derived.Deep.QuietTactic
import Derived.BigQuiet
namespace Go.Proofs.YthkabonnclfhmaaDoor
open Go.Proofs.YthkabonnclfhmaaDoor.Flo Go.RowKit

/-- A slice value of n texts: the cells that it leads to hold them. -/
def SRow (w : World) (a : Option Addr) (n : Nat) (f : Nat → ByteArray) : Prop :=
  n = 0 ∨ ∃ b off, a = some ⟨b, off, none⟩ ∧ b < w.heap.size ∧ ∀ i, i < n → w.cell? ⟨b, off + i, none⟩ = some (.string (f i))
theorem SRow.below {w w' : World} {a : Option Addr} {n : Nat} {f : Nat → ByteArray} (h : SRow w a n f) (hb : Below w.heap.size w w') : SRow w' a n f := by
  rcases h with h | ⟨b, off, ha, hk, hc⟩
  · exact .inl h
  · exact .inr ⟨b, off, ha, Nat.lt_of_lt_of_le hk hb.size, fun i hi => by rw [hb.cell (p := ⟨b, off + i, none⟩) hk]; exact hc i hi⟩
theorem SRow.drewN {w : World} {a : Option Addr} {n : Nat} {f : Nat → ByteArray} (h : SRow w a n f) (q : Nat) : SRow (w.drewN q) a n f := h
theorem SRow.drew {w : World} {a : Option Addr} {n : Nat} {f : Nat → ByteArray} (h : SRow w a n f) : SRow w.drew a n f := h
theorem SRow.drewTo {w w' : World} {a : Option Addr} {n : Nat} {f : Nat → ByteArray} (h : SRow w a n f) (d : Drew w w') : SRow w' a n f := h.below d.below
theorem SRow.cell {w : World} {a : Option Addr} {n : Nat} {f : Nat → ByteArray} (h : SRow w a n f) {k : Nat} (hk : k < n) : ∃ b o, a = some ⟨b, o, none⟩ ∧ w.cell? ⟨b, o + k, none⟩ = some (.string (f k)) := by
  rcases h with h | ⟨b, off, ha, _, hc⟩
  · omega
  · exact ⟨b, off, ha, hc k hk⟩
/-- The entry of a row of texts. -/
def Ent.sl (n : Nat) (f : Nat → ByteArray) : Ent := .gv n (fun i => .string (f i))
theorem Mine.srow {w0 w : World} {L : List (Nat × Ent)} {p n : Nat} {f : Nat → ByteArray} (h : Mine w0 w L) (hm : (p, Ent.sl n f) ∈ L) : SRow w (some ⟨p, 0, none⟩) n f := by
  obtain ⟨_, h2, h3, h4⟩ := h.2.1 _ hm
  exact .inr ⟨p, 0, rfl, h2, fun i hi => by rw [Nat.zero_add]; exact (h4 i hi).1⟩
/-- The cells of a copy, of which k are done. -/
def mixS (f : Nat → ByteArray) (k n : Nat) : Array Value := ((List.range k).map (fun i => Value.string (f i)) ++ List.replicate (n - k) (Value.string ⟨#[]⟩)).toArray
theorem mixS_zero (f : Nat → ByteArray) (n : Nat) : mixS f 0 n = madeCells #[Value.string ⟨#[]⟩] n := by
  have e : madeCells #[Value.string ⟨#[]⟩] n = Array.replicate n (Value.string ⟨#[]⟩) := by
    apply Array.ext
    · simp [madeCells]
    · intro i h1 h2
      simp [madeCells, Nat.mod_one]
  rw [e]
  simp [mixS]
theorem mixS_size (f : Nat → ByteArray) {k n : Nat} (h : k ≤ n) : (mixS f k n).size = n := by
  simp [mixS]; omega
theorem mixS_set (f : Nat → ByteArray) {k n : Nat} (h : k < n) : (mixS f k n).setIfInBounds k (.string (f k)) = mixS f (k + 1) n := by
  apply Array.ext'
  unfold mixS
  simp only [Array.toList_setIfInBounds]
  have hn : n - k = (n - (k + 1)) + 1 := by omega
  rw [hn, List.replicate_succ, List.set_append_right _ _ (by simp)]
  have hl : k - ((List.range k).map (fun i => Value.string (f i))).length = 0 := by simp
  rw [hl, List.set_cons_zero, List.range_succ]
  simp
theorem mixS_get (f : Nat → ByteArray) {n i : Nat} (h : i < n) : (mixS f n n)[i]? = some (.string (f i)) := by
  unfold mixS
  simp [h]
theorem Tryd.infoS : (Tryd.prog.info? 9).map (fun i => (i.zero, i.size, i.bytes)) = some (some (.string ⟨#[]⟩), 1, 16) := by kernel_rfl
set_option maxHeartbeats 1000000 in
theorem toS (a : Option Addr) (n cap : Nat) (f : Nat → ByteArray) (w : World) (h : SRow w a n f) (hn : n ≤ 1048576) :
    Calls Tryd.prog 55 #[.slice a n cap] w fun e w' => e = .returned (.slice (some ⟨w.heap.size, 0, none⟩) n n) ∧ w.alloc (.cells (mixS f n n) 9) = w' := by
  have hmk := fun w2 : World => run_make_row' (P := Tryd.prog) 66 9 (.string ⟨#[]⟩) 16 Tryd.underlying66 Tryd.infoS rfl .i64 .i64 n (by omega) (by omega) w2
  have H := Lib.hid h
  clear h
  go_enter Tryd.func55, Tryd.ntmps55
  go_wp2
  clear hmk
  go_loopw [4] (fun iv w' => ∃ k : Nat, k ≤ n ∧ iv = .int .i64 k ∧ w' = w.alloc (.cells (mixS f k n) 9)) (fun iv _ => n - (intOf iv).toNat)
  case atStart => exact ⟨0, by omega, rfl, by rw [mixS_zero]⟩
  case round =>
    obtain ⟨k, hk, rfl, rfl⟩ := hrel
    by_cases hlt : k < n
    · rcases H.out with h0 | ⟨b, off, rfl, hb, hc⟩
      · omega
      · have hck := hc k hlt
        have HSET := Lib.hid (mixS_set f hlt)
        have hsz := mixS_size f hk
        have hck2 : (w.alloc (.cells (mixS f k n) 9)).cell? ⟨b, off + k, none⟩ = some (.string (f k)) := by
          rw [World.cell?_alloc_past _ _ _ hb]; exact hck
        clear hc hck
        generalize f k = x at hck2 HSET
        go_wp2
        exact ⟨⟨k + 1, by omega, by first | rfl | go_num | (congr 1), by rw [HSET.out]⟩, by show n - ((k : Int) + 1).toNat < n - (k : Int).toNat; omega⟩
    · obtain rfl : k = n := by omega
      go_wp2
      go_ret
      exact ⟨rfl, rfl⟩
theorem toMS (a : Option Addr) (n cap : Nat) (f : Nat → ByteArray) (w w0 : World) (L : List (Nat × Ent)) (h : Mine w0 w L) (ha : SRow w0 a n f) (hn : n ≤ 1048576) :
    Calls Tryd.prog 55 #[.slice a n cap] w fun e w' => ∃ p, e = .returned (.slice (some ⟨p, 0, none⟩) n n) ∧ Mine w0 w' ((p, .sl n f) :: L) := by
  refine (toS a n cap f w (ha.below h.1) hn).mono ?_
  rintro e w' ⟨he, rfl⟩
  have hb : Below w.heap.size w (w.alloc (.cells (mixS f n n) 9)) := (Below.refl _ _).alloc (Nat.le_refl _) _
  exact ⟨_, he, h.push hb (Nat.le_refl _) (by simp) ⟨trivial, fun i hi => ⟨by rw [World.cell?_alloc_at _ _ _ _ rfl]; exact mixS_get f hi, World.frozen?_alloc_at _ _ _ _ rfl⟩⟩⟩
set_option maxHeartbeats 1000000 in
theorem eqS (a b : Option Addr) (n cap capb : Nat) (f : Nat → ByteArray) (w : World) (ha : SRow w a n f) (hb : SRow w b n f) (hn : n ≤ 1048576) :
    Calls Tryd.prog 57 #[.slice a n cap, .slice b n capb] w fun e w' => e = .returned (.bool true) ∧ Drew w w' := by
  have HA := Lib.hid ha
  have HB := Lib.hid hb
  clear ha hb
  go_enter Tryd.func57, Tryd.ntmps57
  go_wp2
  go_loopw [5] (fun iv w' => ∃ k q : Nat, k ≤ n ∧ iv = .int .i64 k ∧ w' = w.drewN q) (fun iv _ => n - (intOf iv).toNat)
  case atStart => exact ⟨0, 0, by omega, rfl, rfl⟩
  case round =>
    obtain ⟨k, q, hk, rfl, rfl⟩ := hrel
    by_cases hlt : k < n
    · obtain ⟨b1, o1, rfl, hck1⟩ := HA.out.cell hlt
      obtain ⟨b2, o2, rfl, hck2⟩ := HB.out.cell hlt
      generalize f k = x at hck1 hck2
      clear HA HB
      go_wp2
      go_quiet (fail)
      go_wp2
      exact ⟨⟨k + 1, _, by omega, by first | rfl | go_num | (congr 1), rfl⟩, by show n - ((k : Int) + 1).toNat < n - (k : Int).toNat; omega⟩
    · obtain rfl : k = n := by omega
      go_wp2
      go_ret
      exact ⟨rfl, Drew.mk _ _⟩
theorem eqMS (p q n cap capb : Nat) (f : Nat → ByteArray) (w w0 : World) (L : List (Nat × Ent)) (h : Mine w0 w L) (ha : (p, .sl n f) ∈ L) (hb : (q, .sl n f) ∈ L) (hn : n ≤ 1048576) :
    Calls Tryd.prog 57 #[.slice (some ⟨p, 0, none⟩) n cap, .slice (some ⟨q, 0, none⟩) n capb] w fun e w' => e = .returned (.bool true) ∧ Mine w0 w' L := by
  refine (eqS _ _ n cap capb f w (h.srow ha) (h.srow hb) hn).mono ?_
  rintro e w' ⟨he, d⟩
  exact ⟨he, h.below d.below⟩
/-- How long texts are together. -/
def totS (f : Nat → ByteArray) : Nat → Nat
  | 0 => 0
  | k + 1 => totS f k + (f k).size
theorem totS_mono (f : Nat → ByteArray) {k : Nat} : ∀ n, k ≤ n → totS f k ≤ totS f n
  | 0, h => by rw [show k = 0 by omega]; exact Nat.le_refl _
  | n + 1, h => by
    by_cases e : k = n + 1
    · rw [e]; exact Nat.le_refl _
    · exact Nat.le_trans (totS_mono f n (by omega)) (Nat.le_add_right _ _)
theorem totS_each (f : Nat → ByteArray) {k n : Nat} (h : k < n) : (f k).size ≤ totS f n := Nat.le_trans (Nat.le_add_left _ (totS f k)) (totS_mono f n h)
/-- What is left of a size. -/
def szV (f : Nat → ByteArray) (n left : Nat) : Int := if n + totS f n ≤ left then (left : Int) - n - totS f n else -1
set_option maxRecDepth 100000 in
set_option maxHeartbeats 2000000 in
theorem szS (a : Option Addr) (n cap left : Nat) (f : Nat → ByteArray) (w : World) (h : SRow w a n f) (hn : n ≤ 9223372036854775807) (hf : ∀ k, k < n → (f k).size ≤ 9223372036854775807) (hl : left ≤ 1048576) :
    Calls Tryd.prog 53 #[.slice a n cap, .int .i64 (left : Int)] w fun e w' => e = .returned (.int .i64 (szV f n left)) ∧ w = w' := by
  have HA := Lib.hid h
  have HF := Lib.hid hf
  clear h hf
  have hw0 : IntKind.i64.wrap ((left : Int) - (n : Int)) = (left : Int) - (n : Int) := IntWalk.i64_in _ (by omega)
  by_cases h1 : n ≤ left
  · have hd : decide ((left : Int) - (n : Int) < 0) = false := decide_eq_false (by omega)
    go_enter Tryd.func53, Tryd.ntmps53
    go_wp2
    clear hd hw0
    go_loop [1, 5] (fun lv iv => ∃ k : Nat, k ≤ n ∧ n + totS f k ≤ left ∧ lv = .int .i64 ((left : Int) - n - totS f k) ∧ iv = .int .i64 k) (fun _ iv => n - (intOf iv).toNat)
    case atStart => exact ⟨0, by omega, by show n + 0 ≤ left; omega, by show _ = Value.int .i64 ((left : Int) - n - ((0 : Nat) : Int)); simp, rfl⟩
    case round =>
      obtain ⟨k, hk, hle, rfl, rfl⟩ := hrel
      by_cases hlt : k < n
      · obtain ⟨b1, o1, rfl, hck1⟩ := HA.out.cell hlt
        have hfk := HF.out k hlt
        have HT : Hid (totS f (k + 1) = totS f k + (f k).size) := Lib.hid rfl
        have HM := Lib.hid (totS_mono f (k := k + 1) n hlt)
        generalize f k = x at hck1 hfk HT
        have hw1 : IntKind.i64.wrap ((left : Int) - n - totS f k - (x.size : Int)) = (left : Int) - n - totS f k - (x.size : Int) := IntWalk.i64_in _ (by omega)
        by_cases h2 : n + totS f k + x.size ≤ left
        · have hd : decide ((left : Int) - n - totS f k - (x.size : Int) < 0) = false := decide_eq_false (by omega)
          go_wp2
          go_round
          case rel => exact ⟨k + 1, by omega, by rw [HT.out]; omega, by rw [HT.out]; congr 1; omega, by go_num⟩
          case measure => simp [intOf]; omega
        · have hd : decide ((left : Int) - n - totS f k - (x.size : Int) < 0) = true := decide_eq_true (by omega)
          have HV : Hid (szV f n left = -1) := Lib.hid (by unfold szV; rw [if_neg (by have := HM.out; rw [HT.out] at this; omega)])
          go_wp2
          go_ret
          exact ⟨by rw [HV.out]; rfl, rfl⟩
      · obtain rfl : k = n := by omega
        have HV : Hid (szV f k left = (left : Int) - k - totS f k) := Lib.hid (by unfold szV; rw [if_pos hle])
        go_wp2
        go_ret
        exact ⟨by rw [HV.out]; rfl, rfl⟩
  · have hd : decide ((left : Int) - (n : Int) < 0) = true := decide_eq_true (by omega)
    have HV : Hid (szV f n left = -1) := Lib.hid (by unfold szV; rw [if_neg (by omega)])
    go_enter Tryd.func53, Tryd.ntmps53
    go_wp2
    go_ret
    exact ⟨by rw [HV.out]; rfl, rfl⟩
section
open Go.ChangeShapes Go.WideShapes Go.Deep
variable {H : Type} {enc : TypeId × Value → H} {P : Program} {w : World} {base : Nat} {spare : Nat → Bool} {held : Bool}
theorem open_srow {t e : TypeId} {fuel : Nat} {a : Option Addr} {len cap : Nat} {x : DataW H × List MemPlace} (ht : P.underlying t = some (.slice e)) (he : P.underlying e = some .string) (hc : P.cellsOf e = 1)
    (h : DataW.trod enc P w base spare held fuel t [.slice a len cap] = some x) : ∃ f, SRow w a len f ∧ (∀ k, k < len → (f k).size ≤ 9223372036854775807) ∧ len ≤ 9223372036854775807 := by
  rcases open_strs ht he hc h with ⟨hcs, _⟩ | ⟨y, l, c, m, S, hcs, _, hl, hm, hmm, _, hx⟩
  · simp at hcs
    obtain ⟨rfl, rfl, rfl⟩ := hcs
    exact ⟨fun _ => ⟨#[]⟩, .inl rfl, fun k hk => by omega, by omega⟩
  · simp at hcs
    obtain ⟨rfl, rfl, rfl⟩ := hcs
    have hlm : len ≤ m := by rw [hmm]; split <;> omega
    unfold maxLen at hm
    refine ⟨S, ?_, fun k hk => by have := (hx k (by omega)).2; unfold maxLen at this; omega, by omega⟩
    by_cases h0 : len = 0
    · exact .inl h0
    have h00 := (hx 0 (by omega)).1
    have e0 : y.add 0 = y := by simp [Addr.add]
    rw [e0] at h00
    have hs : y.spot = none := by
      unfold World.cell? at h00
      split at h00
      · split at h00
        · cases h00
        · rename_i hn; cases hy : y.spot with
          | none => rfl
          | some s => rw [hy] at hn; simp at hn
      · cases h00
    have hb : y.block < w.heap.size := by
      unfold World.cell? at h00
      split at h00
      · rename_i hh; exact (Array.getElem?_eq_some_iff.1 hh).1
      · cases h00
    obtain ⟨b, off, spot⟩ := y
    simp at hs
    subst hs
    refine .inr ⟨b, off, rfl, hb, fun i hi => ?_⟩
    have := (hx i (by omega)).1
    rw [show (⟨b, off, none⟩ : Addr).add i = ⟨b, off + i, none⟩ by unfold Addr.add; split <;> simp_all] at this
    exact this
end
end Go.Proofs.YthkabonnclfhmaaDoor
