
/- Slices of int64: rows, the laws' helpers, how one is opened. -/
import Derived.Test.YthkabonnclfhmaaDoorFlw
import Derived.Deep.OwnRows
import Derived.Lib.Hide
import Derived.Deep.RegionWith
import Derived.ProofKit
import Derived.OpenShut
import Derived.ChangeArms
import Derived.Deep.Slices
namespace Go.Proofs.YthkabonnclfhmaaDoor
open Go.Proofs.YthkabonnclfhmaaDoor.Flo Go.RowKit

/-- A slice value of n numbers: the cells that it leads to hold them. -/
def IRow (w : World) (a : Option Addr) (n : Nat) (zs : List Int) : Prop :=
  zs.length = n ∧ (n = 0 ∨ ∃ b off, a = some ⟨b, off, none⟩ ∧ b < w.heap.size ∧ ∀ i, i < n → w.cell? ⟨b, off + i, none⟩ = some (.int .i64 (zs.getD i 0)))
/-- The numbers as cells. -/
def il (zs : List Int) : Array Value := (zs.map (Value.int .i64)).toArray
/-- The cells of a copy, of which k are done. -/
def mixI (zs : List Int) (k n : Nat) : Array Value := ((zs.map (Value.int .i64)).take k ++ List.replicate (n - k) (Value.int .i64 0)).toArray
theorem made_eqI (n : Nat) : madeCells #[Value.int .i64 0] n = Array.replicate n (Value.int .i64 0) := by
  apply Array.ext
  · simp [madeCells]
  · intro i h1 h2
    simp [madeCells, Nat.mod_one]
theorem mix_zeroI (zs : List Int) (n : Nat) : mixI zs 0 n = madeCells #[Value.int .i64 0] n := by
  rw [made_eqI]
  unfold mixI
  simp
theorem mix_allI (zs : List Int) (n : Nat) (h : zs.length = n) : mixI zs n n = il zs := by
  unfold mixI il
  rw [List.take_of_length_le (by simp; omega)]; simp
theorem mix_setI (zs : List Int) (k n : Nat) (hk : k < n) (h : zs.length = n) : (mixI zs k n).setIfInBounds k (.int .i64 (zs.getD k 0)) = mixI zs (k + 1) n := by
  unfold mixI
  apply Array.ext'
  have hz : zs.getD k 0 = zs[k]'(by omega) := by rw [List.getD_eq_getElem?_getD, List.getElem?_eq_getElem (by omega)]; rfl
  have hn : n - k = (n - (k + 1)) + 1 := by omega
  simp only [Array.toList_setIfInBounds]
  rw [hz, hn, List.replicate_succ, List.set_append_right _ _ (by simp; omega)]
  have hl : k - ((zs.map (Value.int .i64)).take k).length = 0 := by simp; omega
  rw [hl, List.set_cons_zero, List.take_succ_eq_append_getElem (by simp; omega)]
  simp
theorem mix_sizeI (zs : List Int) (k n : Nat) (hk : k ≤ n) (h : zs.length = n) : (mixI zs k n).size = n := by
  unfold mixI; simp; omega
/-- Where a slice's cells are, in a world with a block more. -/
theorem IRow.alloc {w : World} {a : Option Addr} {n : Nat} {zs : List Int} (h : IRow w a n zs) (o : Obj) : IRow (w.alloc o) a n zs := by
  obtain ⟨hl, h⟩ := h
  refine ⟨hl, ?_⟩
  rcases h with h | ⟨b, off, ha, hb, hc⟩
  · exact .inl h
  · refine .inr ⟨b, off, ha, by simp; omega, fun i hi => ?_⟩
    rw [World.cell?_alloc_past _ _ _ hb]; exact hc i hi
theorem IRow.new {w : World} {zs : List Int} {n : Nat} (h : zs.length = n) (e : TypeId) : IRow (w.alloc (.cells (il zs) e)) (some ⟨w.heap.size, 0, none⟩) n zs := by
  refine ⟨h, .inr ⟨w.heap.size, 0, rfl, by simp, fun i hi => ?_⟩⟩
  rw [World.cell?_alloc_at _ _ _ _ rfl]
  unfold il
  have hz : zs.getD i 0 = zs[i]'(by omega) := by rw [List.getD_eq_getElem?_getD, List.getElem?_eq_getElem (by omega)]; rfl
  rw [hz]
  simp
theorem IRow.drewN {w : World} {a : Option Addr} {n : Nat} {zs : List Int} (h : IRow w a n zs) (q : Nat) : IRow (w.drewN q) a n zs := h

theorem Tryd.info64 : (Tryd.prog.info? 2).map (fun i => (i.zero, i.size, i.bytes)) = some (some (.int .i64 0), 1, 8) := by kernel_rfl

set_option maxHeartbeats 1000000 in
theorem toI (a : Option Addr) (n cap : Nat) (zs : List Int) (w : World) (h : IRow w a n zs) (hn : n ≤ 1048576) :
    Calls Tryd.prog 20 #[.slice a n cap] w fun e w' => e = .returned (.slice (some ⟨w.heap.size, 0, none⟩) n n) ∧ w.alloc (.cells (il zs) 2) = w' := by
  have hmk := fun w2 : World => run_make_row' (P := Tryd.prog) 27 2 (.int .i64 0) 8 Tryd.underlying27 Tryd.info64 rfl .i64 .i64 n (by omega) (by omega) w2
  obtain ⟨hlen, h⟩ := h
  rw [← mix_allI zs n hlen]
  have Hlen := Lib.hid hlen
  have H := Lib.hid h
  clear hlen h
  go_enter Tryd.func20, Tryd.ntmps20
  go_wp2
  go_loopw [4] (fun iv w' => ∃ k : Nat, k ≤ n ∧ iv = .int .i64 k ∧ w' = w.alloc (.cells (mixI zs k n) 2)) (fun iv _ => n - (intOf iv).toNat)
  case atStart => exact ⟨0, by omega, rfl, by rw [mix_zeroI]⟩
  case round =>
    obtain ⟨k, hk, rfl, rfl⟩ := hrel
    clear hmk
    by_cases hlt : k < n
    · rcases H.out with h0 | ⟨b, off, rfl, hb, hc⟩
      · omega
      · have hck := hc k hlt
        have hset := mix_setI zs k n hlt Hlen.out
        have hsz := mix_sizeI zs k n hk Hlen.out
        have hck2 : (w.alloc (.cells (mixI zs k n) 2)).cell? ⟨b, off + k, none⟩ = some (.int .i64 (zs.getD k 0)) := by
          rw [World.cell?_alloc_past _ _ _ hb]; exact hck
        have hold : (mixI zs k n)[k]? = some ((mixI zs k n)[k]'(by omega)) := Array.getElem?_eq_getElem _
        have hold2 : k < (mixI zs k n).size := by omega
        clear hc hck
        go_wp2
        rw [List.getD_eq_getElem?_getD] at hset
        exact ⟨⟨k + 1, by omega, by first | rfl | go_num | (congr 1), by rw [hset]⟩, by show n - ((k : Int) + 1).toNat < n - (k : Int).toNat; omega⟩
    · obtain rfl : k = n := by omega
      go_wp2
      go_ret
      exact ⟨rfl, rfl⟩
set_option maxHeartbeats 1000000 in
theorem eqI (a b : Option Addr) (n cap capb : Nat) (zs : List Int) (w : World) (ha : IRow w a n zs) (hb : IRow w b n zs) (hn : n ≤ 1048576) :
    Calls Tryd.prog 22 #[.slice a n cap, .slice b n capb] w fun e w' => e = .returned (.bool true) ∧ Drew w w' := by
  have HA := Lib.hid ha
  have HB := Lib.hid hb
  clear ha hb
  go_enter Tryd.func22, Tryd.ntmps22
  go_wp2
  go_loopw [5] (fun iv w' => ∃ k q : Nat, k ≤ n ∧ iv = .int .i64 k ∧ w' = w.drewN q) (fun iv _ => n - (intOf iv).toNat)
  case atStart => exact ⟨0, 0, by omega, rfl, rfl⟩
  case round =>
    obtain ⟨k, q, hk, rfl, rfl⟩ := hrel
    by_cases hlt : k < n
    · rcases HA.out.2 with h0 | ⟨b1, o1, rfl, _, hc1⟩
      · omega
      rcases HB.out.2 with h0 | ⟨b2, o2, rfl, _, hc2⟩
      · omega
      have hck1 : w.cell? ⟨b1, o1 + k, none⟩ = some (.int .i64 (zs.getD k 0)) := hc1 k hlt
      have hck2 : w.cell? ⟨b2, o2 + k, none⟩ = some (.int .i64 (zs.getD k 0)) := hc2 k hlt
      generalize zs.getD k 0 = x at hck1 hck2
      clear hc1 hc2 HA HB
      go_wp2
      go_region_with fail
      all_goals
        go_wp2
        exact ⟨⟨k + 1, _, by omega, by first | rfl | go_num | (congr 1), rfl⟩, by show n - ((k : Int) + 1).toNat < n - (k : Int).toNat; omega⟩
    · obtain rfl : k = n := by omega
      go_wp2
      go_ret
      exact ⟨rfl, Drew.mk _ _⟩
section
open Go.ChangeShapes Go.WideShapes Go.Deep
variable {H : Type} {enc : TypeId × Value → H} {P : Program} {w : World} {base : Nat} {spare : Nat → Bool} {held : Bool}
theorem trod_i64 {t : TypeId} {fuel : Nat} {cs : List Value} {x : DataW H × List MemPlace} {k : IntKind} (ht : P.underlying t = some (.int k)) (h : DataW.trod enc P w base spare held fuel t cs = some x) : ∃ n, cs = [.int k n] ∧ x = (.lit (.int k n), []) ∧ (Lit.int k n).wf = true := by
  cases fuel with
  | zero => simp [DataW.trod] at h
  | succ n =>
    unfold DataW.trod at h
    rw [ht] at h
    split at h <;> simp_all
theorem open_irow {t e : TypeId} {fuel : Nat} {a : Option Addr} {len cap : Nat} {x : DataW H × List MemPlace} (ht : P.underlying t = some (.slice e)) (he : P.underlying e = some (.int .i64)) (hc : P.cellsOf e = 1)
    (h : DataW.trod enc P w base spare held fuel t [.slice a len cap] = some x) : ∃ zs, IRow w a len zs := by
  rcases open_slice1 ht hc h with ⟨hcs, _⟩ | ⟨y, l, c, m, n, V, D, Pl, hcs, _, hl, hm, hmm, _, hx⟩
  · simp at hcs
    obtain ⟨rfl, rfl, rfl⟩ := hcs
    exact ⟨[], rfl, .inl rfl⟩
  · simp at hcs
    obtain ⟨rfl, rfl, rfl⟩ := hcs
    have hlm : len ≤ m := by rw [hmm]; split <;> omega
    have key : ∀ i, ∃ z : Int, i < len → w.cell? (y.add i) = some (.int .i64 z) := fun i => by
      by_cases hi : i < len
      · obtain ⟨hcell, htr⟩ := hx i (by omega)
        obtain ⟨z, hz, _⟩ := trod_i64 he htr
        exact ⟨z, fun _ => by rw [hcell]; simp at hz; rw [hz]⟩
      · exact ⟨0, fun h => absurd h hi⟩
    have key2 : ∃ f : Nat → Int, ∀ i, i < len → w.cell? (y.add i) = some (.int .i64 (f i)) := ⟨fun i => (key i).choose, fun i => (key i).choose_spec⟩
    obtain ⟨f, hf⟩ := key2
    by_cases h0 : len = 0
    · exact ⟨[], by simp [h0], .inl h0⟩
    have h00 : w.cell? y = some (.int .i64 (f 0)) := hf 0 (by omega)
    have hs : y.spot = none := by
      unfold World.cell? at h00
      split at h00
      · split at h00
        · cases h00
        · rename_i hn; cases hy : y.spot with
          | none => rfl
          | some s => rw [hy] at hn; simp at hn
      · cases h00
    have hb : y.block < w.heap.size := by
      unfold World.cell? at h00
      split at h00
      · rename_i hh; exact (Array.getElem?_eq_some_iff.1 hh).1
      · cases h00
    obtain ⟨b, off, spot⟩ := y
    simp at hs
    subst hs
    refine ⟨(List.range len).map f, by simp, .inr ⟨b, off, rfl, hb, fun i hi => ?_⟩⟩
    have := hf i hi
    rw [show (⟨b, off, none⟩ : Addr).add i = ⟨b, off + i, none⟩ by unfold Addr.add; split <;> simp_all] at this
    rw [this]
    simp [List.getD_eq_getElem?_getD, hi]
end
end Go.Proofs.YthkabonnclfhmaaDoor
