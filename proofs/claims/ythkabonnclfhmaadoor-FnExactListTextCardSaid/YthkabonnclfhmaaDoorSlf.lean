
/- Slices of 32-bit numbers: the laws' own helpers. -/
import Derived.Test.YthkabonnclfhmaaDoorFlw
import Derived.Deep.OwnRows
import Derived.Lib.Hide
import Derived.Deep.RegionWith
namespace Go.Proofs.YthkabonnclfhmaaDoor
open Go.Proofs.YthkabonnclfhmaaDoor.Flo Go.RowKit

/-- A slice value of n numbers: the cells that it leads to hold them. -/
def FRow (w : World) (a : Option Addr) (n : Nat) (zs : List Nat) : Prop :=
  zs.length = n ∧ (n = 0 ∨ ∃ b off, a = some ⟨b, off, none⟩ ∧ b < w.heap.size ∧ ∀ i, i < n → w.cell? ⟨b, off + i, none⟩ = some (.float .f32 (zs.getD i 0)))
/-- The numbers as cells. -/
def fl (zs : List Nat) : Array Value := (zs.map (Value.float .f32)).toArray
/-- The cells of a copy, of which k are done. -/
def mix (zs : List Nat) (k n : Nat) : Array Value := ((zs.map (Value.float .f32)).take k ++ List.replicate (n - k) (Value.float .f32 0)).toArray
theorem made_eq (n : Nat) : madeCells #[Value.float .f32 0] n = Array.replicate n (Value.float .f32 0) := by
  apply Array.ext
  · simp [madeCells]
  · intro i h1 h2
    simp [madeCells, Nat.mod_one]
theorem mix_zero (zs : List Nat) (n : Nat) : mix zs 0 n = madeCells #[Value.float .f32 0] n := by
  rw [made_eq]
  unfold mix
  simp
theorem mix_all (zs : List Nat) (n : Nat) (h : zs.length = n) : mix zs n n = fl zs := by
  unfold mix fl
  rw [List.take_of_length_le (by simp; omega)]; simp
theorem mix_set (zs : List Nat) (k n : Nat) (hk : k < n) (h : zs.length = n) : (mix zs k n).setIfInBounds k (.float .f32 (zs.getD k 0)) = mix zs (k + 1) n := by
  unfold mix
  apply Array.ext'
  have hz : zs.getD k 0 = zs[k]'(by omega) := by rw [List.getD_eq_getElem?_getD, List.getElem?_eq_getElem (by omega)]; rfl
  have hn : n - k = (n - (k + 1)) + 1 := by omega
  simp only [Array.toList_setIfInBounds]
  rw [hz, hn, List.replicate_succ, List.set_append_right _ _ (by simp; omega)]
  have hl : k - ((zs.map (Value.float .f32)).take k).length = 0 := by simp; omega
  rw [hl, List.set_cons_zero, List.take_succ_eq_append_getElem (by simp; omega)]
  simp
theorem mix_size (zs : List Nat) (k n : Nat) (hk : k ≤ n) (h : zs.length = n) : (mix zs k n).size = n := by
  unfold mix; simp; omega
/-- Where a slice's cells are, in a world with a block more. -/
theorem FRow.alloc {w : World} {a : Option Addr} {n : Nat} {zs : List Nat} (h : FRow w a n zs) (o : Obj) : FRow (w.alloc o) a n zs := by
  obtain ⟨hl, h⟩ := h
  refine ⟨hl, ?_⟩
  rcases h with h | ⟨b, off, ha, hb, hc⟩
  · exact .inl h
  · refine .inr ⟨b, off, ha, by simp; omega, fun i hi => ?_⟩
    rw [World.cell?_alloc_past _ _ _ hb]; exact hc i hi
theorem FRow.new {w : World} {zs : List Nat} {n : Nat} (h : zs.length = n) (e : TypeId) : FRow (w.alloc (.cells (fl zs) e)) (some ⟨w.heap.size, 0, none⟩) n zs := by
  refine ⟨h, .inr ⟨w.heap.size, 0, rfl, by simp, fun i hi => ?_⟩⟩
  rw [World.cell?_alloc_at _ _ _ _ rfl]
  unfold fl
  have hz : zs.getD i 0 = zs[i]'(by omega) := by rw [List.getD_eq_getElem?_getD, List.getElem?_eq_getElem (by omega)]; rfl
  rw [hz]
  simp
theorem FRow.drewN {w : World} {a : Option Addr} {n : Nat} {zs : List Nat} (h : FRow w a n zs) (q : Nat) : FRow (w.drewN q) a n zs := h

theorem Tryd.info32 : (Tryd.prog.info? 83).map (fun i => (i.zero, i.size, i.bytes)) = some (some (.float .f32 0), 1, 4) := by kernel_rfl

set_option maxHeartbeats 1000000 in
theorem toF (a : Option Addr) (n cap : Nat) (zs : List Nat) (w : World) (h : FRow w a n zs) (hn : n ≤ 1048576) :
    Calls Tryd.prog 28 #[.slice a n cap] w fun e w' => e = .returned (.slice (some ⟨w.heap.size, 0, none⟩) n n) ∧ w.alloc (.cells (fl zs) 83) = w' := by
  have hmk := fun w2 : World => run_make_row' (P := Tryd.prog) 36 83 (.float .f32 0) 4 Tryd.underlying36 Tryd.info32 rfl .i64 .i64 n (by omega) (by omega) w2
  obtain ⟨hlen, h⟩ := h
  rw [← mix_all zs n hlen]
  have Hlen := Lib.hid hlen
  have H := Lib.hid h
  clear hlen h
  go_enter Tryd.func28, Tryd.ntmps28
  go_wp2
  go_loopw [4] (fun iv w' => ∃ k : Nat, k ≤ n ∧ iv = .int .i64 k ∧ w' = w.alloc (.cells (mix zs k n) 83)) (fun iv _ => n - (intOf iv).toNat)
  case atStart => exact ⟨0, by omega, rfl, by rw [mix_zero]⟩
  case round =>
    obtain ⟨k, hk, rfl, rfl⟩ := hrel
    clear hmk
    by_cases hlt : k < n
    · rcases H.out with h0 | ⟨b, off, rfl, hb, hc⟩
      · omega
      · have hck := hc k hlt
        have hset := mix_set zs k n hlt Hlen.out
        have hsz := mix_size zs k n hk Hlen.out
        have hck2 : (w.alloc (.cells (mix zs k n) 83)).cell? ⟨b, off + k, none⟩ = some (.float .f32 (zs.getD k 0)) := by
          rw [World.cell?_alloc_past _ _ _ hb]; exact hck
        have hold : (mix zs k n)[k]? = some ((mix zs k n)[k]'(by omega)) := Array.getElem?_eq_getElem _
        have hold2 : k < (mix zs k n).size := by omega
        have hst : ∀ (a : Addr) (m : Mode) (x : Nat) (w : World), (store a (.float .f32 x) m).run Tryd.prog w = stored Tryd.prog w a (.float .f32 x) m := fun a m x w => run_store Tryd.prog w a (.float .f32 x) m rfl
        clear hc hck
        go_wp2
        rw [List.getD_eq_getElem?_getD] at hset
        exact ⟨⟨k + 1, by omega, by first | rfl | go_num | (congr 1), by rw [hset]⟩, by show n - ((k : Int) + 1).toNat < n - (k : Int).toNat; omega⟩
    · obtain rfl : k = n := by omega
      go_wp2
      go_ret
      exact ⟨rfl, rfl⟩
set_option maxHeartbeats 1000000 in
theorem eqF (a b : Option Addr) (n cap capb : Nat) (zs : List Nat) (w : World) (ha : FRow w a n zs) (hb : FRow w b n zs) (hn : n ≤ 1048576) :
    Calls Tryd.prog 30 #[.slice a n cap, .slice b n capb] w fun e w' => e = .returned (.bool true) ∧ Drew w w' := by
  have HA := Lib.hid ha
  have HB := Lib.hid hb
  clear ha hb
  go_enter Tryd.func30, Tryd.ntmps30
  go_wp2
  go_loopw [5] (fun iv w' => ∃ k q : Nat, k ≤ n ∧ iv = .int .i64 k ∧ w' = w.drewN q) (fun iv _ => n - (intOf iv).toNat)
  case atStart => exact ⟨0, 0, by omega, rfl, rfl⟩
  case round =>
    obtain ⟨k, q, hk, rfl, rfl⟩ := hrel
    by_cases hlt : k < n
    · rcases HA.out.2 with h0 | ⟨b1, o1, rfl, _, hc1⟩
      · omega
      rcases HB.out.2 with h0 | ⟨b2, o2, rfl, _, hc2⟩
      · omega
      have hck1 : w.cell? ⟨b1, o1 + k, none⟩ = some (.float .f32 (zs.getD k 0)) := hc1 k hlt
      have hck2 : w.cell? ⟨b2, o2 + k, none⟩ = some (.float .f32 (zs.getD k 0)) := hc2 k hlt
      generalize zs.getD k 0 = x at hck1 hck2
      have h := fun w2 : World => fun w3 : World => (cres_wide x w2).trans (cres_wide x w3).symm
      clear hc1 hc2 HA HB
      go_wp2
      go_region_with (go_at_call 75; refine (sameFloat_true _ _ (h ..) _).mono ?_; rintro e w2 ⟨rfl, n2, rfl⟩)
      all_goals
        go_wp2
        exact ⟨⟨k + 1, _, by omega, by first | rfl | go_num | (congr 1), rfl⟩, by show n - ((k : Int) + 1).toNat < n - (k : Int).toNat; omega⟩
    · obtain rfl : k = n := by omega
      go_wp2
      go_ret
      exact ⟨rfl, Drew.mk _ _⟩
end Go.Proofs.YthkabonnclfhmaaDoor
