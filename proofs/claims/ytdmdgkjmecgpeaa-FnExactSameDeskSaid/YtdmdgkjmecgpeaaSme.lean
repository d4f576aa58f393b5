
/- Equality of rows of numbers and of bits. -/
import Derived.Test.YtdmdgkjmecgpeaaSvw
import Derived.Test.YtdmdgkjmecgpeaaFla
import Derived.Test.YtdmdgkjmecgpeaaSlo
namespace Go.Proofs.Ytdmdgkjmecgpeaa
open Go.Proofs.Ytdmdgkjmecgpeaa.Flo Go.RowKit

def Wf (zs : List Nat) (n : Nat) : Prop := ∀ k, k < n → zs.getD k 0 < 2 ^ 32
def sameAllB (za zb : List Nat) (n m : Nat) : Bool := decide (n = m) && decide (∀ k, k < n → bitsF (za.getD k 0) = bitsF (zb.getD k 0))
theorem same_no {za zb : List Nat} {n m k : Nat} (hk : k < n) (h : ¬ bitsF (za.getD k 0) = bitsF (zb.getD k 0)) : sameAllB za zb n m = false := by
  unfold sameAllB
  rw [decide_eq_false (p := ∀ k, k < n → bitsF (za.getD k 0) = bitsF (zb.getD k 0)) (fun e => h (e k hk))]
  simp
theorem same_yes {za zb : List Nat} {n : Nat} (h : ∀ k, k < n → bitsF (za.getD k 0) = bitsF (zb.getD k 0)) : sameAllB za zb n n = true := by
  unfold sameAllB
  rw [decide_eq_true rfl, decide_eq_true h]; rfl
theorem same_len {za zb : List Nat} {n m : Nat} (h : n ≠ m) : sameAllB za zb n m = false := by
  unfold sameAllB
  rw [decide_eq_false h]; rfl
set_option maxHeartbeats 1000000 in
theorem same1_spec (x y : Nat) (hx : x < 2 ^ 32) (hy : y < 2 ^ 32) (c : Bool) (hc : decide ((bitsF x : Int) = (bitsF y : Int)) = c) (w : World) : Calls Try.prog 156 #[.float .f32 x, .float .f32 y] w fun e w' => e = .returned (.bool c) ∧ w = w' := by
  have hc2 : ((bitsF x : Int) == (bitsF y : Int)) = c := hc
  clear hc
  go_enter Try.func156, Try.ntmps156
  go_wp2_with (first | (go_at_call 185; refine (bits_spec _ (by assumption) _).mono ?_; rintro e w' ⟨rfl, rfl⟩) | go_in)
  go_ret
  exact ⟨rfl, rfl⟩
set_option maxHeartbeats 1000000 in
theorem same1_impl (x y : Nat) (hx : x < 2 ^ 32) (hy : y < 2 ^ 32) (c : Bool) (hc : decide ((bitsF x : Int) = (bitsF y : Int)) = c) (w : World) : Calls Try.prog 79 #[.float .f32 x, .float .f32 y] w fun e w' => e = .returned (.bool c) ∧ w = w' := by
  have hc2 : ((bitsF x : Int) == (bitsF y : Int)) = c := hc
  clear hc
  go_enter Try.func79, Try.ntmps79
  go_wp2_with (first | (go_at_call 134; refine (bits_impl _ (by assumption) _).mono ?_; rintro e w' ⟨rfl, rfl⟩) | go_in)
  go_ret
  exact ⟨rfl, rfl⟩
set_option maxHeartbeats 2000000 in
theorem all_spec (a b : Option Addr) (n m cap capb : Nat) (za zb : List Nat) (w : World) (ha : FRow w a n za) (hb : FRow w b m zb) (wa : Wf za n) (wb : Wf zb m) (hn : n ≤ 1048576) (hm : m ≤ 1048576) :
    Calls Try.prog 75 #[.slice a n cap, .slice b m capb] w fun e w' => e = .returned (.bool (sameAllB za zb n m)) ∧ Drew w w' := by
  have HA := Lib.hid ha
  have HB := Lib.hid hb
  have WA := Lib.hid wa
  have WB := Lib.hid wb
  clear ha hb wa wb
  by_cases hnm : n = m
  · subst hnm
    go_enter Try.func75, Try.ntmps75
    go_wp2
    go_loopw [5] (fun iv w' => ∃ k q : Nat, k ≤ n ∧ iv = .int .i64 k ∧ w' = w.drewN q ∧ Hid (∀ j, j < k → bitsF (za.getD j 0) = bitsF (zb.getD j 0))) (fun iv _ => n - (intOf iv).toNat)
    case atStart => exact ⟨0, 0, by omega, rfl, rfl, Lib.hid (by intro j hj; omega)⟩
    case round =>
      obtain ⟨k, q, hk, rfl, rfl, HL⟩ := hrel
      by_cases hlt : k < n
      · obtain ⟨b1, o1, rfl, hck1⟩ := HA.out.cell hlt
        obtain ⟨b2, o2, rfl, hck2⟩ := HB.out.cell hlt
        have hx := WA.out k hlt
        have hy := WB.out k hlt
        by_cases hc : bitsF (za.getD k 0) = bitsF (zb.getD k 0)
        · have HN : Hid (∀ j, j < k + 1 → bitsF (za.getD j 0) = bitsF (zb.getD j 0)) := Lib.hid (fun j hj => by
            by_cases e : j < k
            · exact HL.out j e
            · obtain rfl : j = k := by omega
              exact hc)
          have HC := Lib.hid (show decide ((bitsF (za.getD k 0) : Int) = (bitsF (zb.getD k 0) : Int)) = true from decide_eq_true (by rw [hc]))
          have HX := Lib.hid hx
          have HY := Lib.hid hy
          clear hc hx hy
          generalize za.getD k 0 = x at hck1 HC HX
          generalize zb.getD k 0 = y at hck2 HC HY
          go_wp2
          go_region_with (go_at_call 156; refine (same1_spec x y HX.out HY.out true HC.out _).mono ?_; rintro e w2 ⟨rfl, rfl⟩)
          all_goals
            go_wp2
            exact ⟨⟨k + 1, _, by omega, by first | rfl | go_num | (congr 1), rfl, HN⟩, by show n - ((k : Int) + 1).toNat < n - (k : Int).toNat; omega⟩
        · have HF := Lib.hid (same_no (m := n) hlt hc)
          have HC := Lib.hid (show decide ((bitsF (za.getD k 0) : Int) = (bitsF (zb.getD k 0) : Int)) = false from decide_eq_false (fun e => hc (Int.ofNat.inj e)))
          have HX := Lib.hid hx
          have HY := Lib.hid hy
          clear hc hx hy
          generalize za.getD k 0 = x at hck1 HC HX
          generalize zb.getD k 0 = y at hck2 HC HY
          go_wp2
          go_region_with (go_at_call 156; refine (same1_spec x y HX.out HY.out false HC.out _).mono ?_; rintro e w2 ⟨rfl, rfl⟩)
          all_goals
            go_wp2
            go_ret
            exact ⟨ret_bool2 HF.out.symm, Drew.mk _ _⟩
      · obtain rfl : k = n := by omega
        have HF := Lib.hid (same_yes HL.out)
        go_wp2
        go_ret
        exact ⟨ret_bool2 HF.out.symm, Drew.mk _ _⟩
  · have HF := Lib.hid (same_len (za := za) (zb := zb) hnm)
    have hd : ((n : Int) == (m : Int)) = false := by simp; omega
    have hd2 : ((n : Int) != (m : Int)) = true := by simp; omega
    clear hnm
    go_enter Try.func75, Try.ntmps75
    go_wp2
    go_ret
    exact ⟨ret_bool2 HF.out.symm, Drew.mk _ 0⟩
set_option maxHeartbeats 2000000 in
theorem all_impl (a b : Option Addr) (n m cap capb : Nat) (za zb : List Nat) (w : World) (ha : FRow w a n za) (hb : FRow w b m zb) (wa : Wf za n) (wb : Wf zb m) (hn : n ≤ 1048576) (hm : m ≤ 1048576) :
    Calls Try.prog 78 #[.slice a n cap, .slice b m capb, .func (.func 79) #[] #[]] w fun e w' => e = .returned (.bool (sameAllB za zb n m)) ∧ Drew w w' := by
  have HA := Lib.hid ha
  have HB := Lib.hid hb
  have WA := Lib.hid wa
  have WB := Lib.hid wb
  clear ha hb wa wb
  by_cases hnm : n = m
  · subst hnm
    go_enter Try.func78, Try.ntmps78
    go_wp2
    go_loopw [17] (fun iv w' => ∃ k q : Nat, k ≤ n ∧ iv = .int .i64 k ∧ w' = w.drewN q ∧ Hid (∀ j, j < k → bitsF (za.getD j 0) = bitsF (zb.getD j 0))) (fun iv _ => n - (intOf iv).toNat)
    case atStart => exact ⟨0, 0, by omega, rfl, rfl, Lib.hid (by intro j hj; omega)⟩
    case round =>
      obtain ⟨k, q, hk, rfl, rfl, HL⟩ := hrel
      by_cases hlt : k < n
      · obtain ⟨b1, o1, rfl, hck1⟩ := HA.out.cell hlt
        obtain ⟨b2, o2, rfl, hck2⟩ := HB.out.cell hlt
        have hx := WA.out k hlt
        have hy := WB.out k hlt
        by_cases hc : bitsF (za.getD k 0) = bitsF (zb.getD k 0)
        · have HN : Hid (∀ j, j < k + 1 → bitsF (za.getD j 0) = bitsF (zb.getD j 0)) := Lib.hid (fun j hj => by
            by_cases e : j < k
            · exact HL.out j e
            · obtain rfl : j = k := by omega
              exact hc)
          have HC := Lib.hid (show decide ((bitsF (za.getD k 0) : Int) = (bitsF (zb.getD k 0) : Int)) = true from decide_eq_true (by rw [hc]))
          have HX := Lib.hid hx
          have HY := Lib.hid hy
          clear hc hx hy
          generalize za.getD k 0 = x at hck1 HC HX
          generalize zb.getD k 0 = y at hck2 HC HY
          go_wp2_with (first | (go_at_call 79; refine (same1_impl x y HX.out HY.out true HC.out _).mono ?_; rintro e w2 ⟨rfl, rfl⟩) | go_in)
          all_goals
            exact ⟨⟨k + 1, _, by omega, by first | rfl | go_num | (congr 1), rfl, HN⟩, by show n - ((k : Int) + 1).toNat < n - (k : Int).toNat; omega⟩
        · have HF := Lib.hid (same_no (m := n) hlt hc)
          have HC := Lib.hid (show decide ((bitsF (za.getD k 0) : Int) = (bitsF (zb.getD k 0) : Int)) = false from decide_eq_false (fun e => hc (Int.ofNat.inj e)))
          have HX := Lib.hid hx
          have HY := Lib.hid hy
          clear hc hx hy
          generalize za.getD k 0 = x at hck1 HC HX
          generalize zb.getD k 0 = y at hck2 HC HY
          go_wp2_with (first | (go_at_call 79; refine (same1_impl x y HX.out HY.out false HC.out _).mono ?_; rintro e w2 ⟨rfl, rfl⟩) | go_in)
          all_goals
            go_ret
            exact ⟨ret_bool2 HF.out.symm, Drew.mk _ _⟩
      · obtain rfl : k = n := by omega
        have HF := Lib.hid (same_yes HL.out)
        go_wp2
        go_ret
        exact ⟨ret_bool2 HF.out.symm, Drew.mk _ _⟩
  · have HF := Lib.hid (same_len (za := za) (zb := zb) hnm)
    have hd : ((n : Int) == (m : Int)) = false := by simp; omega
    have hd2 : ((n : Int) != (m : Int)) = true := by simp; omega
    clear hnm
    go_enter Try.func78, Try.ntmps78
    go_wp2
    go_ret
    exact ⟨ret_bool2 HF.out.symm, Drew.mk _ 0⟩
def eqBB (f g : Nat → Bool) (n m : Nat) : Bool := decide (n = m) && decide (∀ k, k < n → f k = g k)
theorem eqBB_no {f g : Nat → Bool} {n m k : Nat} (hk : k < n) (h : ¬ f k = g k) : eqBB f g n m = false := by
  unfold eqBB; rw [decide_eq_false (p := ∀ k, k < n → f k = g k) (fun e => h (e k hk))]; simp
theorem eqBB_len {f g : Nat → Bool} {n m : Nat} (h : ¬ n = m) : eqBB f g n m = false := by unfold eqBB; rw [decide_eq_false h]; rfl
theorem eqBB_end {f g : Nat → Bool} {n : Nat} (h : ∀ k, k < n → f k = g k) : eqBB f g n n = true := by unfold eqBB; rw [decide_eq_true rfl, decide_eq_true h]; rfl
section
open Go.ChangeShapes Go.WideShapes Go.Deep
variable {H : Type} {enc : TypeId × Value → H} {P : Program} {w : World} {base : Nat} {spare : Nat → Bool} {held : Bool}
theorem open_frow2 {t e : TypeId} {fuel : Nat} {a : Option Addr} {len cap : Nat} {x : DataW H × List MemPlace} (ht : P.underlying t = some (.slice e)) (he : P.underlying e = some (.float .f32)) (hc : P.cellsOf e = 1)
    (h : DataW.trod enc P w base spare held fuel t [.slice a len cap] = some x) : ∃ zs, FRow w a len zs ∧ Wf zs len := by
  rcases open_slice1 ht hc h with ⟨hcs, _⟩ | ⟨y, l, c, m, n, V, D, Pl, hcs, _, hl, hm, hmm, _, hx⟩
  · simp at hcs
    obtain ⟨rfl, rfl, rfl⟩ := hcs
    exact ⟨[], ⟨rfl, .inl rfl⟩, fun k hk => by omega⟩
  · simp at hcs
    obtain ⟨rfl, rfl, rfl⟩ := hcs
    have hlm : len ≤ m := by rw [hmm]; split <;> omega
    have key : ∀ i, ∃ z : Nat, i < len → w.cell? (y.add i) = some (.float .f32 z) ∧ z < 2 ^ 32 := fun i => by
      by_cases hi : i < len
      · obtain ⟨hcell, htr⟩ := hx i (by omega)
        obtain ⟨z, hz, _, hwf⟩ := trod_float he htr
        exact ⟨z, fun _ => ⟨by rw [hcell]; simp at hz; rw [hz], lt32 hwf⟩⟩
      · exact ⟨0, fun h => absurd h hi⟩
    have key2 : ∃ f : Nat → Nat, ∀ i, i < len → w.cell? (y.add i) = some (.float .f32 (f i)) ∧ f i < 2 ^ 32 := ⟨fun i => (key i).choose, fun i => (key i).choose_spec⟩
    obtain ⟨f, hfw⟩ := key2
    have hf : ∀ i, i < len → w.cell? (y.add i) = some (.float .f32 (f i)) := fun i hi => (hfw i hi).1
    by_cases h0 : len = 0
    · exact ⟨[], ⟨by simp [h0], .inl h0⟩, fun k hk => by omega⟩
    have h00 : w.cell? y = some (.float .f32 (f 0)) := hf 0 (by omega)
    have hs : y.spot = none := by
      unfold World.cell? at h00
      split at h00
      · split at h00
        · cases h00
        · rename_i hn; cases hy : y.spot with
          | none => rfl
          | some s => rw [hy] at hn; simp at hn
      · cases h00
    have hb : y.block < w.heap.size := by
      unfold World.cell? at h00
      split at h00
      · rename_i hh; exact (Array.getElem?_eq_some_iff.1 hh).1
      · cases h00
    obtain ⟨b, off, spot⟩ := y
    simp at hs
    subst hs
    refine ⟨(List.range len).map f, ⟨by simp, .inr ⟨b, off, rfl, hb, fun i hi => ?_⟩⟩, fun k hk => by simpa [List.getD_eq_getElem?_getD, hk] using (hfw k hk).2⟩
    have := hf i hi
    rw [show (⟨b, off, none⟩ : Addr).add i = ⟨b, off + i, none⟩ by unfold Addr.add; split <;> simp_all] at this
    rw [this]
    simp [List.getD_eq_getElem?_getD, hi]
end
end Go.Proofs.Ytdmdgkjmecgpeaa
