
/- NumbersText: the law. -/
import Derived.Test.YtkmggoagboikgaaDoorHxw
import Derived.Test.YtkmggoagboikgaaDoorCoy
import Derived.Test.YtkmggoagboikgaaDoorSlo
import Derived.Deep.Slices
set_option linter.unusedVariables false
namespace Go.Proofs.YtkmggoagboikgaaDoor
open Go.Proofs.YtkmggoagboikgaaDoor.Flo Go.RowKit Go.Proofs.YtkmggoagboikgaaDoor.Pr

def Wf (zs : List Nat) (n : Nat) : Prop := ∀ k, k < n → zs.getD k 0 < 2 ^ 32
section
open Go.ChangeShapes Go.WideShapes Go.Deep
variable {H : Type} {enc : TypeId × Value → H} {P : Program} {w : World} {base : Nat} {spare : Nat → Bool} {held : Bool}
theorem open_frow2 {t e : TypeId} {fuel : Nat} {a : Option Addr} {len cap : Nat} {x : DataW H × List MemPlace} (ht : P.underlying t = some (.slice e)) (he : P.underlying e = some (.float .f32)) (hc : P.cellsOf e = 1)
    (h : DataW.trod enc P w base spare held fuel t [.slice a len cap] = some x) : ∃ zs, FRow w a len zs ∧ Wf zs len := by
  rcases open_slice1 ht hc h with ⟨hcs, _⟩ | ⟨y, l, c, m, n, V, D, Pl, hcs, _, hl, hm, hmm, _, hx⟩
  · simp at hcs
    obtain ⟨rfl, rfl, rfl⟩ := hcs
    exact ⟨[], ⟨rfl, .inl rfl⟩, fun k hk => by omega⟩
  · simp at hcs
    obtain ⟨rfl, rfl, rfl⟩ := hcs
    have hlm : len ≤ m := by rw [hmm]; split <;> omega
    have key : ∀ i, ∃ z : Nat, i < len → w.cell? (y.add i) = some (.float .f32 z) ∧ z < 2 ^ 32 := fun i => by
      by_cases hi : i < len
      · obtain ⟨hcell, htr⟩ := hx i (by omega)
        obtain ⟨z, hz, _, hwf⟩ := trod_float he htr
        exact ⟨z, fun _ => ⟨by rw [hcell]; simp at hz; rw [hz], lt32 hwf⟩⟩
      · exact ⟨0, fun h => absurd h hi⟩
    have key2 : ∃ f : Nat → Nat, ∀ i, i < len → w.cell? (y.add i) = some (.float .f32 (f i)) ∧ f i < 2 ^ 32 := ⟨fun i => (key i).choose, fun i => (key i).choose_spec⟩
    obtain ⟨f, hfw⟩ := key2
    have hf : ∀ i, i < len → w.cell? (y.add i) = some (.float .f32 (f i)) := fun i hi => (hfw i hi).1
    by_cases h0 : len = 0
    · exact ⟨[], ⟨by simp [h0], .inl h0⟩, fun k hk => by omega⟩
    have h00 : w.cell? y = some (.float .f32 (f 0)) := hf 0 (by omega)
    have hs : y.spot = none := by
      unfold World.cell? at h00
      split at h00
      · split at h00
        · cases h00
        · rename_i hn; cases hy : y.spot with
          | none => rfl
          | some s => rw [hy] at hn; simp at hn
      · cases h00
    have hb : y.block < w.heap.size := by
      unfold World.cell? at h00
      split at h00
      · rename_i hh; exact (Array.getElem?_eq_some_iff.1 hh).1
      · cases h00
    obtain ⟨b, off, spot⟩ := y
    simp at hs
    subst hs
    refine ⟨(List.range len).map f, ⟨by simp, .inr ⟨b, off, rfl, hb, fun i hi => ?_⟩⟩, fun k hk => by simpa [List.getD_eq_getElem?_getD, hk] using (hfw k hk).2⟩
    have := hf i hi
    rw [show (⟨b, off, none⟩ : Addr).add i = ⟨b, off + i, none⟩ by unfold Addr.add; split <;> simp_all] at this
    rw [this]
    simp [List.getD_eq_getElem?_getD, hi]
end
def ntB (n : Nat) : Bool := decide (n ≤ 256)
def ntT (zs : List Nat) : ByteArray := txB (ntx zs)
theorem ntSY (a : Option Addr) (n cap : Nat) (zs : List Nat) (w : World) (ha : FRow w a n zs) (hz : WfH zs n) (hok : ntB n = true) : Calls Tryd.prog 5 #[.slice a n cap] w fun e w' => e = .returned (.tuple #[.string (ntT zs), .bool true]) ∧ Below w.heap.size w w' := by
  have := nt_spec a n cap zs w ha hz
  rw [ntA_yes (of_decide_eq_true hok)] at this
  exact this
theorem ntSN (a : Option Addr) (n cap : Nat) (zs : List Nat) (w : World) (ha : FRow w a n zs) (hz : WfH zs n) (hok : ntB n = false) : Calls Tryd.prog 5 #[.slice a n cap] w fun e w' => e = .returned (.tuple #[.string ⟨#[]⟩, .bool false]) ∧ Below w.heap.size w w' := by
  have := nt_spec a n cap zs w ha hz
  rw [ntA_long (of_decide_eq_false hok)] at this
  exact this
theorem ntIY (a : Option Addr) (n cap : Nat) (zs : List Nat) (w0 w : World) (ha : FRow w a n zs) (hz : WfH zs n) (hp : Db w0) (hb : Below w0.heap.size w0 w) (hok : ntB n = true) : Calls Tryd.prog 7 #[.slice a n cap] w fun e w' => e = .returned (.tuple #[.string (ntT zs), .bool true]) ∧ Below w.heap.size w w' := by
  have := nt_impl a n cap zs w0 w ha hz hp hb
  rw [ntA_yes (of_decide_eq_true hok)] at this
  exact this
theorem ntIN (a : Option Addr) (n cap : Nat) (zs : List Nat) (w0 w : World) (ha : FRow w a n zs) (hz : WfH zs n) (hp : Db w0) (hb : Below w0.heap.size w0 w) (hok : ntB n = false) : Calls Tryd.prog 7 #[.slice a n cap] w fun e w' => e = .returned (.tuple #[.string ⟨#[]⟩, .bool false]) ∧ Below w.heap.size w w' := by
  have := nt_impl a n cap zs w0 w ha hz hp hb
  rw [ntA_long (of_decide_eq_false hok)] at this
  exact this
set_option maxRecDepth 100000 in
set_option maxHeartbeats 64000000 in
theorem hxl_yes (a1 : Option Addr) (n1 cap1 : Nat) (z1 : List Nat) (w : World) (hz1 : WfH z1 n1) (hp : Db w) (h1 : FRow w a1 n1 z1) (hm1 : n1 ≤ 1048576) (hok : ntB n1 = true) :
    Calls Tryd.prog 3 #[.slice a1 n1 cap1] w fun e w' => e = .returned (.bool true) ∧ Below w.heap.size w w' := by
  have HZW := Lib.hid hz1
  clear hz1
  have hd1 : decide (1048576 < (n1 : Int)) = false := by simp; omega
  have H1 := Lib.hid h1
  have HS := Lib.hid (Mine.nil w)
  clear h1
  go_enter Tryd.func3, Tryd.ntmps3
  go_wp2_with (first | (go_at_call 6; (first | (with_reducible refine (toM a1 n1 cap1 z1 _ w _ HS.out H1.out hm1).mono ?_) | (with_reducible refine (toM a1 n1 cap1 z1 _ w _ (HS.out.drewN _) H1.out hm1).mono ?_) | (with_reducible refine (toM a1 n1 cap1 z1 _ w _ HS.out.drew H1.out hm1).mono ?_) | (with_reducible refine (toM a1 n1 cap1 z1 _ w _ (HS.out.alloc3 _ _ _ _) H1.out hm1).mono ?_) | (with_reducible refine (toM a1 n1 cap1 z1 _ w _ ((HS.out.alloc3 _ _ _ _).drewN _) H1.out hm1).mono ?_) | (with_reducible refine (toM a1 n1 cap1 z1 _ w _ (HS.out.alloc3 _ _ _ _).drew H1.out hm1).mono ?_)); rintro e w2 ⟨p, rfl, hs⟩; have HS := Lib.hid hs; clear hs; skip) | (go_at_call 5; (first | (refine (HS.out.keep (ntSY _ n1 _ z1 _ ?_ HZW.out hok)).mono ?_) | (refine ((HS.out.drewN _).keep (ntSY _ n1 _ z1 _ ?_ HZW.out hok)).mono ?_) | (refine (HS.out.drew.keep (ntSY _ n1 _ z1 _ ?_ HZW.out hok)).mono ?_) | (refine ((HS.out.alloc3 _ _ _ _).keep (ntSY _ n1 _ z1 _ ?_ HZW.out hok)).mono ?_) | (refine (((HS.out.alloc3 _ _ _ _).drewN _).keep (ntSY _ n1 _ z1 _ ?_ HZW.out hok)).mono ?_) | (refine ((HS.out.alloc3 _ _ _ _).drew.keep (ntSY _ n1 _ z1 _ ?_ HZW.out hok)).mono ?_)); (next => (first | (refine HS.out.frow ?_; simp; done) | (refine (HS.out.drewN _).frow ?_; simp; done) | (refine HS.out.drew.frow ?_; simp; done) | (refine (HS.out.alloc3 _ _ _ _).frow ?_; simp; done) | (refine ((HS.out.alloc3 _ _ _ _).drewN _).frow ?_; simp; done) | (refine (HS.out.alloc3 _ _ _ _).drew.frow ?_; simp; done))); rintro e w2 ⟨⟨rfl, hb⟩, hs⟩; have hs := hs.below hb; clear hb; have HS := Lib.hid hs; clear hs; skip) | (go_at_call 7; (first | (refine (HS.out.keep (ntIY _ n1 _ z1 _ _ ?_ HZW.out hp HS.out.out hok)).mono ?_) | (refine ((HS.out.drewN _).keep (ntIY _ n1 _ z1 _ _ ?_ HZW.out hp (HS.out.drewN _).out hok)).mono ?_) | (refine (HS.out.drew.keep (ntIY _ n1 _ z1 _ _ ?_ HZW.out hp HS.out.drew.out hok)).mono ?_) | (refine ((HS.out.alloc3 _ _ _ _).keep (ntIY _ n1 _ z1 _ _ ?_ HZW.out hp (HS.out.alloc3 _ _ _ _).out hok)).mono ?_) | (refine (((HS.out.alloc3 _ _ _ _).drewN _).keep (ntIY _ n1 _ z1 _ _ ?_ HZW.out hp ((HS.out.alloc3 _ _ _ _).drewN _).out hok)).mono ?_) | (refine ((HS.out.alloc3 _ _ _ _).drew.keep (ntIY _ n1 _ z1 _ _ ?_ HZW.out hp (HS.out.alloc3 _ _ _ _).drew.out hok)).mono ?_)); (next => (first | (refine HS.out.frow ?_; simp; done) | (refine (HS.out.drewN _).frow ?_; simp; done) | (refine HS.out.drew.frow ?_; simp; done) | (refine (HS.out.alloc3 _ _ _ _).frow ?_; simp; done) | (refine ((HS.out.alloc3 _ _ _ _).drewN _).frow ?_; simp; done) | (refine (HS.out.alloc3 _ _ _ _).drew.frow ?_; simp; done))); rintro e w2 ⟨⟨rfl, hb⟩, hs⟩; have hs := hs.below hb; clear hb; have HS := Lib.hid hs; clear hs; skip) | (go_at_call 8; (first | (with_reducible refine (eqM _ _ n1 _ _ z1 _ w _ HS.out ?_ ?_ hm1).mono ?_) | (with_reducible refine (eqM _ _ n1 _ _ z1 _ w _ (HS.out.drewN _) ?_ ?_ hm1).mono ?_) | (with_reducible refine (eqM _ _ n1 _ _ z1 _ w _ HS.out.drew ?_ ?_ hm1).mono ?_) | (with_reducible refine (eqM _ _ n1 _ _ z1 _ w _ (HS.out.alloc3 _ _ _ _) ?_ ?_ hm1).mono ?_) | (with_reducible refine (eqM _ _ n1 _ _ z1 _ w _ ((HS.out.alloc3 _ _ _ _).drewN _) ?_ ?_ hm1).mono ?_) | (with_reducible refine (eqM _ _ n1 _ _ z1 _ w _ (HS.out.alloc3 _ _ _ _).drew ?_ ?_ hm1).mono ?_)); (next => (simp; done)); (next => (simp; done)); rintro e w2 ⟨rfl, hs⟩; have HS := Lib.hid hs; clear hs; skip) | go_in)
  go_ret
  first | exact ⟨rfl, HS.out.out⟩ | exact ⟨rfl, (HS.out.drewN _).out⟩
set_option maxRecDepth 100000 in
set_option maxHeartbeats 64000000 in
theorem hxl_no (a1 : Option Addr) (n1 cap1 : Nat) (z1 : List Nat) (w : World) (hz1 : WfH z1 n1) (hp : Db w) (h1 : FRow w a1 n1 z1) (hm1 : n1 ≤ 1048576) (hok : ntB n1 = false) :
    Calls Tryd.prog 3 #[.slice a1 n1 cap1] w fun e w' => e = .returned (.bool true) ∧ Below w.heap.size w w' := by
  have hd1 : decide (1048576 < (n1 : Int)) = false := by simp; omega
  have H1 := Lib.hid h1
  have HS := Lib.hid (Mine.nil w)
  clear h1
  go_enter Tryd.func3, Tryd.ntmps3
  go_wp2_with (first | (go_at_call 6; (first | (with_reducible refine (toM a1 n1 cap1 z1 _ w _ HS.out H1.out hm1).mono ?_) | (with_reducible refine (toM a1 n1 cap1 z1 _ w _ (HS.out.drewN _) H1.out hm1).mono ?_) | (with_reducible refine (toM a1 n1 cap1 z1 _ w _ HS.out.drew H1.out hm1).mono ?_) | (with_reducible refine (toM a1 n1 cap1 z1 _ w _ (HS.out.alloc3 _ _ _ _) H1.out hm1).mono ?_) | (with_reducible refine (toM a1 n1 cap1 z1 _ w _ ((HS.out.alloc3 _ _ _ _).drewN _) H1.out hm1).mono ?_) | (with_reducible refine (toM a1 n1 cap1 z1 _ w _ (HS.out.alloc3 _ _ _ _).drew H1.out hm1).mono ?_)); rintro e w2 ⟨p, rfl, hs⟩; have HS := Lib.hid hs; clear hs; skip) | (go_at_call 5; (first | (refine (HS.out.keep (ntSN _ n1 _ z1 _ ?_ hz1 hok)).mono ?_) | (refine ((HS.out.drewN _).keep (ntSN _ n1 _ z1 _ ?_ hz1 hok)).mono ?_) | (refine (HS.out.drew.keep (ntSN _ n1 _ z1 _ ?_ hz1 hok)).mono ?_) | (refine ((HS.out.alloc3 _ _ _ _).keep (ntSN _ n1 _ z1 _ ?_ hz1 hok)).mono ?_) | (refine (((HS.out.alloc3 _ _ _ _).drewN _).keep (ntSN _ n1 _ z1 _ ?_ hz1 hok)).mono ?_) | (refine ((HS.out.alloc3 _ _ _ _).drew.keep (ntSN _ n1 _ z1 _ ?_ hz1 hok)).mono ?_)); (next => (first | (refine HS.out.frow ?_; simp; done) | (refine (HS.out.drewN _).frow ?_; simp; done) | (refine HS.out.drew.frow ?_; simp; done) | (refine (HS.out.alloc3 _ _ _ _).frow ?_; simp; done) | (refine ((HS.out.alloc3 _ _ _ _).drewN _).frow ?_; simp; done) | (refine (HS.out.alloc3 _ _ _ _).drew.frow ?_; simp; done))); rintro e w2 ⟨⟨rfl, hb⟩, hs⟩; have hs := hs.below hb; clear hb; have HS := Lib.hid hs; clear hs; skip) | (go_at_call 7; (first | (refine (HS.out.keep (ntIN _ n1 _ z1 _ _ ?_ hz1 hp HS.out.out hok)).mono ?_) | (refine ((HS.out.drewN _).keep (ntIN _ n1 _ z1 _ _ ?_ hz1 hp (HS.out.drewN _).out hok)).mono ?_) | (refine (HS.out.drew.keep (ntIN _ n1 _ z1 _ _ ?_ hz1 hp HS.out.drew.out hok)).mono ?_) | (refine ((HS.out.alloc3 _ _ _ _).keep (ntIN _ n1 _ z1 _ _ ?_ hz1 hp (HS.out.alloc3 _ _ _ _).out hok)).mono ?_) | (refine (((HS.out.alloc3 _ _ _ _).drewN _).keep (ntIN _ n1 _ z1 _ _ ?_ hz1 hp ((HS.out.alloc3 _ _ _ _).drewN _).out hok)).mono ?_) | (refine ((HS.out.alloc3 _ _ _ _).drew.keep (ntIN _ n1 _ z1 _ _ ?_ hz1 hp (HS.out.alloc3 _ _ _ _).drew.out hok)).mono ?_)); (next => (first | (refine HS.out.frow ?_; simp; done) | (refine (HS.out.drewN _).frow ?_; simp; done) | (refine HS.out.drew.frow ?_; simp; done) | (refine (HS.out.alloc3 _ _ _ _).frow ?_; simp; done) | (refine ((HS.out.alloc3 _ _ _ _).drewN _).frow ?_; simp; done) | (refine (HS.out.alloc3 _ _ _ _).drew.frow ?_; simp; done))); rintro e w2 ⟨⟨rfl, hb⟩, hs⟩; have hs := hs.below hb; clear hb; have HS := Lib.hid hs; clear hs; skip) | (go_at_call 8; (first | (with_reducible refine (eqM _ _ n1 _ _ z1 _ w _ HS.out ?_ ?_ hm1).mono ?_) | (with_reducible refine (eqM _ _ n1 _ _ z1 _ w _ (HS.out.drewN _) ?_ ?_ hm1).mono ?_) | (with_reducible refine (eqM _ _ n1 _ _ z1 _ w _ HS.out.drew ?_ ?_ hm1).mono ?_) | (with_reducible refine (eqM _ _ n1 _ _ z1 _ w _ (HS.out.alloc3 _ _ _ _) ?_ ?_ hm1).mono ?_) | (with_reducible refine (eqM _ _ n1 _ _ z1 _ w _ ((HS.out.alloc3 _ _ _ _).drewN _) ?_ ?_ hm1).mono ?_) | (with_reducible refine (eqM _ _ n1 _ _ z1 _ w _ (HS.out.alloc3 _ _ _ _).drew ?_ ?_ hm1).mono ?_)); (next => (simp; done)); (next => (simp; done)); rintro e w2 ⟨rfl, hs⟩; have HS := Lib.hid hs; clear hs; skip) | go_in)
  go_ret
  first | exact ⟨rfl, HS.out.out⟩ | exact ⟨rfl, (HS.out.drewN _).out⟩
set_option maxRecDepth 100000 in
set_option maxHeartbeats 4000000 in
theorem hxl_walk (a1 : Option Addr) (n1 cap1 : Nat) (z1 : List Nat) (w : World) (h1 : FRow w a1 n1 z1) (hz1 : Wf z1 n1) (hT : Lib.TabIs Tryd.prog w "math/bits.deBruijn64tab" .u8 dbZ) :
    Calls Tryd.prog 3 #[.slice a1 n1 cap1] w fun e w' => e = .returned (.bool true) ∧ Below w.heap.size w w' := by
  by_cases hm1 : n1 ≤ 1048576
  · skip
    cases hok : ntB n1 with
    | true => exact hxl_yes a1 n1 cap1 z1 w hz1 (Db.of hT) h1 hm1 hok
    | false => exact hxl_no a1 n1 cap1 z1 w hz1 (Db.of hT) h1 hm1 hok
  · go_enter Tryd.func3, Tryd.ntmps3
    go_wp2
    go_ret
    first | exact ⟨rfl, Below.refl _ _⟩ | exact ⟨rfl, below_alloc _ _⟩
end Go.Proofs.YtkmggoagboikgaaDoor
