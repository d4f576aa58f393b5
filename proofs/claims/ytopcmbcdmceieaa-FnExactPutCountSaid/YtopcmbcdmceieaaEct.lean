/- EvenCounts: the functions. -/
import Derived.Test.YtopcmbcdmceieaaItw
import Derived.Test.YtopcmbcdmceieaaTwo
import Derived.Test.YtopcmbcdmceieaaRpi
namespace Go.Proofs.Ytopcmbcdmceieaa
open Go.Proofs.Ytopcmbcdmceieaa.Flo Go.RowKit

def onL (k : Nat) : List Int := List.replicate k 1
theorem onL_on (k : Nat) : (onL (k + 1)).map (Value.int .i64) = (onL k).map (Value.int .i64) ++ [.int .i64 1] := by
  unfold onL; rw [List.replicate_succ']; simp
/-- What is returned in a struct of two cells. -/
def KPost (r : Int) (n : Nat) (L : List Int) (w : World) (e : Ending) (w' : World) : Prop :=
  ∃ g cp, e = .returned (.tuple #[.agg #[.int .i64 r, .slice (some ⟨g, 0, none⟩) n cp], .bool true]) ∧ New w w' g (.il n L)
def KNone (w : World) (e : Ending) (w' : World) : Prop :=
  e = .returned (.tuple #[.agg #[.int .i64 0, .slice none 0 0], .bool false]) ∧ Below w.heap.size w w'
set_option maxRecDepth 100000 in
set_option maxHeartbeats 4000000 in
theorem ev5_spec (N : Nat) (w : World) (h1 : 2 ≤ N) (h2 : N ≤ 16) :
    Calls Try.prog 67 #[.int .i64 (N : Int)] w fun e w' => ∃ g cp, e = .returned (.agg #[.int .i64 (N : Int), .slice (some ⟨g, 0, none⟩) N cp]) ∧ New w w' g (.il N (onL N)) := by
  obtain ⟨i0, hi, hz0, hz1, hz2⟩ := info_parts Try.info64
  go_enter Try.func67, Try.ntmps67
  go_wp2
  go_loopw [4] (fun iv w' => ∃ (k : Nat) (v : Value) (wr : World), k ≤ N ∧ iv = .int .i64 k ∧ wr = w' ∧ Hid (Kin wr w.heap.size (.int .i64 0) (.slice none 0 0)) ∧ Hid (Kin wr (w.heap.size + 1) (.int .i64 (N : Int)) v) ∧ Hid (wr.ownsRow (w.heap.size + 2) 2 1 v k ((onL k).map (Value.int .i64))) ∧ Hid (Below w.heap.size w wr)) (fun iv _ => N - (intOf iv).toNat)
  case atStart => exact ⟨0, .slice none 0 0, _, by omega, rfl, rfl, Lib.hid (Kin.below (Kin.new (T := 30)) (by repeat (first | exact Below.refl _ _ | refine Below.drew ?_ | refine Below.drewN' ?_ _ | refine Below.setCell ?_ (by first | (simp; done) | (simp; omega)) _ | refine Below.alloc ?_ (by first | (simp; done) | (simp; omega)) _))), Lib.hid (by first | exact Kin.new' (by simp) | exact Kin.put2 (Kin.new' (by simp)) _ _ | exact Kin.set0 (Kin.new' (by simp)) _), Lib.hid (World.ownsRow_nil _ _ _ _), Lib.hid (by repeat (first | exact Below.refl _ _ | refine Below.drew ?_ | refine Below.drewN' ?_ _ | refine Below.setCell ?_ (by first | (simp; done) | (simp; omega)) _ | refine Below.alloc ?_ (by first | (simp; done) | (simp; omega)) _))⟩
  case round =>
    obtain ⟨k, v, wr, hk, rfl, rfl, HT0, HT1, HO, HW⟩ := hrel
    by_cases hlt : k < N
    · obtain ⟨hP, hp0, hp1, hf0, hf1⟩ := HT1.out
      have HO1 := Lib.hid HO.out
      have HNE := Lib.hid (own_block HO.out)
      have hsz := HW.out.size
      have hn3 : some (w.heap.size + 1) ≠ v.ownBlock := fun e => by have := own_block HO.out _ e.symm; omega
      have hn4 : some w.heap.size ≠ v.ownBlock := fun e => by have := own_block HO.out _ e.symm; omega
      have HL := Lib.hid (onL_on k)
      clear HO
      go_wp2_with (first | (at_builtin; refine wpList_append_lies _ rfl _ _ 22 rfl (w.heap.size + 2) 2 i0 (.int .i64 0) 1 8 Try.underlying22 hi hz0 hz1 hz2 rfl (by omega) v k ((onL k).map (Value.int .i64)) rfl (World.ownsRow.alloc HO1.out _) ⟨wr.heap.size, 0, none⟩ 1 1 [.int .i64 1] rfl rfl (World.news_of_block (cs := #[.int .i64 1]) (t := 2) (fr := (0, 0)) (heap_alloc_new _ _)) (by simp [Value.oneCell']) (by omega) (by unfold maxLen; omega) (by omega) (by simp; omega) (wr.heap.size + 1) (by simp) ?_; intro gg cp w1 hown1 hgrow hat hlt3; have HT1' : Hid (Kin w1 (w.heap.size + 1) (.int .i64 (N : Int)) v) := Lib.hid (Kin.grown hgrow hn3 (HT1.out.below (below_alloc _ _))); have HT0' : Hid (Kin w1 w.heap.size (.int .i64 0) (.slice none 0 0)) := Lib.hid (Kin.grown hgrow hn4 (HT0.out.below (below_alloc _ _))); obtain ⟨hP', hp0', hp1', hf0', hf1'⟩ := HT1'.out; have HO2 := Lib.hid hown1; have HG2 := Lib.hid hgrow; clear hown1 hgrow hat hlt3) | go_in)
      exact ⟨⟨k + 1, .slice (some ⟨gg, 0, none⟩) (k + 1) cp, _, by omega, by first | rfl | go_num | (congr 1), rfl, Lib.hid (HT0'.out.far (by simp) _), Lib.hid (HT1'.out.set _), Lib.hid (own_far (by rw [HL.out]; exact HO2.out) _ _ (by simp)), Lib.hid (Below.setCell (Below.grown (Below.alloc HW.out HW.out.size _) HG2.out (by simp; omega) (fun j hj => Nat.le_trans (by omega) (HNE.out j hj))) (by simp) _)⟩, by show N - ((k : Int) + 1).toNat < N - (k : Int).toNat; omega⟩
    · obtain rfl : k = N := by omega
      obtain ⟨g, cp, rfl, hg, hgl⟩ := World.ownsRow.form HO.out (by omega)
      obtain ⟨hP, hp0, hp1, hf0, hf1⟩ := HT1.out
      obtain ⟨hQ, hq0, hq1, hqf0, hqf1⟩ := HT0.out
      have HR := Lib.hid (HT0.out.res (.int .i64 (k : Int)) (.slice (some ⟨g, 0, none⟩) k cp))
      obtain ⟨hic, hgb⟩ := ICl.own HO.out (by omega)
      have HIC := Lib.hid hic
      clear hic
      go_wp2
      obtain ⟨_, hr1, hr2⟩ := HR.out
      exact bodyPost_ret (v := .agg #[.int .i64 (k : Int), .slice (some ⟨g, 0, none⟩) k cp]) (by simp [results, Try.results67, go_sem, hr1, hr2]) rfl
        ⟨g, cp, rfl, ICl.new ((HIC.out.far (by simp; omega) _).far (by simp; omega) _) (by omega) (Below.setCell (Below.setCell HW.out (by simp) _) (by simp) _)⟩
set_option maxRecDepth 100000 in
set_option maxHeartbeats 4000000 in
theorem ecS (x : Int) (w : World) (hok : decide (2 ≤ x ∧ x ≤ 16) = true) : Calls Try.prog 26 #[.int .i64 x] w (KPost x x.toNat (onL x.toNat) w) := by
  have hx := of_decide_eq_true hok
  obtain ⟨N, rfl⟩ : ∃ N : Nat, x = (N : Int) := ⟨x.toNat, by omega⟩
  have HX := Lib.hid hx
  have HR0 := Lib.hid (Kin.new (w := w) (x := .int .i64 0) (y := .slice none 0 0) (T := 30))
  have hN1 : 2 ≤ N := by omega
  have hN2 : N ≤ 16 := by omega
  clear hok hx
  go_enter Try.func26, Try.ntmps26
  go_wp2_with (first | (go_at_call 66; refine (l5_true _ _ HX.out).mono ?_; rintro e w' ⟨rfl, rfl⟩) | (go_at_call 67; refine (ev5_spec N _ hN1 hN2).mono ?_; rintro e w2 ⟨g, cp, rfl, hn⟩; have HN := Lib.hid hn; have HR1 := Lib.hid (HR0.out.below hn.2.2.2); obtain ⟨hQ, hq0, hq1, hqf0, hqf1⟩ := HR1.out; have HR := Lib.hid (HR1.out.res (.int .i64 (N : Int)) (.slice (some ⟨g, 0, none⟩) N cp)); clear hn) | go_in)
  obtain ⟨_, hr1, hr2⟩ := HR.out
  have hgs : w.heap.size + 1 ≤ g := by have := HN.out.1; simpa using this
  exact bodyPost_ret (v := .tuple #[.agg #[.int .i64 (N : Int), .slice (some ⟨g, 0, none⟩) N cp], .bool true]) (by simp [results, Try.results26, go_sem, hr1, hr2]) rfl
    ⟨g, cp, rfl, ICl.new (((ICl.of HN.out).far (by simp; omega) _).far (by simp; omega) _) (by omega) (Below.setCell (Below.setCell (Below.next (below_alloc _ _) HN.out.2.2.2) (by simp) _) (by simp) _)⟩
set_option maxRecDepth 100000 in
set_option maxHeartbeats 4000000 in
theorem ecS' (x : Int) (w : World) (hok : decide (2 ≤ x ∧ x ≤ 16) = false) : Calls Try.prog 26 #[.int .i64 x] w (KNone w) := by
  have HX := Lib.hid (of_decide_eq_false hok)
  clear hok
  go_enter Try.func26, Try.ntmps26
  go_wp2_with (first | (go_at_call 66; refine (l5_false _ _ HX.out).mono ?_; rintro e w' ⟨rfl, hw⟩; have hw := hw.symm; subst hw) | go_in)
  exact bodyPost_ret (v := .tuple #[.agg #[.int .i64 0, .slice none 0 0], .bool false]) (by simp [results, Try.results26, go_sem]) rfl
    ⟨rfl, below_alloc _ _⟩
set_option maxRecDepth 100000 in
set_option maxHeartbeats 4000000 in
theorem ecI (x : Int) (w : World) (hok : decide (2 ≤ x ∧ x ≤ 16) = true) : Calls Try.prog 27 #[.int .i64 x] w (KPost x x.toNat (onL x.toNat) w) := by
  have hx := of_decide_eq_true hok
  obtain ⟨N, rfl⟩ : ∃ N : Nat, x = (N : Int) := ⟨x.toNat, by omega⟩
  have HX := Lib.hid hx
  have HR0 := Lib.hid ((Kin.new (w := w) (x := .int .i64 0) (y := .slice none 0 0) (T := 30)).below (below_alloc _ (.cells #[.int .i64 1] 2)))
  have hN1 : 1 ≤ N := by omega
  have hN2 : N ≤ 32 := by omega
  have hp : ((w.alloc (.cells #[.int .i64 0, .slice none 0 0] 30)).alloc (.cells #[.int .i64 1] 2)).cell? ⟨w.heap.size + 1, 0, none⟩ = some (.int .i64 1) := by rw [World.cell?_alloc_at _ _ _ _ (by simp)]; rfl
  have HP := Lib.hid hp
  clear hok hx hp
  go_enter Try.func27, Try.ntmps27
  go_wp2_with (first | (go_at_call 57; refine (as_true _ _ HX.out).mono ?_; rintro e w' ⟨rfl, rfl⟩) | (go_at_call 68; refine (repeat_implI (w.heap.size + 1) N _ HP.out hN1 hN2).mono ?_; rintro e w2 ⟨g, rfl, hn⟩; have HN := Lib.hid hn; have HR1 := Lib.hid (HR0.out.below hn.2.2.2); obtain ⟨hQ, hq0, hq1, hqf0, hqf1⟩ := HR1.out; have HR := Lib.hid (HR1.out.res (.int .i64 (N : Int)) (.slice (some ⟨g, 0, none⟩) N N)); clear hn) | go_in)
  obtain ⟨_, hr1, hr2⟩ := HR.out
  have hgs : w.heap.size + 1 + 1 ≤ g := by have := HN.out.1; simpa using this
  exact bodyPost_ret (v := .tuple #[.agg #[.int .i64 (N : Int), .slice (some ⟨g, 0, none⟩) N N], .bool true]) (by simp [results, Try.results27, go_sem, hr1, hr2]) rfl
    ⟨g, N, rfl, ICl.new (((ICl.of HN.out).far (by simp; omega) _).far (by simp; omega) _) (by omega) (Below.setCell (Below.setCell (Below.next (Below.alloc (below_alloc _ _) (by simp) _) HN.out.2.2.2) (by simp) _) (by simp) _)⟩
set_option maxRecDepth 100000 in
set_option maxHeartbeats 4000000 in
theorem ecI' (x : Int) (w : World) (hok : decide (2 ≤ x ∧ x ≤ 16) = false) : Calls Try.prog 27 #[.int .i64 x] w (KNone w) := by
  have HX := Lib.hid (of_decide_eq_false hok)
  clear hok
  go_enter Try.func27, Try.ntmps27
  go_wp2_with (first | (go_at_call 57; refine (as_false _ _ HX.out).mono ?_; rintro e w' ⟨rfl, hw⟩; have hw := hw.symm; subst hw) | go_in)
  exact bodyPost_ret (v := .tuple #[.agg #[.int .i64 0, .slice none 0 0], .bool false]) (by simp [results, Try.results27, go_sem]) rfl
    ⟨rfl, below_alloc _ _⟩
end Go.Proofs.Ytopcmbcdmceieaa
