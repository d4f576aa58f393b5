
/- ReadParity: the functions. -/
import Derived.Test.YthkabonnclfhmaaDoorRdc
import Derived.Test.YthkabonnclfhmaaDoorPig
import Derived.Test.YthkabonnclfhmaaDoorCpt
namespace Go.Proofs.YthkabonnclfhmaaDoor
open Go.Proofs.YthkabonnclfhmaaDoor.Flo Go.RowKit Go.Proofs.YthkabonnclfhmaaDoor.Dcn Go.Proofs.YthkabonnclfhmaaDoor.Pr

/-- Are these the wide of a parity and the text of its rows? -/
def rpA (A B : ByteArray) : Bool := match rdO A.data.toList with
  | some v => rlOk B && paB v (rlV B) (rlN B)
  | none => false
def rpR1 (A : ByteArray) : Int := (rdO A.data.toList).getD 0
theorem rpA_none {A : ByteArray} (h : rdO A.data.toList = none) (B : ByteArray) : rpA A B = false := by unfold rpA; rw [h]
theorem rpA_l {B : ByteArray} (h : rlOk B = false) (A : ByteArray) : rpA A B = false := by unfold rpA; split <;> simp [h]
theorem rpA_eq {A B : ByteArray} {v : Int} (h : rdO A.data.toList = some v) (h2 : rlOk B = true) : rpA A B = paB v (rlV B) (rlN B) := by unfold rpA; rw [h]; simp [h2]
theorem rpA_mark {b : List UInt8} (h : (59 : UInt8) ∈ b) (A : ByteArray) : rpA A (txB b) = false := by
  refine rpA_l ?_ A
  unfold rlOk
  have h1 : isNone (txB b) = false := by
    cases e : isNone (txB b)
    · rfl
    · unfold isNone at e
      rw [beq_iff_eq, ByteArray.toList_eq, txB_list] at e
      rw [e] at h
      simp at h
  rw [h1, txB_list, Bool.false_or]
  obtain ⟨p, hp, hd⟩ := cutL_mem (c := 44) (d := 59) (by decide) b h
  unfold rlB
  have h2 : (cutL 44 b).all (fun p => (rdO p).isSome) = false := by
    rw [List.all_eq_false]
    refine ⟨p, hp, ?_⟩
    cases e : rdO p with
    | none => simp
    | some v =>
      obtain ⟨_, _, rfl⟩ := rdO_some e
      exact absurd rfl (itoa_chars v _ hd)
  rw [h2, Bool.and_false]
def rpL (s : ByteArray) : List (List UInt8) := cutL 59 s.data.toList
def rpOk (s : ByteArray) : Bool := decide ((rpL s).length = 2) && rpA (txB ((rpL s).getD 0 [])) (txB ((rpL s).getD 1 []))
def rpR (s : ByteArray) : Int := rpR1 (txB ((rpL s).getD 0 []))
def rpZ (s : ByteArray) : List Int := rlV (txB ((rpL s).getD 1 []))
def rpN (s : ByteArray) : Nat := rlN (txB ((rpL s).getD 1 []))
theorem rp_l1 {s : ByteArray} (h : ¬ (rpL s).length = 2) : rpOk s = false := by unfold rpOk; rw [decide_eq_false h]; rfl
theorem rp_l2 {s : ByteArray} (h : (rpL s).length = 2) : rpOk s = rpA (txB ((rpL s).getD 0 [])) (txB ((rpL s).getD 1 [])) := by unfold rpOk; rw [decide_eq_true h]; rfl
theorem rl_form {s : ByteArray} {w w' : World} {e : Ending} (h : RlPost s w e w') : ∃ v b, e = .returned (.tuple #[v, .bool b]) ∧ Below w.heap.size w w' := by
  cases hok : rlOk s
  · obtain ⟨rfl, hb⟩ := rl_none h hok
    exact ⟨_, _, rfl, hb⟩
  · by_cases hp : 0 < rlN s
    · obtain ⟨g, cp, rfl, hn⟩ := rl_new h hok hp
      exact ⟨_, _, rfl, hn.2.2.2⟩
    · obtain ⟨b, cp, rfl, hb⟩ := rl_zero h hok (by omega)
      exact ⟨_, _, rfl, hb⟩
theorem rd_form {s : ByteArray} {w w' : World} {e : Ending} (h : RdPost s w e w') : ∃ x b, e = .returned (.tuple #[.int .i64 x, .bool b]) ∧ Below w.heap.size w w' := by
  cases hv : rdO s.data.toList with
  | none => exact ⟨_, _, h.2.1 hv, h.2.2⟩
  | some v => exact ⟨_, _, h.1 v hv, h.2.2⟩
def RpP (ok : Bool) (r : Int) (n : Nat) (zs : List Int) (w : World) (e : Ending) (w' : World) : Prop :=
  (ok = true ∧ ∃ g cp, e = .returned (.tuple #[.agg #[.int .i64 r, .slice (some ⟨g, 0, none⟩) n cp], .bool true]) ∧ New w w' g (.il n zs)) ∨ (ok = false ∧ e = .returned (.tuple #[.agg #[.int .i64 0, .slice none 0 0], .bool false]) ∧ Below w.heap.size w w')
theorem newF {w w6 : World} {g n p : Nat} {zs : List Int} (h1 : w.heap.size ≤ g) (h2 : g < w6.heap.size) (hr : IRow w6 (some ⟨g, 0, none⟩) n zs) (hf : ∀ j, j < n → w6.frozen? ⟨g, j, none⟩ = false) (hb : Below w.heap.size w w6) (hp : p ≠ g) (hp2 : w.heap.size ≤ p) (v u : Value) : New w ((w6.setCell ⟨p, 0, none⟩ v).setCell ⟨p, 1, none⟩ u) g (.il n zs) := by
  refine ⟨h1, by rw [World.size_setCell, World.size_setCell]; exact h2, ?_, (hb.setCell hp2 v).setCell hp2 u⟩
  refine Ent.il_ok ?_ (fun j hj => by rw [World.frozen?_setCell, World.frozen?_setCell]; exact hf j hj)
  obtain ⟨hl, h⟩ := hr
  refine ⟨hl, ?_⟩
  rcases h with h | ⟨b, o2, e, hb, hc⟩
  · exact .inl h
  · refine .inr ⟨b, o2, e, by rw [World.size_setCell, World.size_setCell]; exact hb, fun i hi => ?_⟩
    have hbg : b = g := by injection e with e; injection e with e1; exact e1.symm
    have hne : ∀ k, (⟨p, k, none⟩ : Addr) ≠ ⟨b, o2 + i, none⟩ := fun k e2 => by injection e2 with e3; exact hp (e3.trans hbg)
    rw [World.cell?_setCell_other (h := hne 1), World.cell?_setCell_other (h := hne 0)]
    exact hc i hi
theorem rd_any (s : ByteArray) (hs : s.size ≤ 1048576) (w0 w : World) (hp : Pow w0) (he : Errs w0) (hb : Below w0.heap.size w0 w) :
    Calls Tryd.prog 18 #[.string s] w (RdPost s w) := by
  cases h : rdO s.data.toList with
  | none => exact (rd_no s h hs w0 w hp he hb).mono fun e w' ⟨he, hb⟩ => he ▸ RdPost.none h hb
  | some v => exact (rd_yes s v h hs w0 w hp hb).mono fun e w' ⟨he, hb⟩ => he ▸ RdPost.some h hb
set_option maxRecDepth 100000 in
set_option maxHeartbeats 8000000 in
theorem rp_impl (s A B : ByteArray) (hA : A.size ≤ 1048576) (hB : B.size ≤ 1048576) (w0 : World) (w : World) (HCT : ∀ W, Below w.heap.size w W → Calls Tryd.prog 88 #[.string s, .string ⟨#[59]⟩] W fun e w' => e = .returned (.tuple #[.string A, .string B, .bool true]) ∧ Below W.heap.size W w') (hp : Pow w0) (he : Errs w0) (hM : MaxL w0) (hb : Below w0.heap.size w0 w) :
    Calls Tryd.prog 50 #[.string s] w (RpP (rpA A B) (rpR1 A) (rlN B) (rlV B) w) := by
  have HRD := Lib.hid (fun W (h1 : Below w.heap.size w W) => rd_any A hA w0 W hp he (Below.next hb h1))
  have HRL := Lib.hid (fun W (h1 : Below w.heap.size w W) => rl_impl B hB w0 W hp he hM (Below.next hb h1))
  have HR : Hid (Kin (w.alloc (.cells #[.int .i64 0, .slice none 0 0] 59)) w.heap.size (.int .i64 0) (.slice none 0 0)) := Lib.hid Kin.new
  have W0 := Lib.hid (belowD w (.cells #[.int .i64 0, .slice none 0 0] 59))
  clear hA hB hp he hM hb
  cases hrd : rdO A.data.toList with
  | none =>
    have HF := Lib.hid (rpA_none hrd B)
    have HK := Lib.hid hrd
    clear hrd
    go_enter Tryd.func50, Tryd.ntmps50
    go_wp2_with (first | (go_at_call 88; refine (HCT _ W0.out).mono ?_; rintro e w2 ⟨rfl, hb2⟩; have HR2 := Lib.hid (HR.out.below hb2); have HW2 : Hid (Below w.heap.size w w2) := Lib.hid (Below.next W0.out hb2); clear hb2) | (go_at_call 18; refine (HRD.out _ HW2.out).mono ?_; rintro e w4 hq; obtain rfl := hq.2.1 HK.out; have hb4 := hq.2.2; clear hq; have HR4 := Lib.hid (HR2.out.below hb4); have HW4 : Hid (Below w.heap.size w w4) := Lib.hid (Below.next HW2.out hb4); clear hb4) | (go_at_call 24; refine (HRL.out _ HW4.out).mono ?_; rintro e w6 hq; obtain ⟨v6, b6, rfl, hb6⟩ := rl_form hq; clear hq; have HRF := Lib.hid (HR4.out.below hb6); have HWF : Hid (Below w.heap.size w w6) := Lib.hid (Below.next HW4.out hb6); obtain ⟨hQ, hq0, hq1, hqf0, hqf1⟩ := HRF.out; clear hb6) | fail)
    obtain ⟨_, hr1, hr2⟩ := HRF.out.res (.int .i64 0) (.slice none 0 0)
    exact bodyPost_ret (v := .tuple #[.agg #[.int .i64 0, .slice none 0 0], .bool false]) (by simp [results, Tryd.results50, go_sem, hr1, hr2]) rfl
      (.inr ⟨HF.out, rfl, (by repeat (first | exact Below.refl _ _ | exact HWF.out | refine Below.drew ?_ | refine Below.drewN' ?_ _ | refine Below.alloc ?_ (by first | (simp; done) | (simp; omega)) _ | refine Below.setCell ?_ (by first | (simp; done) | (simp; omega)) _))⟩)
  | some v =>
    have HVR : Hid (rpR1 A = v) := Lib.hid (by unfold rpR1; rw [hrd]; rfl)
    cases hok : rlOk B
    · have HF := Lib.hid (rpA_l hok A)
      have HK := Lib.hid hrd
      have HKL := Lib.hid hok
      clear hrd hok
      go_enter Tryd.func50, Tryd.ntmps50
      go_wp2_with (first | (go_at_call 88; refine (HCT _ W0.out).mono ?_; rintro e w2 ⟨rfl, hb2⟩; have HR2 := Lib.hid (HR.out.below hb2); have HW2 : Hid (Below w.heap.size w w2) := Lib.hid (Below.next W0.out hb2); clear hb2) | (go_at_call 18; refine (HRD.out _ HW2.out).mono ?_; rintro e w4 hq; obtain rfl := hq.1 _ HK.out; have hb4 := hq.2.2; clear hq; have HR4 := Lib.hid (HR2.out.below hb4); have HW4 : Hid (Below w.heap.size w w4) := Lib.hid (Below.next HW2.out hb4); clear hb4) | (go_at_call 24; refine (HRL.out _ HW4.out).mono ?_; rintro e w6 hq; obtain ⟨rfl, hb6⟩ := rl_none hq HKL.out; clear hq; have HRF := Lib.hid (HR4.out.below hb6); have HWF : Hid (Below w.heap.size w w6) := Lib.hid (Below.next HW4.out hb6); obtain ⟨hQ, hq0, hq1, hqf0, hqf1⟩ := HRF.out; clear hb6) | fail)
      obtain ⟨_, hr1, hr2⟩ := HRF.out.res (.int .i64 0) (.slice none 0 0)
      exact bodyPost_ret (v := .tuple #[.agg #[.int .i64 0, .slice none 0 0], .bool false]) (by simp [results, Tryd.results50, go_sem, hr1, hr2]) rfl
        (.inr ⟨HF.out, rfl, (by repeat (first | exact Below.refl _ _ | exact HWF.out | refine Below.drew ?_ | refine Below.drewN' ?_ _ | refine Below.alloc ?_ (by first | (simp; done) | (simp; omega)) _ | refine Below.setCell ?_ (by first | (simp; done) | (simp; omega)) _))⟩)
    · have HE := Lib.hid (rpA_eq hrd hok)
      have HNM := Lib.hid (rl_n B hok)
      have HK := Lib.hid hrd
      have HKL := Lib.hid hok
      clear hrd hok
      by_cases hpos : 0 < rlN B
      · have HPOS := Lib.hid hpos
        clear hpos
        cases hpa : paB v (rlV B) (rlN B)
        · have HPA := Lib.hid hpa
          clear hpa
          go_enter Tryd.func50, Tryd.ntmps50
          go_wp2_with (first | (go_at_call 88; refine (HCT _ W0.out).mono ?_; rintro e w2 ⟨rfl, hb2⟩; have HR2 := Lib.hid (HR.out.below hb2); have HW2 : Hid (Below w.heap.size w w2) := Lib.hid (Below.next W0.out hb2); clear hb2) | (go_at_call 18; refine (HRD.out _ HW2.out).mono ?_; rintro e w4 hq; obtain rfl := hq.1 _ HK.out; have hb4 := hq.2.2; clear hq; have HR4 := Lib.hid (HR2.out.below hb4); have HW4 : Hid (Below w.heap.size w w4) := Lib.hid (Below.next HW2.out hb4); clear hb4) | (go_at_call 24; refine (HRL.out _ HW4.out).mono ?_; rintro e w6 hq; obtain ⟨g, cp, rfl, hg, hgl, hent, hb6⟩ := rl_new hq HKL.out HPOS.out; clear hq; have HR6 := Lib.hid (HR4.out.below hb6); have HW6 : Hid (Below w.heap.size w w6) := Lib.hid (Below.next HW4.out hb6); have HIR := Lib.hid (irow_of hent hgl (rlV_len B)); have HFZ := Lib.hid (fun j hj => (ent_fr hent) j hj); have HGG := Lib.hid hg; have HGL := Lib.hid hgl; clear hb6 hent hg hgl) | (go_at_call 89; refine (p6IN _ _ (rlN B) _ (rlV B) _ HIR.out HNM.out HPA.out).mono ?_; rintro e w8 ⟨rfl, hb8⟩; have HRF := Lib.hid (HR6.out.below hb8); have HWF : Hid (Below w.heap.size w w8) := Lib.hid (Below.next HW6.out hb8); obtain ⟨hQ, hq0, hq1, hqf0, hqf1⟩ := HRF.out; clear hb8) | fail)
          obtain ⟨_, hr1, hr2⟩ := HRF.out.res (.int .i64 0) (.slice none 0 0)
          exact bodyPost_ret (v := .tuple #[.agg #[.int .i64 0, .slice none 0 0], .bool false]) (by simp [results, Tryd.results50, go_sem, hr1, hr2]) rfl
            (.inr ⟨HE.out.trans HPA.out, rfl, (by repeat (first | exact Below.refl _ _ | exact HWF.out | refine Below.drew ?_ | refine Below.drewN' ?_ _ | refine Below.alloc ?_ (by first | (simp; done) | (simp; omega)) _ | refine Below.setCell ?_ (by first | (simp; done) | (simp; omega)) _))⟩)
        · have HPA := Lib.hid hpa
          clear hpa
          go_enter Tryd.func50, Tryd.ntmps50
          go_wp2_with (first | (go_at_call 88; refine (HCT _ W0.out).mono ?_; rintro e w2 ⟨rfl, hb2⟩; have HR2 := Lib.hid (HR.out.below hb2); have HW2 : Hid (Below w.heap.size w w2) := Lib.hid (Below.next W0.out hb2); clear hb2) | (go_at_call 18; refine (HRD.out _ HW2.out).mono ?_; rintro e w4 hq; obtain rfl := hq.1 _ HK.out; have hb4 := hq.2.2; clear hq; have HR4 := Lib.hid (HR2.out.below hb4); have HW4 : Hid (Below w.heap.size w w4) := Lib.hid (Below.next HW2.out hb4); clear hb4) | (go_at_call 24; refine (HRL.out _ HW4.out).mono ?_; rintro e w6 hq; obtain ⟨g, cp, rfl, hg, hgl, hent, hb6⟩ := rl_new hq HKL.out HPOS.out; clear hq; have HR6 := Lib.hid (HR4.out.below hb6); have HW6 : Hid (Below w.heap.size w w6) := Lib.hid (Below.next HW4.out hb6); have HIR := Lib.hid (irow_of hent hgl (rlV_len B)); have HFZ := Lib.hid (fun j hj => (ent_fr hent) j hj); have HGG := Lib.hid hg; have HGL := Lib.hid hgl; clear hb6 hent hg hgl) | (go_at_call 89; refine (p6IY _ _ (rlN B) _ (rlV B) _ HIR.out HNM.out HPA.out).mono ?_; rintro e w8 ⟨rfl, hb8⟩; have HRF := Lib.hid (HR6.out.below hb8); have HWF : Hid (Below w.heap.size w w8) := Lib.hid (Below.next HW6.out hb8); obtain ⟨hQ, hq0, hq1, hqf0, hqf1⟩ := HRF.out; have HD8 := Lib.hid hb8; clear hb8) | fail)
          have hne9 : w.heap.size ≠ g := by have := HGG.out; have := HW4.out.size; have := HR2.out.1; have := HR4.out.1; omega
          have HNW := Lib.hid (newF (p := w.heap.size) (by have := HGG.out; have := HW4.out.size; omega) (Nat.lt_of_lt_of_le HGL.out HD8.out.size) (HIR.out.below HD8.out) (fun j hj => (HD8.out.frozen (p := ⟨g, j, none⟩) HGL.out).trans (HFZ.out j hj)) HWF.out hne9 (Nat.le_refl _) (.int .i64 v) (.slice (some ⟨g, 0, none⟩) (rlN B) cp))
          obtain ⟨_, hr1, hr2⟩ := HRF.out.res (.int .i64 v) (.slice (some ⟨g, 0, none⟩) (rlN B) cp)
          exact bodyPost_ret (v := .tuple #[.agg #[.int .i64 v, .slice (some ⟨g, 0, none⟩) (rlN B) cp], .bool true]) (by simp [results, Tryd.results50, go_sem, hr1, hr2]) rfl
            (.inl ⟨HE.out.trans HPA.out, g, cp, by rw [HVR.out], HNW.out⟩)
      · have HN0 : Hid (rlN B = 0) := Lib.hid (by omega)
        have HPA : Hid (paB v (rlV B) 0 = false) := Lib.hid (pa_n (by omega))
        have HF : Hid (rpA A B = false) := Lib.hid (by rw [HE.out, HN0.out]; exact HPA.out)
        have HV0 : Hid ((rlV B).length = 0) := Lib.hid (by rw [rlV_len, HN0.out])
        clear hpos
        go_enter Tryd.func50, Tryd.ntmps50
        go_wp2_with (first | (go_at_call 88; refine (HCT _ W0.out).mono ?_; rintro e w2 ⟨rfl, hb2⟩; have HR2 := Lib.hid (HR.out.below hb2); have HW2 : Hid (Below w.heap.size w w2) := Lib.hid (Below.next W0.out hb2); clear hb2) | (go_at_call 18; refine (HRD.out _ HW2.out).mono ?_; rintro e w4 hq; obtain rfl := hq.1 _ HK.out; have hb4 := hq.2.2; clear hq; have HR4 := Lib.hid (HR2.out.below hb4); have HW4 : Hid (Below w.heap.size w w4) := Lib.hid (Below.next HW2.out hb4); clear hb4) | (go_at_call 24; refine (HRL.out _ HW4.out).mono ?_; rintro e w6 hq; obtain ⟨b6, cp6, rfl, hb6⟩ := rl_zero hq HKL.out HN0.out; clear hq; have HR6 := Lib.hid (HR4.out.below hb6); have HW6 : Hid (Below w.heap.size w w6) := Lib.hid (Below.next HW4.out hb6); clear hb6) | (go_at_call 89; refine (p6IN _ _ 0 _ (rlV B) _ ⟨HV0.out, .inl rfl⟩ (by omega) HPA.out).mono ?_; rintro e w8 ⟨rfl, hb8⟩; have HRF := Lib.hid (HR6.out.below hb8); have HWF : Hid (Below w.heap.size w w8) := Lib.hid (Below.next HW6.out hb8); obtain ⟨hQ, hq0, hq1, hqf0, hqf1⟩ := HRF.out; clear hb8) | fail)
        obtain ⟨_, hr1, hr2⟩ := HRF.out.res (.int .i64 0) (.slice none 0 0)
        exact bodyPost_ret (v := .tuple #[.agg #[.int .i64 0, .slice none 0 0], .bool false]) (by simp [results, Tryd.results50, go_sem, hr1, hr2]) rfl
          (.inr ⟨HF.out, rfl, (by repeat (first | exact Below.refl _ _ | exact HWF.out | refine Below.drew ?_ | refine Below.drewN' ?_ _ | refine Below.alloc ?_ (by first | (simp; done) | (simp; omega)) _ | refine Below.setCell ?_ (by first | (simp; done) | (simp; omega)) _))⟩)
set_option maxRecDepth 100000 in
set_option maxHeartbeats 8000000 in
theorem rp_spec (s A B : ByteArray) (hA : A.size ≤ 1048576) (hB : B.size ≤ 1048576) (w : World) (HCT : ∀ W, Calls Tryd.prog 104 #[.string s, .int .u8 59] W fun e w' => ∃ g cp, e = .returned (.slice (some ⟨g, 0, none⟩) 2 cp) ∧ W.heap.size ≤ g ∧ g < w'.heap.size ∧ w'.cell? ⟨g, 0, none⟩ = some (.string A) ∧ w'.cell? ⟨g, 1, none⟩ = some (.string B) ∧ Below W.heap.size W w') :
    Calls Tryd.prog 87 #[.string s] w (RpP (rpA A B) (rpR1 A) (rlN B) (rlV B) w) := by
  have HRD := Lib.hid (fun W (h1 : Below w.heap.size w W) => rv_spec A hA W)
  have HRL := Lib.hid (fun W (h1 : Below w.heap.size w W) => rn_spec B hB W)
  have HR : Hid (Kin (w.alloc (.cells #[.int .i64 0, .slice none 0 0] 59)) w.heap.size (.int .i64 0) (.slice none 0 0)) := Lib.hid Kin.new
  have W0 := Lib.hid (belowD w (.cells #[.int .i64 0, .slice none 0 0] 59))
  clear hA hB
  cases hrd : rdO A.data.toList with
  | none =>
    have HF := Lib.hid (rpA_none hrd B)
    have HK := Lib.hid hrd
    clear hrd
    go_enter Tryd.func87, Tryd.ntmps87
    go_wp2_with (first | (go_at_call 104; refine (HCT _).mono ?_; rintro e w2 ⟨g9, cp9, rfl, hg9, hl9, hc0, hc1, hb2⟩; have HR2 := Lib.hid (HR.out.below hb2); have HW2 : Hid (Below w.heap.size w w2) := Lib.hid (Below.next W0.out hb2); clear hb2) | (go_at_call 64; refine (HRD.out _ HW2.out).mono ?_; rintro e w4 hq; obtain rfl := hq.2.1 HK.out; have hb4 := hq.2.2; clear hq; have HR4 := Lib.hid (HR2.out.below hb4); have HW4 : Hid (Below w.heap.size w w4) := Lib.hid (Below.next HW2.out hb4); have hc1 := (hb4.cell (p := ⟨g9, 1, none⟩) hl9).trans hc1; clear hb4) | (go_at_call 70; refine (HRL.out _ HW4.out).mono ?_; rintro e w6 hq; obtain ⟨v6, b6, rfl, hb6⟩ := rl_form hq; clear hq; have HRF := Lib.hid (HR4.out.below hb6); have HWF : Hid (Below w.heap.size w w6) := Lib.hid (Below.next HW4.out hb6); obtain ⟨hQ, hq0, hq1, hqf0, hqf1⟩ := HRF.out; clear hb6) | fail)
    obtain ⟨_, hr1, hr2⟩ := HRF.out.res (.int .i64 0) (.slice none 0 0)
    exact bodyPost_ret (v := .tuple #[.agg #[.int .i64 0, .slice none 0 0], .bool false]) (by simp [results, Tryd.results87, go_sem, hr1, hr2]) rfl
      (.inr ⟨HF.out, rfl, (by repeat (first | exact Below.refl _ _ | exact HWF.out | refine Below.drew ?_ | refine Below.drewN' ?_ _ | refine Below.alloc ?_ (by first | (simp; done) | (simp; omega)) _ | refine Below.setCell ?_ (by first | (simp; done) | (simp; omega)) _))⟩)
  | some v =>
    have HVR : Hid (rpR1 A = v) := Lib.hid (by unfold rpR1; rw [hrd]; rfl)
    cases hok : rlOk B
    · have HF := Lib.hid (rpA_l hok A)
      have HK := Lib.hid hrd
      have HKL := Lib.hid hok
      clear hrd hok
      go_enter Tryd.func87, Tryd.ntmps87
      go_wp2_with (first | (go_at_call 104; refine (HCT _).mono ?_; rintro e w2 ⟨g9, cp9, rfl, hg9, hl9, hc0, hc1, hb2⟩; have HR2 := Lib.hid (HR.out.below hb2); have HW2 : Hid (Below w.heap.size w w2) := Lib.hid (Below.next W0.out hb2); clear hb2) | (go_at_call 64; refine (HRD.out _ HW2.out).mono ?_; rintro e w4 hq; obtain rfl := hq.1 _ HK.out; have hb4 := hq.2.2; clear hq; have HR4 := Lib.hid (HR2.out.below hb4); have HW4 : Hid (Below w.heap.size w w4) := Lib.hid (Below.next HW2.out hb4); have hc1 := (hb4.cell (p := ⟨g9, 1, none⟩) hl9).trans hc1; clear hb4) | (go_at_call 70; refine (HRL.out _ HW4.out).mono ?_; rintro e w6 hq; obtain ⟨rfl, hb6⟩ := rl_none hq HKL.out; clear hq; have HRF := Lib.hid (HR4.out.below hb6); have HWF : Hid (Below w.heap.size w w6) := Lib.hid (Below.next HW4.out hb6); obtain ⟨hQ, hq0, hq1, hqf0, hqf1⟩ := HRF.out; clear hb6) | fail)
      obtain ⟨_, hr1, hr2⟩ := HRF.out.res (.int .i64 0) (.slice none 0 0)
      exact bodyPost_ret (v := .tuple #[.agg #[.int .i64 0, .slice none 0 0], .bool false]) (by simp [results, Tryd.results87, go_sem, hr1, hr2]) rfl
        (.inr ⟨HF.out, rfl, (by repeat (first | exact Below.refl _ _ | exact HWF.out | refine Below.drew ?_ | refine Below.drewN' ?_ _ | refine Below.alloc ?_ (by first | (simp; done) | (simp; omega)) _ | refine Below.setCell ?_ (by first | (simp; done) | (simp; omega)) _))⟩)
    · have HE := Lib.hid (rpA_eq hrd hok)
      have HNM := Lib.hid (rl_n B hok)
      have HK := Lib.hid hrd
      have HKL := Lib.hid hok
      clear hrd hok
      by_cases hpos : 0 < rlN B
      · have HPOS := Lib.hid hpos
        clear hpos
        cases hpa : paB v (rlV B) (rlN B)
        · have HPA := Lib.hid hpa
          clear hpa
          go_enter Tryd.func87, Tryd.ntmps87
          go_wp2_with (first | (go_at_call 104; refine (HCT _).mono ?_; rintro e w2 ⟨g9, cp9, rfl, hg9, hl9, hc0, hc1, hb2⟩; have HR2 := Lib.hid (HR.out.below hb2); have HW2 : Hid (Below w.heap.size w w2) := Lib.hid (Below.next W0.out hb2); clear hb2) | (go_at_call 64; refine (HRD.out _ HW2.out).mono ?_; rintro e w4 hq; obtain rfl := hq.1 _ HK.out; have hb4 := hq.2.2; clear hq; have HR4 := Lib.hid (HR2.out.below hb4); have HW4 : Hid (Below w.heap.size w w4) := Lib.hid (Below.next HW2.out hb4); have hc1 := (hb4.cell (p := ⟨g9, 1, none⟩) hl9).trans hc1; clear hb4) | (go_at_call 70; refine (HRL.out _ HW4.out).mono ?_; rintro e w6 hq; obtain ⟨g, cp, rfl, hg, hgl, hent, hb6⟩ := rl_new hq HKL.out HPOS.out; clear hq; have HR6 := Lib.hid (HR4.out.below hb6); have HW6 : Hid (Below w.heap.size w w6) := Lib.hid (Below.next HW4.out hb6); have HIR := Lib.hid (irow_of hent hgl (rlV_len B)); have HFZ := Lib.hid (fun j hj => (ent_fr hent) j hj); have HGG := Lib.hid hg; have HGL := Lib.hid hgl; clear hb6 hent hg hgl) | (go_at_call 122; refine (p6SN _ _ (rlN B) _ (rlV B) _ HIR.out HNM.out HPA.out).mono ?_; rintro e w8 ⟨rfl, hb8⟩; have HRF := Lib.hid (HR6.out.below hb8); have HWF : Hid (Below w.heap.size w w8) := Lib.hid (Below.next HW6.out hb8); obtain ⟨hQ, hq0, hq1, hqf0, hqf1⟩ := HRF.out; clear hb8) | fail)
          obtain ⟨_, hr1, hr2⟩ := HRF.out.res (.int .i64 0) (.slice none 0 0)
          exact bodyPost_ret (v := .tuple #[.agg #[.int .i64 0, .slice none 0 0], .bool false]) (by simp [results, Tryd.results87, go_sem, hr1, hr2]) rfl
            (.inr ⟨HE.out.trans HPA.out, rfl, (by repeat (first | exact Below.refl _ _ | exact HWF.out | refine Below.drew ?_ | refine Below.drewN' ?_ _ | refine Below.alloc ?_ (by first | (simp; done) | (simp; omega)) _ | refine Below.setCell ?_ (by first | (simp; done) | (simp; omega)) _))⟩)
        · have HPA := Lib.hid hpa
          clear hpa
          go_enter Tryd.func87, Tryd.ntmps87
          go_wp2_with (first | (go_at_call 104; refine (HCT _).mono ?_; rintro e w2 ⟨g9, cp9, rfl, hg9, hl9, hc0, hc1, hb2⟩; have HR2 := Lib.hid (HR.out.below hb2); have HW2 : Hid (Below w.heap.size w w2) := Lib.hid (Below.next W0.out hb2); clear hb2) | (go_at_call 64; refine (HRD.out _ HW2.out).mono ?_; rintro e w4 hq; obtain rfl := hq.1 _ HK.out; have hb4 := hq.2.2; clear hq; have HR4 := Lib.hid (HR2.out.below hb4); have HW4 : Hid (Below w.heap.size w w4) := Lib.hid (Below.next HW2.out hb4); have hc1 := (hb4.cell (p := ⟨g9, 1, none⟩) hl9).trans hc1; clear hb4) | (go_at_call 70; refine (HRL.out _ HW4.out).mono ?_; rintro e w6 hq; obtain ⟨g, cp, rfl, hg, hgl, hent, hb6⟩ := rl_new hq HKL.out HPOS.out; clear hq; have HR6 := Lib.hid (HR4.out.below hb6); have HW6 : Hid (Below w.heap.size w w6) := Lib.hid (Below.next HW4.out hb6); have HIR := Lib.hid (irow_of hent hgl (rlV_len B)); have HFZ := Lib.hid (fun j hj => (ent_fr hent) j hj); have HGG := Lib.hid hg; have HGL := Lib.hid hgl; clear hb6 hent hg hgl) | (go_at_call 122; refine (p6SY _ _ (rlN B) _ (rlV B) _ HIR.out HNM.out HPA.out).mono ?_; rintro e w8 ⟨rfl, hb8⟩; have HRF := Lib.hid (HR6.out.below hb8); have HWF : Hid (Below w.heap.size w w8) := Lib.hid (Below.next HW6.out hb8); obtain ⟨hQ, hq0, hq1, hqf0, hqf1⟩ := HRF.out; have HD8 := Lib.hid hb8; clear hb8) | fail)
          have hne9 : w.heap.size ≠ g := by have := HGG.out; have := HW4.out.size; have := HR2.out.1; have := HR4.out.1; omega
          have HNW := Lib.hid (newF (p := w.heap.size) (by have := HGG.out; have := HW4.out.size; omega) (Nat.lt_of_lt_of_le HGL.out HD8.out.size) (HIR.out.below HD8.out) (fun j hj => (HD8.out.frozen (p := ⟨g, j, none⟩) HGL.out).trans (HFZ.out j hj)) HWF.out hne9 (Nat.le_refl _) (.int .i64 v) (.slice (some ⟨g, 0, none⟩) (rlN B) cp))
          obtain ⟨_, hr1, hr2⟩ := HRF.out.res (.int .i64 v) (.slice (some ⟨g, 0, none⟩) (rlN B) cp)
          exact bodyPost_ret (v := .tuple #[.agg #[.int .i64 v, .slice (some ⟨g, 0, none⟩) (rlN B) cp], .bool true]) (by simp [results, Tryd.results87, go_sem, hr1, hr2]) rfl
            (.inl ⟨HE.out.trans HPA.out, g, cp, by rw [HVR.out], HNW.out⟩)
      · have HN0 : Hid (rlN B = 0) := Lib.hid (by omega)
        have HPA : Hid (paB v (rlV B) 0 = false) := Lib.hid (pa_n (by omega))
        have HF : Hid (rpA A B = false) := Lib.hid (by rw [HE.out, HN0.out]; exact HPA.out)
        have HV0 : Hid ((rlV B).length = 0) := Lib.hid (by rw [rlV_len, HN0.out])
        clear hpos
        go_enter Tryd.func87, Tryd.ntmps87
        go_wp2_with (first | (go_at_call 104; refine (HCT _).mono ?_; rintro e w2 ⟨g9, cp9, rfl, hg9, hl9, hc0, hc1, hb2⟩; have HR2 := Lib.hid (HR.out.below hb2); have HW2 : Hid (Below w.heap.size w w2) := Lib.hid (Below.next W0.out hb2); clear hb2) | (go_at_call 64; refine (HRD.out _ HW2.out).mono ?_; rintro e w4 hq; obtain rfl := hq.1 _ HK.out; have hb4 := hq.2.2; clear hq; have HR4 := Lib.hid (HR2.out.below hb4); have HW4 : Hid (Below w.heap.size w w4) := Lib.hid (Below.next HW2.out hb4); have hc1 := (hb4.cell (p := ⟨g9, 1, none⟩) hl9).trans hc1; clear hb4) | (go_at_call 70; refine (HRL.out _ HW4.out).mono ?_; rintro e w6 hq; obtain ⟨b6, cp6, rfl, hb6⟩ := rl_zero hq HKL.out HN0.out; clear hq; have HR6 := Lib.hid (HR4.out.below hb6); have HW6 : Hid (Below w.heap.size w w6) := Lib.hid (Below.next HW4.out hb6); clear hb6) | (go_at_call 122; refine (p6SN _ _ 0 _ (rlV B) _ ⟨HV0.out, .inl rfl⟩ (by omega) HPA.out).mono ?_; rintro e w8 ⟨rfl, hb8⟩; have HRF := Lib.hid (HR6.out.below hb8); have HWF : Hid (Below w.heap.size w w8) := Lib.hid (Below.next HW6.out hb8); obtain ⟨hQ, hq0, hq1, hqf0, hqf1⟩ := HRF.out; clear hb8) | fail)
        obtain ⟨_, hr1, hr2⟩ := HRF.out.res (.int .i64 0) (.slice none 0 0)
        exact bodyPost_ret (v := .tuple #[.agg #[.int .i64 0, .slice none 0 0], .bool false]) (by simp [results, Tryd.results87, go_sem, hr1, hr2]) rfl
          (.inr ⟨HF.out, rfl, (by repeat (first | exact Below.refl _ _ | exact HWF.out | refine Below.drew ?_ | refine Below.drewN' ?_ _ | refine Below.alloc ?_ (by first | (simp; done) | (simp; omega)) _ | refine Below.setCell ?_ (by first | (simp; done) | (simp; omega)) _))⟩)

theorem RpP.no {ok : Bool} {r r2 : Int} {n n2 : Nat} {zs zs2 : List Int} {w w' : World} {e : Ending} (h : RpP ok r n zs w e w') (hok : ok = false) : RpP false r2 n2 zs2 w e w' := by
  subst hok
  rcases h with ⟨h, _⟩ | h
  · cases h
  · exact .inr h
theorem rp_yes {ok : Bool} {r : Int} {n : Nat} {zs : List Int} {w w' : World} {e : Ending} (h : RpP ok r n zs w e w') (hok : ok = true) : ∃ g cp, e = .returned (.tuple #[.agg #[.int .i64 r, .slice (some ⟨g, 0, none⟩) n cp], .bool true]) ∧ New w w' g (.il n zs) := by
  subst hok
  rcases h with ⟨_, h⟩ | ⟨h, _⟩
  · exact h
  · cases h
theorem rp_no {ok : Bool} {r : Int} {n : Nat} {zs : List Int} {w w' : World} {e : Ending} (h : RpP ok r n zs w e w') (hok : ok = false) : e = .returned (.tuple #[.agg #[.int .i64 0, .slice none 0 0], .bool false]) ∧ Below w.heap.size w w' := by
  subst hok
  rcases h with ⟨h, _⟩ | ⟨_, h⟩
  · cases h
  · exact h
theorem rp_n (s : ByteArray) (h : rpOk s = true) : rpN s ≤ 1048576 := by
  by_cases h2 : (rpL s).length = 2
  · rw [rp_l2 h2] at h
    cases e : rlOk (txB ((rpL s).getD 1 []))
    · rw [rpA_l e] at h; cases h
    · exact rl_n _ e
  · rw [rp_l1 h2] at h; cases h
theorem rpL_size (s : ByteArray) (i : Nat) : (txB ((rpL s).getD i [])).size ≤ s.size := by
  rw [txB_size]
  by_cases h : i < (rpL s).length
  · rw [List.getD_eq_getElem?_getD, List.getElem?_eq_getElem h, Option.getD_some]
    have := cutL_le 59 s.data.toList _ (List.getElem_mem (l := rpL s) (n := i) h)
    have h10 : s.data.toList.length = s.size := Array.length_toList
    omega
  · rw [List.getD_eq_getElem?_getD, List.getElem?_eq_none (by omega)]
    simp
set_option maxRecDepth 100000 in
set_option maxHeartbeats 4000000 in
theorem rp_sp (s : ByteArray) (hs : s.size ≤ 1048576) (w : World) :
    Calls Tryd.prog 87 #[.string s] w (RpP (rpOk s) (rpR s) (rpN s) (rpZ s) w) := by
  have HSP : Hid (∀ W : World, Calls Tryd.prog 104 #[.string s, .int .u8 59] W fun e w' => ∃ g cp, e = .returned (.slice (some ⟨g, 0, none⟩) (rpL s).length cp) ∧ W.heap.size ≤ g ∧ TRow w' g (rpL s).length (rpL s) ∧ Below W.heap.size W w') := Lib.hid (fun W => (cut_spec s 59 W hs).mono (fun e w' q => by
      obtain ⟨v, he, hg, hb⟩ := q
      obtain ⟨g, cp, rfl, h1, h2, h3⟩ := hg.fin (by rw [cutL_len]; omega)
      exact ⟨g, cp, he, h1, ⟨rfl, h2, fun j hj => (h3.2 j hj).1⟩, hb⟩))
  by_cases h2 : (rpL s).length = 2
  · rw [rp_l2 h2]
    refine rp_spec s _ _ (Nat.le_trans (rpL_size s 0) hs) (Nat.le_trans (rpL_size s 1) hs) w (fun W => (HSP.out W).mono (fun e w' q => ?_))
    obtain ⟨g, cp, he, h1, ht, hb⟩ := q
    rw [h2] at he
    exact ⟨g, cp, he, h1, ht.2.1, ht.2.2 0 (by omega), ht.2.2 1 (by omega), hb⟩
  · have HF := Lib.hid (rp_l1 h2)
    have HR : Hid (Kin (w.alloc (.cells #[.int .i64 0, .slice none 0 0] 59)) w.heap.size (.int .i64 0) (.slice none 0 0)) := Lib.hid Kin.new
    have W0 := Lib.hid (belowD w (.cells #[.int .i64 0, .slice none 0 0] 59))
    obtain ⟨n, hn⟩ : ∃ n, (rpL s).length = n := ⟨_, rfl⟩
    have hd : ((n : Int) == 2) = false := by simp; omega
    rw [hn] at HSP
    clear h2
    go_enter Tryd.func87, Tryd.ntmps87
    go_wp2_with (first | (go_at_call 104; refine (HSP.out _).mono ?_; rintro e w2 ⟨g9, cp9, rfl, hg9, ht, hb2⟩; have HRF := Lib.hid (HR.out.below hb2); have HWF : Hid (Below w.heap.size w w2) := Lib.hid (Below.next W0.out hb2); obtain ⟨hQ, hq0, hq1, hqf0, hqf1⟩ := HRF.out; clear hb2 ht) | fail)
    obtain ⟨_, hr1, hr2⟩ := HRF.out.res (.int .i64 0) (.slice none 0 0)
    exact bodyPost_ret (v := .tuple #[.agg #[.int .i64 0, .slice none 0 0], .bool false]) (by simp [results, Tryd.results87, go_sem, hr1, hr2]) rfl
      (.inr ⟨HF.out, rfl, (by repeat (first | exact Below.refl _ _ | exact HWF.out | refine Below.drew ?_ | refine Below.drewN' ?_ _ | refine Below.alloc ?_ (by first | (simp; done) | (simp; omega)) _ | refine Below.setCell ?_ (by first | (simp; done) | (simp; omega)) _))⟩)
set_option maxRecDepth 100000 in
set_option maxHeartbeats 4000000 in
theorem rpS (s : ByteArray) (hs : s.size ≤ 1048576) (w : World) :
    Calls Tryd.prog 49 #[.string s] w (RpP (rpOk s) (rpR s) (rpN s) (rpZ s) w) := by
  have HRP := Lib.hid (fun W => rp_sp s hs W)
  have HR : Hid (Kin (w.alloc (.cells #[.int .i64 0, .slice none 0 0] 59)) w.heap.size (.int .i64 0) (.slice none 0 0)) := Lib.hid Kin.new
  have W0 := Lib.hid (belowD w (.cells #[.int .i64 0, .slice none 0 0] 59))
  obtain ⟨r, hr⟩ : ∃ r, rpR s = r := ⟨_, rfl⟩
  obtain ⟨n, hn⟩ : ∃ n, rpN s = n := ⟨_, rfl⟩
  obtain ⟨zs, hz⟩ : ∃ zs, rpZ s = zs := ⟨_, rfl⟩
  obtain ⟨ok, hok⟩ : ∃ ok, rpOk s = ok := ⟨_, rfl⟩
  rw [hr, hn, hz, hok] at HRP ⊢
  have HL : Hid (zs.length = n) := Lib.hid (by rw [← hz, ← hn]; exact rlV_len _)
  clear hr hn hz hok
  cases ok
  · go_enter Tryd.func49, Tryd.ntmps49
    go_wp2_with (first | (go_at_call 87; refine (HRP.out _).mono ?_; rintro e w2 hq; obtain ⟨rfl, hb2⟩ := rp_no hq rfl; clear hq; have HRF := Lib.hid (HR.out.below hb2); have HWF : Hid (Below w.heap.size w w2) := Lib.hid (Below.next W0.out hb2); obtain ⟨hQ, hq0, hq1, hqf0, hqf1⟩ := HRF.out; clear hb2) | fail)
    obtain ⟨_, hr1, hr2⟩ := HRF.out.res (.int .i64 0) (.slice none 0 0)
    exact bodyPost_ret (v := .tuple #[.agg #[.int .i64 0, .slice none 0 0], .bool false]) (by simp [results, Tryd.results49, go_sem, hr1, hr2]) rfl
      (.inr ⟨rfl, rfl, (by repeat (first | exact Below.refl _ _ | exact HWF.out | refine Below.drew ?_ | refine Below.drewN' ?_ _ | refine Below.alloc ?_ (by first | (simp; done) | (simp; omega)) _ | refine Below.setCell ?_ (by first | (simp; done) | (simp; omega)) _))⟩)
  · go_enter Tryd.func49, Tryd.ntmps49
    go_wp2_with (first | (go_at_call 87; refine (HRP.out _).mono ?_; rintro e w2 hq; obtain ⟨g, cp, rfl, hg, hgl, hent, hb2⟩ := rp_yes hq rfl; clear hq; have HIR := Lib.hid (irow_of hent hgl HL.out); have HFZ := Lib.hid (fun j hj => (ent_fr hent) j hj); have HGG := Lib.hid hg; have HGL := Lib.hid hgl; have HRF := Lib.hid (HR.out.below hb2); have HWF : Hid (Below w.heap.size w w2) := Lib.hid (Below.next W0.out hb2); obtain ⟨hQ, hq0, hq1, hqf0, hqf1⟩ := HRF.out; clear hb2 hg hgl hent) | fail)
    have hne9 : w.heap.size ≠ g := by have := HGG.out; simp at this; omega
    have HNW := Lib.hid (newF (p := w.heap.size) (by have := HGG.out; simp at this; omega) HGL.out HIR.out HFZ.out HWF.out hne9 (Nat.le_refl _) (.int .i64 r) (.slice (some ⟨g, 0, none⟩) n cp))
    obtain ⟨_, hr1, hr2⟩ := HRF.out.res (.int .i64 r) (.slice (some ⟨g, 0, none⟩) n cp)
    exact bodyPost_ret (v := .tuple #[.agg #[.int .i64 r, .slice (some ⟨g, 0, none⟩) n cp], .bool true]) (by simp [results, Tryd.results49, go_sem, hr1, hr2]) rfl
      (.inl ⟨rfl, g, cp, rfl, HNW.out⟩)
theorem ct_impl (s : ByteArray) (c : UInt8) {a b : List UInt8} {f : Bool} (h : Lib.cut s.data.toList [c] = (a, b, f)) (hs : s.size ≤ 1048576) (w0 w : World) (hM : MaxL w0) (hb : Below w0.heap.size w0 w) :
    Calls Tryd.prog 88 #[.string s, .string ⟨#[c]⟩] w fun e w' => e = .returned (.tuple #[.string (txB a), .string (txB b), .bool f]) ∧ Below w.heap.size w w' := by
  obtain ⟨m, hm⟩ := hM
  have h' : Lib.cut s.data.toList (⟨#[c]⟩ : ByteArray).data.toList = (a, b, f) := h
  refine (Tryd.strings_Cut s ⟨#[c]⟩ m w (by omega) (hm w hb)).mono ?_
  rw [h']
  rintro e w' ⟨rfl, n, rfl⟩
  exact ⟨rfl, Below.drewN' (Below.refl _ _) _⟩
set_option maxRecDepth 100000 in
set_option maxHeartbeats 4000000 in
theorem rp_im (s : ByteArray) (hs : s.size ≤ 1048576) (w0 w : World) (hp : Pow w0) (he : Errs w0) (hM : MaxL w0) (hb : Below w0.heap.size w0 w) :
    Calls Tryd.prog 50 #[.string s] w (RpP (rpOk s) (rpR s) (rpN s) (rpZ s) w) := by
  have hsz : s.data.toList.length = s.size := Array.length_toList
  rcases cut_cases 59 s.data.toList with ⟨hc, hl⟩ | ⟨a, b, hlen, hc, hl⟩
  · have HF : Hid (rpOk s = false) := Lib.hid (rp_l1 (by unfold rpL; rw [hl]; simp))
    have HCT := Lib.hid (fun W (h1 : Below w.heap.size w W) => ct_impl s 59 hc hs w0 W hM (Below.next hb h1))
    rw [txB_back] at HCT
    have HRD := Lib.hid (fun W (h1 : Below w.heap.size w W) => rd_any s hs w0 W hp he (Below.next hb h1))
    have HRL := Lib.hid (fun W (h1 : Below w.heap.size w W) => rl_impl (txB []) (by simp [txB_size]) w0 W hp he hM (Below.next hb h1))
    have HR : Hid (Kin (w.alloc (.cells #[.int .i64 0, .slice none 0 0] 59)) w.heap.size (.int .i64 0) (.slice none 0 0)) := Lib.hid Kin.new
    have W0 := Lib.hid (belowD w (.cells #[.int .i64 0, .slice none 0 0] 59))
    generalize txB [] = E at HCT HRL
    clear hp he hM hb hsz hc hl
    go_enter Tryd.func50, Tryd.ntmps50
    go_wp2_with (first | (go_at_call 88; refine (HCT.out _ W0.out).mono ?_; rintro e w2 ⟨rfl, hb2⟩; have HR2 := Lib.hid (HR.out.below hb2); have HW2 : Hid (Below w.heap.size w w2) := Lib.hid (Below.next W0.out hb2); clear hb2) | (go_at_call 18; refine (HRD.out _ HW2.out).mono ?_; rintro e w4 hq; obtain ⟨x4, b4, rfl, hb4⟩ := rd_form hq; clear hq; have HR4 := Lib.hid (HR2.out.below hb4); have HW4 : Hid (Below w.heap.size w w4) := Lib.hid (Below.next HW2.out hb4); clear hb4) | (go_at_call 24; refine (HRL.out _ HW4.out).mono ?_; rintro e w6 hq; obtain ⟨v6, b6, rfl, hb6⟩ := rl_form hq; clear hq; have HRF := Lib.hid (HR4.out.below hb6); have HWF : Hid (Below w.heap.size w w6) := Lib.hid (Below.next HW4.out hb6); obtain ⟨hQ, hq0, hq1, hqf0, hqf1⟩ := HRF.out; clear hb6) | fail)
    obtain ⟨_, hr1, hr2⟩ := HRF.out.res (.int .i64 0) (.slice none 0 0)
    exact bodyPost_ret (v := .tuple #[.agg #[.int .i64 0, .slice none 0 0], .bool false]) (by simp [results, Tryd.results50, go_sem, hr1, hr2]) rfl
      (.inr ⟨HF.out, rfl, (by repeat (first | exact Below.refl _ _ | exact HWF.out | refine Below.drew ?_ | refine Below.drewN' ?_ _ | refine Below.alloc ?_ (by first | (simp; done) | (simp; omega)) _ | refine Below.setCell ?_ (by first | (simp; done) | (simp; omega)) _))⟩)
  · have hA : (txB a).size ≤ 1048576 := by rw [txB_size]; omega
    have hB : (txB b).size ≤ 1048576 := by rw [txB_size]; omega
    have h := rp_impl s (txB a) (txB b) hA hB w0 w (fun W h1 => ct_impl s 59 hc hs w0 W hM (Below.next hb h1)) hp he hM hb
    rcases cut_rest 59 b with h1 | ⟨h1, h2⟩
    · have e : rpL s = [a, b] := by unfold rpL; rw [hl, h1]
      have e2 : rpOk s = rpA (txB a) (txB b) := by rw [rp_l2 (by rw [e]; rfl), e]; rfl
      have e3 : rpR s = rpR1 (txB a) := by unfold rpR; rw [e]; rfl
      have e4 : rpN s = rlN (txB b) := by unfold rpN; rw [e]; rfl
      have e5 : rpZ s = rlV (txB b) := by unfold rpZ; rw [e]; rfl
      rw [e2, e3, e4, e5]; exact h
    · have e2 : rpOk s = false := rp_l1 (by unfold rpL; rw [hl]; simp; omega)
      rw [e2]
      exact h.mono (fun _ _ q => q.no (rpA_mark h1 _))
end Go.Proofs.YthkabonnclfhmaaDoor
