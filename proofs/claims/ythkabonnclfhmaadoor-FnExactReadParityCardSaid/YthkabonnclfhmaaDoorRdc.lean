
/- ReadCode: the functions. -/
import Derived.Test.YthkabonnclfhmaaDoorRll
import Derived.Test.YthkabonnclfhmaaDoorCgv
namespace Go.Proofs.YthkabonnclfhmaaDoor
open Go.Proofs.YthkabonnclfhmaaDoor.Flo Go.RowKit Go.Proofs.YthkabonnclfhmaaDoor.Dcn Go.Proofs.YthkabonnclfhmaaDoor.Cg

theorem irow_of {w' : World} {g n : Nat} {zs : List Int} (h : Ent.ok w' g (.il n zs)) (hg : g < w'.heap.size) (hl : zs.length = n) : IRow w' (some ⟨g, 0, none⟩) n zs :=
  ⟨hl, .inr ⟨g, 0, rfl, hg, fun i hi => by rw [Nat.zero_add]; exact (h.2 i hi).1⟩⟩
theorem ent_fr {w' : World} {g n : Nat} {zs : List Int} (h : Ent.ok w' g (.il n zs)) : ∀ j, j < n → w'.frozen? ⟨g, j, none⟩ = false := fun j hj => (h.2 j hj).2
/-- Is this the text of a code? -/
def rcOk (s : ByteArray) : Bool := rlOk s && codeB (rlV s) (rlN s)
theorem rcOk_l {s : ByteArray} (h : rlOk s = false) : rcOk s = false := by unfold rcOk; rw [h]; rfl
theorem rcOk_c {s : ByteArray} (h : rlOk s = true) : rcOk s = codeB (rlV s) (rlN s) := by unfold rcOk; rw [h]; rfl
def RcPost (s : ByteArray) (w : World) (e : Ending) (w' : World) : Prop :=
  (rcOk s = true ∧ ∃ g cp, e = .returned (.tuple #[.agg #[.slice (some ⟨g, 0, none⟩) (rlN s) cp], .bool true]) ∧ New w w' g (.il (rlN s) (rlV s))) ∨ (rcOk s = false ∧ e = .returned (.tuple #[.agg #[.slice none 0 0], .bool false]) ∧ Below w.heap.size w w')
theorem rlV_len (s : ByteArray) : (rlV s).length = rlN s := by
  unfold rlV rlN
  split <;> simp
set_option maxRecDepth 100000 in
set_option maxHeartbeats 4000000 in
theorem rc_spec (s : ByteArray) (hs : s.size ≤ 1048576) (w : World) :
    Calls Tryd.prog 82 #[.string s] w (RcPost s w) := by
  have HR := Lib.hid (CIn.new w (.slice none 0 0) 48)
  have HRL := Lib.hid (fun W (h1 : Below w.heap.size w W) => rn_spec s hs W)
  have W0 := Lib.hid (belowD w (.cells #[.slice none 0 0] 48))
  cases hok : rlOk s
  · have HBF := Lib.hid (rcOk_l hok)
    have HK := Lib.hid hok
    clear hok
    go_enter Tryd.func82, Tryd.ntmps82
    go_wp2_with (first | (go_at_call 70; refine (HRL.out _ W0.out).mono ?_; rintro e w4 hq; obtain ⟨rfl, hb4⟩ := rl_none hq HK.out; have HPT := Lib.hid ((HR.out.below hb4).put (.slice none 0 0)); have hfr := (HR.out.below hb4).2.2; have hcl := (HR.out.below hb4).2.1; have HWF : Hid (Below w.heap.size w w4) := Lib.hid (Below.next W0.out hb4); clear hb4 hq) | fail)
    exact bodyPost_ret (v := .tuple #[.agg #[.slice none 0 0], .bool false]) (by simp [results, Tryd.results82, go_sem, HPT.out]) rfl
      (.inr ⟨HBF.out, rfl, (by repeat (first | exact Below.refl _ _ | exact HWF.out | refine Below.drew ?_ | refine Below.drewN' ?_ _ | refine Below.alloc ?_ (by first | (simp; done) | (simp; omega)) _ | refine Below.setCell ?_ (by first | (simp; done) | (simp; omega)) _))⟩)
  · have HBE := Lib.hid (rcOk_c hok)
    have hn := rl_n s hok
    have HK := Lib.hid hok
    clear hok
    by_cases hpos : 0 < rlN s
    · have HPOS := Lib.hid hpos
      clear hpos
      cases hcb : codeB (rlV s) (rlN s)
      · have HCB := Lib.hid hcb
        clear hcb
        go_enter Tryd.func82, Tryd.ntmps82
        go_wp2_with (first | (go_at_call 70; refine (HRL.out _ W0.out).mono ?_; rintro e w4 hq; obtain ⟨g, cp, rfl, hg, hgl, hent, hb4⟩ := rl_new hq HK.out HPOS.out; have HIR := Lib.hid (irow_of hent hgl (rlV_len s)); have HR4 := Lib.hid (HR.out.below hb4); have HW4 : Hid (Below w.heap.size w w4) := Lib.hid (Below.next W0.out hb4); clear hb4 hq hent) | (go_at_call 116; refine (cgSN _ (rlN s) _ (rlV s) _ HIR.out hn HCB.out).mono ?_; rintro e w6 ⟨rfl, hb6⟩; have HPT := Lib.hid ((HR4.out.below hb6).put (.slice none 0 0)); have hfr := (HR4.out.below hb6).2.2; have hcl := (HR4.out.below hb6).2.1; have HWF : Hid (Below w.heap.size w w6) := Lib.hid (Below.next HW4.out hb6); clear hb6) | fail)
        exact bodyPost_ret (v := .tuple #[.agg #[.slice none 0 0], .bool false]) (by simp [results, Tryd.results82, go_sem, HPT.out]) rfl
          (.inr ⟨HBE.out.trans HCB.out, rfl, (by repeat (first | exact Below.refl _ _ | exact HWF.out | refine Below.drew ?_ | refine Below.drewN' ?_ _ | refine Below.alloc ?_ (by first | (simp; done) | (simp; omega)) _ | refine Below.setCell ?_ (by first | (simp; done) | (simp; omega)) _))⟩)
      · have HCB := Lib.hid hcb
        clear hcb
        go_enter Tryd.func82, Tryd.ntmps82
        go_wp2_with (first | (go_at_call 70; refine (HRL.out _ W0.out).mono ?_; rintro e w4 hq; obtain ⟨g, cp, rfl, hg, hgl, hent, hb4⟩ := rl_new hq HK.out HPOS.out; have HIR := Lib.hid (irow_of hent hgl (rlV_len s)); have HFZ := Lib.hid (fun j hj => (ent_fr hent) j hj); have HGG := Lib.hid hg; have HGL := Lib.hid hgl; have HR4 := Lib.hid (HR.out.below hb4); have HW4 : Hid (Below w.heap.size w w4) := Lib.hid (Below.next W0.out hb4); clear hb4 hq hent hg hgl) | (go_at_call 116; refine (cgSY _ (rlN s) _ (rlV s) _ HIR.out hn HCB.out).mono ?_; rintro e w6 ⟨rfl, hb6⟩; have HPT := Lib.hid ((HR4.out.below hb6).put (.slice (some ⟨g, 0, none⟩) (rlN s) cp)); have hfr := (HR4.out.below hb6).2.2; have hcl := (HR4.out.below hb6).2.1; have HD6 := Lib.hid hb6; have HWF : Hid (Below w.heap.size w w6) := Lib.hid (Below.next HW4.out hb6); clear hb6) | fail)
        have hne9 : w.heap.size ≠ g := by have := HGG.out; simp at this; omega
        have HNW := Lib.hid (new_set (p := w.heap.size) (by have := HGG.out; simp at this; omega) (Nat.lt_of_lt_of_le HGL.out HD6.out.size) (HIR.out.below HD6.out) (fun j hj => (HD6.out.frozen (p := ⟨g, j, none⟩) HGL.out).trans (HFZ.out j hj)) HWF.out hne9 (Nat.le_refl _) (.slice (some ⟨g, 0, none⟩) (rlN s) cp))
        exact bodyPost_ret (v := .tuple #[.agg #[.slice (some ⟨g, 0, none⟩) (rlN s) cp], .bool true]) (by simp [results, Tryd.results82, go_sem, HPT.out]) rfl
          (.inl ⟨HBE.out.trans HCB.out, g, cp, rfl, HNW.out⟩)
    · have h0 : rlN s = 0 := by omega
      have HN0 := Lib.hid h0
      have HCB : Hid (codeB (rlV s) 0 = false) := Lib.hid (code_len (by omega))
      have HCF : Hid (rcOk s = false) := Lib.hid (by rw [HBE.out, h0]; exact HCB.out)
      have HV0 : Hid ((rlV s).length = 0) := Lib.hid (by rw [rlV_len, h0])
      clear h0 hpos
      go_enter Tryd.func82, Tryd.ntmps82
      go_wp2_with (first | (go_at_call 70; refine (HRL.out _ W0.out).mono ?_; rintro e w4 hq; obtain ⟨b, cp, rfl, hb4⟩ := rl_zero hq HK.out HN0.out; have HR4 := Lib.hid (HR.out.below hb4); have HW4 : Hid (Below w.heap.size w w4) := Lib.hid (Below.next W0.out hb4); clear hb4 hq) | (go_at_call 116; refine (cgSN _ 0 _ (rlV s) _ ⟨HV0.out, .inl rfl⟩ (by omega) HCB.out).mono ?_; rintro e w6 ⟨rfl, hb6⟩; have HPT := Lib.hid ((HR4.out.below hb6).put (.slice none 0 0)); have hfr := (HR4.out.below hb6).2.2; have hcl := (HR4.out.below hb6).2.1; have HWF : Hid (Below w.heap.size w w6) := Lib.hid (Below.next HW4.out hb6); clear hb6) | fail)
      exact bodyPost_ret (v := .tuple #[.agg #[.slice none 0 0], .bool false]) (by simp [results, Tryd.results82, go_sem, HPT.out]) rfl
        (.inr ⟨HCF.out, rfl, (by repeat (first | exact Below.refl _ _ | exact HWF.out | refine Below.drew ?_ | refine Below.drewN' ?_ _ | refine Below.alloc ?_ (by first | (simp; done) | (simp; omega)) _ | refine Below.setCell ?_ (by first | (simp; done) | (simp; omega)) _))⟩)
set_option maxRecDepth 100000 in
set_option maxHeartbeats 4000000 in
theorem rc_impl (s : ByteArray) (hs : s.size ≤ 1048576) (w0 : World) (w : World) (hp : Pow w0) (he : Errs w0) (hM : MaxL w0) (hb : Below w0.heap.size w0 w) :
    Calls Tryd.prog 41 #[.string s] w (RcPost s w) := by
  have HR := Lib.hid (CIn.new w (.slice none 0 0) 48)
  have HRL := Lib.hid (fun W (h1 : Below w.heap.size w W) => rl_impl s hs w0 W hp he hM (Below.next hb h1))
  have W0 := Lib.hid (belowD w (.cells #[.slice none 0 0] 48))
  clear hp he hM hb
  cases hok : rlOk s
  · have HBF := Lib.hid (rcOk_l hok)
    have HK := Lib.hid hok
    clear hok
    go_enter Tryd.func41, Tryd.ntmps41
    go_wp2_with (first | (go_at_call 24; refine (HRL.out _ W0.out).mono ?_; rintro e w4 hq; obtain ⟨rfl, hb4⟩ := rl_none hq HK.out; have HPT := Lib.hid ((HR.out.below hb4).put (.slice none 0 0)); have hfr := (HR.out.below hb4).2.2; have hcl := (HR.out.below hb4).2.1; have HWF : Hid (Below w.heap.size w w4) := Lib.hid (Below.next W0.out hb4); clear hb4 hq) | fail)
    exact bodyPost_ret (v := .tuple #[.agg #[.slice none 0 0], .bool false]) (by simp [results, Tryd.results41, go_sem, HPT.out]) rfl
      (.inr ⟨HBF.out, rfl, (by repeat (first | exact Below.refl _ _ | exact HWF.out | refine Below.drew ?_ | refine Below.drewN' ?_ _ | refine Below.alloc ?_ (by first | (simp; done) | (simp; omega)) _ | refine Below.setCell ?_ (by first | (simp; done) | (simp; omega)) _))⟩)
  · have HBE := Lib.hid (rcOk_c hok)
    have hn := rl_n s hok
    have HK := Lib.hid hok
    clear hok
    by_cases hpos : 0 < rlN s
    · have HPOS := Lib.hid hpos
      clear hpos
      cases hcb : codeB (rlV s) (rlN s)
      · have HCB := Lib.hid hcb
        clear hcb
        go_enter Tryd.func41, Tryd.ntmps41
        go_wp2_with (first | (go_at_call 24; refine (HRL.out _ W0.out).mono ?_; rintro e w4 hq; obtain ⟨g, cp, rfl, hg, hgl, hent, hb4⟩ := rl_new hq HK.out HPOS.out; have HIR := Lib.hid (irow_of hent hgl (rlV_len s)); have HR4 := Lib.hid (HR.out.below hb4); have HW4 : Hid (Below w.heap.size w w4) := Lib.hid (Below.next W0.out hb4); clear hb4 hq hent) | (go_at_call 83; refine (cgIN _ (rlN s) _ (rlV s) _ HIR.out hn HCB.out).mono ?_; rintro e w6 ⟨rfl, hb6⟩; have HPT := Lib.hid ((HR4.out.below hb6).put (.slice none 0 0)); have hfr := (HR4.out.below hb6).2.2; have hcl := (HR4.out.below hb6).2.1; have HWF : Hid (Below w.heap.size w w6) := Lib.hid (Below.next HW4.out hb6); clear hb6) | fail)
        exact bodyPost_ret (v := .tuple #[.agg #[.slice none 0 0], .bool false]) (by simp [results, Tryd.results41, go_sem, HPT.out]) rfl
          (.inr ⟨HBE.out.trans HCB.out, rfl, (by repeat (first | exact Below.refl _ _ | exact HWF.out | refine Below.drew ?_ | refine Below.drewN' ?_ _ | refine Below.alloc ?_ (by first | (simp; done) | (simp; omega)) _ | refine Below.setCell ?_ (by first | (simp; done) | (simp; omega)) _))⟩)
      · have HCB := Lib.hid hcb
        clear hcb
        go_enter Tryd.func41, Tryd.ntmps41
        go_wp2_with (first | (go_at_call 24; refine (HRL.out _ W0.out).mono ?_; rintro e w4 hq; obtain ⟨g, cp, rfl, hg, hgl, hent, hb4⟩ := rl_new hq HK.out HPOS.out; have HIR := Lib.hid (irow_of hent hgl (rlV_len s)); have HFZ := Lib.hid (fun j hj => (ent_fr hent) j hj); have HGG := Lib.hid hg; have HGL := Lib.hid hgl; have HR4 := Lib.hid (HR.out.below hb4); have HW4 : Hid (Below w.heap.size w w4) := Lib.hid (Below.next W0.out hb4); clear hb4 hq hent hg hgl) | (go_at_call 83; refine (cgIY _ (rlN s) _ (rlV s) _ HIR.out hn HCB.out).mono ?_; rintro e w6 ⟨rfl, hb6⟩; have HPT := Lib.hid ((HR4.out.below hb6).put (.slice (some ⟨g, 0, none⟩) (rlN s) cp)); have hfr := (HR4.out.below hb6).2.2; have hcl := (HR4.out.below hb6).2.1; have HD6 := Lib.hid hb6; have HWF : Hid (Below w.heap.size w w6) := Lib.hid (Below.next HW4.out hb6); clear hb6) | fail)
        have hne9 : w.heap.size ≠ g := by have := HGG.out; simp at this; omega
        have HNW := Lib.hid (new_set (p := w.heap.size) (by have := HGG.out; simp at this; omega) (Nat.lt_of_lt_of_le HGL.out HD6.out.size) (HIR.out.below HD6.out) (fun j hj => (HD6.out.frozen (p := ⟨g, j, none⟩) HGL.out).trans (HFZ.out j hj)) HWF.out hne9 (Nat.le_refl _) (.slice (some ⟨g, 0, none⟩) (rlN s) cp))
        exact bodyPost_ret (v := .tuple #[.agg #[.slice (some ⟨g, 0, none⟩) (rlN s) cp], .bool true]) (by simp [results, Tryd.results41, go_sem, HPT.out]) rfl
          (.inl ⟨HBE.out.trans HCB.out, g, cp, rfl, HNW.out⟩)
    · have h0 : rlN s = 0 := by omega
      have HN0 := Lib.hid h0
      have HCB : Hid (codeB (rlV s) 0 = false) := Lib.hid (code_len (by omega))
      have HCF : Hid (rcOk s = false) := Lib.hid (by rw [HBE.out, h0]; exact HCB.out)
      have HV0 : Hid ((rlV s).length = 0) := Lib.hid (by rw [rlV_len, h0])
      clear h0 hpos
      go_enter Tryd.func41, Tryd.ntmps41
      go_wp2_with (first | (go_at_call 24; refine (HRL.out _ W0.out).mono ?_; rintro e w4 hq; obtain ⟨b, cp, rfl, hb4⟩ := rl_zero hq HK.out HN0.out; have HR4 := Lib.hid (HR.out.below hb4); have HW4 : Hid (Below w.heap.size w w4) := Lib.hid (Below.next W0.out hb4); clear hb4 hq) | (go_at_call 83; refine (cgIN _ 0 _ (rlV s) _ ⟨HV0.out, .inl rfl⟩ (by omega) HCB.out).mono ?_; rintro e w6 ⟨rfl, hb6⟩; have HPT := Lib.hid ((HR4.out.below hb6).put (.slice none 0 0)); have hfr := (HR4.out.below hb6).2.2; have hcl := (HR4.out.below hb6).2.1; have HWF : Hid (Below w.heap.size w w6) := Lib.hid (Below.next HW4.out hb6); clear hb6) | fail)
      exact bodyPost_ret (v := .tuple #[.agg #[.slice none 0 0], .bool false]) (by simp [results, Tryd.results41, go_sem, HPT.out]) rfl
        (.inr ⟨HCF.out, rfl, (by repeat (first | exact Below.refl _ _ | exact HWF.out | refine Below.drew ?_ | refine Below.drewN' ?_ _ | refine Below.alloc ?_ (by first | (simp; done) | (simp; omega)) _ | refine Below.setCell ?_ (by first | (simp; done) | (simp; omega)) _))⟩)
theorem rc_yes {s : ByteArray} {w w' : World} {e : Ending} (h : RcPost s w e w') (hok : rcOk s = true) : ∃ g cp, e = .returned (.tuple #[.agg #[.slice (some ⟨g, 0, none⟩) (rlN s) cp], .bool true]) ∧ New w w' g (.il (rlN s) (rlV s)) := by
  rcases h with ⟨_, h⟩ | ⟨h, _⟩
  · exact h
  · rw [hok] at h; cases h
theorem rc_no {s : ByteArray} {w w' : World} {e : Ending} (h : RcPost s w e w') (hok : rcOk s = false) : e = .returned (.tuple #[.agg #[.slice none 0 0], .bool false]) ∧ Below w.heap.size w w' := by
  rcases h with ⟨h, _⟩ | ⟨_, h⟩
  · rw [hok] at h; cases h
  · exact h
set_option maxRecDepth 100000 in
set_option maxHeartbeats 2000000 in
theorem rcS (s : ByteArray) (hs : s.size ≤ 1048576) (w : World) : Calls Tryd.prog 40 #[.string s] w (RcPost s w) := by
  have HR := Lib.hid (CIn.new w (.slice none 0 0) 48)
  have HRC := Lib.hid (fun W => rc_spec s hs W)
  have W0 := Lib.hid (belowD w (.cells #[.slice none 0 0] 48))
  cases hok : rcOk s
  · have HK := Lib.hid hok
    clear hok
    go_enter Tryd.func40, Tryd.ntmps40
    go_wp2_with (first | (go_at_call 82; refine (HRC.out _).mono ?_; rintro e w4 hq; obtain ⟨rfl, hb4⟩ := rc_no hq HK.out; have HPT := Lib.hid ((HR.out.below hb4).put (.slice none 0 0)); have hfr := (HR.out.below hb4).2.2; have hcl := (HR.out.below hb4).2.1; have HWF : Hid (Below w.heap.size w w4) := Lib.hid (Below.next W0.out hb4); clear hb4 hq) | fail)
    exact bodyPost_ret (v := .tuple #[.agg #[.slice none 0 0], .bool false]) (by simp [results, Tryd.results40, go_sem, HPT.out]) rfl
      (.inr ⟨HK.out, rfl, (by repeat (first | exact Below.refl _ _ | exact HWF.out | refine Below.drew ?_ | refine Below.drewN' ?_ _ | refine Below.alloc ?_ (by first | (simp; done) | (simp; omega)) _ | refine Below.setCell ?_ (by first | (simp; done) | (simp; omega)) _))⟩)
  · have HK := Lib.hid hok
    clear hok
    go_enter Tryd.func40, Tryd.ntmps40
    go_wp2_with (first | (go_at_call 82; refine (HRC.out _).mono ?_; rintro e w4 hq; obtain ⟨g, cp, rfl, hg, hgl, hent, hb4⟩ := rc_yes hq HK.out; have HIR := Lib.hid (irow_of hent hgl (rlV_len s)); have HFZ := Lib.hid (fun j hj => (ent_fr hent) j hj); have HGG := Lib.hid hg; have HGL := Lib.hid hgl; have HPT := Lib.hid ((HR.out.below hb4).put (.slice (some ⟨g, 0, none⟩) (rlN s) cp)); have hfr := (HR.out.below hb4).2.2; have hcl := (HR.out.below hb4).2.1; have HWF : Hid (Below w.heap.size w w4) := Lib.hid (Below.next W0.out hb4); clear hb4 hq hent hg hgl) | fail)
    have hne9 : w.heap.size ≠ g := by have := HGG.out; simp at this; omega
    have HNW := Lib.hid (new_set (p := w.heap.size) (by have := HGG.out; simp at this; omega) HGL.out HIR.out HFZ.out HWF.out hne9 (Nat.le_refl _) (.slice (some ⟨g, 0, none⟩) (rlN s) cp))
    exact bodyPost_ret (v := .tuple #[.agg #[.slice (some ⟨g, 0, none⟩) (rlN s) cp], .bool true]) (by simp [results, Tryd.results40, go_sem, HPT.out]) rfl
      (.inl ⟨HK.out, g, cp, rfl, HNW.out⟩)
end Go.Proofs.YthkabonnclfhmaaDoor
