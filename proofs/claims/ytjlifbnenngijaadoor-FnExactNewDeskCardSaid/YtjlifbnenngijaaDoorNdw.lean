
/- NewDesk: the functions. -/
import Derived.Test.YtjlifbnenngijaaDoorHmi6
import Derived.Test.YtjlifbnenngijaaDoorDkh
set_option linter.unusedVariables false
namespace Go.Proofs.YtjlifbnenngijaaDoor
open Go.Proofs.YtjlifbnenngijaaDoor.Flo Go.RowKit Go.Shelf Go.Proofs.YtjlifbnenngijaaDoor.Pr

def ndZ : List Nat := [1056964608, 1048576000, 1048576000]
def ndI : List Int := [1, 2, 2]
theorem Mine.nf {w0 w : World} {L : List (Nat × Ent)} (h : Mine w0 w L) (T : TypeId) : Mine w0 (w.alloc (.cells #[.float .f32 1056964608, .float .f32 1048576000, .float .f32 1048576000] T)) ((w.heap.size, .fl 3 ndZ) :: L) :=
  h.push (belowA _ _) (Nat.le_refl _) (by simp) ⟨rfl, fun i hi => by
    have hi : i < 3 := hi
    refine ⟨?_, World.frozen?_alloc_at _ _ _ _ rfl⟩
    rw [World.cell?_alloc_at _ _ _ _ rfl]
    match i, hi with
    | 0, _ => rfl
    | 1, _ => rfl
    | 2, _ => rfl⟩
theorem Mine.ni {w0 w : World} {L : List (Nat × Ent)} (h : Mine w0 w L) (T : TypeId) : Mine w0 (w.alloc (.cells #[.int .i64 1, .int .i64 2, .int .i64 2] T)) ((w.heap.size, .il 3 ndI) :: L) :=
  h.push (belowA _ _) (Nat.le_refl _) (by simp) ⟨rfl, fun i hi => by
    have hi : i < 3 := hi
    refine ⟨?_, World.frozen?_alloc_at _ _ _ _ rfl⟩
    rw [World.cell?_alloc_at _ _ _ _ rfl]
    match i, hi with
    | 0, _ => rfl
    | 1, _ => rfl
    | 2, _ => rfl⟩
theorem Mine.perm3 {w0 w : World} {L : List (Nat × Ent)} {a b c d e : Nat × Ent} (h : Mine w0 w (a :: b :: c :: d :: e :: L)) : Mine w0 w (d :: a :: b :: L) :=
  h.part _ (fun r hr => by
    rcases List.mem_cons.1 hr with e1 | hr
    · subst e1; simp
    · rcases List.mem_cons.1 hr with e1 | hr
      · subst e1; simp
      · rcases List.mem_cons.1 hr with e1 | hr
        · subst e1; simp
        · simp [hr]) (fun hn => by
    simp only [List.map_cons, List.nodup_cons, List.mem_cons, not_or] at hn ⊢
    obtain ⟨⟨h1, h2, h3, h4, h5⟩, ⟨h6, h7, h8, h9⟩, ⟨h10, h11, h12⟩, ⟨h13, h14⟩, h15, h16⟩ := hn
    exact ⟨⟨fun e => h3 e.symm, fun e => h7 e.symm, h14⟩, ⟨h1, h5⟩, h9, h16⟩)
/-- What a new desk is. -/
def NdPost (W : Int) (K : Nat) (LR : List Int) (w0 w : World) (L : List (Nat × Ent)) (e : Ending) (w' : World) : Prop :=
  ∃ p1 c1 p2 c2 p3 c3, e = .returned (.agg #[.slice (some ⟨p1, 0, none⟩) 3 c1, .slice (some ⟨p2, 0, none⟩) 3 c2, .int .i64 W, .slice (some ⟨p3, 0, none⟩) K c3, .string ⟨#[48, 49, 48, 49, 49]⟩]) ∧ Mine w0 w' ((p3, .il K LR) :: (p2, .il 3 ndI) :: (p1, .fl 3 ndZ) :: L)
set_option maxRecDepth 100000 in
set_option maxHeartbeats 8000000 in
theorem nd_spec (W : Int) (K : Nat) (LR : List Int) (w w0 : World) (L : List (Nat × Ent)) (h : Mine w0 w L) (HM : Hid (∀ w3 : World, Calls Tryd.prog 12 #[.int .i64 3] w3 (YPost W K LR w3))) :
    Calls Tryd.prog 36 #[] w (NdPost W K LR w0 w L) := by
  unfold YPost at HM
  have h4 := (((h.alloc5 (.slice none 0 0) (.slice none 0 0) (.int .i64 0) (.slice none 0 0) (.string ⟨#[]⟩) 51).nf 76).ni 2).alloc5 (.slice (some ⟨w.heap.size + 1, 0, none⟩) 3 3) (.slice (some ⟨w.heap.size + 1 + 1, 0, none⟩) 3 3) (.int .i64 0) (.slice none 0 0) (.string ⟨#[]⟩) 51
  simp only [World.size_alloc] at h4
  have H4 := Lib.hid h4
  clear h h4
  go_enter Tryd.func36, Tryd.ntmps36
  go_wp2_with fail
  refine (HM.out _).mono ?_
  rintro e w2 ⟨g, cp, rfl, hnw⟩
  have h6 := (H4.out.add hnw).alloc2 (.int .i64 W) (.slice (some ⟨g, 0, none⟩) K cp) 24
  obtain ⟨⟨ha0, ha1, ha2, ha3, ha4⟩, fa0, fa1, fa2, fa3, fa4⟩ := h6.box5 2 rfl
  obtain ⟨⟨hb0, hb1, hb2, hb3, hb4⟩, fb0, fb1, fb2, fb3, fb4⟩ := h6.box5 5 rfl
  have hs2 := hnw.2.2.2.size
  simp at hs2
  have hne1 : ¬ w.heap.size + 1 + 1 + 1 = w2.heap.size := by omega
  have hne2 : ¬ w.heap.size = w2.heap.size := by omega
  have hne3 : ¬ w2.heap.size = w.heap.size + 1 + 1 + 1 := by omega
  have hne4 : ¬ w2.heap.size = w.heap.size := by omega
  have hfin := (((((((h6.sv 2 2 rfl (by simp) (.int .i64 W)).sv 2 3 rfl (by simp) (.slice (some ⟨g, 0, none⟩) K cp)).sv 2 4 rfl (by simp) (.string ⟨#[48, 49, 48, 49, 49]⟩)).sv 5 0 rfl (by simp) (.slice (some ⟨w.heap.size + 1, 0, none⟩) 3 3)).sv 5 1 rfl (by simp) (.slice (some ⟨w.heap.size + 1 + 1, 0, none⟩) 3 3)).sv 5 2 rfl (by simp) (.int .i64 W)).sv 5 3 rfl (by simp) (.slice (some ⟨g, 0, none⟩) K cp)).sv 5 4 rfl (by simp) (.string ⟨#[48, 49, 48, 49, 49]⟩)
  obtain ⟨⟨g0, g1, g2, g3, g4⟩, _⟩ := hfin.box5 5 rfl
  have HFIN := Lib.hid hfin
  have G0 := Lib.hid (And.intro g0 (And.intro g1 (And.intro g2 (And.intro g3 g4))))
  clear hfin h6 hnw g0 g1 g2 g3 g4 hs2
  go_wp2
  obtain ⟨g0, g1, g2, g3, g4⟩ := G0.out
  exact bodyPost_ret (v := .agg #[.slice (some ⟨w.heap.size + 1, 0, none⟩) 3 3, .slice (some ⟨w.heap.size + 1 + 1, 0, none⟩) 3 3, .int .i64 W, .slice (some ⟨g, 0, none⟩) K cp, .string ⟨#[48, 49, 48, 49, 49]⟩]) (by simp [results, Tryd.results36, go_sem, g0, g1, g2, g3, g4]) rfl
    ⟨_, _, _, _, _, _, rfl, HFIN.out.sub (.cons _ (.cons_cons _ (.cons _ (.cons_cons _ (.cons_cons _ (.cons _ (List.Sublist.refl _)))))))⟩
set_option maxRecDepth 100000 in
set_option maxHeartbeats 8000000 in
theorem nd_impl (W : Int) (K : Nat) (LR : List Int) (w w0 : World) (L : List (Nat × Ent)) (h : Mine w0 w L) (HM : Hid (∀ w3 : World, Below w0.heap.size w0 w3 → Calls Tryd.prog 13 #[.int .i64 3] w3 (YPost W K LR w3))) :
    Calls Tryd.prog 37 #[] w (NdPost W K LR w0 w L) := by
  unfold YPost at HM
  have h1 := h.alloc5 (.slice none 0 0) (.slice none 0 0) (.int .i64 0) (.slice none 0 0) (.string ⟨#[]⟩) 51
  have HC := Lib.hid (HM.out _ h1.out)
  have H1 := Lib.hid h1
  clear h h1 HM
  go_enter Tryd.func37, Tryd.ntmps37
  go_wp2_with fail
  refine HC.out.mono ?_
  rintro e w2 ⟨g, cp, rfl, hnw⟩
  have h6 := (((H1.out.add hnw).alloc2 (.int .i64 W) (.slice (some ⟨g, 0, none⟩) K cp) 24).nf 76).ni 2
  simp only [World.size_alloc] at h6
  have hs2 := hnw.2.2.2.size
  simp at hs2
  obtain ⟨⟨hb0, hb1, hb2, hb3, hb4⟩, fb0, fb1, fb2, fb3, fb4⟩ := h6.box5 4 rfl
  have hne2 : ¬ w.heap.size = w2.heap.size := by omega
  have hne4 : ¬ w2.heap.size = w.heap.size := by omega
  have hfin := ((((h6.sv 4 0 rfl (by simp) (.slice (some ⟨w2.heap.size + 1, 0, none⟩) 3 3)).sv 4 1 rfl (by simp) (.slice (some ⟨w2.heap.size + 1 + 1, 0, none⟩) 3 3)).sv 4 2 rfl (by simp) (.int .i64 W)).sv 4 3 rfl (by simp) (.slice (some ⟨g, 0, none⟩) K cp)).sv 4 4 rfl (by simp) (.string ⟨#[48, 49, 48, 49, 49]⟩)
  obtain ⟨⟨g0, g1, g2, g3, g4⟩, _⟩ := hfin.box5 4 rfl
  have HFIN := Lib.hid hfin
  have G0 := Lib.hid (And.intro g0 (And.intro g1 (And.intro g2 (And.intro g3 g4))))
  clear hfin h6 hnw g0 g1 g2 g3 g4 hs2
  go_wp2
  obtain ⟨g0, g1, g2, g3, g4⟩ := G0.out
  exact bodyPost_ret (v := .agg #[.slice (some ⟨w2.heap.size + 1, 0, none⟩) 3 3, .slice (some ⟨w2.heap.size + 1 + 1, 0, none⟩) 3 3, .int .i64 W, .slice (some ⟨g, 0, none⟩) K cp, .string ⟨#[48, 49, 48, 49, 49]⟩]) (by simp [results, Tryd.results37, go_sem, g0, g1, g2, g3, g4]) rfl
    ⟨_, _, _, _, _, _, rfl, HFIN.out.perm3⟩
end Go.Proofs.YtjlifbnenngijaaDoor
