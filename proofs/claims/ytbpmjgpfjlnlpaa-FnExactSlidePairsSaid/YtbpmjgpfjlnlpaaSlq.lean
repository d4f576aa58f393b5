/- What slides: the program. -/
import Derived.Test.YtbpmjgpfjlnlpaaSlv
namespace Go.Proofs.Ytbpmjgpfjlnlpaa
open Go.Proofs.Ytbpmjgpfjlnlpaa.Flo Go.RowKit

def spB (zs : List Int) (m : Nat) (x y : Int) : Bool := itB zs m x && decide (1 ≤ y ∧ y ≤ 64)
theorem sp_out {zs : List Int} {m : Nat} {x y : Int} (h : spB zs m x y = true) : itB zs m x = true ∧ 1 ≤ y ∧ y ≤ 64 := by
  unfold spB at h
  rw [Bool.and_eq_true] at h
  exact ⟨h.1, of_decide_eq_true h.2⟩
theorem sp_no {zs : List Int} {m : Nat} {x y : Int} (h : spB zs m x y = false) (hi : itB zs m x = true) : ¬ (1 ≤ y ∧ y ≤ 64) := by
  unfold spB at h
  rw [hi, Bool.true_and] at h
  exact of_decide_eq_false h
theorem app_three (L : List Int) (x y z : Int) : (L ++ [x, y, z]).map (Value.int .i64) = L.map (Value.int .i64) ++ [.int .i64 x, .int .i64 y, .int .i64 z] := by simp
theorem sl_succ (zs : List Int) {m win s : Nat} (h : (slK zs m win s).1 < m) : slK zs m win (s + 1) =
      ((slK zs m win s).1 + (bsK zs (slK zs m win s).1 (m - (slK zs m win s).1 - 1) (min win (slK zs m win s).1)).2 + 1,
       (slK zs m win s).2 ++ [((bsK zs (slK zs m win s).1 (m - (slK zs m win s).1 - 1) (min win (slK zs m win s).1)).1 : Int), ((bsK zs (slK zs m win s).1 (m - (slK zs m win s).1 - 1) (min win (slK zs m win s).1)).2 : Int), zs.getD ((slK zs m win s).1 + (bsK zs (slK zs m win s).1 (m - (slK zs m win s).1 - 1) (min win (slK zs m win s).1)).2) 0]) := if_pos h
set_option maxRecDepth 100000 in
set_option maxHeartbeats 8000000 in
theorem sp_impl (a : Option Addr) (m cap : Nat) (zs : List Int) (x : Int) (win : Nat) (w : World) (h : IRow w a m zs) (hok : itB zs m x = true) (hw1 : 1 ≤ win) (hw64 : win ≤ 64) :
    Calls Try.prog 30 #[.slice a m cap, .int .i64 x, .int .i64 (win : Int)] w (UPost true (slR zs m win) w) := by
  obtain ⟨i0, hi0, hz0, hz1, hz2⟩ := info_parts Try.info64
  have hm64 : m ≤ 64 := (it_out hok).2.1
  have HA := Lib.hid h
  have HOK := Lib.hid hok
  have d1 : decide ((win : Int) < 1) = false := decide_eq_false (by omega)
  have d2 : decide (64 < (win : Int)) = false := decide_eq_false (by omega)
  clear h hok
  go_enter Try.func30, Try.ntmps30
  go_wp2_with (first | (go_at_call 82; refine (itx_impl a m cap zs x _ HA.out (by omega)).mono ?_; rw [HOK.out]; rintro e w' ⟨rfl, hw⟩; subst hw) | fail)
  go_loopw [8, 9] (fun v0 iv wr0 => ∃ (s : Nat) (v : Value) (wr : World), v = v0 ∧ iv = .int .i64 ((slK zs m win s).1 : Int) ∧ wr = wr0 ∧ Hid (wr.ownsRow w.heap.size 2 1 v (slK zs m win s).2.length ((slK zs m win s).2.map (Value.int .i64))) ∧ Hid (Below w.heap.size w wr)) (fun _ iv _ => m - (intOf iv).toNat)
  case atStart => exact ⟨0, _, _, rfl, rfl, rfl, Lib.hid (World.ownsRow_nil _ _ _ _), Lib.hid (Below.refl _ _)⟩
  case round =>
    obtain ⟨s, v, wr, rfl, rfl, rfl, HO, HW⟩ := hrel
    have hat := sl_at zs m win s
    by_cases hlt : (slK zs m win s).1 < m
    · have HSU := Lib.hid (sl_succ zs hlt)
      have HO1 := Lib.hid HO.out
      have HNE := Lib.hid (own_block HO.out)
      have hsz := HW.out.size
      clear HO
      generalize slK zs m win s = X at HO1 HSU hat hlt
      obtain ⟨p, R⟩ := X
      have HO1 : Hid (wr.ownsRow w.heap.size 2 1 v R.length (R.map (Value.int .i64))) := HO1
      have hlt : p < m := hlt
      have hR : R.length ≤ 3 * p := hat.2.2
      clear hat
      obtain ⟨lim, hlim⟩ : ∃ lim, lim = m - p - 1 := ⟨_, rfl⟩
      have HSU : Hid (slK zs m win (s + 1) = (p + (bsK zs p lim (min win p)).2 + 1, R ++ [((bsK zs p lim (min win p)).1 : Int), ((bsK zs p lim (min win p)).2 : Int), zs.getD (p + (bsK zs p lim (min win p)).2) 0])) := Lib.hid (by rw [hlim]; exact HSU.out)
      have hpl : p + lim < m := by omega
      have hbl := (bs_le zs p lim (min win p)).1
      obtain ⟨d, hd⟩ : ∃ d, d = m - p := ⟨_, rfl⟩
      have hq1 : (m : Int) - (p : Int) = (d : Int) := by omega
      have hq2 : (d : Int) - 1 = (lim : Int) := by omega
      have HMA := Lib.hid (fun W (hW : IRow W a m zs) => ma_impl a m cap zs p win lim W hW hm64 hpl hw64)
      clear hlim hd
      generalize bsK zs p lim (min win p) = Y at HSU HMA hbl
      obtain ⟨F, L⟩ := Y
      have hbl : L ≤ lim := hbl
      obtain ⟨b1, o1, rfl, _, hck⟩ := (HA.out.below HW.out).cell' (k := p + L) (by omega)
      obtain ⟨y, hy⟩ : ∃ y, y = p + L := ⟨_, rfl⟩
      have hym : y < m := by omega
      have hq3 : (p : Int) + (L : Int) = (y : Int) := by omega
      have HN2 : Hid ((slK zs m win (s + 1)).2.length = R.length + 3) := Lib.hid (by rw [HSU.out]; simp)
      have HS1 : Hid ((slK zs m win (s + 1)).1 = y + 1) := Lib.hid (by rw [HSU.out, hy])
      have HS2 : Hid ((slK zs m win (s + 1)).2 = R ++ [(F : Int), (L : Int), zs.getD y 0]) := Lib.hid (by rw [HSU.out, hy])
      rw [← hy] at hck
      have HYP : Hid (p ≤ y) := Lib.hid (by omega)
      clear hy HSU
      generalize zs.getD y 0 = c at hck HS2
      go_wp2_with (first | (go_at_call 83; refine (HMA.out _ (HA.out.below HW.out)).mono ?_; rintro e w' ⟨rfl, n9, rfl⟩) | (at_builtin; refine wpList_append_lies _ rfl _ _ 38 rfl (w.heap.size) 2 i0 (.int .i64 0) 1 8 Try.underlying38 hi0 hz0 hz1 hz2 rfl (by omega) v R.length (R.map (Value.int .i64)) rfl (World.ownsRow.alloc (own_drewN HO1.out _) _) ⟨wr.heap.size, 0, none⟩ 3 3 ([(F : Int), (L : Int), c].map (Value.int .i64)) rfl rfl (World.news_of_block (cs := #[.int .i64 (F : Int), .int .i64 (L : Int), .int .i64 c]) (t := 2) (fr := (0, 0)) (heap_alloc_new _ _)) (one_cellsI [(F : Int), (L : Int), c]) (by omega) (by unfold maxLen; omega) (by omega) (by simp; omega) (wr.heap.size + 1) (by simp) ?_; intro gg cp w3 hown1 hgrow hat hlt2; have HO2 := Lib.hid hown1; have HG2 := Lib.hid hgrow; clear hown1 hgrow hat hlt2) | fail)
      exact ⟨⟨s + 1, _, _, rfl, by rw [HS1.out]; first | rfl | go_num | (congr 1), rfl, Lib.hid (by rw [HN2.out, HS2.out, app_three]; exact HO2.out), Lib.hid (Below.grown (Below.alloc (Below.drewN' HW.out _) hsz _) HG2.out (by simp; omega) HNE.out)⟩, by have := HYP.out; show m - ((y : Int) + 1).toNat < m - (p : Int).toNat; omega⟩
    · have HE := Lib.hid (sl_last zs hlt)
      have HRV : Hid (RV w wr v (slR zs m win)) := Lib.hid (by rw [← HE.out]; exact RV.own HO.out HW.out)
      have hd : decide ((((slK zs m win s).1 : Nat) : Int) < (m : Int)) = false := decide_eq_false (by omega)
      generalize (slK zs m win s).1 = p at hlt hd
      go_wp2
      go_ret2
      exact .inl ⟨rfl, ⟨_, rfl, HRV.out⟩, HW.out⟩
end Go.Proofs.Ytbpmjgpfjlnlpaa
