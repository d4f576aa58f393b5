/- HalveCounts: the functions. -/
import Derived.Test.YtopcmbcdmceieaaPcw
namespace Go.Proofs.Ytopcmbcdmceieaa
open Go.Proofs.Ytopcmbcdmceieaa.Flo Go.RowKit

def hvL (zs : List Int) : Nat → List Int
  | 0 => []
  | k + 1 => hvL zs k ++ [(zs.getD k 0 + 1) / 2]
theorem hvL_on (zs : List Int) (k : Nat) : (hvL zs (k + 1)).map (Value.int .i64) = (hvL zs k).map (Value.int .i64) ++ [.int .i64 ((zs.getD k 0 + 1) / 2)] := by
  show (hvL zs k ++ [(zs.getD k 0 + 1) / 2]).map (Value.int .i64) = _
  simp
set_option maxRecDepth 100000 in
set_option maxHeartbeats 4000000 in
theorem hcI (r : Int) (a : Option Addr) (n cap : Nat) (zs : List Int) (w : World) (h : IRow w a n zs) (hn : n ≤ 1048576) (hok : coB r zs n = true) : Calls Try.prog 36 #[.agg #[.int .i64 r, .slice a n cap]] w (KPost r n (hvL zs n) w) := by
  obtain ⟨i0, hi, hz0, hz1, hz2⟩ := info_parts Try.info64
  obtain ⟨hrn, ⟨hn2, hn16⟩, hpp, _⟩ := co_out hok
  have HA := Lib.hid h
  have HPP := Lib.hid hpp
  have HA2 : Hid (IRow ((w.alloc (.cells #[.int .i64 r, .slice a n cap] 30)).alloc (.cells #[.int .i64 0, .slice none 0 0] 30)) a n zs) := Lib.hid ((h.alloc _).alloc _)
  have HC := Lib.hid ((Kin.new (w := w) (x := .int .i64 r) (y := .slice a n cap) (T := 30)).below (below_alloc _ (.cells #[.int .i64 0, .slice none 0 0] 30)))
  have HR : Hid (Kin ((w.alloc (.cells #[.int .i64 r, .slice a n cap] 30)).alloc (.cells #[.int .i64 0, .slice none 0 0] 30)) (w.heap.size + 1) (.int .i64 0) (.slice none 0 0)) := Lib.hid (Kin.new' (by simp))
  have HOK := Lib.hid hok
  clear h hok hpp
  go_enter Try.func36, Try.ntmps36
  go_wp2_with (first | (go_at_call 22; refine (vco_impl r a n cap zs _ HA2.out hn).mono ?_; rw [HOK.out]; rintro e w2 ⟨rfl, hd⟩; have HC2 := Lib.hid (HC.out.below hd); have HR2 := Lib.hid (HR.out.below hd); have HB := Lib.hid (Below.next (Below.alloc (below_alloc _ _) (by simp) _) hd : Below w.heap.size w w2); obtain ⟨hP, hp0, hp1, hpf0, hpf1⟩ := HC2.out; obtain ⟨hQ, hq0, hq1, hqf0, hqf1⟩ := HR2.out; clear hd) | fail)
  clear hP hp0 hp1 hpf0 hpf1 hQ hq0 hq1 hqf0 hqf1
  have hw2s : w.heap.size + 1 + 1 ≤ w2.heap.size := by have := HR2.out.1; omega
  go_loopw [4, 14] (fun v0 iv wr0 => ∃ (k : Nat) (v : Value) (wr : World), k ≤ n ∧ v = v0 ∧ iv = .int .i64 k ∧ wr = wr0 ∧ Hid (wr.ownsRow w2.heap.size 2 1 v k ((hvL zs k).map (Value.int .i64))) ∧ Hid (Below w2.heap.size w2 wr)) (fun _ iv _ => n - (intOf iv).toNat)
  case atStart => exact ⟨0, _, _, by omega, rfl, rfl, rfl, Lib.hid (World.ownsRow_nil _ _ _ _), Lib.hid (Below.refl _ _)⟩
  case round =>
    obtain ⟨k, v, wr, hk, rfl, rfl, rfl, HO, HW⟩ := hrel
    by_cases hlt : k < n
    · obtain ⟨b1, o1, rfl, hblt, hck1⟩ := (HA.out.below (Below.next HB.out HW.out)).cell' hlt
      have hc := HPP.out k hlt
      have HL := Lib.hid (hvL_on zs k)
      have HO1 := Lib.hid HO.out
      have HNE := Lib.hid (own_block HO.out)
      have hsz := HW.out.size
      clear HO
      generalize zs.getD k 0 = c at hck1 hc HL
      obtain ⟨hc0, hc1⟩ := hc
      have hq : (c + 1).tdiv 2 = (c + 1) / 2 := Int.tdiv_eq_ediv_of_nonneg (by omega)
      have hw4 : IntKind.i64.wrap ((c + 1) / 2) = (c + 1) / 2 := IntWalk.i64_in _ (by omega)
      go_wp2_with (first | (at_builtin; refine wpList_append_lies _ rfl _ _ 22 rfl (w2.heap.size) 2 i0 (.int .i64 0) 1 8 Try.underlying22 hi hz0 hz1 hz2 rfl (by omega) v k ((hvL zs k).map (Value.int .i64)) rfl (World.ownsRow.alloc HO1.out _) ⟨wr.heap.size, 0, none⟩ 1 1 [.int .i64 ((c + 1) / 2)] rfl rfl (World.news_of_block (cs := #[.int .i64 ((c + 1) / 2)]) (t := 2) (fr := (0, 0)) (heap_alloc_new _ _)) (by simp [Value.oneCell']) (by omega) (by unfold maxLen; omega) (by omega) (by simp; omega) (wr.heap.size + 1) (by simp) ?_; intro gg cp w3 hown1 hgrow hat hlt2; have HO2 := Lib.hid hown1; have HG2 := Lib.hid hgrow; clear hown1 hgrow hat hlt2) | fail)
      exact ⟨⟨k + 1, _, _, by omega, rfl, by first | rfl | go_num | (congr 1), rfl, Lib.hid (by rw [HL.out]; exact HO2.out), Lib.hid (Below.grown (Below.alloc HW.out HW.out.size _) HG2.out (by simp; omega) HNE.out)⟩, by show n - ((k : Int) + 1).toNat < n - (k : Int).toNat; omega⟩
    · obtain rfl : k = n := by omega
      obtain ⟨g, cp, rfl, hg, hgl⟩ := World.ownsRow.form HO.out (by omega)
      obtain ⟨hic, hgb⟩ := ICl.own HO.out (by omega)
      have HIC := Lib.hid hic
      have HC3 := Lib.hid (HC2.out.below HW.out)
      have HR3 := Lib.hid (HR2.out.below HW.out)
      obtain ⟨hP, hp0, hp1, hpf0, hpf1⟩ := HC3.out
      obtain ⟨hQ, hq0, hq1, hqf0, hqf1⟩ := HR3.out
      clear hic
      go_wp2
      obtain ⟨_, hr1, hr2⟩ := HR3.out.res (.int .i64 r) (.slice (some ⟨g, 0, none⟩) k cp)
      exact bodyPost_ret (v := .tuple #[.agg #[.int .i64 r, .slice (some ⟨g, 0, none⟩) k cp], .bool true]) (by simp [results, Try.results36, go_sem, hr1, hr2]) rfl
        ⟨g, cp, rfl, ICl.new ((HIC.out.far (by simp; omega) _).far (by simp; omega) _) (by omega) (Below.setCell (Below.setCell (Below.next HB.out HW.out) (by simp) _) (by simp) _)⟩
set_option maxRecDepth 100000 in
set_option maxHeartbeats 4000000 in
theorem hcI' (r : Int) (a : Option Addr) (n cap : Nat) (zs : List Int) (w : World) (h : IRow w a n zs) (hn : n ≤ 1048576) (hok : coB r zs n = false) : Calls Try.prog 36 #[.agg #[.int .i64 r, .slice a n cap]] w (KNone w) := by
  have HA2 : Hid (IRow ((w.alloc (.cells #[.int .i64 r, .slice a n cap] 30)).alloc (.cells #[.int .i64 0, .slice none 0 0] 30)) a n zs) := Lib.hid ((h.alloc _).alloc _)
  have HC := Lib.hid ((Kin.new (w := w) (x := .int .i64 r) (y := .slice a n cap) (T := 30)).below (below_alloc _ (.cells #[.int .i64 0, .slice none 0 0] 30)))
  have HR : Hid (Kin ((w.alloc (.cells #[.int .i64 r, .slice a n cap] 30)).alloc (.cells #[.int .i64 0, .slice none 0 0] 30)) (w.heap.size + 1) (.int .i64 0) (.slice none 0 0)) := Lib.hid (Kin.new' (by simp))
  have HOK := Lib.hid hok
  clear h hok
  go_enter Try.func36, Try.ntmps36
  go_wp2_with (first | (go_at_call 22; refine (vco_impl r a n cap zs _ HA2.out hn).mono ?_; rw [HOK.out]; rintro e w2 ⟨rfl, hd⟩; have HR2 := Lib.hid (HR.out.below hd); have HB := Lib.hid (Below.next (Below.alloc (below_alloc _ _) (by simp) _) hd : Below w.heap.size w w2); obtain ⟨hQ, hq0, hq1, hqf0, hqf1⟩ := HR2.out; clear hd) | fail)
  obtain ⟨_, hr1, hr2⟩ := HR2.out.res (.int .i64 0) (.slice none 0 0)
  exact bodyPost_ret (v := .tuple #[.agg #[.int .i64 0, .slice none 0 0], .bool false]) (by simp [results, Try.results36, go_sem, hr1, hr2]) rfl
    ⟨rfl, Below.setCell (Below.setCell HB.out (by simp) _) (by simp) _⟩
set_option maxRecDepth 100000 in
set_option maxHeartbeats 8000000 in
theorem hcS (r : Int) (a : Option Addr) (n cap : Nat) (zs : List Int) (w : World) (h : IRow w a n zs) (hn : n ≤ 1048576) (hok : coB r zs n = true) : Calls Try.prog 35 #[.agg #[.int .i64 r, .slice a n cap]] w (KPost r n (hvL zs n) w) := by
  obtain ⟨i0, hi, hz0, hz1, hz2⟩ := info_parts Try.info64
  obtain ⟨hrn, ⟨hn2, hn16⟩, hpp, _⟩ := co_out hok
  have HA := Lib.hid h
  have HPP := Lib.hid hpp
  have HA2 : Hid (IRow ((w.alloc (.cells #[.int .i64 r, .slice a n cap] 30)).alloc (.cells #[.int .i64 0, .slice none 0 0] 30)) a n zs) := Lib.hid ((h.alloc _).alloc _)
  have HC := Lib.hid ((Kin.new (w := w) (x := .int .i64 r) (y := .slice a n cap) (T := 30)).below (below_alloc _ (.cells #[.int .i64 0, .slice none 0 0] 30)))
  have HR : Hid (Kin ((w.alloc (.cells #[.int .i64 r, .slice a n cap] 30)).alloc (.cells #[.int .i64 0, .slice none 0 0] 30)) (w.heap.size + 1) (.int .i64 0) (.slice none 0 0)) := Lib.hid (Kin.new' (by simp))
  have HOK := Lib.hid hok
  clear h hok hpp
  go_enter Try.func35, Try.ntmps35
  go_wp2_with (first | (go_at_call 61; refine (co_spec _ r a n cap zs _ HA2.out hn HC.out.2.1 HC.out.2.2.1).mono ?_; rw [HOK.out]; rintro e w2 ⟨rfl, hd⟩; have HC2 := Lib.hid (HC.out.below hd.below); have HR2 := Lib.hid (HR.out.below hd.below); have HB := Lib.hid (Below.next (Below.alloc (below_alloc _ _) (by simp) _) hd.below : Below w.heap.size w w2); obtain ⟨hP, hp0, hp1, hpf0, hpf1⟩ := HC2.out; have hp1a : ∀ o, (w2.alloc o).cell? ⟨w.heap.size, 1, none⟩ = some (.slice a n cap) := (fun o => ((HC2.out.below (below_alloc w2 o))).2.2.1); clear hd) | fail)
  clear hP hp0 hp1 hpf0 hpf1 hp1a
  have hw2s : w.heap.size + 1 + 1 ≤ w2.heap.size := by have := HR2.out.1; omega
  go_loopw [15] (fun iv w' => ∃ (k : Nat) (v : Value) (wr : World), k ≤ n ∧ iv = .int .i64 k ∧ wr = w' ∧ Hid (Kin wr w2.heap.size (.int .i64 r) v) ∧ Hid (wr.ownsRow (w2.heap.size + 1) 2 1 v k ((hvL zs k).map (Value.int .i64))) ∧ Hid (Below w2.heap.size w2 wr)) (fun iv _ => n - (intOf iv).toNat)
  case atStart => exact ⟨0, .slice none 0 0, _, by omega, rfl, rfl, Lib.hid (by first | exact Kin.new | exact Kin.put2 Kin.new _ _ | exact Kin.set0 Kin.new _), Lib.hid (World.ownsRow_nil _ _ _ _), Lib.hid (by repeat (first | exact Below.refl _ _ | refine Below.drew ?_ | refine Below.drewN' ?_ _ | refine Below.setCell ?_ (by first | (simp; done) | (simp; omega)) _ | refine Below.alloc ?_ (by first | exact Nat.le_refl _ | (simp; done) | (simp; omega)) _))⟩
  case round =>
    obtain ⟨k, v, wr, hk, rfl, rfl, HK, HO, HW⟩ := hrel
    have HC3 := Lib.hid (HC2.out.below HW.out)
    by_cases hlt : k < n
    · obtain ⟨b1, o1, rfl, hblt, hck1⟩ := (HA.out.below (Below.next HB.out HW.out)).cell' hlt
      have hc := HPP.out k hlt
      have HL := Lib.hid (hvL_on zs k)
      have HO1 := Lib.hid HO.out
      have HNE := Lib.hid (own_block HO.out)
      have hsz := HW.out.size
      have hb1 : b1 < w.heap.size := by
        rcases HA.out.2 with h9 | ⟨b', o', e, hb', _⟩
        · omega
        · injection e with e; injection e with e1 e2; omega
      have hn2' : some b1 ≠ v.ownBlock := fun e => by have := own_block HO.out b1 e.symm; omega
      have hn3 : some w2.heap.size ≠ v.ownBlock := fun e => by have := own_block HO.out _ e.symm; omega
      have hn4 : some w.heap.size ≠ v.ownBlock := fun e => by have := own_block HO.out _ e.symm; omega
      clear HO
      generalize zs.getD k 0 = c at hck1 hc HL
      obtain ⟨hc0, hc1⟩ := hc
      obtain ⟨hP, hp0, hp1, hpf0, hpf1⟩ := HC3.out
      obtain ⟨hK, hk0, hk1, hkf0, hkf1⟩ := HK.out
      have hq : (c + 1).tdiv 2 = (c + 1) / 2 := Int.tdiv_eq_ediv_of_nonneg (by omega)
      have hw5 : IntKind.i64.wrap (c + 1) = c + 1 := IntWalk.i64_in _ (by omega)
      have hw4 : IntKind.i64.wrap ((c + 1) / 2) = (c + 1) / 2 := IntWalk.i64_in _ (by omega)
      go_wp2
      go_region_law (first | (refine step_append_lies _ (by rfl) _ _ _ (by rfl) (w2.heap.size + 1) 2 i0 (.int .i64 0) 1 8 Try.underlying22 hi hz0 hz1 hz2 rfl (by omega) v k ((hvL zs k).map (Value.int .i64)) (by rfl) ((HO1.out.alloc _).drew) ⟨wr.heap.size, 0, none⟩ 1 1 [.int .i64 ((c + 1) / 2)] (by rfl) (by rfl) (World.news_of_block (cs := #[.int .i64 ((c + 1) / 2)]) (t := 2) (fr := (0, 0)) (heap_alloc_new _ _)) (by simp [Value.oneCell']) (by omega) (by unfold maxLen; omega) (by omega) (by simp; omega) (wr.heap.size + 1) (by simp) ?_; intro gg cp w3 hown1 hgrow hat hlt3; have HK3 : Hid (Kin w3 w2.heap.size (.int .i64 r) v) := Lib.hid (Kin.grown hgrow hn3 (HK.out.below (by repeat (first | exact Below.refl _ _ | refine Below.drew ?_ | refine Below.drewN' ?_ _ | refine Below.alloc ?_ (by first | exact Nat.le_refl _ | (simp; done) | (simp; omega)) _)))); have HO2 := Lib.hid hown1; have HB3 : Hid (Below w2.heap.size w2 w3) := Lib.hid (Below.grown (Below.next HW.out (by repeat (first | exact Below.refl _ _ | refine Below.drew ?_ | refine Below.drewN' ?_ _ | refine Below.alloc ?_ (by first | exact Nat.le_refl _ | (simp; done) | (simp; omega)) _))) hgrow (by simp; omega) (fun j hj => Nat.le_trans (by omega) (HNE.out j hj))); obtain ⟨hK3, hk30, hk31, hkf30, hkf31⟩ := HK3.out; clear hown1 hgrow hat hlt3) | (refine step_append_lies _ (by rfl) _ _ _ (by rfl) (w2.heap.size + 1) 2 i0 (.int .i64 0) 1 8 Try.underlying22 hi hz0 hz1 hz2 rfl (by omega) v k ((hvL zs k).map (Value.int .i64)) (by rfl) (HO1.out.alloc _) ⟨wr.heap.size, 0, none⟩ 1 1 [.int .i64 ((c + 1) / 2)] (by rfl) (by rfl) (World.news_of_block (cs := #[.int .i64 ((c + 1) / 2)]) (t := 2) (fr := (0, 0)) (heap_alloc_new _ _)) (by simp [Value.oneCell']) (by omega) (by unfold maxLen; omega) (by omega) (by simp; omega) (wr.heap.size + 1) (by simp) ?_; intro gg cp w3 hown1 hgrow hat hlt3; have HK3 : Hid (Kin w3 w2.heap.size (.int .i64 r) v) := Lib.hid (Kin.grown hgrow hn3 (HK.out.below (by repeat (first | exact Below.refl _ _ | refine Below.drew ?_ | refine Below.drewN' ?_ _ | refine Below.alloc ?_ (by first | exact Nat.le_refl _ | (simp; done) | (simp; omega)) _)))); have HO2 := Lib.hid hown1; have HB3 : Hid (Below w2.heap.size w2 w3) := Lib.hid (Below.grown (Below.next HW.out (by repeat (first | exact Below.refl _ _ | refine Below.drew ?_ | refine Below.drewN' ?_ _ | refine Below.alloc ?_ (by first | exact Nat.le_refl _ | (simp; done) | (simp; omega)) _))) hgrow (by simp; omega) (fun j hj => Nat.le_trans (by omega) (HNE.out j hj))); obtain ⟨hK3, hk30, hk31, hkf30, hkf31⟩ := HK3.out; clear hown1 hgrow hat hlt3))
      all_goals
        go_wp2
        exact ⟨⟨k + 1, .slice (some ⟨gg, 0, none⟩) (k + 1) cp, _, by omega, by first | rfl | go_num | (congr 1), rfl, Lib.hid (Kin.set HK3.out _), Lib.hid (own_far (by rw [HL.out]; exact HO2.out) _ _ (by simp)), Lib.hid (Below.setCell HB3.out (by simp) _)⟩, by show n - ((k : Int) + 1).toNat < n - (k : Int).toNat; omega⟩
    · obtain rfl : k = n := by omega
      obtain ⟨g, cp, rfl, hg, hgl⟩ := World.ownsRow.form HO.out (by omega)
      obtain ⟨hic, hgb⟩ := ICl.own HO.out (by omega)
      have HIC := Lib.hid hic
      have HR3 := Lib.hid (HR2.out.below HW.out)
      obtain ⟨hK, hk0, hk1, hkf0, hkf1⟩ := HK.out
      obtain ⟨hQ, hq0, hq1, hqf0, hqf1⟩ := HR3.out
      clear hic
      go_wp2
      obtain ⟨_, hr1, hr2⟩ := HR3.out.res (.int .i64 r) (.slice (some ⟨g, 0, none⟩) k cp)
      exact bodyPost_ret (v := .tuple #[.agg #[.int .i64 r, .slice (some ⟨g, 0, none⟩) k cp], .bool true]) (by simp [results, Try.results35, go_sem, hr1, hr2]) rfl
        ⟨g, cp, rfl, ICl.new ((HIC.out.far (by simp; omega) _).far (by simp; omega) _) (by omega) (Below.setCell (Below.setCell (Below.next HB.out HW.out) (by simp) _) (by simp) _)⟩
set_option maxRecDepth 100000 in
set_option maxHeartbeats 4000000 in
theorem hcS' (r : Int) (a : Option Addr) (n cap : Nat) (zs : List Int) (w : World) (h : IRow w a n zs) (hn : n ≤ 1048576) (hok : coB r zs n = false) : Calls Try.prog 35 #[.agg #[.int .i64 r, .slice a n cap]] w (KNone w) := by
  have HA2 : Hid (IRow ((w.alloc (.cells #[.int .i64 r, .slice a n cap] 30)).alloc (.cells #[.int .i64 0, .slice none 0 0] 30)) a n zs) := Lib.hid ((h.alloc _).alloc _)
  have HC := Lib.hid ((Kin.new (w := w) (x := .int .i64 r) (y := .slice a n cap) (T := 30)).below (below_alloc _ (.cells #[.int .i64 0, .slice none 0 0] 30)))
  have HR : Hid (Kin ((w.alloc (.cells #[.int .i64 r, .slice a n cap] 30)).alloc (.cells #[.int .i64 0, .slice none 0 0] 30)) (w.heap.size + 1) (.int .i64 0) (.slice none 0 0)) := Lib.hid (Kin.new' (by simp))
  have HOK := Lib.hid hok
  clear h hok
  go_enter Try.func35, Try.ntmps35
  go_wp2_with (first | (go_at_call 61; refine (co_spec _ r a n cap zs _ HA2.out hn HC.out.2.1 HC.out.2.2.1).mono ?_; rw [HOK.out]; rintro e w2 ⟨rfl, hd⟩; have HR2 := Lib.hid (HR.out.below hd.below); have HB := Lib.hid (Below.next (Below.alloc (below_alloc _ _) (by simp) _) hd.below : Below w.heap.size w w2); obtain ⟨hQ, hq0, hq1, hqf0, hqf1⟩ := HR2.out; clear hd) | fail)
  obtain ⟨_, hr1, hr2⟩ := HR2.out.res (.int .i64 0) (.slice none 0 0)
  exact bodyPost_ret (v := .tuple #[.agg #[.int .i64 0, .slice none 0 0], .bool false]) (by simp [results, Try.results35, go_sem, hr1, hr2]) rfl
    ⟨rfl, Below.setCell (Below.setCell HB.out (by simp) _) (by simp) _⟩
end Go.Proofs.Ytopcmbcdmceieaa
