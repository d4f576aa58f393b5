
/- A strings.Builder that is written byte by byte, and by rows of bytes. -/
import Derived.Test.YtnljabgkaelplaaBld
import Derived.Lib.FrozenHead2
set_option linter.unusedVariables false
namespace Go.Proofs.Ytnljabgkaelplaa
open Go.Proofs.Ytnljabgkaelplaa.Flo Go.RowKit Go.Shelf

def wbRen : Go.Shelf.Ren := ⟨fun | 167 => 47 | 240 => 88 | 276 => 108 | n => n, fun | 0 => 0 | 4 => 4 | 5 => 5 | 9 => 9 | 20 => 20 | 37 => 77 | 70 => 76 | 72 => 79 | 75 => 81 | 164 => 136 | 3 => 3 | 80 => 92 | n => n, fun | n => n⟩
theorem wbLays : Go.Proofs.Lays.n167 Try.prog wbRen := {
  mixed := by kernel_rfl
  f167 := Try.func47.trans (congrArg some (by kernel_rfl))
  f240 := Try.func88.trans (congrArg some (by kernel_rfl))
  f276 := Try.func108.trans (congrArg some (by kernel_rfl))
  t0 := Try.underlying0
  a0 := Try.isAgg0
  z0 := Try.sizeOf0
  v0 := Try.zeroValue0
  t4 := Try.underlying4
  a4 := Try.isAgg4
  z4 := Try.sizeOf4
  v4 := Try.zeroValue4
  t5 := Try.underlying5
  a5 := Try.isAgg5
  z5 := Try.sizeOf5
  v5 := Try.zeroValue5
  t9 := Try.underlying9
  a9 := Try.isAgg9
  z9 := Try.sizeOf9
  v9 := Try.zeroValue9
  t20 := Try.underlying20
  a20 := Try.isAgg20
  z20 := Try.sizeOf20
  v20 := Try.zeroValue20
  t37 := Try.underlying77
  a37 := Try.isAgg77
  z37 := Try.sizeOf77
  v37 := Try.zeroValue77
  t70 := Try.underlying76
  a70 := Try.isAgg76
  z70 := Try.sizeOf76
  v70 := Try.zeroValue76
  t72 := Try.underlying79
  a72 := Try.isAgg79
  z72 := Try.sizeOf79
  v72 := Try.zeroValue79
  t75 := Try.underlying81
  a75 := Try.isAgg81
  z75 := Try.sizeOf81
  v75 := Try.zeroValue81
  t164 := Try.underlying136
  a164 := Try.isAgg136
  z164 := Try.sizeOf136
  v164 := Try.zeroValue136
}
theorem wbExtra : Builder.Extra Try.prog wbRen := {
  sizeBuilder := by kernel_rfl
  liesBuilder := by kernel_rfl
  t5 := Try.underlying5
  a5 := Try.isAgg5
  z5 := Try.sizeOf5
  v5 := Try.zeroValue5
  infoByte := by kernel_rfl
  cellsByte := by kernel_rfl
  sizeByte := by kernel_rfl
  neB5 := by decide }
theorem bld_byte (B : Nat) (l : List UInt8) (c : UInt8) (w : World) (h : Bld 79 5 B l w) (hl : l.length + 1 ≤ 1048576) :
    Calls Try.prog 47 #[.pointer (some ⟨B, 0, none⟩), .int .u8 (c.toNat : Int)] w fun e w' => e = .returned .nilIface ∧ Bld 79 5 B (l ++ [c]) w' ∧ Below B w w' :=
  (Any.Builder_WriteByte_k wbLays wbExtra B B (Lib.byteCells l) (c.toNat : Int) w h.1 (by rw [Lib.byteCells_length]; omega) (Nat.le_of_lt h.2)).mono fun _ _ ⟨h1, h2, h3, _⟩ =>
    ⟨h1, ⟨.inr (by
      have e1 : Lib.byteCells (l ++ [c]) = Lib.byteCells l ++ [.int .u8 (c.toNat : Int)] := by
        rw [Lib.byteCells_append]; rfl
      rw [e1]; exact h2), Nat.lt_of_lt_of_le h.2 h3.size⟩, h3⟩
theorem bld_check (B : Nat) (l : List UInt8) (w : World) (h : Bld 79 5 B l w) :
    Calls Try.prog 88 #[.pointer (some ⟨B, 0, none⟩)] w fun e w' => e = .returned (.tuple #[]) ∧ Lib.BuilderAtF 79 5 B B (.pointer (some ⟨B, 0, none⟩)) (Lib.byteCells l) w' ∧ Below B w w' ∧ (∀ g, g ≠ B → w'.heap[g]? = w.heap[g]?) ∧ w'.heap.size = w.heap.size := by
  rcases h.1 with h | h
  · refine (Any.Builder_copyCheck_fresh (ρ := wbRen) { wbLays with } wbExtra.toX72 B w h.cell0 h.shape h.frozen0).mono ?_
    rintro e w' ⟨rfl, rfl⟩
    exact ⟨rfl, h.used _, (Below.refl B w).setCell (p := ⟨B, 0, none⟩) (Nat.le_refl _) _, fun g hg => Below.heap_setCell _ _ _ g (fun e => hg e), by simp [World.setCell]⟩
  · refine (Any.Builder_copyCheck_used (ρ := wbRen) { wbLays with } wbExtra.toX72 B w h.cell0).mono ?_
    rintro e w' ⟨rfl, rfl⟩
    exact ⟨rfl, h, Below.refl B _, fun _ _ => rfl, rfl⟩
set_option maxHeartbeats 2000000 in
set_option maxRecDepth 100000 in
theorem bld_put (B g o m cp : Nat) (l s : List UInt8) (w : World) (h : Bld 79 5 B l w) (hg : g ≠ B) (hm : s.length = m) (hs : ∀ j, j < m → w.cell? ⟨g, o + j, none⟩ = some (.int .u8 ((s.getD j 0).toNat : Int))) (hl : l.length + m ≤ 1048576) :
    Calls Try.prog 48 #[.pointer (some ⟨B, 0, none⟩), .slice (some ⟨g, o, none⟩) m cp] w fun e w' => ∃ v, e = .returned (.tuple #[v, .nilIface]) ∧ Bld 79 5 B (l ++ s) w' ∧ Below B w w' := by
  obtain ⟨i0, hi, hz0, hz1, hz2⟩ := info_parts (wbExtra.infoByte)
  have HC := Lib.hid (bld_check B l w h)
  have hs2 : ∀ w1 : World, w1.heap[g]? = w.heap[g]? → ∀ (j : Nat) (u : Value), (Lib.byteCells s)[j]? = some u → w1.cell? ((⟨g, o, none⟩ : Addr).add j) = some u := by
    intro w1 hb j u hj
    have hjl : j < s.length := by
      have := (List.getElem?_eq_some_iff.1 hj).1
      rwa [Lib.byteCells_length] at this
    have e1 : (⟨g, o, none⟩ : Addr).add j = ⟨g, o + j, none⟩ := by unfold Addr.add; split <;> simp_all
    rw [e1]
    refine ((World.cell?_of_block (a := ⟨g, o + j, none⟩) hb).trans (hs j (by omega))).trans ?_
    rw [← hj]
    unfold Lib.byteCells
    rw [List.getElem?_map, List.getD_eq_getElem?_getD, List.getElem?_eq_getElem hjl]
    rfl
  have HS := Lib.hid hs2
  have hlt0 := h.2
  have HM := Lib.hid hm
  clear hs2 hs h hm
  go_enter Try.func48, Try.ntmps48
  go_wp2_with (go_at_call 88; refine HC.out.mono ?_)
  rintro e w1 ⟨rfl, h1, hb1, hg1, hz⟩
  obtain ⟨hB, v, hbk, hown, hne⟩ := h1
  have c0 : w1.cell? ⟨B, 0, none⟩ = some (.pointer (some ⟨B, 0, none⟩)) := by rw [Lib.cell_of_heap hbk]; rfl
  have c1 : w1.cell? ⟨B, 1, none⟩ = some v := by rw [Lib.cell_of_heap hbk]; rfl
  go_wp2_with (at_builtin; refine wpList_append_ownF _ rfl _ _ 77 rfl B 5 i0 (.int .u8 0) 1 1 Try.underlying77 hi hz0 hz1 hz2 rfl (by decide) _ _ _ rfl hown ⟨g, o, none⟩ m cp (Lib.byteCells s) rfl ?c0 ?c1 ?c2 ?c3 ?c4 ?c5 ?_)
  case c0 => rw [Lib.byteCells_length, HM.out]; omega
  case c1 => exact HS.out w1 (hg1 g hg)
  case c2 => intro u hu; unfold Lib.byteCells at hu; obtain ⟨x, _, rfl⟩ := List.mem_map.1 hu; rfl
  case c3 => rw [Lib.byteCells_length]; unfold maxLen; omega
  case c4 => rw [Lib.byteCells_length]; omega
  case c5 => omega
  intro v' w2 hown' hgrow _
  have hlt : B < w1.heap.size := by omega
  have hb2 : w2.heap[B]? = some (.cells #[.pointer (some ⟨B, 0, none⟩), v] 79 (0, 0)) := by
    rw [hgrow.block B hlt (fun e => hne e.symm)]
    exact hbk
  have d0 : w2.cell? ⟨B, 0, none⟩ = some (.pointer (some ⟨B, 0, none⟩)) := by rw [Lib.cell_of_heap hb2]; rfl
  have d1 : w2.cell? ⟨B, 1, none⟩ = some v := by rw [Lib.cell_of_heap hb2]; rfl
  have f1 : w2.frozen? ⟨B, 1, none⟩ = false := Lib.frozen_of_heap hb2 1
  obtain ⟨ao, n', cap, rfl⟩ : ∃ ao n' cap, v' = .slice ao n' cap := by
    rcases hown'.2 with ⟨hv, _⟩ | ⟨g, cap, cur, fz, hv, _⟩
    · exact ⟨_, _, _, hv⟩
    · exact ⟨_, _, _, hv⟩
  go_wp2
  go_ret2
  have hb3 : Below B w ((w2.setCell ⟨B, 1, none⟩ (.slice ao n' cap))) := (hb1.grown hgrow (by omega) (fun k hk => (hown.lt k hk).1)).setCell (p := ⟨B, 1, none⟩) hB _
  refine ⟨_, rfl, ⟨.inr ?_, Nat.lt_of_lt_of_le hlt0 hb3.size⟩, hb3⟩
  have e1 : Lib.byteCells (l ++ s) = Lib.byteCells l ++ Lib.byteCells s := Lib.byteCells_append _ _
  rw [e1]
  exact Lib.BuilderAtF.put (T := 79) (e := 5) hB hb2 (bs' := Lib.byteCells l ++ Lib.byteCells s) (by rw [List.length_append, Lib.byteCells_length s, HM.out]; exact hown') (by decide)
end Go.Proofs.Ytnljabgkaelplaa
