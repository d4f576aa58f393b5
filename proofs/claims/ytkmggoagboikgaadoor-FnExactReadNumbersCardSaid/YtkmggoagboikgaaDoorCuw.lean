
/- Texts cut at a mark: the model's function. -/
import Derived.Test.YtkmggoagboikgaaDoorCut
import Derived.Test.YtkmggoagboikgaaDoorGat
namespace Go.Proofs.YtkmggoagboikgaaDoor
open Go.Proofs.YtkmggoagboikgaaDoor.Flo Go.RowKit Go.Lib

/-- Where the cutting stands: k parts are done, the next one begins at fr, place i is looked at. -/
def CutRel (c : UInt8) (l : List UInt8) (k fr i : Nat) : Prop :=
  (i ≤ l.length ∧ fr ≤ i ∧ (∀ x ∈ (l.drop fr).take (i - fr), x ≠ c) ∧ (cutL c l).drop k = cutL c (l.drop fr)) ∨ (i = l.length + 1 ∧ k = (cutL c l).length)
theorem CutRel.start (c : UInt8) (l : List UInt8) : CutRel c l 0 0 0 := .inl ⟨Nat.zero_le _, Nat.le_refl _, by simp, by simp⟩
theorem CutRel.other {c : UInt8} {l : List UInt8} {k fr i : Nat} (h : CutRel c l k fr i) (hi : i < l.length) (hc : l[i] ≠ c) : CutRel c l k fr (i + 1) := by
  rcases h with ⟨_, h2, h3, h4⟩ | ⟨h1, _⟩
  · refine .inl ⟨by omega, by omega, fun x hx => ?_, h4⟩
    rw [show i + 1 - fr = (i - fr) + 1 by omega, List.take_add_one] at hx
    rcases List.mem_append.1 hx with hx | hx
    · exact h3 x hx
    · rw [List.getElem?_drop, show fr + (i - fr) = i by omega, List.getElem?_eq_getElem hi] at hx
      simp at hx
      subst hx; exact hc
  · omega
theorem CutRel.mark {c : UInt8} {l : List UInt8} {k fr i : Nat} (h : CutRel c l k fr i) (hi : i < l.length) (hc : l[i] = c) : (cutL c l).getD k [] = (l.drop fr).take (i - fr) ∧ k < (cutL c l).length ∧ CutRel c l (k + 1) (i + 1) (i + 1) := by
  rcases h with ⟨_, h2, h3, h4⟩ | ⟨h1, _⟩
  · have e : l.drop fr = (l.drop fr).take (i - fr) ++ c :: l.drop (i + 1) := by
      conv => lhs; rw [← List.take_append_drop (i - fr) (l.drop fr)]
      rw [List.drop_drop, show fr + (i - fr) = i by omega, List.drop_eq_getElem_cons hi, hc]
    have e2 := cutL_seg h3 (l.drop (i + 1))
    rw [← e] at e2
    rw [e2] at h4
    have hk : k < (cutL c l).length := by
      have := congrArg List.length h4
      simp at this; omega
    rw [List.drop_eq_getElem_cons hk] at h4
    injection h4 with h5 h6
    refine ⟨by rw [List.getD_eq_getElem?_getD, List.getElem?_eq_getElem hk]; exact h5, hk, .inl ⟨by omega, Nat.le_refl _, by simp, h6⟩⟩
  · omega
theorem CutRel.last {c : UInt8} {l : List UInt8} {k fr i : Nat} (h : CutRel c l k fr i) (hi : i = l.length) : (cutL c l).getD k [] = (l.drop fr).take (i - fr) ∧ k < (cutL c l).length ∧ CutRel c l (k + 1) (i + 1) (i + 1) := by
  rcases h with ⟨_, h2, h3, h4⟩ | ⟨h1, _⟩
  · have e : (l.drop fr).take (i - fr) = l.drop fr := List.take_of_length_le (by rw [List.length_drop]; omega)
    have e2 := cutL_end h3
    rw [e] at e2 ⊢
    rw [e2] at h4
    have hk : k < (cutL c l).length := by
      have := congrArg List.length h4
      simp at this; omega
    rw [List.drop_eq_getElem_cons hk] at h4
    injection h4 with h5 h6
    have h7 := congrArg List.length h6
    simp at h7
    refine ⟨by rw [List.getD_eq_getElem?_getD, List.getElem?_eq_getElem hk]; exact h5, hk, .inr ⟨by omega, by omega⟩⟩
  · omega
theorem CutRel.stop {c : UInt8} {l : List UInt8} {k fr i : Nat} (h : CutRel c l k fr i) (hi : l.length < i) : k = (cutL c l).length := by
  rcases h with ⟨h1, _⟩ | ⟨_, h⟩
  · omega
  · exact h
theorem CutRel.le {c : UInt8} {l : List UInt8} {k fr i : Nat} (h : CutRel c l k fr i) : i ≤ l.length + 1 ∧ (i ≤ l.length → fr ≤ i) := by
  rcases h with ⟨h1, h2, _⟩ | ⟨h1, _⟩ <;> omega
theorem cut_text (s : ByteArray) (a b : Nat) : txB ((s.data.toList.drop a).take (b - a)) = s.extract a b := by
  have h : (s.extract a b).data.toList = (s.data.toList.drop a).take (b - a) := by rw [extract_data]
  rw [← h, txB_back]
theorem Tryd.infoT0 : (Tryd.prog.info? 9).map (fun i => (i.zero, i.size, i.bytes)) = some (some (.string ⟨#[]⟩), 1, 16) := by kernel_rfl
set_option maxRecDepth 100000 in
set_option maxHeartbeats 4000000 in
theorem cut_spec (s : ByteArray) (c : UInt8) (w : World) (hs : s.size ≤ 1048576) :
    Calls Tryd.prog 26 #[.string s, .int .u8 (c.toNat : Int)] w fun e w' => ∃ v, e = .returned v ∧ Gat w' w.heap.size 9 v (cutL c s.data.toList).length (fun i => .string (txB ((cutL c s.data.toList).getD i []))) ∧ Below w.heap.size w w' := by
  obtain ⟨i0, hi, hz0, hz1, hz2⟩ := info_parts Tryd.infoT0
  have hsz : s.data.toList.length = s.size := Array.length_toList
  have HN := Lib.hid (cutL_len c s.data.toList)
  have HCT : Hid (s.data.toList.count c ≤ s.size) := Lib.hid (by rw [← hsz]; exact List.count_le_length)
  obtain ⟨F, hF⟩ : ∃ F : Nat → Value, F = fun i => .string (txB ((cutL c s.data.toList).getD i [])) := ⟨_, rfl⟩
  have HF := Lib.hid hF
  have HSZ := Lib.hid hsz
  rw [← hF]
  have hc255 : c.toNat ≤ 255 := by have := c.toNat_lt; omega
  clear hF hsz
  go_enter Tryd.func26, Tryd.ntmps26
  go_wp2
  go_loopw [5, 6, 7] (fun sv fv iv w' => ∃ (k fr i : Nat) (v : Value) (wr : World), i ≤ s.size + 1 ∧ fr ≤ s.size + 1 ∧ sv = v ∧ fv = .int .i64 fr ∧ iv = .int .i64 i ∧ wr = w' ∧ Hid (CutRel c s.data.toList k fr i) ∧ Hid (Gat wr w.heap.size 9 v k F) ∧ Hid (Below w.heap.size w wr)) (fun _ _ iv _ => s.size + 1 - (intOf iv).toNat)
  case atStart => exact ⟨0, 0, 0, _, _, by omega, by omega, rfl, rfl, rfl, rfl, Lib.hid (CutRel.start _ _), Lib.hid (Gat.empty _ _ _), Lib.hid ((Below.refl _ _).alloc (Nat.le_refl _) _)⟩
  case round =>
    obtain ⟨k, fr, i, v, wr, hi1, hf1, rfl, rfl, rfl, rfl, HR, HG, HW⟩ := hrel
    have HSW := Lib.hid HW.out.size
    have HNE := Lib.hid (Gat.block HG.out)
    by_cases hle : i ≤ s.size
    · have hfr := HR.out.le.2 (by have := HSZ.out; omega)
      by_cases hlt : i < s.size
      · have hgk : s.data.toList[i]'(by have := HSZ.out; omega) = s[i]'hlt := rfl
        have hne : ((i : Int) == (s.size : Int)) = false := by simp; omega
        obtain ⟨x, hx⟩ : ∃ x, (s[i]'hlt).toNat = x := ⟨_, rfl⟩
        by_cases hc : s[i]'hlt = c
        · obtain ⟨h1, h2, h3⟩ := HR.out.mark (by have := HSZ.out; omega) (hgk.trans hc)
          have HK : Hid (F k = .string (s.extract fr i)) := Lib.hid (by rw [HF.out]; show Value.string (txB _) = _; rw [h1, cut_text])
          have HK2 := Lib.hid h2
          have HR3 := Lib.hid h3
          have hxc : ((x : Int) == (c.toNat : Int)) = true := by rw [← hx, hc]; simp
          clear h1 h2 h3 hc hgk
          go_wp2_with (first | (at_builtin; refine wpList_append_lies _ rfl _ _ 34 rfl w.heap.size 9 i0 (.string ⟨#[]⟩) 1 16 Tryd.underlying34 hi hz0 hz1 hz2 rfl (by omega) u5 k ((List.range k).map F) rfl (World.ownsRow.alloc HG.out _) ⟨wr.heap.size, 0, none⟩ 1 1 [.string (s.extract fr i)] rfl rfl (World.news_of_block (cs := #[.string (s.extract fr i)]) (t := 9) (fr := (0, 0)) (heap_alloc_new _ _)) (by simp [Value.oneCell']) (by omega) (by have := HK2.out; have := HN.out; have := HCT.out; unfold maxLen; omega) (by have := HK2.out; have := HN.out; have := HCT.out; omega) (by have := HSW.out; simp; omega) (wr.heap.size + 1) (by simp) ?_; intro gg cp w1 hown1 hgrow hat hlt3; have HO2 := Lib.hid hown1; have HG2 := Lib.hid hgrow; clear hown1 hgrow hat hlt3) | fail)
          exact ⟨⟨k + 1, i + 1, i + 1, _, _, by omega, by omega, rfl, by first | rfl | go_num | (congr 1), by first | rfl | go_num | (congr 1), rfl, HR3, Lib.hid (Gat.step HO2.out HK.out.symm), Lib.hid (Below.grown (Below.alloc HW.out HSW.out _) HG2.out (by have := HSW.out; simp; omega) (fun j hj => HNE.out j hj))⟩, by show s.size + 1 - ((i : Int) + 1).toNat < s.size + 1 - (i : Int).toNat; omega⟩
        · have HR3 := Lib.hid (HR.out.other (by have := HSZ.out; omega) (fun e => hc (hgk.symm.trans e)))
          have hxc : ((x : Int) == (c.toNat : Int)) = false := by
            rw [beq_eq_false_iff_ne]; intro e
            refine hc (UInt8.toNat_inj.1 ?_)
            omega
          clear hc hgk
          go_wp2
          exact ⟨⟨k, fr, i + 1, _, _, by omega, by omega, rfl, rfl, by first | rfl | go_num | (congr 1), rfl, HR3, HG, HW⟩, by show s.size + 1 - ((i : Int) + 1).toNat < s.size + 1 - (i : Int).toNat; omega⟩
      · obtain rfl : i = s.size := by omega
        obtain ⟨h1, h2, h3⟩ := HR.out.last (by have := HSZ.out; omega)
        have HK : Hid (F k = .string (s.extract fr s.size)) := Lib.hid (by rw [HF.out]; show Value.string (txB _) = _; rw [h1, cut_text])
        have HK2 := Lib.hid h2
        have HR3 := Lib.hid h3
        have hne : ((s.size : Int) == (s.size : Int)) = true := by simp
        clear h1 h2 h3
        go_wp2_with (first | (at_builtin; refine wpList_append_lies _ rfl _ _ 34 rfl w.heap.size 9 i0 (.string ⟨#[]⟩) 1 16 Tryd.underlying34 hi hz0 hz1 hz2 rfl (by omega) u5 k ((List.range k).map F) rfl (World.ownsRow.alloc HG.out _) ⟨wr.heap.size, 0, none⟩ 1 1 [.string (s.extract fr s.size)] rfl rfl (World.news_of_block (cs := #[.string (s.extract fr s.size)]) (t := 9) (fr := (0, 0)) (heap_alloc_new _ _)) (by simp [Value.oneCell']) (by omega) (by have := HK2.out; have := HN.out; have := HCT.out; unfold maxLen; omega) (by have := HK2.out; have := HN.out; have := HCT.out; omega) (by have := HSW.out; simp; omega) (wr.heap.size + 1) (by simp) ?_; intro gg cp w1 hown1 hgrow hat hlt3; have HO2 := Lib.hid hown1; have HG2 := Lib.hid hgrow; clear hown1 hgrow hat hlt3) | fail)
        exact ⟨⟨k + 1, s.size + 1, s.size + 1, _, _, by omega, by omega, rfl, by first | rfl | go_num | (congr 1), by first | rfl | go_num | (congr 1), rfl, HR3, Lib.hid (Gat.step HO2.out HK.out.symm), Lib.hid (Below.grown (Below.alloc HW.out HSW.out _) HG2.out (by have := HSW.out; simp; omega) (fun j hj => HNE.out j hj))⟩, by show s.size + 1 - ((s.size : Int) + 1).toNat < s.size + 1 - (s.size : Int).toNat; omega⟩
    · have HE := Lib.hid (HR.out.stop (by have := HSZ.out; omega))
      go_wp2
      go_ret
      exact ⟨_, rfl, HE.out ▸ HG.out, HW.out⟩
end Go.Proofs.YtkmggoagboikgaaDoor
