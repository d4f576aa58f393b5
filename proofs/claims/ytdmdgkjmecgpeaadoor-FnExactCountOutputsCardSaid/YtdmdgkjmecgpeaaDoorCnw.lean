
/- CountOutputs: the functions, and the law. -/
import Derived.Test.YtdmdgkjmecgpeaaDoorLnp
import Derived.Test.YtdmdgkjmecgpeaaDoorCuw
import Derived.Test.YtdmdgkjmecgpeaaDoorShf
namespace Go.Proofs.YtdmdgkjmecgpeaaDoor
open Go.Proofs.YtdmdgkjmecgpeaaDoor.Flo Go.RowKit

def MaxLc (w0 : World) : Prop := ∃ m, ∀ W, Below w0.heap.size w0 W → W.cell? ⟨1, 0, none⟩ = some (.int .i64 m)
theorem cell_ltc {w : World} {a : Addr} {v : Value} (h : w.cell? a = some v) : a.block < w.heap.size := by
  unfold World.cell? at h
  cases hx : w.heap[a.block]? with
  | none => simp [hx] at h
  | some o => exact (Array.getElem?_eq_some_iff.1 hx).1
theorem MaxLc.of {w0 : World} (h : ∃ m, w0.cell? ⟨1, 0, none⟩ = some (.int .i64 m)) : MaxLc w0 := by
  obtain ⟨m, hm⟩ := h
  exact ⟨m, fun W hb => by rw [hb.cell (p := ⟨1, 0, none⟩) (cell_ltc hm)]; exact hm⟩
def TRc (W : World) (g n : Nat) (X : List (List UInt8)) : Prop := X.length = n ∧ g < W.heap.size ∧ ∀ j, j < n → W.cell? ⟨g, j, none⟩ = some (.string (txB (X.getD j [])))
theorem TRc.below {W W' : World} {g n : Nat} {X : List (List UInt8)} (h : TRc W g n X) (hb : Below W.heap.size W W') : TRc W' g n X :=
  ⟨h.1, Nat.lt_of_lt_of_le h.2.1 hb.size, fun j hj => by rw [hb.cell (p := ⟨g, j, none⟩) h.2.1]; exact h.2.2 j hj⟩
theorem txB_listc (l : List UInt8) : (txB l).data.toList = l := by unfold txB; simp
theorem gat_cap {w : World} {base : Nat} {T : TypeId} {g n cp : Nat} {f : Nat → Value} (h : Gat w base T (.slice (some ⟨g, 0, none⟩) n cp) n f) : n ≤ cp := by
  obtain ⟨_, h⟩ := h
  rcases h with ⟨h0, _⟩ | ⟨g2, cap, cur, e, _, _, hnc, _⟩
  · cases h0
  · injection e with _ _ e3
    omega
theorem belowC (w : World) (o : Obj) : Below w.heap.size w (w.alloc o) := (Below.refl _ _).alloc (Nat.le_refl _) o
/-- The lines of a text, and whether it ends with one. -/
def lnP (t : ByteArray) : List (List UInt8) := cutL 10 t.data.toList
def lnM (t : ByteArray) : Nat := t.data.toList.count 10
theorem lnP_len (t : ByteArray) : (lnP t).length = lnM t + 1 := cutL_len 10 _
theorem lnM_le (t : ByteArray) : lnM t ≤ t.size := by
  have h : t.data.toList.length = t.size := Array.length_toList
  rw [← h]; exact List.count_le_length
def lnOk (t : ByteArray) : Bool := decide (t.size ≤ 16000 ∧ lp 10 t.data.toList = [])
def isBad (s : ByteArray) : Bool := s.toList == [110, 111] || s.toList == [119, 104, 97, 116]
def cnt (X : List (List UInt8)) : Nat → Nat
  | 0 => 0
  | k + 1 => cnt X k + if isBad (txB (X.getD k [])) then 1 else 0
theorem cnt_le (X : List (List UInt8)) : ∀ k, cnt X k ≤ k
  | 0 => Nat.le_refl _
  | k + 1 => by
    have := cnt_le X k
    show cnt X k + _ ≤ k + 1
    split <;> omega
theorem cnt_yes {X : List (List UInt8)} {k : Nat} (h : isBad (txB (X.getD k [])) = true) : cnt X (k + 1) = cnt X k + 1 := by show cnt X k + (if _ then _ else _) = _; rw [if_pos h]
theorem cnt_no {X : List (List UInt8)} {k : Nat} (h : isBad (txB (X.getD k [])) = false) : cnt X (k + 1) = cnt X k := by show cnt X k + (if _ then _ else _) = _; rw [if_neg (by rw [h]; simp), Nat.add_zero]
def CnPost (t : ByteArray) (w : World) (e : Ending) (w' : World) : Prop :=
  e = .returned (if lnOk t then .tuple #[.int .i64 (cnt (lnP t) (lnM t) : Int), .int .i64 ((lnM t : Int) - (cnt (lnP t) (lnM t) : Int)), .bool true] else .tuple #[.int .i64 0, .int .i64 0, .bool false]) ∧ Below w.heap.size w w'
theorem CnPost.no {t : ByteArray} {w w' : World} (h : lnOk t = false) (hb : Below w.heap.size w w') : CnPost t w (.returned (.tuple #[.int .i64 0, .int .i64 0, .bool false])) w' := ⟨by rw [h]; rfl, hb⟩
theorem CnPost.yes {t : ByteArray} {w w' : World} (h : lnOk t = true) (hb : Below w.heap.size w w') : CnPost t w (.returned (.tuple #[.int .i64 (cnt (lnP t) (lnM t) : Int), .int .i64 ((lnM t : Int) - (cnt (lnP t) (lnM t) : Int)), .bool true])) w' := ⟨by rw [h]; rfl, hb⟩
def LnPost (t : ByteArray) (w : World) (e : Ending) (w' : World) : Prop :=
  (∃ g cp, e = .returned (.slice (some ⟨g, 0, none⟩) (lnM t + 1) cp) ∧ lnM t + 1 ≤ cp ∧ TRc w' g (lnM t + 1) (lnP t)) ∧ Below w.heap.size w w'
theorem lq_yes {t : ByteArray} {w' : World} {e : Ending} (h : (lnOk t = true ∧ ∃ g cp, e = .returned (.tuple #[.slice (some ⟨g, 0, none⟩) (lnM t) cp, .bool true]) ∧ TRc w' g (lnM t + 1) (lnP t)) ∨ (lnOk t = false ∧ e = .returned (.tuple #[.slice none 0 0, .bool false]))) (hok : lnOk t = true) : ∃ g cp, e = .returned (.tuple #[.slice (some ⟨g, 0, none⟩) (lnM t) cp, .bool true]) ∧ TRc w' g (lnM t + 1) (lnP t) := by
  rcases h with ⟨_, h⟩ | ⟨h, _⟩
  · exact h
  · rw [hok] at h; cases h
theorem lq_no {t : ByteArray} {w' : World} {e : Ending} (h : (lnOk t = true ∧ ∃ g cp, e = .returned (.tuple #[.slice (some ⟨g, 0, none⟩) (lnM t) cp, .bool true]) ∧ TRc w' g (lnM t + 1) (lnP t)) ∨ (lnOk t = false ∧ e = .returned (.tuple #[.slice none 0 0, .bool false]))) (hok : lnOk t = false) : e = .returned (.tuple #[.slice none 0 0, .bool false]) := by
  rcases h with ⟨h, _⟩ | ⟨_, h⟩
  · rw [hok] at h; cases h
  · exact h
theorem spc_impl (s : ByteArray) (hs : s.size ≤ 1048576) (w0 w : World) (hM : MaxLc w0) (hb : Below w0.heap.size w0 w) :
    Calls Tryd.prog 27 #[.string s, .string ⟨#[10]⟩] w (LnPost s w) := by
  obtain ⟨m, hm⟩ := hM
  obtain ⟨h1, h2⟩ := splitB_cut s 10
  have h3 : (cutL 10 s.data.toList).length = lnM s + 1 := lnP_len s
  refine (Tryd.strings_Split s ⟨#[10]⟩ m w (by omega) (hm w hb) (by show 1 ≤ 1; omega)).mono ?_
  rintro e w' ⟨rfl, rfl⟩
  refine ⟨⟨w.heap.size, _, by rw [h2, h3], Nat.le_refl _, ⟨h3, by simp, fun j hj => ?_⟩⟩, belowC _ _⟩
  rw [World.cell?_alloc_at _ _ _ _ rfl, h1]
  show _ = some (Value.string (txB ((cutL 10 s.data.toList).getD j [])))
  have hj : j < (cutL 10 s.data.toList).length := by omega
  simp [List.getD_eq_getElem?_getD, hj]
theorem cuc_spec (t : ByteArray) (hs : t.size ≤ 1048576) (w : World) : Calls Tryd.prog 25 #[.string t, .int .u8 10] w (LnPost t w) :=
  (cut_spec t 10 w hs).mono (fun e w' q => by
    obtain ⟨v, he, hg, hb⟩ := q
    have h3 : (cutL 10 t.data.toList).length = lnM t + 1 := lnP_len t
    rw [h3] at hg
    obtain ⟨g, cp, rfl, h1, h2, h4⟩ := hg.fin (by omega)
    exact ⟨⟨g, cp, he, gat_cap hg, ⟨h3, h2, fun j hj => (h4.2 j hj).1⟩⟩, hb⟩)
set_option maxRecDepth 100000 in
set_option maxHeartbeats 4000000 in
theorem lnc_spec (t : ByteArray) (hs : t.size ≤ 1048576) (w : World) :
    Calls Tryd.prog 12 #[.string t] w fun e w' => ∃ g cp, e = .returned (.tuple #[.slice (some ⟨g, 0, none⟩) (lnM t) cp, .string (txB (lp 10 t.data.toList))]) ∧ TRc w' g (lnM t + 1) (lnP t) ∧ Below w.heap.size w w' := by
  have HSP := Lib.hid (fun W => cuc_spec t hs W)
  have HLP : Hid ((lnP t).getD (lnM t) [] = lp 10 t.data.toList) := Lib.hid (lp_get (lnP_len t))
  have hml : lnM t ≤ 1048576 := Nat.le_trans (lnM_le t) hs
  unfold LnPost at HSP
  generalize lnM t = m at HSP HLP hml ⊢
  go_enter Tryd.func12, Tryd.ntmps12
  go_wp2_with (first | (go_at_call 25; refine (HSP.out _).mono ?_; rintro e w2 ⟨⟨g, cp, rfl, hcp, ht⟩, hb2⟩; have hc9 := ht.2.2 m (by omega); rw [HLP.out] at hc9; have HT := Lib.hid ht; have HB := Lib.hid hb2; clear ht hb2) | fail)
  go_quiet (fail)
  go_wp2
  go_ret2
  exact ⟨g, cp, rfl, HT.out.below (Below.drewN' (Below.refl _ _) _), Below.drewN' HB.out _⟩
set_option maxRecDepth 100000 in
set_option maxHeartbeats 4000000 in
theorem lno_impl (t : ByteArray) (hs : t.size ≤ 1048576) (w0 w : World) (hM : MaxLc w0) (hb : Below w0.heap.size w0 w) :
    Calls Tryd.prog 13 #[.string t] w fun e w' => ((lnOk t = true ∧ ∃ g cp, e = .returned (.tuple #[.slice (some ⟨g, 0, none⟩) (lnM t) cp, .bool true]) ∧ TRc w' g (lnM t + 1) (lnP t)) ∨ (lnOk t = false ∧ e = .returned (.tuple #[.slice none 0 0, .bool false]))) ∧ Below w.heap.size w w' := by
  have HSP := Lib.hid (fun W (h1 : Below w.heap.size w W) => spc_impl t hs w0 W hM (Below.next hb h1))
  have HSU := Lib.hid (fun W => Tryd.strings_HasSuffix t ⟨#[10]⟩ W (by omega))
  have hu : (⟨#[10]⟩ : ByteArray).data.toList = [10] := rfl
  rw [hu] at HSU
  have hml : lnM t ≤ 1048576 := Nat.le_trans (lnM_le t) hs
  clear hM hb
  by_cases h16 : t.size ≤ 16000
  · have hd : decide ((16000 : Int) < (t.size : Int)) = false := decide_eq_false (by omega)
    by_cases he : t.data.toList = []
    · have HOK : Hid (lnOk t = true) := Lib.hid (decide_eq_true ⟨h16, by rw [he]; rfl⟩)
      have hem : (t.toList == []) = true := by rw [ByteArray.toList_eq, he]; rfl
      unfold LnPost at HSP
      generalize lnM t = m at HSP hml ⊢
      clear he
      go_enter Tryd.func13, Tryd.ntmps13
      go_wp2_with (first | (go_at_call 27; refine (HSP.out _ (Below.refl _ _)).mono ?_; rintro e w2 ⟨⟨g, cp, rfl, hcp, ht⟩, hb2⟩; have HT := Lib.hid ht; have HB := Lib.hid hb2; clear ht hb2) | fail)
      go_ret2
      exact ⟨.inl ⟨HOK.out, g, cp, rfl, HT.out⟩, HB.out⟩
    · have hem : (t.toList == []) = false := by rw [ByteArray.toList_eq, beq_eq_false_iff_ne]; exact he
      cases hsu : Lib.hasSuffix t.data.toList [10]
      · have HNO : Hid (lnOk t = false) := Lib.hid (decide_eq_false (fun q => lp_none he hsu q.2))
        rw [hsu] at HSU
        clear hsu he
        go_enter Tryd.func13, Tryd.ntmps13
        go_wp2_with (first | (go_at_call 26; refine (HSU.out _).mono ?_; rintro e w2 ⟨rfl, hw⟩; have hw := hw.symm; subst hw) | fail)
        go_ret2
        exact ⟨.inr ⟨HNO.out, rfl⟩, Below.refl _ _⟩
      · have HOK : Hid (lnOk t = true) := Lib.hid (decide_eq_true ⟨h16, lp_suffix 10 _ hsu⟩)
        rw [hsu] at HSU
        unfold LnPost at HSP
        generalize lnM t = m at HSP hml ⊢
        clear hsu he
        go_enter Tryd.func13, Tryd.ntmps13
        go_wp2_with (first | (go_at_call 26; refine (HSU.out _).mono ?_; rintro e w2 ⟨rfl, hw⟩; have hw := hw.symm; subst hw) | (go_at_call 27; refine (HSP.out _ (Below.refl _ _)).mono ?_; rintro e w3 ⟨⟨g, cp, rfl, hcp, ht⟩, hb2⟩; have HT := Lib.hid ht; have HB := Lib.hid hb2; clear ht hb2) | fail)
        go_ret2
        exact ⟨.inl ⟨HOK.out, g, cp, rfl, HT.out⟩, HB.out⟩
  · have HNO : Hid (lnOk t = false) := Lib.hid (decide_eq_false (fun q => h16 q.1))
    have hd : decide ((16000 : Int) < (t.size : Int)) = true := decide_eq_true (by omega)
    go_enter Tryd.func13, Tryd.ntmps13
    go_wp2
    go_ret2
    exact ⟨.inr ⟨HNO.out, rfl⟩, Below.refl _ _⟩
set_option maxRecDepth 100000 in
set_option maxHeartbeats 4000000 in
theorem cn_impl (t : ByteArray) (hs : t.size ≤ 1048576) (w0 : World) (w : World) (hM : MaxLc w0) (hb : Below w0.heap.size w0 w) :
    Calls Tryd.prog 6 #[.string t] w (CnPost t w) := by
  have HL := Lib.hid (fun W (h1 : Below w.heap.size w W) => lno_impl t hs w0 W hM (Below.next hb h1))
  clear hM hb
  cases hok : lnOk t
  · have HNO := Lib.hid hok
    clear hok
    go_enter Tryd.func6, Tryd.ntmps6
    go_wp2_with (first | (go_at_call 13; refine (HL.out _ (Below.refl _ _)).mono ?_; rintro e w2 ⟨hq, hb2⟩; obtain rfl := lq_no hq HNO.out; clear hq; have HB := Lib.hid hb2; clear hb2) | fail)
    go_ret3
    exact CnPost.no HNO.out HB.out
  · have HOK := Lib.hid hok
    clear hok
    have hml : lnM t ≤ 1048576 := Nat.le_trans (lnM_le t) hs
    have HCL := Lib.hid (cnt_le (lnP t))
    have HFIN := Lib.hid (fun w' (hb : Below w.heap.size w w') => CnPost.yes HOK.out hb)
    obtain ⟨m, hm⟩ : ∃ m, lnM t = m := ⟨_, rfl⟩
    obtain ⟨X, hX⟩ : ∃ X, lnP t = X := ⟨_, rfl⟩
    have HQ := Lib.hid (fun w' e h => @lq_yes t w' e h HOK.out)
    rw [hm] at HL HFIN hml HQ
    rw [hX] at HL HFIN HCL HQ
    clear hm hX
    go_enter Tryd.func6, Tryd.ntmps6
    go_wp2_with (first | (go_at_call 13; refine (HL.out _ (Below.refl _ _)).mono ?_; rintro e w2 ⟨hq, hb2⟩; obtain ⟨g, cp, rfl, ht⟩ := HQ.out _ _ hq; clear hq; have HT := Lib.hid ht; have HB := Lib.hid hb2; clear ht hb2) | fail)
    go_loopw [7, 19] (fun cv iv w' => ∃ (k : Nat) (wr : World), k ≤ m ∧ cv = .int .i64 (cnt X k : Int) ∧ iv = .int .i64 k ∧ wr = w' ∧ Hid (Below w.heap.size w wr) ∧ Hid (TRc wr g (m + 1) X)) (fun _ iv _ => m - (intOf iv).toNat)
    case atStart => exact ⟨0, _, by omega, rfl, rfl, rfl, HB, HT⟩
    case round =>
      obtain ⟨k, wr, hk, rfl, rfl, rfl, HW, HTR⟩ := hrel
      have hcl := HCL.out k
      by_cases hlt : k < m
      · have hck := HTR.out.2.2 k (by omega)
        have HY := Lib.hid (fun h => cnt_yes (X := X) (k := k) h)
        have HN := Lib.hid (fun h => cnt_no (X := X) (k := k) h)
        generalize txB (X.getD k []) = s at hck HY HN
        unfold isBad at HY HN
        cases h1 : (s.toList == [110, 111])
        · cases h2 : (s.toList == [119, 104, 97, 116])
          · have HE := Lib.hid (HN.out (by rw [h1, h2]; rfl))
            clear HY HN
            go_wp2
            exact ⟨⟨k + 1, _, by omega, by rw [HE.out] <;> first | rfl | go_num | (congr 1), by first | rfl | go_num | (congr 1), rfl, HW, HTR⟩, by show m - ((k : Int) + 1).toNat < m - (k : Int).toNat; omega⟩
          · have HE := Lib.hid (HY.out (by rw [h1, h2]; rfl))
            clear HY HN
            go_wp2
            exact ⟨⟨k + 1, _, by omega, by rw [HE.out] <;> first | rfl | go_num | (congr 1), by first | rfl | go_num | (congr 1), rfl, HW, HTR⟩, by show m - ((k : Int) + 1).toNat < m - (k : Int).toNat; omega⟩
        · have HE := Lib.hid (HY.out (by rw [h1]; rfl))
          clear HY HN
          go_wp2
          exact ⟨⟨k + 1, _, by omega, by rw [HE.out] <;> first | rfl | go_num | (congr 1), by first | rfl | go_num | (congr 1), rfl, HW, HTR⟩, by show m - ((k : Int) + 1).toNat < m - (k : Int).toNat; omega⟩
      · obtain rfl : k = m := by omega
        go_wp2
        go_ret3
        exact HFIN.out _ HW.out
set_option maxRecDepth 100000 in
set_option maxHeartbeats 4000000 in
theorem cn_spec (t : ByteArray) (hs : t.size ≤ 1048576) (w : World) :
    Calls Tryd.prog 5 #[.string t] w (CnPost t w) := by
  have HL := Lib.hid (fun W => lnc_spec t hs W)
  by_cases h16 : t.size ≤ 16000
  · have hd : decide ((16000 : Int) < (t.size : Int)) = false := decide_eq_false (by omega)
    by_cases hlp : lp 10 t.data.toList = []
    · have HOK : Hid (lnOk t = true) := Lib.hid (decide_eq_true ⟨h16, hlp⟩)
      have hem : ((txB (lp 10 t.data.toList)).toList == []) = true := by rw [ByteArray.toList_eq, txB_listc, hlp]; rfl
      generalize txB (lp 10 t.data.toList) = rs at HL hem
      clear hlp
      have hml : lnM t ≤ 1048576 := Nat.le_trans (lnM_le t) hs
      have HCL := Lib.hid (cnt_le (lnP t))
      have HFIN := Lib.hid (fun w' (hb : Below w.heap.size w w') => CnPost.yes HOK.out hb)
      obtain ⟨m, hm⟩ : ∃ m, lnM t = m := ⟨_, rfl⟩
      obtain ⟨X, hX⟩ : ∃ X, lnP t = X := ⟨_, rfl⟩
      rw [hm] at HL HFIN hml
      rw [hX] at HL HFIN HCL
      clear hm hX
      go_enter Tryd.func5, Tryd.ntmps5
      go_wp2_with (first | (go_at_call 12; refine (HL.out _).mono ?_; rintro e w2 ⟨g, cp, rfl, ht, hb2⟩; have HT := Lib.hid ht; have HB := Lib.hid hb2; clear ht hb2) | fail)
      go_loopw [7, 8] (fun cv iv w' => ∃ (k : Nat) (wr : World), k ≤ m ∧ cv = .int .i64 (cnt X k : Int) ∧ iv = .int .i64 k ∧ wr = w' ∧ Hid (Below w.heap.size w wr) ∧ Hid (TRc wr g (m + 1) X)) (fun _ iv _ => m - (intOf iv).toNat)
      case atStart => exact ⟨0, _, by omega, rfl, rfl, rfl, HB, HT⟩
      case round =>
        obtain ⟨k, wr, hk, rfl, rfl, rfl, HW, HTR⟩ := hrel
        have hcl := HCL.out k
        by_cases hlt : k < m
        · have hck := HTR.out.2.2 k (by omega)
          have HY := Lib.hid (fun h => cnt_yes (X := X) (k := k) h)
          have HN := Lib.hid (fun h => cnt_no (X := X) (k := k) h)
          generalize txB (X.getD k []) = s at hck HY HN
          unfold isBad at HY HN
          cases h1 : (s.toList == [110, 111])
          · cases h2 : (s.toList == [119, 104, 97, 116])
            · have HE := Lib.hid (HN.out (by rw [h1, h2]; rfl))
              clear HY HN
              go_wp2
              exact ⟨⟨k + 1, _, by omega, by rw [HE.out] <;> first | rfl | go_num | (congr 1), by first | rfl | go_num | (congr 1), rfl, HW, HTR⟩, by show m - ((k : Int) + 1).toNat < m - (k : Int).toNat; omega⟩
            · have HE := Lib.hid (HY.out (by rw [h1, h2]; rfl))
              clear HY HN
              go_wp2
              exact ⟨⟨k + 1, _, by omega, by rw [HE.out] <;> first | rfl | go_num | (congr 1), by first | rfl | go_num | (congr 1), rfl, HW, HTR⟩, by show m - ((k : Int) + 1).toNat < m - (k : Int).toNat; omega⟩
          · have HE := Lib.hid (HY.out (by rw [h1]; rfl))
            clear HY HN
            go_wp2
            exact ⟨⟨k + 1, _, by omega, by rw [HE.out] <;> first | rfl | go_num | (congr 1), by first | rfl | go_num | (congr 1), rfl, HW, HTR⟩, by show m - ((k : Int) + 1).toNat < m - (k : Int).toNat; omega⟩
        · obtain rfl : k = m := by omega
          go_wp2
          go_ret3
          exact HFIN.out _ HW.out
    · have HNO : Hid (lnOk t = false) := Lib.hid (decide_eq_false (fun q => hlp q.2))
      have hem : ((txB (lp 10 t.data.toList)).toList == []) = false := by rw [ByteArray.toList_eq, txB_listc, beq_eq_false_iff_ne]; exact hlp
      generalize txB (lp 10 t.data.toList) = rs at HL hem
      clear hlp
      go_enter Tryd.func5, Tryd.ntmps5
      go_wp2_with (first | (go_at_call 12; refine (HL.out _).mono ?_; rintro e w2 ⟨g, cp, rfl, ht, hb2⟩; have HT := Lib.hid ht; have HB := Lib.hid hb2; clear ht hb2) | fail)
      go_ret3
      exact CnPost.no HNO.out HB.out
  · have HNO : Hid (lnOk t = false) := Lib.hid (decide_eq_false (fun q => h16 q.1))
    have hd : decide ((16000 : Int) < (t.size : Int)) = true := decide_eq_true (by omega)
    go_enter Tryd.func5, Tryd.ntmps5
    go_wp2
    go_ret3
    exact CnPost.no HNO.out (Below.refl _ _)
end Go.Proofs.YtdmdgkjmecgpeaaDoor
