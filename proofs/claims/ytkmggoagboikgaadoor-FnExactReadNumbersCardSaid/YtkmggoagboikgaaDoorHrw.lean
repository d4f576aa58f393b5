
/- ReadNumbers: the functions. -/
import Derived.Test.YtkmggoagboikgaaDoorCuw
import Derived.Test.YtkmggoagboikgaaDoorHrq
import Derived.Test.YtkmggoagboikgaaDoorShf
set_option linter.unusedVariables false
set_option linter.unusedSimpArgs false
namespace Go.Proofs.YtkmggoagboikgaaDoor
open Go.Proofs.YtkmggoagboikgaaDoor.Flo Go.RowKit

theorem Tryd.info32L : (Tryd.prog.info? 33).map (fun i => (i.zero, i.size, i.bytes)) = some (some (.float .f32 0), 1, 4) := by kernel_rfl
theorem txB_list (l : List UInt8) : (txB l).data.toList = l := by unfold txB; simp
theorem belowD (w : World) (o : Obj) : Below w.heap.size w (w.alloc o) := (Below.refl _ _).alloc (Nat.le_refl _) o
/-- A variable of the library that holds some number, in the world that the call has entered and in each that comes of it. -/
def MaxL (w0 : World) : Prop := ∃ m, ∀ W, Below w0.heap.size w0 W → W.cell? ⟨1, 0, none⟩ = some (.int .i64 m)
theorem cell_lt {w : World} {a : Addr} {v : Value} (h : w.cell? a = some v) : a.block < w.heap.size := by
  unfold World.cell? at h
  cases hx : w.heap[a.block]? with
  | none => simp [hx] at h
  | some o => exact (Array.getElem?_eq_some_iff.1 hx).1
theorem MaxL.of {w0 : World} (h : ∃ m, w0.cell? ⟨1, 0, none⟩ = some (.int .i64 m)) : MaxL w0 := by
  obtain ⟨m, hm⟩ := h
  exact ⟨m, fun W hb => by rw [hb.cell (p := ⟨1, 0, none⟩) (cell_lt hm)]; exact hm⟩
/-- A row of texts in a block. -/
def TRow (W : World) (g n : Nat) (X : List (List UInt8)) : Prop := X.length = n ∧ g < W.heap.size ∧ ∀ j, j < n → W.cell? ⟨g, j, none⟩ = some (.string (txB (X.getD j [])))
theorem TRow.below {W W' : World} {g n : Nat} {X : List (List UInt8)} (h : TRow W g n X) (hb : Below W.heap.size W W') : TRow W' g n X :=
  ⟨h.1, Nat.lt_of_lt_of_le h.2.1 hb.size, fun j hj => by rw [hb.cell (p := ⟨g, j, none⟩) h.2.1]; exact h.2.2 j hj⟩
theorem sp_impl (s : ByteArray) (c : UInt8) (hs : s.size ≤ 1048576) (w0 w : World) (hM : MaxL w0) (hb : Below w0.heap.size w0 w) :
    Calls Tryd.prog 30 #[.string s, .string ⟨#[c]⟩] w fun e w' => ∃ g, e = .returned (.slice (some ⟨g, 0, none⟩) (cutL c s.data.toList).length (cutL c s.data.toList).length) ∧ TRow w' g (cutL c s.data.toList).length (cutL c s.data.toList) ∧ Below w.heap.size w w' := by
  obtain ⟨m, hm⟩ := hM
  obtain ⟨h1, h2⟩ := splitB_cut s c
  refine (Tryd.strings_Split s ⟨#[c]⟩ m w (by omega) (hm w hb) (by show 1 ≤ 1; omega)).mono ?_
  rintro e w' ⟨rfl, rfl⟩
  refine ⟨w.heap.size, by rw [h2], ⟨rfl, by simp, fun j hj => ?_⟩, belowD _ _⟩
  rw [World.cell?_alloc_at _ _ _ _ rfl, h1]
  simp [List.getD_eq_getElem?_getD, hj]
/-- Are these texts of numbers of a list, not too many? -/
def rlB (X : List (List UInt8)) : Bool := decide (X.length ≤ 256) && X.all fun p => (rpO p).isSome
theorem rlB_long {X : List (List UInt8)} (h : ¬ X.length ≤ 256) : rlB X = false := by unfold rlB; rw [decide_eq_false h]; rfl
theorem rlB_no {X : List (List UInt8)} {k : Nat} (hk : k < X.length) (h : rpO (X.getD k []) = none) : rlB X = false := by
  cases hb : rlB X with
  | false => rfl
  | true =>
    unfold rlB at hb
    rw [Bool.and_eq_true] at hb
    rw [List.getD_eq_getElem?_getD, List.getElem?_eq_getElem hk, Option.getD_some] at h
    have := List.all_eq_true.1 hb.2 X[k] (List.getElem_mem hk)
    rw [h] at this; cases this
theorem rlB_yes {X : List (List UInt8)} (h0 : X.length ≤ 256) (h : ∀ j, j < X.length → rpO (X.getD j []) ≠ none) : rlB X = true := by
  unfold rlB
  rw [decide_eq_true h0, Bool.true_and, List.all_eq_true]
  intro p hp
  obtain ⟨j, hj, rfl⟩ := List.getElem_of_mem hp
  have := h j hj
  rw [List.getD_eq_getElem?_getD, List.getElem?_eq_getElem hj, Option.getD_some] at this
  cases hr : rpO X[j] with
  | none => exact absurd hr this
  | some v => rfl
/-- The numbers that texts tell. -/
def rlF (X : List (List UInt8)) (i : Nat) : Value := .float .f32 ((rpO (X.getD i [])).getD 0)
/-- The text of no numbers. -/
def isNone (s : ByteArray) : Bool := s.toList == [110, 111, 110, 101]
def rlOk (s : ByteArray) : Bool := isNone s || rlB (cutL 44 s.data.toList)
def rlN (s : ByteArray) : Nat := if isNone s then 0 else (cutL 44 s.data.toList).length
theorem rlOk_none {s : ByteArray} (h : isNone s = true) : rlOk s = true := by unfold rlOk; rw [h]; rfl
theorem rlOk_else {s : ByteArray} (h : isNone s = false) : rlOk s = rlB (cutL 44 s.data.toList) := by unfold rlOk; rw [h]; rfl
theorem rlN_none {s : ByteArray} (h : isNone s = true) : rlN s = 0 := by unfold rlN; rw [h]; rfl
theorem rlN_else {s : ByteArray} (h : isNone s = false) : rlN s = (cutL 44 s.data.toList).length := by unfold rlN; rw [h]; rfl
/-- What ReadList answers. -/
def RlPost (s : ByteArray) : World → Ending → World → Prop := GPost (rlOk s) 33 (rlN s) (rlF (cutL 44 s.data.toList))
theorem RlPost.emp {s : ByteArray} {w w' : World} (h : isNone s = true) {v : Value} (hv : Gat w' w.heap.size 33 v 0 (rlF (cutL 44 s.data.toList))) (hb : Below w.heap.size w w') : RlPost s w (.returned (.tuple #[v, .bool true])) w' := by
  unfold RlPost GPost; rw [rlOk_none h, rlN_none h]; exact .inl ⟨rfl, ⟨v, rfl, hv⟩, hb⟩
theorem RlPost.yes {s : ByteArray} {w w' : World} (h : isNone s = false) (h2 : rlB (cutL 44 s.data.toList) = true) {v : Value} (hv : Gat w' w.heap.size 33 v (cutL 44 s.data.toList).length (rlF (cutL 44 s.data.toList))) (hb : Below w.heap.size w w') : RlPost s w (.returned (.tuple #[v, .bool true])) w' := by
  unfold RlPost GPost; rw [rlOk_else h, rlN_else h]; exact .inl ⟨h2, ⟨v, rfl, hv⟩, hb⟩
theorem RlPost.no {s : ByteArray} {w w' : World} (h : isNone s = false) (h2 : rlB (cutL 44 s.data.toList) = false) (hb : Below w.heap.size w w') : RlPost s w (.returned (.tuple #[.slice none 0 0, .bool false])) w' := by
  unfold RlPost GPost; rw [rlOk_else h, rlN_else h]; exact .inr ⟨h2, rfl, hb⟩
theorem RlPost.form {s : ByteArray} {w w' : World} {e : Ending} (h : RlPost s w e w') : ∃ v b, e = .returned (.tuple #[v, .bool b]) := by
  rcases h with ⟨_, ⟨v, he, _⟩, _⟩ | ⟨_, he, _⟩
  · exact ⟨v, true, he⟩
  · exact ⟨_, false, he⟩
theorem trow_grown {w4 w1 : World} {g n : Nat} {X : List (List UInt8)} {v : Value} {o : Obj} (ht : TRow w4 g n X) (hgr : (w4.alloc o).grownBy w1 v.ownBlock) (hne : v.ownBlock ≠ some g) : TRow w1 g n X := by
  refine ⟨ht.1, Nat.lt_of_lt_of_le ht.2.1 (Nat.le_trans (by simp) hgr.size), fun j hj => ?_⟩
  have hb := hgr.block g (by simp; have := ht.2.1; omega) (fun e => hne e.symm)
  rw [World.cell?_of_block (a := ⟨g, j, none⟩) hb, World.cell?_alloc_past _ _ _ ht.2.1]
  exact ht.2.2 j hj
theorem own_next {v : Value} {g gg H n cp : Nat} (h : ∀ j, v.ownBlock = some j → j ≠ g) (hat : v.ownBlock = some gg ∨ gg = H) (hH : g < H) : ∀ j, (Value.slice (some ⟨gg, 0, none⟩) n cp).ownBlock = some j → j ≠ g := by
  intro j hj
  have e : gg = j := by simpa [Value.ownBlock] using hj
  subst e
  rcases hat with h1 | h1
  · exact h _ h1
  · omega
set_option maxRecDepth 100000 in
set_option maxHeartbeats 8000000 in
theorem ri_impl (s : ByteArray) (hs : s.size ≤ 1048576) (w0 w : World) (hM : MaxL w0) (hb : Below w0.heap.size w0 w) :
    Calls Tryd.prog 19 #[.string s, .int .i64 256, .func (.func 20) #[] #[]] w (RlPost s w) := by
  cases hno : isNone s
  · have hno1 : (s.toList == [110, 111, 110, 101]) = false := hno
    have HIS := Lib.hid hno
    have hcl := cutL_len 44 s.data.toList
    have HCO : Hid (∀ W : World, Calls Tryd.prog 29 #[.string s, .string ⟨#[44]⟩] W fun e w' => e = .returned (.int .i64 (s.data.toList.count 44 : Nat)) ∧ w' = W) := Lib.hid (fun W => Tryd.strings_Count_one s 44 W)
    have hcn : s.data.toList.count 44 ≤ 1048576 := by
      have h1 := List.count_le_length (a := (44 : UInt8)) (l := s.data.toList)
      have h2 : s.data.toList.length = s.size := Array.length_toList
      omega
    by_cases h64 : (cutL 44 s.data.toList).length ≤ 256
    · have hd : decide (256 ≤ ((s.data.toList.count 44 : Nat) : Int)) = false := decide_eq_false (by omega)
      have HSP := Lib.hid (fun W (h : Below w0.heap.size w0 W) => sp_impl s 44 hs w0 W hM h)
      obtain ⟨i0, hi, hz0, hz1, hz2⟩ := info_parts Tryd.info32L
      have HB0 := Lib.hid hb
      obtain ⟨F, hF⟩ : ∃ F, F = rlF (cutL 44 s.data.toList) := ⟨_, rfl⟩
      have HFE := Lib.hid hF
      obtain ⟨n, hn⟩ : ∃ n, n = (cutL 44 s.data.toList).length := ⟨_, rfl⟩
      rw [← hn] at HSP h64 hcl
      have HNN := Lib.hid hn
      obtain ⟨cn, hcn2⟩ : ∃ cn, cn = s.data.toList.count 44 := ⟨_, rfl⟩
      rw [← hcn2] at hd HCO hcn
      clear hno  hM hb hF hn hcl hcn2
      go_enter Tryd.func19, Tryd.ntmps19
      go_wp2_with (first | (go_at_call 29; refine (HCO.out _).mono ?_; rintro e w2 ⟨rfl, hw⟩; have hw := hw.symm; subst hw) | (go_at_call 30; refine (HSP.out _ HB0.out).mono ?_; rintro e w2 ⟨g, rfl, ht, hb2⟩; have HT0 := Lib.hid ht; have HB0a := Lib.hid hb2; clear ht hb2) | fail)
      have HG0 := Lib.hid (Gat.nil w2 w.heap.size 33 F)
      have HNG0 : Hid (∀ j, (Value.slice none 0 0).ownBlock = some j → j ≠ g) := Lib.hid (by intro j hj; simp [Value.ownBlock] at hj)
      go_loopw [8, 22] (fun sv iv w' => ∃ (k : Nat) (v : Value) (wr : World), k ≤ n ∧ sv = v ∧ iv = .int .i64 k ∧ wr = w' ∧ Hid (Gat wr w.heap.size 33 v k F) ∧ Hid (Below w.heap.size w wr) ∧ Hid (TRow wr g n (cutL 44 s.data.toList)) ∧ Hid (∀ j, v.ownBlock = some j → j ≠ g) ∧ Hid (∀ j, j < k → rpO ((cutL 44 s.data.toList).getD j []) ≠ none)) (fun _ iv _ => n - (intOf iv).toNat)
      case atStart => exact ⟨0, _, _, by omega, rfl, rfl, rfl, HG0, HB0a, HT0, HNG0, Lib.hid (by intro j hj; omega)⟩
      case round =>
        obtain ⟨k, v, wr, hk, rfl, rfl, rfl, HG, HW, HT, HNG, HV⟩ := hrel
        have HSZ := Lib.hid HW.out.size
        by_cases hlt : k < n
        · have hck := HT.out.2.2 k hlt
          have hlp : (txB ((cutL 44 s.data.toList).getD k [])).size ≤ 1048576 := by
            rw [List.getD_eq_getElem?_getD, List.getElem?_eq_getElem (by have := HT.out.1; omega), Option.getD_some, txB_size]
            have h9 := cutL_le 44 s.data.toList _ (List.getElem_mem (l := cutL 44 s.data.toList) (n := k) (by have := HT.out.1; omega))
            have h10 : s.data.toList.length = s.size := Array.length_toList
            omega
          have HNE := Lib.hid (Gat.block HG.out)
          cases hin : rpO ((cutL 44 s.data.toList).getD k []) with
          | none =>
            have HN := Lib.hid (rlB_no (by have := HT.out.1; omega) hin)
            have HRD := Lib.hid (fun W => (rp_impl (txB ((cutL 44 s.data.toList).getD k [])) W hlp).mono (fun e w' q => (show e = .returned (.tuple #[.float .f32 0, .bool false]) ∧ Below W.heap.size W w' from ⟨by rw [q.1, rpV_no (by rw [txB_list]; exact hin)], q.2⟩)))
            generalize txB ((cutL 44 s.data.toList).getD k []) = p at hck HRD
            clear hin hlp
            go_wp2_with (first | (go_at_call 20; refine (HRD.out _).mono ?_; rintro e w4 ⟨rfl, hb4⟩; have HW4 := Lib.hid (Below.next HW.out hb4); clear hb4) | fail)
            go_ret2
            exact RlPost.no HIS.out HN.out HW4.out
          | some x =>
            have HV2 : Hid (∀ j, j < k + 1 → rpO ((cutL 44 s.data.toList).getD j []) ≠ none) := Lib.hid (fun j hj => by
              by_cases e : j < k
              · exact HV.out j e
              · obtain rfl : j = k := by omega
                rw [hin]; simp)
            have HK : Hid (F k = .float .f32 x) := Lib.hid (by rw [HFE.out]; unfold rlF; rw [hin]; rfl)
            have HRD := Lib.hid (fun W => (rp_impl (txB ((cutL 44 s.data.toList).getD k [])) W hlp).mono (fun e w' q => (show e = .returned (.tuple #[.float .f32 x, .bool true]) ∧ Below W.heap.size W w' from ⟨by rw [q.1, rpV_yes (by rw [txB_list]; exact hin)], q.2⟩)))
            generalize txB ((cutL 44 s.data.toList).getD k []) = p at hck HRD
            clear hin hlp
            go_wp2_with (first | (go_at_call 20; refine (HRD.out _).mono ?_; rintro e w4 ⟨rfl, hb4⟩; have HW4 := Lib.hid (Below.next HW.out hb4); have HG4 := Lib.hid (Gat.keep HG.out hb4); have HT4 := Lib.hid (HT.out.below hb4); have HS4 := Lib.hid HW4.out.size; clear hb4) | (at_builtin; refine wpList_append_lies _ rfl _ _ 22 rfl w.heap.size 33 i0 (.float .f32 0) 1 4 Tryd.underlying22 hi hz0 hz1 hz2 rfl (by omega) u8 k ((List.range k).map F) rfl (World.ownsRow.alloc HG4.out _) ⟨w4.heap.size, 0, none⟩ 1 1 [.float .f32 x] rfl rfl (World.news_of_block (cs := #[.float .f32 x]) (t := 33) (fr := (0, 0)) (heap_alloc_new _ _)) (by simp [Value.oneCell']) (by omega) (by unfold maxLen; omega) (by omega) (by have := HS4.out; simp; omega) (w4.heap.size + 1) (by simp) ?_; intro gg cp w1 hown1 hgrow hat hlt3; have HO2 := Lib.hid hown1; have HG2 := Lib.hid hgrow; have HAT := Lib.hid hat; clear hown1 hgrow hat hlt3) | fail)
            exact ⟨⟨k + 1, _, _, by omega, rfl, by first | rfl | go_num | (congr 1), rfl, Lib.hid (Gat.step HO2.out HK.out.symm), Lib.hid (Below.grown (Below.alloc HW4.out HS4.out _) HG2.out (by have := HS4.out; simp; omega) (fun j hj => HNE.out j hj)), Lib.hid (trow_grown HT4.out HG2.out (fun e => HNG.out _ e rfl)), Lib.hid (own_next HNG.out HAT.out (by have := HT4.out.2.1; omega)), HV2⟩, by show n - ((k : Int) + 1).toNat < n - (k : Int).toNat; omega⟩
        · obtain rfl : k = n := by omega
          have HN := Lib.hid (rlB_yes (X := cutL 44 s.data.toList) (by have := HT.out.1; omega) (fun j hj => HV.out j (by have := HT.out.1; omega)))
          have HFI : Hid (Gat wr w.heap.size 33 u8 (cutL 44 s.data.toList).length (rlF (cutL 44 s.data.toList))) := Lib.hid (by have h := HG.out; rw [HFE.out] at h; rw [HT.out.1]; exact h)
          go_wp2
          go_ret2
          exact RlPost.yes HIS.out HN.out HFI.out HW.out
    · have hd : decide (256 ≤ ((s.data.toList.count 44 : Nat) : Int)) = true := decide_eq_true (by omega)
      have HN := Lib.hid (rlB_long h64)
      clear hno  hM hb hcl h64
      generalize s.data.toList.count 44 = cn at hd HCO hcn
      go_enter Tryd.func19, Tryd.ntmps19
      go_wp2_with (first | (go_at_call 29; refine (HCO.out _).mono ?_; rintro e w2 ⟨rfl, hw⟩; have hw := hw.symm; subst hw) | fail)
      go_ret2
      exact RlPost.no HIS.out HN.out (Below.refl _ _)
  · have hno1 : (s.toList == [110, 111, 110, 101]) = true := hno
    have HIS := Lib.hid hno
    clear hno  hM hb
    go_enter Tryd.func19, Tryd.ntmps19
    go_wp2
    go_ret2
    exact RlPost.emp HIS.out (Gat.nil _ _ _ _) (Below.refl _ _)
set_option maxRecDepth 100000 in
theorem rl_impl (s : ByteArray) (hs : s.size ≤ 1048576) (w0 w : World) (hM : MaxL w0) (hb : Below w0.heap.size w0 w) :
    Calls Tryd.prog 10 #[.string s] w (RlPost s w) := by
  have HR := Lib.hid (ri_impl s hs w0 w hM hb)
  clear  hM hb
  go_enter Tryd.func10, Tryd.ntmps10
  go_wp2_with (first | (go_at_call 19; refine HR.out.mono ?_; rintro e w2 hq; obtain ⟨v, b, he⟩ := RlPost.form hq; subst he; have HQ := Lib.hid hq; clear hq) | fail)
  go_ret2
  exact HQ.out
end Go.Proofs.YtkmggoagboikgaaDoor
