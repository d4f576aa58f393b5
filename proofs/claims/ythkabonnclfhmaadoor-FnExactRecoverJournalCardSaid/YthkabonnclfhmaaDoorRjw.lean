
/- RecoverJournal: the functions. -/
import Derived.Test.YthkabonnclfhmaaDoorRjp
import Derived.Test.YthkabonnclfhmaaDoorCpx
import Derived.Test.YthkabonnclfhmaaDoorCuw
import Derived.Test.YthkabonnclfhmaaDoorRlw
namespace Go.Proofs.YthkabonnclfhmaaDoor
open Go.Proofs.YthkabonnclfhmaaDoor.Flo Go.RowKit Go.Proofs.YthkabonnclfhmaaDoor.Dcn

def jfn (t : ByteArray) (i : Nat) : Value := .string (txB ((jX t.data.toList).getD i []))
def jN (t : ByteArray) : Nat := (jX t.data.toList).length
def jM (t : ByteArray) : Int := (t.size : Int) - ((jR t.data.toList).length : Int)
def sizeOf' : Value → Nat
  | .string b => b.size
  | _ => 0
theorem cut_len (c : UInt8) (r : List UInt8) : (Lib.cut r [c]).1.length ≤ r.length ∧ (Lib.cut r [c]).2.1.length ≤ r.length := by
  rcases split_first c r with h | ⟨a, b, rfl, ha⟩
  · rw [cut_free h]; simp
  · rw [cut_at ha]; simp; omega
theorem jF_len (r : List UInt8) : (jF r).length ≤ r.length := (cut_len 10 r).1
theorem jL_len (r : List UInt8) : (jL r).length ≤ r.length := Nat.le_trans (cut_len 32 (jF r)).2 (jF_len r)
def RjPost (t : ByteArray) (w : World) (e : Ending) (w' : World) : Prop :=
  ((t.size ≤ 16000 ∧ ∃ v, e = .returned (.tuple #[v, .int .i64 (jM t), .bool true]) ∧ Gat w' w.heap.size 9 v (jN t) (jfn t)) ∨ (¬ t.size ≤ 16000 ∧ e = .returned (.tuple #[.slice none 0 0, .int .i64 0, .bool false]))) ∧ Below w.heap.size w w'
theorem Gat.cap {w : World} {base : Nat} {T : TypeId} {g n cp : Nat} {f : Nat → Value} (h : Gat w base T (.slice (some ⟨g, 0, none⟩) n cp) n f) : n ≤ cp := by
  obtain ⟨_, h⟩ := h
  rcases h with ⟨h0, _⟩ | ⟨g2, cap, cur, e, _, _, hnc, _⟩
  · cases h0
  · injection e with _ _ e3
    omega
theorem RjPost.fin {t : ByteArray} {w w' : World} {r : List UInt8} {v : Value} {k : Nat} (h16 : t.size ≤ 16000) (hst : k = (jX t.data.toList).length ∧ r = jR t.data.toList) (hg : Gat w' w.heap.size 9 v k (jfn t)) (hb : Below w.heap.size w w') : RjPost t w (.returned (.tuple #[v, .int .i64 ((t.size : Int) - (r.length : Int)), .bool true])) w' := by
  obtain ⟨rfl, rfl⟩ := hst
  exact ⟨.inl ⟨h16, v, rfl, hg⟩, hb⟩
theorem ctj_impl (s : ByteArray) (c : UInt8) {a b : List UInt8} {f : Bool} (h : Lib.cut s.data.toList [c] = (a, b, f)) (hs : s.size ≤ 1048576) (w0 w : World) (hM : MaxL w0) (hb : Below w0.heap.size w0 w) :
    Calls Tryd.prog 88 #[.string s, .string ⟨#[c]⟩] w fun e w' => e = .returned (.tuple #[.string (txB a), .string (txB b), .bool f]) ∧ Below w.heap.size w w' := by
  obtain ⟨m, hm⟩ := hM
  have h' : Lib.cut s.data.toList (⟨#[c]⟩ : ByteArray).data.toList = (a, b, f) := h
  refine (Tryd.strings_Cut s ⟨#[c]⟩ m w (by omega) (hm w hb)).mono ?_
  rw [h']
  rintro e w' ⟨rfl, n, rfl⟩
  exact ⟨rfl, Below.drewN' (Below.refl _ _) _⟩
set_option maxRecDepth 100000 in
set_option maxHeartbeats 4000000 in
theorem rj_impl (t : ByteArray) (hs : t.size ≤ 1048576) (w0 w : World) (hp : Pow w0) (hM : MaxL w0) (hb : Below w0.heap.size w0 w) :
    Calls Tryd.prog 59 #[.string t] w (RjPost t w) := by
  have hsz : t.data.toList.length = t.size := Array.length_toList
  by_cases h16 : t.size ≤ 16000
  · have hd : decide ((16000 : Int) < (t.size : Int)) = false := decide_eq_false (by omega)
    obtain ⟨i0, hi, hz0, hz1, hz2⟩ := info_parts Tryd.infoT0
    obtain ⟨F, hF⟩ : ∃ F, F = jfn t := ⟨_, rfl⟩
    obtain ⟨N, hN⟩ : ∃ N, N = jN t := ⟨_, rfl⟩
    have HFE := Lib.hid hF
    have HNE9 := Lib.hid hN
    have HSZ := Lib.hid hsz
    have ht : txB t.data.toList = t := txB_back _
    have HCT := Lib.hid (fun W (h1 : Below w.heap.size w W) s c a b f h hs => @ctj_impl s c a b f h hs w0 W hM (Below.next hb h1))
    have HEN := Lib.hid (fun W (h1 : Below w.heap.size w W) c s h2 h3 h4 => ent_impl c s h2 h3 h4 w0 W hp (Below.next hb h1))
    clear hF hN hsz hp hM hb
    go_enter Tryd.func59, Tryd.ntmps59
    go_wp2
    go_loopw [5, 6, 7] (fun lv rv cv w' => ∃ (k : Nat) (r : List UInt8) (c : Int) (v : Value) (wr : World), lv = v ∧ rv = .string (txB r) ∧ cv = .int .i64 c ∧ wr = w' ∧ k ≤ N ∧ Hid (JSt t.data.toList k c r) ∧ Hid (Gat wr w.heap.size 9 v k F) ∧ Hid (Below w.heap.size w wr)) (fun _ rv _ _ => sizeOf' rv)
    case atStart => exact ⟨0, t.data.toList, 0, _, _, rfl, by rw [ht], rfl, rfl, by omega, Lib.hid (JSt.start _), Lib.hid (Gat.nil _ _ _ _), Lib.hid (Below.refl _ _)⟩
    case round =>
      obtain ⟨k, r, c, v, wr, rfl, rfl, rfl, rfl, hk, HJ, HG, HW⟩ := hrel
      have hl := HJ.out.len
      have hjb := HJ.out.bd
      have hsz := HSZ.out
      have hrl : (txB r).size = r.length := txB_size r
      have HC1 := Lib.hid (fun W (h1 : Below w.heap.size w W) => HCT.out W h1 (txB r) 10 (jF r) (Lib.cut r [10]).2.1 (Lib.cut r [10]).2.2 (by rw [txB_list]; rfl) (by omega))
      have HC2 := Lib.hid (fun W (h1 : Below w.heap.size w W) => HCT.out W h1 (txB (jF r)) 32 (Lib.cut (jF r) [32]).1 (jL r) (Lib.cut (jF r) [32]).2.2 (by rw [txB_list]; rfl) (by rw [txB_size]; have := jF_len r; omega))
      have HE1 := Lib.hid (fun W (h1 : Below w.heap.size w W) => HEN.out W h1 c (txB (jL r)) hjb.1 hjb.2 (by rw [txB_size]; have := jL_len r; omega))
      have HCP := Lib.hid (fun W => cutPrefix (txB r) (txB (jE (chk c (jL r)) (jL r))) W)
      rw [txB_list] at HE1
      simp only [txB_list] at HCP
      have HST := Lib.hid (jst_prog c r)
      have HLL := Lib.hid (jL_len r)
      generalize (Lib.cut r [10]).2.1 = b1 at HC1
      generalize (Lib.cut r [10]).2.2 = f1 at HC1
      generalize (Lib.cut (jF r) [32]).1 = b2 at HC2
      generalize (Lib.cut (jF r) [32]).2.2 = f2 at HC2
      generalize txB (jF r) = sF at HC1 HC2
      have HS1 := Lib.hid HW.out.size
      have HNB := Lib.hid (Gat.block HG.out)
      cases hpx : Lib.hasPrefix r (jE (chk c (jL r)) (jL r)) with
      | false =>
        have HNO := Lib.hid (HJ.out.stop (by rw [HST.out, if_neg (by rw [hpx]; simp)]) (by have := HNE9.out; unfold jN at this; omega))
        rw [hpx] at HCP
        clear hpx HST
        generalize txB r = sR at HC1 HCP hrl
        generalize jE (chk c (jL r)) (jL r) = E at HE1 HCP
        generalize chk c (jL r) = c2 at HE1
        generalize txB (jL r) = sL at HC2 HE1
        go_wp2_with (first | (go_at_call 88; (first | (with_reducible refine (HC1.out _ HW.out).mono ?_; rintro e w2 ⟨rfl, hb2⟩; have HW2 := Lib.hid (Below.next HW.out hb2); have HR2 := Lib.hid hb2; clear hb2) | (with_reducible refine (HC2.out _ HW2.out).mono ?_; rintro e w3 ⟨rfl, hb2⟩; have HW3 := Lib.hid (Below.next HW2.out hb2); have HR3 := Lib.hid (Below.next HR2.out hb2); clear hb2))) | (go_at_call 91; refine (HE1.out _ HW3.out).mono ?_; rintro e w4 ⟨rfl, hb4⟩; have HW4 := Lib.hid (Below.next HW3.out hb4); have HG4 := Lib.hid (Gat.keep HG.out (Below.next HR3.out hb4)); have HS4 := Lib.hid HW4.out.size; clear hb4) | (go_at_call 97; refine (HCP.out _).mono ?_; rintro e w5 ⟨rfl, hw⟩; have hw := hw.symm; subst hw) | fail)
        go_ret3
        exact RjPost.fin h16 HNO.out (HFE.out ▸ HG4.out) HW4.out
      | true =>
        have HQ : Hid (jst c r = some (jL r, Lib.trimPrefix r (jE (chk c (jL r)) (jL r)))) := Lib.hid (by rw [HST.out, if_pos hpx])
        have hq3 := HJ.out.step HQ.out
        have HSP := Lib.hid hq3.2.2
        have hkN : k + 1 ≤ N := by have := HNE9.out; unfold jN at this; have := hq3.2.1; omega
        have HK : Hid (F k = .string (txB (jL r))) := Lib.hid (by rw [HFE.out]; unfold jfn; rw [hq3.1])
        have hsh := jst_short HQ.out
        obtain ⟨b, hbb⟩ : ∃ b, Lib.trimPrefix r (jE (chk c (jL r)) (jL r)) = b := ⟨_, rfl⟩
        rw [hbb] at HSP hsh HCP
        rw [hpx] at HCP
        have hbt : (⟨b.toArray⟩ : ByteArray) = txB b := rfl
        rw [hbt] at HCP
        have hbl : (txB b).size = b.length := txB_size b
        obtain ⟨sB, hsB⟩ : ∃ x, txB b = x := ⟨_, rfl⟩
        rw [hsB] at HCP hbl
        have HSB := Lib.hid hsB
        clear hsB hbt
        clear hpx HST hq3 hbb HQ
        generalize jE (chk c (jL r)) (jL r) = E at HE1 HCP
        obtain ⟨c2, hc2⟩ : ∃ c2, chk c (jL r) = c2 := ⟨_, rfl⟩
        rw [hc2] at HE1 HSP
        clear hc2
        generalize txB r = sR at HC1 HCP hrl
        generalize txB (jL r) = sL at HC2 HE1 HK
        go_wp2_with (first | (go_at_call 88; (first | (with_reducible refine (HC1.out _ HW.out).mono ?_; rintro e w2 ⟨rfl, hb2⟩; have HW2 := Lib.hid (Below.next HW.out hb2); have HR2 := Lib.hid hb2; clear hb2) | (with_reducible refine (HC2.out _ HW2.out).mono ?_; rintro e w3 ⟨rfl, hb2⟩; have HW3 := Lib.hid (Below.next HW2.out hb2); have HR3 := Lib.hid (Below.next HR2.out hb2); clear hb2))) | (go_at_call 91; refine (HE1.out _ HW3.out).mono ?_; rintro e w4 ⟨rfl, hb4⟩; have HW4 := Lib.hid (Below.next HW3.out hb4); have HG4 := Lib.hid (Gat.keep HG.out (Below.next HR3.out hb4)); have HS4 := Lib.hid HW4.out.size; clear hb4) | (go_at_call 97; refine (HCP.out _).mono ?_; rintro e w5 ⟨rfl, hw⟩; have hw := hw.symm; subst hw) | (at_builtin; refine wpList_append_lies _ rfl _ _ 66 rfl w.heap.size 9 i0 (.string ⟨#[]⟩) 1 16 Tryd.underlying66 hi hz0 hz1 hz2 rfl (by omega) u5 k ((List.range k).map F) rfl (World.ownsRow.alloc HG4.out _) ⟨w4.heap.size, 0, none⟩ 1 1 [.string sL] rfl rfl (World.news_of_block (cs := #[.string sL]) (t := 9) (fr := (0, 0)) (heap_alloc_new _ _)) (by simp [Value.oneCell']) (by omega) (by unfold maxLen; omega) (by omega) (by have := HS4.out; simp; omega) (w4.heap.size + 1) (by simp) ?_; intro gg cp w1 hown1 hgrow hat hlt3; have HO2 := Lib.hid hown1; have HG2 := Lib.hid hgrow; clear hown1 hgrow hat hlt3) | fail)
        exact ⟨⟨k + 1, b, c2, _, _, rfl, by rw [HSB.out], rfl, rfl, hkN, HSP, Lib.hid (Gat.step HO2.out HK.out.symm), Lib.hid (Below.grown (Below.alloc HW4.out HS4.out _) HG2.out (by have := HS4.out; simp; omega) (fun j hj => HNB.out j hj))⟩, by show sB.size < sR.size; omega⟩
  · have hd : decide ((16000 : Int) < (t.size : Int)) = true := decide_eq_true (by omega)
    clear hp hM hb hsz
    go_enter Tryd.func59, Tryd.ntmps59
    go_wp2
    go_ret3
    exact ⟨.inr ⟨h16, rfl⟩, Below.refl _ _⟩

set_option maxRecDepth 100000 in
set_option maxHeartbeats 4000000 in
theorem lin_spec (t : ByteArray) (m : Nat) (hs : t.size ≤ 1048576) (hm : (cutL 10 t.data.toList).length = m + 1) (w : World) :
    Calls Tryd.prog 128 #[.string t] w fun e w' => ∃ g cp, e = .returned (.tuple #[.slice (some ⟨g, 0, none⟩) m cp, .string (txB ((cutL 10 t.data.toList).getD m []))]) ∧ w.heap.size ≤ g ∧ TRow w' g (m + 1) (cutL 10 t.data.toList) ∧ Below w.heap.size w w' := by
  have hsz : t.data.toList.length = t.size := Array.length_toList
  have HSP : Hid (∀ W : World, Calls Tryd.prog 104 #[.string t, .int .u8 10] W fun e w' => ∃ g cp, e = .returned (.slice (some ⟨g, 0, none⟩) (m + 1) cp) ∧ m + 1 ≤ cp ∧ W.heap.size ≤ g ∧ TRow w' g (m + 1) (cutL 10 t.data.toList) ∧ Below W.heap.size W w') := Lib.hid (fun W => (cut_spec t 10 W hs).mono (fun e w' q => by
      obtain ⟨v, he, hg, hb⟩ := q
      rw [hm] at hg
      obtain ⟨g, cp, rfl, h1, h2, h3⟩ := hg.fin (by omega)
      exact ⟨g, cp, he, Gat.cap hg, h1, ⟨hm, h2, fun j hj => (h3.2 j hj).1⟩, hb⟩))
  have hml : m ≤ 1048576 := by have := cutL_len 10 t.data.toList; have := List.count_le_length (a := (10 : UInt8)) (l := t.data.toList); omega
  clear hm hsz
  go_enter Tryd.func128, Tryd.ntmps128
  go_wp2_with (first | (go_at_call 104; refine (HSP.out _).mono ?_; rintro e w2 ⟨g, cp, rfl, hcp, hgl, ht, hb2⟩; have hc9 := ht.2.2 m (by omega); have HT := Lib.hid ht; have HB := Lib.hid hb2; have HGL := Lib.hid hgl; clear ht hb2 hgl) | fail)
  go_quiet (fail)
  go_wp2
  go_ret2
  exact ⟨g, cp, rfl, HGL.out, HT.out.below (Below.drewN' (Below.refl _ _) _), Below.drewN' HB.out _⟩

theorem chars_free {s : ByteArray} {a : List UInt8} (h : s.data.toList = a) (hf : ∀ x ∈ a, x ≠ 32) : ∀ j (hj : j < s.size), (((s[j]).toNat : Int) == 32) = false := fun j hj => by
  have hm : s[j] ∈ a := by rw [← h]; exact List.getElem_mem (l := s.data.toList) (n := j) (by simpa using hj)
  rw [beq_eq_false_iff_ne]; intro e
  exact hf _ hm (UInt8.toNat_inj.1 (by show (s[j]).toNat = 32; omega))
theorem char_at {s : ByteArray} {bf l : List UInt8} (h : s.data.toList = bf ++ 32 :: l) (hj : bf.length < s.size) : (((s[bf.length]).toNat : Int) == 32) = true := by
  have e : s[bf.length] = 32 := by
    show s.data.toList[bf.length]'(by simpa using hj) = 32
    simp [h]
  rw [e]; rfl
theorem char_bf {s : ByteArray} {bf l : List UInt8} (h : s.data.toList = bf ++ 32 :: l) (hf : ∀ x ∈ bf, x ≠ 32) {j : Nat} (hj : j < s.size) (hb : j < bf.length) : (((s[j]).toNat : Int) == 32) = false := by
  have e : s[j] = bf[j] := by
    show s.data.toList[j]'(by simpa using hj) = bf[j]
    simp [h, hb]
  rw [beq_eq_false_iff_ne]; intro e2
  exact hf _ (List.getElem_mem hb) (UInt8.toNat_inj.1 (by rw [← e]; show (s[j]).toNat = 32; omega))
theorem ext_front {s : ByteArray} {bf l : List UInt8} (h : s.data.toList = bf ++ 32 :: l) : s.extract 0 bf.length = txB bf := by
  rw [← cut_text s 0 bf.length, h]; simp
theorem ext_back {s : ByteArray} {bf l : List UInt8} (h : s.data.toList = bf ++ 32 :: l) : s.extract (bf.length + 1) s.size = txB l := by
  have hsz : s.data.toList.length = s.size := Array.length_toList
  have h2 := hsz
  rw [h] at h2
  simp at h2
  rw [← cut_text s (bf.length + 1) s.size, h, show s.size - (bf.length + 1) = l.length by omega, show bf ++ 32 :: l = (bf ++ [32]) ++ l by simp, List.drop_left' (by simp), List.take_of_length_le (Nat.le_refl _)]
def RcvPost (t : ByteArray) (w : World) (e : Ending) (w' : World) : Prop := ∃ v, e = .returned (.tuple #[v, .int .i64 (jM t)]) ∧ Gat w' w.heap.size 9 v (jN t) (jfn t) ∧ Below w.heap.size w w'
theorem RcvPost.fin {t : ByteArray} {w w' : World} {r : List UInt8} {v : Value} {k : Nat} (hst : k = (jX t.data.toList).length ∧ r = jR t.data.toList) (hg : Gat w' w.heap.size 9 v k (jfn t)) (hb : Below w.heap.size w w') : RcvPost t w (.returned (.tuple #[v, .int .i64 ((t.size : Int) - (r.length : Int))])) w' := by
  obtain ⟨rfl, rfl⟩ := hst
  exact ⟨v, rfl, hg, hb⟩
set_option maxRecDepth 100000 in
set_option maxHeartbeats 8000000 in
theorem rc_sp (t : ByteArray) (hs : t.size ≤ 16000) (w : World) :
    Calls Tryd.prog 96 #[.string t] w (RcvPost t w) := by
  have hsz : t.data.toList.length = t.size := Array.length_toList
  obtain ⟨m, hm⟩ : ∃ m, (cutL 10 t.data.toList).length = m + 1 := ⟨t.data.toList.count 10, cutL_len 10 _⟩
  obtain ⟨i0, hi, hz0, hz1, hz2⟩ := info_parts Tryd.infoT0
  obtain ⟨F, hF⟩ : ∃ F, F = jfn t := ⟨_, rfl⟩
  obtain ⟨N, hN⟩ : ∃ N, N = jN t := ⟨_, rfl⟩
  obtain ⟨P, hP⟩ : ∃ P, cutL 10 t.data.toList = P := ⟨_, rfl⟩
  have HLI := Lib.hid (fun W => lin_spec t m (by omega) hm W)
  have HJ0 := Lib.hid (JSt.start t.data.toList)
  have HP0 : Hid (P.drop 0 = cutL 10 t.data.toList) := Lib.hid (by rw [hP]; rfl)
  have HFE := Lib.hid hF
  have HNE9 := Lib.hid hN
  have HSZ := Lib.hid hsz
  have HML : Hid (m ≤ 16000) := Lib.hid (by have := cutL_len 10 t.data.toList; have := List.count_le_length (a := (10 : UInt8)) (l := t.data.toList); omega)
  rw [hP] at HLI hm
  generalize txB (P.getD m []) = rs at HLI
  have HPL := Lib.hid hm
  clear hF hN hP hm hsz
  go_enter Tryd.func96, Tryd.ntmps96
  go_wp2_with (first | (go_at_call 128; refine (HLI.out _).mono ?_; rintro e w2 ⟨g, cp, rfl, hgl, ht, hb2⟩; have HT0 := Lib.hid (ht.below (belowD _ (.cells #[] 9))); have HGS := Lib.hid ht.2.1; have HB0 := Lib.hid hb2; have HGL := Lib.hid hgl; clear ht hb2 hgl) | fail)
  have HG0 : Hid (Gat (w2.alloc (.cells #[] 9)) w.heap.size 9 (.slice (some ⟨w2.heap.size, 0, none⟩) 0 0) 0 F) := Lib.hid ((Gat.empty w2 9 F).mono HB0.out.size)
  have HW0 : Hid (Below w.heap.size w (w2.alloc (.cells #[] 9))) := Lib.hid (Below.alloc HB0.out HB0.out.size _)
  have HNG0 : Hid (∀ j, (Value.slice (some ⟨w2.heap.size, 0, none⟩) 0 0).ownBlock = some j → j ≠ g) := Lib.hid (by intro j hj; have := HGS.out; simp [Value.ownBlock] at hj; omega)
  go_loopw [6, 7, 8, 9] (fun ov cv nv iv w' => ∃ (k : Nat) (r : List UInt8) (c : Int) (v : Value) (wr : World), ov = v ∧ cv = .int .i64 c ∧ nv = .int .i64 ((t.size : Int) - (r.length : Int)) ∧ iv = .int .i64 k ∧ wr = w' ∧ k ≤ m ∧ Hid (k ≤ N) ∧ Hid (P.drop k = cutL 10 r) ∧ Hid (JSt t.data.toList k c r) ∧ Hid (Gat wr w.heap.size 9 v k F) ∧ Hid (Below w.heap.size w wr) ∧ Hid (TRow wr g (m + 1) P) ∧ Hid (∀ j, v.ownBlock = some j → j ≠ g)) (fun _ _ _ iv _ => m - (intOf iv).toNat)
  case atStart => exact ⟨0, t.data.toList, 0, _, _, rfl, rfl, by rw [HSZ.out]; congr 1; omega, rfl, rfl, by omega, Lib.hid (by omega), HP0, HJ0, HG0, HW0, HT0, HNG0⟩
  case round =>
    obtain ⟨k, r, c, v, wr, rfl, rfl, rfl, rfl, rfl, hk, HKN, HP, HJ, HG, HW, HT, HNG⟩ := hrel
    have HS1 := Lib.hid HW.out.size
    have HNB := Lib.hid (Gat.block HG.out)
    have hl := HJ.out.len
    have hjb := HJ.out.bd
    have hsz := HSZ.out
    have hml := HML.out
    have hPd := congrArg List.length HP.out
    have hPm := HPL.out
    rw [List.length_drop, hPm] at hPd
    by_cases hlt : k < m
    · rcases split_first 10 r with h10 | ⟨a, b, hre, ha⟩
      · rw [cutL_end h10] at hPd; simp at hPd; omega
      · have hPe := HP.out
        rw [hre, cutL_seg ha, List.drop_eq_getElem_cons (by omega)] at hPe
        injection hPe with hP1 hP2
        have HP2 := Lib.hid hP2
        have hck := HT.out.2.2 k (by omega)
        have hPk : P.getD k [] = a := by rw [List.getD_eq_getElem?_getD, List.getElem?_eq_getElem (by omega)]; exact hP1
        rw [hPk] at hck
        have hab : a.length + (b.length + 1) = r.length := by rw [hre]; simp
        obtain ⟨s, hsd⟩ : ∃ s, txB a = s := ⟨_, rfl⟩
        have hsa : s.data.toList = a := by rw [← hsd, txB_list]
        have hss : a.length = s.size := by rw [← hsd, txB_size]
        rw [hsd] at hck
        have HCB := Lib.hid hck
        have HGB := Lib.hid HT.out.2.1
        rcases split_first 32 a with h32 | ⟨bf, l, hbl, hb32⟩
        · have HNO := Lib.hid (HJ.out.stop (by rw [hre]; exact jst_no2 ha h32) (by have := HKN.out; have := HNE9.out; unfold jN at this; omega))
          have HCH := Lib.hid (chars_free hsa h32)
          clear hsd hsa hP1 hP2 hPk hPd hPm hre
          go_wp2
          go_loopw [10] (fun jv w' => ∃ (j : Nat) (wq : World), j ≤ s.size ∧ jv = .int .i64 j ∧ wq = w' ∧ Hid (Below wr.heap.size wr wq)) (fun jv _ => s.size - (intOf jv).toNat)
          case atStart => exact ⟨0, _, by omega, rfl, rfl, Lib.hid (Below.refl _ _)⟩
          case round =>
            obtain ⟨j, wq, hj, rfl, rfl, HWQ⟩ := hrel
            have hcq : wq.cell? ⟨g, k, none⟩ = some (.string s) := (HWQ.out.cell (p := ⟨g, k, none⟩) HGB.out).trans HCB.out
            by_cases hjl : j < s.size
            · have hx := HCH.out j hjl
              go_wp2
              exact ⟨⟨j + 1, _, by omega, by first | rfl | go_num | (congr 1), rfl, HWQ⟩, by show s.size - ((j : Int) + 1).toNat < s.size - (j : Int).toNat; omega⟩
            · obtain rfl : j = s.size := by omega
              have HGQ := Lib.hid (Gat.keep HG.out HWQ.out)
              have HWX := Lib.hid (Below.next HW.out HWQ.out)
              go_wp2
              go_ret2
              exact RcvPost.fin HNO.out (HFE.out ▸ HGQ.out) HWX.out
        · have hs2 : s.data.toList = bf ++ 32 :: l := hsa.trans hbl
          obtain ⟨q, hq⟩ : ∃ q, bf.length = q := ⟨_, rfl⟩
          have hlq : q + (1 + l.length) = s.size := by rw [← hss, hbl, ← hq]; simp; omega
          have HX1 : Hid (∀ j (hj : j < s.size), j < q → (((s[j]).toNat : Int) == 32) = false) := Lib.hid (fun j hj hb => char_bf hs2 hb32 hj (by omega))
          have HX2 : Hid (∀ (hj : q < s.size), (((s[q]).toNat : Int) == 32) = true) := Lib.hid (by subst hq; exact char_at hs2)
          have hex1 : s.extract (q + 1) s.size = txB l := by rw [← hq]; exact ext_back hs2
          have hex2 : s.extract 0 q = txB bf := by rw [← hq]; exact ext_front hs2
          have HEX1 := Lib.hid hex1
          have HEX2 := Lib.hid hex2
          have hqn : ((q : Int) == (s.size : Int)) = false := by simp; omega
          have hll : (txB l).size = l.length := txB_size l
          have HCK := Lib.hid (fun W => check_spec c (txB l) W hjb.1 hjb.2 (by unfold maxLen; omega))
          rw [txB_list] at HCK
          have hcb := chk_bd c hjb.1 hjb.2 l
          have HST : Hid (jst c r = if bf = Lib.itoa (chk c l) then some (l, b) else none) := Lib.hid (by rw [hre, hbl]; exact jst_yes (hbl ▸ ha) hb32)
          have HD := Lib.hid (fun W => dec_spec (chk c l) (by omega) (by omega) W)
          by_cases hbe : bf = Lib.itoa (chk c l)
          · have hst : jst c r = some (l, b) := by rw [HST.out, if_pos hbe]
            have hq3 := HJ.out.step hst
            have HSP := Lib.hid hq3.2.2
            have HKN1 : Hid (k + 1 ≤ N) := Lib.hid (by have := HNE9.out; unfold jN at this; have := hq3.2.1; omega)
            have HK : Hid (F k = .string (txB l)) := Lib.hid (by rw [HFE.out]; unfold jfn; rw [hq3.1])
            rw [← hbe] at HD
            have hcm : ((txB bf).toList == (txB bf).toList) = true := beq_self_eq_true _
            have HCM := Lib.hid hcm
            obtain ⟨d, hd⟩ : ∃ d, chk c l = d := ⟨_, rfl⟩
            rw [hd] at HCK HD HSP
            have HPS : Hid (txB (P.getD k []) = s) := Lib.hid (by rw [hPk]; exact hsd)
            generalize txB bf = sD at HD HEX2 hcm hex2
            generalize txB l = sL at HCK HK HEX1 hex1 hll
            clear hsd hsa hP1 hPk hPd hPm hre hbe hst hq3 hd hcb hbl hs2 hq hb32 HST hP2
            go_wp2
            go_loopw [10] (fun jv w' => ∃ (j : Nat) (wq : World), j ≤ q ∧ jv = .int .i64 j ∧ wq = w' ∧ Hid (Below wr.heap.size wr wq)) (fun jv _ => s.size - (intOf jv).toNat)
            case atStart => exact ⟨0, _, by omega, rfl, rfl, Lib.hid (Below.refl _ _)⟩
            case round =>
              obtain ⟨j, wq, hj, rfl, rfl, HWQ⟩ := hrel
              have hcq : wq.cell? ⟨g, k, none⟩ = some (.string s) := (HWQ.out.cell (p := ⟨g, k, none⟩) HGB.out).trans HCB.out
              by_cases hjl : j < q
              · have hjs : j < s.size := by omega
                have hx := HX1.out j hjs hjl
                go_wp2
                exact ⟨⟨j + 1, _, by omega, by first | rfl | go_num | (congr 1), rfl, HWQ⟩, by show s.size - ((j : Int) + 1).toNat < s.size - (j : Int).toNat; omega⟩
              · obtain rfl : j = q := by omega
                have hjs : j < s.size := by omega
                have hx := HX2.out hjs
                have HCQ := Lib.hid hcq
                have hb1 : (0 : Int) ≤ (j : Int) := by omega
                have hb2 : (j : Int) ≤ (s.size : Int) := by omega
                have hb3 : (0 : Int) ≤ (s.size : Int) := by omega
                have hbr : Below wq.heap.size wq wq := Below.refl _ _
                go_wp2_with (first | (go_at_call 124; refine (HCK.out _).mono ?_; rintro e w2 ⟨rfl, rfl⟩) | fail)
                go_region_held3 (fun w' => w'.cell? ⟨g, k, none⟩ = some (.string s))
                  (first | assumption | go_keep)
                  (first
                    | (go_at_call 62; refine (HD.out _).mono ?_; rintro e w4 ⟨rfl, hb⟩; have hbn : Below wq.heap.size wq w4 := Below.next (by first | assumption | exact Below.refl _ _ | exact Below.drew (Below.refl _ _) | exact Below.drewN' (Below.refl _ _) _ | (refine Below.drew ?_; assumption) | (refine Below.drewN' ?_ _; assumption)) hb; have hck : w4.cell? ⟨g, k, none⟩ = some (.string s) := (by rw [hbn.cell (p := ⟨g, k, none⟩) (Nat.lt_of_lt_of_le HGB.out HWQ.out.size)]; exact HCQ.out))
                    | fail)
                all_goals
                  have HB4 := Lib.hid (Below.next HWQ.out hbn)
                  have HG4 := Lib.hid (Gat.keep HG.out HB4.out)
                  have HW4 := Lib.hid (Below.next HW.out HB4.out)
                  have HT4 := Lib.hid (HT.out.below HB4.out)
                  have HS4 := Lib.hid HW4.out.size
                  go_wp2_with (first | (at_builtin; refine wpList_append_lies _ rfl _ _ 66 rfl w.heap.size 9 i0 (.string ⟨#[]⟩) 1 16 Tryd.underlying66 hi hz0 hz1 hz2 rfl (by omega) u6 k ((List.range k).map F) rfl (World.ownsRow.alloc HG4.out _) ⟨w4.heap.size, 0, none⟩ 1 1 [.string sL] rfl rfl (World.news_of_block (cs := #[.string sL]) (t := 9) (fr := (0, 0)) (heap_alloc_new _ _)) (by simp [Value.oneCell']) (by omega) (by unfold maxLen; omega) (by omega) (by have := HS4.out; simp; omega) (w4.heap.size + 1) (by simp) ?_; intro gg cp w1 hown1 hgrow hat hlt3; have hck1 := (trow_grown HT4.out hgrow (fun e => HNG.out _ e rfl)).2.2 k (by omega); rw [HPS.out] at hck1; have HO2 := Lib.hid hown1; have HG2 := Lib.hid hgrow; have HAT := Lib.hid hat; clear hown1 hgrow hat hlt3) | fail)
                  exact ⟨⟨k + 1, b, d, _, _, rfl, rfl, by congr 1; omega, by first | rfl | go_num | (congr 1), rfl, by omega, HKN1, HP2, HSP, Lib.hid (Gat.step HO2.out HK.out.symm), Lib.hid (Below.grown (Below.alloc HW4.out HS4.out _) HG2.out (by have := HS4.out; simp; omega) (fun j hj => HNB.out j hj)), Lib.hid (trow_grown HT4.out HG2.out (fun e => HNG.out _ e rfl)), Lib.hid (own_next HNG.out HAT.out (by have := HT4.out.2.1; omega))⟩, by show m - ((k : Int) + 1).toNat < m - (k : Int).toNat; omega⟩
          · have HNO := Lib.hid (HJ.out.stop (by rw [HST.out, if_neg hbe]) (by have := HKN.out; have := HNE9.out; unfold jN at this; omega))
            have hcm : ((txB bf).toList == (txB (Lib.itoa (chk c l))).toList) = false := by
              rw [ByteArray.toList_eq, ByteArray.toList_eq, txB_list, txB_list, beq_eq_false_iff_ne]; exact hbe
            generalize txB (Lib.itoa (chk c l)) = sE at HD hcm
            generalize chk c l = d at HCK HD
            generalize txB bf = sD at HEX2 hcm hex2
            generalize txB l = sL at HCK HEX1 hex1 hll
            clear hsd hsa hP1 hPk hPd hPm hre hbe hcb hbl hs2 hq hb32 HST hP2
            go_wp2
            go_loopw [10] (fun jv w' => ∃ (j : Nat) (wq : World), j ≤ q ∧ jv = .int .i64 j ∧ wq = w' ∧ Hid (Below wr.heap.size wr wq)) (fun jv _ => s.size - (intOf jv).toNat)
            case atStart => exact ⟨0, _, by omega, rfl, rfl, Lib.hid (Below.refl _ _)⟩
            case round =>
              obtain ⟨j, wq, hj, rfl, rfl, HWQ⟩ := hrel
              have hcq : wq.cell? ⟨g, k, none⟩ = some (.string s) := (HWQ.out.cell (p := ⟨g, k, none⟩) HGB.out).trans HCB.out
              by_cases hjl : j < q
              · have hjs : j < s.size := by omega
                have hx := HX1.out j hjs hjl
                go_wp2
                exact ⟨⟨j + 1, _, by omega, by first | rfl | go_num | (congr 1), rfl, HWQ⟩, by show s.size - ((j : Int) + 1).toNat < s.size - (j : Int).toNat; omega⟩
              · obtain rfl : j = q := by omega
                have hjs : j < s.size := by omega
                have hx := HX2.out hjs
                have HCQ := Lib.hid hcq
                have hb1 : (0 : Int) ≤ (j : Int) := by omega
                have hb2 : (j : Int) ≤ (s.size : Int) := by omega
                have hb3 : (0 : Int) ≤ (s.size : Int) := by omega
                have hbr : Below wq.heap.size wq wq := Below.refl _ _
                go_wp2_with (first | (go_at_call 124; refine (HCK.out _).mono ?_; rintro e w2 ⟨rfl, rfl⟩) | fail)
                go_region_held3 (fun w' => w'.cell? ⟨g, k, none⟩ = some (.string s))
                  (first | assumption | go_keep)
                  (first
                    | (go_at_call 62; refine (HD.out _).mono ?_; rintro e w4 ⟨rfl, hb⟩; have hbn : Below wq.heap.size wq w4 := Below.next (by first | assumption | exact Below.refl _ _ | exact Below.drew (Below.refl _ _) | exact Below.drewN' (Below.refl _ _) _ | (refine Below.drew ?_; assumption) | (refine Below.drewN' ?_ _; assumption)) hb; have hck : w4.cell? ⟨g, k, none⟩ = some (.string s) := (by rw [hbn.cell (p := ⟨g, k, none⟩) (Nat.lt_of_lt_of_le HGB.out HWQ.out.size)]; exact HCQ.out))
                    | fail)
                all_goals
                  have HB4 := Lib.hid (Below.next HWQ.out hbn)
                  have HG4 := Lib.hid (Gat.keep HG.out HB4.out)
                  have HW4 := Lib.hid (Below.next HW.out HB4.out)
                  go_wp2
                  go_ret2
                  exact RcvPost.fin HNO.out (HFE.out ▸ HG4.out) HW4.out
    · have HNO := Lib.hid (HJ.out.stop (by
        rcases split_first 10 r with h10 | ⟨a, b, hre, ha⟩
        · exact jst_no1 h10
        · rw [hre, cutL_seg ha] at hPd
          have := List.length_pos_iff.2 (cutL_ne 10 b)
          simp at hPd; omega) (by have := HKN.out; have := HNE9.out; unfold jN at this; omega))
      obtain rfl : k = m := by omega
      clear hPd hPm
      go_wp2
      go_ret2
      exact RcvPost.fin HNO.out (HFE.out ▸ HG.out) HW.out
set_option maxRecDepth 100000 in
set_option maxHeartbeats 4000000 in
theorem rj_spec (t : ByteArray) (hs : t.size ≤ 1048576) (w : World) :
    Calls Tryd.prog 58 #[.string t] w (RjPost t w) := by
  by_cases h16 : t.size ≤ 16000
  · have HR := Lib.hid (fun W => rc_sp t h16 W)
    have hd : decide ((16000 : Int) < (t.size : Int)) = false := decide_eq_false (by omega)
    go_enter Tryd.func58, Tryd.ntmps58
    go_wp2_with (first | (go_at_call 96; refine (HR.out _).mono ?_; rintro e w2 ⟨v, rfl, hg, hb⟩; have HG := Lib.hid hg; have HB := Lib.hid hb; clear hg hb) | fail)
    go_ret3
    exact ⟨.inl ⟨h16, v, rfl, HG.out⟩, HB.out⟩
  · have hd : decide ((16000 : Int) < (t.size : Int)) = true := decide_eq_true (by omega)
    go_enter Tryd.func58, Tryd.ntmps58
    go_wp2
    go_ret3
    exact ⟨.inr ⟨h16, rfl⟩, Below.refl _ _⟩
end Go.Proofs.YthkabonnclfhmaaDoor
