
/- StoreSaved: the program. -/
import Derived.Test.YtnljabgkaelplaaSvw
import Derived.Test.YtnljabgkaelplaaZsb
import Derived.Test.YtnljabgkaelplaaZsw
import Derived.Test.YtnljabgkaelplaaSme
import Derived.Laws.RangeString
import Derived.Laws.RangeAny
set_option linter.unusedVariables false
set_option linter.unusedSimpArgs false
namespace Go.Proofs.Ytnljabgkaelplaa
open Go.Proofs.Ytnljabgkaelplaa.Flo Go.RowKit Go.Shelf
attribute [local go_sem] Oper.semAt_some

theorem ret_int {k : IntKind} {a b : Int} (h : a = b) : Ending.returned (.int k a) = .returned (.int k b) := by rw [h]
theorem ret_int_bool {k : IntKind} {a b : Int} {c : Bool} (h : a = b) : Ending.returned (.tuple #[.int k a, .bool c]) = .returned (.tuple #[.int k b, .bool c]) := by rw [h]
def chk (n : Int) (l : List UInt8) : Int := l.foldl (fun n c => (929 * n + (c.toNat : Int) + 193) % 65003) n
theorem chk_snoc (n : Int) (l : List UInt8) (c : UInt8) : chk n (l ++ [c]) = (929 * chk n l + (c.toNat : Int) + 193) % 65003 := by
  unfold chk; rw [List.foldl_append]; rfl
theorem chk_bd (n : Int) (h0 : 0 ≤ n) (h1 : n < 65003) : ∀ l : List UInt8, 0 ≤ chk n l ∧ chk n l < 65003 := by
  intro l
  induction l generalizing n with
  | nil => exact ⟨h0, h1⟩
  | cons c l ih =>
    have : chk n (c :: l) = chk ((929 * n + (c.toNat : Int) + 193) % 65003) l := rfl
    rw [this]
    exact ih _ (by omega) (by omega)
theorem take_snoc (s : ByteArray) (k : Nat) (h : k < s.size) : s.data.toList.take (k + 1) = s.data.toList.take k ++ [s[k]] := by
  rw [List.take_succ_eq_append_getElem (by simpa using h)]; rfl
theorem take_all (s : ByteArray) (k : Nat) (h : ¬ k < s.size) : s.data.toList.take k = s.data.toList := List.take_of_length_le (by simp; omega)

set_option maxHeartbeats 400000 in
theorem check_spec (n : Int) (s : ByteArray) (w : World) (h0 : 0 ≤ n) (h1 : n < 65003) (hs : s.size ≤ maxLen) :
    Calls Try.prog 85 #[.int .i64 n, .string s] w fun e w' => e = .returned (.int .i64 (chk n s.data.toList)) ∧ w = w' := by
  unfold maxLen at hs
  go_enter Try.func85, Try.ntmps85
  go_wp2
  go_loop [0, 5] (fun c i => ∃ k : Nat, k ≤ s.size ∧ i = .int .i64 k ∧ c = .int .i64 (chk n (s.data.toList.take k))) (fun _ i => s.size - (intOf i).toNat)
  case atStart => exact ⟨0, Nat.zero_le _, rfl, rfl⟩
  case round =>
    obtain ⟨k, hk, rfl, rfl⟩ := hrel
    have hb := chk_bd n h0 h1 (s.data.toList.take k)
    by_cases hlt : k < s.size
    · have hsn := chk_snoc n (s.data.toList.take k) s[k]
      rw [← take_snoc s k hlt] at hsn
      have hc : (s[k].toNat : Int) < 256 := by have := s[k].toNat_lt; omega
      have H := Lib.hid hsn
      clear hsn
      go_wp2
      go_round
      case rel => exact ⟨k + 1, by omega, by go_num, by rw [H.out]⟩
      case measure => simp [intOf]; omega
    · have H := Lib.hid (take_all s k hlt)
      go_wp2
      go_ret
      exact ⟨ret_int (by rw [H.out]), rfl⟩

set_option maxHeartbeats 400000 in
theorem check_impl (n : Int) (s : ByteArray) (w : World) (h0 : 0 ≤ n) (h1 : n < 65003) (hs : s.size ≤ maxLen) :
    Calls Try.prog 52 #[.int .i64 n, .string s] w fun e w' => e = .returned (.tuple #[.int .i64 (chk n s.data.toList), .bool true]) ∧ w = w' := by
  unfold maxLen at hs
  go_enter Try.func52, Try.ntmps52
  go_wp2
  go_loop [6, 17] (fun c i => ∃ k : Nat, k ≤ s.size ∧ i = .int .i64 k ∧ c = .int .i64 (chk n (s.data.toList.take k))) (fun _ i => s.size - (intOf i).toNat)
  case atStart => exact ⟨0, Nat.zero_le _, rfl, rfl⟩
  case round =>
    obtain ⟨k, hk, rfl, rfl⟩ := hrel
    have hb := chk_bd n h0 h1 (s.data.toList.take k)
    by_cases hlt : k < s.size
    · have hsn := chk_snoc n (s.data.toList.take k) s[k]
      rw [← take_snoc s k hlt] at hsn
      have hc : (s[k].toNat : Int) < 256 := by have := s[k].toNat_lt; omega
      have H := Lib.hid hsn
      clear hsn
      go_wp2
      go_round
      case rel => exact ⟨k + 1, by omega, by go_num, by rw [H.out]⟩
      case measure => simp [intOf]; omega
    · have H := Lib.hid (take_all s k hlt)
      go_wp2
      go_ret2
      exact ⟨ret_int_bool (by rw [H.out]), rfl⟩


theorem byte_mod (q : Nat) : (q : Int) % 256 = ((UInt8.ofNat q).toNat : Int) := by
  rw [show (UInt8.ofNat q).toNat = q % 256 from rfl]; omega
def stX (zs : List Nat) (i : Nat) : Nat := bitsF (zs.getD i 0)
def stP (nm : List UInt8) (f : Nat → Bool) (n : Nat) (zs : List Nat) (m : Nat) : List UInt8 := Zs.pre nm f n (stX zs) m
def stC (nm : List UInt8) (f : Nat → Bool) (n : Nat) (zs : List Nat) (m : Nat) : Nat := (chk 0 (stP nm f n zs m)).toNat
def stA (nm : List UInt8) (f : Nat → Bool) (n : Nat) (zs : List Nat) (m : Nat) : List UInt8 := stP nm f n zs m ++ Zs.nb (stC nm f n zs m) 2
theorem stC_eq (nm : List UInt8) (f : Nat → Bool) (n : Nat) (zs : List Nat) (m : Nat) : chk 0 (stP nm f n zs m) = ((stC nm f n zs m : Nat) : Int) ∧ stC nm f n zs m < 65003 := by
  have := chk_bd 0 (by decide) (by decide) (stP nm f n zs m)
  unfold stC
  omega
theorem txB_of (s : ByteArray) : ∃ l, s = txB l := ⟨s.data.toList, by cases s; rfl⟩
theorem txB_toList (l : List UInt8) : (txB l).data.toList = l := rfl
/-- The three cells of what is saved. -/
def Sv3 (w : World) (p : Nat) (x y z : Value) : Prop := p < w.heap.size ∧ w.cell? ⟨p, 0, none⟩ = some x ∧ w.cell? ⟨p, 1, none⟩ = some y ∧ w.cell? ⟨p, 2, none⟩ = some z
theorem Sv3.new (w : World) (x y z : Value) (T : TypeId) : Sv3 (w.alloc (.cells #[x, y, z] T)) w.heap.size x y z :=
  ⟨by simp, by rw [World.cell?_alloc_at _ _ _ _ rfl]; rfl, by rw [World.cell?_alloc_at _ _ _ _ rfl]; rfl, by rw [World.cell?_alloc_at _ _ _ _ rfl]; rfl⟩
theorem Sv3.below {w w' : World} {B p : Nat} {x y z : Value} (h : Sv3 w p x y z) (hb : Below B w w') (hp : p < B) : Sv3 w' p x y z := by
  obtain ⟨h0, h1, h2, h3⟩ := h
  exact ⟨Nat.lt_of_lt_of_le h0 hb.size, by rw [hb.cell (p := ⟨p, 0, none⟩) hp]; exact h1, by rw [hb.cell (p := ⟨p, 1, none⟩) hp]; exact h2, by rw [hb.cell (p := ⟨p, 2, none⟩) hp]; exact h3⟩
theorem bld_string2 (B : Nat) (l : List UInt8) (w : World) (h : Bld 79 5 B l w) :
    Calls Try.prog 53 #[.pointer (some ⟨B, 0, none⟩)] w fun e w' => e = .returned (.string (txB l)) ∧ Bld 79 5 B l w' ∧ Below B w w' :=
  (Any.Builder_String_any_f Try.lays169 Try.Builder_Extra_169 B B l w h.1 (Nat.le_of_lt h.2)).mono fun _ _ ⟨h1, h2⟩ => ⟨h1, ⟨h2.1, Nat.lt_of_lt_of_le h.2 h2.2.size⟩, h2.2⟩
theorem bld_mark (B : Nat) (l : List UInt8) (w : World) (h : Bld 79 5 B l w) (hl : l.length + 4 ≤ 1048576) :
    Calls Try.prog 46 #[.pointer (some ⟨B, 0, none⟩), .string { data := #[83, 70, 84, 49] }] w fun e w' => ∃ v, e = .returned (.tuple #[v, .nilIface]) ∧ Bld 79 5 B (l ++ [83, 70, 84, 49]) w' ∧ Below B w w' :=
  bld_write B l [83, 70, 84, 49] w h hl
theorem bld_byteN (B q : Nat) (l : List UInt8) (w : World) (h : Bld 79 5 B l w) (hq : q < 256) (hl : l.length + 1 ≤ 1048576) :
    Calls Try.prog 47 #[.pointer (some ⟨B, 0, none⟩), .int .u8 (q : Int)] w fun e w' => e = .returned .nilIface ∧ Bld 79 5 B (l ++ [UInt8.ofNat q]) w' ∧ Below B w w' := by
  have e : (q : Int) = ((UInt8.ofNat q).toNat : Int) := by rw [← byte_mod]; omega
  rw [e]
  exact bld_byte B l (UInt8.ofNat q) w h hl
theorem sv_yes {s : ByteArray} {n m : Nat} {zs : List Nat} (h : svB s n zs m = true) : s.data.toList.length ≤ 8 ∧ n ≤ 160 ∧ m ≤ 160 := by
  unfold svB nameB at h
  simp only [Bool.and_eq_true, decide_eq_true_eq] at h
  exact ⟨h.1.2.2, h.2.1, (sf_out h.2.2).1⟩
set_option maxRecDepth 100000 in
set_option maxHeartbeats 8000000 in
theorem stiY (s : ByteArray) (a : Option Addr) (n cap : Nat) (f : Nat → Bool) (b : Option Addr) (m capb : Nat) (zs : List Nat) (w : World) (ha : BRow w a n f) (hb : FRow w b m zs) (hz : Wf zs m) (hok : svB s n zs m = true) :
    Calls Try.prog 11 #[.agg #[.string s, .slice a n cap, .slice b m capb]] w fun e w' => e = .returned (.tuple #[.string (txB (stA s.data.toList f n zs m)), .bool true]) ∧ Below w.heap.size w w' := by
  obtain ⟨nm, rfl⟩ := txB_of s
  rw [txB_toList]
  obtain ⟨hnm, hn, hm⟩ := sv_yes hok
  rw [txB_toList] at hnm
  have hts := txB_size nm
  have HPRE : Hid (∀ k, Zs.pre nm f n (stX zs) k = [] ++ [83, 70, 84, 49] ++ [UInt8.ofNat nm.length] ++ nm ++ [UInt8.ofNat n] ++ Zs.bl f n ++ [UInt8.ofNat k] ++ Zs.sb (stX zs) k) := Lib.hid (fun k => by rw [List.nil_append]; unfold Zs.pre; rfl)
  have HVS := Lib.hid (fun (w3 : World) (h3 : FRow w3 b m zs) => by have := vs_impl (txB nm) a n cap b m capb zs w3 (by rw [hts]; omega) h3 (by omega) (by omega); rw [hok] at this; exact this)
  have HA := Lib.hid ha
  have HF := Lib.hid hb
  have HZ := Lib.hid hz
  have HBX := Lib.hid (belowA w (.cells #[.string (txB nm), .slice a n cap, .slice b m capb] 29))
  have H30 := Lib.hid (Sv3.new w (.string (txB nm)) (.slice a n cap) (.slice b m capb) 29)
  clear ha hb hz hok
  go_enter Try.func11, Try.ntmps11
  go_wp2_with (first | (go_at_call 45; refine (HVS.out _ (HF.out.below HBX.out)).mono ?_; rintro e w2 ⟨rfl, hbv⟩; have HBV := Lib.hid hbv; clear hbv) | fail)
  have HB := Lib.hid (Bld.fresh 79 5 w2)
  have HW := Lib.hid (Below.next (Below.next HBX.out HBV.out) (belowA w2 (.cells #[.pointer none, .slice none 0 0] 79)))
  have H3 := Lib.hid ((H30.out.below HBV.out H30.out.1).below (belowA w2 (.cells #[.pointer none, .slice none 0 0] 79)) (Nat.lt_of_lt_of_le H30.out.1 HBV.out.size))
  have HPB : Hid (w.heap.size < w2.heap.size) := Lib.hid (Nat.lt_of_lt_of_le H30.out.1 HBV.out.size)
  have HLE : Hid (w.heap.size ≤ w2.heap.size) := Lib.hid (Nat.le_of_lt HPB.out)
  generalize w2.alloc (.cells #[.pointer none, .slice none 0 0] 79) = W3 at HB HW H3 ⊢
  generalize w2.heap.size = Bk at HB HPB HLE ⊢
  clear HBV H30 HVS HBX
  obtain ⟨_, hk0, hk1, hk2⟩ := H3.out
  go_wp2_with (first | (go_at_call 46; (first | (with_reducible refine (bld_mark _ _ _ HB.out ?_).mono ?_) | (with_reducible refine (bld_write _ _ nm _ HB.out ?_).mono ?_)); (next => (simp only [List.length_append, List.length_cons, List.length_nil]; omega)); rintro e w9 ⟨v9, rfl, hB, hbl⟩; have HB := Lib.hid hB; have HW := Lib.hid (HW.out.trans (hbl.mono HLE.out)); have H3 := Lib.hid (H3.out.below hbl HPB.out); obtain ⟨_, hk0, hk1, hk2⟩ := H3.out; clear hB hbl) | (go_at_call 47; (with_reducible refine (bld_byteN _ nm.length _ _ HB.out (by omega) ?_).mono ?_); (next => (simp only [List.length_append, List.length_cons, List.length_nil, Zs.bl_len]; omega)); rintro e w9 ⟨rfl, hB, hbl⟩; have HB := Lib.hid hB; have HW := Lib.hid (HW.out.trans (hbl.mono HLE.out)); have H3 := Lib.hid (H3.out.below hbl HPB.out); obtain ⟨_, hk0, hk1, hk2⟩ := H3.out; clear hB hbl) | fail)
  go_wp2_with (first | (go_at_call 46; (first | (with_reducible refine (bld_mark _ _ _ HB.out ?_).mono ?_) | (with_reducible refine (bld_write _ _ nm _ HB.out ?_).mono ?_)); (next => (simp only [List.length_append, List.length_cons, List.length_nil]; omega)); rintro e w9 ⟨v9, rfl, hB, hbl⟩; have HB := Lib.hid hB; have HW := Lib.hid (HW.out.trans (hbl.mono HLE.out)); have H3 := Lib.hid (H3.out.below hbl HPB.out); obtain ⟨_, hk0, hk1, hk2⟩ := H3.out; clear hB hbl) | (go_at_call 47; (with_reducible refine (bld_byteN _ n _ _ HB.out (by omega) ?_).mono ?_); (next => (simp only [List.length_append, List.length_cons, List.length_nil, Zs.bl_len]; omega)); rintro e w9 ⟨rfl, hB, hbl⟩; have HB := Lib.hid hB; have HW := Lib.hid (HW.out.trans (hbl.mono HLE.out)); have H3 := Lib.hid (H3.out.below hbl HPB.out); obtain ⟨_, hk0, hk1, hk2⟩ := H3.out; clear hB hbl) | (go_at_call 49; (with_reducible refine (bob_impl a n cap f _ (HA.out.below HW.out) hn).mono ?_); rintro e w9 ⟨v9, rfl, g9, cp9, rfl, hg9, hl9, hc9, hb9⟩; have HNE := Lib.hid (show g9 ≠ Bk by have := HB.out.2; omega); have HC9 := Lib.hid hc9; have HL9 := Lib.hid hl9; have HB := Lib.hid (HB.out.below hb9); have HW := Lib.hid (Below.next HW.out hb9); have H3 := Lib.hid (H3.out.below hb9 H3.out.1); obtain ⟨_, hk0, hk1, hk2⟩ := H3.out; clear hg9 hl9 hc9 hb9) | (go_at_call 48; (with_reducible refine (bld_put _ g9 0 _ cp9 _ _ _ HB.out HNE.out HL9.out HC9.out ?_).mono ?_); (next => (simp only [List.length_append, List.length_cons, List.length_nil, Zs.bl_len, Zs.sb_len, stP, Zs.pre_len]; omega)); rintro e w9 ⟨v9, rfl, hB, hbl⟩; have HB := Lib.hid hB; have HW := Lib.hid (HW.out.trans (hbl.mono HLE.out)); have H3 := Lib.hid (H3.out.below hbl HPB.out); obtain ⟨_, hk0, hk1, hk2⟩ := H3.out; clear hB hbl) | fail)
  go_wp2_with (first | (go_at_call 47; (with_reducible refine (bld_byteN _ m _ _ HB.out (by omega) ?_).mono ?_); (next => (simp only [List.length_append, List.length_cons, List.length_nil, Zs.bl_len]; omega)); rintro e w9 ⟨rfl, hB, hbl⟩; have HB := Lib.hid hB; have HW := Lib.hid (HW.out.trans (hbl.mono HLE.out)); have H3 := Lib.hid (H3.out.below hbl HPB.out); obtain ⟨_, hk0, hk1, hk2⟩ := H3.out; clear hB hbl) | fail)
  generalize hL0 : ([] : List UInt8) ++ [83, 70, 84, 49] ++ [UInt8.ofNat nm.length] ++ nm ++ [UInt8.ofNat n] ++ Zs.bl f n ++ [UInt8.ofNat m] = L0 at HB
  have hL0l : L0.length ≤ 40 := by
    rw [← hL0]
    simp only [List.length_append, List.length_cons, List.length_nil, Zs.bl_len]; omega
  have HL0 := Lib.hid hL0
  clear hL0
  go_loopw [38] (fun iv w' => ∃ (k : Nat) (wr : World), k ≤ m ∧ iv = .int .i64 (k : Int) ∧ wr = w' ∧ Hid (Bld 79 5 Bk (L0 ++ Zs.sb (stX zs) k) wr) ∧ Hid (Below w.heap.size w wr)) (fun iv _ => m - (intOf iv).toNat)
  case atStart => exact ⟨0, _, by omega, rfl, rfl, Lib.hid (by show Bld _ _ _ (L0 ++ []) _; rw [List.append_nil]; exact HB.out), HW⟩
  case round =>
    clear hk0 hk1 hk2 HB HW H3
    obtain ⟨k, wr, hk, rfl, rfl, HB2, HW2⟩ := hrel
    by_cases hlt : k < m
    · obtain ⟨b1, o1, rfl, hck⟩ := (HF.out.below HW2.out).cell hlt
      have hzk : zs.getD k 0 < 2 ^ 32 := HZ.out k hlt
      have HX : Hid (stX zs k = bitsF (zs.getD k 0)) := Lib.hid rfl
      have hsbl := Zs.sb_len (stX zs) k
      have HSB : Hid (Zs.sb (stX zs) (k + 1) = Zs.sb (stX zs) k ++ Zs.nb (stX zs k) 4) := Lib.hid rfl
      have HBT := Lib.hid (fun w3 => bits_impl (zs.getD k 0) hzk w3)
      have hql := bitsF_lt hzk
      generalize zs.getD k 0 = z at hck HX HBT hql
      generalize stX zs k = q at HX HSB
      obtain rfl := HX.out
      generalize bitsF z = q at HBT hql HSB
      generalize Zs.sb (stX zs) k = SB at HB2 HSB hsbl
      have HBY : Hid (∀ w3 : World, Calls Try.prog 50 #[.int .i64 (q : Int), .int .i64 4] w3 fun e w' => ∃ v, e = .returned v ∧ ByRow w3 w' 4 (Zs.nb q 4) v) := Lib.hid (fun w3 => by_impl q 4 w3 (by omega) ⟨by decide, by decide⟩)
      clear hzk HX
      go_wp2_with (first | (go_at_call 51; (with_reducible refine (HBT.out _).mono ?_); rintro e w' ⟨rfl, hw⟩; subst hw) | (go_at_call 50; (with_reducible refine (HBY.out _).mono ?_); rintro e w9 ⟨v9, rfl, g9, cp9, rfl, hg9, hl9, hc9, hb9⟩; have HNE := Lib.hid (show g9 ≠ Bk by have := HB2.out.2; omega); have HC9 := Lib.hid hc9; have HL9 := Lib.hid hl9; have HB2 := Lib.hid (HB2.out.below hb9); have HW2 := Lib.hid (Below.next HW2.out hb9); clear hg9 hl9 hc9 hb9) | (go_at_call 48; (with_reducible refine (bld_put _ g9 0 4 cp9 _ _ _ HB2.out HNE.out HL9.out HC9.out ?_).mono ?_); (next => (rw [List.length_append]; omega)); rintro e w9 ⟨v9, rfl, hB, hbl⟩; have HB2 := Lib.hid hB; have HW2 := Lib.hid (HW2.out.trans (hbl.mono HLE.out)); clear hB hbl) | fail)
      exact ⟨⟨k + 1, _, by omega, by first | rfl | go_num | (congr 1), rfl, Lib.hid (by rw [HSB.out, ← List.append_assoc]; exact HB2.out), HW2⟩, by show m - ((k : Int) + 1).toNat < m - (k : Int).toNat; omega⟩
    · obtain rfl : k = m := by omega
      have hPL : L0 ++ Zs.sb (stX zs) k = stP nm f n zs k := by rw [← HL0.out]; exact (HPRE.out k).symm
      rw [hPL] at HB2
      have hpl : (stP nm f n zs k).length = 7 + nm.length + (n + 7) / 8 + 4 * k := Zs.pre_len nm f n (stX zs) k
      obtain ⟨hc1, hc2⟩ := stC_eq nm f n zs k
      have HST : Hid (stA nm f n zs k = stP nm f n zs k ++ Zs.nb (stC nm f n zs k) 2) := Lib.hid rfl
      generalize stC nm f n zs k = c at hc1 hc2 HST
      generalize stP nm f n zs k = PL at HB2 hpl hc1 HST
      have HCK : Hid (∀ w3 : World, Calls Try.prog 52 #[.int .i64 0, .string (txB PL)] w3 fun e w' => e = .returned (.tuple #[.int .i64 (c : Int), .bool true]) ∧ w3 = w') := Lib.hid (fun w3 => by have := check_impl 0 (txB PL) w3 (by decide) (by decide) (by rw [txB_size]; unfold maxLen; omega); rw [txB_toList, hc1] at this; exact this)
      have HBY : Hid (∀ w3 : World, Calls Try.prog 50 #[.int .i64 (c : Int), .int .i64 2] w3 fun e w' => ∃ v, e = .returned v ∧ ByRow w3 w' 2 (Zs.nb c 2) v) := Lib.hid (fun w3 => by_impl c 2 w3 (by omega) ⟨by decide, by decide⟩)
      clear hPL hc1 HL0 HPRE
      go_wp2_with (first | (go_at_call 53; (with_reducible refine (bld_string2 _ _ _ HB2.out).mono ?_); rintro e w9 ⟨rfl, hB, hbl⟩; have HB2 := Lib.hid hB; have HW2 := Lib.hid (HW2.out.trans (hbl.mono HLE.out)); clear hB hbl) | (go_at_call 52; (with_reducible refine (HCK.out _).mono ?_); rintro e w' ⟨rfl, hw⟩; subst hw) | (go_at_call 50; (with_reducible refine (HBY.out _).mono ?_); rintro e w9 ⟨v9, rfl, g9, cp9, rfl, hg9, hl9, hc9, hb9⟩; have HNE := Lib.hid (show g9 ≠ Bk by have := HB2.out.2; omega); have HC9 := Lib.hid hc9; have HL9 := Lib.hid hl9; have HB2 := Lib.hid (HB2.out.below hb9); have HW2 := Lib.hid (Below.next HW2.out hb9); clear hg9 hl9 hc9 hb9) | (go_at_call 48; (with_reducible refine (bld_put _ g9 0 2 cp9 _ _ _ HB2.out HNE.out HL9.out HC9.out ?_).mono ?_); (next => omega); rintro e w9 ⟨v9, rfl, hB, hbl⟩; have HB2 := Lib.hid hB; have HW2 := Lib.hid (HW2.out.trans (hbl.mono HLE.out)); clear hB hbl) | fail)
      go_ret2
      exact ⟨by rw [HST.out]; rfl, HW2.out⟩
end Go.Proofs.Ytnljabgkaelplaa
