/- EncodeLetters: the functions. -/
import Derived.Test.YtiajpmfdaooefaaWdi
import Derived.Test.YtiajpmfdaooefaaRcw
import Derived.Test.YtiajpmfdaooefaaBld
import Derived.Test.YtiajpmfdaooefaaFrx
namespace Go.Proofs.Ytiajpmfdaooefaa
open Go.Proofs.Ytiajpmfdaooefaa.Flo Go.RowKit

/-- The words behind k rounds, as lists. -/
def wdG (zs : List Int) (n : Nat) : Nat → Nat → List UInt8
  | 0, _ => []
  | k + 1, j => if j = ((ordA zs n)[k]!).toNat then dgL (wX zs n k) (lzD zs n k).toNat else wdG zs n k j
theorem wdF_G (zs : List Int) (n : Nat) : ∀ k j, wdF zs n k j = txB (wdG zs n k j)
  | 0, _ => rfl
  | k + 1, j => by
    unfold wdF wdG
    split
    · rfl
    · exact wdF_G zs n k j
theorem wdG_bits (zs : List Int) (n : Nat) : ∀ k j c, c ∈ wdG zs n k j → c = 48 ∨ c = 49
  | 0, _, c, h => by simp [wdG] at h
  | k + 1, j, c, h => by
    unfold wdG at h
    split at h
    · exact dgL_bits _ _ c h
    · exact wdG_bits zs n k j c h
theorem lzD_le {zs : List Int} {n k : Nat} (hl : lnP zs n) (hk : k < n) : (lzD zs n k).toNat ≤ 32 ∧ 1 ≤ lzD zs n k := by
  have h2 : 0 ≤ (ordA zs n)[k]! ∧ (ordA zs n)[k]! < (n : Int) := (ordP_ok zs n n (Nat.le_refl _)).2.1 k hk
  have := hl ((ordA zs n)[k]!).toNat (by omega)
  unfold lzD
  omega
theorem wdG_len {zs : List Int} {n : Nat} (hl : lnP zs n) : ∀ k j, k ≤ n → (wdG zs n k j).length ≤ 32
  | 0, _, _ => by simp [wdG]
  | k + 1, j, hk => by
    unfold wdG
    split
    · rw [dgL_len]; exact (lzD_le hl (by omega)).1
    · exact wdG_len hl k j (by omega)
/-- The bits of the first k letters. -/
def enT (zs : List Int) (n : Nat) (ls : List Int) : Nat → List UInt8
  | 0 => []
  | k + 1 => enT zs n ls k ++ wdG zs n n (ls.getD k 0).toNat
theorem enT_len {zs : List Int} {n : Nat} (ls : List Int) (hl : lnP zs n) : ∀ k, (enT zs n ls k).length ≤ 32 * k
  | 0 => by simp [enT]
  | k + 1 => by
    have h1 := enT_len ls hl k
    have h2 := wdG_len hl n (ls.getD k 0).toNat (Nat.le_refl _)
    unfold enT
    rw [List.length_append]
    omega
theorem enT_bits (zs : List Int) (n : Nat) (ls : List Int) : ∀ k c, c ∈ enT zs n ls k → c = 48 ∨ c = 49
  | 0, c, h => by simp [enT] at h
  | k + 1, c, h => by
    unfold enT at h
    rcases List.mem_append.1 h with h | h
    · exact enT_bits zs n ls k c h
    · exact wdG_bits _ _ _ _ c h
def okE (zs : List Int) (n : Nat) (ls : List Int) (m : Nat) : Bool := codeB zs n && (letB ls m (n : Int) && decide ((enT zs n ls m).length ≤ 512))
def enA (zs : List Int) (n : Nat) (ls : List Int) (m : Nat) : Value := .tuple #[.string (if okE zs n ls m then txB (enT zs n ls m) else ⟨#[]⟩), .bool (okE zs n ls m)]
theorem enA_no {zs : List Int} {n : Nat} {ls : List Int} {m : Nat} (h : okE zs n ls m = false) : enA zs n ls m = .tuple #[.string ⟨#[]⟩, .bool false] := by unfold enA; rw [h]; rfl
theorem enA_yes {zs : List Int} {n : Nat} {ls : List Int} {m : Nat} (h : okE zs n ls m = true) : enA zs n ls m = .tuple #[.string (txB (enT zs n ls m)), .bool true] := by unfold enA; rw [h]; rfl
theorem okE_code {zs : List Int} {n : Nat} {ls : List Int} {m : Nat} (h : codeB zs n = false) : okE zs n ls m = false := by unfold okE; rw [h]; rfl
theorem okE_let {zs : List Int} {n : Nat} {ls : List Int} {m : Nat} (h : letB ls m (n : Int) = false) : okE zs n ls m = false := by unfold okE; rw [h]; simp
theorem okE_end {zs : List Int} {n : Nat} {ls : List Int} {m : Nat} (h1 : codeB zs n = true) (h2 : letB ls m (n : Int) = true) : okE zs n ls m = decide ((enT zs n ls m).length ≤ 512) := by unfold okE; rw [h1, h2]; rfl
theorem letB_long {ls : List Int} {m : Nat} {n : Int} (h : ¬ m ≤ 512) : letB ls m n = false := by unfold letB; rw [decide_eq_false h]; simp
theorem letB_no {ls : List Int} {m k : Nat} {n : Int} (hk : k < m) (h : ¬ (0 ≤ ls.getD k 0 ∧ ls.getD k 0 < n)) : letB ls m n = false := by unfold letB; rw [decide_eq_false (p := letP ls n m) (fun e => h (e k hk))]; rfl
theorem letB_yes {ls : List Int} {m : Nat} {n : Int} (h : letP ls n m) (h2 : m ≤ 512) : letB ls m n = true := by unfold letB; rw [decide_eq_true h, decide_eq_true h2]; rfl
theorem letB_out {ls : List Int} {m : Nat} {n : Int} (h : letB ls m n = true) : letP ls n m ∧ m ≤ 512 := by
  unfold letB at h
  rw [Bool.and_eq_true] at h
  exact ⟨of_decide_eq_true h.1, of_decide_eq_true h.2⟩
set_option maxRecDepth 100000 in
set_option maxHeartbeats 8000000 in
theorem en_spec (p0 : Nat) (a : Option Addr) (n cap : Nat) (zs : List Int) (a2 : Option Addr) (m cap2 : Nat) (ls : List Int) (w : World) (h : IRow w a n zs) (h2 : IRow w a2 m ls) (hm : m ≤ 1048576) (hok : codeB zs n = true) (hp : w.cell? ⟨p0, 0, none⟩ = some (.slice a n cap)) (hpl : p0 < w.heap.size) :
    Calls Try.prog 89 #[.pointer (some ⟨p0, 0, none⟩), .slice a2 m cap2] w fun e w' => e = .returned (enA zs n ls m) ∧ Below w.heap.size w w' := by
  have HA := Lib.hid h
  have HB := Lib.hid h2
  have HP := Lib.hid hp
  have HOK := Lib.hid hok
  obtain ⟨⟨h10, h11⟩, hl, _⟩ := code_out hok
  have HL := Lib.hid hl
  have hE : Hid (txB [] = (⟨#[]⟩ : ByteArray)) := Lib.hid rfl
  clear h h2 hp hok hl
  by_cases h5 : m ≤ 512
  · have hd : decide ((m : Int) ≤ 512) = true := decide_eq_true (by omega)
    have hd2 : decide (512 < (m : Int)) = false := decide_eq_false (by omega)
    have hw : IntKind.i64.wrap ((n : Int) - 1) = (n : Int) - 1 := IntWalk.i64_in _ (by omega)
    go_enter Try.func89, Try.ntmps89
    go_wp2_with (first | (go_at_call 66; refine (wd_spec p0 a n cap zs _ HA.out h10 h11 HL.out HP.out hpl).mono ?_; rintro e w2 ⟨g, rfl, hg⟩; have HG := Lib.hid hg; clear hg) | fail)
    have HGC : Hid (∀ j, j < n → w2.cell? ⟨g, j, none⟩ = some (.string (txB (wdG zs n n j)))) := Lib.hid (fun j hj => by rw [← wdF_G]; exact (HG.out.2.2.1.2 j hj).1)
    have HB2 := Lib.hid (HB.out.below HG.out.2.2.2)
    have HW := Lib.hid HG.out.2.2.2
    clear HG
    go_loop [7, 8] (fun ov iv => ∃ k : Nat, k ≤ m ∧ ov = .string (txB (enT zs n ls k)) ∧ Hid (letP ls (n : Int) k) ∧ iv = .int .i64 k) (fun _ iv => m - (intOf iv).toNat)
    case atStart => exact ⟨0, by omega, rfl, Lib.hid (by intro j hj; omega), rfl⟩
    case round =>
      obtain ⟨k, hk, rfl, HLP, rfl⟩ := hrel
      by_cases hlt : k < m
      · obtain ⟨b1, o1, rfl, _, hck1⟩ := HB2.out.cell' hlt
        by_cases hz : 0 ≤ ls.getD k 0 ∧ ls.getD k 0 < (n : Int)
        · obtain ⟨x, hx⟩ : ∃ x : Nat, ls.getD k 0 = (x : Int) := ⟨(ls.getD k 0).toNat, by omega⟩
          have HN : Hid (letP ls (n : Int) (k + 1)) := Lib.hid (fun j hj => by
            by_cases e : j < k
            · exact HLP.out j e
            · obtain rfl : j = k := by omega
              exact hz)
          rw [hx] at hck1 hz
          have hxn : x < n := by omega
          have hwc := HGC.out x hxn
          have HT : Hid (enT zs n ls (k + 1) = enT zs n ls k ++ wdG zs n n x) := Lib.hid (by show enT zs n ls k ++ wdG zs n n (ls.getD k 0).toNat = _; rw [hx]; rfl)
          have hl1 := enT_len ls HL.out k
          have hl2 := wdG_len HL.out n x (Nat.le_refl _)
          have hadd : ∀ w : World, (Op.stringOp .add (txB (enT zs n ls k)) (txB (wdG zs n n x))).run Try.prog w = .ok (.string (txB (enT zs n ls (k + 1)))) w := fun w => by
            rw [HT.out]; exact run_tx Try.prog _ _ (by omega) w
          have HXI : Hid (0 ≤ (x : Int) ∧ (x : Int) ≤ (n : Int) - 1) := Lib.hid (by omega)
          clear hx hz HT hl1 hl2
          generalize wdG zs n n x = U at hwc hadd
          go_wp2_with (first | (go_at_call 75; refine (in_true (x : Int) 0 ((n : Int) - 1) _ HXI.out.1 HXI.out.2).mono ?_; rintro e w' ⟨rfl, rfl⟩) | fail)
          go_round
          case rel => exact ⟨k + 1, by omega, rfl, HN, by go_num⟩
          case measure => simp [intOf]; omega
        · have HR := Lib.hid (enA_no (okE_let (zs := zs) (letB_no hlt hz)))
          have HXI : Hid (¬ (0 ≤ ls.getD k 0 ∧ ls.getD k 0 ≤ (n : Int) - 1)) := Lib.hid (by omega)
          clear hz
          generalize ls.getD k 0 = c at hck1 HXI
          go_wp2_with (first | (go_at_call 75; refine (in_false c 0 ((n : Int) - 1) _ HXI.out).mono ?_; rintro e w' ⟨rfl, rfl⟩) | fail)
          go_ret2
          exact ⟨by rw [HR.out]; rfl, HW.out⟩
      · obtain rfl : k = m := by omega
        have HE := Lib.hid (okE_end (zs := zs) HOK.out (letB_yes HLP.out h5))
        by_cases hs : (enT zs n ls k).length ≤ 512
        · have HR := Lib.hid (enA_yes (HE.out.trans (decide_eq_true hs)))
          have hd5 : decide (512 < ((txB (enT zs n ls k)).size : Int)) = false := decide_eq_false (by rw [txB_size]; omega)
          clear hs
          generalize enT zs n ls k = U at HR hd5
          go_wp2
          go_ret2
          exact ⟨by rw [HR.out]; rfl, HW.out⟩
        · have HR := Lib.hid (enA_no (HE.out.trans (decide_eq_false hs)))
          have hd5 : decide (512 < ((txB (enT zs n ls k)).size : Int)) = true := decide_eq_true (by rw [txB_size]; omega)
          clear hs
          go_wp2
          go_ret2
          exact ⟨by rw [HR.out]; rfl, HW.out⟩
  · have HR := Lib.hid (enA_no (okE_let (zs := zs) (letB_long (ls := ls) (n := (n : Int)) h5)))
    have hd : decide ((m : Int) ≤ 512) = false := decide_eq_false (by omega)
    have hd0 : decide (0 < m) = true := decide_eq_true (by omega)
    have hd2 : decide (512 < (m : Int)) = true := decide_eq_true (by omega)
    go_enter Try.func89, Try.ntmps89
    go_wp2_with (first | (go_at_call 66; refine (wd_spec p0 a n cap zs _ HA.out h10 h11 HL.out HP.out hpl).mono ?_; rintro e w2 ⟨g, rfl, hg⟩; have HG := Lib.hid hg; clear hg) | fail)
    refine wp_loop_rounds 1 ?_
    rw [rounds_succ]
    go_wp2
    go_ret2
    exact ⟨by rw [HR.out]; rfl, HG.out.2.2.2⟩
set_option maxRecDepth 100000 in
set_option maxHeartbeats 4000000 in
theorem el_spec (a : Option Addr) (n cap : Nat) (zs : List Int) (a2 : Option Addr) (m cap2 : Nat) (ls : List Int) (w : World) (h : IRow w a n zs) (h2 : IRow w a2 m ls) (hn : n ≤ 1048576) (hm : m ≤ 1048576) :
    Calls Try.prog 50 #[.agg #[.slice a n cap], .slice a2 m cap2] w fun e w' => e = .returned (enA zs n ls m) ∧ Below w.heap.size w w' := by
  have HA := Lib.hid (h.alloc (.cells #[.slice a n cap] 27))
  have HB := Lib.hid (h2.alloc (.cells #[.slice a n cap] 27))
  have HSZ : Hid (w.heap.size < (w.alloc (.cells #[.slice a n cap] 27)).heap.size) := Lib.hid (by simp)
  clear h h2
  cases hok : codeB zs n with
  | true =>
    have HEN := Lib.hid (en_spec w.heap.size a n cap zs a2 m cap2 ls _ HA.out HB.out hm hok (cell_box w (.slice a n cap) 27) HSZ.out)
    obtain ⟨S, B, hA⟩ : ∃ S B, enA zs n ls m = .tuple #[.string S, .bool B] := ⟨_, _, rfl⟩
    rw [hA] at HEN ⊢
    clear hA
    go_enter Try.func50, Try.ntmps50
    go_wp2_with (first | (go_at_call 56; refine (cdis_spec _ a n cap zs _ HA.out hn (cell_box _ _ _)).mono ?_; rintro e w' ⟨rfl, rfl⟩) | (go_at_call 89; refine HEN.out.mono ?_; rintro e w2 ⟨rfl, hb⟩; have HW := Lib.hid (Below.next (belowA _ _) hb); clear hb) | fail)
    go_ret2
    exact ⟨rfl, HW.out⟩
  | false =>
    have HR := Lib.hid (enA_no (okE_code (ls := ls) (m := m) hok))
    go_enter Try.func50, Try.ntmps50
    go_wp2_with (first | (go_at_call 56; refine (cdis_spec _ a n cap zs _ HA.out hn (cell_box _ _ _)).mono ?_; rintro e w' ⟨rfl, rfl⟩) | fail)
    go_ret2
    exact ⟨by rw [HR.out]; rfl, belowA _ _⟩
set_option maxRecDepth 100000 in
set_option maxHeartbeats 8000000 in
theorem el_impl (a : Option Addr) (n cap : Nat) (zs : List Int) (a2 : Option Addr) (m cap2 : Nat) (ls : List Int) (w : World) (h : IRow w a n zs) (h2 : IRow w a2 m ls) (hn : n ≤ 1048576) (hm : m ≤ 1048576) :
    Calls Try.prog 51 #[.agg #[.slice a n cap], .slice a2 m cap2] w fun e w' => e = .returned (enA zs n ls m) ∧ Below w.heap.size w w' := by
  have HS := Lib.hid ((Mine.nil w).alloc1 (.slice a n cap) 27)
  have HA := Lib.hid (h.alloc (.cells #[.slice a n cap] 27))
  have HB := Lib.hid (h2.alloc (.cells #[.slice a n cap] 27))
  clear h h2
  cases hok : codeB zs n with
  | true =>
    have HOK := Lib.hid hok
    obtain ⟨⟨h10, h11⟩, hl, _⟩ := code_out hok
    have HL := Lib.hid hl
    clear hl
    cases hlt : letB ls m (n : Int) with
    | true =>
      obtain ⟨hlp, hm5⟩ := letB_out hlt
      have HLP := Lib.hid hlp
      have HE := Lib.hid (okE_end (zs := zs) hok hlt)
      have hE : Hid (txB [] = (⟨#[]⟩ : ByteArray)) := Lib.hid rfl
      clear hlp
      go_enter Try.func51, Try.ntmps51
      go_wp2_with (first | (go_at_call 18; refine (vc_impl a n cap zs _ HA.out hn).mono ?_; rintro e w2 ⟨rfl, hb⟩; replace HA := Lib.hid (HA.out.below hb); replace HB := Lib.hid (HB.out.below hb); replace HS := Lib.hid (HS.out.below hb); obtain ⟨⟨hf0, hf1, hf2⟩, _⟩ := HS.out.facts1; clear hb) | (go_at_call 90; refine (al_impl _ m _ ls (n : Int) _ HB.out hm).mono ?_; rintro e w' ⟨rfl, rfl⟩) | (go_at_call 67; refine (wd_impl a n cap zs _ HA.out h10 h11 HL.out).mono ?_; rintro e w3 ⟨g, rfl, hg⟩; have HG := Lib.hid hg; clear hg) | fail)
      have HW3 := Lib.hid (Below.next HS.out.out HG.out.2.2.2)
      have HGC : Hid (∀ (W : World) (j : Nat), Below w3.heap.size w3 W → j < n → W.cell? ⟨g, j, none⟩ = some (.string (txB (wdG zs n n j)))) := Lib.hid (fun W j hb hj => by
        rw [← wdF_G, hb.cell (p := ⟨g, j, none⟩) HG.out.2.1]; exact (HG.out.2.2.1.2 j hj).1)
      have HB3 := Lib.hid (HB.out.below HG.out.2.2.2)
      have HFR := Lib.hid (Bld.fresh 108 5 w3)
      clear hok hlt
      go_loopw [25] (fun iv w0 => ∃ (k : Nat) (wr : World), k ≤ m ∧ iv = .int .i64 k ∧ wr = w0 ∧ Hid (Bld 108 5 w3.heap.size (enT zs n ls k) wr) ∧ Hid (Below w3.heap.size w3 wr)) (fun iv _ => m - (intOf iv).toNat)
      case atStart => exact ⟨0, _, by omega, rfl, rfl, HFR, Lib.hid (below_alloc _ _)⟩
      case round =>
        obtain ⟨k, wr, hk, rfl, rfl, HBD, HWR⟩ := hrel
        by_cases hlt : k < m
        · obtain ⟨b1, o1, rfl, _, hck1⟩ := (HB3.out.below HWR.out).cell' hlt
          have hz := HLP.out k hlt
          obtain ⟨x, hx⟩ : ∃ x : Nat, ls.getD k 0 = (x : Int) := ⟨(ls.getD k 0).toNat, by omega⟩
          rw [hx] at hck1 hz
          have hxn : x < n := by omega
          have hwc := HGC.out wr x HWR.out hxn
          have HT : Hid (enT zs n ls (k + 1) = enT zs n ls k ++ wdG zs n n x) := Lib.hid (by show enT zs n ls k ++ wdG zs n n (ls.getD k 0).toNat = _; rw [hx]; rfl)
          have hl1 := enT_len ls HL.out k
          have hl2 := wdG_len HL.out n x (Nat.le_refl _)
          have HLEN : Hid ((enT zs n ls k).length + (wdG zs n n x).length ≤ 1048576) := Lib.hid (by omega)
          clear hx hz hl1 hl2
          generalize wdG zs n n x = U at hwc HT HLEN
          go_wp2_with (first | (go_at_call 91; refine (bld_write _ _ _ _ HBD.out HLEN.out).mono ?_; rintro e w5 ⟨v, rfl, hb3, hb⟩; have HB5 := Lib.hid hb3; have HW5 := Lib.hid (HWR.out.trans hb); clear hb hb3) | fail)
          exact ⟨⟨k + 1, _, by omega, by first | rfl | go_num | (congr 1), rfl, Lib.hid (by rw [HT.out]; exact HB5.out), HW5⟩, by show m - ((k : Int) + 1).toNat < m - (k : Int).toNat; omega⟩
        · obtain rfl : k = m := by omega
          have hlen := enT_len ls HL.out k
          have hbits : bitsB (txB (enT zs n ls k)) = decide ((enT zs n ls k).length ≤ 512) := bits_tx (fun c hc => enT_bits zs n ls k c hc)
          have HSZ : Hid ((txB (enT zs n ls k)).size ≤ 1048576) := Lib.hid (by rw [txB_size]; omega)
          by_cases hs : (enT zs n ls k).length ≤ 512
          · have HR := Lib.hid (enA_yes (HE.out.trans (decide_eq_true hs)))
            have HBT := Lib.hid (hbits.trans (decide_eq_true hs))
            clear hs hbits hlen
            go_wp2_with (first | (go_at_call 93; refine (bld_string _ _ _ HBD.out).mono ?_; rintro e w5 ⟨rfl, hb⟩; have HW5 := Lib.hid (HWR.out.trans hb); clear hb) | (go_at_call 92; refine (bn_yes _ _ HSZ.out HBT.out).mono ?_; rintro e w6 ⟨rfl, hb⟩; have HW6 := Lib.hid (Below.next (Below.next HW3.out HW5.out) hb); clear hb) | fail)
            go_ret2
            exact ⟨by rw [HR.out]; rfl, HW6.out⟩
          · have HR := Lib.hid (enA_no (HE.out.trans (decide_eq_false hs)))
            have HBT := Lib.hid (hbits.trans (decide_eq_false hs))
            clear hs hbits hlen
            go_wp2_with (first | (go_at_call 93; refine (bld_string _ _ _ HBD.out).mono ?_; rintro e w5 ⟨rfl, hb⟩; have HW5 := Lib.hid (HWR.out.trans hb); clear hb) | (go_at_call 92; refine (bn_no _ _ HSZ.out HBT.out).mono ?_; rintro e w6 ⟨rfl, hb⟩; have HW6 := Lib.hid (Below.next (Below.next HW3.out HW5.out) hb); clear hb) | fail)
            go_ret2
            exact ⟨by rw [HR.out]; rfl, HW6.out⟩
    | false =>
      have HR := Lib.hid (enA_no (okE_let (zs := zs) hlt))
      go_enter Try.func51, Try.ntmps51
      go_wp2_with (first | (go_at_call 18; refine (vc_impl a n cap zs _ HA.out hn).mono ?_; rintro e w2 ⟨rfl, hb⟩; replace HA := Lib.hid (HA.out.below hb); replace HB := Lib.hid (HB.out.below hb); replace HS := Lib.hid (HS.out.below hb); obtain ⟨⟨hf0, hf1, hf2⟩, _⟩ := HS.out.facts1; clear hb) | (go_at_call 90; refine (al_impl _ m _ ls (n : Int) _ HB.out hm).mono ?_; rintro e w' ⟨rfl, rfl⟩) | fail)
      go_ret2
      exact ⟨by rw [HR.out]; rfl, HS.out.out⟩
  | false =>
    have HR := Lib.hid (enA_no (okE_code (ls := ls) (m := m) hok))
    go_enter Try.func51, Try.ntmps51
    go_wp2_with (first | (go_at_call 18; refine (vc_impl a n cap zs _ HA.out hn).mono ?_; rintro e w2 ⟨rfl, hb⟩; replace HS := Lib.hid (HS.out.below hb); clear hb) | fail)
    go_ret2
    exact ⟨by rw [HR.out]; rfl, HS.out.out⟩
end Go.Proofs.Ytiajpmfdaooefaa
