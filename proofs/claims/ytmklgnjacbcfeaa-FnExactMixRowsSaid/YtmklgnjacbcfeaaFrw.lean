/- FarOfRows: walks and law. -/
import Derived.Test.YtmklgnjacbcfeaaFrv
import Derived.Test.YtmklgnjacbcfeaaLiv
namespace Go.Proofs.Ytmklgnjacbcfeaa
open Go.Proofs.Ytmklgnjacbcfeaa.Flo Go.RowKit

def farT (za zb : List Nat) (k : Nat) : Option Nat := some (farN (za.getD k 0) (zb.getD k 0))
def sumT (T : Nat → Option Nat) : Nat → Option Nat
  | 0 => cls .f32 0
  | k + 1 => vop .add .f32 (sumT T k) (T k)
def farV (za zb : List Nat) (n : Nat) : Option Nat := vop .mul .f32 (some 1056964608) (sumT (farT za zb) n)
theorem half_cls {r : Nat} {a : Option Nat} (h : cls .f32 r = a) (w : World) : cls .f32 (fres .mul .f32 1056964608 r w) = vop .mul .f32 (some 1056964608) a := by
  rw [fres_cls, h]; exact congrArg (fun x => vop .mul .f32 x a) (show cls .f32 1056964608 = some 1056964608 by decide +kernel)
theorem fres_some {op : BinOp} {k : FloatKind} {x y r : Nat} (h : floatBits op k x y = some r) (w : World) : fres op k x y w = r := by unfold fres; rw [h]
theorem fcnt_some {op : BinOp} {k : FloatKind} {x y r : Nat} (h : floatBits op k x y = some r) : fcnt op k x y = 0 := by unfold fcnt; rw [h]; rfl
theorem size_pos {x : Nat} (h : (FloatKind.f32).format.order x 0 = some .gt) : ((FloatKind.f32).format.order x 0 == some .lt || (FloatKind.f32).format.order x 0 == some .eq) = false := by rw [h]; rfl
set_option maxHeartbeats 1000000 in
theorem size_spec (s : Bool) (r : Nat) (hr : r < (FloatKind.f32).format.infRung) (w : World) : Calls Try.prog 77 #[.float .f32 ((FloatKind.f32).format.word s r)] w fun e w' => ∃ k, e = .returned (.float .f32 k) ∧ cls .f32 k = some r ∧ Drew w w' := by
  have hcr : cls .f32 r = some r := by
    have := word_not false hr
    exact cls_of_not this
  by_cases h : s = true ∨ r = 0
  · have ho : ((FloatKind.f32).format.order ((FloatKind.f32).format.word s r) 0 == some .lt || (FloatKind.f32).format.order ((FloatKind.f32).format.word s r) 0 == some .eq) = true := by
      by_cases h0 : r = 0
      · subst h0
        cases s <;> decide +kernel
      · rw [order_word s r (Nat.le_of_lt hr) h0, h.resolve_right h0]; rfl
    have hcw : cls .f32 ((FloatKind.f32).format.word s r) = some ((FloatKind.f32).format.word s r) := cls_of_not (word_not s hr)
    have HV : Hid (∀ w2, cls .f32 (fres .sub .f32 0 ((FloatKind.f32).format.word s r) w2) = some r) := Lib.hid (fun w2 => by
      rw [fres_cls, hcw, cls_032]; exact neg_word hr s h)
    clear hcw h hcr hr
    generalize (FloatKind.f32).format.word s r = x at ho HV
    go_enter Try.func77, Try.ntmps77
    go_wp2
    go_ret
    exact ⟨_, rfl, HV.out _, Drew.mk _ _⟩
  · have hs : s = false := by
      cases s with
      | false => rfl
      | true => exact absurd (Or.inl rfl) h
    subst hs
    have h0 : r ≠ 0 := fun e => h (.inr e)
    have ho : ((FloatKind.f32).format.order ((FloatKind.f32).format.word false r) 0 == some .lt || (FloatKind.f32).format.order ((FloatKind.f32).format.word false r) 0 == some .eq) = false := by
      rw [order_word false r (Nat.le_of_lt hr) h0]; rfl
    have HV : Hid (cls .f32 ((FloatKind.f32).format.word false r) = some r) := Lib.hid hcr
    clear h h0 hcr hr
    generalize (FloatKind.f32).format.word false r = x at ho HV
    go_enter Try.func77, Try.ntmps77
    go_wp2
    go_ret
    exact ⟨_, rfl, HV.out, Drew.refl _⟩
set_option maxRecDepth 100000 in
set_option maxHeartbeats 2000000 in
theorem farS (a b : Option Addr) (n m cap capb : Nat) (za zb : List Nat) (w : World) (ha : FRow w a n za) (hb : FRow w b m zb) (hn : n ≤ 1048576) (hm : m ≤ 1048576) :
    Calls Try.prog 45 #[.slice a n cap, .slice b m capb] w fun e w' => ∃ r, e = .returned (.tuple #[.float .f32 r, .bool (twoB za zb n m)]) ∧ cls .f32 r = ansV (twoB za zb n m) (farV za zb n) ∧ Drew w w' := by
  have HA := Lib.hid ha
  have HB := Lib.hid hb
  clear ha hb
  cases h1 : twoB za zb n m with
  | false =>
    have HR := Lib.hid h1
    go_enter Try.func45, Try.ntmps45
    go_wp2_with (first | (go_at_call 73; refine (two_spec _ _ _ _ _ _ za zb _ HA.out HB.out hn hm).mono ?_; rintro e w' ⟨rfl, q1, rfl⟩) | go_in)
    go_ret2
    exact ⟨0, rfl, rfl, Drew.mk _ _⟩
  | true =>
    have HR := Lib.hid h1
    obtain ⟨rfl, hn32, hca, hcb, _, _⟩ := two_out h1
    have HCA := Lib.hid hca
    have HCB := Lib.hid hcb
    go_enter Try.func45, Try.ntmps45
    go_wp2_with (first | (go_at_call 73; refine (two_spec _ _ _ _ _ _ za zb _ HA.out HB.out hn hm).mono ?_; rintro e w' ⟨rfl, q1, rfl⟩) | go_in)
    clear h1 hca hcb
    go_loopw [6, 7] (fun sv iv w' => ∃ k q r : Nat, k ≤ n ∧ sv = .float .f32 r ∧ Hid (cls .f32 r = sumT (farT za zb) k) ∧ iv = .int .i64 k ∧ w' = w.drewN q) (fun _ iv _ => n - (intOf iv).toNat)
    case atStart => exact ⟨0, _, 0, by omega, rfl, Lib.hid rfl, rfl, rfl⟩
    case round =>
      obtain ⟨k, q, r, hk, rfl, HS0, rfl, rfl⟩ := hrel
      by_cases hlt : k < n
      · obtain ⟨b1, o1, rfl, hck1⟩ := HA.out.cell hlt
        obtain ⟨b2, o2, rfl, hck2⟩ := HB.out.cell hlt
        obtain ⟨s1, m1, i1, hd1, _, hl1⟩ := ch_each HCA.out hlt
        obtain ⟨s2, m2, i2, hd2, _, hl2⟩ := ch_each HCB.out hlt
        obtain ⟨ρ, sp, sq, hr, e1, e2, _, _, hf⟩ := far_words hd1 hd2 hl1 hl2
        have hfr := fun w2 => fres_some e1 w2
        have HS : Hid (∀ {l : Nat} {w3 : World}, cls .f32 l = some ρ → cls .f32 (fres .add .f32 r l w3) = sumT (farT za zb) (k + 1)) := Lib.hid (fun hl => by
          rw [fres_cls, HS0.out, hl, ← hf]; rfl)
        have Hr := Lib.hid hr
        clear hd1 hd2 hl1 hl2 e1 e2 hf hr
        generalize za.getD k 0 = x at hck1 hfr
        generalize zb.getD k 0 = y at hck2 hfr
        clear HA HB HCA HCB
        go_wp2
        go_region_with (go_at_call 77; refine (size_spec sp ρ Hr.out _).mono ?_; rintro e w' ⟨l, rfl, hl, n2, rfl⟩; have HL := Lib.hid hl; clear hl)
        all_goals
          go_wp2
          exact ⟨⟨k + 1, _, _, by omega, rfl, Lib.hid (HS.out HL.out), by first | rfl | go_num | (congr 1), rfl⟩, by show n - ((k : Int) + 1).toNat < n - (k : Int).toNat; omega⟩
      · obtain rfl : k = n := by omega
        have HF : Hid (∀ w2, cls .f32 (fres .mul .f32 1056964608 r w2) = farV za zb k) := Lib.hid (fun w2 => half_cls HS0.out w2)
        go_wp2
        go_ret2
        exact ⟨_, rfl, HF.out _, Drew.mk _ _⟩
/-- All differences. -/
def farL (za zb : List Nat) (n : Nat) : List Nat := (List.range n).map fun k => farN (za.getD k 0) (zb.getD k 0)
theorem farL_len (za zb : List Nat) (n : Nat) : (farL za zb n).length = n := by simp [farL]
theorem farL_get (za zb : List Nat) {n k : Nat} (h : k < n) : (farL za zb n).getD k 0 = farN (za.getD k 0) (zb.getD k 0) := by
  simp [farL, List.getD_eq_getElem?_getD, h]
theorem far_sum {za zb : List Nat} {n : Nat} (h : ∀ k, k < n → cls .f32 (farN (za.getD k 0) (zb.getD k 0)) = some (farN (za.getD k 0) (zb.getD k 0))) : ∀ k, k ≤ n → Flo.vsum (farL za zb n) k = sumT (farT za zb) k := by
  intro k
  induction k with
  | zero => intro _; rfl
  | succ k ih =>
    intro hk
    show vop .add .f32 (Flo.vsum (farL za zb n) k) (cls .f32 ((farL za zb n).getD k 0)) = vop .add .f32 (sumT (farT za zb) k) (farT za zb k)
    rw [ih (by omega), farL_get za zb (show k < n by omega), h k (by omega)]; rfl
theorem store_at (P : Program) (W : World) (cs : Array Value) (T : TypeId) (b k x Q : Nat) (m : Mode) (hb : b = W.heap.size) (hk : k < cs.size) :
    (store ⟨b, k, none⟩ (.float .f32 x) m).run P ((W.alloc (.cells cs T)).drewN Q) = .ok () ((W.alloc (.cells (cs.setIfInBounds k (.float .f32 x)) T)).drewN Q) := by
  have h1 : ((W.alloc (.cells cs T)).drewN Q).cell? ⟨b, k, none⟩ = some (cs[k]'hk) := by
    show (W.alloc (.cells cs T)).cell? ⟨b, k, none⟩ = _
    rw [World.cell?_alloc_at _ _ _ _ hb]; exact Array.getElem?_eq_getElem hk
  have h2 : ((W.alloc (.cells cs T)).drewN Q).frozen? ⟨b, k, none⟩ = false := World.frozen?_alloc_at _ _ _ _ hb
  have h3 : ((W.alloc (.cells cs T)).drewN Q).setCell ⟨b, k, none⟩ (.float .f32 x) = (W.alloc (.cells (cs.setIfInBounds k (.float .f32 x)) T)).drewN Q := by
    rw [← World.setCell_alloc_at cs T b k _ hb]; rfl
  rw [run_store _ _ _ _ _ rfl, h1, h2]
  simp only [Bool.false_eq_true, if_false]
  rw [h3]
set_option maxRecDepth 100000 in
set_option maxHeartbeats 4000000 in
theorem farI (a b : Option Addr) (n m cap capb : Nat) (za zb : List Nat) (w : World) (ha : FRow w a n za) (hb : FRow w b m zb) (hn : n ≤ 1048576) (hm : m ≤ 1048576) :
    Calls Try.prog 46 #[.slice a n cap, .slice b m capb] w fun e w' => ∃ r, e = .returned (.tuple #[.float .f32 r, .bool (twoB za zb n m)]) ∧ cls .f32 r = ansV (twoB za zb n m) (farV za zb n) ∧ Below w.heap.size w w' := by
  have HA := Lib.hid ha
  have HB := Lib.hid hb
  clear ha hb
  cases h1 : twoB za zb n m with
  | false =>
    have HR := Lib.hid h1
    go_enter Try.func46, Try.ntmps46
    go_wp2_with (first | (go_at_call 75; refine (two_impl _ _ _ _ _ _ za zb _ HA.out HB.out hn hm).mono ?_; rintro e w' ⟨rfl, q1, rfl⟩) | go_in)
    go_ret2
    exact ⟨0, rfl, rfl, (Drew.mk _ _).below⟩
  | true =>
    have HR := Lib.hid h1
    obtain ⟨rfl, hn32, hca, hcb, _, _⟩ := two_out h1
    have HCA := Lib.hid hca
    have HCB := Lib.hid hcb
    have hmk := fun w2 : World => run_make_row' (P := Try.prog) 22 39 (.float .f32 0) 4 Try.underlying22 Try.info32 rfl .i64 .i64 n (by omega) (by omega) w2
    have Hlen := Lib.hid (farL_len za zb n)
    go_enter Try.func46, Try.ntmps46
    go_wp2_with (first | (go_at_call 75; refine (two_impl _ _ _ _ _ _ za zb _ HA.out HB.out hn hm).mono ?_; rintro e w' ⟨rfl, q1, rfl⟩) | go_in)
    clear h1 hca hcb
    go_loopw [18] (fun iv w' => ∃ k : Nat, k ≤ n ∧ iv = .int .i64 k ∧ ∃ q : Nat, w' = ((w.drewN q1).alloc (.cells (mix (farL za zb n) k n) 39)).drewN q) (fun iv _ => n - (intOf iv).toNat)
    case atStart => exact ⟨0, by omega, rfl, 0, by rw [mix_zero]; rfl⟩
    case round =>
      obtain ⟨k, hk, rfl, q, rfl⟩ := hrel
      clear hmk
      by_cases hlt : k < n
      · rcases HA.out.2 with h0 | ⟨b1, o1, rfl, hbb1, hc1⟩
        · omega
        rcases HB.out.2 with h0 | ⟨b2, o2, rfl, hbb2, hc2⟩
        · omega
        obtain ⟨s1, m1, i1, hd1, _, hl1⟩ := ch_each HCA.out hlt
        obtain ⟨s2, m2, i2, hd2, _, hl2⟩ := ch_each HCB.out hlt
        obtain ⟨ρ, sp, sq, hr, e1, e2, hq1, hq0, hf⟩ := far_words hd1 hd2 hl1 hl2
        have hfr1 := fun w2 => fres_some e1 w2
        have hfr2 := fun w2 => fres_some e2 w2
        have hfc1 := fcnt_some e1
        have hfc2 := fcnt_some e2
        have hmx := far_max Try.prog hr hq1 hq0
        have hck1 : ((w.drewN q1).alloc (.cells (mix (farL za zb n) k n) 39)).cell? ⟨b1, o1 + k, none⟩ = some (.float .f32 (za.getD k 0)) := (World.cell?_alloc_past _ _ _ (show b1 < (w.drewN q1).heap.size from hbb1)).trans (hc1 k hlt)
        have hck2 : ((w.drewN q1).alloc (.cells (mix (farL za zb n) k n) 39)).cell? ⟨b2, o2 + k, none⟩ = some (.float .f32 (zb.getD k 0)) := (World.cell?_alloc_past _ _ _ (show b2 < (w.drewN q1).heap.size from hbb2)).trans (hc2 k hlt)
        have hset := mix_set (farL za zb n) k n hlt Hlen.out
        rw [farL_get za zb hlt, hf] at hset
        have hsz := mix_size (farL za zb n) k n hk Hlen.out
        have hold : (mix (farL za zb n) k n)[k]? = some ((mix (farL za zb n) k n)[k]'(by omega)) := Array.getElem?_eq_getElem _
        have hold2 : k < (mix (farL za zb n) k n).size := by omega
        have hst : ∀ (m : Mode) (Q : Nat), (store ⟨w.heap.size, k, none⟩ (.float .f32 ρ) m).run Try.prog (((w.drewN q1).alloc (.cells (mix (farL za zb n) k n) 39)).drewN Q) = .ok () (((w.drewN q1).alloc (.cells (mix (farL za zb n) (k + 1) n) 39)).drewN Q) := fun m Q => by
          rw [store_at Try.prog (w.drewN q1) _ _ w.heap.size k ρ Q m rfl hold2, hset]
        have HSET := Lib.hid hset
        clear hold hold2 hsz
        clear hd1 hd2 hl1 hl2 e1 e2 hf hr hq1 hq0 hc1 hc2 hset
        generalize za.getD k 0 = x at hck1 hfr1 hfr2 hfc1 hfc2
        generalize zb.getD k 0 = y at hck2 hfr1 hfr2 hfc1 hfc2
        generalize (FloatKind.f32).format.word sp ρ = u at hfr1 hmx
        generalize (FloatKind.f32).format.word sq ρ = v at hfr2 hmx
        go_wp2
        go_region_with fail
        all_goals
          go_wp2
          exact ⟨⟨k + 1, by omega, by first | rfl | go_num | (congr 1), _, rfl⟩, by show n - ((k : Int) + 1).toNat < n - (k : Int).toNat; omega⟩
      · obtain rfl : k = n := by omega
        have hcl : ∀ j, j < k → cls .f32 (farN (za.getD j 0) (zb.getD j 0)) = some (farN (za.getD j 0) (zb.getD j 0)) := fun j hj => by
          obtain ⟨s1, m1, i1, hd1, _, hl1⟩ := ch_each HCA.out hj
          obtain ⟨s2, m2, i2, hd2, _, hl2⟩ := ch_each HCB.out hj
          obtain ⟨ρ, sp, sq, hr, _, _, _, _, hf⟩ := far_words hd1 hd2 hl1 hl2
          rw [hf]
          exact cls_of_not (word_not false hr)
        have HSUM := Lib.hid (far_sum hcl k (Nat.le_refl _))
        have HALL := Lib.hid (mix_all (farL za zb k) k Hlen.out)
        rw [HALL.out]
        clear hcl
        go_wp2_with (first | (go_at_call 78; refine (sumOf_impl _ _ _ (farL za zb k) _ ((FRow.new' Hlen.out (by simp) _).drewN _) (by omega)).mono ?_; rintro e w2 ⟨r, rfl, hr, q2, rfl⟩; have hf := Lib.hid (half_cls (hr.trans HSUM.out)); clear hr) | go_in)
        go_ret2
        exact ⟨_, rfl, hf.out _, Below.drewN' (Below.alloc (Below.drewN' (Below.refl _ _) _) (Nat.le_refl _) _) _⟩
set_option maxRecDepth 100000 in
set_option maxHeartbeats 4000000 in
theorem far_walk (a : Option Addr) (n capa : Nat) (za : List Nat) (b : Option Addr) (m capb : Nat) (zb : List Nat) (w : World) (ha : FRow w a n za) (hb : FRow w b m zb) :
    Calls Try.prog 13 #[.slice a n capa, .slice b m capb] w fun e w' => e = .returned (.bool true) ∧ Below w.heap.size w w' := by
  by_cases hma : n ≤ 1048576
  · have hd : decide (1048576 < (n : Int)) = false := by simp; omega
    by_cases hmb : m ≤ 1048576
    · have hd2 : decide (1048576 < (m : Int)) = false := by simp; omega
      have HL : Hid (Live w [(a, n, za), (b, m, zb)]) := Lib.hid (((Live.nil _).cons hb).cons ha)
      have HB : Hid (Below w.heap.size w w) := Lib.hid (Below.refl _ _)
      clear ha hb
      go_enter Try.func13, Try.ntmps13
      go_wp2_with (first | (go_at_call 16; (with_reducible refine (toL a n capa za _ _ HL.out ?_ hma).mono ?_); (next => simp); rintro e w2 ⟨p, rfl, hl, hb⟩; have HL := Lib.hid hl; have HB := Lib.hid (Below.next HB.out hb); clear hl hb) | (go_at_call 16; (with_reducible refine (toL a n capa za _ _ (HL.out.drewN _) ?_ hma).mono ?_); (next => simp); rintro e w2 ⟨p, rfl, hl, hb⟩; have HL := Lib.hid hl; have HB := Lib.hid (Below.next HB.out (Below.ofDrewN hb)); clear hl hb) | (go_at_call 16; (with_reducible refine (toL b m capb zb _ _ HL.out ?_ hmb).mono ?_); (next => simp); rintro e w2 ⟨p, rfl, hl, hb⟩; have HL := Lib.hid hl; have HB := Lib.hid (Below.next HB.out hb); clear hl hb) | (go_at_call 16; (with_reducible refine (toL b m capb zb _ _ (HL.out.drewN _) ?_ hmb).mono ?_); (next => simp); rintro e w2 ⟨p, rfl, hl, hb⟩; have HL := Lib.hid hl; have HB := Lib.hid (Below.next HB.out (Below.ofDrewN hb)); clear hl hb) | (go_at_call 45; refine (farS _ _ _ _ _ _ za zb _ ?_ ?_ hma hmb).mono ?_; (next => (refine HL.out.get ?_; simp)); (next => (refine HL.out.get ?_; simp)); rintro e w2 ⟨r, rfl, hr, d⟩; have Hr := Lib.hid hr; clear hr; have HL := Lib.hid (HL.out.below d.below); have HB := Lib.hid (Below.next HB.out d.below); clear d) | (go_at_call 46; refine (farI _ _ _ _ _ _ za zb _ ?_ ?_ hma hmb).mono ?_; (next => (refine HL.out.get ?_; simp)); (next => (refine HL.out.get ?_; simp)); rintro e w2 ⟨r2, rfl, hr, d⟩; have Hr2 := Lib.hid hr; clear hr; have HL := Lib.hid (HL.out.below d); have HB := Lib.hid (Below.next HB.out d); clear d) | (go_at_call 32; refine (sameFloat_true _ _ (by rw [cres_wide, cres_wide, Hr.out, Hr2.out]) _).mono ?_; rintro e w2 ⟨rfl, n3, rfl⟩) | (go_at_call 18; (with_reducible refine (eqL _ _ n _ _ za _ _ HL.out ?_ ?_ hma).mono ?_); (next => simp); (next => simp); rintro e w2 ⟨rfl, hl, hb⟩; have HL := Lib.hid hl; have HB := Lib.hid (Below.next HB.out hb); clear hl hb) | (go_at_call 18; (with_reducible refine (eqL _ _ n _ _ za _ _ (HL.out.drewN _) ?_ ?_ hma).mono ?_); (next => simp); (next => simp); rintro e w2 ⟨rfl, hl, hb⟩; have HL := Lib.hid hl; have HB := Lib.hid (Below.next HB.out (Below.ofDrewN hb)); clear hl hb) | (go_at_call 18; (with_reducible refine (eqL _ _ m _ _ zb _ _ HL.out ?_ ?_ hmb).mono ?_); (next => simp); (next => simp); rintro e w2 ⟨rfl, hl, hb⟩; have HL := Lib.hid hl; have HB := Lib.hid (Below.next HB.out hb); clear hl hb) | (go_at_call 18; (with_reducible refine (eqL _ _ m _ _ zb _ _ (HL.out.drewN _) ?_ ?_ hmb).mono ?_); (next => simp); (next => simp); rintro e w2 ⟨rfl, hl, hb⟩; have HL := Lib.hid hl; have HB := Lib.hid (Below.next HB.out (Below.ofDrewN hb)); clear hl hb) | go_in)
      go_ret
      first | exact ⟨rfl, HB.out⟩ | exact ⟨rfl, Below.drewN' HB.out _⟩
    · go_enter Try.func13, Try.ntmps13
      go_wp2
      go_ret
      exact ⟨rfl, Below.refl _ _⟩
  · go_enter Try.func13, Try.ntmps13
    go_wp2
    go_ret
    exact ⟨rfl, Below.refl _ _⟩
end Go.Proofs.Ytmklgnjacbcfeaa
