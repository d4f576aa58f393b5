/- RootFar: walks and law. -/
import Derived.Test.YtkllihdfafomnaaRtw
namespace Go.Proofs.Ytkllihdfafomnaa
open Go.Proofs.Ytkllihdfafomnaa.Flo Go.RowKit
attribute [local go_sem] call_sqrt
theorem root_spec (x : Nat) (w : World) : Calls Try.prog 76 #[.float .f32 x] w fun e w' => ∃ r, e = .returned (.float .f32 r) ∧ cls .f32 r = rootV (cls .f32 x) ∧ Drew w w' := by
  have h := fun w3 w4 w5 : World => Lib.hid (narrow_eq ((sres_cls _ w3).trans (congrArg vsqrt (cres_wide x w4))) (vsqrt_wide_okn x) w5)
  go_enter Try.func76, Try.ntmps76
  go_wp2
  go_ret
  exact ⟨_, rfl, (h _ _ _).out, Drew.mk _ _⟩
theorem root_impl (x : Nat) (w : World) : Calls Try.prog 78 #[.float .f32 x] w fun e w' => ∃ r, e = .returned (.float .f32 r) ∧ cls .f32 r = rootV (cls .f32 x) ∧ Drew w w' := by
  have h := fun w3 w4 w5 : World => Lib.hid (narrow_eq ((sres_cls _ w3).trans (congrArg vsqrt (cres_wide x w4))) (vsqrt_wide_okn x) w5)
  go_enter Try.func78, Try.ntmps78
  go_wp2
  go_ret
  exact ⟨_, rfl, (h _ _ _).out, Drew.mk _ _⟩
/-- What is left of 1, but no negative number. -/
def left1V (za zb : List Nat) (n : Nat) : Option Nat := vop .sub .f32 (some one32) (vall (rtT za zb) n)
def cutV (a : Option Nat) : Option Nat := if lt32 a (some 0) then some 0 else a
def rfV (za zb : List Nat) (n : Nat) : Option Nat := rootV (cutV (left1V za zb n))
theorem vop_some {op : BinOp} {k : FloatKind} {a c : Option Nat} {b : Nat} (h : vop op k a c = some b) : cls k b = some b := by
  cases a with
  | none => cases h
  | some x => cases c with
    | none => cases h
    | some y => exact cls_of_not (floatBits_notNaN (op := op) (x := x) (y := y) h)
theorem ret_fb' {r : Nat} {b c : Bool} (h : b = c) : Ending.returned (.tuple #[.float .f32 r, .bool b]) = .returned (.tuple #[.float .f32 r, .bool c]) := by rw [h]
theorem one_cls (r : Nat) {a : Option Nat} (h : cls .f32 r = a) (w : World) : cls .f32 (fres .sub .f32 1065353216 r w) = vop .sub .f32 (some one32) a := by
  rw [fres_cls, h]; exact congrArg (fun x => vop .sub .f32 x a) cls_one32
theorem ord_lt {b : Nat} {a : Option Nat} (h : cls .f32 b = a) : ((FloatKind.f32).format.order b 0 == some .lt) = lt32 a (some 0) := by
  unfold lt32; rw [order_cls, h, cls_032]
set_option maxRecDepth 100000 in
set_option maxHeartbeats 2000000 in
theorem rfS (a b : Option Addr) (n m cap capb : Nat) (za zb : List Nat) (w : World) (ha : FRow w a n za) (hb : FRow w b m zb) (hn : n ≤ 1048576) (hm : m ≤ 1048576) :
    Calls Try.prog 31 #[.slice a n cap, .slice b m capb] w fun e w' => ∃ r, e = .returned (.tuple #[.float .f32 r, .bool (twoB za zb n m)]) ∧ cls .f32 r = ansV (twoB za zb n m) (rfV za zb n) ∧ Drew w w' := by
  have HA := Lib.hid ha
  have HB := Lib.hid hb
  clear ha hb
  cases h1 : twoB za zb n m with
  | false =>
    have HR := Lib.hid h1
    go_enter Try.func31, Try.ntmps31
    go_wp2_with (first | (go_at_call 63; refine (two_spec _ _ _ _ _ _ za zb _ HA.out HB.out hn hm).mono ?_; rintro e w' ⟨rfl, q1, rfl⟩) | go_in)
    go_ret2
    exact ⟨0, rfl, rfl, Drew.mk _ _⟩
  | true =>
    have HR := Lib.hid h1
    obtain ⟨rfl, hn32, hca, hcb, _, _⟩ := two_out h1
    go_enter Try.func31, Try.ntmps31
    go_wp2_with (first | (go_at_call 63; refine (two_spec _ _ _ _ _ _ za zb _ HA.out HB.out hn hm).mono ?_; rintro e w' ⟨rfl, q1, rfl⟩) | go_in)
    clear h1 hca hcb
    go_loopw [6, 7] (fun sv iv w' => ∃ k q r : Nat, k ≤ n ∧ sv = .float .f32 r ∧ Hid (cls .f32 r = vall (rtT za zb) k) ∧ iv = .int .i64 k ∧ w' = w.drewN q) (fun _ iv _ => n - (intOf iv).toNat)
    case atStart => exact ⟨0, _, 0, by omega, rfl, Lib.hid rfl, rfl, rfl⟩
    case round =>
      obtain ⟨k, q, r, hk, rfl, HS0, rfl, rfl⟩ := hrel
      by_cases hlt : k < n
      · obtain ⟨b1, o1, rfl, hck1⟩ := HA.out.cell hlt
        obtain ⟨b2, o2, rfl, hck2⟩ := HB.out.cell hlt
        have HS : Hid (∀ {l : Nat} {w2 w3 : World}, cls .f32 l = rootV (cls .f32 (fres .mul .f32 (za.getD k 0) (zb.getD k 0) w2)) → cls .f32 (fres .add .f32 r l w3) = vall (rtT za zb) (k + 1)) := Lib.hid (fun hl => by
          rw [fres_cls, HS0.out, hl, fres_cls]; rfl)
        generalize za.getD k 0 = x at hck1 HS
        generalize zb.getD k 0 = y at hck2 HS
        clear HA HB
        go_wp2
        go_region_with (go_at_call 76; refine (root_spec _ _).mono ?_; rintro e w' ⟨l, rfl, hl, n2, rfl⟩; have HL := Lib.hid hl; clear hl)
        all_goals
          go_wp2
          exact ⟨⟨k + 1, _, _, by omega, rfl, Lib.hid (HS.out HL.out), by first | rfl | go_num | (congr 1), rfl⟩, by show n - ((k : Int) + 1).toNat < n - (k : Int).toNat; omega⟩
      · obtain rfl : k = n := by omega
        have hR := fun w2 => one_cls r HS0.out w2
        have HR2 := Lib.hid hR
        cases hl : lt32 (left1V za zb k) (some 0) with
        | true =>
          have ho : ∀ w2, ((FloatKind.f32).format.order (fres .sub .f32 1065353216 r w2) 0 == some .lt) = true := fun w2 => (ord_lt (hR w2)).trans hl
          have HC : Hid (cutV (left1V za zb k) = cls .f32 0) := Lib.hid (by unfold cutV; rw [hl, if_pos rfl, cls_032])
          clear hR hl
          go_wp2_with (first | (go_at_call 76; refine (root_spec _ _).mono ?_; rintro e w' ⟨l, rfl, hl, n2, rfl⟩; have HL := Lib.hid hl; clear hl) | go_in)
          go_ret2
          exact ⟨_, rfl, HL.out.trans (congrArg rootV HC.out.symm), Drew.mk _ _⟩
        | false =>
          have ho : ∀ w2, ((FloatKind.f32).format.order (fres .sub .f32 1065353216 r w2) 0 == some .lt) = false := fun w2 => (ord_lt (hR w2)).trans hl
          have HC : Hid (cutV (left1V za zb k) = left1V za zb k) := Lib.hid (by unfold cutV; rw [hl]; rfl)
          clear hR hl
          go_wp2_with (first | (go_at_call 76; refine (root_spec _ _).mono ?_; rintro e w' ⟨l, rfl, hl, n2, rfl⟩; have HL := Lib.hid hl; clear hl) | go_in)
          go_ret2
          exact ⟨_, rfl, HL.out.trans (congrArg rootV ((HR2.out _).trans HC.out.symm)), Drew.mk _ _⟩
set_option maxRecDepth 100000 in
set_option maxHeartbeats 1000000 in
theorem trt1 (k x : Nat) (b : Option Addr) (n capb : Nat) (za zb : List Nat) (p : Nat) (w : World) (hx : x = za.getD k 0) (_hz : zeroB (za.getD k 0) = false) (hk : k < n) (hb : FRow w b n zb) (hp : w.cell? ⟨p, 0, none⟩ = some (.slice b n capb)) (_hca : chS za n = true) (_hcb : chS zb n = true) (_hn : n ≤ 32) :
    Calls Try.prog 77 #[.int .i64 k, .float .f32 x, .pointer (some ⟨p, 0, none⟩)] w fun e w' => ∃ r, e = .returned (.float .f32 r) ∧ cls .f32 r = rtT za zb k ∧ Drew w w' := by
  have HT : Hid (∀ w2, rootV (cls .f32 (fres .mul .f32 x (zb.getD k 0) w2)) = rtT za zb k) := Lib.hid (fun w2 => by rw [fres_cls, hx]; rfl)
  obtain ⟨b2, o2, rfl, hck2⟩ := hb.cell hk
  clear hx hb
  generalize zb.getD k 0 = y at hck2 HT
  go_enter Try.func77, Try.ntmps77
  go_wp2_with (first | (go_at_call 78; refine (root_impl _ _).mono ?_; rintro e w' ⟨r, rfl, hr, n2, rfl⟩; have Hr := Lib.hid hr; clear hr) | go_in)
  go_ret
  exact ⟨_, rfl, Hr.out.trans (HT.out _), Drew.mk _ _⟩
set_option maxRecDepth 100000 in
set_option maxHeartbeats 2000000 in
theorem trt (a b : Option Addr) (n cap capb : Nat) (za zb : List Nat) (p : Nat) (w : World) (ha : FRow w a n za) (hb : FRow w b n zb) (hp : w.cell? ⟨p, 0, none⟩ = some (.slice b n capb)) (hca : chS za n = true) (hcb : chS zb n = true) (hn : n ≤ 32) :
    Calls Try.prog 68 #[.slice a n cap, .func (.func 77) #[] #[.pointer (some ⟨p, 0, none⟩)]] w fun e w' => ∃ r, e = .returned (.float .f32 r) ∧ cls .f32 r = vterms za (rtT za zb) n ∧ Drew w w' := by
  have HA := Lib.hid ha
  have HB := Lib.hid hb
  have HCA := Lib.hid hca
  have HCB := Lib.hid hcb
  clear ha hb hca hcb
  go_enter Try.func68, Try.ntmps68
  go_wp2
  go_loopw [5, 10] (fun sv iv w' => ∃ k q r : Nat, k ≤ n ∧ sv = .float .f32 r ∧ Hid (cls .f32 r = vterms za (rtT za zb) k) ∧ iv = .int .i64 k ∧ w' = w.drewN q) (fun _ iv _ => n - (intOf iv).toNat)
  case atStart => exact ⟨0, 0, 0, by omega, rfl, Lib.hid rfl, rfl, rfl⟩
  case round =>
    obtain ⟨k, q, r, hk, rfl, HR, rfl, rfl⟩ := hrel
    by_cases hlt : k < n
    · obtain ⟨b1, o1, rfl, hck1⟩ := HA.out.cell hlt
      obtain ⟨s, mm, i, hd, hs, _⟩ := ch_each HCA.out hlt
      rcases num_order _ hd hs with ⟨_, ho⟩ | ⟨_, _, ho⟩
      · have HS : Hid (vterms za (rtT za zb) (k + 1) = vterms za (rtT za zb) k) := Lib.hid (by show (if _ then _ else _) = _; rw [if_pos (by unfold zeroB; rw [ho]; rfl)])
        clear hd hs
        generalize za.getD k 0 = x at hck1 ho
        clear HA
        go_wp2
        exact ⟨⟨k + 1, _, _, by omega, rfl, Lib.hid (HR.out.trans HS.out.symm), by first | rfl | go_num | (congr 1), rfl⟩, by show n - ((k : Int) + 1).toNat < n - (k : Int).toNat; omega⟩
      · have HZ : Hid (zeroB (za.getD k 0) = false) := Lib.hid (by unfold zeroB; rw [ho]; rfl)
        have HS : Hid (∀ {l : Nat} {w3 : World}, cls .f32 l = rtT za zb k → cls .f32 (fres .add .f32 r l w3) = vterms za (rtT za zb) (k + 1)) := Lib.hid (fun hl => by
          show _ = (if _ then _ else _)
          rw [if_neg (by unfold zeroB; rw [ho]; decide), fres_cls, HR.out, hl])
        clear hd hs
        have HX := Lib.hid (rfl : za.getD k 0 = za.getD k 0)
        generalize hxx : za.getD k 0 = x at hck1 ho
        have HXX := Lib.hid hxx
        clear hxx
        go_wp2_with (first | (go_at_call 77; refine (trt1 k x b n capb za zb p _ HXX.out.symm HZ.out hlt (HB.out.drewN _) hp HCA.out HCB.out hn).mono ?_; rintro e w' ⟨l, rfl, hl, n2, rfl⟩; have HL := Lib.hid hl; clear hl) | go_in)
        exact ⟨⟨k + 1, _, _, by omega, rfl, Lib.hid (HS.out HL.out), by first | rfl | go_num | (congr 1), rfl⟩, by show n - ((k : Int) + 1).toNat < n - (k : Int).toNat; omega⟩
    · obtain rfl : k = n := by omega
      go_wp2
      go_ret
      exact ⟨_, rfl, HR.out, Drew.mk _ _⟩
theorem max_lt (P : Program) {b : Nat} (h : (FloatKind.f32).format.order b 0 = some .lt) : ∀ ts t w, (Builtin.max_ ts t #[.float .f32 b, .float .f32 0]).run P w = .ok (.float .f32 0) w := fun ts t w => by
  simp [Builtin.max_, Builtin.max2, h]
theorem max_gt (P : Program) {b : Nat} (h : (FloatKind.f32).format.order b 0 = some .gt) : ∀ ts t w, (Builtin.max_ ts t #[.float .f32 b, .float .f32 0]).run P w = .ok (.float .f32 b) w := fun ts t w => by
  simp [Builtin.max_, Builtin.max2, h]
theorem max_00 (P : Program) : ∀ ts t w, (Builtin.max_ ts t #[.float .f32 0, .float .f32 0]).run P w = .ok (.float .f32 0) w := fun ts t w => by
  have h : (FloatKind.f32).format.order 0 0 = some .eq := by decide +kernel
  simp [Builtin.max_, Builtin.max2, h]
set_option maxRecDepth 100000 in
set_option maxHeartbeats 2000000 in
theorem rfI (a b : Option Addr) (n m cap capb : Nat) (za zb : List Nat) (w : World) (ha : FRow w a n za) (hb : FRow w b m zb) (hn : n ≤ 1048576) (hm : m ≤ 1048576) :
    Calls Try.prog 32 #[.slice a n cap, .slice b m capb] w fun e w' => ∃ r, e = .returned (.tuple #[.float .f32 r, .bool (twoB za zb n m)]) ∧ cls .f32 r = ansV (twoB za zb n m) (rfV za zb n) ∧ Below w.heap.size w w' := by
  have HA := Lib.hid (ha.alloc (.cells #[.slice b m capb] 23))
  have HB := Lib.hid (hb.alloc (.cells #[.slice b m capb] 23))
  have HW : Hid (Below w.heap.size w (w.alloc (.cells #[.slice b m capb] 23))) := Lib.hid ((Below.refl _ _).alloc (Nat.le_refl _) _)
  have hmf : ∀ (fn : Fn) (first cap : Array Value) (w : World), (Instr.makeFunc fn first cap).run Try.prog w = .ok (.func fn first cap) w := fun _ _ _ _ => rfl
  have hcl : (w.alloc (.cells #[.slice b m capb] 23)).cell? ⟨w.heap.size, 0, none⟩ = some (.slice b m capb) := by
    rw [World.cell?_alloc_at _ _ _ _ rfl]; rfl
  clear ha hb
  cases h1 : twoB za zb n m with
  | false =>
    have HR := Lib.hid h1
    go_enter Try.func32, Try.ntmps32
    go_wp2_with (first | (go_at_call 73; refine (two_impl _ _ _ _ _ _ za zb _ HA.out HB.out hn hm).mono ?_; rintro e w' ⟨rfl, q1, rfl⟩) | go_in)
    go_ret2
    exact ⟨0, rfl, rfl, Below.drewN' HW.out _⟩
  | true =>
    have HR := Lib.hid h1
    obtain ⟨rfl, hn32, hca, hcb, _, _⟩ := two_out h1
    have HCA := Lib.hid hca
    have HCB := Lib.hid hcb
    obtain ⟨hwp, hvt⟩ := vall_pos hca hcb n (Nat.le_refl _)
    have HVT := Lib.hid hvt
    obtain ⟨bb, hbb, hord⟩ := rest_one hwp
    have HREST : Hid (∀ (r : Nat) (w2 : World), cls .f32 r = vterms za (rtT za zb) n → fres .sub .f32 1065353216 r w2 = bb) := Lib.hid (fun r w2 h => by
      have := one_cls r (h.trans hvt) w2
      rw [hbb] at this
      exact (cls_some this).1)
    have HRV : Hid (left1V za zb n = some bb) := Lib.hid hbb
    have hcbb : cls .f32 bb = some bb := vop_some hbb
    clear hca hcb hvt hwp hbb
    rcases hord with ho | ho | rfl
    · have hmx := max_lt Try.prog ho
      have HC : Hid (rfV za zb n = rootV (cls .f32 0)) := Lib.hid (by
        unfold rfV cutV
        rw [HRV.out, ← hcbb, ← ord_lt rfl, ho, ← cls_032]; rfl)
      clear ho hcbb
      go_enter Try.func32, Try.ntmps32
      go_wp2_with (first | (go_at_call 73; refine (two_impl _ _ _ _ _ _ za zb _ HA.out HB.out hn hm).mono ?_; rintro e w' ⟨rfl, q1, rfl⟩) | (go_at_call 68; refine (trt _ b n _ capb za zb _ _ (HA.out.drewN _) (HB.out.drewN _) hcl HCA.out HCB.out hn32).mono ?_; rintro e w' ⟨r, rfl, hr, n2, rfl⟩; have hsub := fun w2 => HREST.out r w2 hr; clear hr) | (go_at_call 78; refine (root_impl _ _).mono ?_; rintro e w' ⟨r, rfl, hr, n2, rfl⟩; have Hr := Lib.hid hr; clear hr) | go_in)
      go_ret2
      exact ⟨_, rfl, Hr.out.trans HC.out.symm, Below.drewN' HW.out _⟩
    · have hmx := max_gt Try.prog ho
      have HC : Hid (rfV za zb n = rootV (cls .f32 bb)) := Lib.hid (by
        unfold rfV cutV
        rw [HRV.out, ← hcbb, ← ord_lt rfl, ho, ← cls_032]; rfl)
      clear ho hcbb
      go_enter Try.func32, Try.ntmps32
      go_wp2_with (first | (go_at_call 73; refine (two_impl _ _ _ _ _ _ za zb _ HA.out HB.out hn hm).mono ?_; rintro e w' ⟨rfl, q1, rfl⟩) | (go_at_call 68; refine (trt _ b n _ capb za zb _ _ (HA.out.drewN _) (HB.out.drewN _) hcl HCA.out HCB.out hn32).mono ?_; rintro e w' ⟨r, rfl, hr, n2, rfl⟩; have hsub := fun w2 => HREST.out r w2 hr; clear hr) | (go_at_call 78; refine (root_impl _ _).mono ?_; rintro e w' ⟨r, rfl, hr, n2, rfl⟩; have Hr := Lib.hid hr; clear hr) | go_in)
      go_ret2
      exact ⟨_, rfl, Hr.out.trans HC.out.symm, Below.drewN' HW.out _⟩
    · have hmx := max_00 Try.prog
      have HC : Hid (rfV za zb n = rootV (cls .f32 0)) := Lib.hid (by
        unfold rfV cutV
        rw [HRV.out, ← cls_032]
        have : lt32 (cls .f32 0) (cls .f32 0) = false := by decide +kernel
        rw [this]; rfl)
      clear hcbb
      go_enter Try.func32, Try.ntmps32
      go_wp2_with (first | (go_at_call 73; refine (two_impl _ _ _ _ _ _ za zb _ HA.out HB.out hn hm).mono ?_; rintro e w' ⟨rfl, q1, rfl⟩) | (go_at_call 68; refine (trt _ b n _ capb za zb _ _ (HA.out.drewN _) (HB.out.drewN _) hcl HCA.out HCB.out hn32).mono ?_; rintro e w' ⟨r, rfl, hr, n2, rfl⟩; have hsub := fun w2 => HREST.out r w2 hr; clear hr) | (go_at_call 78; refine (root_impl _ _).mono ?_; rintro e w' ⟨r, rfl, hr, n2, rfl⟩; have Hr := Lib.hid hr; clear hr) | go_in)
      go_ret2
      exact ⟨_, rfl, Hr.out.trans HC.out.symm, Below.drewN' HW.out _⟩
set_option maxRecDepth 100000 in
set_option maxHeartbeats 4000000 in
theorem rf_walk (a : Option Addr) (n capa : Nat) (za : List Nat) (b : Option Addr) (m capb : Nat) (zb : List Nat) (w : World) (ha : FRow w a n za) (hb : FRow w b m zb) :
    Calls Try.prog 7 #[.slice a n capa, .slice b m capb] w fun e w' => e = .returned (.bool true) ∧ Below w.heap.size w w' := by
  by_cases hma : n ≤ 1048576
  · have hd : decide (1048576 < (n : Int)) = false := by simp; omega
    by_cases hmb : m ≤ 1048576
    · have hd2 : decide (1048576 < (m : Int)) = false := by simp; omega
      have HL : Hid (Live w [(a, n, za), (b, m, zb)]) := Lib.hid (((Live.nil _).cons hb).cons ha)
      have HB : Hid (Below w.heap.size w w) := Lib.hid (Below.refl _ _)
      clear ha hb
      go_enter Try.func7, Try.ntmps7
      go_wp2_with (first | (go_at_call 26; (with_reducible refine (toL a n capa za _ _ HL.out ?_ hma).mono ?_); (next => simp); rintro e w2 ⟨p, rfl, hl, hb⟩; have HL := Lib.hid hl; have HB := Lib.hid (Below.next HB.out hb); clear hl hb) | (go_at_call 26; (with_reducible refine (toL a n capa za _ _ (HL.out.drewN _) ?_ hma).mono ?_); (next => simp); rintro e w2 ⟨p, rfl, hl, hb⟩; have HL := Lib.hid hl; have HB := Lib.hid (Below.next HB.out (Below.ofDrewN hb)); clear hl hb) | (go_at_call 26; (with_reducible refine (toL b m capb zb _ _ HL.out ?_ hmb).mono ?_); (next => simp); rintro e w2 ⟨p, rfl, hl, hb⟩; have HL := Lib.hid hl; have HB := Lib.hid (Below.next HB.out hb); clear hl hb) | (go_at_call 26; (with_reducible refine (toL b m capb zb _ _ (HL.out.drewN _) ?_ hmb).mono ?_); (next => simp); rintro e w2 ⟨p, rfl, hl, hb⟩; have HL := Lib.hid hl; have HB := Lib.hid (Below.next HB.out (Below.ofDrewN hb)); clear hl hb) | (go_at_call 31; refine (rfS _ _ _ _ _ _ za zb _ ?_ ?_ hma hmb).mono ?_; (next => (refine HL.out.get ?_; simp)); (next => (refine HL.out.get ?_; simp)); rintro e w2 ⟨r, rfl, hr, d⟩; have Hr := Lib.hid hr; clear hr; have HL := Lib.hid (HL.out.below d.below); have HB := Lib.hid (Below.next HB.out d.below); clear d) | (go_at_call 32; refine (rfI _ _ _ _ _ _ za zb _ ?_ ?_ hma hmb).mono ?_; (next => (refine HL.out.get ?_; simp)); (next => (refine HL.out.get ?_; simp)); rintro e w2 ⟨r2, rfl, hr, d⟩; have Hr2 := Lib.hid hr; clear hr; have HL := Lib.hid (HL.out.below d); have HB := Lib.hid (Below.next HB.out d); clear d) | (go_at_call 28; refine (sameFloat_true _ _ (by rw [cres_wide, cres_wide, Hr.out, Hr2.out]) _).mono ?_; rintro e w2 ⟨rfl, n3, rfl⟩) | (go_at_call 18; (with_reducible refine (eqL _ _ n _ _ za _ _ HL.out ?_ ?_ hma).mono ?_); (next => simp); (next => simp); rintro e w2 ⟨rfl, hl, hb⟩; have HL := Lib.hid hl; have HB := Lib.hid (Below.next HB.out hb); clear hl hb) | (go_at_call 18; (with_reducible refine (eqL _ _ n _ _ za _ _ (HL.out.drewN _) ?_ ?_ hma).mono ?_); (next => simp); (next => simp); rintro e w2 ⟨rfl, hl, hb⟩; have HL := Lib.hid hl; have HB := Lib.hid (Below.next HB.out (Below.ofDrewN hb)); clear hl hb) | (go_at_call 18; (with_reducible refine (eqL _ _ m _ _ zb _ _ HL.out ?_ ?_ hmb).mono ?_); (next => simp); (next => simp); rintro e w2 ⟨rfl, hl, hb⟩; have HL := Lib.hid hl; have HB := Lib.hid (Below.next HB.out hb); clear hl hb) | (go_at_call 18; (with_reducible refine (eqL _ _ m _ _ zb _ _ (HL.out.drewN _) ?_ ?_ hmb).mono ?_); (next => simp); (next => simp); rintro e w2 ⟨rfl, hl, hb⟩; have HL := Lib.hid hl; have HB := Lib.hid (Below.next HB.out (Below.ofDrewN hb)); clear hl hb) | go_in)
      go_ret
      first | exact ⟨rfl, HB.out⟩ | exact ⟨rfl, Below.drewN' HB.out _⟩
    · go_enter Try.func7, Try.ntmps7
      go_wp2
      go_ret
      exact ⟨rfl, Below.refl _ _⟩
  · go_enter Try.func7, Try.ntmps7
    go_wp2
    go_ret
    exact ⟨rfl, Below.refl _ _⟩
end Go.Proofs.Ytkllihdfafomnaa
