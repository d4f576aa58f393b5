
/- SameDesk: the functions. -/
import Derived.Test.YtdmdgkjmecgpeaaDkv
import Derived.Test.YtdmdgkjmecgpeaaSpy
import Derived.Test.YtdmdgkjmecgpeaaSme
namespace Go.Proofs.Ytdmdgkjmecgpeaa
open Go.Proofs.Ytdmdgkjmecgpeaa.Flo Go.RowKit Go.Proofs.Ytdmdgkjmecgpeaa.Pr

set_option maxRecDepth 100000 in
set_option maxHeartbeats 4000000 in
theorem sm6d (r : Int) (a : Option Addr) (n cap : Nat) (zs : List Int) (q : Int) (b : Option Addr) (m capb : Nat) (ys : List Int) (w : World) (s t : Nat) (ha : IRow w a n zs) (hb : IRow w b m ys) (hn : n ≤ 1048576) (hm : m ≤ 1048576) (hs0 : w.cell? ⟨s, 2, none⟩ = some (.int .i64 r)) (hs1 : w.cell? ⟨s, 3, none⟩ = some (.slice a n cap)) (ht0 : w.cell? ⟨t, 2, none⟩ = some (.int .i64 q)) (ht1 : w.cell? ⟨t, 3, none⟩ = some (.slice b m capb)) :
    Calls Try.prog 77 #[.pointer (some ⟨s, 2, none⟩), .pointer (some ⟨t, 2, none⟩)] w fun e w' => e = .returned (.bool (skB r q zs ys n m)) ∧ Drew w w' := by
  have HA := Lib.hid ha
  have HB := Lib.hid hb
  clear ha hb
  by_cases hr : r = q
  · subst hr
    have HF := Lib.hid (sk_yes (zs := zs) (ys := ys) (n := n) (m := m) r)
    have hnn : (r == r) = true := by simp
    go_enter Try.func77, Try.ntmps77
    go_wp2
    go_quiet ((go_at_call 76; exact Calls.quiet_of (el_spec _ _ n m _ _ zs ys _ (HA.out.drewN _) (HB.out.drewN _) hn hm)))
    go_wp2
    go_ret
    exact ⟨ret_bool2 HF.out.symm, by first | exact Drew.mk _ _ | exact ⟨_, rfl⟩⟩
  · have HF := Lib.hid (sk_no (zs := zs) (ys := ys) (n := n) (m := m) hr)
    have hnn : (r == q) = false := by simpa using hr
    go_enter Try.func77, Try.ntmps77
    go_wp2
    go_quiet (fail)
    go_wp2
    go_ret
    exact ⟨ret_bool2 HF.out.symm, by first | exact Drew.mk _ _ | exact ⟨_, rfl⟩⟩
set_option maxHeartbeats 2000000 in
theorem scd_impl (a : Option Addr) (n cap : Nat) (zs : List Int) (b : Option Addr) (m capb : Nat) (ys : List Int) (w : World) (ha : IRow w a n zs) (hb : IRow w b m ys) (hn : n ≤ 1048576) (hm : m ≤ 1048576) :
    Calls Try.prog 80 #[.agg #[.slice a n cap], .agg #[.slice b m capb]] w fun e w' => e = .returned (.bool (eqLB zs ys n m)) ∧ Below w.heap.size w w' := by
  have HA := Lib.hid ((ha.alloc (.cells #[.slice a n cap] 32)).alloc (.cells #[.slice b m capb] 32))
  have HB := Lib.hid ((hb.alloc (.cells #[.slice a n cap] 32)).alloc (.cells #[.slice b m capb] 32))
  clear ha hb
  go_enter Try.func80, Try.ntmps80
  go_wp2_with (first | (go_at_call 157; refine (el_impl _ _ n m _ _ zs ys _ HA.out HB.out hn hm).mono ?_; rintro e w' ⟨rfl, q, rfl⟩) | go_in)
  go_ret
  exact ⟨rfl, Below.drewN' (Below.alloc (belowA _ _) (by simp) _) _⟩
def dsB (z1 y1 : List Nat) (n1 m1 : Nat) (z2 y2 : List Int) (n2 m2 : Nat) (r q : Int) (z3 y3 : List Int) (n3 m3 : Nat) (s t : ByteArray) : Bool := sameAllB z1 y1 n1 m1 && (eqLB z2 y2 n2 m2 && (skB r q z3 y3 n3 m3 && (s.toList == t.toList)))
set_option maxRecDepth 100000 in
set_option maxHeartbeats 4000000 in
theorem ds_spec (a1 : Option Addr) (n1 c1 : Nat) (z1 : List Nat) (a2 : Option Addr) (n2 c2 : Nat) (z2 : List Int) (r : Int) (a3 : Option Addr) (n3 c3 : Nat) (z3 : List Int) (s : ByteArray) (b1 : Option Addr) (m1 d1 : Nat) (y1 : List Nat) (b2 : Option Addr) (m2 d2 : Nat) (y2 : List Int) (q : Int) (b3 : Option Addr) (m3 d3 : Nat) (y3 : List Int) (t : ByteArray) (w : World) (h : DkIn w a1 n1 z1 a2 n2 z2 a3 n3 z3 s) (g : DkIn w b1 m1 y1 b2 m2 y2 b3 m3 y3 t) (wa : Wf z1 n1) (wb : Wf y1 m1) :
    Calls Try.prog 18 #[.agg #[.slice a1 n1 c1, .slice a2 n2 c2, .int .i64 r, .slice a3 n3 c3, .string s], .agg #[.slice b1 m1 d1, .slice b2 m2 d2, .int .i64 q, .slice b3 m3 d3, .string t]] w fun e w' => e = .returned (.bool (dsB z1 y1 n1 m1 z2 y2 n2 m2 r q z3 y3 n3 m3 s t)) ∧ Below w.heap.size w w' := by
  have HR1 := Lib.hid (fun W (h1 : Below w.heap.size w W) (hA : Din W w.heap.size (.slice a1 n1 c1) (.slice a2 n2 c2) (.int .i64 r) (.slice a3 n3 c3) (.string s)) (hB : Din W (w.heap.size + 1) (.slice b1 m1 d1) (.slice b2 m2 d2) (.int .i64 q) (.slice b3 m3 d3) (.string t)) => (all_spec a1 b1 n1 m1 c1 d1 z1 y1 W (h.f1.below h1) (g.f1.below h1) wa wb h.l1 g.l1).mono (fun e w' k => (⟨k.1, k.2.below⟩ : e = .returned (.bool (sameAllB z1 y1 n1 m1)) ∧ Below W.heap.size W w')))
  have HR2 := Lib.hid (fun W (h1 : Below w.heap.size w W) (hA : Din W w.heap.size (.slice a1 n1 c1) (.slice a2 n2 c2) (.int .i64 r) (.slice a3 n3 c3) (.string s)) (hB : Din W (w.heap.size + 1) (.slice b1 m1 d1) (.slice b2 m2 d2) (.int .i64 q) (.slice b3 m3 d3) (.string t)) => (el_spec a2 b2 n2 m2 c2 d2 z2 y2 W (h.i2.below h1) (g.i2.below h1) h.l2 g.l2).mono (fun e w' k => (⟨k.1, k.2.below⟩ : e = .returned (.bool (eqLB z2 y2 n2 m2)) ∧ Below W.heap.size W w')))
  have HR3 := Lib.hid (fun W (h1 : Below w.heap.size w W) (hA : Din W w.heap.size (.slice a1 n1 c1) (.slice a2 n2 c2) (.int .i64 r) (.slice a3 n3 c3) (.string s)) (hB : Din W (w.heap.size + 1) (.slice b1 m1 d1) (.slice b2 m2 d2) (.int .i64 q) (.slice b3 m3 d3) (.string t)) => (sm6d r a3 n3 c3 z3 q b3 m3 d3 y3 W w.heap.size (w.heap.size + 1) (h.i3.below h1) (g.i3.below h1) h.l3 g.l3 hA.2.2.2.1 hA.2.2.2.2.1 hB.2.2.2.1 hB.2.2.2.2.1).mono (fun e w' k => (⟨k.1, k.2.below⟩ : e = .returned (.bool (skB r q z3 y3 n3 m3)) ∧ Below W.heap.size W w')))
  have e1 : (w.alloc (.cells #[.slice a1 n1 c1, .slice a2 n2 c2, .int .i64 r, .slice a3 n3 c3, .string s] 35)).heap.size = w.heap.size + 1 := by simp
  have HDA := Lib.hid ((Din.new w (.slice a1 n1 c1) (.slice a2 n2 c2) (.int .i64 r) (.slice a3 n3 c3) (.string s) 35).below (belowA _ (.cells #[.slice b1 m1 d1, .slice b2 m2 d2, .int .i64 q, .slice b3 m3 d3, .string t] 35)))
  have hdb := Din.new (w.alloc (.cells #[.slice a1 n1 c1, .slice a2 n2 c2, .int .i64 r, .slice a3 n3 c3, .string s] 35)) (.slice b1 m1 d1) (.slice b2 m2 d2) (.int .i64 q) (.slice b3 m3 d3) (.string t) 35
  rw [e1] at hdb
  have HDB := Lib.hid hdb
  have HW := Lib.hid (Below.next (belowA w (.cells #[.slice a1 n1 c1, .slice a2 n2 c2, .int .i64 r, .slice a3 n3 c3, .string s] 35)) (belowA _ (.cells #[.slice b1 m1 d1, .slice b2 m2 d2, .int .i64 q, .slice b3 m3 d3, .string t] 35)))
  clear e1 hdb
  unfold dsB
  generalize sameAllB z1 y1 n1 m1 = x1 at HR1 ⊢
  generalize eqLB z2 y2 n2 m2 = x2 at HR2 ⊢
  generalize skB r q z3 y3 n3 m3 = x3 at HR3 ⊢
  clear h g wa wb
  obtain ⟨x4, hx4⟩ : ∃ x4, (s.toList == t.toList) = x4 := ⟨_, rfl⟩
  rw [hx4]
  cases x1
  · skip
    go_enter Try.func18, Try.ntmps18
    go_wp2_with (first | (go_at_call 75; refine (HR1.out _ HW.out HDA.out HDB.out).mono ?_; rintro e w2 ⟨rfl, hb⟩; have HW := Lib.hid (Below.next HW.out hb); have HDA := Lib.hid (HDA.out.below hb); have HDB := Lib.hid (HDB.out.below hb); obtain ⟨hl9, j0, j1, j2, j3, j4⟩ := HDA.out; obtain ⟨hl8, i0, i1, i2, i3, i4⟩ := HDB.out; clear hb) | (go_at_call 76; refine (HR2.out _ HW.out HDA.out HDB.out).mono ?_; rintro e w2 ⟨rfl, hb⟩; have HW := Lib.hid (Below.next HW.out hb); have HDA := Lib.hid (HDA.out.below hb); have HDB := Lib.hid (HDB.out.below hb); obtain ⟨hl9, j0, j1, j2, j3, j4⟩ := HDA.out; obtain ⟨hl8, i0, i1, i2, i3, i4⟩ := HDB.out; clear hb) | (go_at_call 77; refine (HR3.out _ HW.out HDA.out HDB.out).mono ?_; rintro e w2 ⟨rfl, hb⟩; have HW := Lib.hid (Below.next HW.out hb); have HDA := Lib.hid (HDA.out.below hb); have HDB := Lib.hid (HDB.out.below hb); obtain ⟨hl9, j0, j1, j2, j3, j4⟩ := HDA.out; obtain ⟨hl8, i0, i1, i2, i3, i4⟩ := HDB.out; clear hb) | fail)
    go_ret
    exact ⟨by simp, HW.out⟩
  · skip
    cases x2
    · skip
      go_enter Try.func18, Try.ntmps18
      go_wp2_with (first | (go_at_call 75; refine (HR1.out _ HW.out HDA.out HDB.out).mono ?_; rintro e w2 ⟨rfl, hb⟩; have HW := Lib.hid (Below.next HW.out hb); have HDA := Lib.hid (HDA.out.below hb); have HDB := Lib.hid (HDB.out.below hb); obtain ⟨hl9, j0, j1, j2, j3, j4⟩ := HDA.out; obtain ⟨hl8, i0, i1, i2, i3, i4⟩ := HDB.out; clear hb) | (go_at_call 76; refine (HR2.out _ HW.out HDA.out HDB.out).mono ?_; rintro e w2 ⟨rfl, hb⟩; have HW := Lib.hid (Below.next HW.out hb); have HDA := Lib.hid (HDA.out.below hb); have HDB := Lib.hid (HDB.out.below hb); obtain ⟨hl9, j0, j1, j2, j3, j4⟩ := HDA.out; obtain ⟨hl8, i0, i1, i2, i3, i4⟩ := HDB.out; clear hb) | (go_at_call 77; refine (HR3.out _ HW.out HDA.out HDB.out).mono ?_; rintro e w2 ⟨rfl, hb⟩; have HW := Lib.hid (Below.next HW.out hb); have HDA := Lib.hid (HDA.out.below hb); have HDB := Lib.hid (HDB.out.below hb); obtain ⟨hl9, j0, j1, j2, j3, j4⟩ := HDA.out; obtain ⟨hl8, i0, i1, i2, i3, i4⟩ := HDB.out; clear hb) | fail)
      go_ret
      exact ⟨by simp, HW.out⟩
    · skip
      cases x3
      · skip
        go_enter Try.func18, Try.ntmps18
        go_wp2_with (first | (go_at_call 75; refine (HR1.out _ HW.out HDA.out HDB.out).mono ?_; rintro e w2 ⟨rfl, hb⟩; have HW := Lib.hid (Below.next HW.out hb); have HDA := Lib.hid (HDA.out.below hb); have HDB := Lib.hid (HDB.out.below hb); obtain ⟨hl9, j0, j1, j2, j3, j4⟩ := HDA.out; obtain ⟨hl8, i0, i1, i2, i3, i4⟩ := HDB.out; clear hb) | (go_at_call 76; refine (HR2.out _ HW.out HDA.out HDB.out).mono ?_; rintro e w2 ⟨rfl, hb⟩; have HW := Lib.hid (Below.next HW.out hb); have HDA := Lib.hid (HDA.out.below hb); have HDB := Lib.hid (HDB.out.below hb); obtain ⟨hl9, j0, j1, j2, j3, j4⟩ := HDA.out; obtain ⟨hl8, i0, i1, i2, i3, i4⟩ := HDB.out; clear hb) | (go_at_call 77; refine (HR3.out _ HW.out HDA.out HDB.out).mono ?_; rintro e w2 ⟨rfl, hb⟩; have HW := Lib.hid (Below.next HW.out hb); have HDA := Lib.hid (HDA.out.below hb); have HDB := Lib.hid (HDB.out.below hb); obtain ⟨hl9, j0, j1, j2, j3, j4⟩ := HDA.out; obtain ⟨hl8, i0, i1, i2, i3, i4⟩ := HDB.out; clear hb) | fail)
        go_ret
        exact ⟨by simp, HW.out⟩
      · skip
        cases x4
        · skip
          go_enter Try.func18, Try.ntmps18
          go_wp2_with (first | (go_at_call 75; refine (HR1.out _ HW.out HDA.out HDB.out).mono ?_; rintro e w2 ⟨rfl, hb⟩; have HW := Lib.hid (Below.next HW.out hb); have HDA := Lib.hid (HDA.out.below hb); have HDB := Lib.hid (HDB.out.below hb); obtain ⟨hl9, j0, j1, j2, j3, j4⟩ := HDA.out; obtain ⟨hl8, i0, i1, i2, i3, i4⟩ := HDB.out; clear hb) | (go_at_call 76; refine (HR2.out _ HW.out HDA.out HDB.out).mono ?_; rintro e w2 ⟨rfl, hb⟩; have HW := Lib.hid (Below.next HW.out hb); have HDA := Lib.hid (HDA.out.below hb); have HDB := Lib.hid (HDB.out.below hb); obtain ⟨hl9, j0, j1, j2, j3, j4⟩ := HDA.out; obtain ⟨hl8, i0, i1, i2, i3, i4⟩ := HDB.out; clear hb) | (go_at_call 77; refine (HR3.out _ HW.out HDA.out HDB.out).mono ?_; rintro e w2 ⟨rfl, hb⟩; have HW := Lib.hid (Below.next HW.out hb); have HDA := Lib.hid (HDA.out.below hb); have HDB := Lib.hid (HDB.out.below hb); obtain ⟨hl9, j0, j1, j2, j3, j4⟩ := HDA.out; obtain ⟨hl8, i0, i1, i2, i3, i4⟩ := HDB.out; clear hb) | fail)
          go_ret
          exact ⟨by simp, HW.out⟩
        · skip
          go_enter Try.func18, Try.ntmps18
          go_wp2_with (first | (go_at_call 75; refine (HR1.out _ HW.out HDA.out HDB.out).mono ?_; rintro e w2 ⟨rfl, hb⟩; have HW := Lib.hid (Below.next HW.out hb); have HDA := Lib.hid (HDA.out.below hb); have HDB := Lib.hid (HDB.out.below hb); obtain ⟨hl9, j0, j1, j2, j3, j4⟩ := HDA.out; obtain ⟨hl8, i0, i1, i2, i3, i4⟩ := HDB.out; clear hb) | (go_at_call 76; refine (HR2.out _ HW.out HDA.out HDB.out).mono ?_; rintro e w2 ⟨rfl, hb⟩; have HW := Lib.hid (Below.next HW.out hb); have HDA := Lib.hid (HDA.out.below hb); have HDB := Lib.hid (HDB.out.below hb); obtain ⟨hl9, j0, j1, j2, j3, j4⟩ := HDA.out; obtain ⟨hl8, i0, i1, i2, i3, i4⟩ := HDB.out; clear hb) | (go_at_call 77; refine (HR3.out _ HW.out HDA.out HDB.out).mono ?_; rintro e w2 ⟨rfl, hb⟩; have HW := Lib.hid (Below.next HW.out hb); have HDA := Lib.hid (HDA.out.below hb); have HDB := Lib.hid (HDB.out.below hb); obtain ⟨hl9, j0, j1, j2, j3, j4⟩ := HDA.out; obtain ⟨hl8, i0, i1, i2, i3, i4⟩ := HDB.out; clear hb) | fail)
          go_ret
          exact ⟨by simp, HW.out⟩
set_option maxRecDepth 100000 in
set_option maxHeartbeats 4000000 in
theorem ds_impl (a1 : Option Addr) (n1 c1 : Nat) (z1 : List Nat) (a2 : Option Addr) (n2 c2 : Nat) (z2 : List Int) (r : Int) (a3 : Option Addr) (n3 c3 : Nat) (z3 : List Int) (s : ByteArray) (b1 : Option Addr) (m1 d1 : Nat) (y1 : List Nat) (b2 : Option Addr) (m2 d2 : Nat) (y2 : List Int) (q : Int) (b3 : Option Addr) (m3 d3 : Nat) (y3 : List Int) (t : ByteArray) (w : World) (h : DkIn w a1 n1 z1 a2 n2 z2 a3 n3 z3 s) (g : DkIn w b1 m1 y1 b2 m2 y2 b3 m3 y3 t) (wa : Wf z1 n1) (wb : Wf y1 m1) :
    Calls Try.prog 19 #[.agg #[.slice a1 n1 c1, .slice a2 n2 c2, .int .i64 r, .slice a3 n3 c3, .string s], .agg #[.slice b1 m1 d1, .slice b2 m2 d2, .int .i64 q, .slice b3 m3 d3, .string t]] w fun e w' => e = .returned (.bool (dsB z1 y1 n1 m1 z2 y2 n2 m2 r q z3 y3 n3 m3 s t)) ∧ Below w.heap.size w w' := by
  have HR1 := Lib.hid (fun W (h1 : Below w.heap.size w W) (hA : Din W w.heap.size (.slice a1 n1 c1) (.slice a2 n2 c2) (.int .i64 r) (.slice a3 n3 c3) (.string s)) (hB : Din W (w.heap.size + 1) (.slice b1 m1 d1) (.slice b2 m2 d2) (.int .i64 q) (.slice b3 m3 d3) (.string t)) => (all_impl a1 b1 n1 m1 c1 d1 z1 y1 W (h.f1.below h1) (g.f1.below h1) wa wb h.l1 g.l1).mono (fun e w' k => (⟨k.1, k.2.below⟩ : e = .returned (.bool (sameAllB z1 y1 n1 m1)) ∧ Below W.heap.size W w')))
  have HR2 := Lib.hid (fun W (h1 : Below w.heap.size w W) (hA : Din W w.heap.size (.slice a1 n1 c1) (.slice a2 n2 c2) (.int .i64 r) (.slice a3 n3 c3) (.string s)) (hB : Din W (w.heap.size + 1) (.slice b1 m1 d1) (.slice b2 m2 d2) (.int .i64 q) (.slice b3 m3 d3) (.string t)) => scd_impl a2 n2 c2 z2 b2 m2 d2 y2 W (h.i2.below h1) (g.i2.below h1) h.l2 g.l2)
  have HR3 := Lib.hid (fun W (h1 : Below w.heap.size w W) (hA : Din W w.heap.size (.slice a1 n1 c1) (.slice a2 n2 c2) (.int .i64 r) (.slice a3 n3 c3) (.string s)) (hB : Din W (w.heap.size + 1) (.slice b1 m1 d1) (.slice b2 m2 d2) (.int .i64 q) (.slice b3 m3 d3) (.string t)) => sy_impl r a3 n3 c3 z3 q b3 m3 d3 y3 W (h.i3.below h1) (g.i3.below h1) h.l3 g.l3)
  have e1 : (w.alloc (.cells #[.slice a1 n1 c1, .slice a2 n2 c2, .int .i64 r, .slice a3 n3 c3, .string s] 35)).heap.size = w.heap.size + 1 := by simp
  have HDA := Lib.hid ((Din.new w (.slice a1 n1 c1) (.slice a2 n2 c2) (.int .i64 r) (.slice a3 n3 c3) (.string s) 35).below (belowA _ (.cells #[.slice b1 m1 d1, .slice b2 m2 d2, .int .i64 q, .slice b3 m3 d3, .string t] 35)))
  have hdb := Din.new (w.alloc (.cells #[.slice a1 n1 c1, .slice a2 n2 c2, .int .i64 r, .slice a3 n3 c3, .string s] 35)) (.slice b1 m1 d1) (.slice b2 m2 d2) (.int .i64 q) (.slice b3 m3 d3) (.string t) 35
  rw [e1] at hdb
  have HDB := Lib.hid hdb
  have HW := Lib.hid (Below.next (belowA w (.cells #[.slice a1 n1 c1, .slice a2 n2 c2, .int .i64 r, .slice a3 n3 c3, .string s] 35)) (belowA _ (.cells #[.slice b1 m1 d1, .slice b2 m2 d2, .int .i64 q, .slice b3 m3 d3, .string t] 35)))
  clear e1 hdb
  unfold dsB
  generalize sameAllB z1 y1 n1 m1 = x1 at HR1 ⊢
  generalize eqLB z2 y2 n2 m2 = x2 at HR2 ⊢
  generalize skB r q z3 y3 n3 m3 = x3 at HR3 ⊢
  clear h g wa wb
  obtain ⟨x4, hx4⟩ : ∃ x4, (s.toList == t.toList) = x4 := ⟨_, rfl⟩
  rw [hx4]
  cases x1
  · skip
    go_enter Try.func19, Try.ntmps19
    go_wp2_with (first | (go_at_call 78; refine (HR1.out _ HW.out HDA.out HDB.out).mono ?_; rintro e w2 ⟨rfl, hb⟩; have HW := Lib.hid (Below.next HW.out hb); have HDA := Lib.hid (HDA.out.below hb); have HDB := Lib.hid (HDB.out.below hb); obtain ⟨hl9, j0, j1, j2, j3, j4⟩ := HDA.out; obtain ⟨hl8, i0, i1, i2, i3, i4⟩ := HDB.out; clear hb) | (go_at_call 80; refine (HR2.out _ HW.out HDA.out HDB.out).mono ?_; rintro e w2 ⟨rfl, hb⟩; have HW := Lib.hid (Below.next HW.out hb); have HDA := Lib.hid (HDA.out.below hb); have HDB := Lib.hid (HDB.out.below hb); obtain ⟨hl9, j0, j1, j2, j3, j4⟩ := HDA.out; obtain ⟨hl8, i0, i1, i2, i3, i4⟩ := HDB.out; clear hb) | (go_at_call 81; refine (HR3.out _ HW.out HDA.out HDB.out).mono ?_; rintro e w2 ⟨rfl, hb⟩; have HW := Lib.hid (Below.next HW.out hb); have HDA := Lib.hid (HDA.out.below hb); have HDB := Lib.hid (HDB.out.below hb); obtain ⟨hl9, j0, j1, j2, j3, j4⟩ := HDA.out; obtain ⟨hl8, i0, i1, i2, i3, i4⟩ := HDB.out; clear hb) | fail)
    go_ret
    exact ⟨by simp, HW.out⟩
  · skip
    cases x2
    · skip
      go_enter Try.func19, Try.ntmps19
      go_wp2_with (first | (go_at_call 78; refine (HR1.out _ HW.out HDA.out HDB.out).mono ?_; rintro e w2 ⟨rfl, hb⟩; have HW := Lib.hid (Below.next HW.out hb); have HDA := Lib.hid (HDA.out.below hb); have HDB := Lib.hid (HDB.out.below hb); obtain ⟨hl9, j0, j1, j2, j3, j4⟩ := HDA.out; obtain ⟨hl8, i0, i1, i2, i3, i4⟩ := HDB.out; clear hb) | (go_at_call 80; refine (HR2.out _ HW.out HDA.out HDB.out).mono ?_; rintro e w2 ⟨rfl, hb⟩; have HW := Lib.hid (Below.next HW.out hb); have HDA := Lib.hid (HDA.out.below hb); have HDB := Lib.hid (HDB.out.below hb); obtain ⟨hl9, j0, j1, j2, j3, j4⟩ := HDA.out; obtain ⟨hl8, i0, i1, i2, i3, i4⟩ := HDB.out; clear hb) | (go_at_call 81; refine (HR3.out _ HW.out HDA.out HDB.out).mono ?_; rintro e w2 ⟨rfl, hb⟩; have HW := Lib.hid (Below.next HW.out hb); have HDA := Lib.hid (HDA.out.below hb); have HDB := Lib.hid (HDB.out.below hb); obtain ⟨hl9, j0, j1, j2, j3, j4⟩ := HDA.out; obtain ⟨hl8, i0, i1, i2, i3, i4⟩ := HDB.out; clear hb) | fail)
      go_ret
      exact ⟨by simp, HW.out⟩
    · skip
      cases x3
      · skip
        go_enter Try.func19, Try.ntmps19
        go_wp2_with (first | (go_at_call 78; refine (HR1.out _ HW.out HDA.out HDB.out).mono ?_; rintro e w2 ⟨rfl, hb⟩; have HW := Lib.hid (Below.next HW.out hb); have HDA := Lib.hid (HDA.out.below hb); have HDB := Lib.hid (HDB.out.below hb); obtain ⟨hl9, j0, j1, j2, j3, j4⟩ := HDA.out; obtain ⟨hl8, i0, i1, i2, i3, i4⟩ := HDB.out; clear hb) | (go_at_call 80; refine (HR2.out _ HW.out HDA.out HDB.out).mono ?_; rintro e w2 ⟨rfl, hb⟩; have HW := Lib.hid (Below.next HW.out hb); have HDA := Lib.hid (HDA.out.below hb); have HDB := Lib.hid (HDB.out.below hb); obtain ⟨hl9, j0, j1, j2, j3, j4⟩ := HDA.out; obtain ⟨hl8, i0, i1, i2, i3, i4⟩ := HDB.out; clear hb) | (go_at_call 81; refine (HR3.out _ HW.out HDA.out HDB.out).mono ?_; rintro e w2 ⟨rfl, hb⟩; have HW := Lib.hid (Below.next HW.out hb); have HDA := Lib.hid (HDA.out.below hb); have HDB := Lib.hid (HDB.out.below hb); obtain ⟨hl9, j0, j1, j2, j3, j4⟩ := HDA.out; obtain ⟨hl8, i0, i1, i2, i3, i4⟩ := HDB.out; clear hb) | fail)
        go_ret
        exact ⟨by simp, HW.out⟩
      · skip
        cases x4
        · skip
          go_enter Try.func19, Try.ntmps19
          go_wp2_with (first | (go_at_call 78; refine (HR1.out _ HW.out HDA.out HDB.out).mono ?_; rintro e w2 ⟨rfl, hb⟩; have HW := Lib.hid (Below.next HW.out hb); have HDA := Lib.hid (HDA.out.below hb); have HDB := Lib.hid (HDB.out.below hb); obtain ⟨hl9, j0, j1, j2, j3, j4⟩ := HDA.out; obtain ⟨hl8, i0, i1, i2, i3, i4⟩ := HDB.out; clear hb) | (go_at_call 80; refine (HR2.out _ HW.out HDA.out HDB.out).mono ?_; rintro e w2 ⟨rfl, hb⟩; have HW := Lib.hid (Below.next HW.out hb); have HDA := Lib.hid (HDA.out.below hb); have HDB := Lib.hid (HDB.out.below hb); obtain ⟨hl9, j0, j1, j2, j3, j4⟩ := HDA.out; obtain ⟨hl8, i0, i1, i2, i3, i4⟩ := HDB.out; clear hb) | (go_at_call 81; refine (HR3.out _ HW.out HDA.out HDB.out).mono ?_; rintro e w2 ⟨rfl, hb⟩; have HW := Lib.hid (Below.next HW.out hb); have HDA := Lib.hid (HDA.out.below hb); have HDB := Lib.hid (HDB.out.below hb); obtain ⟨hl9, j0, j1, j2, j3, j4⟩ := HDA.out; obtain ⟨hl8, i0, i1, i2, i3, i4⟩ := HDB.out; clear hb) | fail)
          go_ret
          exact ⟨by simp, HW.out⟩
        · skip
          go_enter Try.func19, Try.ntmps19
          go_wp2_with (first | (go_at_call 78; refine (HR1.out _ HW.out HDA.out HDB.out).mono ?_; rintro e w2 ⟨rfl, hb⟩; have HW := Lib.hid (Below.next HW.out hb); have HDA := Lib.hid (HDA.out.below hb); have HDB := Lib.hid (HDB.out.below hb); obtain ⟨hl9, j0, j1, j2, j3, j4⟩ := HDA.out; obtain ⟨hl8, i0, i1, i2, i3, i4⟩ := HDB.out; clear hb) | (go_at_call 80; refine (HR2.out _ HW.out HDA.out HDB.out).mono ?_; rintro e w2 ⟨rfl, hb⟩; have HW := Lib.hid (Below.next HW.out hb); have HDA := Lib.hid (HDA.out.below hb); have HDB := Lib.hid (HDB.out.below hb); obtain ⟨hl9, j0, j1, j2, j3, j4⟩ := HDA.out; obtain ⟨hl8, i0, i1, i2, i3, i4⟩ := HDB.out; clear hb) | (go_at_call 81; refine (HR3.out _ HW.out HDA.out HDB.out).mono ?_; rintro e w2 ⟨rfl, hb⟩; have HW := Lib.hid (Below.next HW.out hb); have HDA := Lib.hid (HDA.out.below hb); have HDB := Lib.hid (HDB.out.below hb); obtain ⟨hl9, j0, j1, j2, j3, j4⟩ := HDA.out; obtain ⟨hl8, i0, i1, i2, i3, i4⟩ := HDB.out; clear hb) | fail)
          go_ret
          exact ⟨by simp, HW.out⟩
end Go.Proofs.Ytdmdgkjmecgpeaa
