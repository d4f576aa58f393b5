
/- ValidDesk: the functions. -/
import Derived.Test.YtdmdgkjmecgpeaaDko
import Derived.Test.YtdmdgkjmecgpeaaBts
namespace Go.Proofs.Ytdmdgkjmecgpeaa
open Go.Proofs.Ytdmdgkjmecgpeaa.Flo Go.RowKit Go.Proofs.Ytdmdgkjmecgpeaa.Pr

/-- The cells of a desk. -/
def Din (w : World) (p : Nat) (v0 v1 v2 v3 v4 : Value) : Prop :=
  p < w.heap.size ∧ w.cell? ⟨p, 0, none⟩ = some v0 ∧ w.cell? ⟨p, 1, none⟩ = some v1 ∧ w.cell? ⟨p, 2, none⟩ = some v2 ∧ w.cell? ⟨p, 3, none⟩ = some v3 ∧ w.cell? ⟨p, 4, none⟩ = some v4
theorem Din.below {w w' : World} {p : Nat} {v0 v1 v2 v3 v4 : Value} (h : Din w p v0 v1 v2 v3 v4) (hb : Below w.heap.size w w') : Din w' p v0 v1 v2 v3 v4 := by
  obtain ⟨hp, h0, h1, h2, h3, h4⟩ := h
  exact ⟨Nat.lt_of_lt_of_le hp hb.size, (hb.cell (p := ⟨p, 0, none⟩) hp).trans h0, (hb.cell (p := ⟨p, 1, none⟩) hp).trans h1, (hb.cell (p := ⟨p, 2, none⟩) hp).trans h2, (hb.cell (p := ⟨p, 3, none⟩) hp).trans h3, (hb.cell (p := ⟨p, 4, none⟩) hp).trans h4⟩
theorem Din.new (w : World) (v0 v1 v2 v3 v4 : Value) (T : TypeId) : Din (w.alloc (.cells #[v0, v1, v2, v3, v4] T)) w.heap.size v0 v1 v2 v3 v4 :=
  ⟨by simp, by rw [World.cell?_alloc_at _ _ _ _ rfl]; rfl, by rw [World.cell?_alloc_at _ _ _ _ rfl]; rfl, by rw [World.cell?_alloc_at _ _ _ _ rfl]; rfl, by rw [World.cell?_alloc_at _ _ _ _ rfl]; rfl, by rw [World.cell?_alloc_at _ _ _ _ rfl]; rfl⟩
def bsB (s : ByteArray) : Bool := decide (s.size ≤ 64) && bitsB s
def dkB (z1 : List Nat) (n1 : Nat) (z2 : List Int) (n2 : Nat) (r : Int) (z3 : List Int) (n3 : Nat) (s : ByteArray) : Bool := rowB z1 n1 && (codeB z2 n2 && (paB r z3 n3 && bsB s))
/-- A desk, its rows of the world. -/
structure DkIn (w : World) (a1 : Option Addr) (n1 : Nat) (z1 : List Nat) (a2 : Option Addr) (n2 : Nat) (z2 : List Int) (a3 : Option Addr) (n3 : Nat) (z3 : List Int) (s : ByteArray) : Prop where
  f1 : FRow w a1 n1 z1
  i2 : IRow w a2 n2 z2
  i3 : IRow w a3 n3 z3
  l1 : n1 ≤ 1048576
  l2 : n2 ≤ 1048576
  l3 : n3 ≤ 1048576
  ls : s.size ≤ 1048576
theorem DkIn.below {w w' : World} {a1 : Option Addr} {n1 : Nat} {z1 : List Nat} {a2 : Option Addr} {n2 : Nat} {z2 : List Int} {a3 : Option Addr} {n3 : Nat} {z3 : List Int} {s : ByteArray} (h : DkIn w a1 n1 z1 a2 n2 z2 a3 n3 z3 s) (hb : Below w.heap.size w w') : DkIn w' a1 n1 z1 a2 n2 z2 a3 n3 z3 s :=
  ⟨h.f1.below hb, h.i2.below hb, h.i3.below hb, h.l1, h.l2, h.l3, h.ls⟩
set_option maxHeartbeats 1000000 in
theorem b8_spec (s : ByteArray) (w : World) (hs : s.size ≤ 1048576) :
    Calls Try.prog 150 #[.string s] w fun e w' => e = .returned (.bool (bsB s)) ∧ Below w.heap.size w w' := by
  have HB := Lib.hid (fun W => bt_spec s W hs)
  unfold bsB
  generalize bitsB s = b at HB ⊢
  by_cases h : s.size ≤ 64
  · have hd : decide ((s.size : Int) ≤ 64) = true := decide_eq_true (by omega)
    rw [decide_eq_true h]
    go_enter Try.func150, Try.ntmps150
    go_wp2_with (first | (go_at_call 204; refine (HB.out _).mono ?_; rintro e w2 ⟨rfl, rfl⟩) | fail)
    go_ret
    exact ⟨by simp, Below.refl _ _⟩
  · have hd : decide ((s.size : Int) ≤ 64) = false := decide_eq_false (by omega)
    rw [decide_eq_false h]
    go_enter Try.func150, Try.ntmps150
    go_wp2
    go_ret
    exact ⟨by simp, Below.refl _ _⟩
set_option maxRecDepth 100000 in
set_option maxHeartbeats 4000000 in
theorem dki_spec (p : Nat) (a1 : Option Addr) (n1 c1 : Nat) (z1 : List Nat) (a2 : Option Addr) (n2 c2 : Nat) (z2 : List Int) (r : Int) (a3 : Option Addr) (n3 c3 : Nat) (z3 : List Int) (s : ByteArray) (w : World) (h : DkIn w a1 n1 z1 a2 n2 z2 a3 n3 z3 s) (hd0 : Din w p (.slice a1 n1 c1) (.slice a2 n2 c2) (.int .i64 r) (.slice a3 n3 c3) (.string s)) :
    Calls Try.prog 68 #[.pointer (some ⟨p, 0, none⟩)] w fun e w' => e = .returned (.bool (dkB z1 n1 z2 n2 r z3 n3 s)) ∧ Below w.heap.size w w' := by
  have HR1 := Lib.hid (fun W (h1 : Below w.heap.size w W) (_ : Din W p (.slice a1 n1 c1) (.slice a2 n2 c2) (.int .i64 r) (.slice a3 n3 c3) (.string s)) => (row_spec a1 n1 c1 z1 W (h.f1.below h1) h.l1).mono (fun e w' q => (⟨q.1, q.2.below⟩ : e = .returned (.bool (rowB z1 n1)) ∧ Below W.heap.size W w')))
  have HR2 := Lib.hid (fun W (h1 : Below w.heap.size w W) (hd : Din W p (.slice a1 n1 c1) (.slice a2 n2 c2) (.int .i64 r) (.slice a3 n3 c3) (.string s)) => (cdisd_spec p a2 n2 c2 z2 W (h.i2.below h1) h.l2 hd.2.2.1).mono (fun e w' q => (⟨q.1, q.2 ▸ Below.refl _ _⟩ : e = .returned (.bool (codeB z2 n2)) ∧ Below W.heap.size W w')))
  have HR3 := Lib.hid (fun W (h1 : Below w.heap.size w W) (hd : Din W p (.slice a1 n1 c1) (.slice a2 n2 c2) (.int .i64 r) (.slice a3 n3 c3) (.string s)) => pid_spec p r a3 n3 c3 z3 W (h.i3.below h1) h.l3 hd.1 hd.2.2.2.1 hd.2.2.2.2.1)
  have HR4 := Lib.hid (fun W (_ : Below w.heap.size w W) (_ : Din W p (.slice a1 n1 c1) (.slice a2 n2 c2) (.int .i64 r) (.slice a3 n3 c3) (.string s)) => b8_spec s W h.ls)
  unfold dkB
  generalize rowB z1 n1 = b1 at HR1 ⊢
  generalize codeB z2 n2 = b2 at HR2 ⊢
  generalize paB r z3 n3 = b3 at HR3 ⊢
  generalize bsB s = b4 at HR4 ⊢
  clear h
  have HD := Lib.hid hd0
  have HW := Lib.hid (Below.refl w.heap.size w)
  obtain ⟨hl9, k0, k1, k2, k3, k4⟩ := hd0
  cases b1
  · skip
    go_enter Try.func68, Try.ntmps68
    go_wp2_with (first | (go_at_call 147; refine (HR1.out _ HW.out HD.out).mono ?_; rintro e w2 ⟨rfl, hb⟩; have HW := Lib.hid (Below.next HW.out hb); have HD := Lib.hid (HD.out.below hb); obtain ⟨hl9, k0, k1, k2, k3, k4⟩ := HD.out; clear hb) | (go_at_call 148; refine (HR2.out _ HW.out HD.out).mono ?_; rintro e w2 ⟨rfl, hb⟩; have HW := Lib.hid (Below.next HW.out hb); have HD := Lib.hid (HD.out.below hb); obtain ⟨hl9, k0, k1, k2, k3, k4⟩ := HD.out; clear hb) | (go_at_call 149; refine (HR3.out _ HW.out HD.out).mono ?_; rintro e w2 ⟨rfl, hb⟩; have HW := Lib.hid (Below.next HW.out hb); have HD := Lib.hid (HD.out.below hb); obtain ⟨hl9, k0, k1, k2, k3, k4⟩ := HD.out; clear hb) | (go_at_call 150; refine (HR4.out _ HW.out HD.out).mono ?_; rintro e w2 ⟨rfl, hb⟩; have HW := Lib.hid (Below.next HW.out hb); have HD := Lib.hid (HD.out.below hb); obtain ⟨hl9, k0, k1, k2, k3, k4⟩ := HD.out; clear hb) | fail)
    go_ret
    exact ⟨by simp, HW.out⟩
  · skip
    cases b2
    · skip
      go_enter Try.func68, Try.ntmps68
      go_wp2_with (first | (go_at_call 147; refine (HR1.out _ HW.out HD.out).mono ?_; rintro e w2 ⟨rfl, hb⟩; have HW := Lib.hid (Below.next HW.out hb); have HD := Lib.hid (HD.out.below hb); obtain ⟨hl9, k0, k1, k2, k3, k4⟩ := HD.out; clear hb) | (go_at_call 148; refine (HR2.out _ HW.out HD.out).mono ?_; rintro e w2 ⟨rfl, hb⟩; have HW := Lib.hid (Below.next HW.out hb); have HD := Lib.hid (HD.out.below hb); obtain ⟨hl9, k0, k1, k2, k3, k4⟩ := HD.out; clear hb) | (go_at_call 149; refine (HR3.out _ HW.out HD.out).mono ?_; rintro e w2 ⟨rfl, hb⟩; have HW := Lib.hid (Below.next HW.out hb); have HD := Lib.hid (HD.out.below hb); obtain ⟨hl9, k0, k1, k2, k3, k4⟩ := HD.out; clear hb) | (go_at_call 150; refine (HR4.out _ HW.out HD.out).mono ?_; rintro e w2 ⟨rfl, hb⟩; have HW := Lib.hid (Below.next HW.out hb); have HD := Lib.hid (HD.out.below hb); obtain ⟨hl9, k0, k1, k2, k3, k4⟩ := HD.out; clear hb) | fail)
      go_ret
      exact ⟨by simp, HW.out⟩
    · skip
      cases b3
      · skip
        go_enter Try.func68, Try.ntmps68
        go_wp2_with (first | (go_at_call 147; refine (HR1.out _ HW.out HD.out).mono ?_; rintro e w2 ⟨rfl, hb⟩; have HW := Lib.hid (Below.next HW.out hb); have HD := Lib.hid (HD.out.below hb); obtain ⟨hl9, k0, k1, k2, k3, k4⟩ := HD.out; clear hb) | (go_at_call 148; refine (HR2.out _ HW.out HD.out).mono ?_; rintro e w2 ⟨rfl, hb⟩; have HW := Lib.hid (Below.next HW.out hb); have HD := Lib.hid (HD.out.below hb); obtain ⟨hl9, k0, k1, k2, k3, k4⟩ := HD.out; clear hb) | (go_at_call 149; refine (HR3.out _ HW.out HD.out).mono ?_; rintro e w2 ⟨rfl, hb⟩; have HW := Lib.hid (Below.next HW.out hb); have HD := Lib.hid (HD.out.below hb); obtain ⟨hl9, k0, k1, k2, k3, k4⟩ := HD.out; clear hb) | (go_at_call 150; refine (HR4.out _ HW.out HD.out).mono ?_; rintro e w2 ⟨rfl, hb⟩; have HW := Lib.hid (Below.next HW.out hb); have HD := Lib.hid (HD.out.below hb); obtain ⟨hl9, k0, k1, k2, k3, k4⟩ := HD.out; clear hb) | fail)
        go_ret
        exact ⟨by simp, HW.out⟩
      · skip
        cases b4
        · skip
          go_enter Try.func68, Try.ntmps68
          go_wp2_with (first | (go_at_call 147; refine (HR1.out _ HW.out HD.out).mono ?_; rintro e w2 ⟨rfl, hb⟩; have HW := Lib.hid (Below.next HW.out hb); have HD := Lib.hid (HD.out.below hb); obtain ⟨hl9, k0, k1, k2, k3, k4⟩ := HD.out; clear hb) | (go_at_call 148; refine (HR2.out _ HW.out HD.out).mono ?_; rintro e w2 ⟨rfl, hb⟩; have HW := Lib.hid (Below.next HW.out hb); have HD := Lib.hid (HD.out.below hb); obtain ⟨hl9, k0, k1, k2, k3, k4⟩ := HD.out; clear hb) | (go_at_call 149; refine (HR3.out _ HW.out HD.out).mono ?_; rintro e w2 ⟨rfl, hb⟩; have HW := Lib.hid (Below.next HW.out hb); have HD := Lib.hid (HD.out.below hb); obtain ⟨hl9, k0, k1, k2, k3, k4⟩ := HD.out; clear hb) | (go_at_call 150; refine (HR4.out _ HW.out HD.out).mono ?_; rintro e w2 ⟨rfl, hb⟩; have HW := Lib.hid (Below.next HW.out hb); have HD := Lib.hid (HD.out.below hb); obtain ⟨hl9, k0, k1, k2, k3, k4⟩ := HD.out; clear hb) | fail)
          go_ret
          exact ⟨by simp, HW.out⟩
        · skip
          go_enter Try.func68, Try.ntmps68
          go_wp2_with (first | (go_at_call 147; refine (HR1.out _ HW.out HD.out).mono ?_; rintro e w2 ⟨rfl, hb⟩; have HW := Lib.hid (Below.next HW.out hb); have HD := Lib.hid (HD.out.below hb); obtain ⟨hl9, k0, k1, k2, k3, k4⟩ := HD.out; clear hb) | (go_at_call 148; refine (HR2.out _ HW.out HD.out).mono ?_; rintro e w2 ⟨rfl, hb⟩; have HW := Lib.hid (Below.next HW.out hb); have HD := Lib.hid (HD.out.below hb); obtain ⟨hl9, k0, k1, k2, k3, k4⟩ := HD.out; clear hb) | (go_at_call 149; refine (HR3.out _ HW.out HD.out).mono ?_; rintro e w2 ⟨rfl, hb⟩; have HW := Lib.hid (Below.next HW.out hb); have HD := Lib.hid (HD.out.below hb); obtain ⟨hl9, k0, k1, k2, k3, k4⟩ := HD.out; clear hb) | (go_at_call 150; refine (HR4.out _ HW.out HD.out).mono ?_; rintro e w2 ⟨rfl, hb⟩; have HW := Lib.hid (Below.next HW.out hb); have HD := Lib.hid (HD.out.below hb); obtain ⟨hl9, k0, k1, k2, k3, k4⟩ := HD.out; clear hb) | fail)
          go_ret
          exact ⟨by simp, HW.out⟩
set_option maxHeartbeats 1000000 in
theorem dk_spec (a1 : Option Addr) (n1 c1 : Nat) (z1 : List Nat) (a2 : Option Addr) (n2 c2 : Nat) (z2 : List Int) (r : Int) (a3 : Option Addr) (n3 c3 : Nat) (z3 : List Int) (s : ByteArray) (w : World) (h : DkIn w a1 n1 z1 a2 n2 z2 a3 n3 z3 s) :
    Calls Try.prog 14 #[.agg #[.slice a1 n1 c1, .slice a2 n2 c2, .int .i64 r, .slice a3 n3 c3, .string s]] w fun e w' => e = .returned (.bool (dkB z1 n1 z2 n2 r z3 n3 s)) ∧ Below w.heap.size w w' := by
  have HI := Lib.hid (dki_spec w.heap.size a1 n1 c1 z1 a2 n2 c2 z2 r a3 n3 c3 z3 s (w.alloc (.cells #[.slice a1 n1 c1, .slice a2 n2 c2, .int .i64 r, .slice a3 n3 c3, .string s] 35)) (h.below (belowA _ _)) (Din.new w _ _ _ _ _ _))
  generalize dkB z1 n1 z2 n2 r z3 n3 s = b at HI ⊢
  clear h
  go_enter Try.func14, Try.ntmps14
  go_wp2_with (first | (go_at_call 68; refine HI.out.mono ?_; rintro e w2 ⟨rfl, hb⟩; have HB := Lib.hid (Below.next (belowA _ _) hb); clear hb) | fail)
  go_ret
  exact ⟨rfl, HB.out⟩
set_option maxRecDepth 100000 in
set_option maxHeartbeats 4000000 in
theorem dk_impl (a1 : Option Addr) (n1 c1 : Nat) (z1 : List Nat) (a2 : Option Addr) (n2 c2 : Nat) (z2 : List Int) (r : Int) (a3 : Option Addr) (n3 c3 : Nat) (z3 : List Int) (s : ByteArray) (w : World) (h : DkIn w a1 n1 z1 a2 n2 z2 a3 n3 z3 s) :
    Calls Try.prog 16 #[.agg #[.slice a1 n1 c1, .slice a2 n2 c2, .int .i64 r, .slice a3 n3 c3, .string s]] w fun e w' => e = .returned (.bool (dkB z1 n1 z2 n2 r z3 n3 s)) ∧ Below w.heap.size w w' := by
  have HR1 := Lib.hid (fun W (h1 : Below w.heap.size w W) (_ : Din W w.heap.size (.slice a1 n1 c1) (.slice a2 n2 c2) (.int .i64 r) (.slice a3 n3 c3) (.string s)) => (row_impl a1 n1 c1 z1 W (h.f1.below h1) h.l1).mono (fun e w' q => (⟨q.1, q.2.below⟩ : e = .returned (.bool (rowB z1 n1)) ∧ Below W.heap.size W w')))
  have HR2 := Lib.hid (fun W (h1 : Below w.heap.size w W) (hd : Din W w.heap.size (.slice a1 n1 c1) (.slice a2 n2 c2) (.int .i64 r) (.slice a3 n3 c3) (.string s)) => vc_impl a2 n2 c2 z2 W (h.i2.below h1) h.l2)
  have HR3 := Lib.hid (fun W (h1 : Below w.heap.size w W) (hd : Din W w.heap.size (.slice a1 n1 c1) (.slice a2 n2 c2) (.int .i64 r) (.slice a3 n3 c3) (.string s)) => vp_impl r a3 n3 c3 z3 W (h.i3.below h1) h.l3)
  have HR4 := Lib.hid (fun W (_ : Below w.heap.size w W) (_ : Din W w.heap.size (.slice a1 n1 c1) (.slice a2 n2 c2) (.int .i64 r) (.slice a3 n3 c3) (.string s)) => bt_impl s W h.ls)
  have hs9 : decide ((s.size : Int) ≤ 64) = decide (s.size ≤ 64) := by simp; omega
  unfold dkB bsB
  generalize rowB z1 n1 = b1 at HR1 ⊢
  generalize codeB z2 n2 = b2 at HR2 ⊢
  generalize paB r z3 n3 = b3 at HR3 ⊢
  generalize decide (s.size ≤ 64) = b4 at hs9 ⊢
  generalize bitsB s = b5 at HR4 ⊢
  clear h
  have HD := Lib.hid (Din.new w (.slice a1 n1 c1) (.slice a2 n2 c2) (.int .i64 r) (.slice a3 n3 c3) (.string s) 35)
  have HW := Lib.hid (belowA w (.cells #[.slice a1 n1 c1, .slice a2 n2 c2, .int .i64 r, .slice a3 n3 c3, .string s] 35))
  cases b1
  · skip
    go_enter Try.func16, Try.ntmps16
    go_wp2_with (first | (go_at_call 70; refine (HR1.out _ HW.out HD.out).mono ?_; rintro e w2 ⟨rfl, hb⟩; have HW := Lib.hid (Below.next HW.out hb); have HD := Lib.hid (HD.out.below hb); obtain ⟨hl9, k0, k1, k2, k3, k4⟩ := HD.out; clear hb) | (go_at_call 71; refine (HR2.out _ HW.out HD.out).mono ?_; rintro e w2 ⟨rfl, hb⟩; have HW := Lib.hid (Below.next HW.out hb); have HD := Lib.hid (HD.out.below hb); obtain ⟨hl9, k0, k1, k2, k3, k4⟩ := HD.out; clear hb) | (go_at_call 72; refine (HR3.out _ HW.out HD.out).mono ?_; rintro e w2 ⟨rfl, hb⟩; have HW := Lib.hid (Below.next HW.out hb); have HD := Lib.hid (HD.out.below hb); obtain ⟨hl9, k0, k1, k2, k3, k4⟩ := HD.out; clear hb) | (go_at_call 73; refine (HR4.out _ HW.out HD.out).mono ?_; rintro e w2 ⟨rfl, hb⟩; have HW := Lib.hid (Below.next HW.out hb); have HD := Lib.hid (HD.out.below hb); obtain ⟨hl9, k0, k1, k2, k3, k4⟩ := HD.out; clear hb) | fail)
    go_ret
    exact ⟨by simp, HW.out⟩
  · skip
    cases b2
    · skip
      go_enter Try.func16, Try.ntmps16
      go_wp2_with (first | (go_at_call 70; refine (HR1.out _ HW.out HD.out).mono ?_; rintro e w2 ⟨rfl, hb⟩; have HW := Lib.hid (Below.next HW.out hb); have HD := Lib.hid (HD.out.below hb); obtain ⟨hl9, k0, k1, k2, k3, k4⟩ := HD.out; clear hb) | (go_at_call 71; refine (HR2.out _ HW.out HD.out).mono ?_; rintro e w2 ⟨rfl, hb⟩; have HW := Lib.hid (Below.next HW.out hb); have HD := Lib.hid (HD.out.below hb); obtain ⟨hl9, k0, k1, k2, k3, k4⟩ := HD.out; clear hb) | (go_at_call 72; refine (HR3.out _ HW.out HD.out).mono ?_; rintro e w2 ⟨rfl, hb⟩; have HW := Lib.hid (Below.next HW.out hb); have HD := Lib.hid (HD.out.below hb); obtain ⟨hl9, k0, k1, k2, k3, k4⟩ := HD.out; clear hb) | (go_at_call 73; refine (HR4.out _ HW.out HD.out).mono ?_; rintro e w2 ⟨rfl, hb⟩; have HW := Lib.hid (Below.next HW.out hb); have HD := Lib.hid (HD.out.below hb); obtain ⟨hl9, k0, k1, k2, k3, k4⟩ := HD.out; clear hb) | fail)
      go_ret
      exact ⟨by simp, HW.out⟩
    · skip
      cases b3
      · skip
        go_enter Try.func16, Try.ntmps16
        go_wp2_with (first | (go_at_call 70; refine (HR1.out _ HW.out HD.out).mono ?_; rintro e w2 ⟨rfl, hb⟩; have HW := Lib.hid (Below.next HW.out hb); have HD := Lib.hid (HD.out.below hb); obtain ⟨hl9, k0, k1, k2, k3, k4⟩ := HD.out; clear hb) | (go_at_call 71; refine (HR2.out _ HW.out HD.out).mono ?_; rintro e w2 ⟨rfl, hb⟩; have HW := Lib.hid (Below.next HW.out hb); have HD := Lib.hid (HD.out.below hb); obtain ⟨hl9, k0, k1, k2, k3, k4⟩ := HD.out; clear hb) | (go_at_call 72; refine (HR3.out _ HW.out HD.out).mono ?_; rintro e w2 ⟨rfl, hb⟩; have HW := Lib.hid (Below.next HW.out hb); have HD := Lib.hid (HD.out.below hb); obtain ⟨hl9, k0, k1, k2, k3, k4⟩ := HD.out; clear hb) | (go_at_call 73; refine (HR4.out _ HW.out HD.out).mono ?_; rintro e w2 ⟨rfl, hb⟩; have HW := Lib.hid (Below.next HW.out hb); have HD := Lib.hid (HD.out.below hb); obtain ⟨hl9, k0, k1, k2, k3, k4⟩ := HD.out; clear hb) | fail)
        go_ret
        exact ⟨by simp, HW.out⟩
      · skip
        cases b4
        · skip
          go_enter Try.func16, Try.ntmps16
          go_wp2_with (first | (go_at_call 70; refine (HR1.out _ HW.out HD.out).mono ?_; rintro e w2 ⟨rfl, hb⟩; have HW := Lib.hid (Below.next HW.out hb); have HD := Lib.hid (HD.out.below hb); obtain ⟨hl9, k0, k1, k2, k3, k4⟩ := HD.out; clear hb) | (go_at_call 71; refine (HR2.out _ HW.out HD.out).mono ?_; rintro e w2 ⟨rfl, hb⟩; have HW := Lib.hid (Below.next HW.out hb); have HD := Lib.hid (HD.out.below hb); obtain ⟨hl9, k0, k1, k2, k3, k4⟩ := HD.out; clear hb) | (go_at_call 72; refine (HR3.out _ HW.out HD.out).mono ?_; rintro e w2 ⟨rfl, hb⟩; have HW := Lib.hid (Below.next HW.out hb); have HD := Lib.hid (HD.out.below hb); obtain ⟨hl9, k0, k1, k2, k3, k4⟩ := HD.out; clear hb) | (go_at_call 73; refine (HR4.out _ HW.out HD.out).mono ?_; rintro e w2 ⟨rfl, hb⟩; have HW := Lib.hid (Below.next HW.out hb); have HD := Lib.hid (HD.out.below hb); obtain ⟨hl9, k0, k1, k2, k3, k4⟩ := HD.out; clear hb) | fail)
          go_ret
          exact ⟨by simp, HW.out⟩
        · skip
          cases b5
          · skip
            go_enter Try.func16, Try.ntmps16
            go_wp2_with (first | (go_at_call 70; refine (HR1.out _ HW.out HD.out).mono ?_; rintro e w2 ⟨rfl, hb⟩; have HW := Lib.hid (Below.next HW.out hb); have HD := Lib.hid (HD.out.below hb); obtain ⟨hl9, k0, k1, k2, k3, k4⟩ := HD.out; clear hb) | (go_at_call 71; refine (HR2.out _ HW.out HD.out).mono ?_; rintro e w2 ⟨rfl, hb⟩; have HW := Lib.hid (Below.next HW.out hb); have HD := Lib.hid (HD.out.below hb); obtain ⟨hl9, k0, k1, k2, k3, k4⟩ := HD.out; clear hb) | (go_at_call 72; refine (HR3.out _ HW.out HD.out).mono ?_; rintro e w2 ⟨rfl, hb⟩; have HW := Lib.hid (Below.next HW.out hb); have HD := Lib.hid (HD.out.below hb); obtain ⟨hl9, k0, k1, k2, k3, k4⟩ := HD.out; clear hb) | (go_at_call 73; refine (HR4.out _ HW.out HD.out).mono ?_; rintro e w2 ⟨rfl, hb⟩; have HW := Lib.hid (Below.next HW.out hb); have HD := Lib.hid (HD.out.below hb); obtain ⟨hl9, k0, k1, k2, k3, k4⟩ := HD.out; clear hb) | fail)
            go_ret
            exact ⟨by simp, HW.out⟩
          · skip
            go_enter Try.func16, Try.ntmps16
            go_wp2_with (first | (go_at_call 70; refine (HR1.out _ HW.out HD.out).mono ?_; rintro e w2 ⟨rfl, hb⟩; have HW := Lib.hid (Below.next HW.out hb); have HD := Lib.hid (HD.out.below hb); obtain ⟨hl9, k0, k1, k2, k3, k4⟩ := HD.out; clear hb) | (go_at_call 71; refine (HR2.out _ HW.out HD.out).mono ?_; rintro e w2 ⟨rfl, hb⟩; have HW := Lib.hid (Below.next HW.out hb); have HD := Lib.hid (HD.out.below hb); obtain ⟨hl9, k0, k1, k2, k3, k4⟩ := HD.out; clear hb) | (go_at_call 72; refine (HR3.out _ HW.out HD.out).mono ?_; rintro e w2 ⟨rfl, hb⟩; have HW := Lib.hid (Below.next HW.out hb); have HD := Lib.hid (HD.out.below hb); obtain ⟨hl9, k0, k1, k2, k3, k4⟩ := HD.out; clear hb) | (go_at_call 73; refine (HR4.out _ HW.out HD.out).mono ?_; rintro e w2 ⟨rfl, hb⟩; have HW := Lib.hid (Below.next HW.out hb); have HD := Lib.hid (HD.out.below hb); obtain ⟨hl9, k0, k1, k2, k3, k4⟩ := HD.out; clear hb) | fail)
            go_ret
            exact ⟨by simp, HW.out⟩
end Go.Proofs.Ytdmdgkjmecgpeaa
