/- Codes by surprises: the parts of both functions. -/
import Derived.Test.YtiajpmfdaooefaaSuo
import Derived.Test.YtiajpmfdaooefaaSuv
namespace Go.Proofs.Ytiajpmfdaooefaa.Su
open Go.Proofs.Ytiajpmfdaooefaa.Flo Go.Proofs.Ytiajpmfdaooefaa Go.RowKit

set_option maxHeartbeats 2000000 in
theorem lo_impl (y : Nat) (h : Le 45 ((FloatKind.f32).decode y)) (w : World) : Calls Try.prog 87 #[.float .f32 y] w fun e w' => e = .returned (.int .i64 (LI y)) ∧ w = w' := by
  obtain ⟨ht, hb1, hb2⟩ := trunc_some h
  have hcv := fun w2 : World => run_convert_float_int (P := Try.prog) w2 39 2 .f32 .i64 y (truncF y) (by kernel_rfl) Try.underlying2 ht
  have hw : IntKind.i64.wrap (truncF y + 1) = truncF y + 1 := IntWalk.i64_in _ (by omega)
  cases hl : ltK (truncF y) y with
  | true =>
    have hE : Hid (LI y = max (truncF y + 1) 1) := Lib.hid (by unfold LI; rw [if_pos hl])
    rw [ltK_def] at hl
    generalize truncF y = T at hcv hw hl hE hb1 hb2
    go_enter Try.func87, Try.ntmps87
    go_wp2
    go_ret
    exact ⟨by rw [hE.out]; first | rfl | (congr 2; omega), rfl⟩
  | false =>
    have hE : Hid (LI y = max (truncF y) 1) := Lib.hid (by unfold LI; rw [hl]; rfl)
    rw [ltK_def] at hl
    generalize truncF y = T at hcv hw hl hE hb1 hb2
    go_enter Try.func87, Try.ntmps87
    go_wp2
    go_ret
    exact ⟨by rw [hE.out]; first | rfl | (congr 2; omega), rfl⟩
def CIn (w : World) (p : Nat) (v : Value) : Prop := p < w.heap.size ∧ w.cell? ⟨p, 0, none⟩ = some v ∧ w.frozen? ⟨p, 0, none⟩ = false
theorem CIn.new (w : World) (v : Value) (T : TypeId) : CIn (w.alloc (.cells #[v] T)) w.heap.size v := ⟨by simp, cell_box w v T, World.frozen?_alloc_at _ _ _ _ rfl⟩
theorem CIn.below {w w' : World} {p : Nat} {v : Value} (h : CIn w p v) (hb : Below w.heap.size w w') : CIn w' p v :=
  ⟨Nat.lt_of_lt_of_le h.1 hb.size, (hb.cell (p := ⟨p, 0, none⟩) h.1).trans h.2.1, (hb.frozen (p := ⟨p, 0, none⟩) h.1).trans h.2.2⟩
theorem CIn.put {w : World} {p : Nat} {v : Value} (h : CIn w p v) (v' : Value) : (w.setCell ⟨p, 0, none⟩ v').cell? ⟨p, 0, none⟩ = some v' := World.cell?_setCell_same w ⟨p, 0, none⟩ v' h.2.1
set_option maxRecDepth 100000 in
set_option maxHeartbeats 1000000 in
theorem cgSY (a : Option Addr) (n cap : Nat) (zs : List Int) (w : World) (h : IRow w a n zs) (hn : n ≤ 1048576) (hok : codeB zs n = true) : Calls Try.prog 69 #[.slice a n cap] w fun e w' => e = .returned (.tuple #[.agg #[.slice a n cap], .bool true]) ∧ Below w.heap.size w w' := by
  have HA := Lib.hid ((h.alloc (.cells #[.slice none 0 0] 27)).alloc (.cells #[.slice a n cap] 27))
  have HR := Lib.hid ((CIn.new w (.slice none 0 0) 27).below (below_alloc _ (.cells #[.slice a n cap] 27)))
  have es : (w.alloc (.cells #[.slice none 0 0] 27)).heap.size = w.heap.size + 1 := by simp
  have HC : Hid (CIn ((w.alloc (.cells #[.slice none 0 0] 27)).alloc (.cells #[.slice a n cap] 27)) (w.heap.size + 1) (.slice a n cap)) := Lib.hid (by
    have := CIn.new (w.alloc (.cells #[.slice none 0 0] 27)) (.slice a n cap) 27
    rw [es] at this
    exact this)
  clear es
  clear h
  go_enter Try.func69, Try.ntmps69
  go_wp2_with (first | (go_at_call 56; refine (cdis_spec _ a n cap zs _ HA.out hn HC.out.2.1).mono ?_; rintro e w' ⟨rfl, rfl⟩) | go_in)
  exact bodyPost_ret (v := .tuple #[.agg #[.slice a n cap], .bool true]) (by simp [results, Try.results69, go_sem]) rfl
    ⟨rfl, (by repeat (first | exact Below.refl _ _ | refine Below.drew ?_ | refine Below.drewN' ?_ _ | refine Below.alloc ?_ (by first | (simp; done) | (simp; omega)) _ | refine Below.setCell ?_ (by first | (simp; done) | (simp; omega)) _))⟩
set_option maxRecDepth 100000 in
set_option maxHeartbeats 1000000 in
theorem cgSN (a : Option Addr) (n cap : Nat) (zs : List Int) (w : World) (h : IRow w a n zs) (hn : n ≤ 1048576) (hok : codeB zs n = false) : Calls Try.prog 69 #[.slice a n cap] w fun e w' => e = .returned (.tuple #[.agg #[.slice none 0 0], .bool false]) ∧ Below w.heap.size w w' := by
  have HA := Lib.hid ((h.alloc (.cells #[.slice none 0 0] 27)).alloc (.cells #[.slice a n cap] 27))
  have HR := Lib.hid ((CIn.new w (.slice none 0 0) 27).below (below_alloc _ (.cells #[.slice a n cap] 27)))
  have es : (w.alloc (.cells #[.slice none 0 0] 27)).heap.size = w.heap.size + 1 := by simp
  have HC : Hid (CIn ((w.alloc (.cells #[.slice none 0 0] 27)).alloc (.cells #[.slice a n cap] 27)) (w.heap.size + 1) (.slice a n cap)) := Lib.hid (by
    have := CIn.new (w.alloc (.cells #[.slice none 0 0] 27)) (.slice a n cap) 27
    rw [es] at this
    exact this)
  clear es
  clear h
  go_enter Try.func69, Try.ntmps69
  go_wp2_with (first | (go_at_call 56; refine (cdis_spec _ a n cap zs _ HA.out hn HC.out.2.1).mono ?_; rintro e w' ⟨rfl, rfl⟩) | go_in)
  exact bodyPost_ret (v := .tuple #[.agg #[.slice none 0 0], .bool false]) (by simp [results, Try.results69, go_sem]) rfl
    ⟨rfl, (by repeat (first | exact Below.refl _ _ | refine Below.drew ?_ | refine Below.drewN' ?_ _ | refine Below.alloc ?_ (by first | (simp; done) | (simp; omega)) _ | refine Below.setCell ?_ (by first | (simp; done) | (simp; omega)) _))⟩
set_option maxRecDepth 100000 in
set_option maxHeartbeats 1000000 in
theorem cgIY (a : Option Addr) (n cap : Nat) (zs : List Int) (w : World) (h : IRow w a n zs) (hn : n ≤ 1048576) (hok : codeB zs n = true) : Calls Try.prog 88 #[.slice a n cap] w fun e w' => e = .returned (.tuple #[.agg #[.slice a n cap], .bool true]) ∧ Below w.heap.size w w' := by
  have HA := Lib.hid ((h.alloc (.cells #[.slice none 0 0] 27)).alloc (.cells #[.slice a n cap] 27))
  have HR := Lib.hid ((CIn.new w (.slice none 0 0) 27).below (below_alloc _ (.cells #[.slice a n cap] 27)))
  have es : (w.alloc (.cells #[.slice none 0 0] 27)).heap.size = w.heap.size + 1 := by simp
  have HC : Hid (CIn ((w.alloc (.cells #[.slice none 0 0] 27)).alloc (.cells #[.slice a n cap] 27)) (w.heap.size + 1) (.slice a n cap)) := Lib.hid (by
    have := CIn.new (w.alloc (.cells #[.slice none 0 0] 27)) (.slice a n cap) 27
    rw [es] at this
    exact this)
  clear es
  clear h
  go_enter Try.func88, Try.ntmps88
  go_wp2_with (first | (go_at_call 18; refine (vc_impl a n cap zs _ HA.out hn).mono ?_; rintro e w2 ⟨rfl, hb⟩; have HB := Lib.hid hb; obtain ⟨hl1, hr1, hr2⟩ := HR.out.below hb; obtain ⟨hl2, hc1, hc2⟩ := HC.out.below hb; have HP := Lib.hid ((HR.out.below hb).put (.slice a n cap)); clear hb) | go_in)
  exact bodyPost_ret (v := .tuple #[.agg #[.slice a n cap], .bool true]) (by simp [results, Try.results88, go_sem, HP.out]) rfl
    ⟨rfl, by repeat (first | exact Below.next (Below.next (below_alloc _ _) (below_alloc _ _)) HB.out | refine Below.setCell ?_ (by first | (simp; done) | (simp; omega)) _)⟩
set_option maxRecDepth 100000 in
set_option maxHeartbeats 1000000 in
theorem cgIN (a : Option Addr) (n cap : Nat) (zs : List Int) (w : World) (h : IRow w a n zs) (hn : n ≤ 1048576) (hok : codeB zs n = false) : Calls Try.prog 88 #[.slice a n cap] w fun e w' => e = .returned (.tuple #[.agg #[.slice none 0 0], .bool false]) ∧ Below w.heap.size w w' := by
  have HA := Lib.hid ((h.alloc (.cells #[.slice none 0 0] 27)).alloc (.cells #[.slice a n cap] 27))
  have HR := Lib.hid ((CIn.new w (.slice none 0 0) 27).below (below_alloc _ (.cells #[.slice a n cap] 27)))
  have es : (w.alloc (.cells #[.slice none 0 0] 27)).heap.size = w.heap.size + 1 := by simp
  have HC : Hid (CIn ((w.alloc (.cells #[.slice none 0 0] 27)).alloc (.cells #[.slice a n cap] 27)) (w.heap.size + 1) (.slice a n cap)) := Lib.hid (by
    have := CIn.new (w.alloc (.cells #[.slice none 0 0] 27)) (.slice a n cap) 27
    rw [es] at this
    exact this)
  clear es
  clear h
  go_enter Try.func88, Try.ntmps88
  go_wp2_with (first | (go_at_call 18; refine (vc_impl a n cap zs _ HA.out hn).mono ?_; rintro e w2 ⟨rfl, hb⟩; have HB := Lib.hid hb; obtain ⟨hl1, hr1, hr2⟩ := HR.out.below hb; obtain ⟨hl2, hc1, hc2⟩ := HC.out.below hb; have HP := Lib.hid ((HR.out.below hb).put (.slice none 0 0)); clear hb) | go_in)
  exact bodyPost_ret (v := .tuple #[.agg #[.slice none 0 0], .bool false]) (by simp [results, Try.results88, go_sem, HP.out]) rfl
    ⟨rfl, by repeat (first | exact Below.next (Below.next (below_alloc _ _) (below_alloc _ _)) HB.out | refine Below.setCell ?_ (by first | (simp; done) | (simp; omega)) _)⟩
end Go.Proofs.Ytiajpmfdaooefaa.Su
