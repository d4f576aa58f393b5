
/- A code or none. -/
import Derived.Test.YthkabonnclfhmaaDoorCdv
import Derived.Test.YthkabonnclfhmaaDoorDcf
namespace Go.Proofs.YthkabonnclfhmaaDoor.Cg
open Go.Proofs.YthkabonnclfhmaaDoor.Flo Go.Proofs.YthkabonnclfhmaaDoor Go.RowKit

def CIn (w : World) (p : Nat) (v : Value) : Prop := p < w.heap.size ∧ w.cell? ⟨p, 0, none⟩ = some v ∧ w.frozen? ⟨p, 0, none⟩ = false
theorem CIn.new (w : World) (v : Value) (T : TypeId) : CIn (w.alloc (.cells #[v] T)) w.heap.size v := ⟨by simp, cell_box w v T, World.frozen?_alloc_at _ _ _ _ rfl⟩
theorem CIn.below {w w' : World} {p : Nat} {v : Value} (h : CIn w p v) (hb : Below w.heap.size w w') : CIn w' p v :=
  ⟨Nat.lt_of_lt_of_le h.1 hb.size, (hb.cell (p := ⟨p, 0, none⟩) h.1).trans h.2.1, (hb.frozen (p := ⟨p, 0, none⟩) h.1).trans h.2.2⟩
theorem CIn.put {w : World} {p : Nat} {v : Value} (h : CIn w p v) (v' : Value) : (w.setCell ⟨p, 0, none⟩ v').cell? ⟨p, 0, none⟩ = some v' := World.cell?_setCell_same w ⟨p, 0, none⟩ v' h.2.1
set_option maxRecDepth 100000 in
set_option maxHeartbeats 1000000 in
theorem cgSY (a : Option Addr) (n cap : Nat) (zs : List Int) (w : World) (h : IRow w a n zs) (hn : n ≤ 1048576) (hok : codeB zs n = true) : Calls Tryd.prog 116 #[.slice a n cap] w fun e w' => e = .returned (.tuple #[.agg #[.slice a n cap], .bool true]) ∧ Below w.heap.size w w' := by
  have HA := Lib.hid ((h.alloc (.cells #[.slice none 0 0] 48)).alloc (.cells #[.slice a n cap] 48))
  have HR := Lib.hid ((CIn.new w (.slice none 0 0) 48).below (belowD _ (.cells #[.slice a n cap] 48)))
  have es : (w.alloc (.cells #[.slice none 0 0] 48)).heap.size = w.heap.size + 1 := by simp
  have HC : Hid (CIn ((w.alloc (.cells #[.slice none 0 0] 48)).alloc (.cells #[.slice a n cap] 48)) (w.heap.size + 1) (.slice a n cap)) := Lib.hid (by
    have := CIn.new (w.alloc (.cells #[.slice none 0 0] 48)) (.slice a n cap) 48
    rw [es] at this
    exact this)
  clear es
  clear h
  go_enter Tryd.func116, Tryd.ntmps116
  go_wp2_with (first | (go_at_call 80; refine (cdis_spec _ a n cap zs _ HA.out hn HC.out.2.1).mono ?_; rintro e w' ⟨rfl, rfl⟩) | go_in)
  exact bodyPost_ret (v := .tuple #[.agg #[.slice a n cap], .bool true]) (by simp [results, Tryd.results116, go_sem]) rfl
    ⟨rfl, (by repeat (first | exact Below.refl _ _ | refine Below.drew ?_ | refine Below.drewN' ?_ _ | refine Below.alloc ?_ (by first | (simp; done) | (simp; omega)) _ | refine Below.setCell ?_ (by first | (simp; done) | (simp; omega)) _))⟩
set_option maxRecDepth 100000 in
set_option maxHeartbeats 1000000 in
theorem cgSN (a : Option Addr) (n cap : Nat) (zs : List Int) (w : World) (h : IRow w a n zs) (hn : n ≤ 1048576) (hok : codeB zs n = false) : Calls Tryd.prog 116 #[.slice a n cap] w fun e w' => e = .returned (.tuple #[.agg #[.slice none 0 0], .bool false]) ∧ Below w.heap.size w w' := by
  have HA := Lib.hid ((h.alloc (.cells #[.slice none 0 0] 48)).alloc (.cells #[.slice a n cap] 48))
  have HR := Lib.hid ((CIn.new w (.slice none 0 0) 48).below (belowD _ (.cells #[.slice a n cap] 48)))
  have es : (w.alloc (.cells #[.slice none 0 0] 48)).heap.size = w.heap.size + 1 := by simp
  have HC : Hid (CIn ((w.alloc (.cells #[.slice none 0 0] 48)).alloc (.cells #[.slice a n cap] 48)) (w.heap.size + 1) (.slice a n cap)) := Lib.hid (by
    have := CIn.new (w.alloc (.cells #[.slice none 0 0] 48)) (.slice a n cap) 48
    rw [es] at this
    exact this)
  clear es
  clear h
  go_enter Tryd.func116, Tryd.ntmps116
  go_wp2_with (first | (go_at_call 80; refine (cdis_spec _ a n cap zs _ HA.out hn HC.out.2.1).mono ?_; rintro e w' ⟨rfl, rfl⟩) | go_in)
  exact bodyPost_ret (v := .tuple #[.agg #[.slice none 0 0], .bool false]) (by simp [results, Tryd.results116, go_sem]) rfl
    ⟨rfl, (by repeat (first | exact Below.refl _ _ | refine Below.drew ?_ | refine Below.drewN' ?_ _ | refine Below.alloc ?_ (by first | (simp; done) | (simp; omega)) _ | refine Below.setCell ?_ (by first | (simp; done) | (simp; omega)) _))⟩
set_option maxRecDepth 100000 in
set_option maxHeartbeats 1000000 in
theorem cgIY (a : Option Addr) (n cap : Nat) (zs : List Int) (w : World) (h : IRow w a n zs) (hn : n ≤ 1048576) (hok : codeB zs n = true) : Calls Tryd.prog 83 #[.slice a n cap] w fun e w' => e = .returned (.tuple #[.agg #[.slice a n cap], .bool true]) ∧ Below w.heap.size w w' := by
  have HA := Lib.hid ((h.alloc (.cells #[.slice none 0 0] 48)).alloc (.cells #[.slice a n cap] 48))
  have HR := Lib.hid ((CIn.new w (.slice none 0 0) 48).below (belowD _ (.cells #[.slice a n cap] 48)))
  have es : (w.alloc (.cells #[.slice none 0 0] 48)).heap.size = w.heap.size + 1 := by simp
  have HC : Hid (CIn ((w.alloc (.cells #[.slice none 0 0] 48)).alloc (.cells #[.slice a n cap] 48)) (w.heap.size + 1) (.slice a n cap)) := Lib.hid (by
    have := CIn.new (w.alloc (.cells #[.slice none 0 0] 48)) (.slice a n cap) 48
    rw [es] at this
    exact this)
  clear es
  clear h
  go_enter Tryd.func83, Tryd.ntmps83
  go_wp2_with (first | (go_at_call 81; refine (vc_impl a n cap zs _ HA.out hn).mono ?_; rintro e w2 ⟨rfl, hb⟩; have HB := Lib.hid hb; obtain ⟨hl1, hr1, hr2⟩ := HR.out.below hb; obtain ⟨hl2, hc1, hc2⟩ := HC.out.below hb; have HP := Lib.hid ((HR.out.below hb).put (.slice a n cap)); clear hb) | go_in)
  exact bodyPost_ret (v := .tuple #[.agg #[.slice a n cap], .bool true]) (by simp [results, Tryd.results83, go_sem, HP.out]) rfl
    ⟨rfl, by repeat (first | exact Below.next (Below.next (belowD _ _) (belowD _ _)) HB.out | refine Below.setCell ?_ (by first | (simp; done) | (simp; omega)) _)⟩
set_option maxRecDepth 100000 in
set_option maxHeartbeats 1000000 in
theorem cgIN (a : Option Addr) (n cap : Nat) (zs : List Int) (w : World) (h : IRow w a n zs) (hn : n ≤ 1048576) (hok : codeB zs n = false) : Calls Tryd.prog 83 #[.slice a n cap] w fun e w' => e = .returned (.tuple #[.agg #[.slice none 0 0], .bool false]) ∧ Below w.heap.size w w' := by
  have HA := Lib.hid ((h.alloc (.cells #[.slice none 0 0] 48)).alloc (.cells #[.slice a n cap] 48))
  have HR := Lib.hid ((CIn.new w (.slice none 0 0) 48).below (belowD _ (.cells #[.slice a n cap] 48)))
  have es : (w.alloc (.cells #[.slice none 0 0] 48)).heap.size = w.heap.size + 1 := by simp
  have HC : Hid (CIn ((w.alloc (.cells #[.slice none 0 0] 48)).alloc (.cells #[.slice a n cap] 48)) (w.heap.size + 1) (.slice a n cap)) := Lib.hid (by
    have := CIn.new (w.alloc (.cells #[.slice none 0 0] 48)) (.slice a n cap) 48
    rw [es] at this
    exact this)
  clear es
  clear h
  go_enter Tryd.func83, Tryd.ntmps83
  go_wp2_with (first | (go_at_call 81; refine (vc_impl a n cap zs _ HA.out hn).mono ?_; rintro e w2 ⟨rfl, hb⟩; have HB := Lib.hid hb; obtain ⟨hl1, hr1, hr2⟩ := HR.out.below hb; obtain ⟨hl2, hc1, hc2⟩ := HC.out.below hb; have HP := Lib.hid ((HR.out.below hb).put (.slice none 0 0)); clear hb) | go_in)
  exact bodyPost_ret (v := .tuple #[.agg #[.slice none 0 0], .bool false]) (by simp [results, Tryd.results83, go_sem, HP.out]) rfl
    ⟨rfl, by repeat (first | exact Below.next (Below.next (belowD _ _) (belowD _ _)) HB.out | refine Below.setCell ?_ (by first | (simp; done) | (simp; omega)) _)⟩
theorem irow_set {w : World} {g o n p : Nat} {zs : List Int} (h : IRow w (some ⟨g, o, none⟩) n zs) (hp : p ≠ g) (v : Value) : IRow (w.setCell ⟨p, 0, none⟩ v) (some ⟨g, o, none⟩) n zs := by
  obtain ⟨hl, h⟩ := h
  refine ⟨hl, ?_⟩
  rcases h with h | ⟨b, o2, e, hb, hc⟩
  · exact .inl h
  · refine .inr ⟨b, o2, e, by rw [World.size_setCell]; exact hb, fun i hi => ?_⟩
    have hbg : b = g := by injection e with e; injection e with e1; exact e1.symm
    rw [World.cell?_setCell_other (h := fun e2 => by injection e2 with e3; exact hp (e3.trans hbg))]
    exact hc i hi
theorem new_set {w w6 : World} {g n p : Nat} {zs : List Int} (h1 : w.heap.size ≤ g) (h2 : g < w6.heap.size) (hr : IRow w6 (some ⟨g, 0, none⟩) n zs) (hf : ∀ j, j < n → w6.frozen? ⟨g, j, none⟩ = false) (hb : Below w.heap.size w w6) (hp : p ≠ g) (hp2 : w.heap.size ≤ p) (v : Value) : New w (w6.setCell ⟨p, 0, none⟩ v) g (.il n zs) :=
  ⟨h1, by rw [World.size_setCell]; exact h2, Ent.il_ok (irow_set hr hp v) (fun j hj => by rw [World.frozen?_setCell]; exact hf j hj), hb.setCell hp2 v⟩
end Go.Proofs.YthkabonnclfhmaaDoor.Cg
