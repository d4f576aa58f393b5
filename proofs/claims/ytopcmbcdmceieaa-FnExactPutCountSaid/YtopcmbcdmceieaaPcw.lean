/- PutCount: the functions. -/
import Derived.Test.YtopcmbcdmceieaaEct
namespace Go.Proofs.Ytopcmbcdmceieaa
open Go.Proofs.Ytopcmbcdmceieaa.Flo Go.RowKit

def pcL (zs : List Int) (l b : Int) : List Int := zs.set l.toNat (zs.getD l.toNat 0 + b)
/-- What must hold ahead of the sum. -/
def pcA (r : Int) (zs : List Int) (n : Nat) (l b : Int) : Bool := coB r zs n && (decide (0 ≤ l ∧ l < r) && decide (0 ≤ b ∧ b ≤ 16384))
def pcB (r : Int) (zs : List Int) (n : Nat) (l b : Int) : Bool := pcA r zs n l b && coB r (pcL zs l b) n
theorem pcA_out {r : Int} {zs : List Int} {n : Nat} {l b : Int} (h : pcA r zs n l b = true) : coB r zs n = true ∧ (0 ≤ l ∧ l < r) ∧ (0 ≤ b ∧ b ≤ 16384) := by
  unfold pcA at h
  rw [Bool.and_eq_true, Bool.and_eq_true] at h
  exact ⟨h.1, of_decide_eq_true h.2.1, of_decide_eq_true h.2.2⟩
theorem pc_out {r : Int} {zs : List Int} {n : Nat} {l b : Int} (h : pcB r zs n l b = true) : pcA r zs n l b = true ∧ coB r (pcL zs l b) n = true := by
  unfold pcB at h
  rw [Bool.and_eq_true] at h
  exact h
theorem pc_n {r : Int} {zs : List Int} {n : Nat} {l b : Int} (h : pcB r zs n l b = true) : n ≤ 1048576 := by
  have := (co_out (pcA_out (pc_out h).1).1).2.1
  omega
theorem own_monoB {w : World} {base base' : Nat} {T : TypeId} {v : Value} {k : Nat} {xs : List Value} (h : w.ownsRow base T 1 v k xs) (hb : base' ≤ base) : w.ownsRow base' T 1 v k xs := by
  obtain ⟨hl, h2⟩ := h
  refine ⟨hl, ?_⟩
  rcases h2 with h2 | ⟨g, cap, cur, e1, e2, e3⟩
  · exact .inl h2
  · exact .inr ⟨g, cap, cur, e1, Nat.le_trans hb e2, e3⟩
theorem own_empty2 (w : World) (o : Obj) (T : TypeId) : ((w.alloc o).alloc (.cells #[] T)).ownsRow w.heap.size T 1 (.slice (some ⟨w.heap.size + 1, 0, none⟩) 0 0) 0 [] := by
  have h := own_empty (w.alloc o) T
  rw [show (w.alloc o).heap.size = w.heap.size + 1 by simp] at h
  exact own_monoB h (by omega)
set_option maxRecDepth 100000 in
set_option maxHeartbeats 2000000 in
theorem k5SY (r : Int) (a : Option Addr) (n cap : Nat) (zs : List Int) (w : World) (h : IRow w a n zs) (hn : n ≤ 1048576) (hok : coB r zs n = true) :
    Calls Try.prog 70 #[.agg #[.int .i64 r, .slice a n cap]] w fun e w' => e = .returned (.tuple #[.agg #[.int .i64 r, .slice a n cap], .bool true]) ∧ Below w.heap.size w w' := by
  have HA := Lib.hid ((h.alloc (.cells #[.int .i64 r, .slice a n cap] 30)).alloc (.cells #[.int .i64 0, .slice none 0 0] 30))
  have HOK := Lib.hid hok
  have HC := Lib.hid ((Kin.new (w := w) (x := .int .i64 r) (y := .slice a n cap) (T := 30)).below (below_alloc _ (.cells #[.int .i64 0, .slice none 0 0] 30)))
  have HR : Hid (Kin ((w.alloc (.cells #[.int .i64 r, .slice a n cap] 30)).alloc (.cells #[.int .i64 0, .slice none 0 0] 30)) (w.heap.size + 1) (.int .i64 0) (.slice none 0 0)) := Lib.hid (Kin.new' (by simp))
  clear h hok
  go_enter Try.func70, Try.ntmps70
  go_wp2_with (first | (go_at_call 61; refine (co_spec _ r a n cap zs _ HA.out hn HC.out.2.1 HC.out.2.2.1).mono ?_; rw [HOK.out]; rintro e w' ⟨rfl, hd⟩; have HC2 := Lib.hid (HC.out.below hd.below); have HR2 := Lib.hid (HR.out.below hd.below); have HB := Lib.hid (Below.next (Below.alloc (below_alloc _ _) (by simp) _) hd.below : Below w.heap.size w w'); obtain ⟨hP, hp0, hp1, hpf0, hpf1⟩ := HC2.out; obtain ⟨hQ, hq0, hq1, hqf0, hqf1⟩ := HR2.out; clear hd) | go_in)
  obtain ⟨_, hr1, hr2⟩ := HR2.out.res (.int .i64 r) (.slice a n cap)
  exact bodyPost_ret (v := .tuple #[.agg #[.int .i64 r, .slice a n cap], .bool true]) (by simp [results, Try.results70, go_sem, hr1, hr2]) rfl
    ⟨rfl, Below.setCell (Below.setCell HB.out (by simp) _) (by simp) _⟩
set_option maxRecDepth 100000 in
set_option maxHeartbeats 2000000 in
theorem k5SN (r : Int) (a : Option Addr) (n cap : Nat) (zs : List Int) (w : World) (h : IRow w a n zs) (hn : n ≤ 1048576) (hok : coB r zs n = false) :
    Calls Try.prog 70 #[.agg #[.int .i64 r, .slice a n cap]] w fun e w' => e = .returned (.tuple #[.agg #[.int .i64 0, .slice none 0 0], .bool false]) ∧ Below w.heap.size w w' := by
  have HA := Lib.hid ((h.alloc (.cells #[.int .i64 r, .slice a n cap] 30)).alloc (.cells #[.int .i64 0, .slice none 0 0] 30))
  have HOK := Lib.hid hok
  have HC := Lib.hid ((Kin.new (w := w) (x := .int .i64 r) (y := .slice a n cap) (T := 30)).below (below_alloc _ (.cells #[.int .i64 0, .slice none 0 0] 30)))
  have HR : Hid (Kin ((w.alloc (.cells #[.int .i64 r, .slice a n cap] 30)).alloc (.cells #[.int .i64 0, .slice none 0 0] 30)) (w.heap.size + 1) (.int .i64 0) (.slice none 0 0)) := Lib.hid (Kin.new' (by simp))
  clear h hok
  go_enter Try.func70, Try.ntmps70
  go_wp2_with (first | (go_at_call 61; refine (co_spec _ r a n cap zs _ HA.out hn HC.out.2.1 HC.out.2.2.1).mono ?_; rw [HOK.out]; rintro e w' ⟨rfl, hd⟩; have HR2 := Lib.hid (HR.out.below hd.below); have HB := Lib.hid (Below.next (Below.alloc (below_alloc _ _) (by simp) _) hd.below : Below w.heap.size w w'); obtain ⟨hQ, hq0, hq1, hqf0, hqf1⟩ := HR2.out; clear hd) | go_in)
  obtain ⟨_, hr1, hr2⟩ := HR2.out.res (.int .i64 0) (.slice none 0 0)
  exact bodyPost_ret (v := .tuple #[.agg #[.int .i64 0, .slice none 0 0], .bool false]) (by simp [results, Try.results70, go_sem, hr1, hr2]) rfl
    ⟨rfl, Below.setCell (Below.setCell HB.out (by simp) _) (by simp) _⟩
set_option maxRecDepth 100000 in
set_option maxHeartbeats 2000000 in
theorem k5IY (r : Int) (a : Option Addr) (n cap : Nat) (zs : List Int) (w : World) (h : IRow w a n zs) (hn : n ≤ 1048576) (hok : coB r zs n = true) :
    Calls Try.prog 72 #[.agg #[.int .i64 r, .slice a n cap]] w fun e w' => e = .returned (.tuple #[.agg #[.int .i64 r, .slice a n cap], .bool true]) ∧ Below w.heap.size w w' := by
  have HA := Lib.hid ((h.alloc (.cells #[.int .i64 r, .slice a n cap] 30)).alloc (.cells #[.int .i64 0, .slice none 0 0] 30))
  have HOK := Lib.hid hok
  have HC := Lib.hid ((Kin.new (w := w) (x := .int .i64 r) (y := .slice a n cap) (T := 30)).below (below_alloc _ (.cells #[.int .i64 0, .slice none 0 0] 30)))
  have HR : Hid (Kin ((w.alloc (.cells #[.int .i64 r, .slice a n cap] 30)).alloc (.cells #[.int .i64 0, .slice none 0 0] 30)) (w.heap.size + 1) (.int .i64 0) (.slice none 0 0)) := Lib.hid (Kin.new' (by simp))
  clear h hok
  go_enter Try.func72, Try.ntmps72
  go_wp2_with (first | (go_at_call 22; refine (vco_impl r a n cap zs _ HA.out hn).mono ?_; rw [HOK.out]; rintro e w' ⟨rfl, hd⟩; have HC2 := Lib.hid (HC.out.below hd); have HR2 := Lib.hid (HR.out.below hd); have HB := Lib.hid (Below.next (Below.alloc (below_alloc _ _) (by simp) _) hd : Below w.heap.size w w'); obtain ⟨hP, hp0, hp1, hpf0, hpf1⟩ := HC2.out; obtain ⟨hQ, hq0, hq1, hqf0, hqf1⟩ := HR2.out; clear hd) | go_in)
  obtain ⟨_, hr1, hr2⟩ := HR2.out.res (.int .i64 r) (.slice a n cap)
  exact bodyPost_ret (v := .tuple #[.agg #[.int .i64 r, .slice a n cap], .bool true]) (by simp [results, Try.results72, go_sem, hr1, hr2]) rfl
    ⟨rfl, Below.setCell (Below.setCell HB.out (by simp) _) (by simp) _⟩
set_option maxRecDepth 100000 in
set_option maxHeartbeats 2000000 in
theorem k5IN (r : Int) (a : Option Addr) (n cap : Nat) (zs : List Int) (w : World) (h : IRow w a n zs) (hn : n ≤ 1048576) (hok : coB r zs n = false) :
    Calls Try.prog 72 #[.agg #[.int .i64 r, .slice a n cap]] w fun e w' => e = .returned (.tuple #[.agg #[.int .i64 0, .slice none 0 0], .bool false]) ∧ Below w.heap.size w w' := by
  have HA := Lib.hid ((h.alloc (.cells #[.int .i64 r, .slice a n cap] 30)).alloc (.cells #[.int .i64 0, .slice none 0 0] 30))
  have HOK := Lib.hid hok
  have HC := Lib.hid ((Kin.new (w := w) (x := .int .i64 r) (y := .slice a n cap) (T := 30)).below (below_alloc _ (.cells #[.int .i64 0, .slice none 0 0] 30)))
  have HR : Hid (Kin ((w.alloc (.cells #[.int .i64 r, .slice a n cap] 30)).alloc (.cells #[.int .i64 0, .slice none 0 0] 30)) (w.heap.size + 1) (.int .i64 0) (.slice none 0 0)) := Lib.hid (Kin.new' (by simp))
  clear h hok
  go_enter Try.func72, Try.ntmps72
  go_wp2_with (first | (go_at_call 22; refine (vco_impl r a n cap zs _ HA.out hn).mono ?_; rw [HOK.out]; rintro e w' ⟨rfl, hd⟩; have HR2 := Lib.hid (HR.out.below hd); have HB := Lib.hid (Below.next (Below.alloc (below_alloc _ _) (by simp) _) hd : Below w.heap.size w w'); obtain ⟨hQ, hq0, hq1, hqf0, hqf1⟩ := HR2.out; clear hd) | go_in)
  obtain ⟨_, hr1, hr2⟩ := HR2.out.res (.int .i64 0) (.slice none 0 0)
  exact bodyPost_ret (v := .tuple #[.agg #[.int .i64 0, .slice none 0 0], .bool false]) (by simp [results, Try.results72, go_sem, hr1, hr2]) rfl
    ⟨rfl, Below.setCell (Below.setCell HB.out (by simp) _) (by simp) _⟩
end Go.Proofs.Ytopcmbcdmceieaa
