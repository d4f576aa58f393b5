
/- Parities: ValidParity, the model's; a code, or none. -/
import Derived.Test.YtaefmffmjbabcaaPis
namespace Go.Proofs.Ytaefmffmjbabcaa
open Go.Proofs.Ytaefmffmjbabcaa.Flo Go.RowKit Go.Proofs.Ytaefmffmjbabcaa.Pr

theorem own_monoB {w : World} {base base' : Nat} {T : TypeId} {v : Value} {k : Nat} {xs : List Value} (h : w.ownsRow base T 1 v k xs) (hb : base' ≤ base) : w.ownsRow base' T 1 v k xs := by
  obtain ⟨hl, h2⟩ := h
  refine ⟨hl, ?_⟩
  rcases h2 with h2 | ⟨g, cap, cur, e1, e2, e3⟩
  · exact .inl h2
  · exact .inr ⟨g, cap, cur, e1, Nat.le_trans hb e2, e3⟩
theorem own_empty2 (w : World) (o : Obj) (T : TypeId) : ((w.alloc o).alloc (.cells #[] T)).ownsRow w.heap.size T 1 (.slice (some ⟨w.heap.size + 1, 0, none⟩) 0 0) 0 [] := by
  have h := own_empty (w.alloc o) T
  rw [show (w.alloc o).heap.size = w.heap.size + 1 by simp] at h
  exact own_monoB h (by omega)
set_option maxRecDepth 100000 in
set_option maxHeartbeats 2000000 in
theorem p6SY (r : Int) (a : Option Addr) (n cap : Nat) (zs : List Int) (w : World) (h : IRow w a n zs) (hn : n ≤ 1048576) (hok : paB r zs n = true) :
    Calls Try.prog 109 #[.agg #[.int .i64 r, .slice a n cap]] w fun e w' => e = .returned (.tuple #[.agg #[.int .i64 r, .slice a n cap], .bool true]) ∧ Below w.heap.size w w' := by
  have HA := Lib.hid ((h.alloc (.cells #[.int .i64 r, .slice a n cap] 28)).alloc (.cells #[.int .i64 0, .slice none 0 0] 28))
  have HOK := Lib.hid hok
  have HC := Lib.hid ((Kin.new (w := w) (x := .int .i64 r) (y := .slice a n cap) (T := 28)).below (below_alloc _ (.cells #[.int .i64 0, .slice none 0 0] 28)))
  have HR : Hid (Kin ((w.alloc (.cells #[.int .i64 r, .slice a n cap] 28)).alloc (.cells #[.int .i64 0, .slice none 0 0] 28)) (w.heap.size + 1) (.int .i64 0) (.slice none 0 0)) := Lib.hid (Kin.new' (by simp))
  clear h hok
  go_enter Try.func109, Try.ntmps109
  go_wp2_with (first | (go_at_call 108; refine (pi_spec _ r a n cap zs _ HA.out hn HC.out.1 HC.out.2.1 HC.out.2.2.1).mono ?_; rw [HOK.out]; rintro e w' ⟨rfl, hd⟩; have HC2 := Lib.hid (HC.out.below hd); have HR2 := Lib.hid (HR.out.below hd); have HB := Lib.hid (Below.next (Below.alloc (below_alloc _ _) (by simp) _) hd : Below w.heap.size w w'); obtain ⟨hP, hp0, hp1, hpf0, hpf1⟩ := HC2.out; obtain ⟨hQ, hq0, hq1, hqf0, hqf1⟩ := HR2.out; clear hd) | go_in)
  obtain ⟨_, hr1, hr2⟩ := HR2.out.res (.int .i64 r) (.slice a n cap)
  exact bodyPost_ret (v := .tuple #[.agg #[.int .i64 r, .slice a n cap], .bool true]) (by simp [results, Try.results109, go_sem, hr1, hr2]) rfl
    ⟨rfl, Below.setCell (Below.setCell HB.out (by simp) _) (by simp) _⟩
set_option maxRecDepth 100000 in
set_option maxHeartbeats 2000000 in
theorem p6SN (r : Int) (a : Option Addr) (n cap : Nat) (zs : List Int) (w : World) (h : IRow w a n zs) (hn : n ≤ 1048576) (hok : paB r zs n = false) :
    Calls Try.prog 109 #[.agg #[.int .i64 r, .slice a n cap]] w fun e w' => e = .returned (.tuple #[.agg #[.int .i64 0, .slice none 0 0], .bool false]) ∧ Below w.heap.size w w' := by
  have HA := Lib.hid ((h.alloc (.cells #[.int .i64 r, .slice a n cap] 28)).alloc (.cells #[.int .i64 0, .slice none 0 0] 28))
  have HOK := Lib.hid hok
  have HC := Lib.hid ((Kin.new (w := w) (x := .int .i64 r) (y := .slice a n cap) (T := 28)).below (below_alloc _ (.cells #[.int .i64 0, .slice none 0 0] 28)))
  have HR : Hid (Kin ((w.alloc (.cells #[.int .i64 r, .slice a n cap] 28)).alloc (.cells #[.int .i64 0, .slice none 0 0] 28)) (w.heap.size + 1) (.int .i64 0) (.slice none 0 0)) := Lib.hid (Kin.new' (by simp))
  clear h hok
  go_enter Try.func109, Try.ntmps109
  go_wp2_with (first | (go_at_call 108; refine (pi_spec _ r a n cap zs _ HA.out hn HC.out.1 HC.out.2.1 HC.out.2.2.1).mono ?_; rw [HOK.out]; rintro e w' ⟨rfl, hd⟩; have HR2 := Lib.hid (HR.out.below hd); have HB := Lib.hid (Below.next (Below.alloc (below_alloc _ _) (by simp) _) hd : Below w.heap.size w w'); obtain ⟨hQ, hq0, hq1, hqf0, hqf1⟩ := HR2.out; clear hd) | go_in)
  obtain ⟨_, hr1, hr2⟩ := HR2.out.res (.int .i64 0) (.slice none 0 0)
  exact bodyPost_ret (v := .tuple #[.agg #[.int .i64 0, .slice none 0 0], .bool false]) (by simp [results, Try.results109, go_sem, hr1, hr2]) rfl
    ⟨rfl, Below.setCell (Below.setCell HB.out (by simp) _) (by simp) _⟩
set_option maxRecDepth 100000 in
set_option maxHeartbeats 2000000 in
theorem p6IY (r : Int) (a : Option Addr) (n cap : Nat) (zs : List Int) (w : World) (h : IRow w a n zs) (hn : n ≤ 1048576) (hok : paB r zs n = true) :
    Calls Try.prog 114 #[.agg #[.int .i64 r, .slice a n cap]] w fun e w' => e = .returned (.tuple #[.agg #[.int .i64 r, .slice a n cap], .bool true]) ∧ Below w.heap.size w w' := by
  have HA := Lib.hid ((h.alloc (.cells #[.int .i64 r, .slice a n cap] 28)).alloc (.cells #[.int .i64 0, .slice none 0 0] 28))
  have HOK := Lib.hid hok
  have HC := Lib.hid ((Kin.new (w := w) (x := .int .i64 r) (y := .slice a n cap) (T := 28)).below (below_alloc _ (.cells #[.int .i64 0, .slice none 0 0] 28)))
  have HR : Hid (Kin ((w.alloc (.cells #[.int .i64 r, .slice a n cap] 28)).alloc (.cells #[.int .i64 0, .slice none 0 0] 28)) (w.heap.size + 1) (.int .i64 0) (.slice none 0 0)) := Lib.hid (Kin.new' (by simp))
  clear h hok
  go_enter Try.func114, Try.ntmps114
  go_wp2_with (first | (go_at_call 149; refine (vp_impl r a n cap zs _ HA.out hn).mono ?_; rw [HOK.out]; rintro e w' ⟨rfl, hd⟩; have HC2 := Lib.hid (HC.out.below hd); have HR2 := Lib.hid (HR.out.below hd); have HB := Lib.hid (Below.next (Below.alloc (below_alloc _ _) (by simp) _) hd : Below w.heap.size w w'); obtain ⟨hP, hp0, hp1, hpf0, hpf1⟩ := HC2.out; obtain ⟨hQ, hq0, hq1, hqf0, hqf1⟩ := HR2.out; clear hd) | go_in)
  obtain ⟨_, hr1, hr2⟩ := HR2.out.res (.int .i64 r) (.slice a n cap)
  exact bodyPost_ret (v := .tuple #[.agg #[.int .i64 r, .slice a n cap], .bool true]) (by simp [results, Try.results114, go_sem, hr1, hr2]) rfl
    ⟨rfl, Below.setCell (Below.setCell HB.out (by simp) _) (by simp) _⟩
set_option maxRecDepth 100000 in
set_option maxHeartbeats 2000000 in
theorem p6IN (r : Int) (a : Option Addr) (n cap : Nat) (zs : List Int) (w : World) (h : IRow w a n zs) (hn : n ≤ 1048576) (hok : paB r zs n = false) :
    Calls Try.prog 114 #[.agg #[.int .i64 r, .slice a n cap]] w fun e w' => e = .returned (.tuple #[.agg #[.int .i64 0, .slice none 0 0], .bool false]) ∧ Below w.heap.size w w' := by
  have HA := Lib.hid ((h.alloc (.cells #[.int .i64 r, .slice a n cap] 28)).alloc (.cells #[.int .i64 0, .slice none 0 0] 28))
  have HOK := Lib.hid hok
  have HC := Lib.hid ((Kin.new (w := w) (x := .int .i64 r) (y := .slice a n cap) (T := 28)).below (below_alloc _ (.cells #[.int .i64 0, .slice none 0 0] 28)))
  have HR : Hid (Kin ((w.alloc (.cells #[.int .i64 r, .slice a n cap] 28)).alloc (.cells #[.int .i64 0, .slice none 0 0] 28)) (w.heap.size + 1) (.int .i64 0) (.slice none 0 0)) := Lib.hid (Kin.new' (by simp))
  clear h hok
  go_enter Try.func114, Try.ntmps114
  go_wp2_with (first | (go_at_call 149; refine (vp_impl r a n cap zs _ HA.out hn).mono ?_; rw [HOK.out]; rintro e w' ⟨rfl, hd⟩; have HR2 := Lib.hid (HR.out.below hd); have HB := Lib.hid (Below.next (Below.alloc (below_alloc _ _) (by simp) _) hd : Below w.heap.size w w'); obtain ⟨hQ, hq0, hq1, hqf0, hqf1⟩ := HR2.out; clear hd) | go_in)
  obtain ⟨_, hr1, hr2⟩ := HR2.out.res (.int .i64 0) (.slice none 0 0)
  exact bodyPost_ret (v := .tuple #[.agg #[.int .i64 0, .slice none 0 0], .bool false]) (by simp [results, Try.results114, go_sem, hr1, hr2]) rfl
    ⟨rfl, Below.setCell (Below.setCell HB.out (by simp) _) (by simp) _⟩
end Go.Proofs.Ytaefmffmjbabcaa
