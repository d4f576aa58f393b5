
/- ExtendParity: the functions. -/
import Derived.Test.YtjlifbnenngijaaRpy
import Derived.Test.YtjlifbnenngijaaWgt
import Derived.Test.YtjlifbnenngijaaAnb
import Derived.Deep.DrawnRows
set_option linter.unusedSimpArgs false
namespace Go.Proofs.Ytjlifbnenngijaa
open Go.Proofs.Ytjlifbnenngijaa.Flo Go.RowKit Go.Proofs.Ytjlifbnenngijaa.Pr
attribute [local go_sem ↓] Go.wp_at_zero Go.wp_at_succ

/-- A word with a bit more. -/
def exv (m y : Nat) : Nat := if wt y % 2 = 1 then y ||| 2 ^ m else y
def exL (m : Nat) (z : Nat → Nat) : Nat → List Int
  | 0 => []
  | k + 1 => exL m z k ++ [((exv m (z k) : Nat) : Int)]
theorem exL_on (m : Nat) (z : Nat → Nat) (k : Nat) : (exL m z (k + 1)).map (Value.int .i64) = (exL m z k).map (Value.int .i64) ++ [.int .i64 ((exv m (z k) : Nat) : Int)] := by
  show (exL m z k ++ [_]).map (Value.int .i64) = _
  simp
def exB (r : Int) (zs : List Int) (n : Nat) : Bool := paB r zs n && paB (r + 1) (exL r.toNat (zN zs) n) n
theorem exB_out {r : Int} {zs : List Int} {n : Nat} (h : exB r zs n = true) : paB r zs n = true ∧ paB (r + 1) (exL r.toNat (zN zs) n) n = true := by
  unfold exB at h; rw [Bool.and_eq_true] at h; exact h
theorem exB_no {r : Int} {zs : List Int} {n : Nat} (h : exB r zs n = false) : paB r zs n = false ∨ (paB r zs n = true ∧ paB (r + 1) (exL r.toNat (zN zs) n) n = false) := by
  unfold exB at h
  cases ha : paB r zs n with
  | false => exact .inl rfl
  | true => rw [ha] at h; exact .inr ⟨rfl, by simpa using h⟩
set_option maxRecDepth 100000 in
set_option maxHeartbeats 2000000 in
theorem ex_implA (r : Int) (a : Option Addr) (n cap : Nat) (zs : List Int) (w : World) (h : IRow w a n zs) (hn : n ≤ 1048576) (hok : paB r zs n = false) : Calls Try.prog 18 #[.agg #[.int .i64 r, .slice a n cap]] w (YNone w) := by
  have HA2 : Hid (IRow ((w.alloc (.cells #[.int .i64 r, .slice a n cap] 28)).alloc (.cells #[.int .i64 0, .slice none 0 0] 28)) a n zs) := Lib.hid ((h.alloc _).alloc _)
  have HC := Lib.hid ((Kin.new (w := w) (x := .int .i64 r) (y := .slice a n cap) (T := 28)).below (below_alloc _ (.cells #[.int .i64 0, .slice none 0 0] 28)))
  have HR : Hid (Kin ((w.alloc (.cells #[.int .i64 r, .slice a n cap] 28)).alloc (.cells #[.int .i64 0, .slice none 0 0] 28)) (w.heap.size + 1) (.int .i64 0) (.slice none 0 0)) := Lib.hid (Kin.new' (by simp))
  have HOK := Lib.hid hok
  clear h hok
  go_enter Try.func18, Try.ntmps18
  go_wp2_with (first | (go_at_call 34; refine (vp_impl r _ n cap zs _ HA2.out hn).mono ?_; rw [HOK.out]; rintro e w2 ⟨rfl, hd⟩; have HC2 := Lib.hid (HC.out.below hd); have HR2 := Lib.hid (HR.out.below hd); have HB := Lib.hid (Below.next (Below.alloc (below_alloc _ _) (by simp) _) hd : Below w.heap.size w w2); obtain ⟨hP, hp0, hp1, hpf0, hpf1⟩ := HC2.out; obtain ⟨hQ, hq0, hq1, hqf0, hqf1⟩ := HR2.out; clear hd) | fail)
  obtain ⟨_, hr1, hr2⟩ := HR2.out.res (.int .i64 0) (.slice none 0 0)
  exact bodyPost_ret (v := .tuple #[.agg #[.int .i64 0, .slice none 0 0], .bool false]) (by simp [results, Try.results18, go_sem, hr1, hr2]) rfl
    ⟨rfl, Below.setCell (Below.setCell HB.out (by simp) _) (by simp) _⟩
set_option maxRecDepth 100000 in
set_option maxHeartbeats 4000000 in
theorem ex_implY (r : Int) (a : Option Addr) (n cap : Nat) (zs : List Int) (w : World) (h : IRow w a n zs) (hn : n ≤ 1048576) (hok : paB r zs n = true) (hok2 : paB (r + 1) (exL r.toNat (zN zs) n) n = true) : Calls Try.prog 18 #[.agg #[.int .i64 r, .slice a n cap]] w (YPost (r + 1) n (exL r.toNat (zN zs) n) w) := by
  obtain ⟨i0, hi, hz0, hz1, hz2⟩ := info_parts Try.info64
  obtain ⟨⟨hr1, hr2⟩, ⟨hn1, hn2⟩, hwo, _⟩ := pa_out hok
  obtain ⟨m, rfl⟩ : ∃ m : Nat, r = (m : Int) := ⟨r.toNat, by omega⟩
  rw [Int.toNat_natCast] at *
  have hm16 : m ≤ 16 := by omega
  have HWO := Lib.hid (woP_wide hwo hm16)
  have HA := Lib.hid h
  have HA2 : Hid (IRow ((w.alloc (.cells #[.int .i64 (m : Int), .slice a n cap] 28)).alloc (.cells #[.int .i64 0, .slice none 0 0] 28)) a n zs) := Lib.hid ((h.alloc _).alloc _)
  have HC := Lib.hid ((Kin.new (w := w) (x := .int .i64 (m : Int)) (y := .slice a n cap) (T := 28)).below (below_alloc _ (.cells #[.int .i64 0, .slice none 0 0] 28)))
  have HR : Hid (Kin ((w.alloc (.cells #[.int .i64 (m : Int), .slice a n cap] 28)).alloc (.cells #[.int .i64 0, .slice none 0 0] 28)) (w.heap.size + 1) (.int .i64 0) (.slice none 0 0)) := Lib.hid (Kin.new' (by simp))
  have HOK := Lib.hid hok
  have HOK2 := Lib.hid hok2
  have hwm : IntKind.i64.wrap ((m : Int) + 1) = (m : Int) + 1 := IntWalk.i64_in _ (by omega)
  obtain ⟨hp0', hp1'⟩ := p2_16 hm16
  have hwp : IntKind.i64.wrap ((2 : Int) ^ m) = 2 ^ m := IntWalk.i64_in _ (by omega)
  have hwp1 : IntKind.i64.wrap (1 * (2 : Int) ^ m) = 2 ^ m := by rw [Int.one_mul]; exact hwp
  have hcast : ((2 ^ m : Nat) : Int) = (2 : Int) ^ m := by rw [Int.natCast_pow]; rfl
  have hp62 : 2 ^ m ≤ 65536 := Nat.pow_le_pow_right (by decide) hm16
  have hmin : min m 64 = m := by omega
  have hwu : IntKind.u64.wrap (m : Int) = (m : Int) := by rw [IntKind.wrap_u64]; omega
  have hw0 : IntKind.i64.wrap 0 = 0 := by decide
  clear h hok hok2 hwo
  go_enter Try.func18, Try.ntmps18
  go_wp2_with (first | (go_at_call 34; refine (vp_impl (m : Int) _ n cap zs _ HA2.out hn).mono ?_; rw [HOK.out]; rintro e w2 ⟨rfl, hd⟩; have HC2 := Lib.hid (HC.out.below hd); have HR2 := Lib.hid (HR.out.below hd); have HB := Lib.hid (Below.next (Below.alloc (below_alloc _ _) (by simp) _) hd : Below w.heap.size w w2); obtain ⟨hP, hp0, hp1, hpf0, hpf1⟩ := HC2.out; obtain ⟨hQ, hq0, hq1, hqf0, hqf1⟩ := HR2.out; clear hd) | fail)
  have hw2s : w.heap.size + 1 + 1 ≤ w2.heap.size := by have := HR2.out.1; omega
  clear hP hp0 hp1 hpf0 hpf1 hQ hq0 hq1 hqf0 hqf1
  go_loopw [4, 14] (fun v0 iv wr0 => ∃ (k : Nat) (v : Value) (wr : World), k ≤ n ∧ v = v0 ∧ iv = .int .i64 k ∧ wr = wr0 ∧ Hid (wr.ownsRow w2.heap.size 2 1 v k ((exL m (zN zs) k).map (Value.int .i64))) ∧ Hid (Below w2.heap.size w2 wr)) (fun _ iv _ => n - (intOf iv).toNat)
  case atStart => exact ⟨0, _, _, by omega, rfl, rfl, rfl, Lib.hid (World.ownsRow_nil _ _ _ _), Lib.hid (Below.refl _ _)⟩
  case round =>
    obtain ⟨k, v, wr, hk, rfl, rfl, rfl, HO, HW⟩ := hrel
    have HC3 := Lib.hid (HC2.out.below HW.out)
    have HR3 := Lib.hid (HR2.out.below HW.out)
    obtain ⟨hP, hp0, hp1, hpf0, hpf1⟩ := HC3.out
    by_cases hlt : k < n
    · obtain ⟨b1, o1, rfl, hblt, hck1⟩ := (HA.out.below (Below.next HB.out HW.out)).cell' hlt
      obtain ⟨hzk, hzl⟩ := zN_at HWO.out hlt
      rw [hzk] at hck1
      have HV : Hid (zN zs k < 65536) := Lib.hid hzl
      have HL := Lib.hid (exL_on m (zN zs) k)
      have hEY : wt (zN zs k) % 2 = 1 → exv m (zN zs k) = zN zs k ||| 2 ^ m := fun h => if_pos h
      have hEN : ¬ wt (zN zs k) % 2 = 1 → exv m (zN zs k) = zN zs k := fun h => if_neg h
      have hor := b_or (zN zs k) (2 ^ m) (by omega) (by omega)
      have hor0 : bits .or .i64 ((zN zs k : Nat) : Int) 0 = ((zN zs k : Nat) : Int) := by
        have h9 := b_or (zN zs k) 0 (by omega) (by omega)
        rw [Nat.or_zero] at h9
        exact h9
      rw [hcast] at hor
      generalize exv m (zN zs k) = E at HL hEY hEN
      generalize zN zs k ||| 2 ^ m = Q at hor hEY
      generalize zN zs k = y at hck1 HV hor hor0 hEY hEN
      have HNE := Lib.hid (own_block HO.out)
      have hsz := HW.out.size
      clear hzk hzl
      by_cases ho : wt y % 2 = 1
      · have HOD : Hid (odB y = true) := Lib.hid (decide_eq_true ho)
        obtain rfl := hEY ho
        clear hEN ho
        go_wp2_with (first | (go_at_call 35; refine (od_impl y _ HV.out).mono ?_; rw [HOD.out]; rintro e w' ⟨rfl, hw⟩; subst hw) | (at_builtin; refine wpList_append_lies _ rfl _ _ 22 rfl (w2.heap.size) 2 i0 (.int .i64 0) 1 8 Try.underlying22 hi hz0 hz1 hz2 rfl (by omega) v k ((exL m (zN zs) k).map (Value.int .i64)) rfl (World.ownsRow.alloc HO.out _) ⟨wr.heap.size, 0, none⟩ 1 1 [.int .i64 (E : Int)] rfl rfl (World.news_of_block (cs := #[.int .i64 (E : Int)]) (t := 2) (fr := (0, 0)) (heap_alloc_new _ _)) (by simp [Value.oneCell']) (by omega) (by unfold maxLen; omega) (by omega) (by simp; omega) (wr.heap.size + 1) (by simp) ?_; intro gg cp w3 hown1 hgrow hat hlt2; have HO2 := Lib.hid hown1; have HG2 := Lib.hid hgrow; clear hown1 hgrow hat hlt2) | fail)
        exact ⟨⟨k + 1, _, _, by omega, rfl, by first | rfl | go_num | (congr 1), rfl, Lib.hid (by rw [HL.out]; exact HO2.out), Lib.hid (Below.grown (Below.alloc HW.out HW.out.size _) HG2.out (by simp; omega) HNE.out)⟩, by show n - ((k : Int) + 1).toNat < n - (k : Int).toNat; omega⟩
      · have HOD : Hid (odB y = false) := Lib.hid (decide_eq_false ho)
        obtain rfl := hEN ho
        clear hEY ho
        go_wp2_with (first | (go_at_call 35; refine (od_impl E _ HV.out).mono ?_; rw [HOD.out]; rintro e w' ⟨rfl, hw⟩; subst hw) | (at_builtin; refine wpList_append_lies _ rfl _ _ 22 rfl (w2.heap.size) 2 i0 (.int .i64 0) 1 8 Try.underlying22 hi hz0 hz1 hz2 rfl (by omega) v k ((exL m (zN zs) k).map (Value.int .i64)) rfl (World.ownsRow.alloc HO.out _) ⟨wr.heap.size, 0, none⟩ 1 1 [.int .i64 (E : Int)] rfl rfl (World.news_of_block (cs := #[.int .i64 (E : Int)]) (t := 2) (fr := (0, 0)) (heap_alloc_new _ _)) (by simp [Value.oneCell']) (by omega) (by unfold maxLen; omega) (by omega) (by simp; omega) (wr.heap.size + 1) (by simp) ?_; intro gg cp w3 hown1 hgrow hat hlt2; have HO2 := Lib.hid hown1; have HG2 := Lib.hid hgrow; clear hown1 hgrow hat hlt2) | fail)
        exact ⟨⟨k + 1, _, _, by omega, rfl, by first | rfl | go_num | (congr 1), rfl, Lib.hid (by rw [HL.out]; exact HO2.out), Lib.hid (Below.grown (Below.alloc HW.out HW.out.size _) HG2.out (by simp; omega) HNE.out)⟩, by show n - ((k : Int) + 1).toNat < n - (k : Int).toNat; omega⟩
    · obtain rfl : k = n := by omega
      obtain ⟨g, cp, rfl, hg, hgl⟩ := World.ownsRow.form HO.out (by omega)
      obtain ⟨hic, hgb⟩ := ICl.own HO.out (by omega)
      have HIC := Lib.hid hic
      have HB3 := Lib.hid (Below.next HB.out HW.out)
      clear hic
      go_wp2_with (first | (go_at_call 36; (with_reducible refine (p6IY ((m : Int) + 1) _ k _ (exL m (zN zs) k) _ HIC.out.row hn HOK2.out).mono ?_); rintro e w4 ⟨rfl, hb⟩; have HB4 := Lib.hid (Below.next HB3.out hb); have HR4 := Lib.hid (HR3.out.below hb); have HI4 := Lib.hid (HIC.out.below hb); obtain ⟨hQ, hq0, hq1, hqf0, hqf1⟩ := HR4.out; clear hb) | fail)
      obtain ⟨_, hr1, hr2⟩ := HR4.out.res (.int .i64 ((m : Int) + 1)) (.slice (some ⟨g, 0, none⟩) k cp)
      exact bodyPost_ret (v := .tuple #[.agg #[.int .i64 ((m : Int) + 1), .slice (some ⟨g, 0, none⟩) k cp], .bool true]) (by simp [results, Try.results18, go_sem, hr1, hr2]) rfl
        ⟨g, cp, rfl, ICl.new ((HI4.out.far (by simp; omega) _).far (by simp; omega) _) (by omega) (Below.setCell (Below.setCell HB4.out (by simp) _) (by simp) _)⟩
set_option maxRecDepth 100000 in
set_option maxHeartbeats 4000000 in
theorem ex_implN (r : Int) (a : Option Addr) (n cap : Nat) (zs : List Int) (w : World) (h : IRow w a n zs) (hn : n ≤ 1048576) (hok : paB r zs n = true) (hok2 : paB (r + 1) (exL r.toNat (zN zs) n) n = false) : Calls Try.prog 18 #[.agg #[.int .i64 r, .slice a n cap]] w (YNone w) := by
  obtain ⟨i0, hi, hz0, hz1, hz2⟩ := info_parts Try.info64
  obtain ⟨⟨hr1, hr2⟩, ⟨hn1, hn2⟩, hwo, _⟩ := pa_out hok
  obtain ⟨m, rfl⟩ : ∃ m : Nat, r = (m : Int) := ⟨r.toNat, by omega⟩
  rw [Int.toNat_natCast] at *
  have hm16 : m ≤ 16 := by omega
  have HWO := Lib.hid (woP_wide hwo hm16)
  have HA := Lib.hid h
  have HA2 : Hid (IRow ((w.alloc (.cells #[.int .i64 (m : Int), .slice a n cap] 28)).alloc (.cells #[.int .i64 0, .slice none 0 0] 28)) a n zs) := Lib.hid ((h.alloc _).alloc _)
  have HC := Lib.hid ((Kin.new (w := w) (x := .int .i64 (m : Int)) (y := .slice a n cap) (T := 28)).below (below_alloc _ (.cells #[.int .i64 0, .slice none 0 0] 28)))
  have HR : Hid (Kin ((w.alloc (.cells #[.int .i64 (m : Int), .slice a n cap] 28)).alloc (.cells #[.int .i64 0, .slice none 0 0] 28)) (w.heap.size + 1) (.int .i64 0) (.slice none 0 0)) := Lib.hid (Kin.new' (by simp))
  have HOK := Lib.hid hok
  have HOK2 := Lib.hid hok2
  have hwm : IntKind.i64.wrap ((m : Int) + 1) = (m : Int) + 1 := IntWalk.i64_in _ (by omega)
  obtain ⟨hp0', hp1'⟩ := p2_16 hm16
  have hwp : IntKind.i64.wrap ((2 : Int) ^ m) = 2 ^ m := IntWalk.i64_in _ (by omega)
  have hwp1 : IntKind.i64.wrap (1 * (2 : Int) ^ m) = 2 ^ m := by rw [Int.one_mul]; exact hwp
  have hcast : ((2 ^ m : Nat) : Int) = (2 : Int) ^ m := by rw [Int.natCast_pow]; rfl
  have hp62 : 2 ^ m ≤ 65536 := Nat.pow_le_pow_right (by decide) hm16
  have hmin : min m 64 = m := by omega
  have hwu : IntKind.u64.wrap (m : Int) = (m : Int) := by rw [IntKind.wrap_u64]; omega
  have hw0 : IntKind.i64.wrap 0 = 0 := by decide
  clear h hok hok2 hwo
  go_enter Try.func18, Try.ntmps18
  go_wp2_with (first | (go_at_call 34; refine (vp_impl (m : Int) _ n cap zs _ HA2.out hn).mono ?_; rw [HOK.out]; rintro e w2 ⟨rfl, hd⟩; have HC2 := Lib.hid (HC.out.below hd); have HR2 := Lib.hid (HR.out.below hd); have HB := Lib.hid (Below.next (Below.alloc (below_alloc _ _) (by simp) _) hd : Below w.heap.size w w2); obtain ⟨hP, hp0, hp1, hpf0, hpf1⟩ := HC2.out; obtain ⟨hQ, hq0, hq1, hqf0, hqf1⟩ := HR2.out; clear hd) | fail)
  have hw2s : w.heap.size + 1 + 1 ≤ w2.heap.size := by have := HR2.out.1; omega
  clear hP hp0 hp1 hpf0 hpf1 hQ hq0 hq1 hqf0 hqf1
  go_loopw [4, 14] (fun v0 iv wr0 => ∃ (k : Nat) (v : Value) (wr : World), k ≤ n ∧ v = v0 ∧ iv = .int .i64 k ∧ wr = wr0 ∧ Hid (wr.ownsRow w2.heap.size 2 1 v k ((exL m (zN zs) k).map (Value.int .i64))) ∧ Hid (Below w2.heap.size w2 wr)) (fun _ iv _ => n - (intOf iv).toNat)
  case atStart => exact ⟨0, _, _, by omega, rfl, rfl, rfl, Lib.hid (World.ownsRow_nil _ _ _ _), Lib.hid (Below.refl _ _)⟩
  case round =>
    obtain ⟨k, v, wr, hk, rfl, rfl, rfl, HO, HW⟩ := hrel
    have HC3 := Lib.hid (HC2.out.below HW.out)
    have HR3 := Lib.hid (HR2.out.below HW.out)
    obtain ⟨hP, hp0, hp1, hpf0, hpf1⟩ := HC3.out
    by_cases hlt : k < n
    · obtain ⟨b1, o1, rfl, hblt, hck1⟩ := (HA.out.below (Below.next HB.out HW.out)).cell' hlt
      obtain ⟨hzk, hzl⟩ := zN_at HWO.out hlt
      rw [hzk] at hck1
      have HV : Hid (zN zs k < 65536) := Lib.hid hzl
      have HL := Lib.hid (exL_on m (zN zs) k)
      have hEY : wt (zN zs k) % 2 = 1 → exv m (zN zs k) = zN zs k ||| 2 ^ m := fun h => if_pos h
      have hEN : ¬ wt (zN zs k) % 2 = 1 → exv m (zN zs k) = zN zs k := fun h => if_neg h
      have hor := b_or (zN zs k) (2 ^ m) (by omega) (by omega)
      have hor0 : bits .or .i64 ((zN zs k : Nat) : Int) 0 = ((zN zs k : Nat) : Int) := by
        have h9 := b_or (zN zs k) 0 (by omega) (by omega)
        rw [Nat.or_zero] at h9
        exact h9
      rw [hcast] at hor
      generalize exv m (zN zs k) = E at HL hEY hEN
      generalize zN zs k ||| 2 ^ m = Q at hor hEY
      generalize zN zs k = y at hck1 HV hor hor0 hEY hEN
      have HNE := Lib.hid (own_block HO.out)
      have hsz := HW.out.size
      clear hzk hzl
      by_cases ho : wt y % 2 = 1
      · have HOD : Hid (odB y = true) := Lib.hid (decide_eq_true ho)
        obtain rfl := hEY ho
        clear hEN ho
        go_wp2_with (first | (go_at_call 35; refine (od_impl y _ HV.out).mono ?_; rw [HOD.out]; rintro e w' ⟨rfl, hw⟩; subst hw) | (at_builtin; refine wpList_append_lies _ rfl _ _ 22 rfl (w2.heap.size) 2 i0 (.int .i64 0) 1 8 Try.underlying22 hi hz0 hz1 hz2 rfl (by omega) v k ((exL m (zN zs) k).map (Value.int .i64)) rfl (World.ownsRow.alloc HO.out _) ⟨wr.heap.size, 0, none⟩ 1 1 [.int .i64 (E : Int)] rfl rfl (World.news_of_block (cs := #[.int .i64 (E : Int)]) (t := 2) (fr := (0, 0)) (heap_alloc_new _ _)) (by simp [Value.oneCell']) (by omega) (by unfold maxLen; omega) (by omega) (by simp; omega) (wr.heap.size + 1) (by simp) ?_; intro gg cp w3 hown1 hgrow hat hlt2; have HO2 := Lib.hid hown1; have HG2 := Lib.hid hgrow; clear hown1 hgrow hat hlt2) | fail)
        exact ⟨⟨k + 1, _, _, by omega, rfl, by first | rfl | go_num | (congr 1), rfl, Lib.hid (by rw [HL.out]; exact HO2.out), Lib.hid (Below.grown (Below.alloc HW.out HW.out.size _) HG2.out (by simp; omega) HNE.out)⟩, by show n - ((k : Int) + 1).toNat < n - (k : Int).toNat; omega⟩
      · have HOD : Hid (odB y = false) := Lib.hid (decide_eq_false ho)
        obtain rfl := hEN ho
        clear hEY ho
        go_wp2_with (first | (go_at_call 35; refine (od_impl E _ HV.out).mono ?_; rw [HOD.out]; rintro e w' ⟨rfl, hw⟩; subst hw) | (at_builtin; refine wpList_append_lies _ rfl _ _ 22 rfl (w2.heap.size) 2 i0 (.int .i64 0) 1 8 Try.underlying22 hi hz0 hz1 hz2 rfl (by omega) v k ((exL m (zN zs) k).map (Value.int .i64)) rfl (World.ownsRow.alloc HO.out _) ⟨wr.heap.size, 0, none⟩ 1 1 [.int .i64 (E : Int)] rfl rfl (World.news_of_block (cs := #[.int .i64 (E : Int)]) (t := 2) (fr := (0, 0)) (heap_alloc_new _ _)) (by simp [Value.oneCell']) (by omega) (by unfold maxLen; omega) (by omega) (by simp; omega) (wr.heap.size + 1) (by simp) ?_; intro gg cp w3 hown1 hgrow hat hlt2; have HO2 := Lib.hid hown1; have HG2 := Lib.hid hgrow; clear hown1 hgrow hat hlt2) | fail)
        exact ⟨⟨k + 1, _, _, by omega, rfl, by first | rfl | go_num | (congr 1), rfl, Lib.hid (by rw [HL.out]; exact HO2.out), Lib.hid (Below.grown (Below.alloc HW.out HW.out.size _) HG2.out (by simp; omega) HNE.out)⟩, by show n - ((k : Int) + 1).toNat < n - (k : Int).toNat; omega⟩
    · obtain rfl : k = n := by omega
      obtain ⟨g, cp, rfl, hg, hgl⟩ := World.ownsRow.form HO.out (by omega)
      obtain ⟨hic, hgb⟩ := ICl.own HO.out (by omega)
      have HIC := Lib.hid hic
      have HB3 := Lib.hid (Below.next HB.out HW.out)
      clear hic
      go_wp2_with (first | (go_at_call 36; (with_reducible refine (p6IN ((m : Int) + 1) _ k _ (exL m (zN zs) k) _ HIC.out.row hn HOK2.out).mono ?_); rintro e w4 ⟨rfl, hb⟩; have HB4 := Lib.hid (Below.next HB3.out hb); have HR4 := Lib.hid (HR3.out.below hb); have HI4 := Lib.hid (HIC.out.below hb); obtain ⟨hQ, hq0, hq1, hqf0, hqf1⟩ := HR4.out; clear hb) | fail)
      obtain ⟨_, hr1, hr2⟩ := HR4.out.res (.int .i64 0) (.slice none 0 0)
      exact bodyPost_ret (v := .tuple #[.agg #[.int .i64 0, .slice none 0 0], .bool false]) (by simp [results, Try.results18, go_sem, hr1, hr2]) rfl
        ⟨rfl, Below.setCell (Below.setCell HB4.out (by simp) _) (by simp) _⟩
theorem ex_implYes (r : Int) (a : Option Addr) (n cap : Nat) (zs : List Int) (w : World) (h : IRow w a n zs) (hn : n ≤ 1048576) (hok : exB r zs n = true) : Calls Try.prog 18 #[.agg #[.int .i64 r, .slice a n cap]] w (YPost (r + 1) n (exL r.toNat (zN zs) n) w) := ex_implY r a n cap zs w h hn (exB_out hok).1 (exB_out hok).2
theorem ex_implNo (r : Int) (a : Option Addr) (n cap : Nat) (zs : List Int) (w : World) (h : IRow w a n zs) (hn : n ≤ 1048576) (hok : exB r zs n = false) : Calls Try.prog 18 #[.agg #[.int .i64 r, .slice a n cap]] w (YNone w) := by
  rcases exB_no hok with h1 | h1
  · exact ex_implA r a n cap zs w h hn h1
  · exact ex_implN r a n cap zs w h hn h1.1 h1.2
set_option maxRecDepth 100000 in
set_option maxHeartbeats 2000000 in
theorem ex_specA (r : Int) (a : Option Addr) (n cap : Nat) (zs : List Int) (w : World) (h : IRow w a n zs) (hn : n ≤ 1048576) (hok : paB r zs n = false) : Calls Try.prog 17 #[.agg #[.int .i64 r, .slice a n cap]] w (YNone w) := by
  have HA2 : Hid (IRow ((w.alloc (.cells #[.int .i64 r, .slice a n cap] 28)).alloc (.cells #[.int .i64 0, .slice none 0 0] 28)) a n zs) := Lib.hid ((h.alloc _).alloc _)
  have HC := Lib.hid ((Kin.new (w := w) (x := .int .i64 r) (y := .slice a n cap) (T := 28)).below (below_alloc _ (.cells #[.int .i64 0, .slice none 0 0] 28)))
  have HR : Hid (Kin ((w.alloc (.cells #[.int .i64 r, .slice a n cap] 28)).alloc (.cells #[.int .i64 0, .slice none 0 0] 28)) (w.heap.size + 1) (.int .i64 0) (.slice none 0 0)) := Lib.hid (Kin.new' (by simp))
  have HOK := Lib.hid hok
  clear h hok
  go_enter Try.func17, Try.ntmps17
  go_wp2_with (first | (go_at_call 32; refine (pi_spec _ r _ n cap zs _ HA2.out hn HC.out.1 HC.out.2.1 HC.out.2.2.1).mono ?_; rw [HOK.out]; rintro e w2 ⟨rfl, hd⟩; have HC2 := Lib.hid (HC.out.below hd); have HR2 := Lib.hid (HR.out.below hd); have HB := Lib.hid (Below.next (Below.alloc (below_alloc _ _) (by simp) _) hd : Below w.heap.size w w2); obtain ⟨hP, hp0, hp1, hpf0, hpf1⟩ := HC2.out; obtain ⟨hQ, hq0, hq1, hqf0, hqf1⟩ := HR2.out; clear hd) | fail)
  obtain ⟨_, hr1, hr2⟩ := HR2.out.res (.int .i64 0) (.slice none 0 0)
  exact bodyPost_ret (v := .tuple #[.agg #[.int .i64 0, .slice none 0 0], .bool false]) (by simp [results, Try.results17, go_sem, hr1, hr2]) rfl
    ⟨rfl, Below.setCell (Below.setCell HB.out (by simp) _) (by simp) _⟩
set_option maxRecDepth 100000 in
set_option maxHeartbeats 4000000 in
theorem ex_specY (r : Int) (a : Option Addr) (n cap : Nat) (zs : List Int) (w : World) (h : IRow w a n zs) (hn : n ≤ 1048576) (hok : paB r zs n = true) (hok2 : paB (r + 1) (exL r.toNat (zN zs) n) n = true) : Calls Try.prog 17 #[.agg #[.int .i64 r, .slice a n cap]] w (YPost (r + 1) n (exL r.toNat (zN zs) n) w) := by
  obtain ⟨i0, hi, hz0, hz1, hz2⟩ := info_parts Try.info64
  obtain ⟨⟨hr1, hr2⟩, ⟨hn1, hn2⟩, hwo, _⟩ := pa_out hok
  obtain ⟨m, rfl⟩ : ∃ m : Nat, r = (m : Int) := ⟨r.toNat, by omega⟩
  rw [Int.toNat_natCast] at *
  have hm16 : m ≤ 16 := by omega
  have HWO := Lib.hid (woP_wide hwo hm16)
  have HA := Lib.hid h
  have HA2 : Hid (IRow ((w.alloc (.cells #[.int .i64 (m : Int), .slice a n cap] 28)).alloc (.cells #[.int .i64 0, .slice none 0 0] 28)) a n zs) := Lib.hid ((h.alloc _).alloc _)
  have HC := Lib.hid ((Kin.new (w := w) (x := .int .i64 (m : Int)) (y := .slice a n cap) (T := 28)).below (below_alloc _ (.cells #[.int .i64 0, .slice none 0 0] 28)))
  have HR : Hid (Kin ((w.alloc (.cells #[.int .i64 (m : Int), .slice a n cap] 28)).alloc (.cells #[.int .i64 0, .slice none 0 0] 28)) (w.heap.size + 1) (.int .i64 0) (.slice none 0 0)) := Lib.hid (Kin.new' (by simp))
  have HOK := Lib.hid hok
  have HOK2 := Lib.hid hok2
  have hwm : IntKind.i64.wrap ((m : Int) + 1) = (m : Int) + 1 := IntWalk.i64_in _ (by omega)
  obtain ⟨hp0', hp1'⟩ := p2_16 hm16
  have hwp : IntKind.i64.wrap ((2 : Int) ^ m) = 2 ^ m := IntWalk.i64_in _ (by omega)
  have hwp1 : IntKind.i64.wrap (1 * (2 : Int) ^ m) = 2 ^ m := by rw [Int.one_mul]; exact hwp
  have hcast : ((2 ^ m : Nat) : Int) = (2 : Int) ^ m := by rw [Int.natCast_pow]; rfl
  have hp62 : 2 ^ m ≤ 65536 := Nat.pow_le_pow_right (by decide) hm16
  have hmin : min m 64 = m := by omega
  have hwu : IntKind.u64.wrap (m : Int) = (m : Int) := by rw [IntKind.wrap_u64]; omega
  have hw0 : IntKind.i64.wrap 0 = 0 := by decide
  clear h hok hok2 hwo
  go_enter Try.func17, Try.ntmps17
  go_wp2_with (first | (go_at_call 32; refine (pi_spec _ (m : Int) _ n cap zs _ HA2.out hn HC.out.1 HC.out.2.1 HC.out.2.2.1).mono ?_; rw [HOK.out]; rintro e w2 ⟨rfl, hd⟩; have HC2 := Lib.hid (HC.out.below hd); have HR2 := Lib.hid (HR.out.below hd); have HB := Lib.hid (Below.next (Below.alloc (below_alloc _ _) (by simp) _) hd : Below w.heap.size w w2); obtain ⟨hP, hp0, hp1, hpf0, hpf1⟩ := HC2.out; obtain ⟨hQ, hq0, hq1, hqf0, hqf1⟩ := HR2.out; clear hd) | fail)
  have hw2s : w.heap.size + 1 + 1 ≤ w2.heap.size := by have := HR2.out.1; omega
  clear hP hp0 hp1 hpf0 hpf1
  go_loopw [5] (fun iv w' => ∃ (k : Nat) (v : Value) (wr : World), k ≤ n ∧ iv = .int .i64 k ∧ wr = w' ∧ Hid (Kin wr w2.heap.size (.int .i64 ((m : Int) + 1)) v) ∧ Hid (wr.ownsRow (w2.heap.size + 1) 2 1 v k ((exL m (zN zs) k).map (Value.int .i64))) ∧ Hid (Below w2.heap.size w2 wr)) (fun iv _ => n - (intOf iv).toNat)
  case atStart => exact ⟨0, .slice none 0 0, _, by omega, rfl, rfl, Lib.hid (by first | exact Kin.new | exact Kin.put2 Kin.new _ _ | exact Kin.set0 Kin.new _), Lib.hid (World.ownsRow_nil _ _ _ _), Lib.hid (by repeat (first | exact Below.refl _ _ | refine Below.drew ?_ | refine Below.drewN' ?_ _ | refine Below.setCell ?_ (by first | (simp; done) | (simp; omega)) _ | refine Below.alloc ?_ (by first | exact Nat.le_refl _ | (simp; done) | (simp; omega)) _))⟩
  case round =>
    obtain ⟨k, v, wr, hk, rfl, rfl, HK, HO, HW⟩ := hrel
    have HC3 := Lib.hid (HC2.out.below HW.out)
    have HR3 := Lib.hid (HR2.out.below HW.out)
    by_cases hlt : k < n
    · obtain ⟨b1, o1, rfl, hblt, hck1⟩ := (HA.out.below (Below.next HB.out HW.out)).cell' hlt
      obtain ⟨hzk, hzl⟩ := zN_at HWO.out hlt
      rw [hzk] at hck1
      have HV : Hid (zN zs k < 65536) := Lib.hid hzl
      have HL := Lib.hid (exL_on m (zN zs) k)
      have hEY : wt (zN zs k) % 2 = 1 → exv m (zN zs k) = zN zs k ||| 2 ^ m := fun h => if_pos h
      have hEN : ¬ wt (zN zs k) % 2 = 1 → exv m (zN zs k) = zN zs k := fun h => if_neg h
      have hor := b_or (zN zs k) (2 ^ m) (by omega) (by omega)
      have hor0 : bits .or .i64 ((zN zs k : Nat) : Int) 0 = ((zN zs k : Nat) : Int) := by
        have h9 := b_or (zN zs k) 0 (by omega) (by omega)
        rw [Nat.or_zero] at h9
        exact h9
      rw [hcast] at hor
      generalize exv m (zN zs k) = E at HL hEY hEN
      generalize zN zs k ||| 2 ^ m = Q at hor hEY
      generalize zN zs k = y at hck1 HV hor hor0 hEY hEN
      have HNE := Lib.hid (own_block HO.out)
      have hsz := HW.out.size
      clear hzk hzl
      have hn3 : some w2.heap.size ≠ v.ownBlock := fun e => by have := own_block HO.out _ e.symm; omega
      obtain ⟨hP, hp0, hp1, hpf0, hpf1⟩ := HC3.out
      obtain ⟨hK, hk0, hk1, hkf0, hkf1⟩ := HK.out
      have hwl := wt_le y
      by_cases ho : wt y % 2 = 1
      · have hq : (wt y : Int).tmod 2 = 1 := by rw [Int.tmod_eq_emod_of_nonneg (by omega)]; omega
        obtain rfl := hEY ho
        clear hEN ho hwl
        go_wp2
        have HOA : Hid (((wr.alloc (.cells #[.int .i64 (E : Int)] 2)).drew).ownsRow (w2.heap.size + 1) 2 1 v k ((exL m (zN zs) k).map (Value.int .i64))) := Lib.hid ((HO.out.alloc _).drew)
        have HKA : Hid (Kin ((wr.alloc (.cells #[.int .i64 (E : Int)] 2)).drew) w2.heap.size (.int .i64 ((m : Int) + 1)) v) := Lib.hid ((HK.out.below (below_alloc _ _)).drewN 1)
        have HBA : Hid (Below w2.heap.size w2 ((wr.alloc (.cells #[.int .i64 (E : Int)] 2)).drew)) := Lib.hid (Below.drew (Below.alloc HW.out HW.out.size _))
        have hbz : w2.heap.size + 1 ≤ wr.heap.size := by omega
        have hk8 : k + 1 ≤ 8 := by omega
        have hHeld : wr.drew.cell? ⟨w.heap.size, 0, none⟩ = some (.int .i64 (m : Int)) ∧ wr.drew.cell? ⟨w.heap.size, 1, none⟩ = some (.slice (some ⟨b1, o1, none⟩) n cap) ∧ wr.drew.cell? ⟨b1, o1 + k, none⟩ = some (.int .i64 (y : Int)) ∧ wr.drew.cell? ⟨w2.heap.size, 1, none⟩ = some v := ⟨hp0, hp1, hck1, hk1⟩
        refine Anb.AnyB.region (fun wq : World => wq.cell? ⟨w.heap.size, 0, none⟩ = some (.int .i64 (m : Int)) ∧ wq.cell? ⟨w.heap.size, 1, none⟩ = some (.slice (some ⟨b1, o1, none⟩) n cap) ∧ wq.cell? ⟨b1, o1 + k, none⟩ = some (.int .i64 (y : Int)) ∧ wq.cell? ⟨w2.heap.size, 1, none⟩ = some v) 22 (by kernel_rfl) ?_
        refine Anb.AnyB.take (i := 0) (v := ?_) (by simp only [List.getElem?_toArray, List.getElem?_cons_zero]; rfl) (by simp only [List.getElem?_toArray, List.getElem?_cons_zero, List.getElem?_cons_succ]; rfl) (by kernel_rfl) (by kernel_rfl) (by kernel_rfl) (by kernel_rfl) (by intro _ _ _ h; exact h) (Or.inl ⟨by rfl, ?_⟩) (by assumption) ?_
        rotate_left 1
        · (intro wq hSq; (try dsimp only at hSq); go_simp; try with_reducible rfl)
        (try simp only [Act.put, List.setIfInBounds_toArray, List.set_cons_zero, List.set_cons_succ])
        refine Anb.AnyB.take (i := 1) (v := ?_) (by simp only [List.getElem?_toArray, List.getElem?_cons_zero, List.getElem?_cons_succ]; rfl) (by simp only [List.getElem?_toArray, List.getElem?_cons_zero, List.getElem?_cons_succ]; rfl) (by kernel_rfl) (by kernel_rfl) (by kernel_rfl) (by kernel_rfl) (by intro _ _ _ h; exact h) (Or.inl ⟨by rfl, ?_⟩) (by assumption) ?_
        rotate_left 1
        · (intro wq hSq; (try dsimp only at hSq); go_simp; try with_reducible rfl)
        (try simp only [Act.put, List.setIfInBounds_toArray, List.set_cons_zero, List.set_cons_succ])
        refine Anb.AnyB.take (i := 2) (v := ?_) (by simp only [List.getElem?_toArray, List.getElem?_cons_zero, List.getElem?_cons_succ]; rfl) (by simp only [List.getElem?_toArray, List.getElem?_cons_zero, List.getElem?_cons_succ]; rfl) (by kernel_rfl) (by kernel_rfl) (by kernel_rfl) (by kernel_rfl) (by intro _ _ _ h; exact h) (Or.inl ⟨by rfl, ?_⟩) (by assumption) ?_
        rotate_left 1
        · (intro wq hSq; (try dsimp only at hSq); go_simp; try with_reducible rfl)
        (try simp only [Act.put, List.setIfInBounds_toArray, List.set_cons_zero, List.set_cons_succ])
        refine Anb.AnyB.take (i := 3) (v := ?_) (by simp only [List.getElem?_toArray, List.getElem?_cons_zero, List.getElem?_cons_succ]; rfl) (by simp only [List.getElem?_toArray, List.getElem?_cons_zero, List.getElem?_cons_succ]; rfl) (by kernel_rfl) (by kernel_rfl) (by kernel_rfl) (by kernel_rfl) (by intro _ _ _ h; exact h) (Or.inl ⟨by rfl, ?_⟩) (by assumption) ?_
        rotate_left 1
        · (intro wq hSq; (try dsimp only at hSq); go_simp; try with_reducible rfl)
        (try simp only [Act.put, List.setIfInBounds_toArray, List.set_cons_zero, List.set_cons_succ])
        refine Anb.AnyB.take (i := 4) (v := ?_) (by simp only [List.getElem?_toArray, List.getElem?_cons_zero, List.getElem?_cons_succ]; rfl) (by simp only [List.getElem?_toArray, List.getElem?_cons_zero, List.getElem?_cons_succ]; rfl) (by kernel_rfl) (by kernel_rfl) (by kernel_rfl) (by kernel_rfl) (by intro _ _ _ h; exact h) (Or.inl ⟨by rfl, ?_⟩) (by assumption) ?_
        rotate_left 1
        · (intro wq hSq; (try dsimp only at hSq); go_simp; try with_reducible rfl)
        (try simp only [Act.put, List.setIfInBounds_toArray, List.set_cons_zero, List.set_cons_succ])
        refine Anb.AnyB.take (i := 5) (v := ?_) (by simp only [List.getElem?_toArray, List.getElem?_cons_zero, List.getElem?_cons_succ]; rfl) (by simp only [List.getElem?_toArray, List.getElem?_cons_zero, List.getElem?_cons_succ]; rfl) (by kernel_rfl) (by kernel_rfl) (by kernel_rfl) (by kernel_rfl) (by intro _ _ _ h; exact h) (Or.inl ⟨by rfl, ?_⟩) (by assumption) ?_
        rotate_left 1
        · (intro wq hSq; (try dsimp only at hSq); go_simp; try with_reducible rfl)
        (try simp only [Act.put, List.setIfInBounds_toArray, List.set_cons_zero, List.set_cons_succ])
        refine Anb.AnyB.take (i := 6) (v := ?_) (by simp only [List.getElem?_toArray, List.getElem?_cons_zero, List.getElem?_cons_succ]; rfl) (by simp only [List.getElem?_toArray, List.getElem?_cons_zero, List.getElem?_cons_succ]; rfl) (by kernel_rfl) (by kernel_rfl) (by kernel_rfl) (by kernel_rfl) (by intro _ _ _ h; exact h) (Or.inl ⟨by rfl, ?_⟩) (by assumption) ?_
        rotate_left 1
        · (intro wq hSq; (try dsimp only at hSq); go_simp; try with_reducible rfl)
        (try simp only [Act.put, List.setIfInBounds_toArray, List.set_cons_zero, List.set_cons_succ])
        refine Anb.AnyB.take (i := 7) (v := ?_) (by simp only [List.getElem?_toArray, List.getElem?_cons_zero, List.getElem?_cons_succ]; rfl) (by simp only [List.getElem?_toArray, List.getElem?_cons_zero, List.getElem?_cons_succ]; rfl) (by kernel_rfl) (by kernel_rfl) (by kernel_rfl) (by kernel_rfl) (by intro _ _ _ h; exact h) (Or.inl ⟨by rfl, ?_⟩) (by assumption) ?_
        rotate_left 1
        · (intro wq hSq; (try dsimp only at hSq); go_simp; try with_reducible rfl)
        (try simp only [Act.put, List.setIfInBounds_toArray, List.set_cons_zero, List.set_cons_succ])
        refine Anb.AnyB.take (i := 8) (v := ?_) (by simp only [List.getElem?_toArray, List.getElem?_cons_zero, List.getElem?_cons_succ]; rfl) (by simp only [List.getElem?_toArray, List.getElem?_cons_zero, List.getElem?_cons_succ]; rfl) (by kernel_rfl) (by kernel_rfl) (by kernel_rfl) (by kernel_rfl) (by intro _ _ _ h; exact h) (Or.inl ⟨by rfl, ?_⟩) (by assumption) ?_
        rotate_left 1
        · (intro wq hSq; (try dsimp only at hSq); go_simp; try with_reducible rfl)
        (try simp only [Act.put, List.setIfInBounds_toArray, List.set_cons_zero, List.set_cons_succ])
        refine Anb.AnyB.take (i := 9) (v := ?_) (by simp only [List.getElem?_toArray, List.getElem?_cons_zero, List.getElem?_cons_succ]; rfl) (by simp only [List.getElem?_toArray, List.getElem?_cons_zero, List.getElem?_cons_succ]; rfl) (by kernel_rfl) (by kernel_rfl) (by kernel_rfl) (by kernel_rfl) (by intro _ _ _ h; exact h) (Or.inl ⟨by rfl, ?_⟩) (by assumption) ?_
        rotate_left 1
        · (intro wq hSq; (try dsimp only at hSq); go_simp; try with_reducible rfl)
        (try simp only [Act.put, List.setIfInBounds_toArray, List.set_cons_zero, List.set_cons_succ])
        refine Anb.AnyB.take (i := 10) (v := ?_) (by simp only [List.getElem?_toArray, List.getElem?_cons_zero, List.getElem?_cons_succ]; rfl) (by simp only [List.getElem?_toArray, List.getElem?_cons_zero, List.getElem?_cons_succ]; rfl) (by kernel_rfl) (by kernel_rfl) (by kernel_rfl) (by kernel_rfl) (by intro _ _ _ h; exact h) (Or.inl ⟨by rfl, ?_⟩) (by assumption) ?_
        rotate_left 1
        · (intro wq hSq; (try dsimp only at hSq); go_simp; try with_reducible rfl)
        (try simp only [Act.put, List.setIfInBounds_toArray, List.set_cons_zero, List.set_cons_succ])
        refine Anb.AnyB.take (i := 11) (v := ?_) (by simp only [List.getElem?_toArray, List.getElem?_cons_zero, List.getElem?_cons_succ]; rfl) (by simp only [List.getElem?_toArray, List.getElem?_cons_zero, List.getElem?_cons_succ]; rfl) (by kernel_rfl) (by kernel_rfl) (by kernel_rfl) (by kernel_rfl) (by intro _ _ _ h; exact h) (Or.inl ⟨by rfl, ?_⟩) (by assumption) ?_
        rotate_left 1
        · (intro wq hSq; (try dsimp only at hSq); go_simp; try with_reducible rfl)
        (try simp only [Act.put, List.setIfInBounds_toArray, List.set_cons_zero, List.set_cons_succ])
        refine Anb.AnyB.take (i := 14) (v := ?_) (by simp only [List.getElem?_toArray, List.getElem?_cons_zero, List.getElem?_cons_succ]; rfl) (by simp only [List.getElem?_toArray, List.getElem?_cons_zero, List.getElem?_cons_succ]; rfl) (by kernel_rfl) (by kernel_rfl) (by kernel_rfl) (by kernel_rfl) (by intro _ _ _ h; exact h) (Or.inl ⟨by rfl, ?_⟩) (by assumption) ?_
        rotate_left 1
        · (intro wq hSq; (try dsimp only at hSq); go_simp; try with_reducible rfl)
        (try simp only [Act.put, List.setIfInBounds_toArray, List.set_cons_zero, List.set_cons_succ])
        refine Anb.AnyB.take (i := 15) (v := ?_) (by simp only [List.getElem?_toArray, List.getElem?_cons_zero, List.getElem?_cons_succ]; rfl) (by simp only [List.getElem?_toArray, List.getElem?_cons_zero, List.getElem?_cons_succ]; rfl) (by kernel_rfl) (by kernel_rfl) (by kernel_rfl) (by kernel_rfl) (by intro _ _ _ h; exact h) (Or.inl ⟨by rfl, ?_⟩) (by assumption) ?_
        rotate_left 1
        · (intro wq hSq; (try dsimp only at hSq); go_simp; try with_reducible rfl)
        (try simp only [Act.put, List.setIfInBounds_toArray, List.set_cons_zero, List.set_cons_succ])
        refine Anb.AnyB.take (i := 16) (v := ?_) (by simp only [List.getElem?_toArray, List.getElem?_cons_zero, List.getElem?_cons_succ]; rfl) (by simp only [List.getElem?_toArray, List.getElem?_cons_zero, List.getElem?_cons_succ]; rfl) (by kernel_rfl) (by kernel_rfl) (by kernel_rfl) (by kernel_rfl) (by intro _ _ _ h; exact h) (Or.inl ⟨by rfl, ?_⟩) (by assumption) ?_
        rotate_left 1
        · (intro wq hSq; (try dsimp only at hSq); go_simp; try with_reducible rfl)
        (try simp only [Act.put, List.setIfInBounds_toArray, List.set_cons_zero, List.set_cons_succ])
        refine Anb.AnyB.one (i := 12) (by kernel_rfl) rfl (fun K hK => ?_)
        go_simp; go_at_call 30; (with_reducible refine (wo_spec y _ HV.out).mono ?_); rintro e w' ⟨rfl, hw⟩; subst hw
        refine hK.out _ _ (fun _ => hHeld) ?_
        clear hK K
        (try simp only [Act.put, List.setIfInBounds_toArray, List.set_cons_zero, List.set_cons_succ])
        refine Anb.AnyB.take (i := 13) (v := ?_) (by simp only [List.getElem?_toArray, List.getElem?_cons_zero, List.getElem?_cons_succ]; rfl) (by simp only [List.getElem?_toArray, List.getElem?_cons_zero, List.getElem?_cons_succ]; rfl) (by kernel_rfl) (by kernel_rfl) (by kernel_rfl) (by kernel_rfl) (by intro _ _ _ h; exact h) (Or.inl ⟨by rfl, ?_⟩) (by assumption) ?_
        rotate_left 1
        · (intro wq hSq; (try dsimp only at hSq); go_simp; try with_reducible rfl)
        (try simp only [Act.put, List.setIfInBounds_toArray, List.set_cons_zero, List.set_cons_succ])
        refine Anb.AnyB.take (i := 17) (v := ?_) (by simp only [List.getElem?_toArray, List.getElem?_cons_zero, List.getElem?_cons_succ]; rfl) (by simp only [List.getElem?_toArray, List.getElem?_cons_zero, List.getElem?_cons_succ]; rfl) (by kernel_rfl) (by kernel_rfl) (by kernel_rfl) (by kernel_rfl) (by intro _ _ _ h; exact h) (Or.inl ⟨by rfl, ?_⟩) (by assumption) ?_
        rotate_left 1
        · (intro wq hSq; (try dsimp only at hSq); go_simp; try with_reducible rfl)
        (try simp only [Act.put, List.setIfInBounds_toArray, List.set_cons_zero, List.set_cons_succ])
        refine Anb.AnyB.take (i := 18) (v := ?_) (by simp only [List.getElem?_toArray, List.getElem?_cons_zero, List.getElem?_cons_succ]; rfl) (by simp only [List.getElem?_toArray, List.getElem?_cons_zero, List.getElem?_cons_succ]; rfl) (by kernel_rfl) (by kernel_rfl) (by kernel_rfl) (by kernel_rfl) (by intro _ _ _ h; exact h) (Or.inl ⟨by rfl, ?_⟩) (by assumption) ?_
        rotate_left 1
        · (intro wq hSq; (try dsimp only at hSq); go_simp; try with_reducible rfl)
        (try simp only [Act.put, List.setIfInBounds_toArray, List.set_cons_zero, List.set_cons_succ])
        have hb1w : b1 < w.heap.size := by obtain ⟨b9, o9, e9, h9, _⟩ := HA.out.cell' hlt; cases e9; exact h9
        have hHeld2 : (fun wq : World => wq.cell? ⟨w.heap.size, 0, none⟩ = some (.int .i64 (m : Int)) ∧ wq.cell? ⟨w.heap.size, 1, none⟩ = some (.slice (some ⟨b1, o1, none⟩) n cap) ∧ wq.cell? ⟨b1, o1 + k, none⟩ = some (.int .i64 (y : Int)) ∧ wq.cell? ⟨w2.heap.size, 1, none⟩ = some v) ((wr.alloc (.cells #[.int .i64 (E : Int)] 2)).drew) := ⟨(HC3.out.below (below_alloc _ _)).2.1, (HC3.out.below (below_alloc _ _)).2.2.1, ((below_alloc wr _).cell (p := ⟨b1, o1 + k, none⟩) hblt).trans hck1, HKA.out.2.2.1⟩
        refine Anb.AnyB.one (i := 19) (by kernel_rfl) rfl (fun K hK => ?_)
        go_simp
        refine hK.out _ _ (fun _ => hHeld2) ?_
        clear hK K
        (try simp only [Act.put, List.setIfInBounds_toArray, List.set_cons_zero, List.set_cons_succ])
        have hb1v : b1 < w2.heap.size := by omega
        refine Anb.AnyB.one (i := 20) (by kernel_rfl) rfl (fun K hK => ?_)
        refine step_append_lies _ (by rfl) _ _ _ (by rfl) (w2.heap.size + 1) 2 i0 (.int .i64 0) 1 8 Try.underlying22 hi hz0 hz1 hz2 rfl (by omega) v k ((exL m (zN zs) k).map (Value.int .i64)) (by rfl) HOA.out ⟨wr.heap.size, 0, none⟩ 1 1 [.int .i64 (E : Int)] (by rfl) (by rfl) (World.news_of_block (cs := #[.int .i64 (E : Int)]) (t := 2) (fr := (0, 0)) (heap_alloc_new _ _)) (by simp [Value.oneCell']) (by omega) (by unfold maxLen; omega) (by omega) (by simp; omega) (wr.heap.size + 1) (by simp) ?_; intro gg cp w3 hown1 hgrow hat hlt3; have HK3 := Lib.hid (Kin.grown hgrow hn3 HKA.out); have HO2 := Lib.hid hown1; have HB3 := Lib.hid (Below.grown HBA.out hgrow (by simp; omega) (fun j hj => Nat.le_trans (by omega) (HNE.out j hj))); obtain ⟨hK3, hk30, hk31, hkf30, hkf31⟩ := HK3.out; clear hown1 hgrow hat hlt3
        have hHeld3 : (fun wq : World => wq.cell? ⟨w.heap.size, 0, none⟩ = some (.int .i64 (m : Int)) ∧ wq.cell? ⟨w.heap.size, 1, none⟩ = some (.slice (some ⟨b1, o1, none⟩) n cap) ∧ wq.cell? ⟨b1, o1 + k, none⟩ = some (.int .i64 (y : Int)) ∧ wq.cell? ⟨w2.heap.size, 1, none⟩ = some v) w3 := ⟨(HC2.out.below HB3.out).2.1, (HC2.out.below HB3.out).2.2.1, (HB3.out.cell (p := ⟨b1, o1 + k, none⟩) hb1v).trans ((HW.out.cell (p := ⟨b1, o1 + k, none⟩) hb1v).symm.trans hck1), HK3.out.2.2.1⟩
        refine hK.out _ _ (fun _ => hHeld3) ?_
        clear hK K
        (try simp only [Act.put, List.setIfInBounds_toArray, List.set_cons_zero, List.set_cons_succ])
        refine Anb.AnyB.take (i := 21) (v := ?_) (by simp only [List.getElem?_toArray, List.getElem?_cons_zero, List.getElem?_cons_succ]; rfl) (by simp only [List.getElem?_toArray, List.getElem?_cons_zero, List.getElem?_cons_succ]; rfl) (by kernel_rfl) (by kernel_rfl) (by kernel_rfl) (by kernel_rfl) (by intro _ _ _ h; exact h) (Or.inl ⟨by rfl, ?_⟩) (by assumption) ?_
        rotate_left 1
        · (intro wq hSq; (try dsimp only at hSq); go_simp; try with_reducible rfl)
        (try simp only [Act.put, List.setIfInBounds_toArray, List.set_cons_zero, List.set_cons_succ])
        refine Anb.AnyB.one (i := 22) (by kernel_rfl) rfl (fun K hK => ?_)
        go_simp
        refine hK.out _ _ (fun h => absurd rfl h) ?_
        clear hK K
        refine Anb.AnyB.done (by kernel_rfl) ?_ _
        all_goals
          go_wp2
          exact ⟨⟨k + 1, .slice (some ⟨gg, 0, none⟩) (k + 1) cp, _, by omega, by first | rfl | go_num | (congr 1), rfl, Lib.hid (Kin.set HK3.out _), Lib.hid (own_far (by rw [HL.out]; exact HO2.out) _ _ (by simp)), Lib.hid (Below.setCell HB3.out (by simp) _)⟩, by show n - ((k : Int) + 1).toNat < n - (k : Int).toNat; omega⟩
      · have hq : (wt y : Int).tmod 2 = 0 := by rw [Int.tmod_eq_emod_of_nonneg (by omega)]; omega
        obtain rfl := hEN ho
        clear hEY ho hwl
        go_wp2
        have HOA : Hid (((wr.alloc (.cells #[.int .i64 (E : Int)] 2)).drew).ownsRow (w2.heap.size + 1) 2 1 v k ((exL m (zN zs) k).map (Value.int .i64))) := Lib.hid ((HO.out.alloc _).drew)
        have HKA : Hid (Kin ((wr.alloc (.cells #[.int .i64 (E : Int)] 2)).drew) w2.heap.size (.int .i64 ((m : Int) + 1)) v) := Lib.hid ((HK.out.below (below_alloc _ _)).drewN 1)
        have HBA : Hid (Below w2.heap.size w2 ((wr.alloc (.cells #[.int .i64 (E : Int)] 2)).drew)) := Lib.hid (Below.drew (Below.alloc HW.out HW.out.size _))
        have hbz : w2.heap.size + 1 ≤ wr.heap.size := by omega
        have hk8 : k + 1 ≤ 8 := by omega
        have hHeld : wr.drew.cell? ⟨w.heap.size, 0, none⟩ = some (.int .i64 (m : Int)) ∧ wr.drew.cell? ⟨w.heap.size, 1, none⟩ = some (.slice (some ⟨b1, o1, none⟩) n cap) ∧ wr.drew.cell? ⟨b1, o1 + k, none⟩ = some (.int .i64 (E : Int)) ∧ wr.drew.cell? ⟨w2.heap.size, 1, none⟩ = some v := ⟨hp0, hp1, hck1, hk1⟩
        refine Anb.AnyB.region (fun wq : World => wq.cell? ⟨w.heap.size, 0, none⟩ = some (.int .i64 (m : Int)) ∧ wq.cell? ⟨w.heap.size, 1, none⟩ = some (.slice (some ⟨b1, o1, none⟩) n cap) ∧ wq.cell? ⟨b1, o1 + k, none⟩ = some (.int .i64 (E : Int)) ∧ wq.cell? ⟨w2.heap.size, 1, none⟩ = some v) 22 (by kernel_rfl) ?_
        refine Anb.AnyB.take (i := 0) (v := ?_) (by simp only [List.getElem?_toArray, List.getElem?_cons_zero]; rfl) (by simp only [List.getElem?_toArray, List.getElem?_cons_zero, List.getElem?_cons_succ]; rfl) (by kernel_rfl) (by kernel_rfl) (by kernel_rfl) (by kernel_rfl) (by intro _ _ _ h; exact h) (Or.inl ⟨by rfl, ?_⟩) (by assumption) ?_
        rotate_left 1
        · (intro wq hSq; (try dsimp only at hSq); go_simp; try with_reducible rfl)
        (try simp only [Act.put, List.setIfInBounds_toArray, List.set_cons_zero, List.set_cons_succ])
        refine Anb.AnyB.take (i := 1) (v := ?_) (by simp only [List.getElem?_toArray, List.getElem?_cons_zero, List.getElem?_cons_succ]; rfl) (by simp only [List.getElem?_toArray, List.getElem?_cons_zero, List.getElem?_cons_succ]; rfl) (by kernel_rfl) (by kernel_rfl) (by kernel_rfl) (by kernel_rfl) (by intro _ _ _ h; exact h) (Or.inl ⟨by rfl, ?_⟩) (by assumption) ?_
        rotate_left 1
        · (intro wq hSq; (try dsimp only at hSq); go_simp; try with_reducible rfl)
        (try simp only [Act.put, List.setIfInBounds_toArray, List.set_cons_zero, List.set_cons_succ])
        refine Anb.AnyB.take (i := 2) (v := ?_) (by simp only [List.getElem?_toArray, List.getElem?_cons_zero, List.getElem?_cons_succ]; rfl) (by simp only [List.getElem?_toArray, List.getElem?_cons_zero, List.getElem?_cons_succ]; rfl) (by kernel_rfl) (by kernel_rfl) (by kernel_rfl) (by kernel_rfl) (by intro _ _ _ h; exact h) (Or.inl ⟨by rfl, ?_⟩) (by assumption) ?_
        rotate_left 1
        · (intro wq hSq; (try dsimp only at hSq); go_simp; try with_reducible rfl)
        (try simp only [Act.put, List.setIfInBounds_toArray, List.set_cons_zero, List.set_cons_succ])
        refine Anb.AnyB.take (i := 3) (v := ?_) (by simp only [List.getElem?_toArray, List.getElem?_cons_zero, List.getElem?_cons_succ]; rfl) (by simp only [List.getElem?_toArray, List.getElem?_cons_zero, List.getElem?_cons_succ]; rfl) (by kernel_rfl) (by kernel_rfl) (by kernel_rfl) (by kernel_rfl) (by intro _ _ _ h; exact h) (Or.inl ⟨by rfl, ?_⟩) (by assumption) ?_
        rotate_left 1
        · (intro wq hSq; (try dsimp only at hSq); go_simp; try with_reducible rfl)
        (try simp only [Act.put, List.setIfInBounds_toArray, List.set_cons_zero, List.set_cons_succ])
        refine Anb.AnyB.take (i := 4) (v := ?_) (by simp only [List.getElem?_toArray, List.getElem?_cons_zero, List.getElem?_cons_succ]; rfl) (by simp only [List.getElem?_toArray, List.getElem?_cons_zero, List.getElem?_cons_succ]; rfl) (by kernel_rfl) (by kernel_rfl) (by kernel_rfl) (by kernel_rfl) (by intro _ _ _ h; exact h) (Or.inl ⟨by rfl, ?_⟩) (by assumption) ?_
        rotate_left 1
        · (intro wq hSq; (try dsimp only at hSq); go_simp; try with_reducible rfl)
        (try simp only [Act.put, List.setIfInBounds_toArray, List.set_cons_zero, List.set_cons_succ])
        refine Anb.AnyB.take (i := 5) (v := ?_) (by simp only [List.getElem?_toArray, List.getElem?_cons_zero, List.getElem?_cons_succ]; rfl) (by simp only [List.getElem?_toArray, List.getElem?_cons_zero, List.getElem?_cons_succ]; rfl) (by kernel_rfl) (by kernel_rfl) (by kernel_rfl) (by kernel_rfl) (by intro _ _ _ h; exact h) (Or.inl ⟨by rfl, ?_⟩) (by assumption) ?_
        rotate_left 1
        · (intro wq hSq; (try dsimp only at hSq); go_simp; try with_reducible rfl)
        (try simp only [Act.put, List.setIfInBounds_toArray, List.set_cons_zero, List.set_cons_succ])
        refine Anb.AnyB.take (i := 6) (v := ?_) (by simp only [List.getElem?_toArray, List.getElem?_cons_zero, List.getElem?_cons_succ]; rfl) (by simp only [List.getElem?_toArray, List.getElem?_cons_zero, List.getElem?_cons_succ]; rfl) (by kernel_rfl) (by kernel_rfl) (by kernel_rfl) (by kernel_rfl) (by intro _ _ _ h; exact h) (Or.inl ⟨by rfl, ?_⟩) (by assumption) ?_
        rotate_left 1
        · (intro wq hSq; (try dsimp only at hSq); go_simp; try with_reducible rfl)
        (try simp only [Act.put, List.setIfInBounds_toArray, List.set_cons_zero, List.set_cons_succ])
        refine Anb.AnyB.take (i := 7) (v := ?_) (by simp only [List.getElem?_toArray, List.getElem?_cons_zero, List.getElem?_cons_succ]; rfl) (by simp only [List.getElem?_toArray, List.getElem?_cons_zero, List.getElem?_cons_succ]; rfl) (by kernel_rfl) (by kernel_rfl) (by kernel_rfl) (by kernel_rfl) (by intro _ _ _ h; exact h) (Or.inl ⟨by rfl, ?_⟩) (by assumption) ?_
        rotate_left 1
        · (intro wq hSq; (try dsimp only at hSq); go_simp; try with_reducible rfl)
        (try simp only [Act.put, List.setIfInBounds_toArray, List.set_cons_zero, List.set_cons_succ])
        refine Anb.AnyB.take (i := 8) (v := ?_) (by simp only [List.getElem?_toArray, List.getElem?_cons_zero, List.getElem?_cons_succ]; rfl) (by simp only [List.getElem?_toArray, List.getElem?_cons_zero, List.getElem?_cons_succ]; rfl) (by kernel_rfl) (by kernel_rfl) (by kernel_rfl) (by kernel_rfl) (by intro _ _ _ h; exact h) (Or.inl ⟨by rfl, ?_⟩) (by assumption) ?_
        rotate_left 1
        · (intro wq hSq; (try dsimp only at hSq); go_simp; try with_reducible rfl)
        (try simp only [Act.put, List.setIfInBounds_toArray, List.set_cons_zero, List.set_cons_succ])
        refine Anb.AnyB.take (i := 9) (v := ?_) (by simp only [List.getElem?_toArray, List.getElem?_cons_zero, List.getElem?_cons_succ]; rfl) (by simp only [List.getElem?_toArray, List.getElem?_cons_zero, List.getElem?_cons_succ]; rfl) (by kernel_rfl) (by kernel_rfl) (by kernel_rfl) (by kernel_rfl) (by intro _ _ _ h; exact h) (Or.inl ⟨by rfl, ?_⟩) (by assumption) ?_
        rotate_left 1
        · (intro wq hSq; (try dsimp only at hSq); go_simp; try with_reducible rfl)
        (try simp only [Act.put, List.setIfInBounds_toArray, List.set_cons_zero, List.set_cons_succ])
        refine Anb.AnyB.take (i := 10) (v := ?_) (by simp only [List.getElem?_toArray, List.getElem?_cons_zero, List.getElem?_cons_succ]; rfl) (by simp only [List.getElem?_toArray, List.getElem?_cons_zero, List.getElem?_cons_succ]; rfl) (by kernel_rfl) (by kernel_rfl) (by kernel_rfl) (by kernel_rfl) (by intro _ _ _ h; exact h) (Or.inl ⟨by rfl, ?_⟩) (by assumption) ?_
        rotate_left 1
        · (intro wq hSq; (try dsimp only at hSq); go_simp; try with_reducible rfl)
        (try simp only [Act.put, List.setIfInBounds_toArray, List.set_cons_zero, List.set_cons_succ])
        refine Anb.AnyB.take (i := 11) (v := ?_) (by simp only [List.getElem?_toArray, List.getElem?_cons_zero, List.getElem?_cons_succ]; rfl) (by simp only [List.getElem?_toArray, List.getElem?_cons_zero, List.getElem?_cons_succ]; rfl) (by kernel_rfl) (by kernel_rfl) (by kernel_rfl) (by kernel_rfl) (by intro _ _ _ h; exact h) (Or.inl ⟨by rfl, ?_⟩) (by assumption) ?_
        rotate_left 1
        · (intro wq hSq; (try dsimp only at hSq); go_simp; try with_reducible rfl)
        (try simp only [Act.put, List.setIfInBounds_toArray, List.set_cons_zero, List.set_cons_succ])
        refine Anb.AnyB.take (i := 14) (v := ?_) (by simp only [List.getElem?_toArray, List.getElem?_cons_zero, List.getElem?_cons_succ]; rfl) (by simp only [List.getElem?_toArray, List.getElem?_cons_zero, List.getElem?_cons_succ]; rfl) (by kernel_rfl) (by kernel_rfl) (by kernel_rfl) (by kernel_rfl) (by intro _ _ _ h; exact h) (Or.inl ⟨by rfl, ?_⟩) (by assumption) ?_
        rotate_left 1
        · (intro wq hSq; (try dsimp only at hSq); go_simp; try with_reducible rfl)
        (try simp only [Act.put, List.setIfInBounds_toArray, List.set_cons_zero, List.set_cons_succ])
        refine Anb.AnyB.take (i := 15) (v := ?_) (by simp only [List.getElem?_toArray, List.getElem?_cons_zero, List.getElem?_cons_succ]; rfl) (by simp only [List.getElem?_toArray, List.getElem?_cons_zero, List.getElem?_cons_succ]; rfl) (by kernel_rfl) (by kernel_rfl) (by kernel_rfl) (by kernel_rfl) (by intro _ _ _ h; exact h) (Or.inl ⟨by rfl, ?_⟩) (by assumption) ?_
        rotate_left 1
        · (intro wq hSq; (try dsimp only at hSq); go_simp; try with_reducible rfl)
        (try simp only [Act.put, List.setIfInBounds_toArray, List.set_cons_zero, List.set_cons_succ])
        refine Anb.AnyB.take (i := 16) (v := ?_) (by simp only [List.getElem?_toArray, List.getElem?_cons_zero, List.getElem?_cons_succ]; rfl) (by simp only [List.getElem?_toArray, List.getElem?_cons_zero, List.getElem?_cons_succ]; rfl) (by kernel_rfl) (by kernel_rfl) (by kernel_rfl) (by kernel_rfl) (by intro _ _ _ h; exact h) (Or.inl ⟨by rfl, ?_⟩) (by assumption) ?_
        rotate_left 1
        · (intro wq hSq; (try dsimp only at hSq); go_simp; try with_reducible rfl)
        (try simp only [Act.put, List.setIfInBounds_toArray, List.set_cons_zero, List.set_cons_succ])
        refine Anb.AnyB.one (i := 12) (by kernel_rfl) rfl (fun K hK => ?_)
        go_simp; go_at_call 30; (with_reducible refine (wo_spec E _ HV.out).mono ?_); rintro e w' ⟨rfl, hw⟩; subst hw
        refine hK.out _ _ (fun _ => hHeld) ?_
        clear hK K
        (try simp only [Act.put, List.setIfInBounds_toArray, List.set_cons_zero, List.set_cons_succ])
        refine Anb.AnyB.take (i := 13) (v := ?_) (by simp only [List.getElem?_toArray, List.getElem?_cons_zero, List.getElem?_cons_succ]; rfl) (by simp only [List.getElem?_toArray, List.getElem?_cons_zero, List.getElem?_cons_succ]; rfl) (by kernel_rfl) (by kernel_rfl) (by kernel_rfl) (by kernel_rfl) (by intro _ _ _ h; exact h) (Or.inl ⟨by rfl, ?_⟩) (by assumption) ?_
        rotate_left 1
        · (intro wq hSq; (try dsimp only at hSq); go_simp; try with_reducible rfl)
        (try simp only [Act.put, List.setIfInBounds_toArray, List.set_cons_zero, List.set_cons_succ])
        refine Anb.AnyB.take (i := 17) (v := ?_) (by simp only [List.getElem?_toArray, List.getElem?_cons_zero, List.getElem?_cons_succ]; rfl) (by simp only [List.getElem?_toArray, List.getElem?_cons_zero, List.getElem?_cons_succ]; rfl) (by kernel_rfl) (by kernel_rfl) (by kernel_rfl) (by kernel_rfl) (by intro _ _ _ h; exact h) (Or.inl ⟨by rfl, ?_⟩) (by assumption) ?_
        rotate_left 1
        · (intro wq hSq; (try dsimp only at hSq); go_simp; try with_reducible rfl)
        (try simp only [Act.put, List.setIfInBounds_toArray, List.set_cons_zero, List.set_cons_succ])
        refine Anb.AnyB.take (i := 18) (v := ?_) (by simp only [List.getElem?_toArray, List.getElem?_cons_zero, List.getElem?_cons_succ]; rfl) (by simp only [List.getElem?_toArray, List.getElem?_cons_zero, List.getElem?_cons_succ]; rfl) (by kernel_rfl) (by kernel_rfl) (by kernel_rfl) (by kernel_rfl) (by intro _ _ _ h; exact h) (Or.inl ⟨by rfl, ?_⟩) (by assumption) ?_
        rotate_left 1
        · (intro wq hSq; (try dsimp only at hSq); go_simp; try with_reducible rfl)
        (try simp only [Act.put, List.setIfInBounds_toArray, List.set_cons_zero, List.set_cons_succ])
        have hb1w : b1 < w.heap.size := by obtain ⟨b9, o9, e9, h9, _⟩ := HA.out.cell' hlt; cases e9; exact h9
        have hHeld2 : (fun wq : World => wq.cell? ⟨w.heap.size, 0, none⟩ = some (.int .i64 (m : Int)) ∧ wq.cell? ⟨w.heap.size, 1, none⟩ = some (.slice (some ⟨b1, o1, none⟩) n cap) ∧ wq.cell? ⟨b1, o1 + k, none⟩ = some (.int .i64 (E : Int)) ∧ wq.cell? ⟨w2.heap.size, 1, none⟩ = some v) ((wr.alloc (.cells #[.int .i64 (E : Int)] 2)).drew) := ⟨(HC3.out.below (below_alloc _ _)).2.1, (HC3.out.below (below_alloc _ _)).2.2.1, ((below_alloc wr _).cell (p := ⟨b1, o1 + k, none⟩) hblt).trans hck1, HKA.out.2.2.1⟩
        refine Anb.AnyB.one (i := 19) (by kernel_rfl) rfl (fun K hK => ?_)
        go_simp
        refine hK.out _ _ (fun _ => hHeld2) ?_
        clear hK K
        (try simp only [Act.put, List.setIfInBounds_toArray, List.set_cons_zero, List.set_cons_succ])
        have hb1v : b1 < w2.heap.size := by omega
        refine Anb.AnyB.one (i := 20) (by kernel_rfl) rfl (fun K hK => ?_)
        refine step_append_lies _ (by rfl) _ _ _ (by rfl) (w2.heap.size + 1) 2 i0 (.int .i64 0) 1 8 Try.underlying22 hi hz0 hz1 hz2 rfl (by omega) v k ((exL m (zN zs) k).map (Value.int .i64)) (by rfl) HOA.out ⟨wr.heap.size, 0, none⟩ 1 1 [.int .i64 (E : Int)] (by rfl) (by rfl) (World.news_of_block (cs := #[.int .i64 (E : Int)]) (t := 2) (fr := (0, 0)) (heap_alloc_new _ _)) (by simp [Value.oneCell']) (by omega) (by unfold maxLen; omega) (by omega) (by simp; omega) (wr.heap.size + 1) (by simp) ?_; intro gg cp w3 hown1 hgrow hat hlt3; have HK3 := Lib.hid (Kin.grown hgrow hn3 HKA.out); have HO2 := Lib.hid hown1; have HB3 := Lib.hid (Below.grown HBA.out hgrow (by simp; omega) (fun j hj => Nat.le_trans (by omega) (HNE.out j hj))); obtain ⟨hK3, hk30, hk31, hkf30, hkf31⟩ := HK3.out; clear hown1 hgrow hat hlt3
        have hHeld3 : (fun wq : World => wq.cell? ⟨w.heap.size, 0, none⟩ = some (.int .i64 (m : Int)) ∧ wq.cell? ⟨w.heap.size, 1, none⟩ = some (.slice (some ⟨b1, o1, none⟩) n cap) ∧ wq.cell? ⟨b1, o1 + k, none⟩ = some (.int .i64 (E : Int)) ∧ wq.cell? ⟨w2.heap.size, 1, none⟩ = some v) w3 := ⟨(HC2.out.below HB3.out).2.1, (HC2.out.below HB3.out).2.2.1, (HB3.out.cell (p := ⟨b1, o1 + k, none⟩) hb1v).trans ((HW.out.cell (p := ⟨b1, o1 + k, none⟩) hb1v).symm.trans hck1), HK3.out.2.2.1⟩
        refine hK.out _ _ (fun _ => hHeld3) ?_
        clear hK K
        (try simp only [Act.put, List.setIfInBounds_toArray, List.set_cons_zero, List.set_cons_succ])
        refine Anb.AnyB.take (i := 21) (v := ?_) (by simp only [List.getElem?_toArray, List.getElem?_cons_zero, List.getElem?_cons_succ]; rfl) (by simp only [List.getElem?_toArray, List.getElem?_cons_zero, List.getElem?_cons_succ]; rfl) (by kernel_rfl) (by kernel_rfl) (by kernel_rfl) (by kernel_rfl) (by intro _ _ _ h; exact h) (Or.inl ⟨by rfl, ?_⟩) (by assumption) ?_
        rotate_left 1
        · (intro wq hSq; (try dsimp only at hSq); go_simp; try with_reducible rfl)
        (try simp only [Act.put, List.setIfInBounds_toArray, List.set_cons_zero, List.set_cons_succ])
        refine Anb.AnyB.one (i := 22) (by kernel_rfl) rfl (fun K hK => ?_)
        go_simp
        refine hK.out _ _ (fun h => absurd rfl h) ?_
        clear hK K
        refine Anb.AnyB.done (by kernel_rfl) ?_ _
        all_goals
          go_wp2
          exact ⟨⟨k + 1, .slice (some ⟨gg, 0, none⟩) (k + 1) cp, _, by omega, by first | rfl | go_num | (congr 1), rfl, Lib.hid (Kin.set HK3.out _), Lib.hid (own_far (by rw [HL.out]; exact HO2.out) _ _ (by simp)), Lib.hid (Below.setCell HB3.out (by simp) _)⟩, by show n - ((k : Int) + 1).toNat < n - (k : Int).toNat; omega⟩
    · obtain rfl : k = n := by omega
      obtain ⟨g, cp, rfl, hg, hgl⟩ := World.ownsRow.form HO.out (by omega)
      obtain ⟨hic, hgb⟩ := ICl.own HO.out (by omega)
      have HIC := Lib.hid hic
      have HB3 := Lib.hid (Below.next HB.out HW.out)
      obtain ⟨hP, hp0, hp1, hpf0, hpf1⟩ := HC3.out
      obtain ⟨hK, hk0, hk1, hkf0, hkf1⟩ := HK.out
      clear hic
      go_wp2_with (first | (go_at_call 33; (with_reducible refine (p6SY ((m : Int) + 1) _ k _ (exL m (zN zs) k) _ HIC.out.row hn HOK2.out).mono ?_); rintro e w4 ⟨rfl, hb⟩; have HB4 := Lib.hid (Below.next HB3.out hb); have HR4 := Lib.hid (HR3.out.below hb); have HI4 := Lib.hid (HIC.out.below hb); obtain ⟨hQ, hq0, hq1, hqf0, hqf1⟩ := HR4.out; clear hb) | fail)
      obtain ⟨_, hr1, hr2⟩ := HR4.out.res (.int .i64 ((m : Int) + 1)) (.slice (some ⟨g, 0, none⟩) k cp)
      exact bodyPost_ret (v := .tuple #[.agg #[.int .i64 ((m : Int) + 1), .slice (some ⟨g, 0, none⟩) k cp], .bool true]) (by simp [results, Try.results17, go_sem, hr1, hr2]) rfl
        ⟨g, cp, rfl, ICl.new ((HI4.out.far (by simp; omega) _).far (by simp; omega) _) (by omega) (Below.setCell (Below.setCell HB4.out (by simp) _) (by simp) _)⟩
set_option maxRecDepth 100000 in
set_option maxHeartbeats 4000000 in
theorem ex_specN (r : Int) (a : Option Addr) (n cap : Nat) (zs : List Int) (w : World) (h : IRow w a n zs) (hn : n ≤ 1048576) (hok : paB r zs n = true) (hok2 : paB (r + 1) (exL r.toNat (zN zs) n) n = false) : Calls Try.prog 17 #[.agg #[.int .i64 r, .slice a n cap]] w (YNone w) := by
  obtain ⟨i0, hi, hz0, hz1, hz2⟩ := info_parts Try.info64
  obtain ⟨⟨hr1, hr2⟩, ⟨hn1, hn2⟩, hwo, _⟩ := pa_out hok
  obtain ⟨m, rfl⟩ : ∃ m : Nat, r = (m : Int) := ⟨r.toNat, by omega⟩
  rw [Int.toNat_natCast] at *
  have hm16 : m ≤ 16 := by omega
  have HWO := Lib.hid (woP_wide hwo hm16)
  have HA := Lib.hid h
  have HA2 : Hid (IRow ((w.alloc (.cells #[.int .i64 (m : Int), .slice a n cap] 28)).alloc (.cells #[.int .i64 0, .slice none 0 0] 28)) a n zs) := Lib.hid ((h.alloc _).alloc _)
  have HC := Lib.hid ((Kin.new (w := w) (x := .int .i64 (m : Int)) (y := .slice a n cap) (T := 28)).below (below_alloc _ (.cells #[.int .i64 0, .slice none 0 0] 28)))
  have HR : Hid (Kin ((w.alloc (.cells #[.int .i64 (m : Int), .slice a n cap] 28)).alloc (.cells #[.int .i64 0, .slice none 0 0] 28)) (w.heap.size + 1) (.int .i64 0) (.slice none 0 0)) := Lib.hid (Kin.new' (by simp))
  have HOK := Lib.hid hok
  have HOK2 := Lib.hid hok2
  have hwm : IntKind.i64.wrap ((m : Int) + 1) = (m : Int) + 1 := IntWalk.i64_in _ (by omega)
  obtain ⟨hp0', hp1'⟩ := p2_16 hm16
  have hwp : IntKind.i64.wrap ((2 : Int) ^ m) = 2 ^ m := IntWalk.i64_in _ (by omega)
  have hwp1 : IntKind.i64.wrap (1 * (2 : Int) ^ m) = 2 ^ m := by rw [Int.one_mul]; exact hwp
  have hcast : ((2 ^ m : Nat) : Int) = (2 : Int) ^ m := by rw [Int.natCast_pow]; rfl
  have hp62 : 2 ^ m ≤ 65536 := Nat.pow_le_pow_right (by decide) hm16
  have hmin : min m 64 = m := by omega
  have hwu : IntKind.u64.wrap (m : Int) = (m : Int) := by rw [IntKind.wrap_u64]; omega
  have hw0 : IntKind.i64.wrap 0 = 0 := by decide
  clear h hok hok2 hwo
  go_enter Try.func17, Try.ntmps17
  go_wp2_with (first | (go_at_call 32; refine (pi_spec _ (m : Int) _ n cap zs _ HA2.out hn HC.out.1 HC.out.2.1 HC.out.2.2.1).mono ?_; rw [HOK.out]; rintro e w2 ⟨rfl, hd⟩; have HC2 := Lib.hid (HC.out.below hd); have HR2 := Lib.hid (HR.out.below hd); have HB := Lib.hid (Below.next (Below.alloc (below_alloc _ _) (by simp) _) hd : Below w.heap.size w w2); obtain ⟨hP, hp0, hp1, hpf0, hpf1⟩ := HC2.out; obtain ⟨hQ, hq0, hq1, hqf0, hqf1⟩ := HR2.out; clear hd) | fail)
  have hw2s : w.heap.size + 1 + 1 ≤ w2.heap.size := by have := HR2.out.1; omega
  clear hP hp0 hp1 hpf0 hpf1
  go_loopw [5] (fun iv w' => ∃ (k : Nat) (v : Value) (wr : World), k ≤ n ∧ iv = .int .i64 k ∧ wr = w' ∧ Hid (Kin wr w2.heap.size (.int .i64 ((m : Int) + 1)) v) ∧ Hid (wr.ownsRow (w2.heap.size + 1) 2 1 v k ((exL m (zN zs) k).map (Value.int .i64))) ∧ Hid (Below w2.heap.size w2 wr)) (fun iv _ => n - (intOf iv).toNat)
  case atStart => exact ⟨0, .slice none 0 0, _, by omega, rfl, rfl, Lib.hid (by first | exact Kin.new | exact Kin.put2 Kin.new _ _ | exact Kin.set0 Kin.new _), Lib.hid (World.ownsRow_nil _ _ _ _), Lib.hid (by repeat (first | exact Below.refl _ _ | refine Below.drew ?_ | refine Below.drewN' ?_ _ | refine Below.setCell ?_ (by first | (simp; done) | (simp; omega)) _ | refine Below.alloc ?_ (by first | exact Nat.le_refl _ | (simp; done) | (simp; omega)) _))⟩
  case round =>
    obtain ⟨k, v, wr, hk, rfl, rfl, HK, HO, HW⟩ := hrel
    have HC3 := Lib.hid (HC2.out.below HW.out)
    have HR3 := Lib.hid (HR2.out.below HW.out)
    by_cases hlt : k < n
    · obtain ⟨b1, o1, rfl, hblt, hck1⟩ := (HA.out.below (Below.next HB.out HW.out)).cell' hlt
      obtain ⟨hzk, hzl⟩ := zN_at HWO.out hlt
      rw [hzk] at hck1
      have HV : Hid (zN zs k < 65536) := Lib.hid hzl
      have HL := Lib.hid (exL_on m (zN zs) k)
      have hEY : wt (zN zs k) % 2 = 1 → exv m (zN zs k) = zN zs k ||| 2 ^ m := fun h => if_pos h
      have hEN : ¬ wt (zN zs k) % 2 = 1 → exv m (zN zs k) = zN zs k := fun h => if_neg h
      have hor := b_or (zN zs k) (2 ^ m) (by omega) (by omega)
      have hor0 : bits .or .i64 ((zN zs k : Nat) : Int) 0 = ((zN zs k : Nat) : Int) := by
        have h9 := b_or (zN zs k) 0 (by omega) (by omega)
        rw [Nat.or_zero] at h9
        exact h9
      rw [hcast] at hor
      generalize exv m (zN zs k) = E at HL hEY hEN
      generalize zN zs k ||| 2 ^ m = Q at hor hEY
      generalize zN zs k = y at hck1 HV hor hor0 hEY hEN
      have HNE := Lib.hid (own_block HO.out)
      have hsz := HW.out.size
      clear hzk hzl
      have hn3 : some w2.heap.size ≠ v.ownBlock := fun e => by have := own_block HO.out _ e.symm; omega
      obtain ⟨hP, hp0, hp1, hpf0, hpf1⟩ := HC3.out
      obtain ⟨hK, hk0, hk1, hkf0, hkf1⟩ := HK.out
      have hwl := wt_le y
      by_cases ho : wt y % 2 = 1
      · have hq : (wt y : Int).tmod 2 = 1 := by rw [Int.tmod_eq_emod_of_nonneg (by omega)]; omega
        obtain rfl := hEY ho
        clear hEN ho hwl
        go_wp2
        have HOA : Hid (((wr.alloc (.cells #[.int .i64 (E : Int)] 2)).drew).ownsRow (w2.heap.size + 1) 2 1 v k ((exL m (zN zs) k).map (Value.int .i64))) := Lib.hid ((HO.out.alloc _).drew)
        have HKA : Hid (Kin ((wr.alloc (.cells #[.int .i64 (E : Int)] 2)).drew) w2.heap.size (.int .i64 ((m : Int) + 1)) v) := Lib.hid ((HK.out.below (below_alloc _ _)).drewN 1)
        have HBA : Hid (Below w2.heap.size w2 ((wr.alloc (.cells #[.int .i64 (E : Int)] 2)).drew)) := Lib.hid (Below.drew (Below.alloc HW.out HW.out.size _))
        have hbz : w2.heap.size + 1 ≤ wr.heap.size := by omega
        have hk8 : k + 1 ≤ 8 := by omega
        have hHeld : wr.drew.cell? ⟨w.heap.size, 0, none⟩ = some (.int .i64 (m : Int)) ∧ wr.drew.cell? ⟨w.heap.size, 1, none⟩ = some (.slice (some ⟨b1, o1, none⟩) n cap) ∧ wr.drew.cell? ⟨b1, o1 + k, none⟩ = some (.int .i64 (y : Int)) ∧ wr.drew.cell? ⟨w2.heap.size, 1, none⟩ = some v := ⟨hp0, hp1, hck1, hk1⟩
        refine Anb.AnyB.region (fun wq : World => wq.cell? ⟨w.heap.size, 0, none⟩ = some (.int .i64 (m : Int)) ∧ wq.cell? ⟨w.heap.size, 1, none⟩ = some (.slice (some ⟨b1, o1, none⟩) n cap) ∧ wq.cell? ⟨b1, o1 + k, none⟩ = some (.int .i64 (y : Int)) ∧ wq.cell? ⟨w2.heap.size, 1, none⟩ = some v) 22 (by kernel_rfl) ?_
        refine Anb.AnyB.take (i := 0) (v := ?_) (by simp only [List.getElem?_toArray, List.getElem?_cons_zero]; rfl) (by simp only [List.getElem?_toArray, List.getElem?_cons_zero, List.getElem?_cons_succ]; rfl) (by kernel_rfl) (by kernel_rfl) (by kernel_rfl) (by kernel_rfl) (by intro _ _ _ h; exact h) (Or.inl ⟨by rfl, ?_⟩) (by assumption) ?_
        rotate_left 1
        · (intro wq hSq; (try dsimp only at hSq); go_simp; try with_reducible rfl)
        (try simp only [Act.put, List.setIfInBounds_toArray, List.set_cons_zero, List.set_cons_succ])
        refine Anb.AnyB.take (i := 1) (v := ?_) (by simp only [List.getElem?_toArray, List.getElem?_cons_zero, List.getElem?_cons_succ]; rfl) (by simp only [List.getElem?_toArray, List.getElem?_cons_zero, List.getElem?_cons_succ]; rfl) (by kernel_rfl) (by kernel_rfl) (by kernel_rfl) (by kernel_rfl) (by intro _ _ _ h; exact h) (Or.inl ⟨by rfl, ?_⟩) (by assumption) ?_
        rotate_left 1
        · (intro wq hSq; (try dsimp only at hSq); go_simp; try with_reducible rfl)
        (try simp only [Act.put, List.setIfInBounds_toArray, List.set_cons_zero, List.set_cons_succ])
        refine Anb.AnyB.take (i := 2) (v := ?_) (by simp only [List.getElem?_toArray, List.getElem?_cons_zero, List.getElem?_cons_succ]; rfl) (by simp only [List.getElem?_toArray, List.getElem?_cons_zero, List.getElem?_cons_succ]; rfl) (by kernel_rfl) (by kernel_rfl) (by kernel_rfl) (by kernel_rfl) (by intro _ _ _ h; exact h) (Or.inl ⟨by rfl, ?_⟩) (by assumption) ?_
        rotate_left 1
        · (intro wq hSq; (try dsimp only at hSq); go_simp; try with_reducible rfl)
        (try simp only [Act.put, List.setIfInBounds_toArray, List.set_cons_zero, List.set_cons_succ])
        refine Anb.AnyB.take (i := 3) (v := ?_) (by simp only [List.getElem?_toArray, List.getElem?_cons_zero, List.getElem?_cons_succ]; rfl) (by simp only [List.getElem?_toArray, List.getElem?_cons_zero, List.getElem?_cons_succ]; rfl) (by kernel_rfl) (by kernel_rfl) (by kernel_rfl) (by kernel_rfl) (by intro _ _ _ h; exact h) (Or.inl ⟨by rfl, ?_⟩) (by assumption) ?_
        rotate_left 1
        · (intro wq hSq; (try dsimp only at hSq); go_simp; try with_reducible rfl)
        (try simp only [Act.put, List.setIfInBounds_toArray, List.set_cons_zero, List.set_cons_succ])
        refine Anb.AnyB.take (i := 4) (v := ?_) (by simp only [List.getElem?_toArray, List.getElem?_cons_zero, List.getElem?_cons_succ]; rfl) (by simp only [List.getElem?_toArray, List.getElem?_cons_zero, List.getElem?_cons_succ]; rfl) (by kernel_rfl) (by kernel_rfl) (by kernel_rfl) (by kernel_rfl) (by intro _ _ _ h; exact h) (Or.inl ⟨by rfl, ?_⟩) (by assumption) ?_
        rotate_left 1
        · (intro wq hSq; (try dsimp only at hSq); go_simp; try with_reducible rfl)
        (try simp only [Act.put, List.setIfInBounds_toArray, List.set_cons_zero, List.set_cons_succ])
        refine Anb.AnyB.take (i := 5) (v := ?_) (by simp only [List.getElem?_toArray, List.getElem?_cons_zero, List.getElem?_cons_succ]; rfl) (by simp only [List.getElem?_toArray, List.getElem?_cons_zero, List.getElem?_cons_succ]; rfl) (by kernel_rfl) (by kernel_rfl) (by kernel_rfl) (by kernel_rfl) (by intro _ _ _ h; exact h) (Or.inl ⟨by rfl, ?_⟩) (by assumption) ?_
        rotate_left 1
        · (intro wq hSq; (try dsimp only at hSq); go_simp; try with_reducible rfl)
        (try simp only [Act.put, List.setIfInBounds_toArray, List.set_cons_zero, List.set_cons_succ])
        refine Anb.AnyB.take (i := 6) (v := ?_) (by simp only [List.getElem?_toArray, List.getElem?_cons_zero, List.getElem?_cons_succ]; rfl) (by simp only [List.getElem?_toArray, List.getElem?_cons_zero, List.getElem?_cons_succ]; rfl) (by kernel_rfl) (by kernel_rfl) (by kernel_rfl) (by kernel_rfl) (by intro _ _ _ h; exact h) (Or.inl ⟨by rfl, ?_⟩) (by assumption) ?_
        rotate_left 1
        · (intro wq hSq; (try dsimp only at hSq); go_simp; try with_reducible rfl)
        (try simp only [Act.put, List.setIfInBounds_toArray, List.set_cons_zero, List.set_cons_succ])
        refine Anb.AnyB.take (i := 7) (v := ?_) (by simp only [List.getElem?_toArray, List.getElem?_cons_zero, List.getElem?_cons_succ]; rfl) (by simp only [List.getElem?_toArray, List.getElem?_cons_zero, List.getElem?_cons_succ]; rfl) (by kernel_rfl) (by kernel_rfl) (by kernel_rfl) (by kernel_rfl) (by intro _ _ _ h; exact h) (Or.inl ⟨by rfl, ?_⟩) (by assumption) ?_
        rotate_left 1
        · (intro wq hSq; (try dsimp only at hSq); go_simp; try with_reducible rfl)
        (try simp only [Act.put, List.setIfInBounds_toArray, List.set_cons_zero, List.set_cons_succ])
        refine Anb.AnyB.take (i := 8) (v := ?_) (by simp only [List.getElem?_toArray, List.getElem?_cons_zero, List.getElem?_cons_succ]; rfl) (by simp only [List.getElem?_toArray, List.getElem?_cons_zero, List.getElem?_cons_succ]; rfl) (by kernel_rfl) (by kernel_rfl) (by kernel_rfl) (by kernel_rfl) (by intro _ _ _ h; exact h) (Or.inl ⟨by rfl, ?_⟩) (by assumption) ?_
        rotate_left 1
        · (intro wq hSq; (try dsimp only at hSq); go_simp; try with_reducible rfl)
        (try simp only [Act.put, List.setIfInBounds_toArray, List.set_cons_zero, List.set_cons_succ])
        refine Anb.AnyB.take (i := 9) (v := ?_) (by simp only [List.getElem?_toArray, List.getElem?_cons_zero, List.getElem?_cons_succ]; rfl) (by simp only [List.getElem?_toArray, List.getElem?_cons_zero, List.getElem?_cons_succ]; rfl) (by kernel_rfl) (by kernel_rfl) (by kernel_rfl) (by kernel_rfl) (by intro _ _ _ h; exact h) (Or.inl ⟨by rfl, ?_⟩) (by assumption) ?_
        rotate_left 1
        · (intro wq hSq; (try dsimp only at hSq); go_simp; try with_reducible rfl)
        (try simp only [Act.put, List.setIfInBounds_toArray, List.set_cons_zero, List.set_cons_succ])
        refine Anb.AnyB.take (i := 10) (v := ?_) (by simp only [List.getElem?_toArray, List.getElem?_cons_zero, List.getElem?_cons_succ]; rfl) (by simp only [List.getElem?_toArray, List.getElem?_cons_zero, List.getElem?_cons_succ]; rfl) (by kernel_rfl) (by kernel_rfl) (by kernel_rfl) (by kernel_rfl) (by intro _ _ _ h; exact h) (Or.inl ⟨by rfl, ?_⟩) (by assumption) ?_
        rotate_left 1
        · (intro wq hSq; (try dsimp only at hSq); go_simp; try with_reducible rfl)
        (try simp only [Act.put, List.setIfInBounds_toArray, List.set_cons_zero, List.set_cons_succ])
        refine Anb.AnyB.take (i := 11) (v := ?_) (by simp only [List.getElem?_toArray, List.getElem?_cons_zero, List.getElem?_cons_succ]; rfl) (by simp only [List.getElem?_toArray, List.getElem?_cons_zero, List.getElem?_cons_succ]; rfl) (by kernel_rfl) (by kernel_rfl) (by kernel_rfl) (by kernel_rfl) (by intro _ _ _ h; exact h) (Or.inl ⟨by rfl, ?_⟩) (by assumption) ?_
        rotate_left 1
        · (intro wq hSq; (try dsimp only at hSq); go_simp; try with_reducible rfl)
        (try simp only [Act.put, List.setIfInBounds_toArray, List.set_cons_zero, List.set_cons_succ])
        refine Anb.AnyB.take (i := 14) (v := ?_) (by simp only [List.getElem?_toArray, List.getElem?_cons_zero, List.getElem?_cons_succ]; rfl) (by simp only [List.getElem?_toArray, List.getElem?_cons_zero, List.getElem?_cons_succ]; rfl) (by kernel_rfl) (by kernel_rfl) (by kernel_rfl) (by kernel_rfl) (by intro _ _ _ h; exact h) (Or.inl ⟨by rfl, ?_⟩) (by assumption) ?_
        rotate_left 1
        · (intro wq hSq; (try dsimp only at hSq); go_simp; try with_reducible rfl)
        (try simp only [Act.put, List.setIfInBounds_toArray, List.set_cons_zero, List.set_cons_succ])
        refine Anb.AnyB.take (i := 15) (v := ?_) (by simp only [List.getElem?_toArray, List.getElem?_cons_zero, List.getElem?_cons_succ]; rfl) (by simp only [List.getElem?_toArray, List.getElem?_cons_zero, List.getElem?_cons_succ]; rfl) (by kernel_rfl) (by kernel_rfl) (by kernel_rfl) (by kernel_rfl) (by intro _ _ _ h; exact h) (Or.inl ⟨by rfl, ?_⟩) (by assumption) ?_
        rotate_left 1
        · (intro wq hSq; (try dsimp only at hSq); go_simp; try with_reducible rfl)
        (try simp only [Act.put, List.setIfInBounds_toArray, List.set_cons_zero, List.set_cons_succ])
        refine Anb.AnyB.take (i := 16) (v := ?_) (by simp only [List.getElem?_toArray, List.getElem?_cons_zero, List.getElem?_cons_succ]; rfl) (by simp only [List.getElem?_toArray, List.getElem?_cons_zero, List.getElem?_cons_succ]; rfl) (by kernel_rfl) (by kernel_rfl) (by kernel_rfl) (by kernel_rfl) (by intro _ _ _ h; exact h) (Or.inl ⟨by rfl, ?_⟩) (by assumption) ?_
        rotate_left 1
        · (intro wq hSq; (try dsimp only at hSq); go_simp; try with_reducible rfl)
        (try simp only [Act.put, List.setIfInBounds_toArray, List.set_cons_zero, List.set_cons_succ])
        refine Anb.AnyB.one (i := 12) (by kernel_rfl) rfl (fun K hK => ?_)
        go_simp; go_at_call 30; (with_reducible refine (wo_spec y _ HV.out).mono ?_); rintro e w' ⟨rfl, hw⟩; subst hw
        refine hK.out _ _ (fun _ => hHeld) ?_
        clear hK K
        (try simp only [Act.put, List.setIfInBounds_toArray, List.set_cons_zero, List.set_cons_succ])
        refine Anb.AnyB.take (i := 13) (v := ?_) (by simp only [List.getElem?_toArray, List.getElem?_cons_zero, List.getElem?_cons_succ]; rfl) (by simp only [List.getElem?_toArray, List.getElem?_cons_zero, List.getElem?_cons_succ]; rfl) (by kernel_rfl) (by kernel_rfl) (by kernel_rfl) (by kernel_rfl) (by intro _ _ _ h; exact h) (Or.inl ⟨by rfl, ?_⟩) (by assumption) ?_
        rotate_left 1
        · (intro wq hSq; (try dsimp only at hSq); go_simp; try with_reducible rfl)
        (try simp only [Act.put, List.setIfInBounds_toArray, List.set_cons_zero, List.set_cons_succ])
        refine Anb.AnyB.take (i := 17) (v := ?_) (by simp only [List.getElem?_toArray, List.getElem?_cons_zero, List.getElem?_cons_succ]; rfl) (by simp only [List.getElem?_toArray, List.getElem?_cons_zero, List.getElem?_cons_succ]; rfl) (by kernel_rfl) (by kernel_rfl) (by kernel_rfl) (by kernel_rfl) (by intro _ _ _ h; exact h) (Or.inl ⟨by rfl, ?_⟩) (by assumption) ?_
        rotate_left 1
        · (intro wq hSq; (try dsimp only at hSq); go_simp; try with_reducible rfl)
        (try simp only [Act.put, List.setIfInBounds_toArray, List.set_cons_zero, List.set_cons_succ])
        refine Anb.AnyB.take (i := 18) (v := ?_) (by simp only [List.getElem?_toArray, List.getElem?_cons_zero, List.getElem?_cons_succ]; rfl) (by simp only [List.getElem?_toArray, List.getElem?_cons_zero, List.getElem?_cons_succ]; rfl) (by kernel_rfl) (by kernel_rfl) (by kernel_rfl) (by kernel_rfl) (by intro _ _ _ h; exact h) (Or.inl ⟨by rfl, ?_⟩) (by assumption) ?_
        rotate_left 1
        · (intro wq hSq; (try dsimp only at hSq); go_simp; try with_reducible rfl)
        (try simp only [Act.put, List.setIfInBounds_toArray, List.set_cons_zero, List.set_cons_succ])
        have hb1w : b1 < w.heap.size := by obtain ⟨b9, o9, e9, h9, _⟩ := HA.out.cell' hlt; cases e9; exact h9
        have hHeld2 : (fun wq : World => wq.cell? ⟨w.heap.size, 0, none⟩ = some (.int .i64 (m : Int)) ∧ wq.cell? ⟨w.heap.size, 1, none⟩ = some (.slice (some ⟨b1, o1, none⟩) n cap) ∧ wq.cell? ⟨b1, o1 + k, none⟩ = some (.int .i64 (y : Int)) ∧ wq.cell? ⟨w2.heap.size, 1, none⟩ = some v) ((wr.alloc (.cells #[.int .i64 (E : Int)] 2)).drew) := ⟨(HC3.out.below (below_alloc _ _)).2.1, (HC3.out.below (below_alloc _ _)).2.2.1, ((below_alloc wr _).cell (p := ⟨b1, o1 + k, none⟩) hblt).trans hck1, HKA.out.2.2.1⟩
        refine Anb.AnyB.one (i := 19) (by kernel_rfl) rfl (fun K hK => ?_)
        go_simp
        refine hK.out _ _ (fun _ => hHeld2) ?_
        clear hK K
        (try simp only [Act.put, List.setIfInBounds_toArray, List.set_cons_zero, List.set_cons_succ])
        have hb1v : b1 < w2.heap.size := by omega
        refine Anb.AnyB.one (i := 20) (by kernel_rfl) rfl (fun K hK => ?_)
        refine step_append_lies _ (by rfl) _ _ _ (by rfl) (w2.heap.size + 1) 2 i0 (.int .i64 0) 1 8 Try.underlying22 hi hz0 hz1 hz2 rfl (by omega) v k ((exL m (zN zs) k).map (Value.int .i64)) (by rfl) HOA.out ⟨wr.heap.size, 0, none⟩ 1 1 [.int .i64 (E : Int)] (by rfl) (by rfl) (World.news_of_block (cs := #[.int .i64 (E : Int)]) (t := 2) (fr := (0, 0)) (heap_alloc_new _ _)) (by simp [Value.oneCell']) (by omega) (by unfold maxLen; omega) (by omega) (by simp; omega) (wr.heap.size + 1) (by simp) ?_; intro gg cp w3 hown1 hgrow hat hlt3; have HK3 := Lib.hid (Kin.grown hgrow hn3 HKA.out); have HO2 := Lib.hid hown1; have HB3 := Lib.hid (Below.grown HBA.out hgrow (by simp; omega) (fun j hj => Nat.le_trans (by omega) (HNE.out j hj))); obtain ⟨hK3, hk30, hk31, hkf30, hkf31⟩ := HK3.out; clear hown1 hgrow hat hlt3
        have hHeld3 : (fun wq : World => wq.cell? ⟨w.heap.size, 0, none⟩ = some (.int .i64 (m : Int)) ∧ wq.cell? ⟨w.heap.size, 1, none⟩ = some (.slice (some ⟨b1, o1, none⟩) n cap) ∧ wq.cell? ⟨b1, o1 + k, none⟩ = some (.int .i64 (y : Int)) ∧ wq.cell? ⟨w2.heap.size, 1, none⟩ = some v) w3 := ⟨(HC2.out.below HB3.out).2.1, (HC2.out.below HB3.out).2.2.1, (HB3.out.cell (p := ⟨b1, o1 + k, none⟩) hb1v).trans ((HW.out.cell (p := ⟨b1, o1 + k, none⟩) hb1v).symm.trans hck1), HK3.out.2.2.1⟩
        refine hK.out _ _ (fun _ => hHeld3) ?_
        clear hK K
        (try simp only [Act.put, List.setIfInBounds_toArray, List.set_cons_zero, List.set_cons_succ])
        refine Anb.AnyB.take (i := 21) (v := ?_) (by simp only [List.getElem?_toArray, List.getElem?_cons_zero, List.getElem?_cons_succ]; rfl) (by simp only [List.getElem?_toArray, List.getElem?_cons_zero, List.getElem?_cons_succ]; rfl) (by kernel_rfl) (by kernel_rfl) (by kernel_rfl) (by kernel_rfl) (by intro _ _ _ h; exact h) (Or.inl ⟨by rfl, ?_⟩) (by assumption) ?_
        rotate_left 1
        · (intro wq hSq; (try dsimp only at hSq); go_simp; try with_reducible rfl)
        (try simp only [Act.put, List.setIfInBounds_toArray, List.set_cons_zero, List.set_cons_succ])
        refine Anb.AnyB.one (i := 22) (by kernel_rfl) rfl (fun K hK => ?_)
        go_simp
        refine hK.out _ _ (fun h => absurd rfl h) ?_
        clear hK K
        refine Anb.AnyB.done (by kernel_rfl) ?_ _
        all_goals
          go_wp2
          exact ⟨⟨k + 1, .slice (some ⟨gg, 0, none⟩) (k + 1) cp, _, by omega, by first | rfl | go_num | (congr 1), rfl, Lib.hid (Kin.set HK3.out _), Lib.hid (own_far (by rw [HL.out]; exact HO2.out) _ _ (by simp)), Lib.hid (Below.setCell HB3.out (by simp) _)⟩, by show n - ((k : Int) + 1).toNat < n - (k : Int).toNat; omega⟩
      · have hq : (wt y : Int).tmod 2 = 0 := by rw [Int.tmod_eq_emod_of_nonneg (by omega)]; omega
        obtain rfl := hEN ho
        clear hEY ho hwl
        go_wp2
        have HOA : Hid (((wr.alloc (.cells #[.int .i64 (E : Int)] 2)).drew).ownsRow (w2.heap.size + 1) 2 1 v k ((exL m (zN zs) k).map (Value.int .i64))) := Lib.hid ((HO.out.alloc _).drew)
        have HKA : Hid (Kin ((wr.alloc (.cells #[.int .i64 (E : Int)] 2)).drew) w2.heap.size (.int .i64 ((m : Int) + 1)) v) := Lib.hid ((HK.out.below (below_alloc _ _)).drewN 1)
        have HBA : Hid (Below w2.heap.size w2 ((wr.alloc (.cells #[.int .i64 (E : Int)] 2)).drew)) := Lib.hid (Below.drew (Below.alloc HW.out HW.out.size _))
        have hbz : w2.heap.size + 1 ≤ wr.heap.size := by omega
        have hk8 : k + 1 ≤ 8 := by omega
        have hHeld : wr.drew.cell? ⟨w.heap.size, 0, none⟩ = some (.int .i64 (m : Int)) ∧ wr.drew.cell? ⟨w.heap.size, 1, none⟩ = some (.slice (some ⟨b1, o1, none⟩) n cap) ∧ wr.drew.cell? ⟨b1, o1 + k, none⟩ = some (.int .i64 (E : Int)) ∧ wr.drew.cell? ⟨w2.heap.size, 1, none⟩ = some v := ⟨hp0, hp1, hck1, hk1⟩
        refine Anb.AnyB.region (fun wq : World => wq.cell? ⟨w.heap.size, 0, none⟩ = some (.int .i64 (m : Int)) ∧ wq.cell? ⟨w.heap.size, 1, none⟩ = some (.slice (some ⟨b1, o1, none⟩) n cap) ∧ wq.cell? ⟨b1, o1 + k, none⟩ = some (.int .i64 (E : Int)) ∧ wq.cell? ⟨w2.heap.size, 1, none⟩ = some v) 22 (by kernel_rfl) ?_
        refine Anb.AnyB.take (i := 0) (v := ?_) (by simp only [List.getElem?_toArray, List.getElem?_cons_zero]; rfl) (by simp only [List.getElem?_toArray, List.getElem?_cons_zero, List.getElem?_cons_succ]; rfl) (by kernel_rfl) (by kernel_rfl) (by kernel_rfl) (by kernel_rfl) (by intro _ _ _ h; exact h) (Or.inl ⟨by rfl, ?_⟩) (by assumption) ?_
        rotate_left 1
        · (intro wq hSq; (try dsimp only at hSq); go_simp; try with_reducible rfl)
        (try simp only [Act.put, List.setIfInBounds_toArray, List.set_cons_zero, List.set_cons_succ])
        refine Anb.AnyB.take (i := 1) (v := ?_) (by simp only [List.getElem?_toArray, List.getElem?_cons_zero, List.getElem?_cons_succ]; rfl) (by simp only [List.getElem?_toArray, List.getElem?_cons_zero, List.getElem?_cons_succ]; rfl) (by kernel_rfl) (by kernel_rfl) (by kernel_rfl) (by kernel_rfl) (by intro _ _ _ h; exact h) (Or.inl ⟨by rfl, ?_⟩) (by assumption) ?_
        rotate_left 1
        · (intro wq hSq; (try dsimp only at hSq); go_simp; try with_reducible rfl)
        (try simp only [Act.put, List.setIfInBounds_toArray, List.set_cons_zero, List.set_cons_succ])
        refine Anb.AnyB.take (i := 2) (v := ?_) (by simp only [List.getElem?_toArray, List.getElem?_cons_zero, List.getElem?_cons_succ]; rfl) (by simp only [List.getElem?_toArray, List.getElem?_cons_zero, List.getElem?_cons_succ]; rfl) (by kernel_rfl) (by kernel_rfl) (by kernel_rfl) (by kernel_rfl) (by intro _ _ _ h; exact h) (Or.inl ⟨by rfl, ?_⟩) (by assumption) ?_
        rotate_left 1
        · (intro wq hSq; (try dsimp only at hSq); go_simp; try with_reducible rfl)
        (try simp only [Act.put, List.setIfInBounds_toArray, List.set_cons_zero, List.set_cons_succ])
        refine Anb.AnyB.take (i := 3) (v := ?_) (by simp only [List.getElem?_toArray, List.getElem?_cons_zero, List.getElem?_cons_succ]; rfl) (by simp only [List.getElem?_toArray, List.getElem?_cons_zero, List.getElem?_cons_succ]; rfl) (by kernel_rfl) (by kernel_rfl) (by kernel_rfl) (by kernel_rfl) (by intro _ _ _ h; exact h) (Or.inl ⟨by rfl, ?_⟩) (by assumption) ?_
        rotate_left 1
        · (intro wq hSq; (try dsimp only at hSq); go_simp; try with_reducible rfl)
        (try simp only [Act.put, List.setIfInBounds_toArray, List.set_cons_zero, List.set_cons_succ])
        refine Anb.AnyB.take (i := 4) (v := ?_) (by simp only [List.getElem?_toArray, List.getElem?_cons_zero, List.getElem?_cons_succ]; rfl) (by simp only [List.getElem?_toArray, List.getElem?_cons_zero, List.getElem?_cons_succ]; rfl) (by kernel_rfl) (by kernel_rfl) (by kernel_rfl) (by kernel_rfl) (by intro _ _ _ h; exact h) (Or.inl ⟨by rfl, ?_⟩) (by assumption) ?_
        rotate_left 1
        · (intro wq hSq; (try dsimp only at hSq); go_simp; try with_reducible rfl)
        (try simp only [Act.put, List.setIfInBounds_toArray, List.set_cons_zero, List.set_cons_succ])
        refine Anb.AnyB.take (i := 5) (v := ?_) (by simp only [List.getElem?_toArray, List.getElem?_cons_zero, List.getElem?_cons_succ]; rfl) (by simp only [List.getElem?_toArray, List.getElem?_cons_zero, List.getElem?_cons_succ]; rfl) (by kernel_rfl) (by kernel_rfl) (by kernel_rfl) (by kernel_rfl) (by intro _ _ _ h; exact h) (Or.inl ⟨by rfl, ?_⟩) (by assumption) ?_
        rotate_left 1
        · (intro wq hSq; (try dsimp only at hSq); go_simp; try with_reducible rfl)
        (try simp only [Act.put, List.setIfInBounds_toArray, List.set_cons_zero, List.set_cons_succ])
        refine Anb.AnyB.take (i := 6) (v := ?_) (by simp only [List.getElem?_toArray, List.getElem?_cons_zero, List.getElem?_cons_succ]; rfl) (by simp only [List.getElem?_toArray, List.getElem?_cons_zero, List.getElem?_cons_succ]; rfl) (by kernel_rfl) (by kernel_rfl) (by kernel_rfl) (by kernel_rfl) (by intro _ _ _ h; exact h) (Or.inl ⟨by rfl, ?_⟩) (by assumption) ?_
        rotate_left 1
        · (intro wq hSq; (try dsimp only at hSq); go_simp; try with_reducible rfl)
        (try simp only [Act.put, List.setIfInBounds_toArray, List.set_cons_zero, List.set_cons_succ])
        refine Anb.AnyB.take (i := 7) (v := ?_) (by simp only [List.getElem?_toArray, List.getElem?_cons_zero, List.getElem?_cons_succ]; rfl) (by simp only [List.getElem?_toArray, List.getElem?_cons_zero, List.getElem?_cons_succ]; rfl) (by kernel_rfl) (by kernel_rfl) (by kernel_rfl) (by kernel_rfl) (by intro _ _ _ h; exact h) (Or.inl ⟨by rfl, ?_⟩) (by assumption) ?_
        rotate_left 1
        · (intro wq hSq; (try dsimp only at hSq); go_simp; try with_reducible rfl)
        (try simp only [Act.put, List.setIfInBounds_toArray, List.set_cons_zero, List.set_cons_succ])
        refine Anb.AnyB.take (i := 8) (v := ?_) (by simp only [List.getElem?_toArray, List.getElem?_cons_zero, List.getElem?_cons_succ]; rfl) (by simp only [List.getElem?_toArray, List.getElem?_cons_zero, List.getElem?_cons_succ]; rfl) (by kernel_rfl) (by kernel_rfl) (by kernel_rfl) (by kernel_rfl) (by intro _ _ _ h; exact h) (Or.inl ⟨by rfl, ?_⟩) (by assumption) ?_
        rotate_left 1
        · (intro wq hSq; (try dsimp only at hSq); go_simp; try with_reducible rfl)
        (try simp only [Act.put, List.setIfInBounds_toArray, List.set_cons_zero, List.set_cons_succ])
        refine Anb.AnyB.take (i := 9) (v := ?_) (by simp only [List.getElem?_toArray, List.getElem?_cons_zero, List.getElem?_cons_succ]; rfl) (by simp only [List.getElem?_toArray, List.getElem?_cons_zero, List.getElem?_cons_succ]; rfl) (by kernel_rfl) (by kernel_rfl) (by kernel_rfl) (by kernel_rfl) (by intro _ _ _ h; exact h) (Or.inl ⟨by rfl, ?_⟩) (by assumption) ?_
        rotate_left 1
        · (intro wq hSq; (try dsimp only at hSq); go_simp; try with_reducible rfl)
        (try simp only [Act.put, List.setIfInBounds_toArray, List.set_cons_zero, List.set_cons_succ])
        refine Anb.AnyB.take (i := 10) (v := ?_) (by simp only [List.getElem?_toArray, List.getElem?_cons_zero, List.getElem?_cons_succ]; rfl) (by simp only [List.getElem?_toArray, List.getElem?_cons_zero, List.getElem?_cons_succ]; rfl) (by kernel_rfl) (by kernel_rfl) (by kernel_rfl) (by kernel_rfl) (by intro _ _ _ h; exact h) (Or.inl ⟨by rfl, ?_⟩) (by assumption) ?_
        rotate_left 1
        · (intro wq hSq; (try dsimp only at hSq); go_simp; try with_reducible rfl)
        (try simp only [Act.put, List.setIfInBounds_toArray, List.set_cons_zero, List.set_cons_succ])
        refine Anb.AnyB.take (i := 11) (v := ?_) (by simp only [List.getElem?_toArray, List.getElem?_cons_zero, List.getElem?_cons_succ]; rfl) (by simp only [List.getElem?_toArray, List.getElem?_cons_zero, List.getElem?_cons_succ]; rfl) (by kernel_rfl) (by kernel_rfl) (by kernel_rfl) (by kernel_rfl) (by intro _ _ _ h; exact h) (Or.inl ⟨by rfl, ?_⟩) (by assumption) ?_
        rotate_left 1
        · (intro wq hSq; (try dsimp only at hSq); go_simp; try with_reducible rfl)
        (try simp only [Act.put, List.setIfInBounds_toArray, List.set_cons_zero, List.set_cons_succ])
        refine Anb.AnyB.take (i := 14) (v := ?_) (by simp only [List.getElem?_toArray, List.getElem?_cons_zero, List.getElem?_cons_succ]; rfl) (by simp only [List.getElem?_toArray, List.getElem?_cons_zero, List.getElem?_cons_succ]; rfl) (by kernel_rfl) (by kernel_rfl) (by kernel_rfl) (by kernel_rfl) (by intro _ _ _ h; exact h) (Or.inl ⟨by rfl, ?_⟩) (by assumption) ?_
        rotate_left 1
        · (intro wq hSq; (try dsimp only at hSq); go_simp; try with_reducible rfl)
        (try simp only [Act.put, List.setIfInBounds_toArray, List.set_cons_zero, List.set_cons_succ])
        refine Anb.AnyB.take (i := 15) (v := ?_) (by simp only [List.getElem?_toArray, List.getElem?_cons_zero, List.getElem?_cons_succ]; rfl) (by simp only [List.getElem?_toArray, List.getElem?_cons_zero, List.getElem?_cons_succ]; rfl) (by kernel_rfl) (by kernel_rfl) (by kernel_rfl) (by kernel_rfl) (by intro _ _ _ h; exact h) (Or.inl ⟨by rfl, ?_⟩) (by assumption) ?_
        rotate_left 1
        · (intro wq hSq; (try dsimp only at hSq); go_simp; try with_reducible rfl)
        (try simp only [Act.put, List.setIfInBounds_toArray, List.set_cons_zero, List.set_cons_succ])
        refine Anb.AnyB.take (i := 16) (v := ?_) (by simp only [List.getElem?_toArray, List.getElem?_cons_zero, List.getElem?_cons_succ]; rfl) (by simp only [List.getElem?_toArray, List.getElem?_cons_zero, List.getElem?_cons_succ]; rfl) (by kernel_rfl) (by kernel_rfl) (by kernel_rfl) (by kernel_rfl) (by intro _ _ _ h; exact h) (Or.inl ⟨by rfl, ?_⟩) (by assumption) ?_
        rotate_left 1
        · (intro wq hSq; (try dsimp only at hSq); go_simp; try with_reducible rfl)
        (try simp only [Act.put, List.setIfInBounds_toArray, List.set_cons_zero, List.set_cons_succ])
        refine Anb.AnyB.one (i := 12) (by kernel_rfl) rfl (fun K hK => ?_)
        go_simp; go_at_call 30; (with_reducible refine (wo_spec E _ HV.out).mono ?_); rintro e w' ⟨rfl, hw⟩; subst hw
        refine hK.out _ _ (fun _ => hHeld) ?_
        clear hK K
        (try simp only [Act.put, List.setIfInBounds_toArray, List.set_cons_zero, List.set_cons_succ])
        refine Anb.AnyB.take (i := 13) (v := ?_) (by simp only [List.getElem?_toArray, List.getElem?_cons_zero, List.getElem?_cons_succ]; rfl) (by simp only [List.getElem?_toArray, List.getElem?_cons_zero, List.getElem?_cons_succ]; rfl) (by kernel_rfl) (by kernel_rfl) (by kernel_rfl) (by kernel_rfl) (by intro _ _ _ h; exact h) (Or.inl ⟨by rfl, ?_⟩) (by assumption) ?_
        rotate_left 1
        · (intro wq hSq; (try dsimp only at hSq); go_simp; try with_reducible rfl)
        (try simp only [Act.put, List.setIfInBounds_toArray, List.set_cons_zero, List.set_cons_succ])
        refine Anb.AnyB.take (i := 17) (v := ?_) (by simp only [List.getElem?_toArray, List.getElem?_cons_zero, List.getElem?_cons_succ]; rfl) (by simp only [List.getElem?_toArray, List.getElem?_cons_zero, List.getElem?_cons_succ]; rfl) (by kernel_rfl) (by kernel_rfl) (by kernel_rfl) (by kernel_rfl) (by intro _ _ _ h; exact h) (Or.inl ⟨by rfl, ?_⟩) (by assumption) ?_
        rotate_left 1
        · (intro wq hSq; (try dsimp only at hSq); go_simp; try with_reducible rfl)
        (try simp only [Act.put, List.setIfInBounds_toArray, List.set_cons_zero, List.set_cons_succ])
        refine Anb.AnyB.take (i := 18) (v := ?_) (by simp only [List.getElem?_toArray, List.getElem?_cons_zero, List.getElem?_cons_succ]; rfl) (by simp only [List.getElem?_toArray, List.getElem?_cons_zero, List.getElem?_cons_succ]; rfl) (by kernel_rfl) (by kernel_rfl) (by kernel_rfl) (by kernel_rfl) (by intro _ _ _ h; exact h) (Or.inl ⟨by rfl, ?_⟩) (by assumption) ?_
        rotate_left 1
        · (intro wq hSq; (try dsimp only at hSq); go_simp; try with_reducible rfl)
        (try simp only [Act.put, List.setIfInBounds_toArray, List.set_cons_zero, List.set_cons_succ])
        have hb1w : b1 < w.heap.size := by obtain ⟨b9, o9, e9, h9, _⟩ := HA.out.cell' hlt; cases e9; exact h9
        have hHeld2 : (fun wq : World => wq.cell? ⟨w.heap.size, 0, none⟩ = some (.int .i64 (m : Int)) ∧ wq.cell? ⟨w.heap.size, 1, none⟩ = some (.slice (some ⟨b1, o1, none⟩) n cap) ∧ wq.cell? ⟨b1, o1 + k, none⟩ = some (.int .i64 (E : Int)) ∧ wq.cell? ⟨w2.heap.size, 1, none⟩ = some v) ((wr.alloc (.cells #[.int .i64 (E : Int)] 2)).drew) := ⟨(HC3.out.below (below_alloc _ _)).2.1, (HC3.out.below (below_alloc _ _)).2.2.1, ((below_alloc wr _).cell (p := ⟨b1, o1 + k, none⟩) hblt).trans hck1, HKA.out.2.2.1⟩
        refine Anb.AnyB.one (i := 19) (by kernel_rfl) rfl (fun K hK => ?_)
        go_simp
        refine hK.out _ _ (fun _ => hHeld2) ?_
        clear hK K
        (try simp only [Act.put, List.setIfInBounds_toArray, List.set_cons_zero, List.set_cons_succ])
        have hb1v : b1 < w2.heap.size := by omega
        refine Anb.AnyB.one (i := 20) (by kernel_rfl) rfl (fun K hK => ?_)
        refine step_append_lies _ (by rfl) _ _ _ (by rfl) (w2.heap.size + 1) 2 i0 (.int .i64 0) 1 8 Try.underlying22 hi hz0 hz1 hz2 rfl (by omega) v k ((exL m (zN zs) k).map (Value.int .i64)) (by rfl) HOA.out ⟨wr.heap.size, 0, none⟩ 1 1 [.int .i64 (E : Int)] (by rfl) (by rfl) (World.news_of_block (cs := #[.int .i64 (E : Int)]) (t := 2) (fr := (0, 0)) (heap_alloc_new _ _)) (by simp [Value.oneCell']) (by omega) (by unfold maxLen; omega) (by omega) (by simp; omega) (wr.heap.size + 1) (by simp) ?_; intro gg cp w3 hown1 hgrow hat hlt3; have HK3 := Lib.hid (Kin.grown hgrow hn3 HKA.out); have HO2 := Lib.hid hown1; have HB3 := Lib.hid (Below.grown HBA.out hgrow (by simp; omega) (fun j hj => Nat.le_trans (by omega) (HNE.out j hj))); obtain ⟨hK3, hk30, hk31, hkf30, hkf31⟩ := HK3.out; clear hown1 hgrow hat hlt3
        have hHeld3 : (fun wq : World => wq.cell? ⟨w.heap.size, 0, none⟩ = some (.int .i64 (m : Int)) ∧ wq.cell? ⟨w.heap.size, 1, none⟩ = some (.slice (some ⟨b1, o1, none⟩) n cap) ∧ wq.cell? ⟨b1, o1 + k, none⟩ = some (.int .i64 (E : Int)) ∧ wq.cell? ⟨w2.heap.size, 1, none⟩ = some v) w3 := ⟨(HC2.out.below HB3.out).2.1, (HC2.out.below HB3.out).2.2.1, (HB3.out.cell (p := ⟨b1, o1 + k, none⟩) hb1v).trans ((HW.out.cell (p := ⟨b1, o1 + k, none⟩) hb1v).symm.trans hck1), HK3.out.2.2.1⟩
        refine hK.out _ _ (fun _ => hHeld3) ?_
        clear hK K
        (try simp only [Act.put, List.setIfInBounds_toArray, List.set_cons_zero, List.set_cons_succ])
        refine Anb.AnyB.take (i := 21) (v := ?_) (by simp only [List.getElem?_toArray, List.getElem?_cons_zero, List.getElem?_cons_succ]; rfl) (by simp only [List.getElem?_toArray, List.getElem?_cons_zero, List.getElem?_cons_succ]; rfl) (by kernel_rfl) (by kernel_rfl) (by kernel_rfl) (by kernel_rfl) (by intro _ _ _ h; exact h) (Or.inl ⟨by rfl, ?_⟩) (by assumption) ?_
        rotate_left 1
        · (intro wq hSq; (try dsimp only at hSq); go_simp; try with_reducible rfl)
        (try simp only [Act.put, List.setIfInBounds_toArray, List.set_cons_zero, List.set_cons_succ])
        refine Anb.AnyB.one (i := 22) (by kernel_rfl) rfl (fun K hK => ?_)
        go_simp
        refine hK.out _ _ (fun h => absurd rfl h) ?_
        clear hK K
        refine Anb.AnyB.done (by kernel_rfl) ?_ _
        all_goals
          go_wp2
          exact ⟨⟨k + 1, .slice (some ⟨gg, 0, none⟩) (k + 1) cp, _, by omega, by first | rfl | go_num | (congr 1), rfl, Lib.hid (Kin.set HK3.out _), Lib.hid (own_far (by rw [HL.out]; exact HO2.out) _ _ (by simp)), Lib.hid (Below.setCell HB3.out (by simp) _)⟩, by show n - ((k : Int) + 1).toNat < n - (k : Int).toNat; omega⟩
    · obtain rfl : k = n := by omega
      obtain ⟨g, cp, rfl, hg, hgl⟩ := World.ownsRow.form HO.out (by omega)
      obtain ⟨hic, hgb⟩ := ICl.own HO.out (by omega)
      have HIC := Lib.hid hic
      have HB3 := Lib.hid (Below.next HB.out HW.out)
      obtain ⟨hP, hp0, hp1, hpf0, hpf1⟩ := HC3.out
      obtain ⟨hK, hk0, hk1, hkf0, hkf1⟩ := HK.out
      clear hic
      go_wp2_with (first | (go_at_call 33; (with_reducible refine (p6SN ((m : Int) + 1) _ k _ (exL m (zN zs) k) _ HIC.out.row hn HOK2.out).mono ?_); rintro e w4 ⟨rfl, hb⟩; have HB4 := Lib.hid (Below.next HB3.out hb); have HR4 := Lib.hid (HR3.out.below hb); have HI4 := Lib.hid (HIC.out.below hb); obtain ⟨hQ, hq0, hq1, hqf0, hqf1⟩ := HR4.out; clear hb) | fail)
      obtain ⟨_, hr1, hr2⟩ := HR4.out.res (.int .i64 0) (.slice none 0 0)
      exact bodyPost_ret (v := .tuple #[.agg #[.int .i64 0, .slice none 0 0], .bool false]) (by simp [results, Try.results17, go_sem, hr1, hr2]) rfl
        ⟨rfl, Below.setCell (Below.setCell HB4.out (by simp) _) (by simp) _⟩
theorem ex_specYes (r : Int) (a : Option Addr) (n cap : Nat) (zs : List Int) (w : World) (h : IRow w a n zs) (hn : n ≤ 1048576) (hok : exB r zs n = true) : Calls Try.prog 17 #[.agg #[.int .i64 r, .slice a n cap]] w (YPost (r + 1) n (exL r.toNat (zN zs) n) w) := ex_specY r a n cap zs w h hn (exB_out hok).1 (exB_out hok).2
theorem ex_specNo (r : Int) (a : Option Addr) (n cap : Nat) (zs : List Int) (w : World) (h : IRow w a n zs) (hn : n ≤ 1048576) (hok : exB r zs n = false) : Calls Try.prog 17 #[.agg #[.int .i64 r, .slice a n cap]] w (YNone w) := by
  rcases exB_no hok with h1 | h1
  · exact ex_specA r a n cap zs w h hn h1
  · exact ex_specN r a n cap zs w h hn h1.1 h1.2
end Go.Proofs.Ytjlifbnenngijaa
