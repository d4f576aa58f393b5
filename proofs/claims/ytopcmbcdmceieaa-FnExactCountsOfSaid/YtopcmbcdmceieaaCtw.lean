/- CountsOf: the functions. -/
import Derived.Test.YtopcmbcdmceieaaEct
namespace Go.Proofs.Ytopcmbcdmceieaa
open Go.Proofs.Ytopcmbcdmceieaa.Flo Go.RowKit

/-- The counts behind the first k letters. -/
def ctL (zs : List Int) (N : Nat) : Nat → List Int
  | 0 => onL N
  | k + 1 => (ctL zs N k).set (zs.getD k 0).toNat ((ctL zs N k).getD (zs.getD k 0).toNat 0 + 1)
theorem ctL_len (zs : List Int) (N : Nat) : ∀ k, (ctL zs N k).length = N
  | 0 => by unfold ctL onL; simp
  | k + 1 => by unfold ctL; rw [List.length_set]; exact ctL_len zs N k
theorem ctL_le (zs : List Int) (N : Nat) : ∀ k j, 0 ≤ (ctL zs N k).getD j 0 ∧ (ctL zs N k).getD j 0 ≤ 1 + (k : Int)
  | 0, j => by
    unfold ctL onL
    rw [List.getD_eq_getElem?_getD, List.getElem?_replicate]
    split <;> simp
  | k + 1, j => by
    have h1 := ctL_le zs N k j
    have h2 := ctL_le zs N k (zs.getD k 0).toNat
    unfold ctL
    by_cases hl : (zs.getD k 0).toNat < (ctL zs N k).length
    · rw [getD_set _ _ _ _ hl]
      split <;> omega
    · rw [List.set_eq_of_length_le (by omega)]
      omega
set_option maxRecDepth 100000 in
set_option maxHeartbeats 4000000 in
theorem ctS (a : Option Addr) (n cap : Nat) (zs : List Int) (x : Int) (w : World) (h : IRow w a n zs) (hm : n ≤ 1048576) (hok : itB zs n x = true) : Calls Try.prog 30 #[.slice a n cap, .int .i64 x] w (KPost x x.toNat (ctL zs x.toNat n) w) := by
  obtain ⟨hx, hn, hlet⟩ := it_out hok
  obtain ⟨N, rfl⟩ : ∃ N : Nat, x = (N : Int) := ⟨x.toNat, by omega⟩
  rw [Int.toNat_natCast]
  have HA := Lib.hid h
  have HOK := Lib.hid hok
  have HLT := Lib.hid hlet
  have HR0 := Lib.hid (Kin.new (w := w) (x := .int .i64 0) (y := .slice none 0 0) (T := 30))
  have hN1 : 2 ≤ N := by omega
  have hN2 : N ≤ 16 := by omega
  clear hok hx h hlet
  go_enter Try.func30, Try.ntmps30
  go_wp2_with (first | (go_at_call 56; refine (itx_spec a n cap zs (N : Int) _ (HA.out.alloc _) hm).mono ?_; rw [HOK.out]; rintro e w' ⟨rfl, hw⟩; have hw := hw.symm; subst hw) | (go_at_call 67; refine (ev5_spec N _ hN1 hN2).mono ?_; rintro e w2 ⟨g, cp, rfl, hn⟩; have HN := Lib.hid hn; have HR1 := Lib.hid (HR0.out.below hn.2.2.2); clear hn) | go_in)
  have hgs : w.heap.size + 1 ≤ g := by have := HN.out.1; simpa using this
  have hgl := HN.out.2.1
  have hws : w.heap.size + 1 ≤ w2.heap.size := by omega
  go_loopw [17] (fun iv w' => ∃ (k : Nat) (wr : World), k ≤ n ∧ iv = .int .i64 k ∧ wr = w' ∧ Hid (Kin wr w.heap.size (.int .i64 0) (.slice none 0 0)) ∧ Hid (Kin wr w2.heap.size (.int .i64 (N : Int)) (.slice (some ⟨g, 0, none⟩) N cp)) ∧ Hid (ICl wr g N (ctL zs N k)) ∧ Hid (Below w.heap.size w wr)) (fun iv _ => n - (intOf iv).toNat)
  case atStart => exact ⟨0, _, by omega, rfl, rfl, Lib.hid (by repeat (first | exact HR1.out | refine Kin.far ?_ (by simp; omega) _ | refine Kin.below ?_ (below_alloc _ _))), Lib.hid (by first | exact Kin.new | exact Kin.put2 Kin.new _ _), Lib.hid (by repeat (first | exact ICl.of HN.out | refine ICl.far ?_ (by simp; omega) _ | refine ICl.below ?_ (below_alloc _ _))), Lib.hid (by repeat (first | exact Below.next (below_alloc _ _) HN.out.2.2.2 | refine Below.setCell ?_ (by first | omega | (simp; done) | (simp; omega)) _ | refine Below.alloc ?_ (by first | omega | (simp; done) | (simp; omega)) _))⟩
  case round =>
    obtain ⟨k, wr, hk, rfl, rfl, HT0, HT1, HI, HW⟩ := hrel
    by_cases hlt : k < n
    · obtain ⟨b1, o1, rfl, hblt, hck1⟩ := (HA.out.below HW.out).cell' hlt
      have hc := HLT.out k hlt
      have hb2 := ctL_le zs N k (zs.getD k 0).toNat
      have HK : Hid (ctL zs N (k + 1) = (ctL zs N k).set (zs.getD k 0).toNat ((ctL zs N k).getD (zs.getD k 0).toNat 0 + 1)) := Lib.hid rfl
      have hck2 := HI.out.cell (j := (zs.getD k 0).toNat) (by omega)
      obtain ⟨hc0, hc1⟩ := hc
      obtain ⟨c, hcc⟩ : ∃ c : Nat, zs.getD k 0 = (c : Int) := ⟨(zs.getD k 0).toNat, by omega⟩
      rw [hcc] at hck1 hb2 HK hck2 hc0 hc1
      rw [Int.toNat_natCast] at hb2 HK hck2
      have hcN : c < N := by omega
      have HP := Lib.hid (HI.out.put hcN ((ctL zs N k).getD c 0 + 1))
      obtain ⟨hck2, hfz2⟩ := hck2
      obtain ⟨hP, hp0, hp1, hf0, hf1⟩ := HT1.out
      generalize (ctL zs N k).getD c 0 = u at hck2 hb2 HK HP
      clear hcc hc0 hc1
      have hw3 : IntKind.i64.wrap (u + 1) = u + 1 := IntWalk.i64_in _ (by omega)
      go_wp2
      go_region_with fail
      all_goals
        go_wp2
        exact ⟨⟨k + 1, _, by omega, by first | rfl | go_num | (congr 1), rfl, Lib.hid (by repeat (first | exact HT0.out | refine Kin.drewN ?_ _ | refine Kin.far ?_ (by simp; omega) _)), Lib.hid (by repeat (first | exact HT1.out | refine Kin.drewN ?_ _ | refine Kin.far ?_ (by simp; omega) _)), Lib.hid (by rw [HK.out]; exact HP.out), Lib.hid (by repeat (first | exact HW.out | refine Below.drew ?_ | refine Below.drewN' ?_ _ | refine Below.setCell ?_ (by first | omega | (simp; done) | (simp; omega)) _))⟩, by show n - ((k : Int) + 1).toNat < n - (k : Int).toNat; omega⟩
    · obtain rfl : k = n := by omega
      obtain ⟨hP, hp0, hp1, hf0, hf1⟩ := HT1.out
      obtain ⟨hQ, hq0, hq1, hqf0, hqf1⟩ := HT0.out
      have HR := Lib.hid (HT0.out.res (.int .i64 (N : Int)) (.slice (some ⟨g, 0, none⟩) N cp))
      go_wp2
      obtain ⟨_, hr1, hr2⟩ := HR.out
      exact bodyPost_ret (v := .tuple #[.agg #[.int .i64 (N : Int), .slice (some ⟨g, 0, none⟩) N cp], .bool true]) (by simp [results, Try.results30, go_sem, hr1, hr2]) rfl
        ⟨g, cp, rfl, ICl.new ((HI.out.far (by simp; omega) _).far (by simp; omega) _) (by omega) (Below.setCell (Below.setCell HW.out (by simp) _) (by simp) _)⟩
set_option maxRecDepth 100000 in
set_option maxHeartbeats 4000000 in
theorem ctS' (a : Option Addr) (n cap : Nat) (zs : List Int) (x : Int) (w : World) (h : IRow w a n zs) (hm : n ≤ 1048576) (hok : itB zs n x = false) : Calls Try.prog 30 #[.slice a n cap, .int .i64 x] w (KNone w) := by
  have HA := Lib.hid h
  have HOK := Lib.hid hok
  clear hok h
  go_enter Try.func30, Try.ntmps30
  go_wp2_with (first | (go_at_call 56; refine (itx_spec a n cap zs x _ (HA.out.alloc _) hm).mono ?_; rw [HOK.out]; rintro e w' ⟨rfl, hw⟩; have hw := hw.symm; subst hw) | go_in)
  exact bodyPost_ret (v := .tuple #[.agg #[.int .i64 0, .slice none 0 0], .bool false]) (by simp [results, Try.results30, go_sem]) rfl
    ⟨rfl, below_alloc _ _⟩
set_option maxRecDepth 100000 in
set_option maxHeartbeats 4000000 in
theorem ctI (a : Option Addr) (n cap : Nat) (zs : List Int) (x : Int) (w : World) (h : IRow w a n zs) (hm : n ≤ 1048576) (hok : itB zs n x = true) : Calls Try.prog 31 #[.slice a n cap, .int .i64 x] w (KPost x x.toNat (ctL zs x.toNat n) w) := by
  obtain ⟨hx, hn, hlet⟩ := it_out hok
  obtain ⟨N, rfl⟩ : ∃ N : Nat, x = (N : Int) := ⟨x.toNat, by omega⟩
  have HEC := Lib.hid (fun W : World => ecI (N : Int) W (decide_eq_true hx))
  rw [Int.toNat_natCast] at *
  have HA := Lib.hid h
  have HOK := Lib.hid hok
  have HLT := Lib.hid hlet
  have HR0 := Lib.hid (Kin.new (w := w) (x := .int .i64 0) (y := .slice none 0 0) (T := 30))
  have hN1 : 2 ≤ N := by omega
  have hN2 : N ≤ 16 := by omega
  clear hok hx h hlet
  go_enter Try.func31, Try.ntmps31
  go_wp2_with (first | (go_at_call 27; refine (HEC.out _).mono ?_; rintro e w2 ⟨g, cp, rfl, hn⟩; have HN := Lib.hid hn; have HR1 := Lib.hid (HR0.out.below hn.2.2.2); have hws : w.heap.size + 1 ≤ w2.heap.size := (by have h1 := hn.1; have h2 := hn.2.1; have : w.heap.size + 1 ≤ g := (by simpa using h1); omega); clear hn) | (go_at_call 17; refine (itx_impl a n cap zs (N : Int) _ (HA.out.below (by repeat (first | exact Below.next (below_alloc _ _) HN.out.2.2.2 | refine Below.setCell ?_ (by first | omega | (simp; done) | (simp; omega)) _ | refine Below.alloc ?_ (by first | omega | (simp; done) | (simp; omega)) _))) hm).mono ?_; rw [HOK.out]; rintro e w' ⟨rfl, hw⟩; have hw := hw.symm; subst hw) | go_in)
  have hgs : w.heap.size + 1 ≤ g := by have := HN.out.1; simpa using this
  have hgl := HN.out.2.1
  have hws : w.heap.size + 1 ≤ w2.heap.size := by omega
  go_loopw [26] (fun iv w' => ∃ (k : Nat) (wr : World), k ≤ n ∧ iv = .int .i64 k ∧ wr = w' ∧ Hid (Kin wr w.heap.size (.int .i64 0) (.slice none 0 0)) ∧ Hid (Kin wr w2.heap.size (.int .i64 (N : Int)) (.slice (some ⟨g, 0, none⟩) N cp)) ∧ Hid (ICl wr g N (ctL zs N k)) ∧ Hid (Below w.heap.size w wr)) (fun iv _ => n - (intOf iv).toNat)
  case atStart => exact ⟨0, _, by omega, rfl, rfl, Lib.hid (by repeat (first | exact HR1.out | refine Kin.far ?_ (by simp; omega) _ | refine Kin.below ?_ (below_alloc _ _))), Lib.hid (by first | exact Kin.new | exact Kin.put2 Kin.new _ _), Lib.hid (by repeat (first | exact ICl.of HN.out | refine ICl.far ?_ (by simp; omega) _ | refine ICl.below ?_ (below_alloc _ _))), Lib.hid (by repeat (first | exact Below.next (below_alloc _ _) HN.out.2.2.2 | refine Below.setCell ?_ (by first | omega | (simp; done) | (simp; omega)) _ | refine Below.alloc ?_ (by first | omega | (simp; done) | (simp; omega)) _))⟩
  case round =>
    obtain ⟨k, wr, hk, rfl, rfl, HT0, HT1, HI, HW⟩ := hrel
    by_cases hlt : k < n
    · obtain ⟨b1, o1, rfl, hblt, hck1⟩ := (HA.out.below HW.out).cell' hlt
      have hc := HLT.out k hlt
      have hb2 := ctL_le zs N k (zs.getD k 0).toNat
      have HK : Hid (ctL zs N (k + 1) = (ctL zs N k).set (zs.getD k 0).toNat ((ctL zs N k).getD (zs.getD k 0).toNat 0 + 1)) := Lib.hid rfl
      have hck2 := HI.out.cell (j := (zs.getD k 0).toNat) (by omega)
      obtain ⟨hc0, hc1⟩ := hc
      obtain ⟨c, hcc⟩ : ∃ c : Nat, zs.getD k 0 = (c : Int) := ⟨(zs.getD k 0).toNat, by omega⟩
      rw [hcc] at hck1 hb2 HK hck2 hc0 hc1
      rw [Int.toNat_natCast] at hb2 HK hck2
      have hcN : c < N := by omega
      have HP := Lib.hid (HI.out.put hcN ((ctL zs N k).getD c 0 + 1))
      obtain ⟨hck2, hfz2⟩ := hck2
      obtain ⟨hP, hp0, hp1, hf0, hf1⟩ := HT1.out
      generalize (ctL zs N k).getD c 0 = u at hck2 hb2 HK HP
      clear hcc hc0 hc1
      have hw3 : IntKind.i64.wrap (u + 1) = u + 1 := IntWalk.i64_in _ (by omega)
      go_wp2
      exact ⟨⟨k + 1, _, by omega, by first | rfl | go_num | (congr 1), rfl, Lib.hid (by repeat (first | exact HT0.out | refine Kin.drewN ?_ _ | refine Kin.far ?_ (by simp; omega) _)), Lib.hid (by repeat (first | exact HT1.out | refine Kin.drewN ?_ _ | refine Kin.far ?_ (by simp; omega) _)), Lib.hid (by rw [HK.out]; exact HP.out), Lib.hid (by repeat (first | exact HW.out | refine Below.drew ?_ | refine Below.drewN' ?_ _ | refine Below.setCell ?_ (by first | omega | (simp; done) | (simp; omega)) _))⟩, by show n - ((k : Int) + 1).toNat < n - (k : Int).toNat; omega⟩
    · obtain rfl : k = n := by omega
      obtain ⟨hP, hp0, hp1, hf0, hf1⟩ := HT1.out
      obtain ⟨hQ, hq0, hq1, hqf0, hqf1⟩ := HT0.out
      have HR := Lib.hid (HT0.out.res (.int .i64 (N : Int)) (.slice (some ⟨g, 0, none⟩) N cp))
      go_wp2
      obtain ⟨_, hr1, hr2⟩ := HR.out
      exact bodyPost_ret (v := .tuple #[.agg #[.int .i64 (N : Int), .slice (some ⟨g, 0, none⟩) N cp], .bool true]) (by simp [results, Try.results31, go_sem, hr1, hr2]) rfl
        ⟨g, cp, rfl, ICl.new ((HI.out.far (by simp; omega) _).far (by simp; omega) _) (by omega) (Below.setCell (Below.setCell HW.out (by simp) _) (by simp) _)⟩
set_option maxRecDepth 100000 in
set_option maxHeartbeats 4000000 in
theorem ctI' (a : Option Addr) (n cap : Nat) (zs : List Int) (x : Int) (w : World) (h : IRow w a n zs) (hm : n ≤ 1048576) (hok : itB zs n x = false) : Calls Try.prog 31 #[.slice a n cap, .int .i64 x] w (KNone w) := by
  have HA := Lib.hid h
  have HOK := Lib.hid hok
  have HR0 := Lib.hid (Kin.new (w := w) (x := .int .i64 0) (y := .slice none 0 0) (T := 30))
  clear hok h
  cases hd : decide (2 ≤ x ∧ x ≤ 16) with
  | true =>
    have HEC := Lib.hid (fun W : World => ecI x W hd)
    obtain ⟨N, rfl⟩ : ∃ N : Nat, x = (N : Int) := ⟨x.toNat, by have := of_decide_eq_true hd; omega⟩
    rw [Int.toNat_natCast] at HEC
    clear hd
    go_enter Try.func31, Try.ntmps31
    go_wp2_with (first | (go_at_call 27; refine (HEC.out _).mono ?_; rintro e w2 ⟨g, cp, rfl, hn⟩; have HN := Lib.hid hn; have HR1 := Lib.hid (HR0.out.below hn.2.2.2); have hws : w.heap.size + 1 ≤ w2.heap.size := (by have h1 := hn.1; have h2 := hn.2.1; have : w.heap.size + 1 ≤ g := (by simpa using h1); omega); obtain ⟨hQ, hq0, hq1, hqf0, hqf1⟩ := HR1.out; clear hn) | (go_at_call 17; refine (itx_impl a n cap zs (N : Int) _ (HA.out.below (by repeat (first | exact Below.next (below_alloc _ _) HN.out.2.2.2 | refine Below.setCell ?_ (by first | omega | (simp; done) | (simp; omega)) _ | refine Below.alloc ?_ (by first | omega | (simp; done) | (simp; omega)) _))) hm).mono ?_; rw [HOK.out]; rintro e w' ⟨rfl, hw⟩; have hw := hw.symm; subst hw) | go_in)
    obtain ⟨_, hr1, hr2, _, _⟩ := (HR1.out.put2 (.int .i64 0) (.slice none 0 0)).below (below_alloc _ (.cells #[.int .i64 (N : Int), .slice (some ⟨g, 0, none⟩) N cp] 30))
    exact bodyPost_ret (v := .tuple #[.agg #[.int .i64 0, .slice none 0 0], .bool false]) (by simp [results, Try.results31, go_sem, hr1, hr2]) rfl
      ⟨rfl, by repeat (first | exact Below.next (below_alloc _ _) HN.out.2.2.2 | refine Below.setCell ?_ (by first | omega | (simp; done) | (simp; omega)) _ | refine Below.alloc ?_ (by first | omega | (simp; done) | (simp; omega)) _)⟩
  | false =>
    have HEC := Lib.hid (fun W : World => ecI' x W hd)
    clear hd
    go_enter Try.func31, Try.ntmps31
    go_wp2_with (first | (go_at_call 27; refine (HEC.out _).mono ?_; rintro e w2 ⟨rfl, hb⟩; have HB := Lib.hid (Below.next (below_alloc _ _) hb); have HR1 := Lib.hid (HR0.out.below hb); have hws : w.heap.size + 1 ≤ w2.heap.size := (by have := hb.size; simpa using this); obtain ⟨hQ, hq0, hq1, hqf0, hqf1⟩ := HR1.out; clear hb) | go_in)
    obtain ⟨_, hr1, hr2, _, _⟩ := (HR1.out.put2 (.int .i64 0) (.slice none 0 0)).below (below_alloc _ (.cells #[.int .i64 0, .slice none 0 0] 30))
    exact bodyPost_ret (v := .tuple #[.agg #[.int .i64 0, .slice none 0 0], .bool false]) (by simp [results, Try.results31, go_sem, hr1, hr2]) rfl
      ⟨rfl, by repeat (first | exact HB.out | refine Below.setCell ?_ (by first | omega | (simp; done) | (simp; omega)) _ | refine Below.alloc ?_ (by first | omega | (simp; done) | (simp; omega)) _)⟩
end Go.Proofs.Ytopcmbcdmceieaa
