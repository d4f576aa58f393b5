
/- PolarSend: the functions. -/
import Derived.Test.YtmfegjflaajkkaaTnw
import Derived.Test.YtmfegjflaajkkaaPsv
import Derived.Deep.RegionWith
namespace Go.Proofs.Ytmfegjflaajkkaa
open Go.Proofs.Ytmfegjflaajkkaa.Flo Go.RowKit Go.Proofs.Ytmfegjflaajkkaa.Pr

def pwN (p : Int) : Nat := 2 ^ p.toNat
/-- The bits that are put to places. -/
def plF (zs : List Int) (f : Nat → Bool) : Nat → Nat → Bool
  | 0, _ => false
  | k + 1, i => if i = (zs.getD k 0).toNat then f k else plF zs f k i
def pdB (p : Int) (zs : List Int) (n m : Nat) : Bool := pzB p zs n && decide (n = m)
theorem pd_out {p : Int} {zs : List Int} {n m : Nat} (h : pdB p zs n m = true) : pzB p zs n = true ∧ n = m := by
  unfold pdB at h; rw [Bool.and_eq_true] at h; exact ⟨h.1, of_decide_eq_true h.2⟩
theorem bcl_put {w : World} {g n x : Nat} {f f2 : Nat → Bool} (h : BCl w g n f) (hx : x < n) (v : Bool) (e : ∀ i, i < n → f2 i = if i = x then v else f i) : BCl (w.setCell ⟨g, x, none⟩ (.bool v)) g n f2 := by
  refine ⟨by rw [World.size_setCell]; exact h.1, trivial, fun i hi => ?_⟩
  have hi : i < n := hi
  show _ = some (Value.bool (f2 i)) ∧ _
  rw [e i hi, World.frozen?_setCell]
  by_cases c : i = x
  · subst c
    rw [if_pos rfl, World.cell?_setCell_same (h := (h.cell hi).1)]
    exact ⟨rfl, (h.cell hi).2⟩
  · rw [if_neg c, World.cell?_setCell_other (h := fun e2 => c (by injection e2 with _ e3 _; exact e3.symm))]
    exact h.cell hi
theorem bcl_drewN {w : World} {g n : Nat} {f : Nat → Bool} (h : BCl w g n f) (q : Nat) : BCl (w.drewN q) g n f := ⟨h.1, h.2.below h.1 (Below.drewN' (Below.refl _ _) q)⟩
theorem bcl_drew {w : World} {g n : Nat} {f : Nat → Bool} (h : BCl w g n f) : BCl w.drew g n f := by rw [World.drew_is_drewN]; exact bcl_drewN h 1
set_option maxRecDepth 100000 in
set_option maxHeartbeats 8000000 in
theorem pdI (q : Int) (a : Option Addr) (n cap : Nat) (zs : List Int) (b : Option Addr) (m cap2 : Nat) (f : Nat → Bool) (w : World) (h : IRow w a n zs) (hb : BRow w b m f) (hn : n ≤ 1048576) (_ : m ≤ 1048576) (hok : pdB q zs n m = true) :
    Calls Try.prog 54 #[.int .i64 q, .slice a n cap, .slice b m cap2] w fun e w' => ∃ g cp, e = .returned (.tuple #[.slice (some ⟨g, 0, none⟩) (pwN q) cp, .bool true]) ∧ New w w' g (.bl (pwN q) (tnF q.toNat (plF zs f n))) := by
  obtain ⟨hpz, rfl⟩ := pd_out hok
  obtain ⟨hq, hse⟩ := pz_out hpz
  obtain ⟨p, rfl⟩ : ∃ p : Nat, q = (p : Int) := ⟨q.toNat, by omega⟩
  rw [Int.toNat_natCast] at hse ⊢
  have hp5 : p ≤ 5 := by omega
  obtain ⟨N, hN⟩ : ∃ N, N = 2 ^ p := ⟨_, rfl⟩
  have hpw : pwN (p : Int) = N := by unfold pwN; rw [Int.toNat_natCast, hN]
  have hNI : (2 : Int) ^ p = (N : Int) := by rw [hN, Int.natCast_pow]; rfl
  have hle := pt_le hp5
  rw [← hN] at hle
  rw [hNI] at hse
  rw [hpw]
  have HSE := Lib.hid hse
  have hnN : n ≤ N := by have := se_len (by omega) hse; omega
  have HPT : Hid (ptB N = true) := Lib.hid (by unfold ptB; exact decide_eq_true ⟨p, by omega, hN⟩)
  have HLG : Hid (N.log2 = p) := Lib.hid (by rw [hN, pt_log])
  have HN5 : Hid (N ≤ 1048576) := Lib.hid (by omega)
  have hmin : min p 64 = p := by omega
  have hwr : IntKind.i64.wrap ((2 : Int) ^ p) = (N : Int) := by rw [hNI]; exact IntWalk.i64_in _ (by omega)
  have hwu : IntKind.u64.wrap (p : Int) = (p : Int) := IntWalk.u64_in _ (by omega)
  have hwn : IntKind.i64.wrap (N : Int) = (N : Int) := IntWalk.i64_in _ (by omega)
  have hmk := fun w2 : World => run_make_row' (P := Try.prog) 36 4 (.bool false) 1 Try.underlying36 Try.infoB rfl .i64 .i64 N (by omega) (by omega) w2
  have HPZ := Lib.hid (fun W (hd : Drew w W) => by have := pz_impl (p : Int) a n cap zs W (h.below hd.below) hn; rw [hpz] at this; exact this)
  have HA := Lib.hid h
  have HB := Lib.hid hb
  have hnm : ((n : Int) != (n : Int)) = false := by simp
  obtain ⟨hN1, hN32⟩ := hle
  clear hok hpz hq hse h hb hpw hN
  go_enter Try.func54, Try.ntmps54
  go_wp2_with (first | (go_at_call 89; refine (HPZ.out w (Drew.refl _)).mono ?_; rintro e w2 ⟨rfl, hw⟩; have HD : Hid (Drew w w2) := Lib.hid ⟨0, hw.symm⟩; clear hw) | fail)
  have HM0 : Hid (BCl (w2.alloc (.cells (madeCells #[Value.bool false] N) 4)) w2.heap.size N (plF zs f 0)) := Lib.hid ⟨by simp, trivial, fun j hj => ⟨by rw [World.cell?_alloc_at _ _ _ _ rfl]; have hj : j < N := hj; simp [madeCells, hj, Nat.mod_one, Ent.cell, plF], World.frozen?_alloc_at _ _ _ _ rfl⟩⟩
  have HW0 : Hid (Below w2.heap.size w2 (w2.alloc (.cells (madeCells #[Value.bool false] N) 4))) := Lib.hid (belowA _ _)
  have HA2 := Lib.hid (HA.out.below HD.out.below)
  have HB2 := Lib.hid (HB.out.below HD.out.below)
  clear hmk HA HB HPZ
  go_loopw [27] (fun iv w' => ∃ (k : Nat) (wr : World), k ≤ n ∧ iv = .int .i64 k ∧ wr = w' ∧ Hid (BCl wr w2.heap.size N (plF zs f k)) ∧ Hid (Below w2.heap.size w2 wr)) (fun iv _ => n - (intOf iv).toNat)
  case atStart => exact ⟨0, _, by omega, rfl, rfl, HM0, HW0⟩
  case round =>
    obtain ⟨k, wr, hk, rfl, rfl, HM, HW⟩ := hrel
    by_cases hlt : k < n
    · obtain ⟨b1, o1, rfl, _, hck⟩ := (HA2.out.below HW.out).cell' hlt
      obtain ⟨b2, o2, rfl, hck2⟩ := (HB2.out.below HW.out).cell hlt
      obtain ⟨hz1, hz2⟩ := se_nn (by omega) HSE.out hlt
      obtain ⟨x, hx⟩ : ∃ x : Nat, zs.getD k 0 = (x : Int) := ⟨(zs.getD k 0).toNat, by omega⟩
      have hxN : x < N := by omega
      rw [hx] at hck
      have hc1 := (HM.out.cell hxN).1
      have hfz := (HM.out.cell hxN).2
      have HN : Hid (BCl (wr.setCell ⟨w2.heap.size, x, none⟩ (.bool (f k))) w2.heap.size N (plF zs f (k + 1))) := Lib.hid (bcl_put HM.out hxN (f k) (fun i _ => by show (if i = (zs.getD k 0).toNat then f k else plF zs f k i) = _; rw [hx, Int.toNat_natCast]))
      have HWN : Hid (Below w2.heap.size w2 (wr.setCell ⟨w2.heap.size, x, none⟩ (.bool (f k)))) := Lib.hid (Below.setCell HW.out (Nat.le_refl _) _)
      clear hx hz1 hz2
      generalize f k = v at hck2 HN HWN
      generalize plF zs f k x = u at hc1
      go_wp2
      exact ⟨⟨k + 1, _, by omega, by first | rfl | go_num | (congr 1), rfl, by first | exact HN | exact Lib.hid (bcl_drewN HN.out _) | exact Lib.hid (bcl_drew HN.out), by first | exact HWN | exact Lib.hid (Below.drewN' HWN.out _) | exact Lib.hid (Below.drew HWN.out)⟩, by show n - ((k : Int) + 1).toNat < n - (k : Int).toNat; omega⟩
    · obtain rfl : k = n := by omega
      have HBR : Hid (BRow wr (some ⟨w2.heap.size, 0, none⟩) N (plF zs f k)) := Lib.hid (.inr ⟨w2.heap.size, 0, rfl, HM.out.1, fun i hi9 => by rw [Nat.zero_add]; exact (HM.out.cell hi9).1⟩)
      have HWW := Lib.hid (Below.next HD.out.below HW.out)
      go_wp2_with (first | (go_at_call 49; refine (pt_impl (some ⟨w2.heap.size, 0, none⟩) N N (plF zs f k) wr ?_ HN5.out HPT.out).mono ?_; (next => exact HBR.out); rintro e w5 ⟨g, cp, rfl, hnn⟩; have HN := Lib.hid hnn; clear hnn) | fail)
      exact bodyPost_ret (v := .tuple #[.slice (some ⟨g, 0, none⟩) N cp, .bool true]) (by simp [results, Try.results54, go_sem]) rfl ⟨g, cp, rfl, Nat.le_trans HWW.out.size HN.out.1, HN.out.2.1, by rw [← HLG.out]; exact HN.out.2.2.1, Below.next HWW.out HN.out.2.2.2⟩
set_option maxRecDepth 100000 in
set_option maxHeartbeats 4000000 in
theorem pdIN (q : Int) (a : Option Addr) (n cap : Nat) (zs : List Int) (b : Option Addr) (m cap2 : Nat) (f : Nat → Bool) (w : World) (h : IRow w a n zs) (_ : BRow w b m f) (hn : n ≤ 1048576) (_ : m ≤ 1048576) (hok : pdB q zs n m = false) :
    Calls Try.prog 54 #[.int .i64 q, .slice a n cap, .slice b m cap2] w fun e w' => e = .returned (.tuple #[.slice none 0 0, .bool false]) ∧ Below w.heap.size w w' := by
  cases hpz : pzB q zs n with
  | true =>
    have hnm : ¬ (m : Int) = (n : Int) := fun e => by
      unfold pdB at hok; rw [hpz, decide_eq_true (show n = m by omega)] at hok; cases hok
    have hnm2 : ((m : Int) != (n : Int)) = true := by simpa using hnm
    have HPZ := Lib.hid (pz_impl q a n cap zs w h hn)
    rw [hpz] at HPZ
    clear hok hpz h hnm
    go_enter Try.func54, Try.ntmps54
    go_wp2_with (first | (go_at_call 89; refine HPZ.out.mono ?_; rintro e w2 ⟨rfl, hw⟩; have HD : Hid (Below w.heap.size w w2) := Lib.hid (by first | exact hw.below | exact hw ▸ Below.refl _ _); clear hw) | fail)
    exact bodyPost_ret (v := .tuple #[.slice none 0 0, .bool false]) (by simp [results, Try.results54, go_sem]) rfl ⟨rfl, HD.out⟩
  | false =>
    have HPZ := Lib.hid (pz_impl q a n cap zs w h hn)
    rw [hpz] at HPZ
    clear hok hpz h
    go_enter Try.func54, Try.ntmps54
    go_wp2_with (first | (go_at_call 89; refine HPZ.out.mono ?_; rintro e w2 ⟨rfl, hw⟩; have HD : Hid (Below w.heap.size w w2) := Lib.hid (by first | exact hw.below | exact hw ▸ Below.refl _ _); clear hw) | fail)
    exact bodyPost_ret (v := .tuple #[.slice none 0 0, .bool false]) (by simp [results, Try.results54, go_sem]) rfl ⟨rfl, HD.out⟩
set_option maxRecDepth 100000 in
set_option maxHeartbeats 8000000 in
theorem pdS (q : Int) (a : Option Addr) (n cap : Nat) (zs : List Int) (b : Option Addr) (m cap2 : Nat) (f : Nat → Bool) (w : World) (h : IRow w a n zs) (hb : BRow w b m f) (hn : n ≤ 1048576) (_ : m ≤ 1048576) (hok : pdB q zs n m = true) :
    Calls Try.prog 52 #[.int .i64 q, .slice a n cap, .slice b m cap2] w fun e w' => ∃ g cp, e = .returned (.tuple #[.slice (some ⟨g, 0, none⟩) (pwN q) cp, .bool true]) ∧ New w w' g (.bl (pwN q) (tnF q.toNat (plF zs f n))) := by
  obtain ⟨hpz, rfl⟩ := pd_out hok
  obtain ⟨hq, hse⟩ := pz_out hpz
  obtain ⟨p, rfl⟩ : ∃ p : Nat, q = (p : Int) := ⟨q.toNat, by omega⟩
  rw [Int.toNat_natCast] at hse ⊢
  have hp5 : p ≤ 5 := by omega
  obtain ⟨N, hN⟩ : ∃ N, N = 2 ^ p := ⟨_, rfl⟩
  have hpw : pwN (p : Int) = N := by unfold pwN; rw [Int.toNat_natCast, hN]
  have hNI : (2 : Int) ^ p = (N : Int) := by rw [hN, Int.natCast_pow]; rfl
  have hle := pt_le hp5
  rw [← hN] at hle
  rw [hNI] at hse
  rw [hpw]
  have HSE := Lib.hid hse
  have hnN : n ≤ N := by have := se_len (by omega) hse; omega
  have HPT : Hid (ptB N = true) := Lib.hid (by unfold ptB; exact decide_eq_true ⟨p, by omega, hN⟩)
  have HLG : Hid (N.log2 = p) := Lib.hid (by rw [hN, pt_log])
  have HN5 : Hid (N ≤ 1048576) := Lib.hid (by omega)
  have hmin : min p 64 = p := by omega
  have hwr : IntKind.i64.wrap ((2 : Int) ^ p) = (N : Int) := by rw [hNI]; exact IntWalk.i64_in _ (by omega)
  have hwu : IntKind.u64.wrap (p : Int) = (p : Int) := IntWalk.u64_in _ (by omega)
  have hwn : IntKind.i64.wrap (N : Int) = (N : Int) := IntWalk.i64_in _ (by omega)
  have hmk := fun w2 : World => run_make_row' (P := Try.prog) 36 4 (.bool false) 1 Try.underlying36 Try.infoB rfl .i64 .i64 N (by omega) (by omega) w2
  have HPZ := Lib.hid (fun W (hd : Drew w W) => by have := pz_spec (p : Int) a n cap zs W (h.below hd.below) hn; rw [hpz] at this; exact this)
  have HA := Lib.hid h
  have HB := Lib.hid hb
  have hnm : ((n : Int) != (n : Int)) = false := by simp
  obtain ⟨hN1, hN32⟩ := hle
  clear hok hpz hq hse h hb hpw hN
  go_enter Try.func52, Try.ntmps52
  go_wp2_with (first | (go_at_call 88; refine (HPZ.out w (Drew.refl _)).mono ?_; rintro e w2 ⟨rfl, hw⟩; have HD : Hid (Drew w w2) := Lib.hid hw; clear hw) | fail)
  have HM0 : Hid (BCl (w2.alloc (.cells (madeCells #[Value.bool false] N) 4)) w2.heap.size N (plF zs f 0)) := Lib.hid ⟨by simp, trivial, fun j hj => ⟨by rw [World.cell?_alloc_at _ _ _ _ rfl]; have hj : j < N := hj; simp [madeCells, hj, Nat.mod_one, Ent.cell, plF], World.frozen?_alloc_at _ _ _ _ rfl⟩⟩
  have HW0 : Hid (Below w2.heap.size w2 (w2.alloc (.cells (madeCells #[Value.bool false] N) 4))) := Lib.hid (belowA _ _)
  have HA2 := Lib.hid (HA.out.below HD.out.below)
  have HB2 := Lib.hid (HB.out.below HD.out.below)
  clear hmk HA HB HPZ
  go_loopw [26] (fun iv w' => ∃ (k : Nat) (wr : World), k ≤ n ∧ iv = .int .i64 k ∧ wr = w' ∧ Hid (BCl wr w2.heap.size N (plF zs f k)) ∧ Hid (Below w2.heap.size w2 wr)) (fun iv _ => n - (intOf iv).toNat)
  case atStart => exact ⟨0, _, by omega, rfl, rfl, HM0, HW0⟩
  case round =>
    obtain ⟨k, wr, hk, rfl, rfl, HM, HW⟩ := hrel
    by_cases hlt : k < n
    · obtain ⟨b1, o1, rfl, _, hck⟩ := (HA2.out.below HW.out).cell' hlt
      obtain ⟨b2, o2, rfl, hck2⟩ := (HB2.out.below HW.out).cell hlt
      obtain ⟨hz1, hz2⟩ := se_nn (by omega) HSE.out hlt
      obtain ⟨x, hx⟩ : ∃ x : Nat, zs.getD k 0 = (x : Int) := ⟨(zs.getD k 0).toNat, by omega⟩
      have hxN : x < N := by omega
      rw [hx] at hck
      have hc1 := (HM.out.cell hxN).1
      have hfz := (HM.out.cell hxN).2
      have HN : Hid (BCl (wr.setCell ⟨w2.heap.size, x, none⟩ (.bool (f k))) w2.heap.size N (plF zs f (k + 1))) := Lib.hid (bcl_put HM.out hxN (f k) (fun i _ => by show (if i = (zs.getD k 0).toNat then f k else plF zs f k i) = _; rw [hx, Int.toNat_natCast]))
      have HWN : Hid (Below w2.heap.size w2 (wr.setCell ⟨w2.heap.size, x, none⟩ (.bool (f k)))) := Lib.hid (Below.setCell HW.out (Nat.le_refl _) _)
      clear hx hz1 hz2
      generalize f k = v at hck2 HN HWN
      generalize plF zs f k x = u at hc1
      go_wp2
      go_region
      all_goals
        go_wp2
        exact ⟨⟨k + 1, _, by omega, by first | rfl | go_num | (congr 1), rfl, by first | exact HN | exact Lib.hid (bcl_drewN HN.out _) | exact Lib.hid (bcl_drew HN.out), by first | exact HWN | exact Lib.hid (Below.drewN' HWN.out _) | exact Lib.hid (Below.drew HWN.out)⟩, by show n - ((k : Int) + 1).toNat < n - (k : Int).toNat; omega⟩
    · obtain rfl : k = n := by omega
      have HBR : Hid (BRow wr (some ⟨w2.heap.size, 0, none⟩) N (plF zs f k)) := Lib.hid (.inr ⟨w2.heap.size, 0, rfl, HM.out.1, fun i hi9 => by rw [Nat.zero_add]; exact (HM.out.cell hi9).1⟩)
      have HWW := Lib.hid (Below.next HD.out.below HW.out)
      go_wp2_with (first | (go_at_call 82; refine (tn_spec (some ⟨w2.heap.size, 0, none⟩) N N (plF zs f k) wr ?_ HPT.out).mono ?_; (next => exact HBR.out); rintro e w5 ⟨g, cp, rfl, hnn⟩; have HN := Lib.hid hnn; clear hnn) | fail)
      exact bodyPost_ret (v := .tuple #[.slice (some ⟨g, 0, none⟩) N cp, .bool true]) (by simp [results, Try.results52, go_sem]) rfl ⟨g, cp, rfl, Nat.le_trans HWW.out.size HN.out.1, HN.out.2.1, by rw [← HLG.out]; exact HN.out.2.2.1, Below.next HWW.out HN.out.2.2.2⟩
set_option maxRecDepth 100000 in
set_option maxHeartbeats 4000000 in
theorem pdSN (q : Int) (a : Option Addr) (n cap : Nat) (zs : List Int) (b : Option Addr) (m cap2 : Nat) (f : Nat → Bool) (w : World) (h : IRow w a n zs) (_ : BRow w b m f) (hn : n ≤ 1048576) (_ : m ≤ 1048576) (hok : pdB q zs n m = false) :
    Calls Try.prog 52 #[.int .i64 q, .slice a n cap, .slice b m cap2] w fun e w' => e = .returned (.tuple #[.slice none 0 0, .bool false]) ∧ Below w.heap.size w w' := by
  cases hpz : pzB q zs n with
  | true =>
    have hnm : ¬ (m : Int) = (n : Int) := fun e => by
      unfold pdB at hok; rw [hpz, decide_eq_true (show n = m by omega)] at hok; cases hok
    have hnm2 : ((m : Int) != (n : Int)) = true := by simpa using hnm
    have HPZ := Lib.hid (pz_spec q a n cap zs w h hn)
    rw [hpz] at HPZ
    clear hok hpz h hnm
    go_enter Try.func52, Try.ntmps52
    go_wp2_with (first | (go_at_call 88; refine HPZ.out.mono ?_; rintro e w2 ⟨rfl, hw⟩; have HD : Hid (Below w.heap.size w w2) := Lib.hid (by first | exact hw.below | exact hw ▸ Below.refl _ _); clear hw) | fail)
    exact bodyPost_ret (v := .tuple #[.slice none 0 0, .bool false]) (by simp [results, Try.results52, go_sem]) rfl ⟨rfl, HD.out⟩
  | false =>
    have HPZ := Lib.hid (pz_spec q a n cap zs w h hn)
    rw [hpz] at HPZ
    clear hok hpz h
    go_enter Try.func52, Try.ntmps52
    go_wp2_with (first | (go_at_call 88; refine HPZ.out.mono ?_; rintro e w2 ⟨rfl, hw⟩; have HD : Hid (Below w.heap.size w w2) := Lib.hid (by first | exact hw.below | exact hw ▸ Below.refl _ _); clear hw) | fail)
    exact bodyPost_ret (v := .tuple #[.slice none 0 0, .bool false]) (by simp [results, Try.results52, go_sem]) rfl ⟨rfl, HD.out⟩
end Go.Proofs.Ytmfegjflaajkkaa
