/- WordsOf: the words of the program. -/
import Derived.Test.YtiajpmfdaooefaaWds
import Derived.Test.YtiajpmfdaooefaaShf
import Derived.Shelf.SlSortCmp.Insertion
import Derived.Deep.QuietTactic
import Derived.BigQuiet
namespace Go.Proofs.Ytiajpmfdaooefaa
open Go.Proofs.Ytiajpmfdaooefaa.Flo Go.RowKit Go.Sort Go.Lib

set_option maxRecDepth 100000 in
set_option maxHeartbeats 2000000 in
theorem cmpc (x y : Int) (w : World) : Calls Try.prog 105 #[.int .i64 x, .int .i64 y] w fun e w' => e = .returned (.int .i64 (cmpI x y)) ∧ w' = w := by
  by_cases h1 : x < y
  · have d1 : decide (x < y) = true := decide_eq_true h1
    have HR : Hid (cmpI x y = -1) := Lib.hid (if_pos h1)
    clear h1
    go_enter Try.func105, Try.ntmps105
    go_wp2_with (first | go_in)
    go_ret
    exact ⟨by rw [HR.out]; rfl, rfl⟩
  · have d1 : decide (x < y) = false := decide_eq_false h1
    by_cases h2 : y < x
    · have d2 : decide (y < x) = true := decide_eq_true h2
      have HR : Hid (cmpI x y = 1) := Lib.hid (by unfold cmpI; rw [if_neg h1, if_pos h2])
      clear h1 h2
      go_enter Try.func105, Try.ntmps105
      go_wp2_with (first | go_in)
      go_ret
      exact ⟨by rw [HR.out]; rfl, rfl⟩
    · have d2 : decide (y < x) = false := decide_eq_false h2
      have HR : Hid (cmpI x y = 0) := Lib.hid (by unfold cmpI; rw [if_neg h1, if_neg h2])
      clear h1 h2
      go_enter Try.func105, Try.ntmps105
      go_wp2_with (first | go_in)
      go_ret
      exact ⟨by rw [HR.out]; rfl, rfl⟩
set_option maxRecDepth 100000 in
set_option maxHeartbeats 2000000 in
theorem clo (B b1 o1 n cap x y : Nat) (c1 c2 : Int) (w : World) (hx : x < n) (hy : y < n) (hb : w.cell? ⟨B, 0, none⟩ = some (.slice (some ⟨b1, o1, none⟩) n cap))
    (h1 : w.cell? ⟨b1, o1 + x, none⟩ = some (.int .i64 c1)) (h2 : w.cell? ⟨b1, o1 + y, none⟩ = some (.int .i64 c2)) :
    Calls Try.prog 104 #[.int .i64 (x : Int), .int .i64 (y : Int), .pointer (some ⟨B, 0, none⟩)] w fun e w' => e = .returned (.int .i64 (cmpI c1 c2)) ∧ ∃ q, w' = w.drewN q := by
  have HC := Lib.hid (cmpc c1 c2)
  generalize cmpI c1 c2 = r at HC ⊢
  go_enter Try.func104, Try.ntmps104
  go_wp2
  go_quiet ((go_at_call 105; with_reducible exact Calls.quiet_of_same (HC.out _)))
  go_wp2
  go_ret
  exact ⟨rfl, _, rfl⟩
theorem sw_cell {enc : Int → Value} {w : World} {blk off m : Nat} {dk : Array Int} {os : Array Obj} {p : Addr} (h : p.block < w.heap.size) (hne : p.block ≠ blk) : (sortWorld enc w blk off m dk os).cell? p = w.cell? p := by
  unfold sortWorld
  rw [cell?_grow _ _ _ (by simp; exact h), cell?_putRow_other _ _ _ _ _ _ (.inl hne)]
  rfl
/-- A place as a value. -/
def encZ (n : Nat) (x : Int) : Value := .int .i64 (clI n x)
theorem clo_reads (B b1 o1 n cap blk : Nat) (zs : List Int) (w : World) (hn1 : 1 ≤ n) (hn : n ≤ 16) (hB : B < w.heap.size) (hBk : B ≠ blk) (hb1 : b1 < w.heap.size) (hbk : b1 ≠ blk) (hb : w.cell? ⟨B, 0, none⟩ = some (.slice (some ⟨b1, o1, none⟩) n cap))
    (hr : ∀ x, x < n → w.cell? ⟨b1, o1 + x, none⟩ = some (.int .i64 (zs.getD x 0))) :
    CmpReads Try.prog 104 #[.pointer (some ⟨B, 0, none⟩)] (encZ n) (cfZ zs n) blk 0 n w := fun m os dk hdk x y => by
  obtain ⟨x1, hx1⟩ : ∃ x1 : Nat, clI n x = (x1 : Int) := ⟨(clI n x).toNat, by have := (clI_ok (n := n) (by omega) x).1; omega⟩
  obtain ⟨y1, hy1⟩ : ∃ y1 : Nat, clI n y = (y1 : Int) := ⟨(clI n y).toNat, by have := (clI_ok (n := n) (by omega) y).1; omega⟩
  have hxn : x1 < n := by have := (clI_ok (n := n) (by omega) x).2; omega
  have hyn : y1 < n := by have := (clI_ok (n := n) (by omega) y).2; omega
  have := clo B b1 o1 n cap x1 y1 (zs.getD x1 0) (zs.getD y1 0) (sortWorld (encZ n) w blk 0 m dk os) hxn hyn ((sw_cell hB hBk).trans hb) ((sw_cell hb1 hbk).trans (hr x1 hxn)) ((sw_cell hb1 hbk).trans (hr y1 hyn))
  have e : cfZ zs n x y = cmpI (zs.getD x1 0) (zs.getD y1 0) := by unfold cfZ; rw [hx1, hy1]; rfl
  unfold encZ
  rw [hx1, hy1, e]
  exact this
set_option maxRecDepth 100000 in
set_option maxHeartbeats 4000000 in
theorem stab (B b1 o1 n cap blk : Nat) (zs : List Int) (w : World) (hn1 : 1 ≤ n) (hn : n ≤ 16) (hB : B < w.heap.size) (hBk : B ≠ blk) (hb1 : b1 < w.heap.size) (hbk : b1 ≠ blk) (hb : w.cell? ⟨B, 0, none⟩ = some (.slice (some ⟨b1, o1, none⟩) n cap))
    (hr : ∀ x, x < n → w.cell? ⟨b1, o1 + x, none⟩ = some (.int .i64 (zs.getD x 0))) (hH : Holds (encZ n) w blk 0 (iotA n)) :
    Calls Try.prog 120 #[.slice (some ⟨blk, 0, none⟩) n n, .func (.func 104) #[] #[.pointer (some ⟨B, 0, none⟩)]] w fun e w' => e = .returned (.tuple #[]) ∧ ∃ q, w' = (putRow (encZ n) w blk 0 (ordA zs n)).drewN q := by
  have eg : ∀ args w, (callFunc 104 args).run Try.prog w = .ok (.enter 104 args) w := enters_of Try.func104 (by kernel_rfl) rfl
  have hcon := Try.insertionSortCmpFunc_one (encZ n) (fun _ => rfl) (cfZ zs n) 104 #[.pointer (some ⟨B, 0, none⟩)] blk 0 n 0 n (iotA n) w eg (by rw [iotA_size]; exact clo_reads B b1 o1 n cap blk zs w hn1 hn hB hBk hb1 hbk hb hr) hH (Nat.zero_le _) (by rw [iotA_size]; exact Nat.le_refl _) (by rw [iotA_size]; omega)
  have ho : Sort.insertionSort (ltOf (cfZ zs n)) (iotA n) 0 n = ordA zs n := ord_ins zs n
  rw [ho, iotA_size] at hcon
  have HC := Lib.hid hcon
  clear hcon ho hr hH hb eg
  generalize ordA zs n = r at HC ⊢
  have d1 : decide ((20 : Int) ≤ (n : Int)) = false := decide_eq_false (by omega)
  have d2 : decide ((20 : Int) < (n : Int)) = false := decide_eq_false (by omega)
  have HST : Hid (Calls Try.prog 127 #[.slice (some ⟨blk, 0, none⟩) n n, .int .i64 (n : Int), .func (.func 104) #[] #[.pointer (some ⟨B, 0, none⟩)]] w fun e w' => e = .returned (.tuple #[]) ∧ ∃ q, w' = (putRow (encZ n) w blk 0 r).drewN q) := Lib.hid (by
    go_enter Try.func127, Try.ntmps127
    go_wp2
    refine wp_loop_rounds 1 ?_
    rw [rounds_succ]
    go_wp2_with (first | (go_at_call 136; refine HC.out.mono ?_; rintro e w' ⟨rfl, q, rfl⟩) | fail)
    refine wp_loop_rounds 1 ?_
    rw [rounds_succ]
    go_wp2
    go_end0
    exact ⟨rfl, _, rfl⟩)
  go_enter Try.func120, Try.ntmps120
  go_wp2_with (first | (go_at_call 127; refine HST.out.mono ?_; rintro e w' ⟨rfl, q, rfl⟩) | fail)
  go_end0
  exact ⟨rfl, _, rfl⟩
theorem below_putRow {enc : Int → Value} {w : World} {blk off : Nat} {d : Array Int} {B : Nat} (h : B ≤ blk) : Go.RowKit.Below B w (putRow enc w blk off d) :=
  ⟨rfl, rfl, rfl, by simp, fun k hk => by
    unfold putRow mapBlock
    simp only
    rw [Array.getElem?_modify]
    simp [show ¬ (blk = k) by omega]⟩
set_option maxRecDepth 100000 in
set_option maxHeartbeats 4000000 in
theorem oo_impl (B b1 o1 n cap : Nat) (zs : List Int) (w : World) (hn1 : 1 ≤ n) (hn : n ≤ 16) (hB : B < w.heap.size) (hb1 : b1 < w.heap.size) (hb : w.cell? ⟨B, 0, none⟩ = some (.slice (some ⟨b1, o1, none⟩) n cap))
    (hr : ∀ x, x < n → w.cell? ⟨b1, o1 + x, none⟩ = some (.int .i64 (zs.getD x 0))) :
    Calls Try.prog 103 #[.int .i64 (n : Int), .func (.func 104) #[] #[.pointer (some ⟨B, 0, none⟩)]] w fun e w' => ∃ g, e = .returned (.slice (some ⟨g, 0, none⟩) n n) ∧ w.heap.size ≤ g ∧ g < w'.heap.size ∧ (∀ k, k < n → w'.cell? ⟨g, k, none⟩ = some (.int .i64 ((ordA zs n)[k]!))) ∧ Go.RowKit.Below w.heap.size w w' := by
  have hmk := fun w2 : World => run_make_row' (P := Try.prog) 83 3 (.int .i64 0) 8 Try.underlying83 Try.infoI rfl .i64 .i64 n (by omega) (by omega) w2
  have hlen := rngI_len n
  have HW1 : Hid (Go.RowKit.Below w.heap.size w (w.alloc (.cells (il (rngI n)) 3))) := Lib.hid (below_alloc _ _)
  have HH : Hid (Holds (encZ n) (w.alloc (.cells (il (rngI n)) 3)) w.heap.size 0 (iotA n)) := Lib.hid (fun j hj => by
    rw [iotA_size] at hj
    refine ⟨?_, World.frozen?_alloc_at _ _ _ _ rfl⟩
    rw [Nat.zero_add, World.cell?_alloc_at _ _ _ _ rfl, iotA_get hj]
    unfold encZ il
    rw [clI_in ⟨by omega, by omega⟩]
    simp [rngI, hj])
  have HST := Lib.hid (stab B b1 o1 n cap w.heap.size zs (w.alloc (.cells (il (rngI n)) 3)) hn1 hn (by simp; omega) (by omega) (by simp; omega) (by omega) ((World.cell?_alloc_past _ _ _ hB).trans hb) (fun x hx => (World.cell?_alloc_past _ _ _ hb1).trans (hr x hx)) HH.out)
  have HFIN : Hid (∀ q, (∀ k, k < n → ((putRow (encZ n) (w.alloc (.cells (il (rngI n)) 3)) w.heap.size 0 (ordA zs n)).drewN q).cell? ⟨w.heap.size, k, none⟩ = some (.int .i64 ((ordA zs n)[k]!)))) := Lib.hid (fun q k hk => by
    have hok := ordP_ok zs n n (Nat.le_refl _)
    have := cell?_putRow (encZ n) (w.alloc (.cells (il (rngI n)) 3)) w.heap.size 0 (iotA n) (ordA zs n) HH.out (by rw [iotA_size]; exact hok.1) k (by rw [show (ordA zs n).size = n from hok.1]; exact hk)
    rw [Nat.zero_add] at this
    show (putRow (encZ n) _ _ 0 (ordA zs n)).cell? _ = _
    rw [this]
    have h2 : 0 ≤ (ordA zs n)[k]! ∧ (ordA zs n)[k]! < (n : Int) := hok.2.1 k hk
    unfold encZ
    rw [clI_in h2])
  have HSZ : Hid (∀ q, w.heap.size < ((putRow (encZ n) (w.alloc (.cells (il (rngI n)) 3)) w.heap.size 0 (ordA zs n)).drewN q).heap.size) := Lib.hid (fun q => by simp)
  have HBL : Hid (∀ q, Go.RowKit.Below w.heap.size w ((putRow (encZ n) (w.alloc (.cells (il (rngI n)) 3)) w.heap.size 0 (ordA zs n)).drewN q)) := Lib.hid (fun q => Go.Proofs.Ytiajpmfdaooefaa.Below.drewN' (HW1.out.trans (below_putRow (Nat.le_refl _))) q)
  clear hb hr
  rw [← mix_allI (rngI n) n hlen] at HST HFIN HSZ HBL
  generalize ordA zs n = r at HST HFIN HSZ HBL ⊢
  go_enter Try.func103, Try.ntmps103
  go_wp2
  clear hmk
  go_loopw [11] (fun iv w' => ∃ k : Nat, k ≤ n ∧ iv = .int .i64 k ∧ w' = w.alloc (.cells (mixI (rngI n) k n) 3)) (fun iv _ => n - (intOf iv).toNat)
  case atStart => exact ⟨0, by omega, rfl, by rw [mix_zeroI]⟩
  case round =>
    obtain ⟨k, hk, rfl, rfl⟩ := hrel
    by_cases hlt : k < n
    · have hset := mix_setI (rngI n) k n hlt hlen
      have hget : (rngI n).getD k 0 = (k : Int) := by simp [rngI, List.getD_eq_getElem?_getD, hlt]
      rw [hget] at hset
      have HSET := Lib.hid hset
      have hsz := mix_sizeI (rngI n) k n hk hlen
      have hold : (mixI (rngI n) k n)[k]? = some ((mixI (rngI n) k n)[k]'(by omega)) := Array.getElem?_eq_getElem _
      have hold2 : k < (mixI (rngI n) k n).size := by omega
      clear hset
      go_wp2
      exact ⟨⟨k + 1, by omega, by first | rfl | go_num | (congr 1), by rw [HSET.out]⟩, by show n - ((k : Int) + 1).toNat < n - (k : Int).toNat; omega⟩
    · obtain rfl : k = n := by omega
      go_wp2_with (first | (go_at_call 120; refine HST.out.mono ?_; rintro e w' ⟨rfl, q, rfl⟩) | fail)
      go_ret
      exact ⟨_, rfl, Nat.le_refl _, HSZ.out _, HFIN.out _, HBL.out _⟩
def nhI (zs : List Int) (n : Nat) : Nat → Int
  | 0 => -1
  | k + 1 => wX zs n k
set_option maxRecDepth 100000 in
set_option maxHeartbeats 8000000 in
theorem wd_impl (a : Option Addr) (n cap : Nat) (zs : List Int) (w : World) (h : IRow w a n zs) (hn1 : 1 ≤ n) (hn2 : n ≤ 16) (hl : lnP zs n) :
    Calls Try.prog 67 #[.agg #[.slice a n cap]] w fun e w' => ∃ g, e = .returned (.slice (some ⟨g, 0, none⟩) n n) ∧ New w w' g (.sl n (wdF zs n n)) := by
  obtain ⟨b1, o1, rfl, hb1l, _⟩ : ∃ b o, a = some ⟨b, o, none⟩ ∧ b < w.heap.size ∧ True := by
    rcases h.2 with h0 | ⟨b, o, e, hb, _⟩
    · omega
    · exact ⟨b, o, e, hb, trivial⟩
  have HA := Lib.hid h
  have HL := Lib.hid hl
  have HB1 : Hid (Go.RowKit.Below w.heap.size w (w.alloc (.cells #[.slice (some ⟨b1, o1, none⟩) n cap] 27))) := Lib.hid (below_alloc _ _)
  have HBOX := Lib.hid (cell_box w (.slice (some ⟨b1, o1, none⟩) n cap) 27)
  have HROW : Hid (∀ x, x < n → (w.alloc (.cells #[.slice (some ⟨b1, o1, none⟩) n cap] 27)).cell? ⟨b1, o1 + x, none⟩ = some (.int .i64 (zs.getD x 0))) := Lib.hid (fun x hx => by
    obtain ⟨b9, o9, e9, _, hck⟩ := (HA.out.below HB1.out).cell' hx
    injection e9 with e9; injection e9 with e8 e9; subst e8; subst e9; exact hck)
  have HSB : Hid (w.heap.size < (w.alloc (.cells #[.slice (some ⟨b1, o1, none⟩) n cap] 27)).heap.size) := Lib.hid (by simp)
  clear h hl
  go_enter Try.func67, Try.ntmps67
  go_wp2_with (first | (go_at_call 103; refine (oo_impl w.heap.size b1 o1 n cap zs _ hn1 hn2 HSB.out (Nat.lt_of_lt_of_le hb1l HB1.out.size) HBOX.out HROW.out).mono ?_; rintro e w2 ⟨g, rfl, hg1, hg2, hgc, hgb⟩; have HG := Lib.hid hg2; have HGC := Lib.hid hgc; have HGB := Lib.hid hgb; clear hg1 hg2 hgc hgb; have hbx2 : w2.cell? ⟨w.heap.size, 0, none⟩ = some (.slice (some ⟨b1, o1, none⟩) n cap) := (HGB.out.cell (p := ⟨w.heap.size, 0, none⟩) HSB.out).trans HBOX.out; have hmk := (fun w2 : World => run_make_row' (P := Try.prog) 47 9 (.string ⟨#[]⟩) 16 Try.underlying47 Try.infoS rfl .i64 .i64 n (by omega) (by omega) w2)) | fail)
  have HW := Lib.hid (Go.Proofs.Ytiajpmfdaooefaa.Below.next HB1.out HGB.out)
  have HSZ1 : Hid (w.heap.size < (w.alloc (.cells #[.slice (some ⟨b1, o1, none⟩) n cap] 27)).heap.size) := HSB
  have HOA : Hid (∀ k, k < n → ∃ x : Nat, x < n ∧ (ordA zs n)[k]! = (x : Int) ∧ lzD zs n k = zs.getD x 0) := Lib.hid (fun k hk => by
    have h2 : 0 ≤ (ordA zs n)[k]! ∧ (ordA zs n)[k]! < (n : Int) := (ordP_ok zs n n (Nat.le_refl _)).2.1 k hk
    exact ⟨((ordA zs n)[k]!).toNat, by omega, by omega, rfl⟩)
  have HLONG : Hid (∀ (W : World) (x : Nat), Go.RowKit.Below w2.heap.size w2 W → x < n → W.cell? ⟨b1, o1 + x, none⟩ = some (.int .i64 (zs.getD x 0))) := Lib.hid (fun W x hb hx => by
    obtain ⟨b9, o9, e9, _, hck⟩ := (HA.out.below (Go.Proofs.Ytiajpmfdaooefaa.Below.next HW.out hb)).cell' hx
    injection e9 with e9; injection e9 with e8 e9; subst e8; subst e9; exact hck)
  have HPTR : Hid (∀ (W : World), Go.RowKit.Below w2.heap.size w2 W → W.cell? ⟨w.heap.size, 0, none⟩ = some (.slice (some ⟨b1, o1, none⟩) n cap)) := Lib.hid (fun W hb => (hb.cell (p := ⟨w.heap.size, 0, none⟩) (Nat.lt_of_lt_of_le HSZ1.out HGB.out.size)).trans hbx2)
  have HCELL : Hid (∀ (W : World) (k : Nat), Go.RowKit.Below w2.heap.size w2 W → k < n → W.cell? ⟨g, k, none⟩ = some (.int .i64 ((ordA zs n)[k]!))) := Lib.hid (fun W k hb hk => (hb.cell (p := ⟨g, k, none⟩) HG.out).trans (HGC.out k hk))
  obtain ⟨x0, hx0, hxe, hlz⟩ := HOA.out 0 (by omega)
  have HNB : Hid (Go.RowKit.Below w2.heap.size w2 (w2.alloc (.cells (madeCells #[Value.string ⟨#[]⟩] n) 9))) := Lib.hid (below_alloc _ _)
  have hc0 := HCELL.out _ 0 HNB.out (by omega)
  rw [hxe] at hc0
  have hc1 := HLONG.out _ x0 HNB.out hx0
  have hc2 := HPTR.out _ HNB.out
  have HZ0 : Hid (lhI zs n 0 = zs.getD x0 0) := Lib.hid hlz
  have HSN := Lib.hid (scell_new w2 n 9)
  clear hxe hlz hbx2
  have hcp : 0 < n := by omega
  generalize zs.getD x0 0 = l0 at hc1 HZ0
  go_quiet (fail)
  clear hc0 hc1 hc2 hmk
  go_wp2_with fail
  go_loopw [27, 5, 6] (fun kv xv lv w0 => ∃ (k : Nat) (w3 : World), k ≤ n ∧ kv = .int .i64 k ∧ xv = .int .i64 (nhI zs n k) ∧ lv = .int .i64 (lhI zs n k) ∧ w3 = w0 ∧ Hid (SCell w3 w2.heap.size n (wdF zs n k)) ∧ Hid (Go.RowKit.Below w2.heap.size w2 w3)) (fun kv _ _ _ => n - (intOf kv).toNat)
  case atStart => exact ⟨0, _, by omega, rfl, rfl, by rw [HZ0.out], rfl, Lib.hid (HSN.out.drewN _), Lib.hid (Go.Proofs.Ytiajpmfdaooefaa.Below.drewN' HNB.out _)⟩
  case round =>
    obtain ⟨k, w3, hk, rfl, rfl, rfl, rfl, HS, HB3⟩ := hrel
    by_cases hkl : k < n
    · obtain ⟨x, hx, hxe, hlz⟩ := HOA.out k hkl
      have hc0 := HCELL.out _ k HB3.out hkl
      rw [hxe] at hc0
      have hc1 := HLONG.out _ x HB3.out hx
      have hc2 := HPTR.out _ HB3.out
      have hl1 := HL.out x hx
      obtain ⟨M, hM⟩ : ∃ M : Nat, zs.getD x 0 = (M : Int) := ⟨(zs.getD x 0).toNat, by omega⟩
      have HLM : Hid (lzD zs n k = (M : Int)) := Lib.hid (hlz.trans hM)
      have HWD : Hid (∀ j, wdF zs n (k + 1) j = if j = x then txB (dgL (wX zs n k) M) else wdF zs n k j) := Lib.hid (fun j => by
        show (if j = ((ordA zs n)[k]!).toNat then txB (dgL (wX zs n k) (lzD zs n k).toNat) else wdF zs n k j) = _
        rw [hxe, HLM.out]; rfl)
      rw [hM] at hc1 hl1
      have hM32 : M ≤ 32 := by omega
      clear hxe hlz hM
      by_cases hk0 : k = 0
      · subst hk0
        have HL1 : Hid (lhI zs n (0 + 1) = (M : Int)) := Lib.hid HLM.out
        have HX1 : Hid (nhI zs n (0 + 1) = wX zs n 0) := Lib.hid rfl
        have HN0 : Hid (nhI zs n 0 = -1) := Lib.hid rfl
        have HL0 : Hid (lhI zs n 0 = (M : Int)) := Lib.hid HLM.out
        have HWX : Hid (wX zs n 0 = 0) := Lib.hid rfl
        have hws : IntKind.i64.wrap ((M : Int) - (M : Int)) = 0 := by rw [Int.sub_self]; rfl
        rw [HN0.out, HL0.out]
        rw [HWX.out] at HWD HX1
        have HPUT : Hid (∀ W, Go.RowKit.Below w3.heap.size w3 W → W.cell? ⟨w2.heap.size, x, none⟩ = some (.string (wdF zs n 0 x)) ∧ W.frozen? ⟨w2.heap.size, x, none⟩ = false) := Lib.hid (fun W hb => (HS.out.below hb).2 x hx)
        generalize wdF zs n 0 x = old at HPUT
        go_wp2_with (first | (go_at_call 106; refine (dg_impl 0 M _ (by omega)).mono ?_; rintro e w4 ⟨rfl, hb⟩; have HB4 := Lib.hid hb; clear hb; have hcs := (HPUT.out _ HB4.out).1; have hfs := (HPUT.out _ HB4.out).2) | fail)
        exact ⟨⟨0 + 1, _, by omega, by first | rfl | go_num | (congr 1), by rw [HX1.out], by rw [HL1.out], rfl, Lib.hid (((HS.out.below HB4.out).put (s := txB (dgL 0 M)) hx).eq (fun j _ => (HWD.out j).symm)), Lib.hid ((HB3.out.trans (HB4.out.mono HB3.out.size)).setCell (Nat.le_refl _) _)⟩, by show n - ((0 : Int) + 1).toNat < n - (0 : Int).toNat; omega⟩
      · obtain ⟨m, hm⟩ : ∃ m, k = m + 1 := ⟨k - 1, by omega⟩
        have hso := ordA_sorted zs (n := n) (i := m) (by omega)
        have HXH : Hid (nhI zs n k = wX zs n m) := Lib.hid (by rw [hm]; rfl)
        have HLH : Hid (lhI zs n k = lzD zs n m) := Lib.hid (by rw [hm]; rfl)
        obtain ⟨x9, hx9, _, hlz9⟩ := HOA.out m (by omega)
        have hl9 := HL.out x9 hx9
        obtain ⟨M9, hM9⟩ : ∃ M9 : Nat, lzD zs n m = (M9 : Int) := ⟨(lzD zs n m).toNat, by omega⟩
        have hle : M9 ≤ M := by
          have e1 : lzD zs n (m + 1) = (M : Int) := by rw [← hm]; exact HLM.out
          have e2 : lzD zs n m ≤ lzD zs n (m + 1) := hso
          omega
        obtain ⟨D, hD⟩ : ∃ D, M = M9 + D := ⟨M - M9, by omega⟩
        have HXK : Hid (wX zs n k = wrap64 (wrap64 (wX zs n m + 1) * 2 ^ D)) := Lib.hid (by
          rw [hm]
          show wrap64 (wrap64 (wX zs n m + 1) * 2 ^ (lzD zs n (m + 1) - lzD zs n m).toNat) = _
          rw [← hm, HLM.out, hM9]
          have : ((M : Int) - (M9 : Int)).toNat = D := by omega
          rw [this])
        have HL1 : Hid (lhI zs n (k + 1) = (M : Int)) := Lib.hid HLM.out
        have HX1 : Hid (nhI zs n (k + 1) = wX zs n k) := Lib.hid rfl
        have hws : IntKind.i64.wrap ((M : Int) - (M9 : Int)) = (D : Int) := by rw [IntWalk.i64_in _ (by omega)]; omega
        have hD32 : D ≤ 32 := by omega
        rw [HXH.out, HLH.out, hM9]
        obtain ⟨Y, hY⟩ : ∃ Y, Y = wrap64 (wrap64 (wX zs n m + 1) * 2 ^ D) := ⟨_, rfl⟩
        rw [← hY] at HXK
        have hmin : min D 64 = D := by omega
        rw [HXK.out] at HWD HX1
        have HPUT : Hid (∀ W, Go.RowKit.Below w3.heap.size w3 W → W.cell? ⟨w2.heap.size, x, none⟩ = some (.string (wdF zs n k x)) ∧ W.frozen? ⟨w2.heap.size, x, none⟩ = false) := Lib.hid (fun W hb => (HS.out.below hb).2 x hx)
        generalize wdF zs n k x = old at HPUT
        clear hso hlz9 hl9 hD hm hM9 hk0 HXK
        generalize wX zs n m = X at hY
        have hY2 := hY.symm
        clear hY
        go_wp2_with (first | (go_at_call 106; refine (dg_impl Y M _ (by omega)).mono ?_; rintro e w4 ⟨rfl, hb⟩; have HB4 := Lib.hid hb; clear hb; have hcs := (HPUT.out _ HB4.out).1; have hfs := (HPUT.out _ HB4.out).2) | fail)
        exact ⟨⟨k + 1, _, by omega, by first | rfl | go_num | (congr 1), by rw [HX1.out], by rw [HL1.out], rfl, Lib.hid (((HS.out.below HB4.out).put (s := txB (dgL Y M)) hx).eq (fun j _ => (HWD.out j).symm)), Lib.hid ((HB3.out.trans (HB4.out.mono HB3.out.size)).setCell (Nat.le_refl _) _)⟩, by show n - ((k : Int) + 1).toNat < n - (k : Int).toNat; omega⟩
    · obtain rfl : k = n := by omega
      go_wp2
      go_ret
      exact ⟨_, rfl, HW.out.size, HS.out.1, HS.out.ent, Go.Proofs.Ytiajpmfdaooefaa.Below.next HW.out HB3.out⟩
end Go.Proofs.Ytiajpmfdaooefaa
