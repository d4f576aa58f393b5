/- FlipChannel, LoseChannel, NextChannel: the functions. -/
import Derived.Test.YtffamppflelflaaHgi
namespace Go.Proofs.Ytffamppflelflaa
open Go.Proofs.Ytffamppflelflaa.Flo Go.RowKit

/-- The chances of the three channels. -/
def keepV (x : Nat) : Option Nat := vop .sub .f32 (cls .f32 1065353216) (cls .f32 x)
def flipV (x L j : Nat) : Option Nat := if j / L = j % L then keepV x else vop .quo .f32 (cls .f32 x) (cls .f32 (floatOfInt .f32 ((L : Int) - 1)))
def loseV (x L j : Nat) : Option Nat := if j % (L + 1) = j / (L + 1) then keepV x else if j % (L + 1) = L then cls .f32 x else cls .f32 0
def nextV (x L j : Nat) : Option Nat := if j % L = j / L then keepV x else if j % L = (j / L + 1) % L then cls .f32 x else cls .f32 0
theorem at_div {i k C : Nat} (hk : k < C) : (i * C + k) / C = i ∧ (i * C + k) % C = k := by
  constructor
  · rw [Nat.mul_comm, Nat.mul_add_div (by omega), Nat.div_eq_of_lt hk, Nat.add_zero]
  · rw [Nat.mul_comm, Nat.mul_add_mod, Nat.mod_eq_of_lt hk]
theorem flip_at (x L i k : Nat) (hk : k < L) : flipV x L (i * L + k) = if i = k then keepV x else vop .quo .f32 (cls .f32 x) (cls .f32 (floatOfInt .f32 ((L : Int) - 1))) := by
  unfold flipV; rw [(at_div hk).1, (at_div hk).2]
theorem lose_at (x L i k : Nat) (hk : k < L + 1) : loseV x L (i * (L + 1) + k) = if k = i then keepV x else if k = L then cls .f32 x else cls .f32 0 := by
  unfold loseV; rw [(at_div hk).1, (at_div hk).2]
theorem next_at (x L i k : Nat) (hk : k < L) : nextV x L (i * L + k) = if k = i then keepV x else if k = (i + 1) % L then cls .f32 x else cls .f32 0 := by
  unfold nextV; rw [(at_div hk).1, (at_div hk).2]
theorem keep_cls (x : Nat) (w : World) : cls .f32 (fres .sub .f32 1065353216 x w) = keepV x := by rw [fres_cls]; rfl
def okFlip (l : Int) (x : Nat) : Bool := decide (2 ≤ l ∧ l ≤ 8) && (shareH x && chanVB (flipV x l.toNat) l.toNat l.toNat)
def okLose (l : Int) (x : Nat) : Bool := decide (1 ≤ l ∧ l ≤ 7) && (shareH x && chanVB (loseV x l.toNat) l.toNat (l.toNat + 1))
def okNext (l : Int) (x : Nat) : Bool := decide (2 ≤ l ∧ l ≤ 8) && (shareH x && chanVB (nextV x l.toNat) l.toNat l.toNat)
set_option maxRecDepth 100000 in
set_option maxHeartbeats 2000000 in
theorem cl_FlipChannel (p1 p2 i k L x : Nat) (w : World) (h1 : w.cell? ⟨p1, 0, none⟩ = some (.float .f32 x)) (h2 : w.cell? ⟨p2, 0, none⟩ = some (.int .i64 (L : Int))) (_hi : i < L) (hk : k < L) (_hL : L ≤ 8) :
    Calls Try.prog 70 #[.int .i64 (i : Int), .int .i64 (k : Int), .pointer (some ⟨p1, 0, none⟩), .pointer (some ⟨p2, 0, none⟩)] w fun e w' => ∃ z, e = .returned (.float .f32 z) ∧ cls .f32 z = flipV x L (i * L + k) ∧ Drew w w' := by
  by_cases hik : i = k
  · have he : ((i : Int) == (k : Int)) = true := by simp; omega
    have HV : Hid (flipV x L (i * L + k) = keepV x) := Lib.hid (by rw [flip_at _ _ _ _ hk, if_pos hik])
    go_enter Try.func70, Try.ntmps70
    go_wp2
    go_ret
    exact ⟨_, rfl, by rw [keep_cls, HV.out], by first | exact Drew.refl _ | exact Drew.mk _ _⟩
  · have he : ((i : Int) == (k : Int)) = false := by simp; omega
    have HV : Hid (flipV x L (i * L + k) = vop .quo .f32 (cls .f32 x) (cls .f32 (floatOfInt .f32 ((L : Int) - 1)))) := Lib.hid (by rw [flip_at _ _ _ _ hk, if_neg hik])
    go_enter Try.func70, Try.ntmps70
    go_wp2
    go_ret
    exact ⟨_, rfl, by rw [fres_cls, HV.out], by first | exact Drew.refl _ | exact Drew.mk _ _⟩
set_option maxRecDepth 100000 in
set_option maxHeartbeats 2000000 in
theorem cl_LoseChannel (p1 p2 i k L x : Nat) (w : World) (h1 : w.cell? ⟨p1, 0, none⟩ = some (.float .f32 x)) (h2 : w.cell? ⟨p2, 0, none⟩ = some (.int .i64 (L : Int))) (_hi : i < L) (hk : k < L + 1) (_hL : L ≤ 8) :
    Calls Try.prog 71 #[.int .i64 (i : Int), .int .i64 (k : Int), .pointer (some ⟨p1, 0, none⟩), .pointer (some ⟨p2, 0, none⟩)] w fun e w' => ∃ z, e = .returned (.float .f32 z) ∧ cls .f32 z = loseV x L (i * (L + 1) + k) ∧ Drew w w' := by
  by_cases hik : k = i
  · have he : ((k : Int) == (i : Int)) = true := by simp; omega
    have HV : Hid (loseV x L (i * (L + 1) + k) = keepV x) := Lib.hid (by rw [lose_at _ _ _ _ hk, if_pos hik])
    go_enter Try.func71, Try.ntmps71
    go_wp2
    go_ret
    exact ⟨_, rfl, by rw [keep_cls, HV.out], by first | exact Drew.refl _ | exact Drew.mk _ _⟩
  · have he : ((k : Int) == (i : Int)) = false := by simp; omega
    by_cases hkl : k = L
    · have he2 : ((k : Int) == (L : Int)) = true := by simp; omega
      have HV : Hid (loseV x L (i * (L + 1) + k) = cls .f32 x) := Lib.hid (by rw [lose_at _ _ _ _ hk, if_neg hik, if_pos hkl])
      go_enter Try.func71, Try.ntmps71
      go_wp2
      go_ret
      exact ⟨_, rfl, by rw [HV.out], by first | exact Drew.refl _ | exact Drew.mk _ _⟩
    · have he2 : ((k : Int) == (L : Int)) = false := by simp; omega
      have HV : Hid (loseV x L (i * (L + 1) + k) = cls .f32 0) := Lib.hid (by rw [lose_at _ _ _ _ hk, if_neg hik, if_neg hkl])
      go_enter Try.func71, Try.ntmps71
      go_wp2
      go_ret
      exact ⟨_, rfl, by rw [HV.out], by first | exact Drew.refl _ | exact Drew.mk _ _⟩
set_option maxRecDepth 100000 in
set_option maxHeartbeats 2000000 in
theorem cl_NextChannel (p1 p2 i k L x : Nat) (w : World) (h1 : w.cell? ⟨p1, 0, none⟩ = some (.float .f32 x)) (h2 : w.cell? ⟨p2, 0, none⟩ = some (.int .i64 (L : Int))) (_hi : i < L) (hk : k < L) (_hL : L ≤ 8) :
    Calls Try.prog 72 #[.int .i64 (i : Int), .int .i64 (k : Int), .pointer (some ⟨p1, 0, none⟩), .pointer (some ⟨p2, 0, none⟩)] w fun e w' => ∃ z, e = .returned (.float .f32 z) ∧ cls .f32 z = nextV x L (i * L + k) ∧ Drew w w' := by
  have hm : (i + 1) % L < L := Nat.mod_lt _ (by omega)
  have hmod : (((i : Int) + 1).tmod (L : Int)) = (((i + 1) % L : Nat) : Int) := by
    rw [show ((i : Int) + 1) = ((i + 1 : Nat) : Int) by omega, ← Int.ofNat_tmod]
  obtain ⟨j, hj⟩ : ∃ j, j = (i + 1) % L := ⟨_, rfl⟩
  rw [← hj] at hmod hm
  by_cases hik : k = i
  · have he : ((k : Int) == (i : Int)) = true := by simp; omega
    have HV : Hid (nextV x L (i * L + k) = keepV x) := Lib.hid (by rw [next_at _ _ _ _ hk, if_pos hik])
    clear hj
    go_enter Try.func72, Try.ntmps72
    go_wp2
    go_ret
    exact ⟨_, rfl, by rw [keep_cls, HV.out], by first | exact Drew.refl _ | exact Drew.mk _ _⟩
  · have he : ((k : Int) == (i : Int)) = false := by simp; omega
    by_cases hkl : k = j
    · have he2 : ((k : Int) == (j : Int)) = true := by simp; omega
      have HV : Hid (nextV x L (i * L + k) = cls .f32 x) := Lib.hid (by rw [next_at _ _ _ _ hk, if_neg hik, ← hj, if_pos hkl])
      clear hj
      go_enter Try.func72, Try.ntmps72
      go_wp2
      go_ret
      exact ⟨_, rfl, by rw [HV.out], by first | exact Drew.refl _ | exact Drew.mk _ _⟩
    · have he2 : ((k : Int) == (j : Int)) = false := by simp; omega
      have HV : Hid (nextV x L (i * L + k) = cls .f32 0) := Lib.hid (by rw [next_at _ _ _ _ hk, if_neg hik, ← hj, if_neg hkl])
      clear hj
      go_enter Try.func72, Try.ntmps72
      go_wp2
      go_ret
      exact ⟨_, rfl, by rw [HV.out], by first | exact Drew.refl _ | exact Drew.mk _ _⟩
set_option maxRecDepth 100000 in
set_option maxHeartbeats 8000000 in
theorem co_FlipChannel_yes (R C : Nat) (V : Nat → Option Nat) (p1 p2 : Nat) (w : World) (hR : 1 ≤ R ∧ R ≤ 8) (hC : 1 ≤ C ∧ C ≤ 8)
    (hF : ∀ (w2 : World) (i k : Nat), Below w.heap.size w w2 → i < R → k < C → Calls Try.prog 70 #[.int .i64 (i : Int), .int .i64 (k : Int), .pointer (some ⟨p1, 0, none⟩), .pointer (some ⟨p2, 0, none⟩)] w2 fun e w' => ∃ z, e = .returned (.float .f32 z) ∧ cls .f32 z = V (i * C + k) ∧ Drew w2 w')
    (hok : chanVB V R C = true) :
    Calls Try.prog 69 #[.int .i64 (R : Int), .int .i64 (C : Int), .func (.func 70) #[] #[.pointer (some ⟨p1, 0, none⟩), .pointer (some ⟨p2, 0, none⟩)]] w fun e w' => ∃ g cp, e = .returned (.tuple #[.agg #[.int .i64 (R : Int), .int .i64 (C : Int), .slice (some ⟨g, 0, none⟩) (R * C) cp], .bool true]) ∧ R * C ≤ cp ∧ New w w' g (.cl (R * C) V) := by
  obtain ⟨i0, hi, hz0, hz1, hz2⟩ := info_parts Try.info32
  have hRC : R * C ≤ 64 := Nat.le_trans (Nat.mul_le_mul hR.2 hC.2) (by decide)
  have HF := Lib.hid hF
  have HOK := Lib.hid hok
  obtain ⟨hR1, hR2⟩ := hR
  obtain ⟨hC1, hC2⟩ := hC
  clear hF hok
  go_enter Try.func69, Try.ntmps69
  go_wp2
  go_loopw [15] (fun kv w' => ∃ (k : Nat) (v : Value) (wr : World), k ≤ R ∧ kv = .int .i64 k ∧ wr = w' ∧ Hid (Tin wr w.heap.size 0 0 (.slice none 0 0)) ∧ Hid (Tin wr (w.heap.size + 1) R C v) ∧ Hid (Got wr (w.heap.size + 2) 32 v (k * C) V) ∧ Hid (Below w.heap.size w wr)) (fun kv _ => R - (intOf kv).toNat)
  case atStart => exact ⟨0, _, _, by omega, rfl, rfl, Lib.hid (Tin.below (Tin.new (T := 27)) (by repeat (first | exact Below.refl _ _ | refine Below.drew ?_ | refine Below.drewN' ?_ _ | refine Below.alloc ?_ (by first | (simp; done) | (simp; omega)) _ | refine Below.setCell ?_ (by first | (simp; done) | (simp; omega)) _))), Lib.hid (Tin.below (Tin.new' (w := w.alloc (.cells #[.int .i64 0, .int .i64 0, .slice none 0 0] 27)) (T := 27) (by simp)) (by repeat (first | exact Below.refl _ _ | refine Below.drew ?_ | refine Below.drewN' ?_ _ | refine Below.alloc ?_ (by first | (simp; done) | (simp; omega)) _ | refine Below.setCell ?_ (by first | (simp; done) | (simp; omega)) _))), Lib.hid (by rw [Nat.zero_mul]; exact Got.nil _ _ _ _), Lib.hid (by repeat (first | exact Below.refl _ _ | refine Below.drew ?_ | refine Below.drewN' ?_ _ | refine Below.alloc ?_ (by first | (simp; done) | (simp; omega)) _ | refine Below.setCell ?_ (by first | (simp; done) | (simp; omega)) _))⟩
  case round =>
    obtain ⟨k, v0, wr0, hk, rfl, rfl, HT0, HT1, HO, HW⟩ := hrel
    by_cases hlt : k < R
    · go_wp2
      go_loopw [19] (fun iv w' => ∃ (i : Nat) (v : Value) (wr : World), i ≤ C ∧ iv = .int .i64 i ∧ wr = w' ∧ Hid (Tin wr w.heap.size 0 0 (.slice none 0 0)) ∧ Hid (Tin wr (w.heap.size + 1) R C v) ∧ Hid (Got wr (w.heap.size + 2) 32 v (k * C + i) V) ∧ Hid (Below w.heap.size w wr)) (fun iv _ => C - (intOf iv).toNat)
      case atStart => exact ⟨0, v0, _, by omega, rfl, rfl, HT0, HT1, HO, HW⟩
      case round =>
        clear HT0 HT1 HO HW
        obtain ⟨i, v, wr, hi2, rfl, rfl, HT0, HT1, HO, HW⟩ := hrel
        by_cases hlt2 : i < C
        · obtain ⟨K, hK⟩ : ∃ K, K = k * C + i := ⟨_, rfl⟩
          have hkr : K + 1 ≤ 64 := by
            have := mul_in (n := R * C) rfl hlt hlt2
            omega
          rw [← hK] at HO
          have HK := Lib.hid hK
          clear hK
          obtain ⟨hP, hp0, hp1, hp2, _, _, hpf⟩ := HT1.out
          have hsz := HW.out.size
          go_wp2
          go_region_law (first | (go_simp; go_at_call 70; (refine (HF.out _ k i ?_ hlt hlt2).mono ?_); (next => (repeat (first | exact HW.out | refine Below.drew ?_ | refine Below.drewN' ?_ _ | refine Below.alloc ?_ (by first | omega | (simp; omega)) _))); rintro e w3 ⟨z, rfl, hz, hd⟩; have hb := Drew.below hd; (try have hb := Below.ofDrew hb); (try have hb := Below.ofDrewN hb); have HV : Hid (cls .f32 z = V K) := Lib.hid (by rw [HK.out]; exact hz); have HT0 := Lib.hid (HT0.out.below hb); have HT1 := Lib.hid (HT1.out.below hb); have HW := Lib.hid (Below.next HW.out hb); obtain ⟨zs0, hzz, ho⟩ := HO.out.keep hb; have HZ := Lib.hid hzz; have HO1 := Lib.hid ho; have HNE := Lib.hid (own_block ho); obtain ⟨hP3, hq0, hq1, hq2, _, _, hqf⟩ := HT1.out; have hsz3 := HW.out.size; have hn3 : some (w.heap.size + 1) ≠ v.ownBlock := (by intro e; have := own_block ho _ e.symm; omega); have hn4 : some w.heap.size ≠ v.ownBlock := (by intro e; have := own_block ho _ e.symm; omega); clear hz hd hb ho hzz) | (refine step_append_lies _ (by rfl) _ _ _ (by rfl) (w.heap.size + 2) 32 i0 (.float .f32 0) 1 4 Try.underlying22 hi hz0 hz1 hz2 rfl (by omega) v K (zs0.map (Value.float .f32)) (by rfl) (HO1.out.alloc _) ⟨w3.heap.size, 0, none⟩ 1 1 [.float .f32 z] (by rfl) (by rfl) (World.news_of_block (cs := #[.float .f32 z]) (t := 32) (fr := (0, 0)) (heap_alloc_new _ _)) (by simp [Value.oneCell']) (by omega) (by unfold maxLen; omega) (by omega) (by simp; omega) (w3.heap.size + 1) (by simp) ?_; intro gg cp w1 hown1 hgrow hat hlt3; have hT1 : Tin w1 (w.heap.size + 1) R C v := Tin.grown hgrow hn3 (HT1.out.below (by repeat (first | exact Below.refl _ _ | refine Below.drew ?_ | refine Below.drewN' ?_ _ | refine Below.alloc ?_ (by first | (simp; done) | (simp; omega)) _ | refine Below.setCell ?_ (by first | (simp; done) | (simp; omega)) _))); have HT1' := Lib.hid hT1; obtain ⟨hg0, hg1, hg2, hg3, _, _, hg4⟩ := hT1) | (refine step_append_lies _ (by rfl) _ _ _ (by rfl) (w.heap.size + 2) 32 i0 (.float .f32 0) 1 4 Try.underlying22 hi hz0 hz1 hz2 rfl (by omega) v K (zs0.map (Value.float .f32)) (by rfl) ((HO1.out.alloc _).drew) ⟨w3.heap.size, 0, none⟩ 1 1 [.float .f32 z] (by rfl) (by rfl) (World.news_of_block (cs := #[.float .f32 z]) (t := 32) (fr := (0, 0)) (heap_alloc_new _ _)) (by simp [Value.oneCell']) (by omega) (by unfold maxLen; omega) (by omega) (by simp; omega) (w3.heap.size + 1) (by simp) ?_; intro gg cp w1 hown1 hgrow hat hlt3; have hT1 : Tin w1 (w.heap.size + 1) R C v := Tin.grown hgrow hn3 (HT1.out.below (by repeat (first | exact Below.refl _ _ | refine Below.drew ?_ | refine Below.drewN' ?_ _ | refine Below.alloc ?_ (by first | (simp; done) | (simp; omega)) _ | refine Below.setCell ?_ (by first | (simp; done) | (simp; omega)) _))); have HT1' := Lib.hid hT1; obtain ⟨hg0, hg1, hg2, hg3, _, _, hg4⟩ := hT1))
          all_goals
            go_wp2
            exact ⟨⟨i + 1, _, _, by omega, by first | rfl | go_num | (congr 1), rfl, Lib.hid (Tin.below (Tin.far (a := ⟨w.heap.size + 1, 2, none⟩) (Tin.grown hgrow hn4 (HT0.out.below (by repeat (first | exact Below.refl _ _ | refine Below.drew ?_ | refine Below.drewN' ?_ _ | refine Below.alloc ?_ (by first | (simp; done) | (simp; omega)) _ | refine Below.setCell ?_ (by first | (simp; done) | (simp; omega)) _)))) (by simp) _) (by repeat (first | exact Below.refl _ _ | refine Below.drew ?_ | refine Below.drewN' ?_ _ | refine Below.alloc ?_ (by first | (simp; done) | (simp; omega)) _ | refine Below.setCell ?_ (by first | (simp; done) | (simp; omega)) _))), Lib.hid (Tin.below (Tin.set HT1'.out _) (by repeat (first | exact Below.refl _ _ | refine Below.drew ?_ | refine Below.drewN' ?_ _ | refine Below.alloc ?_ (by first | (simp; done) | (simp; omega)) _ | refine Below.setCell ?_ (by first | (simp; done) | (simp; omega)) _))), Lib.hid (by rw [show k * C + (i + 1) = K + 1 by have := HK.out; omega]; exact Got.keep (Got.setCell (Got.step HZ.out (Got.len HO1.out) HV.out hown1) ⟨w.heap.size + 1, 2, none⟩ _ (by simp)) (by repeat (first | exact Below.refl _ _ | refine Below.drew ?_ | refine Below.drewN' ?_ _ | refine Below.alloc ?_ (by first | (simp; done) | (simp; omega)) _ | refine Below.setCell ?_ (by first | (simp; done) | (simp; omega)) _))), Lib.hid (by repeat (first | exact HW.out | refine Below.drew ?_ | refine Below.drewN' ?_ _ | refine Below.setCell ?_ (by first | (simp; done) | (simp; omega)) _ | refine Below.alloc ?_ (by first | omega | (simp; omega)) _ | refine Below.grown ?_ hgrow (by first | omega | (simp; omega)) (fun j hj => Nat.le_trans (by omega) (HNE.out j hj))))⟩, by show C - ((i : Int) + 1).toNat < C - (i : Int).toNat; omega⟩
        · obtain rfl : i = C := by omega
          go_wp2
          refine ⟨⟨k + 1, v, _, by omega, by first | rfl | go_num | (congr 1), rfl, HT0, HT1, Lib.hid (by rw [Nat.succ_mul]; exact HO.out), HW⟩, by show R - ((k : Int) + 1).toNat < R - (k : Int).toNat; omega⟩
    · obtain rfl : k = R := by omega
      have hkR : 0 < k * C := Nat.mul_pos hR1 hC1
      obtain ⟨g, cp, rfl, hcap⟩ := HO.out.form hkR
      obtain ⟨zr, hg1, hg2, hg3, hg4, hg5⟩ := Got.fin'' HO.out (by omega)
      have HCAP := Lib.hid hcap
      have HG1 := Lib.hid hg1
      have HG2 := Lib.hid hg2
      have HG3 := Lib.hid hg3
      have HG4 := Lib.hid hg4
      have HG5 := Lib.hid hg5
      obtain ⟨hs1, hd0, hd1, hd2, _⟩ := HT1.out
      clear hg1 hg2 hg3 hg4 hg5 hcap
      go_wp2_with (first | (go_at_call 83; refine (hgI_yes (k : Int) (C : Int) _ (k * C) _ zr _ HG3.out (by omega) HCAP.out (by rw [chan_V HG4.out]; exact HOK.out)).mono ?_; rintro e w3 ⟨rfl, hb⟩; have HR := Lib.hid (HT0.out.below hb); have HG5 := Lib.hid (HG5.out.below HG2.out hb); have HG2 := Lib.hid (Nat.lt_of_lt_of_le HG2.out hb.size); have HB2 := Lib.hid (Below.next HW.out hb); obtain ⟨_, hd0, hd1, hd2, hf0, hf1, hf2⟩ := HR.out; have HP3 := Lib.hid (HR.out.put3 (.int .i64 (k : Int)) (.int .i64 (C : Int)) (.slice (some ⟨g, 0, none⟩) (k * C) cp)); clear hb) | go_in)
      obtain ⟨hr0, hr1, hr2⟩ := HP3.out
      have hgne : w.heap.size ≠ g := by have := HG1.out; omega
      exact bodyPost_ret (v := .tuple #[.agg #[.int .i64 (k : Int), .int .i64 (C : Int), .slice (some ⟨g, 0, none⟩) (k * C) cp], .bool true]) (by simp [results, Try.results69, go_sem, hr0, hr1, hr2]) rfl
        ⟨g, cp, rfl, HCAP.out, by have := HG1.out; omega, by simpa using HG2.out, Ent.ok.set (Ent.ok.set (Ent.ok.set HG5.out hgne _) hgne _) hgne _, by repeat (first | exact HB2.out | refine Below.setCell ?_ (by first | (simp; done) | (simp; omega)) _)⟩
set_option maxRecDepth 100000 in
set_option maxHeartbeats 8000000 in
theorem co_FlipChannel_no (R C : Nat) (V : Nat → Option Nat) (p1 p2 : Nat) (w : World) (hR : 1 ≤ R ∧ R ≤ 8) (hC : 1 ≤ C ∧ C ≤ 8)
    (hF : ∀ (w2 : World) (i k : Nat), Below w.heap.size w w2 → i < R → k < C → Calls Try.prog 70 #[.int .i64 (i : Int), .int .i64 (k : Int), .pointer (some ⟨p1, 0, none⟩), .pointer (some ⟨p2, 0, none⟩)] w2 fun e w' => ∃ z, e = .returned (.float .f32 z) ∧ cls .f32 z = V (i * C + k) ∧ Drew w2 w')
    (hok : chanVB V R C = false) :
    Calls Try.prog 69 #[.int .i64 (R : Int), .int .i64 (C : Int), .func (.func 70) #[] #[.pointer (some ⟨p1, 0, none⟩), .pointer (some ⟨p2, 0, none⟩)]] w fun e w' => e = .returned (.tuple #[.agg #[.int .i64 0, .int .i64 0, .slice none 0 0], .bool false]) ∧ Below w.heap.size w w' := by
  obtain ⟨i0, hi, hz0, hz1, hz2⟩ := info_parts Try.info32
  have hRC : R * C ≤ 64 := Nat.le_trans (Nat.mul_le_mul hR.2 hC.2) (by decide)
  have HF := Lib.hid hF
  have HOK := Lib.hid hok
  obtain ⟨hR1, hR2⟩ := hR
  obtain ⟨hC1, hC2⟩ := hC
  clear hF hok
  go_enter Try.func69, Try.ntmps69
  go_wp2
  go_loopw [15] (fun kv w' => ∃ (k : Nat) (v : Value) (wr : World), k ≤ R ∧ kv = .int .i64 k ∧ wr = w' ∧ Hid (Tin wr w.heap.size 0 0 (.slice none 0 0)) ∧ Hid (Tin wr (w.heap.size + 1) R C v) ∧ Hid (Got wr (w.heap.size + 2) 32 v (k * C) V) ∧ Hid (Below w.heap.size w wr)) (fun kv _ => R - (intOf kv).toNat)
  case atStart => exact ⟨0, _, _, by omega, rfl, rfl, Lib.hid (Tin.below (Tin.new (T := 27)) (by repeat (first | exact Below.refl _ _ | refine Below.drew ?_ | refine Below.drewN' ?_ _ | refine Below.alloc ?_ (by first | (simp; done) | (simp; omega)) _ | refine Below.setCell ?_ (by first | (simp; done) | (simp; omega)) _))), Lib.hid (Tin.below (Tin.new' (w := w.alloc (.cells #[.int .i64 0, .int .i64 0, .slice none 0 0] 27)) (T := 27) (by simp)) (by repeat (first | exact Below.refl _ _ | refine Below.drew ?_ | refine Below.drewN' ?_ _ | refine Below.alloc ?_ (by first | (simp; done) | (simp; omega)) _ | refine Below.setCell ?_ (by first | (simp; done) | (simp; omega)) _))), Lib.hid (by rw [Nat.zero_mul]; exact Got.nil _ _ _ _), Lib.hid (by repeat (first | exact Below.refl _ _ | refine Below.drew ?_ | refine Below.drewN' ?_ _ | refine Below.alloc ?_ (by first | (simp; done) | (simp; omega)) _ | refine Below.setCell ?_ (by first | (simp; done) | (simp; omega)) _))⟩
  case round =>
    obtain ⟨k, v0, wr0, hk, rfl, rfl, HT0, HT1, HO, HW⟩ := hrel
    by_cases hlt : k < R
    · go_wp2
      go_loopw [19] (fun iv w' => ∃ (i : Nat) (v : Value) (wr : World), i ≤ C ∧ iv = .int .i64 i ∧ wr = w' ∧ Hid (Tin wr w.heap.size 0 0 (.slice none 0 0)) ∧ Hid (Tin wr (w.heap.size + 1) R C v) ∧ Hid (Got wr (w.heap.size + 2) 32 v (k * C + i) V) ∧ Hid (Below w.heap.size w wr)) (fun iv _ => C - (intOf iv).toNat)
      case atStart => exact ⟨0, v0, _, by omega, rfl, rfl, HT0, HT1, HO, HW⟩
      case round =>
        clear HT0 HT1 HO HW
        obtain ⟨i, v, wr, hi2, rfl, rfl, HT0, HT1, HO, HW⟩ := hrel
        by_cases hlt2 : i < C
        · obtain ⟨K, hK⟩ : ∃ K, K = k * C + i := ⟨_, rfl⟩
          have hkr : K + 1 ≤ 64 := by
            have := mul_in (n := R * C) rfl hlt hlt2
            omega
          rw [← hK] at HO
          have HK := Lib.hid hK
          clear hK
          obtain ⟨hP, hp0, hp1, hp2, _, _, hpf⟩ := HT1.out
          have hsz := HW.out.size
          go_wp2
          go_region_law (first | (go_simp; go_at_call 70; (refine (HF.out _ k i ?_ hlt hlt2).mono ?_); (next => (repeat (first | exact HW.out | refine Below.drew ?_ | refine Below.drewN' ?_ _ | refine Below.alloc ?_ (by first | omega | (simp; omega)) _))); rintro e w3 ⟨z, rfl, hz, hd⟩; have hb := Drew.below hd; (try have hb := Below.ofDrew hb); (try have hb := Below.ofDrewN hb); have HV : Hid (cls .f32 z = V K) := Lib.hid (by rw [HK.out]; exact hz); have HT0 := Lib.hid (HT0.out.below hb); have HT1 := Lib.hid (HT1.out.below hb); have HW := Lib.hid (Below.next HW.out hb); obtain ⟨zs0, hzz, ho⟩ := HO.out.keep hb; have HZ := Lib.hid hzz; have HO1 := Lib.hid ho; have HNE := Lib.hid (own_block ho); obtain ⟨hP3, hq0, hq1, hq2, _, _, hqf⟩ := HT1.out; have hsz3 := HW.out.size; have hn3 : some (w.heap.size + 1) ≠ v.ownBlock := (by intro e; have := own_block ho _ e.symm; omega); have hn4 : some w.heap.size ≠ v.ownBlock := (by intro e; have := own_block ho _ e.symm; omega); clear hz hd hb ho hzz) | (refine step_append_lies _ (by rfl) _ _ _ (by rfl) (w.heap.size + 2) 32 i0 (.float .f32 0) 1 4 Try.underlying22 hi hz0 hz1 hz2 rfl (by omega) v K (zs0.map (Value.float .f32)) (by rfl) (HO1.out.alloc _) ⟨w3.heap.size, 0, none⟩ 1 1 [.float .f32 z] (by rfl) (by rfl) (World.news_of_block (cs := #[.float .f32 z]) (t := 32) (fr := (0, 0)) (heap_alloc_new _ _)) (by simp [Value.oneCell']) (by omega) (by unfold maxLen; omega) (by omega) (by simp; omega) (w3.heap.size + 1) (by simp) ?_; intro gg cp w1 hown1 hgrow hat hlt3; have hT1 : Tin w1 (w.heap.size + 1) R C v := Tin.grown hgrow hn3 (HT1.out.below (by repeat (first | exact Below.refl _ _ | refine Below.drew ?_ | refine Below.drewN' ?_ _ | refine Below.alloc ?_ (by first | (simp; done) | (simp; omega)) _ | refine Below.setCell ?_ (by first | (simp; done) | (simp; omega)) _))); have HT1' := Lib.hid hT1; obtain ⟨hg0, hg1, hg2, hg3, _, _, hg4⟩ := hT1) | (refine step_append_lies _ (by rfl) _ _ _ (by rfl) (w.heap.size + 2) 32 i0 (.float .f32 0) 1 4 Try.underlying22 hi hz0 hz1 hz2 rfl (by omega) v K (zs0.map (Value.float .f32)) (by rfl) ((HO1.out.alloc _).drew) ⟨w3.heap.size, 0, none⟩ 1 1 [.float .f32 z] (by rfl) (by rfl) (World.news_of_block (cs := #[.float .f32 z]) (t := 32) (fr := (0, 0)) (heap_alloc_new _ _)) (by simp [Value.oneCell']) (by omega) (by unfold maxLen; omega) (by omega) (by simp; omega) (w3.heap.size + 1) (by simp) ?_; intro gg cp w1 hown1 hgrow hat hlt3; have hT1 : Tin w1 (w.heap.size + 1) R C v := Tin.grown hgrow hn3 (HT1.out.below (by repeat (first | exact Below.refl _ _ | refine Below.drew ?_ | refine Below.drewN' ?_ _ | refine Below.alloc ?_ (by first | (simp; done) | (simp; omega)) _ | refine Below.setCell ?_ (by first | (simp; done) | (simp; omega)) _))); have HT1' := Lib.hid hT1; obtain ⟨hg0, hg1, hg2, hg3, _, _, hg4⟩ := hT1))
          all_goals
            go_wp2
            exact ⟨⟨i + 1, _, _, by omega, by first | rfl | go_num | (congr 1), rfl, Lib.hid (Tin.below (Tin.far (a := ⟨w.heap.size + 1, 2, none⟩) (Tin.grown hgrow hn4 (HT0.out.below (by repeat (first | exact Below.refl _ _ | refine Below.drew ?_ | refine Below.drewN' ?_ _ | refine Below.alloc ?_ (by first | (simp; done) | (simp; omega)) _ | refine Below.setCell ?_ (by first | (simp; done) | (simp; omega)) _)))) (by simp) _) (by repeat (first | exact Below.refl _ _ | refine Below.drew ?_ | refine Below.drewN' ?_ _ | refine Below.alloc ?_ (by first | (simp; done) | (simp; omega)) _ | refine Below.setCell ?_ (by first | (simp; done) | (simp; omega)) _))), Lib.hid (Tin.below (Tin.set HT1'.out _) (by repeat (first | exact Below.refl _ _ | refine Below.drew ?_ | refine Below.drewN' ?_ _ | refine Below.alloc ?_ (by first | (simp; done) | (simp; omega)) _ | refine Below.setCell ?_ (by first | (simp; done) | (simp; omega)) _))), Lib.hid (by rw [show k * C + (i + 1) = K + 1 by have := HK.out; omega]; exact Got.keep (Got.setCell (Got.step HZ.out (Got.len HO1.out) HV.out hown1) ⟨w.heap.size + 1, 2, none⟩ _ (by simp)) (by repeat (first | exact Below.refl _ _ | refine Below.drew ?_ | refine Below.drewN' ?_ _ | refine Below.alloc ?_ (by first | (simp; done) | (simp; omega)) _ | refine Below.setCell ?_ (by first | (simp; done) | (simp; omega)) _))), Lib.hid (by repeat (first | exact HW.out | refine Below.drew ?_ | refine Below.drewN' ?_ _ | refine Below.setCell ?_ (by first | (simp; done) | (simp; omega)) _ | refine Below.alloc ?_ (by first | omega | (simp; omega)) _ | refine Below.grown ?_ hgrow (by first | omega | (simp; omega)) (fun j hj => Nat.le_trans (by omega) (HNE.out j hj))))⟩, by show C - ((i : Int) + 1).toNat < C - (i : Int).toNat; omega⟩
        · obtain rfl : i = C := by omega
          go_wp2
          refine ⟨⟨k + 1, v, _, by omega, by first | rfl | go_num | (congr 1), rfl, HT0, HT1, Lib.hid (by rw [Nat.succ_mul]; exact HO.out), HW⟩, by show R - ((k : Int) + 1).toNat < R - (k : Int).toNat; omega⟩
    · obtain rfl : k = R := by omega
      have hkR : 0 < k * C := Nat.mul_pos hR1 hC1
      obtain ⟨g, cp, rfl, hcap⟩ := HO.out.form hkR
      obtain ⟨zr, hg1, hg2, hg3, hg4, hg5⟩ := Got.fin'' HO.out (by omega)
      have HCAP := Lib.hid hcap
      have HG1 := Lib.hid hg1
      have HG2 := Lib.hid hg2
      have HG3 := Lib.hid hg3
      have HG4 := Lib.hid hg4
      have HG5 := Lib.hid hg5
      obtain ⟨hs1, hd0, hd1, hd2, _⟩ := HT1.out
      clear hg1 hg2 hg3 hg4 hg5 hcap
      go_wp2_with (first | (go_at_call 83; refine (hgI_no (k : Int) (C : Int) _ (k * C) _ zr _ HG3.out (by omega) HCAP.out (by rw [chan_V HG4.out]; exact HOK.out)).mono ?_; rintro e w3 ⟨rfl, hb⟩; have HR := Lib.hid (HT0.out.below hb); have HG5 := Lib.hid (HG5.out.below HG2.out hb); have HG2 := Lib.hid (Nat.lt_of_lt_of_le HG2.out hb.size); have HB2 := Lib.hid (Below.next HW.out hb); obtain ⟨_, hd0, hd1, hd2, hf0, hf1, hf2⟩ := HR.out; have HP3 := Lib.hid (HR.out.put3 (.int .i64 0) (.int .i64 0) (.slice none 0 0)); clear hb) | go_in)
      obtain ⟨hr0, hr1, hr2⟩ := HP3.out
      exact bodyPost_ret (v := .tuple #[.agg #[.int .i64 0, .int .i64 0, .slice none 0 0], .bool false]) (by simp [results, Try.results69, go_sem, hr0, hr1, hr2]) rfl
        ⟨rfl, by repeat (first | exact HB2.out | refine Below.setCell ?_ (by first | (simp; done) | (simp; omega)) _)⟩
set_option maxRecDepth 100000 in
set_option maxHeartbeats 8000000 in
theorem co_LoseChannel_yes (R C : Nat) (V : Nat → Option Nat) (p1 p2 : Nat) (w : World) (hR : 1 ≤ R ∧ R ≤ 8) (hC : 1 ≤ C ∧ C ≤ 8)
    (hF : ∀ (w2 : World) (i k : Nat), Below w.heap.size w w2 → i < R → k < C → Calls Try.prog 71 #[.int .i64 (i : Int), .int .i64 (k : Int), .pointer (some ⟨p1, 0, none⟩), .pointer (some ⟨p2, 0, none⟩)] w2 fun e w' => ∃ z, e = .returned (.float .f32 z) ∧ cls .f32 z = V (i * C + k) ∧ Drew w2 w')
    (hok : chanVB V R C = true) :
    Calls Try.prog 69 #[.int .i64 (R : Int), .int .i64 (C : Int), .func (.func 71) #[] #[.pointer (some ⟨p1, 0, none⟩), .pointer (some ⟨p2, 0, none⟩)]] w fun e w' => ∃ g cp, e = .returned (.tuple #[.agg #[.int .i64 (R : Int), .int .i64 (C : Int), .slice (some ⟨g, 0, none⟩) (R * C) cp], .bool true]) ∧ R * C ≤ cp ∧ New w w' g (.cl (R * C) V) := by
  obtain ⟨i0, hi, hz0, hz1, hz2⟩ := info_parts Try.info32
  have hRC : R * C ≤ 64 := Nat.le_trans (Nat.mul_le_mul hR.2 hC.2) (by decide)
  have HF := Lib.hid hF
  have HOK := Lib.hid hok
  obtain ⟨hR1, hR2⟩ := hR
  obtain ⟨hC1, hC2⟩ := hC
  clear hF hok
  go_enter Try.func69, Try.ntmps69
  go_wp2
  go_loopw [15] (fun kv w' => ∃ (k : Nat) (v : Value) (wr : World), k ≤ R ∧ kv = .int .i64 k ∧ wr = w' ∧ Hid (Tin wr w.heap.size 0 0 (.slice none 0 0)) ∧ Hid (Tin wr (w.heap.size + 1) R C v) ∧ Hid (Got wr (w.heap.size + 2) 32 v (k * C) V) ∧ Hid (Below w.heap.size w wr)) (fun kv _ => R - (intOf kv).toNat)
  case atStart => exact ⟨0, _, _, by omega, rfl, rfl, Lib.hid (Tin.below (Tin.new (T := 27)) (by repeat (first | exact Below.refl _ _ | refine Below.drew ?_ | refine Below.drewN' ?_ _ | refine Below.alloc ?_ (by first | (simp; done) | (simp; omega)) _ | refine Below.setCell ?_ (by first | (simp; done) | (simp; omega)) _))), Lib.hid (Tin.below (Tin.new' (w := w.alloc (.cells #[.int .i64 0, .int .i64 0, .slice none 0 0] 27)) (T := 27) (by simp)) (by repeat (first | exact Below.refl _ _ | refine Below.drew ?_ | refine Below.drewN' ?_ _ | refine Below.alloc ?_ (by first | (simp; done) | (simp; omega)) _ | refine Below.setCell ?_ (by first | (simp; done) | (simp; omega)) _))), Lib.hid (by rw [Nat.zero_mul]; exact Got.nil _ _ _ _), Lib.hid (by repeat (first | exact Below.refl _ _ | refine Below.drew ?_ | refine Below.drewN' ?_ _ | refine Below.alloc ?_ (by first | (simp; done) | (simp; omega)) _ | refine Below.setCell ?_ (by first | (simp; done) | (simp; omega)) _))⟩
  case round =>
    obtain ⟨k, v0, wr0, hk, rfl, rfl, HT0, HT1, HO, HW⟩ := hrel
    by_cases hlt : k < R
    · go_wp2
      go_loopw [19] (fun iv w' => ∃ (i : Nat) (v : Value) (wr : World), i ≤ C ∧ iv = .int .i64 i ∧ wr = w' ∧ Hid (Tin wr w.heap.size 0 0 (.slice none 0 0)) ∧ Hid (Tin wr (w.heap.size + 1) R C v) ∧ Hid (Got wr (w.heap.size + 2) 32 v (k * C + i) V) ∧ Hid (Below w.heap.size w wr)) (fun iv _ => C - (intOf iv).toNat)
      case atStart => exact ⟨0, v0, _, by omega, rfl, rfl, HT0, HT1, HO, HW⟩
      case round =>
        clear HT0 HT1 HO HW
        obtain ⟨i, v, wr, hi2, rfl, rfl, HT0, HT1, HO, HW⟩ := hrel
        by_cases hlt2 : i < C
        · obtain ⟨K, hK⟩ : ∃ K, K = k * C + i := ⟨_, rfl⟩
          have hkr : K + 1 ≤ 64 := by
            have := mul_in (n := R * C) rfl hlt hlt2
            omega
          rw [← hK] at HO
          have HK := Lib.hid hK
          clear hK
          obtain ⟨hP, hp0, hp1, hp2, _, _, hpf⟩ := HT1.out
          have hsz := HW.out.size
          go_wp2
          go_region_law (first | (go_simp; go_at_call 71; (refine (HF.out _ k i ?_ hlt hlt2).mono ?_); (next => (repeat (first | exact HW.out | refine Below.drew ?_ | refine Below.drewN' ?_ _ | refine Below.alloc ?_ (by first | omega | (simp; omega)) _))); rintro e w3 ⟨z, rfl, hz, hd⟩; have hb := Drew.below hd; (try have hb := Below.ofDrew hb); (try have hb := Below.ofDrewN hb); have HV : Hid (cls .f32 z = V K) := Lib.hid (by rw [HK.out]; exact hz); have HT0 := Lib.hid (HT0.out.below hb); have HT1 := Lib.hid (HT1.out.below hb); have HW := Lib.hid (Below.next HW.out hb); obtain ⟨zs0, hzz, ho⟩ := HO.out.keep hb; have HZ := Lib.hid hzz; have HO1 := Lib.hid ho; have HNE := Lib.hid (own_block ho); obtain ⟨hP3, hq0, hq1, hq2, _, _, hqf⟩ := HT1.out; have hsz3 := HW.out.size; have hn3 : some (w.heap.size + 1) ≠ v.ownBlock := (by intro e; have := own_block ho _ e.symm; omega); have hn4 : some w.heap.size ≠ v.ownBlock := (by intro e; have := own_block ho _ e.symm; omega); clear hz hd hb ho hzz) | (refine step_append_lies _ (by rfl) _ _ _ (by rfl) (w.heap.size + 2) 32 i0 (.float .f32 0) 1 4 Try.underlying22 hi hz0 hz1 hz2 rfl (by omega) v K (zs0.map (Value.float .f32)) (by rfl) (HO1.out.alloc _) ⟨w3.heap.size, 0, none⟩ 1 1 [.float .f32 z] (by rfl) (by rfl) (World.news_of_block (cs := #[.float .f32 z]) (t := 32) (fr := (0, 0)) (heap_alloc_new _ _)) (by simp [Value.oneCell']) (by omega) (by unfold maxLen; omega) (by omega) (by simp; omega) (w3.heap.size + 1) (by simp) ?_; intro gg cp w1 hown1 hgrow hat hlt3; have hT1 : Tin w1 (w.heap.size + 1) R C v := Tin.grown hgrow hn3 (HT1.out.below (by repeat (first | exact Below.refl _ _ | refine Below.drew ?_ | refine Below.drewN' ?_ _ | refine Below.alloc ?_ (by first | (simp; done) | (simp; omega)) _ | refine Below.setCell ?_ (by first | (simp; done) | (simp; omega)) _))); have HT1' := Lib.hid hT1; obtain ⟨hg0, hg1, hg2, hg3, _, _, hg4⟩ := hT1) | (refine step_append_lies _ (by rfl) _ _ _ (by rfl) (w.heap.size + 2) 32 i0 (.float .f32 0) 1 4 Try.underlying22 hi hz0 hz1 hz2 rfl (by omega) v K (zs0.map (Value.float .f32)) (by rfl) ((HO1.out.alloc _).drew) ⟨w3.heap.size, 0, none⟩ 1 1 [.float .f32 z] (by rfl) (by rfl) (World.news_of_block (cs := #[.float .f32 z]) (t := 32) (fr := (0, 0)) (heap_alloc_new _ _)) (by simp [Value.oneCell']) (by omega) (by unfold maxLen; omega) (by omega) (by simp; omega) (w3.heap.size + 1) (by simp) ?_; intro gg cp w1 hown1 hgrow hat hlt3; have hT1 : Tin w1 (w.heap.size + 1) R C v := Tin.grown hgrow hn3 (HT1.out.below (by repeat (first | exact Below.refl _ _ | refine Below.drew ?_ | refine Below.drewN' ?_ _ | refine Below.alloc ?_ (by first | (simp; done) | (simp; omega)) _ | refine Below.setCell ?_ (by first | (simp; done) | (simp; omega)) _))); have HT1' := Lib.hid hT1; obtain ⟨hg0, hg1, hg2, hg3, _, _, hg4⟩ := hT1))
          all_goals
            go_wp2
            exact ⟨⟨i + 1, _, _, by omega, by first | rfl | go_num | (congr 1), rfl, Lib.hid (Tin.below (Tin.far (a := ⟨w.heap.size + 1, 2, none⟩) (Tin.grown hgrow hn4 (HT0.out.below (by repeat (first | exact Below.refl _ _ | refine Below.drew ?_ | refine Below.drewN' ?_ _ | refine Below.alloc ?_ (by first | (simp; done) | (simp; omega)) _ | refine Below.setCell ?_ (by first | (simp; done) | (simp; omega)) _)))) (by simp) _) (by repeat (first | exact Below.refl _ _ | refine Below.drew ?_ | refine Below.drewN' ?_ _ | refine Below.alloc ?_ (by first | (simp; done) | (simp; omega)) _ | refine Below.setCell ?_ (by first | (simp; done) | (simp; omega)) _))), Lib.hid (Tin.below (Tin.set HT1'.out _) (by repeat (first | exact Below.refl _ _ | refine Below.drew ?_ | refine Below.drewN' ?_ _ | refine Below.alloc ?_ (by first | (simp; done) | (simp; omega)) _ | refine Below.setCell ?_ (by first | (simp; done) | (simp; omega)) _))), Lib.hid (by rw [show k * C + (i + 1) = K + 1 by have := HK.out; omega]; exact Got.keep (Got.setCell (Got.step HZ.out (Got.len HO1.out) HV.out hown1) ⟨w.heap.size + 1, 2, none⟩ _ (by simp)) (by repeat (first | exact Below.refl _ _ | refine Below.drew ?_ | refine Below.drewN' ?_ _ | refine Below.alloc ?_ (by first | (simp; done) | (simp; omega)) _ | refine Below.setCell ?_ (by first | (simp; done) | (simp; omega)) _))), Lib.hid (by repeat (first | exact HW.out | refine Below.drew ?_ | refine Below.drewN' ?_ _ | refine Below.setCell ?_ (by first | (simp; done) | (simp; omega)) _ | refine Below.alloc ?_ (by first | omega | (simp; omega)) _ | refine Below.grown ?_ hgrow (by first | omega | (simp; omega)) (fun j hj => Nat.le_trans (by omega) (HNE.out j hj))))⟩, by show C - ((i : Int) + 1).toNat < C - (i : Int).toNat; omega⟩
        · obtain rfl : i = C := by omega
          go_wp2
          refine ⟨⟨k + 1, v, _, by omega, by first | rfl | go_num | (congr 1), rfl, HT0, HT1, Lib.hid (by rw [Nat.succ_mul]; exact HO.out), HW⟩, by show R - ((k : Int) + 1).toNat < R - (k : Int).toNat; omega⟩
    · obtain rfl : k = R := by omega
      have hkR : 0 < k * C := Nat.mul_pos hR1 hC1
      obtain ⟨g, cp, rfl, hcap⟩ := HO.out.form hkR
      obtain ⟨zr, hg1, hg2, hg3, hg4, hg5⟩ := Got.fin'' HO.out (by omega)
      have HCAP := Lib.hid hcap
      have HG1 := Lib.hid hg1
      have HG2 := Lib.hid hg2
      have HG3 := Lib.hid hg3
      have HG4 := Lib.hid hg4
      have HG5 := Lib.hid hg5
      obtain ⟨hs1, hd0, hd1, hd2, _⟩ := HT1.out
      clear hg1 hg2 hg3 hg4 hg5 hcap
      go_wp2_with (first | (go_at_call 83; refine (hgI_yes (k : Int) (C : Int) _ (k * C) _ zr _ HG3.out (by omega) HCAP.out (by rw [chan_V HG4.out]; exact HOK.out)).mono ?_; rintro e w3 ⟨rfl, hb⟩; have HR := Lib.hid (HT0.out.below hb); have HG5 := Lib.hid (HG5.out.below HG2.out hb); have HG2 := Lib.hid (Nat.lt_of_lt_of_le HG2.out hb.size); have HB2 := Lib.hid (Below.next HW.out hb); obtain ⟨_, hd0, hd1, hd2, hf0, hf1, hf2⟩ := HR.out; have HP3 := Lib.hid (HR.out.put3 (.int .i64 (k : Int)) (.int .i64 (C : Int)) (.slice (some ⟨g, 0, none⟩) (k * C) cp)); clear hb) | go_in)
      obtain ⟨hr0, hr1, hr2⟩ := HP3.out
      have hgne : w.heap.size ≠ g := by have := HG1.out; omega
      exact bodyPost_ret (v := .tuple #[.agg #[.int .i64 (k : Int), .int .i64 (C : Int), .slice (some ⟨g, 0, none⟩) (k * C) cp], .bool true]) (by simp [results, Try.results69, go_sem, hr0, hr1, hr2]) rfl
        ⟨g, cp, rfl, HCAP.out, by have := HG1.out; omega, by simpa using HG2.out, Ent.ok.set (Ent.ok.set (Ent.ok.set HG5.out hgne _) hgne _) hgne _, by repeat (first | exact HB2.out | refine Below.setCell ?_ (by first | (simp; done) | (simp; omega)) _)⟩
set_option maxRecDepth 100000 in
set_option maxHeartbeats 8000000 in
theorem co_LoseChannel_no (R C : Nat) (V : Nat → Option Nat) (p1 p2 : Nat) (w : World) (hR : 1 ≤ R ∧ R ≤ 8) (hC : 1 ≤ C ∧ C ≤ 8)
    (hF : ∀ (w2 : World) (i k : Nat), Below w.heap.size w w2 → i < R → k < C → Calls Try.prog 71 #[.int .i64 (i : Int), .int .i64 (k : Int), .pointer (some ⟨p1, 0, none⟩), .pointer (some ⟨p2, 0, none⟩)] w2 fun e w' => ∃ z, e = .returned (.float .f32 z) ∧ cls .f32 z = V (i * C + k) ∧ Drew w2 w')
    (hok : chanVB V R C = false) :
    Calls Try.prog 69 #[.int .i64 (R : Int), .int .i64 (C : Int), .func (.func 71) #[] #[.pointer (some ⟨p1, 0, none⟩), .pointer (some ⟨p2, 0, none⟩)]] w fun e w' => e = .returned (.tuple #[.agg #[.int .i64 0, .int .i64 0, .slice none 0 0], .bool false]) ∧ Below w.heap.size w w' := by
  obtain ⟨i0, hi, hz0, hz1, hz2⟩ := info_parts Try.info32
  have hRC : R * C ≤ 64 := Nat.le_trans (Nat.mul_le_mul hR.2 hC.2) (by decide)
  have HF := Lib.hid hF
  have HOK := Lib.hid hok
  obtain ⟨hR1, hR2⟩ := hR
  obtain ⟨hC1, hC2⟩ := hC
  clear hF hok
  go_enter Try.func69, Try.ntmps69
  go_wp2
  go_loopw [15] (fun kv w' => ∃ (k : Nat) (v : Value) (wr : World), k ≤ R ∧ kv = .int .i64 k ∧ wr = w' ∧ Hid (Tin wr w.heap.size 0 0 (.slice none 0 0)) ∧ Hid (Tin wr (w.heap.size + 1) R C v) ∧ Hid (Got wr (w.heap.size + 2) 32 v (k * C) V) ∧ Hid (Below w.heap.size w wr)) (fun kv _ => R - (intOf kv).toNat)
  case atStart => exact ⟨0, _, _, by omega, rfl, rfl, Lib.hid (Tin.below (Tin.new (T := 27)) (by repeat (first | exact Below.refl _ _ | refine Below.drew ?_ | refine Below.drewN' ?_ _ | refine Below.alloc ?_ (by first | (simp; done) | (simp; omega)) _ | refine Below.setCell ?_ (by first | (simp; done) | (simp; omega)) _))), Lib.hid (Tin.below (Tin.new' (w := w.alloc (.cells #[.int .i64 0, .int .i64 0, .slice none 0 0] 27)) (T := 27) (by simp)) (by repeat (first | exact Below.refl _ _ | refine Below.drew ?_ | refine Below.drewN' ?_ _ | refine Below.alloc ?_ (by first | (simp; done) | (simp; omega)) _ | refine Below.setCell ?_ (by first | (simp; done) | (simp; omega)) _))), Lib.hid (by rw [Nat.zero_mul]; exact Got.nil _ _ _ _), Lib.hid (by repeat (first | exact Below.refl _ _ | refine Below.drew ?_ | refine Below.drewN' ?_ _ | refine Below.alloc ?_ (by first | (simp; done) | (simp; omega)) _ | refine Below.setCell ?_ (by first | (simp; done) | (simp; omega)) _))⟩
  case round =>
    obtain ⟨k, v0, wr0, hk, rfl, rfl, HT0, HT1, HO, HW⟩ := hrel
    by_cases hlt : k < R
    · go_wp2
      go_loopw [19] (fun iv w' => ∃ (i : Nat) (v : Value) (wr : World), i ≤ C ∧ iv = .int .i64 i ∧ wr = w' ∧ Hid (Tin wr w.heap.size 0 0 (.slice none 0 0)) ∧ Hid (Tin wr (w.heap.size + 1) R C v) ∧ Hid (Got wr (w.heap.size + 2) 32 v (k * C + i) V) ∧ Hid (Below w.heap.size w wr)) (fun iv _ => C - (intOf iv).toNat)
      case atStart => exact ⟨0, v0, _, by omega, rfl, rfl, HT0, HT1, HO, HW⟩
      case round =>
        clear HT0 HT1 HO HW
        obtain ⟨i, v, wr, hi2, rfl, rfl, HT0, HT1, HO, HW⟩ := hrel
        by_cases hlt2 : i < C
        · obtain ⟨K, hK⟩ : ∃ K, K = k * C + i := ⟨_, rfl⟩
          have hkr : K + 1 ≤ 64 := by
            have := mul_in (n := R * C) rfl hlt hlt2
            omega
          rw [← hK] at HO
          have HK := Lib.hid hK
          clear hK
          obtain ⟨hP, hp0, hp1, hp2, _, _, hpf⟩ := HT1.out
          have hsz := HW.out.size
          go_wp2
          go_region_law (first | (go_simp; go_at_call 71; (refine (HF.out _ k i ?_ hlt hlt2).mono ?_); (next => (repeat (first | exact HW.out | refine Below.drew ?_ | refine Below.drewN' ?_ _ | refine Below.alloc ?_ (by first | omega | (simp; omega)) _))); rintro e w3 ⟨z, rfl, hz, hd⟩; have hb := Drew.below hd; (try have hb := Below.ofDrew hb); (try have hb := Below.ofDrewN hb); have HV : Hid (cls .f32 z = V K) := Lib.hid (by rw [HK.out]; exact hz); have HT0 := Lib.hid (HT0.out.below hb); have HT1 := Lib.hid (HT1.out.below hb); have HW := Lib.hid (Below.next HW.out hb); obtain ⟨zs0, hzz, ho⟩ := HO.out.keep hb; have HZ := Lib.hid hzz; have HO1 := Lib.hid ho; have HNE := Lib.hid (own_block ho); obtain ⟨hP3, hq0, hq1, hq2, _, _, hqf⟩ := HT1.out; have hsz3 := HW.out.size; have hn3 : some (w.heap.size + 1) ≠ v.ownBlock := (by intro e; have := own_block ho _ e.symm; omega); have hn4 : some w.heap.size ≠ v.ownBlock := (by intro e; have := own_block ho _ e.symm; omega); clear hz hd hb ho hzz) | (refine step_append_lies _ (by rfl) _ _ _ (by rfl) (w.heap.size + 2) 32 i0 (.float .f32 0) 1 4 Try.underlying22 hi hz0 hz1 hz2 rfl (by omega) v K (zs0.map (Value.float .f32)) (by rfl) (HO1.out.alloc _) ⟨w3.heap.size, 0, none⟩ 1 1 [.float .f32 z] (by rfl) (by rfl) (World.news_of_block (cs := #[.float .f32 z]) (t := 32) (fr := (0, 0)) (heap_alloc_new _ _)) (by simp [Value.oneCell']) (by omega) (by unfold maxLen; omega) (by omega) (by simp; omega) (w3.heap.size + 1) (by simp) ?_; intro gg cp w1 hown1 hgrow hat hlt3; have hT1 : Tin w1 (w.heap.size + 1) R C v := Tin.grown hgrow hn3 (HT1.out.below (by repeat (first | exact Below.refl _ _ | refine Below.drew ?_ | refine Below.drewN' ?_ _ | refine Below.alloc ?_ (by first | (simp; done) | (simp; omega)) _ | refine Below.setCell ?_ (by first | (simp; done) | (simp; omega)) _))); have HT1' := Lib.hid hT1; obtain ⟨hg0, hg1, hg2, hg3, _, _, hg4⟩ := hT1) | (refine step_append_lies _ (by rfl) _ _ _ (by rfl) (w.heap.size + 2) 32 i0 (.float .f32 0) 1 4 Try.underlying22 hi hz0 hz1 hz2 rfl (by omega) v K (zs0.map (Value.float .f32)) (by rfl) ((HO1.out.alloc _).drew) ⟨w3.heap.size, 0, none⟩ 1 1 [.float .f32 z] (by rfl) (by rfl) (World.news_of_block (cs := #[.float .f32 z]) (t := 32) (fr := (0, 0)) (heap_alloc_new _ _)) (by simp [Value.oneCell']) (by omega) (by unfold maxLen; omega) (by omega) (by simp; omega) (w3.heap.size + 1) (by simp) ?_; intro gg cp w1 hown1 hgrow hat hlt3; have hT1 : Tin w1 (w.heap.size + 1) R C v := Tin.grown hgrow hn3 (HT1.out.below (by repeat (first | exact Below.refl _ _ | refine Below.drew ?_ | refine Below.drewN' ?_ _ | refine Below.alloc ?_ (by first | (simp; done) | (simp; omega)) _ | refine Below.setCell ?_ (by first | (simp; done) | (simp; omega)) _))); have HT1' := Lib.hid hT1; obtain ⟨hg0, hg1, hg2, hg3, _, _, hg4⟩ := hT1))
          all_goals
            go_wp2
            exact ⟨⟨i + 1, _, _, by omega, by first | rfl | go_num | (congr 1), rfl, Lib.hid (Tin.below (Tin.far (a := ⟨w.heap.size + 1, 2, none⟩) (Tin.grown hgrow hn4 (HT0.out.below (by repeat (first | exact Below.refl _ _ | refine Below.drew ?_ | refine Below.drewN' ?_ _ | refine Below.alloc ?_ (by first | (simp; done) | (simp; omega)) _ | refine Below.setCell ?_ (by first | (simp; done) | (simp; omega)) _)))) (by simp) _) (by repeat (first | exact Below.refl _ _ | refine Below.drew ?_ | refine Below.drewN' ?_ _ | refine Below.alloc ?_ (by first | (simp; done) | (simp; omega)) _ | refine Below.setCell ?_ (by first | (simp; done) | (simp; omega)) _))), Lib.hid (Tin.below (Tin.set HT1'.out _) (by repeat (first | exact Below.refl _ _ | refine Below.drew ?_ | refine Below.drewN' ?_ _ | refine Below.alloc ?_ (by first | (simp; done) | (simp; omega)) _ | refine Below.setCell ?_ (by first | (simp; done) | (simp; omega)) _))), Lib.hid (by rw [show k * C + (i + 1) = K + 1 by have := HK.out; omega]; exact Got.keep (Got.setCell (Got.step HZ.out (Got.len HO1.out) HV.out hown1) ⟨w.heap.size + 1, 2, none⟩ _ (by simp)) (by repeat (first | exact Below.refl _ _ | refine Below.drew ?_ | refine Below.drewN' ?_ _ | refine Below.alloc ?_ (by first | (simp; done) | (simp; omega)) _ | refine Below.setCell ?_ (by first | (simp; done) | (simp; omega)) _))), Lib.hid (by repeat (first | exact HW.out | refine Below.drew ?_ | refine Below.drewN' ?_ _ | refine Below.setCell ?_ (by first | (simp; done) | (simp; omega)) _ | refine Below.alloc ?_ (by first | omega | (simp; omega)) _ | refine Below.grown ?_ hgrow (by first | omega | (simp; omega)) (fun j hj => Nat.le_trans (by omega) (HNE.out j hj))))⟩, by show C - ((i : Int) + 1).toNat < C - (i : Int).toNat; omega⟩
        · obtain rfl : i = C := by omega
          go_wp2
          refine ⟨⟨k + 1, v, _, by omega, by first | rfl | go_num | (congr 1), rfl, HT0, HT1, Lib.hid (by rw [Nat.succ_mul]; exact HO.out), HW⟩, by show R - ((k : Int) + 1).toNat < R - (k : Int).toNat; omega⟩
    · obtain rfl : k = R := by omega
      have hkR : 0 < k * C := Nat.mul_pos hR1 hC1
      obtain ⟨g, cp, rfl, hcap⟩ := HO.out.form hkR
      obtain ⟨zr, hg1, hg2, hg3, hg4, hg5⟩ := Got.fin'' HO.out (by omega)
      have HCAP := Lib.hid hcap
      have HG1 := Lib.hid hg1
      have HG2 := Lib.hid hg2
      have HG3 := Lib.hid hg3
      have HG4 := Lib.hid hg4
      have HG5 := Lib.hid hg5
      obtain ⟨hs1, hd0, hd1, hd2, _⟩ := HT1.out
      clear hg1 hg2 hg3 hg4 hg5 hcap
      go_wp2_with (first | (go_at_call 83; refine (hgI_no (k : Int) (C : Int) _ (k * C) _ zr _ HG3.out (by omega) HCAP.out (by rw [chan_V HG4.out]; exact HOK.out)).mono ?_; rintro e w3 ⟨rfl, hb⟩; have HR := Lib.hid (HT0.out.below hb); have HG5 := Lib.hid (HG5.out.below HG2.out hb); have HG2 := Lib.hid (Nat.lt_of_lt_of_le HG2.out hb.size); have HB2 := Lib.hid (Below.next HW.out hb); obtain ⟨_, hd0, hd1, hd2, hf0, hf1, hf2⟩ := HR.out; have HP3 := Lib.hid (HR.out.put3 (.int .i64 0) (.int .i64 0) (.slice none 0 0)); clear hb) | go_in)
      obtain ⟨hr0, hr1, hr2⟩ := HP3.out
      exact bodyPost_ret (v := .tuple #[.agg #[.int .i64 0, .int .i64 0, .slice none 0 0], .bool false]) (by simp [results, Try.results69, go_sem, hr0, hr1, hr2]) rfl
        ⟨rfl, by repeat (first | exact HB2.out | refine Below.setCell ?_ (by first | (simp; done) | (simp; omega)) _)⟩
set_option maxRecDepth 100000 in
set_option maxHeartbeats 8000000 in
theorem co_NextChannel_yes (R C : Nat) (V : Nat → Option Nat) (p1 p2 : Nat) (w : World) (hR : 1 ≤ R ∧ R ≤ 8) (hC : 1 ≤ C ∧ C ≤ 8)
    (hF : ∀ (w2 : World) (i k : Nat), Below w.heap.size w w2 → i < R → k < C → Calls Try.prog 72 #[.int .i64 (i : Int), .int .i64 (k : Int), .pointer (some ⟨p1, 0, none⟩), .pointer (some ⟨p2, 0, none⟩)] w2 fun e w' => ∃ z, e = .returned (.float .f32 z) ∧ cls .f32 z = V (i * C + k) ∧ Drew w2 w')
    (hok : chanVB V R C = true) :
    Calls Try.prog 69 #[.int .i64 (R : Int), .int .i64 (C : Int), .func (.func 72) #[] #[.pointer (some ⟨p1, 0, none⟩), .pointer (some ⟨p2, 0, none⟩)]] w fun e w' => ∃ g cp, e = .returned (.tuple #[.agg #[.int .i64 (R : Int), .int .i64 (C : Int), .slice (some ⟨g, 0, none⟩) (R * C) cp], .bool true]) ∧ R * C ≤ cp ∧ New w w' g (.cl (R * C) V) := by
  obtain ⟨i0, hi, hz0, hz1, hz2⟩ := info_parts Try.info32
  have hRC : R * C ≤ 64 := Nat.le_trans (Nat.mul_le_mul hR.2 hC.2) (by decide)
  have HF := Lib.hid hF
  have HOK := Lib.hid hok
  obtain ⟨hR1, hR2⟩ := hR
  obtain ⟨hC1, hC2⟩ := hC
  clear hF hok
  go_enter Try.func69, Try.ntmps69
  go_wp2
  go_loopw [15] (fun kv w' => ∃ (k : Nat) (v : Value) (wr : World), k ≤ R ∧ kv = .int .i64 k ∧ wr = w' ∧ Hid (Tin wr w.heap.size 0 0 (.slice none 0 0)) ∧ Hid (Tin wr (w.heap.size + 1) R C v) ∧ Hid (Got wr (w.heap.size + 2) 32 v (k * C) V) ∧ Hid (Below w.heap.size w wr)) (fun kv _ => R - (intOf kv).toNat)
  case atStart => exact ⟨0, _, _, by omega, rfl, rfl, Lib.hid (Tin.below (Tin.new (T := 27)) (by repeat (first | exact Below.refl _ _ | refine Below.drew ?_ | refine Below.drewN' ?_ _ | refine Below.alloc ?_ (by first | (simp; done) | (simp; omega)) _ | refine Below.setCell ?_ (by first | (simp; done) | (simp; omega)) _))), Lib.hid (Tin.below (Tin.new' (w := w.alloc (.cells #[.int .i64 0, .int .i64 0, .slice none 0 0] 27)) (T := 27) (by simp)) (by repeat (first | exact Below.refl _ _ | refine Below.drew ?_ | refine Below.drewN' ?_ _ | refine Below.alloc ?_ (by first | (simp; done) | (simp; omega)) _ | refine Below.setCell ?_ (by first | (simp; done) | (simp; omega)) _))), Lib.hid (by rw [Nat.zero_mul]; exact Got.nil _ _ _ _), Lib.hid (by repeat (first | exact Below.refl _ _ | refine Below.drew ?_ | refine Below.drewN' ?_ _ | refine Below.alloc ?_ (by first | (simp; done) | (simp; omega)) _ | refine Below.setCell ?_ (by first | (simp; done) | (simp; omega)) _))⟩
  case round =>
    obtain ⟨k, v0, wr0, hk, rfl, rfl, HT0, HT1, HO, HW⟩ := hrel
    by_cases hlt : k < R
    · go_wp2
      go_loopw [19] (fun iv w' => ∃ (i : Nat) (v : Value) (wr : World), i ≤ C ∧ iv = .int .i64 i ∧ wr = w' ∧ Hid (Tin wr w.heap.size 0 0 (.slice none 0 0)) ∧ Hid (Tin wr (w.heap.size + 1) R C v) ∧ Hid (Got wr (w.heap.size + 2) 32 v (k * C + i) V) ∧ Hid (Below w.heap.size w wr)) (fun iv _ => C - (intOf iv).toNat)
      case atStart => exact ⟨0, v0, _, by omega, rfl, rfl, HT0, HT1, HO, HW⟩
      case round =>
        clear HT0 HT1 HO HW
        obtain ⟨i, v, wr, hi2, rfl, rfl, HT0, HT1, HO, HW⟩ := hrel
        by_cases hlt2 : i < C
        · obtain ⟨K, hK⟩ : ∃ K, K = k * C + i := ⟨_, rfl⟩
          have hkr : K + 1 ≤ 64 := by
            have := mul_in (n := R * C) rfl hlt hlt2
            omega
          rw [← hK] at HO
          have HK := Lib.hid hK
          clear hK
          obtain ⟨hP, hp0, hp1, hp2, _, _, hpf⟩ := HT1.out
          have hsz := HW.out.size
          go_wp2
          go_region_law (first | (go_simp; go_at_call 72; (refine (HF.out _ k i ?_ hlt hlt2).mono ?_); (next => (repeat (first | exact HW.out | refine Below.drew ?_ | refine Below.drewN' ?_ _ | refine Below.alloc ?_ (by first | omega | (simp; omega)) _))); rintro e w3 ⟨z, rfl, hz, hd⟩; have hb := Drew.below hd; (try have hb := Below.ofDrew hb); (try have hb := Below.ofDrewN hb); have HV : Hid (cls .f32 z = V K) := Lib.hid (by rw [HK.out]; exact hz); have HT0 := Lib.hid (HT0.out.below hb); have HT1 := Lib.hid (HT1.out.below hb); have HW := Lib.hid (Below.next HW.out hb); obtain ⟨zs0, hzz, ho⟩ := HO.out.keep hb; have HZ := Lib.hid hzz; have HO1 := Lib.hid ho; have HNE := Lib.hid (own_block ho); obtain ⟨hP3, hq0, hq1, hq2, _, _, hqf⟩ := HT1.out; have hsz3 := HW.out.size; have hn3 : some (w.heap.size + 1) ≠ v.ownBlock := (by intro e; have := own_block ho _ e.symm; omega); have hn4 : some w.heap.size ≠ v.ownBlock := (by intro e; have := own_block ho _ e.symm; omega); clear hz hd hb ho hzz) | (refine step_append_lies _ (by rfl) _ _ _ (by rfl) (w.heap.size + 2) 32 i0 (.float .f32 0) 1 4 Try.underlying22 hi hz0 hz1 hz2 rfl (by omega) v K (zs0.map (Value.float .f32)) (by rfl) (HO1.out.alloc _) ⟨w3.heap.size, 0, none⟩ 1 1 [.float .f32 z] (by rfl) (by rfl) (World.news_of_block (cs := #[.float .f32 z]) (t := 32) (fr := (0, 0)) (heap_alloc_new _ _)) (by simp [Value.oneCell']) (by omega) (by unfold maxLen; omega) (by omega) (by simp; omega) (w3.heap.size + 1) (by simp) ?_; intro gg cp w1 hown1 hgrow hat hlt3; have hT1 : Tin w1 (w.heap.size + 1) R C v := Tin.grown hgrow hn3 (HT1.out.below (by repeat (first | exact Below.refl _ _ | refine Below.drew ?_ | refine Below.drewN' ?_ _ | refine Below.alloc ?_ (by first | (simp; done) | (simp; omega)) _ | refine Below.setCell ?_ (by first | (simp; done) | (simp; omega)) _))); have HT1' := Lib.hid hT1; obtain ⟨hg0, hg1, hg2, hg3, _, _, hg4⟩ := hT1) | (refine step_append_lies _ (by rfl) _ _ _ (by rfl) (w.heap.size + 2) 32 i0 (.float .f32 0) 1 4 Try.underlying22 hi hz0 hz1 hz2 rfl (by omega) v K (zs0.map (Value.float .f32)) (by rfl) ((HO1.out.alloc _).drew) ⟨w3.heap.size, 0, none⟩ 1 1 [.float .f32 z] (by rfl) (by rfl) (World.news_of_block (cs := #[.float .f32 z]) (t := 32) (fr := (0, 0)) (heap_alloc_new _ _)) (by simp [Value.oneCell']) (by omega) (by unfold maxLen; omega) (by omega) (by simp; omega) (w3.heap.size + 1) (by simp) ?_; intro gg cp w1 hown1 hgrow hat hlt3; have hT1 : Tin w1 (w.heap.size + 1) R C v := Tin.grown hgrow hn3 (HT1.out.below (by repeat (first | exact Below.refl _ _ | refine Below.drew ?_ | refine Below.drewN' ?_ _ | refine Below.alloc ?_ (by first | (simp; done) | (simp; omega)) _ | refine Below.setCell ?_ (by first | (simp; done) | (simp; omega)) _))); have HT1' := Lib.hid hT1; obtain ⟨hg0, hg1, hg2, hg3, _, _, hg4⟩ := hT1))
          all_goals
            go_wp2
            exact ⟨⟨i + 1, _, _, by omega, by first | rfl | go_num | (congr 1), rfl, Lib.hid (Tin.below (Tin.far (a := ⟨w.heap.size + 1, 2, none⟩) (Tin.grown hgrow hn4 (HT0.out.below (by repeat (first | exact Below.refl _ _ | refine Below.drew ?_ | refine Below.drewN' ?_ _ | refine Below.alloc ?_ (by first | (simp; done) | (simp; omega)) _ | refine Below.setCell ?_ (by first | (simp; done) | (simp; omega)) _)))) (by simp) _) (by repeat (first | exact Below.refl _ _ | refine Below.drew ?_ | refine Below.drewN' ?_ _ | refine Below.alloc ?_ (by first | (simp; done) | (simp; omega)) _ | refine Below.setCell ?_ (by first | (simp; done) | (simp; omega)) _))), Lib.hid (Tin.below (Tin.set HT1'.out _) (by repeat (first | exact Below.refl _ _ | refine Below.drew ?_ | refine Below.drewN' ?_ _ | refine Below.alloc ?_ (by first | (simp; done) | (simp; omega)) _ | refine Below.setCell ?_ (by first | (simp; done) | (simp; omega)) _))), Lib.hid (by rw [show k * C + (i + 1) = K + 1 by have := HK.out; omega]; exact Got.keep (Got.setCell (Got.step HZ.out (Got.len HO1.out) HV.out hown1) ⟨w.heap.size + 1, 2, none⟩ _ (by simp)) (by repeat (first | exact Below.refl _ _ | refine Below.drew ?_ | refine Below.drewN' ?_ _ | refine Below.alloc ?_ (by first | (simp; done) | (simp; omega)) _ | refine Below.setCell ?_ (by first | (simp; done) | (simp; omega)) _))), Lib.hid (by repeat (first | exact HW.out | refine Below.drew ?_ | refine Below.drewN' ?_ _ | refine Below.setCell ?_ (by first | (simp; done) | (simp; omega)) _ | refine Below.alloc ?_ (by first | omega | (simp; omega)) _ | refine Below.grown ?_ hgrow (by first | omega | (simp; omega)) (fun j hj => Nat.le_trans (by omega) (HNE.out j hj))))⟩, by show C - ((i : Int) + 1).toNat < C - (i : Int).toNat; omega⟩
        · obtain rfl : i = C := by omega
          go_wp2
          refine ⟨⟨k + 1, v, _, by omega, by first | rfl | go_num | (congr 1), rfl, HT0, HT1, Lib.hid (by rw [Nat.succ_mul]; exact HO.out), HW⟩, by show R - ((k : Int) + 1).toNat < R - (k : Int).toNat; omega⟩
    · obtain rfl : k = R := by omega
      have hkR : 0 < k * C := Nat.mul_pos hR1 hC1
      obtain ⟨g, cp, rfl, hcap⟩ := HO.out.form hkR
      obtain ⟨zr, hg1, hg2, hg3, hg4, hg5⟩ := Got.fin'' HO.out (by omega)
      have HCAP := Lib.hid hcap
      have HG1 := Lib.hid hg1
      have HG2 := Lib.hid hg2
      have HG3 := Lib.hid hg3
      have HG4 := Lib.hid hg4
      have HG5 := Lib.hid hg5
      obtain ⟨hs1, hd0, hd1, hd2, _⟩ := HT1.out
      clear hg1 hg2 hg3 hg4 hg5 hcap
      go_wp2_with (first | (go_at_call 83; refine (hgI_yes (k : Int) (C : Int) _ (k * C) _ zr _ HG3.out (by omega) HCAP.out (by rw [chan_V HG4.out]; exact HOK.out)).mono ?_; rintro e w3 ⟨rfl, hb⟩; have HR := Lib.hid (HT0.out.below hb); have HG5 := Lib.hid (HG5.out.below HG2.out hb); have HG2 := Lib.hid (Nat.lt_of_lt_of_le HG2.out hb.size); have HB2 := Lib.hid (Below.next HW.out hb); obtain ⟨_, hd0, hd1, hd2, hf0, hf1, hf2⟩ := HR.out; have HP3 := Lib.hid (HR.out.put3 (.int .i64 (k : Int)) (.int .i64 (C : Int)) (.slice (some ⟨g, 0, none⟩) (k * C) cp)); clear hb) | go_in)
      obtain ⟨hr0, hr1, hr2⟩ := HP3.out
      have hgne : w.heap.size ≠ g := by have := HG1.out; omega
      exact bodyPost_ret (v := .tuple #[.agg #[.int .i64 (k : Int), .int .i64 (C : Int), .slice (some ⟨g, 0, none⟩) (k * C) cp], .bool true]) (by simp [results, Try.results69, go_sem, hr0, hr1, hr2]) rfl
        ⟨g, cp, rfl, HCAP.out, by have := HG1.out; omega, by simpa using HG2.out, Ent.ok.set (Ent.ok.set (Ent.ok.set HG5.out hgne _) hgne _) hgne _, by repeat (first | exact HB2.out | refine Below.setCell ?_ (by first | (simp; done) | (simp; omega)) _)⟩
set_option maxRecDepth 100000 in
set_option maxHeartbeats 8000000 in
theorem co_NextChannel_no (R C : Nat) (V : Nat → Option Nat) (p1 p2 : Nat) (w : World) (hR : 1 ≤ R ∧ R ≤ 8) (hC : 1 ≤ C ∧ C ≤ 8)
    (hF : ∀ (w2 : World) (i k : Nat), Below w.heap.size w w2 → i < R → k < C → Calls Try.prog 72 #[.int .i64 (i : Int), .int .i64 (k : Int), .pointer (some ⟨p1, 0, none⟩), .pointer (some ⟨p2, 0, none⟩)] w2 fun e w' => ∃ z, e = .returned (.float .f32 z) ∧ cls .f32 z = V (i * C + k) ∧ Drew w2 w')
    (hok : chanVB V R C = false) :
    Calls Try.prog 69 #[.int .i64 (R : Int), .int .i64 (C : Int), .func (.func 72) #[] #[.pointer (some ⟨p1, 0, none⟩), .pointer (some ⟨p2, 0, none⟩)]] w fun e w' => e = .returned (.tuple #[.agg #[.int .i64 0, .int .i64 0, .slice none 0 0], .bool false]) ∧ Below w.heap.size w w' := by
  obtain ⟨i0, hi, hz0, hz1, hz2⟩ := info_parts Try.info32
  have hRC : R * C ≤ 64 := Nat.le_trans (Nat.mul_le_mul hR.2 hC.2) (by decide)
  have HF := Lib.hid hF
  have HOK := Lib.hid hok
  obtain ⟨hR1, hR2⟩ := hR
  obtain ⟨hC1, hC2⟩ := hC
  clear hF hok
  go_enter Try.func69, Try.ntmps69
  go_wp2
  go_loopw [15] (fun kv w' => ∃ (k : Nat) (v : Value) (wr : World), k ≤ R ∧ kv = .int .i64 k ∧ wr = w' ∧ Hid (Tin wr w.heap.size 0 0 (.slice none 0 0)) ∧ Hid (Tin wr (w.heap.size + 1) R C v) ∧ Hid (Got wr (w.heap.size + 2) 32 v (k * C) V) ∧ Hid (Below w.heap.size w wr)) (fun kv _ => R - (intOf kv).toNat)
  case atStart => exact ⟨0, _, _, by omega, rfl, rfl, Lib.hid (Tin.below (Tin.new (T := 27)) (by repeat (first | exact Below.refl _ _ | refine Below.drew ?_ | refine Below.drewN' ?_ _ | refine Below.alloc ?_ (by first | (simp; done) | (simp; omega)) _ | refine Below.setCell ?_ (by first | (simp; done) | (simp; omega)) _))), Lib.hid (Tin.below (Tin.new' (w := w.alloc (.cells #[.int .i64 0, .int .i64 0, .slice none 0 0] 27)) (T := 27) (by simp)) (by repeat (first | exact Below.refl _ _ | refine Below.drew ?_ | refine Below.drewN' ?_ _ | refine Below.alloc ?_ (by first | (simp; done) | (simp; omega)) _ | refine Below.setCell ?_ (by first | (simp; done) | (simp; omega)) _))), Lib.hid (by rw [Nat.zero_mul]; exact Got.nil _ _ _ _), Lib.hid (by repeat (first | exact Below.refl _ _ | refine Below.drew ?_ | refine Below.drewN' ?_ _ | refine Below.alloc ?_ (by first | (simp; done) | (simp; omega)) _ | refine Below.setCell ?_ (by first | (simp; done) | (simp; omega)) _))⟩
  case round =>
    obtain ⟨k, v0, wr0, hk, rfl, rfl, HT0, HT1, HO, HW⟩ := hrel
    by_cases hlt : k < R
    · go_wp2
      go_loopw [19] (fun iv w' => ∃ (i : Nat) (v : Value) (wr : World), i ≤ C ∧ iv = .int .i64 i ∧ wr = w' ∧ Hid (Tin wr w.heap.size 0 0 (.slice none 0 0)) ∧ Hid (Tin wr (w.heap.size + 1) R C v) ∧ Hid (Got wr (w.heap.size + 2) 32 v (k * C + i) V) ∧ Hid (Below w.heap.size w wr)) (fun iv _ => C - (intOf iv).toNat)
      case atStart => exact ⟨0, v0, _, by omega, rfl, rfl, HT0, HT1, HO, HW⟩
      case round =>
        clear HT0 HT1 HO HW
        obtain ⟨i, v, wr, hi2, rfl, rfl, HT0, HT1, HO, HW⟩ := hrel
        by_cases hlt2 : i < C
        · obtain ⟨K, hK⟩ : ∃ K, K = k * C + i := ⟨_, rfl⟩
          have hkr : K + 1 ≤ 64 := by
            have := mul_in (n := R * C) rfl hlt hlt2
            omega
          rw [← hK] at HO
          have HK := Lib.hid hK
          clear hK
          obtain ⟨hP, hp0, hp1, hp2, _, _, hpf⟩ := HT1.out
          have hsz := HW.out.size
          go_wp2
          go_region_law (first | (go_simp; go_at_call 72; (refine (HF.out _ k i ?_ hlt hlt2).mono ?_); (next => (repeat (first | exact HW.out | refine Below.drew ?_ | refine Below.drewN' ?_ _ | refine Below.alloc ?_ (by first | omega | (simp; omega)) _))); rintro e w3 ⟨z, rfl, hz, hd⟩; have hb := Drew.below hd; (try have hb := Below.ofDrew hb); (try have hb := Below.ofDrewN hb); have HV : Hid (cls .f32 z = V K) := Lib.hid (by rw [HK.out]; exact hz); have HT0 := Lib.hid (HT0.out.below hb); have HT1 := Lib.hid (HT1.out.below hb); have HW := Lib.hid (Below.next HW.out hb); obtain ⟨zs0, hzz, ho⟩ := HO.out.keep hb; have HZ := Lib.hid hzz; have HO1 := Lib.hid ho; have HNE := Lib.hid (own_block ho); obtain ⟨hP3, hq0, hq1, hq2, _, _, hqf⟩ := HT1.out; have hsz3 := HW.out.size; have hn3 : some (w.heap.size + 1) ≠ v.ownBlock := (by intro e; have := own_block ho _ e.symm; omega); have hn4 : some w.heap.size ≠ v.ownBlock := (by intro e; have := own_block ho _ e.symm; omega); clear hz hd hb ho hzz) | (refine step_append_lies _ (by rfl) _ _ _ (by rfl) (w.heap.size + 2) 32 i0 (.float .f32 0) 1 4 Try.underlying22 hi hz0 hz1 hz2 rfl (by omega) v K (zs0.map (Value.float .f32)) (by rfl) (HO1.out.alloc _) ⟨w3.heap.size, 0, none⟩ 1 1 [.float .f32 z] (by rfl) (by rfl) (World.news_of_block (cs := #[.float .f32 z]) (t := 32) (fr := (0, 0)) (heap_alloc_new _ _)) (by simp [Value.oneCell']) (by omega) (by unfold maxLen; omega) (by omega) (by simp; omega) (w3.heap.size + 1) (by simp) ?_; intro gg cp w1 hown1 hgrow hat hlt3; have hT1 : Tin w1 (w.heap.size + 1) R C v := Tin.grown hgrow hn3 (HT1.out.below (by repeat (first | exact Below.refl _ _ | refine Below.drew ?_ | refine Below.drewN' ?_ _ | refine Below.alloc ?_ (by first | (simp; done) | (simp; omega)) _ | refine Below.setCell ?_ (by first | (simp; done) | (simp; omega)) _))); have HT1' := Lib.hid hT1; obtain ⟨hg0, hg1, hg2, hg3, _, _, hg4⟩ := hT1) | (refine step_append_lies _ (by rfl) _ _ _ (by rfl) (w.heap.size + 2) 32 i0 (.float .f32 0) 1 4 Try.underlying22 hi hz0 hz1 hz2 rfl (by omega) v K (zs0.map (Value.float .f32)) (by rfl) ((HO1.out.alloc _).drew) ⟨w3.heap.size, 0, none⟩ 1 1 [.float .f32 z] (by rfl) (by rfl) (World.news_of_block (cs := #[.float .f32 z]) (t := 32) (fr := (0, 0)) (heap_alloc_new _ _)) (by simp [Value.oneCell']) (by omega) (by unfold maxLen; omega) (by omega) (by simp; omega) (w3.heap.size + 1) (by simp) ?_; intro gg cp w1 hown1 hgrow hat hlt3; have hT1 : Tin w1 (w.heap.size + 1) R C v := Tin.grown hgrow hn3 (HT1.out.below (by repeat (first | exact Below.refl _ _ | refine Below.drew ?_ | refine Below.drewN' ?_ _ | refine Below.alloc ?_ (by first | (simp; done) | (simp; omega)) _ | refine Below.setCell ?_ (by first | (simp; done) | (simp; omega)) _))); have HT1' := Lib.hid hT1; obtain ⟨hg0, hg1, hg2, hg3, _, _, hg4⟩ := hT1))
          all_goals
            go_wp2
            exact ⟨⟨i + 1, _, _, by omega, by first | rfl | go_num | (congr 1), rfl, Lib.hid (Tin.below (Tin.far (a := ⟨w.heap.size + 1, 2, none⟩) (Tin.grown hgrow hn4 (HT0.out.below (by repeat (first | exact Below.refl _ _ | refine Below.drew ?_ | refine Below.drewN' ?_ _ | refine Below.alloc ?_ (by first | (simp; done) | (simp; omega)) _ | refine Below.setCell ?_ (by first | (simp; done) | (simp; omega)) _)))) (by simp) _) (by repeat (first | exact Below.refl _ _ | refine Below.drew ?_ | refine Below.drewN' ?_ _ | refine Below.alloc ?_ (by first | (simp; done) | (simp; omega)) _ | refine Below.setCell ?_ (by first | (simp; done) | (simp; omega)) _))), Lib.hid (Tin.below (Tin.set HT1'.out _) (by repeat (first | exact Below.refl _ _ | refine Below.drew ?_ | refine Below.drewN' ?_ _ | refine Below.alloc ?_ (by first | (simp; done) | (simp; omega)) _ | refine Below.setCell ?_ (by first | (simp; done) | (simp; omega)) _))), Lib.hid (by rw [show k * C + (i + 1) = K + 1 by have := HK.out; omega]; exact Got.keep (Got.setCell (Got.step HZ.out (Got.len HO1.out) HV.out hown1) ⟨w.heap.size + 1, 2, none⟩ _ (by simp)) (by repeat (first | exact Below.refl _ _ | refine Below.drew ?_ | refine Below.drewN' ?_ _ | refine Below.alloc ?_ (by first | (simp; done) | (simp; omega)) _ | refine Below.setCell ?_ (by first | (simp; done) | (simp; omega)) _))), Lib.hid (by repeat (first | exact HW.out | refine Below.drew ?_ | refine Below.drewN' ?_ _ | refine Below.setCell ?_ (by first | (simp; done) | (simp; omega)) _ | refine Below.alloc ?_ (by first | omega | (simp; omega)) _ | refine Below.grown ?_ hgrow (by first | omega | (simp; omega)) (fun j hj => Nat.le_trans (by omega) (HNE.out j hj))))⟩, by show C - ((i : Int) + 1).toNat < C - (i : Int).toNat; omega⟩
        · obtain rfl : i = C := by omega
          go_wp2
          refine ⟨⟨k + 1, v, _, by omega, by first | rfl | go_num | (congr 1), rfl, HT0, HT1, Lib.hid (by rw [Nat.succ_mul]; exact HO.out), HW⟩, by show R - ((k : Int) + 1).toNat < R - (k : Int).toNat; omega⟩
    · obtain rfl : k = R := by omega
      have hkR : 0 < k * C := Nat.mul_pos hR1 hC1
      obtain ⟨g, cp, rfl, hcap⟩ := HO.out.form hkR
      obtain ⟨zr, hg1, hg2, hg3, hg4, hg5⟩ := Got.fin'' HO.out (by omega)
      have HCAP := Lib.hid hcap
      have HG1 := Lib.hid hg1
      have HG2 := Lib.hid hg2
      have HG3 := Lib.hid hg3
      have HG4 := Lib.hid hg4
      have HG5 := Lib.hid hg5
      obtain ⟨hs1, hd0, hd1, hd2, _⟩ := HT1.out
      clear hg1 hg2 hg3 hg4 hg5 hcap
      go_wp2_with (first | (go_at_call 83; refine (hgI_no (k : Int) (C : Int) _ (k * C) _ zr _ HG3.out (by omega) HCAP.out (by rw [chan_V HG4.out]; exact HOK.out)).mono ?_; rintro e w3 ⟨rfl, hb⟩; have HR := Lib.hid (HT0.out.below hb); have HG5 := Lib.hid (HG5.out.below HG2.out hb); have HG2 := Lib.hid (Nat.lt_of_lt_of_le HG2.out hb.size); have HB2 := Lib.hid (Below.next HW.out hb); obtain ⟨_, hd0, hd1, hd2, hf0, hf1, hf2⟩ := HR.out; have HP3 := Lib.hid (HR.out.put3 (.int .i64 0) (.int .i64 0) (.slice none 0 0)); clear hb) | go_in)
      obtain ⟨hr0, hr1, hr2⟩ := HP3.out
      exact bodyPost_ret (v := .tuple #[.agg #[.int .i64 0, .int .i64 0, .slice none 0 0], .bool false]) (by simp [results, Try.results69, go_sem, hr0, hr1, hr2]) rfl
        ⟨rfl, by repeat (first | exact HB2.out | refine Below.setCell ?_ (by first | (simp; done) | (simp; omega)) _)⟩
end Go.Proofs.Ytffamppflelflaa
