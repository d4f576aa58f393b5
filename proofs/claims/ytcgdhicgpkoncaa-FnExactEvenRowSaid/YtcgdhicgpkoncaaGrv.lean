/- GivenRow: plain facts and walks. -/
import Derived.Test.YtcgdhicgpkoncaaRpb
namespace Go.Proofs.Ytcgdhicgpkoncaa
open Go.Proofs.Ytcgdhicgpkoncaa.Flo Go.RowKit

/-- A quotient by zero is no number. -/
theorem quo_zero (x : Nat) {y : Nat} {s : Bool} {i : Int} (hy : (FloatKind.f32).decode y = .number s 0 i) : Bad (vop .quo .f32 (cls .f32 x) (cls .f32 y)) := by
  rw [vop_cls]
  show Bad ((((FloatKind.f32).decode x).quotient ((FloatKind.f32).format.fractionBits + 2) ((FloatKind.f32).decode y)).map (FloatKind.f32).format.write)
  rw [hy]
  cases (FloatKind.f32).decode x with
  | nan => exact .inl rfl
  | infinity t => exact .inr ⟨_, t ^^ s, rfl, by cases t <;> cases s <;> decide +kernel⟩
  | number t m j =>
    simp only [Ieee.Datum.quotient, if_true]
    by_cases h0 : m = 0
    · rw [if_pos h0]; exact .inl rfl
    · rw [if_neg h0]; exact .inr ⟨_, t ^^ s, rfl, by cases t <;> cases s <;> decide +kernel⟩
def aboveB (z : Nat) : Bool := finD ((FloatKind.f32).decode z) && (FloatKind.f32).format.order z 0 == some .gt
theorem not_above {y : Nat} (hp : PosD ((FloatKind.f32).decode y)) (hf : finD ((FloatKind.f32).decode y) = true) (ha : aboveB y = false) : ∃ s i, (FloatKind.f32).decode y = .number s 0 i := by
  unfold aboveB at ha
  rw [hf, Bool.true_and] at ha
  have e1 : (FloatKind.f32).format.order y 0 = ((FloatKind.f32).decode y).order (.number false 0 (-149)) := by rw [← dec_032]; rfl
  rw [e1] at ha
  cases hd : (FloatKind.f32).decode y with
  | nan => rw [hd] at hf; cases hf
  | infinity s => rw [hd] at hf; cases hf
  | number s m i =>
    rw [hd] at ha hp
    rw [order_0, posD_signed hp] at ha
    refine ⟨s, i, ?_⟩
    by_cases h0 : m = 0
    · rw [h0]
    · exfalso
      have hpos : 0 < m * 2 ^ (i - min i (-149)).toNat := Nat.mul_pos (by omega) (Nat.two_pow_pos _)
      generalize m * 2 ^ (i - min i (-149)).toNat = v at ha hpos
      have : compare ((v : Nat) : Int) 0 = .gt := by
        rw [Int.compare_eq_gt]; omega
      rw [this] at ha
      cases ha
theorem part_le {zs : List Nat} {n i c : Nat} (hc : chS zs n = true) (hin : i * c + c ≤ n) (hc8 : c ≤ 8) : ∀ k, k ≤ c → VLe .f32 (2 + k) (Flo.vsum (sub zs i c) k) := by
  intro k
  induction k with
  | zero => intro _; exact le_032.mono (by omega)
  | succ k ih =>
    intro hk
    have h1 := ih (by omega)
    have h2 : VLe .f32 1 (cls .f32 ((sub zs i c).getD k 0)) := by rw [sub_get zs i c (by omega)]; exact ch_le hc (by omega)
    exact (vadd_le h1 h2 ⟨by omega, by omega⟩).mono (by omega)
theorem ch_least {zs : List Nat} {n : Nat} (hc : chS zs n = true) {k : Nat} (hk : k < n) : leastB (zs.getD k 0) = true := by
  unfold chS at hc
  rw [Bool.and_eq_true] at hc
  exact of_decide_eq_true hc.1 k hk
theorem part_pos {zs : List Nat} {n i c : Nat} (hc : chS zs n = true) (hin : i * c + c ≤ n) : VPos .f32 (Flo.vsum (sub zs i c) c) :=
  vsum_pos c (fun k hk => by rw [sub_get zs i c hk]; exact ch_least hc (by omega))
/-- The sum of a part is a number that is not negative. -/
theorem part_num {zs : List Nat} {n i c : Nat} (hc : chS zs n = true) (hin : i * c + c ≤ n) (hc8 : c ≤ 8) : ∃ y, rowsV zs c i = some y ∧ cls .f32 y = some y ∧ PosD ((FloatKind.f32).decode y) ∧ finD ((FloatKind.f32).decode y) = true := by
  obtain ⟨y, hy, hp⟩ := part_pos hc hin
  have hle := part_le hc hin hc8 c (Nat.le_refl _)
  obtain ⟨y', hy', hl⟩ := hle
  have e : y' = y := by rw [hy] at hy'; injection hy' with h; exact h.symm
  subst e
  have hfin : finD ((FloatKind.f32).decode y') = true := by
    cases hd : (FloatKind.f32).decode y' with
    | number => rfl
    | infinity => rw [hd] at hl; exact hl.elim
    | nan => rw [hd] at hl; exact hl.elim
  refine ⟨y', hy, cls_of_not (by cases hd : (FloatKind.f32).decode y' with
    | number => rfl
    | infinity => rfl
    | nan => rw [hd] at hfin; cases hfin), hp, hfin⟩
/-- The chances of a row of a table. -/
def givV (zs : List Nat) (i c k : Nat) : Option Nat := vop .quo .f32 (cls .f32 ((sub zs i c).getD k 0)) (rowsV zs c i)
def okGR (r c : Int) (zs : List Nat) (n : Nat) (i : Int) : Bool := tabB r c zs n && (decide (0 ≤ i ∧ i < r) && rowV (givV zs i.toNat c.toNat) c.toNat)
theorem above_row {zs : List Nat} {i c y : Nat} (hy : rowsV zs c i = some y) (hcy : cls .f32 y = some y) (hp : PosD ((FloatKind.f32).decode y)) (hf : finD ((FloatKind.f32).decode y) = true) (hc : 0 < c) (hrow : rowV (givV zs i c) c = true) : aboveB y = true := by
  cases ha : aboveB y with
  | true => rfl
  | false =>
    obtain ⟨s, j, hd⟩ := not_above hp hf ha
    have hb : Bad (givV zs i c 0) := by
      unfold givV
      rw [hy, ← hcy]
      exact quo_zero _ hd
    have hV : ∃ z, cls .f32 z = givV zs i c 0 := by
      unfold givV
      rw [hy, ← hcy, vop_cls]
      cases h : floatBits .quo .f32 ((sub zs i c).getD 0 0) y with
      | none => exact ⟨nan32, cls_nan32q⟩
      | some b => exact ⟨b, cls_of_not (floatBits_notNaN h)⟩
    rw [rowV_bad hc hV hb] at hrow
    cases hrow
theorem row_cell {w : World} {b o n : Nat} {zs : List Nat} (h : FRow w (some ⟨b, o, none⟩) n zs) {k : Nat} (hk : k < n) : w.cell? ⟨b, o + k, none⟩ = some (.float .f32 (zs.getD k 0)) := by
  rcases h.2 with h0 | ⟨b1, o1, e, _, hc⟩
  · omega
  · injection e with e
    injection e with e1 e2
    subst e1; subst e2
    exact hc k hk
set_option maxHeartbeats 1000000 in
theorem above_spec (x : Nat) (w : World) : Calls Try.prog 66 #[.float .f32 x] w fun e w' => e = .returned (.bool (aboveB x)) ∧ Drew w w' := by
  cases hf : finD ((FloatKind.f32).decode x) with
  | false =>
    have HR : Hid (aboveB x = false) := Lib.hid (by unfold aboveB; rw [hf]; rfl)
    go_enter Try.func66, Try.ntmps66
    go_wp2_with (first | (go_at_call 97; refine (finite_spec x _).mono ?_; rintro e w2 ⟨rfl, q, rfl⟩) | go_in)
    go_ret
    exact ⟨ret_bool2 HR.out.symm, Drew.mk _ _⟩
  | true =>
    have HR : Hid (aboveB x = ((FloatKind.f32).format.order x 0 == some .gt)) := Lib.hid (by unfold aboveB; rw [hf]; rfl)
    go_enter Try.func66, Try.ntmps66
    go_wp2_with (first | (go_at_call 97; refine (finite_spec x _).mono ?_; rintro e w2 ⟨rfl, q, rfl⟩) | go_in)
    go_ret
    exact ⟨ret_bool2 HR.out.symm, Drew.mk _ _⟩
set_option maxRecDepth 100000 in
set_option maxHeartbeats 4000000 in
theorem given_spec (p b off R C n i : Nat) (zs : List Nat) (w : World) (ht : Tab w p R C (some ⟨b, off, none⟩) n n)
    (ha : FRow w (some ⟨b, off, none⟩) n zs) (hle : i * C + C ≤ n) (hC : 1 ≤ C) (hn64 : n ≤ 64) :
    Calls Try.prog 79 #[.pointer (some ⟨p, 0, none⟩), .int .i64 (i : Int)] w fun e w' => ∃ v, e = .returned v ∧ Got w' w.heap.size 23 v C (givV zs i C) ∧ Below w.heap.size w w' := by
  obtain ⟨i0, hi, hz0, hz1, hz2⟩ := info_parts Try.info32
  have HA := Lib.hid ha
  have HT := Lib.hid ht
  have HP := Lib.hid (ha.part hle hC)
  have hC64 : C ≤ 64 := by omega
  clear ha ht
  go_enter Try.func79, Try.ntmps79
  go_wp2_with (first | (go_at_call 78; (refine (at_spec p b off n C i (i * C) (i * C + C) _ ((HT.out.below (below_alloc _ _)).2.2.1) ((HT.out.below (below_alloc _ _)).2.2.2) rfl rfl hle hC hn64).mono ?_); rintro e w' ⟨rfl, q1, rfl⟩) | (go_at_call 77; (refine (sumOf_spec _ C _ (sub zs i C) _ ((HP.out.below (below_alloc _ _)).drewN _) (by omega)).mono ?_); rintro e w' ⟨y, rfl, hv, q2, rfl⟩; have HV := Lib.hid hv; clear hv) | go_in)
  go_loopw [5, 8] (fun v0 iv wr0 => ∃ (k : Nat) (v : Value) (wr : World), k ≤ C ∧ v = v0 ∧ iv = .int .i64 k ∧ wr = wr0 ∧ Hid (Got wr w.heap.size 23 v k (givV zs i C)) ∧ Hid (Below w.heap.size w wr)) (fun _ iv _ => C - (intOf iv).toNat)
  case atStart => exact ⟨0, _, _, by omega, rfl, rfl, rfl, Lib.hid ((Got.empty w 23 (givV zs i C)).drewN _), Lib.hid (Below.drewN' (below_alloc _ _) _)⟩
  case round =>
    obtain ⟨k, v, wr, hk, rfl, rfl, rfl, HO, HW⟩ := hrel
    by_cases hlt : k < C
    · have hck := row_cell (HP.out.below HW.out) hlt
      have HVk : ∀ W, Hid (cls .f32 (fres .quo .f32 ((sub zs i C).getD k 0) y W) = givV zs i C k) := fun W => Lib.hid (by rw [fres_cls, HV.out]; rfl)
      generalize (sub zs i C).getD k 0 = x at hck HVk
      obtain ⟨zs0, hz, ho⟩ := HO.out
      have HZ := Lib.hid hz
      have HO1 := Lib.hid ho
      have HNE := Lib.hid (own_block ho)
      have HB := Lib.hid HW.out.size
      clear hz ho
      go_wp2_with (first | (at_builtin; refine wpList_append_lies _ rfl _ _ 22 rfl w.heap.size 23 i0 (.float .f32 0) 1 4 Try.underlying22 hi hz0 hz1 hz2 rfl (by omega) v k (zs0.map (Value.float .f32)) rfl (World.ownsRow.alloc HO1.out _) ⟨wr.heap.size, 0, none⟩ 1 1 [.float .f32 (fres .quo .f32 x y _)] rfl rfl (World.news_of_block (cs := #[.float .f32 (fres .quo .f32 x y _)]) (t := 23) (fr := (0, 0)) (heap_alloc_new _ _)) (by simp [Value.oneCell']) (by omega) (by unfold maxLen; omega) (by omega) (by have := HB.out; simp; omega) (wr.heap.size + 1) (by simp) ?_; intro gg cp w1 hown1 hgrow hat hlt2; have HO2 := Lib.hid hown1; have HG := Lib.hid hgrow; clear hown1 hgrow hat hlt2) | go_in)
      exact ⟨⟨k + 1, _, _, by omega, rfl, by first | rfl | go_num | (congr 1), rfl, Lib.hid (Got.step HZ.out (Got.len HO1.out) (HVk _).out HO2.out), Lib.hid (Below.grown (Below.alloc (Below.drewN' HW.out _) HW.out.size _) HG.out (by have := HB.out; simp; omega) HNE.out)⟩, by show C - ((k : Int) + 1).toNat < C - (k : Int).toNat; omega⟩
    · obtain rfl : k = C := by omega
      go_wp2
      go_ret
      exact ⟨_, rfl, HO.out, HW.out⟩
end Go.Proofs.Ytcgdhicgpkoncaa
