/- FlipChannel, LoseChannel, NextChannel: the functions of the model. -/
import Derived.Test.YtffamppflelflaaFcv
namespace Go.Proofs.Ytffamppflelflaa
open Go.Proofs.Ytffamppflelflaa.Flo Go.RowKit

theorem Ent.ok.put {w : World} {p n k z : Nat} {V : Nat → Option Nat} (h : Ent.ok w p (.cl n V)) (hk : k < n) : Ent.ok (w.setCell ⟨p, k, none⟩ (.float .f32 z)) p (.cl n (fun j => if j = k then cls .f32 z else V j)) := by
  obtain ⟨zs, hv, hl, hc⟩ := h
  have hl : zs.length = n := hl
  refine ⟨zs.set k z, fun i hi => ?_, by show (zs.set k z).length = n; rw [List.length_set]; exact hl, fun i hi => ⟨?_, ?_⟩⟩
  · show cls .f32 _ = if i = k then _ else _
    by_cases e : i = k
    · subst e
      rw [List.getD_eq_getElem?_getD, List.getElem?_set_self (by omega), if_pos rfl]; rfl
    · rw [List.getD_eq_getElem?_getD, List.getElem?_set_ne (fun e2 => e e2.symm), ← List.getD_eq_getElem?_getD, if_neg e]; exact hv i hi
  · have hi : i < n := hi
    show _ = some (Value.float .f32 ((zs.set k z).getD i 0))
    by_cases e : i = k
    · subst e
      rw [World.cell?_setCell_same (h := (hc i hi).1), List.getD_eq_getElem?_getD, List.getElem?_set_self (by omega)]; rfl
    · rw [World.cell?_setCell_other (h := fun e2 => e (by injection e2 with _ e3 _; exact e3.symm)), (hc i hi).1, List.getD_eq_getElem?_getD, List.getElem?_set_ne (fun e2 => e e2.symm), ← List.getD_eq_getElem?_getD]; rfl
  · rw [World.frozen?_setCell]; exact (hc i hi).2
theorem Ent.ok.cl_eq {w : World} {p n : Nat} {V V' : Nat → Option Nat} (h : Ent.ok w p (.cl n V)) (e : ∀ j, j < n → V j = V' j) : Ent.ok w p (.cl n V') := by
  obtain ⟨zs, hv, hc⟩ := h
  exact ⟨zs, fun i hi => (hv i hi).trans (e i hi), hc⟩
theorem Ent.ok.cl_cell {w : World} {p n k : Nat} {V : Nat → Option Nat} (h : Ent.ok w p (.cl n V)) (hk : k < n) : ∃ z, w.cell? ⟨p, k, none⟩ = some (.float .f32 z) ∧ w.frozen? ⟨p, k, none⟩ = false := by
  obtain ⟨zs, _, _, hc⟩ := h
  exact ⟨_, (hc k hk).1, (hc k hk).2⟩
theorem made_fl (n : Nat) : madeCells #[Value.float .f32 0] n = fl (List.replicate n 0) := by
  rw [made_eq]; unfold fl; simp
theorem Ent.ok.drewN {w : World} {p : Nat} {e : Ent} (h : Ent.ok w p e) (q : Nat) : Ent.ok (w.drewN q) p e := h.same fun _ => ⟨rfl, rfl⟩
theorem Ent.ok.drew {w : World} {p : Nat} {e : Ent} (h : Ent.ok w p e) : Ent.ok w.drew p e := h.same fun _ => ⟨rfl, rfl⟩
theorem Tin.drew {w : World} {p : Nat} {r c : Int} {v : Value} (h : Tin w p r c v) : Tin w.drew p r c v := h
/-- What has been laid when so many rows are. -/
def partV (V : Nat → Option Nat) (C i j : Nat) : Option Nat := if j / C < i then V j else cls .f32 0
theorem part_new (w : World) (V : Nat → Option Nat) (C n : Nat) (T : TypeId) : Ent.ok (w.alloc (.cells (madeCells #[Value.float .f32 0] n) T)) w.heap.size (.cl n (partV V C 0)) := by
  rw [made_fl]
  refine ⟨List.replicate n 0, fun i hi => ?_, Ent.fl_ok (FRow.new (by simp) _) (fun j _ => World.frozen?_alloc_at _ _ _ _ rfl)⟩
  unfold partV
  rw [if_neg (Nat.not_lt_zero _)]
  simp [List.getD_eq_getElem?_getD, hi]
theorem part_step {V : Nat → Option Nat} {C i r1 r2 : Nat} {v1 v2 : Option Nat} (hC : 0 < C) (h1 : r1 < C) (h2 : r2 < C)
    (hV : ∀ r, r < C → V (i * C + r) = if r = r2 then v2 else if r = r1 then v1 else cls .f32 0) (j : Nat) :
    (if j = i * C + r2 then v2 else if j = i * C + r1 then v1 else partV V C i j) = partV V C (i + 1) j := by
  by_cases hj : j / C = i
  · have hjm : j = i * C + j % C := by rw [← hj, Nat.mul_comm]; exact (Nat.div_add_mod j C).symm
    have hr := Nat.mod_lt j hC
    have e1 : partV V C (i + 1) j = V (i * C + j % C) := by unfold partV; rw [if_pos (by omega), ← hjm]
    have e2 : partV V C i j = cls .f32 0 := by unfold partV; rw [if_neg (by omega)]
    rw [e1, e2, hV _ hr]
    generalize j % C = r at hjm hr
    generalize i * C = a at hjm
    subst hjm
    have c2 : (a + r = a + r2) = (r = r2) := propext ⟨fun h => by omega, fun h => by omega⟩
    have c1 : (a + r = a + r1) = (r = r1) := propext ⟨fun h => by omega, fun h => by omega⟩
    simp only [c1, c2]
  · rw [if_neg (fun e => hj (by rw [e]; exact (at_div h2).1)), if_neg (fun e => hj (by rw [e]; exact (at_div h1).1))]
    unfold partV
    by_cases hl : j / C < i
    · rw [if_pos hl, if_pos (by omega)]
    · rw [if_neg hl, if_neg (by omega)]
theorem lose_part (x L i j : Nat) (hi : i < L) : (if j = i * (L + 1) + L then cls .f32 x else if j = i * (L + 1) + i then keepV x else partV (loseV x L) (L + 1) i j) = partV (loseV x L) (L + 1) (i + 1) j :=
  part_step (by omega) (by omega) (by omega) (fun r hr => by
    rw [lose_at _ _ _ _ hr]
    by_cases h1 : r = i
    · rw [if_pos h1, if_neg (by omega), if_pos h1]
    · rw [if_neg h1]
      by_cases h2 : r = L
      · rw [if_pos h2, if_pos h2]
      · rw [if_neg h2, if_neg h2, if_neg h1]) j
theorem next_ne {i L : Nat} (hi : i < L) (hL : 2 ≤ L) : (i + 1) % L ≠ i := by
  by_cases h : i + 1 = L
  · rw [h, Nat.mod_self]; omega
  · rw [Nat.mod_eq_of_lt (by omega)]; omega
theorem next_part (x L i j : Nat) (hi : i < L) (hL : 2 ≤ L) : (if j = i * L + (i + 1) % L then cls .f32 x else if j = i * L + i then keepV x else partV (nextV x L) L i j) = partV (nextV x L) L (i + 1) j :=
  part_step (by omega) (by omega) (Nat.mod_lt _ (by omega)) (fun r hr => by
    have hne := next_ne hi hL
    rw [next_at _ _ _ _ hr]
    by_cases h1 : r = i
    · rw [if_pos h1, if_neg (fun e => hne (by omega)), if_pos h1]
    · rw [if_neg h1]
      by_cases h2 : r = (i + 1) % L
      · rw [if_pos h2, if_pos h2]
      · rw [if_neg h2, if_neg h2, if_neg h1]) j
set_option maxRecDepth 100000 in
set_option maxHeartbeats 8000000 in
theorem fcS_FlipChannel_yes (l : Int) (x : Nat) (w : World) (hok : okFlip l x = true) :
    Calls Try.prog 22 #[.int .i64 l, .float .f32 x] w fun e w' => ∃ g cp, e = .returned (.tuple #[.agg #[.int .i64 l, .int .i64 (l), .slice (some ⟨g, 0, none⟩) (l.toNat * l.toNat) cp], .bool true]) ∧ New w w' g (.cl (l.toNat * l.toNat) (flipV x l.toNat)) := by
  unfold okFlip at hok
  obtain ⟨i0, hi, hz0, hz1, hz2⟩ := info_parts Try.info32
  rw [Bool.and_eq_true, Bool.and_eq_true] at hok
  obtain ⟨h1, h2, h3⟩ := hok
  have h1 := of_decide_eq_true h1
  obtain ⟨L, rfl⟩ : ∃ L : Nat, l = L := ⟨l.toNat, by omega⟩
  have HOK : Hid (chanVB (flipV x L) L L = true) := Lib.hid h3
  obtain ⟨hla, hlb⟩ := h1
  clear h3
  have hLL : L * L ≤ 64 := Nat.le_trans (Nat.mul_le_mul (by omega : L ≤ 8) (by omega : L ≤ 8)) (by decide)
  go_enter Try.func22, Try.ntmps22
  go_wp2_with (first | (go_at_call 65; refine (in_true (L : Int) 2 8 _ (by omega) (by omega)).mono ?_; rintro e w' ⟨rfl, rfl⟩) | (go_at_call 66; refine (shH_spec x _).mono ?_; rintro e w' ⟨rfl, rfl⟩) | go_in)
  go_loopw [7] (fun kv w' => ∃ (k : Nat) (v : Value) (wr : World), k ≤ L ∧ kv = .int .i64 k ∧ wr = w' ∧ Hid (Tin wr w.heap.size 0 0 (.slice none 0 0)) ∧ Hid (Tin wr (w.heap.size + 1) L L v) ∧ Hid (Got wr (w.heap.size + 2) 32 v (k * L) (flipV x L)) ∧ Hid (Below w.heap.size w wr)) (fun kv _ => L - (intOf kv).toNat)
  case atStart => exact ⟨0, _, _, by omega, rfl, rfl, Lib.hid (Tin.below (Tin.new (T := 27)) (by repeat (first | exact Below.refl _ _ | refine Below.drew ?_ | refine Below.drewN' ?_ _ | refine Below.alloc ?_ (by first | (simp; done) | (simp; omega)) _ | refine Below.setCell ?_ (by first | (simp; done) | (simp; omega)) _))), Lib.hid (Tin.below (Tin.new' (w := w.alloc (.cells #[.int .i64 0, .int .i64 0, .slice none 0 0] 27)) (T := 27) (by simp)) (by repeat (first | exact Below.refl _ _ | refine Below.drew ?_ | refine Below.drewN' ?_ _ | refine Below.alloc ?_ (by first | (simp; done) | (simp; omega)) _ | refine Below.setCell ?_ (by first | (simp; done) | (simp; omega)) _))), Lib.hid (by rw [Nat.zero_mul]; exact Got.nil _ _ _ _), Lib.hid (by repeat (first | exact Below.refl _ _ | refine Below.drew ?_ | refine Below.drewN' ?_ _ | refine Below.alloc ?_ (by first | (simp; done) | (simp; omega)) _ | refine Below.setCell ?_ (by first | (simp; done) | (simp; omega)) _))⟩
  case round =>
    obtain ⟨k, v0, wr0, hk, rfl, rfl, HT0, HT1, HO, HW⟩ := hrel
    by_cases hlt : k < L
    · go_wp2
      go_loopw [8] (fun iv w' => ∃ (i : Nat) (v : Value) (wr : World), i ≤ L ∧ iv = .int .i64 i ∧ wr = w' ∧ Hid (Tin wr w.heap.size 0 0 (.slice none 0 0)) ∧ Hid (Tin wr (w.heap.size + 1) L L v) ∧ Hid (Got wr (w.heap.size + 2) 32 v (k * L + i) (flipV x L)) ∧ Hid (Below w.heap.size w wr)) (fun iv _ => L - (intOf iv).toNat)
      case atStart => exact ⟨0, v0, _, by omega, rfl, rfl, HT0, HT1, HO, HW⟩
      case round =>
        clear HT0 HT1 HO HW
        obtain ⟨i, v, wr, hi2, rfl, rfl, HT0, HT1, HO, HW⟩ := hrel
        by_cases hlt2 : i < L
        · obtain ⟨K, hK⟩ : ∃ K, K = k * L + i := ⟨_, rfl⟩
          have hkr : K + 1 ≤ 64 := by
            have := mul_in (n := L * L) rfl hlt hlt2
            omega
          rw [← hK] at HO
          have HK := Lib.hid hK
          obtain ⟨hP, hp0, hp1, hp2, _, _, hpf⟩ := HT1.out
          have hsz := HW.out.size
          obtain ⟨zs0, hzz, ho⟩ := HO.out
          have HZ := Lib.hid hzz
          have HO1 := Lib.hid ho
          have HNE := Lib.hid (own_block ho)
          have hn3 : some (w.heap.size + 1) ≠ v.ownBlock := by intro e; have := own_block ho _ e.symm; omega
          have hn4 : some w.heap.size ≠ v.ownBlock := by intro e; have := own_block ho _ e.symm; omega
          clear hK ho hzz
          by_cases hik : k = i
          · have he : ((k : Int) == (i : Int)) = true := by simp; omega
            have HV : ∀ W, Hid (cls .f32 (fres .sub .f32 1065353216 x W) = flipV x L K) := fun W => Lib.hid (by rw [keep_cls, HK.out, flip_at _ _ _ _ hlt2, if_pos hik])
            clear hik
            go_wp2_with (first | (at_builtin; refine wpList_append_lies _ rfl _ _ 22 rfl (w.heap.size + 2) 32 i0 (.float .f32 0) 1 4 Try.underlying22 hi hz0 hz1 hz2 rfl (by omega) v K (zs0.map (Value.float .f32)) (by rfl) (World.ownsRow.alloc HO1.out _) ⟨wr.heap.size, 0, none⟩ 1 1 [.float .f32 (fres .sub .f32 1065353216 x _)] (by rfl) (by rfl) (World.news_of_block (cs := #[.float .f32 (fres .sub .f32 1065353216 x _)]) (t := 32) (fr := (0, 0)) (heap_alloc_new _ _)) (by simp [Value.oneCell']) (by omega) (by unfold maxLen; omega) (by omega) (by simp; omega) (wr.heap.size + 1) (by simp) ?_; intro gg cp w1 hown1 hgrow hat hlt3; have hT1 : Tin w1 (w.heap.size + 1) L L v := Tin.grown hgrow hn3 (HT1.out.below (by repeat (first | exact Below.refl _ _ | refine Below.drew ?_ | refine Below.drewN' ?_ _ | refine Below.alloc ?_ (by first | (simp; done) | (simp; omega)) _ | refine Below.setCell ?_ (by first | (simp; done) | (simp; omega)) _))); have HT1' := Lib.hid hT1; obtain ⟨hg0, hg1, hg2, hg3, _, _, hg4⟩ := hT1) | go_in)
            all_goals
              exact ⟨⟨i + 1, _, _, by omega, by first | rfl | go_num | (congr 1), rfl, Lib.hid (Tin.below (Tin.far (a := ⟨w.heap.size + 1, 2, none⟩) (Tin.grown hgrow hn4 (HT0.out.below (by repeat (first | exact Below.refl _ _ | refine Below.drew ?_ | refine Below.drewN' ?_ _ | refine Below.alloc ?_ (by first | (simp; done) | (simp; omega)) _ | refine Below.setCell ?_ (by first | (simp; done) | (simp; omega)) _)))) (by simp) _) (by repeat (first | exact Below.refl _ _ | refine Below.drew ?_ | refine Below.drewN' ?_ _ | refine Below.alloc ?_ (by first | (simp; done) | (simp; omega)) _ | refine Below.setCell ?_ (by first | (simp; done) | (simp; omega)) _))), Lib.hid (Tin.below (Tin.set HT1'.out _) (by repeat (first | exact Below.refl _ _ | refine Below.drew ?_ | refine Below.drewN' ?_ _ | refine Below.alloc ?_ (by first | (simp; done) | (simp; omega)) _ | refine Below.setCell ?_ (by first | (simp; done) | (simp; omega)) _))), Lib.hid (by rw [show k * L + (i + 1) = K + 1 by have := HK.out; omega]; exact Got.keep (Got.setCell (Got.step HZ.out (Got.len HO1.out) (HV _).out hown1) ⟨w.heap.size + 1, 2, none⟩ _ (by simp)) (by repeat (first | exact Below.refl _ _ | refine Below.drew ?_ | refine Below.drewN' ?_ _ | refine Below.alloc ?_ (by first | (simp; done) | (simp; omega)) _ | refine Below.setCell ?_ (by first | (simp; done) | (simp; omega)) _))), Lib.hid (by repeat (first | exact HW.out | refine Below.drew ?_ | refine Below.drewN' ?_ _ | refine Below.setCell ?_ (by first | (simp; done) | (simp; omega)) _ | refine Below.alloc ?_ (by first | omega | (simp; omega)) _ | refine Below.grown ?_ hgrow (by first | omega | (simp; omega)) (fun j hj => Nat.le_trans (by omega) (HNE.out j hj))))⟩, by show L - ((i : Int) + 1).toNat < L - (i : Int).toNat; omega⟩
          · have he : ((k : Int) == (i : Int)) = false := by simp; omega
            have HV : ∀ W, Hid (cls .f32 (fres .quo .f32 x (floatOfInt .f32 ((L : Int) - 1)) W) = flipV x L K) := fun W => Lib.hid (by rw [fres_cls, HK.out, flip_at _ _ _ _ hlt2, if_neg hik])
            clear hik
            go_wp2_with (first | (at_builtin; refine wpList_append_lies _ rfl _ _ 22 rfl (w.heap.size + 2) 32 i0 (.float .f32 0) 1 4 Try.underlying22 hi hz0 hz1 hz2 rfl (by omega) v K (zs0.map (Value.float .f32)) (by rfl) (World.ownsRow.alloc HO1.out _) ⟨wr.heap.size, 0, none⟩ 1 1 [.float .f32 (fres .quo .f32 x (floatOfInt .f32 ((L : Int) - 1)) _)] (by rfl) (by rfl) (World.news_of_block (cs := #[.float .f32 (fres .quo .f32 x (floatOfInt .f32 ((L : Int) - 1)) _)]) (t := 32) (fr := (0, 0)) (heap_alloc_new _ _)) (by simp [Value.oneCell']) (by omega) (by unfold maxLen; omega) (by omega) (by simp; omega) (wr.heap.size + 1) (by simp) ?_; intro gg cp w1 hown1 hgrow hat hlt3; have hT1 : Tin w1 (w.heap.size + 1) L L v := Tin.grown hgrow hn3 (HT1.out.below (by repeat (first | exact Below.refl _ _ | refine Below.drew ?_ | refine Below.drewN' ?_ _ | refine Below.alloc ?_ (by first | (simp; done) | (simp; omega)) _ | refine Below.setCell ?_ (by first | (simp; done) | (simp; omega)) _))); have HT1' := Lib.hid hT1; obtain ⟨hg0, hg1, hg2, hg3, _, _, hg4⟩ := hT1) | go_in)
            all_goals
              exact ⟨⟨i + 1, _, _, by omega, by first | rfl | go_num | (congr 1), rfl, Lib.hid (Tin.below (Tin.far (a := ⟨w.heap.size + 1, 2, none⟩) (Tin.grown hgrow hn4 (HT0.out.below (by repeat (first | exact Below.refl _ _ | refine Below.drew ?_ | refine Below.drewN' ?_ _ | refine Below.alloc ?_ (by first | (simp; done) | (simp; omega)) _ | refine Below.setCell ?_ (by first | (simp; done) | (simp; omega)) _)))) (by simp) _) (by repeat (first | exact Below.refl _ _ | refine Below.drew ?_ | refine Below.drewN' ?_ _ | refine Below.alloc ?_ (by first | (simp; done) | (simp; omega)) _ | refine Below.setCell ?_ (by first | (simp; done) | (simp; omega)) _))), Lib.hid (Tin.below (Tin.set HT1'.out _) (by repeat (first | exact Below.refl _ _ | refine Below.drew ?_ | refine Below.drewN' ?_ _ | refine Below.alloc ?_ (by first | (simp; done) | (simp; omega)) _ | refine Below.setCell ?_ (by first | (simp; done) | (simp; omega)) _))), Lib.hid (by rw [show k * L + (i + 1) = K + 1 by have := HK.out; omega]; exact Got.keep (Got.setCell (Got.step HZ.out (Got.len HO1.out) (HV _).out hown1) ⟨w.heap.size + 1, 2, none⟩ _ (by simp)) (by repeat (first | exact Below.refl _ _ | refine Below.drew ?_ | refine Below.drewN' ?_ _ | refine Below.alloc ?_ (by first | (simp; done) | (simp; omega)) _ | refine Below.setCell ?_ (by first | (simp; done) | (simp; omega)) _))), Lib.hid (by repeat (first | exact HW.out | refine Below.drew ?_ | refine Below.drewN' ?_ _ | refine Below.setCell ?_ (by first | (simp; done) | (simp; omega)) _ | refine Below.alloc ?_ (by first | omega | (simp; omega)) _ | refine Below.grown ?_ hgrow (by first | omega | (simp; omega)) (fun j hj => Nat.le_trans (by omega) (HNE.out j hj))))⟩, by show L - ((i : Int) + 1).toNat < L - (i : Int).toNat; omega⟩
        · obtain rfl : i = L := by omega
          go_wp2
          refine ⟨⟨k + 1, v, _, by omega, by first | rfl | go_num | (congr 1), rfl, HT0, HT1, Lib.hid (by rw [Nat.succ_mul]; exact HO.out), HW⟩, by show i - ((k : Int) + 1).toNat < i - (k : Int).toNat; omega⟩
    · obtain rfl : k = L := by omega
      have hkR : 0 < k * k := Nat.mul_pos (by omega) (by omega)
      obtain ⟨g, cp, rfl, hcap⟩ := HO.out.form hkR
      obtain ⟨zr, hg1, hg2, hg3, hg4, hg5⟩ := Got.fin'' HO.out (by omega)
      have HCAP := Lib.hid hcap
      have HG1 := Lib.hid hg1
      have HG2 := Lib.hid hg2
      have HG3 := Lib.hid hg3
      have HG4 := Lib.hid hg4
      have HG5 := Lib.hid hg5
      obtain ⟨hs1, hd0, hd1, hd2, _⟩ := HT1.out
      clear hg1 hg2 hg3 hg4 hg5 hcap
      go_wp2_with (first | (go_at_call 67; refine (hgS_yes (k : Int) (k : Nat) _ (k * k) _ zr _ HG3.out (by omega) HCAP.out (by rw [chan_V HG4.out]; exact HOK.out)).mono ?_; rintro e w3 ⟨rfl, hb⟩; have HR := Lib.hid (HT0.out.below hb); have HG5 := Lib.hid (HG5.out.below HG2.out hb); have HG2 := Lib.hid (Nat.lt_of_lt_of_le HG2.out hb.size); have HB2 := Lib.hid (Below.next HW.out hb); obtain ⟨_, hd0, hd1, hd2, hf0, hf1, hf2⟩ := HR.out; have HP3 := Lib.hid (HR.out.put3 (.int .i64 (k : Int)) (.int .i64 (k : Int)) (.slice (some ⟨g, 0, none⟩) (k * k) cp)); clear hb) | go_in)
      obtain ⟨hr0, hr1, hr2⟩ := HP3.out
      have hgne : w.heap.size ≠ g := by have := HG1.out; omega
      exact bodyPost_ret (v := .tuple #[.agg #[.int .i64 (k : Int), .int .i64 (k : Int), .slice (some ⟨g, 0, none⟩) (k * k) cp], .bool true]) (by simp [results, Try.results22, go_sem, hr0, hr1, hr2]) rfl
        ⟨g, cp, rfl, by have := HG1.out; omega, by simpa using HG2.out, Ent.ok.set (Ent.ok.set (Ent.ok.set HG5.out hgne _) hgne _) hgne _, by repeat (first | exact HB2.out | refine Below.setCell ?_ (by first | (simp; done) | (simp; omega)) _)⟩
set_option maxRecDepth 100000 in
set_option maxHeartbeats 8000000 in
theorem fcS_FlipChannel_no (l : Int) (x : Nat) (w : World) (hok : okFlip l x = false) :
    Calls Try.prog 22 #[.int .i64 l, .float .f32 x] w fun e w' => e = .returned (.tuple #[.agg #[.int .i64 0, .int .i64 0, .slice none 0 0], .bool false]) ∧ Below w.heap.size w w' := by
  unfold okFlip at hok
  obtain ⟨i0, hi, hz0, hz1, hz2⟩ := info_parts Try.info32
  skip
  by_cases h1 : 2 ≤ l ∧ l ≤ 8
  · obtain ⟨L, rfl⟩ : ∃ L : Nat, l = L := ⟨l.toNat, by omega⟩
    cases h2 : shareH x with
    | false =>
      clear hok
      obtain ⟨hla, hlb⟩ := h1
      go_enter Try.func22, Try.ntmps22
      go_wp2_with (first | (go_at_call 65; refine (in_true (L : Int) 2 8 _ (by omega) (by omega)).mono ?_; rintro e w' ⟨rfl, rfl⟩) | (go_at_call 66; refine (shH_spec x _).mono ?_; rintro e w' ⟨rfl, rfl⟩) | go_in)
      exact bodyPost_ret (v := .tuple #[.agg #[.int .i64 0, .int .i64 0, .slice none 0 0], .bool false]) (by simp [results, Try.results22, go_sem]) rfl
        ⟨rfl, (by repeat (first | exact Below.refl _ _ | refine Below.drew ?_ | refine Below.drewN' ?_ _ | refine Below.alloc ?_ (by first | (simp; done) | (simp; omega)) _ | refine Below.setCell ?_ (by first | (simp; done) | (simp; omega)) _))⟩
    | true =>
      have h3 : chanVB (flipV x L) L L = false := by rw [decide_eq_true h1, h2] at hok; exact hok
      have HOK := Lib.hid h3
      obtain ⟨hla, hlb⟩ := h1
      clear hok h3
      have hLL : L * L ≤ 64 := Nat.le_trans (Nat.mul_le_mul (by omega : L ≤ 8) (by omega : L ≤ 8)) (by decide)
      go_enter Try.func22, Try.ntmps22
      go_wp2_with (first | (go_at_call 65; refine (in_true (L : Int) 2 8 _ (by omega) (by omega)).mono ?_; rintro e w' ⟨rfl, rfl⟩) | (go_at_call 66; refine (shH_spec x _).mono ?_; rintro e w' ⟨rfl, rfl⟩) | go_in)
      go_loopw [7] (fun kv w' => ∃ (k : Nat) (v : Value) (wr : World), k ≤ L ∧ kv = .int .i64 k ∧ wr = w' ∧ Hid (Tin wr w.heap.size 0 0 (.slice none 0 0)) ∧ Hid (Tin wr (w.heap.size + 1) L L v) ∧ Hid (Got wr (w.heap.size + 2) 32 v (k * L) (flipV x L)) ∧ Hid (Below w.heap.size w wr)) (fun kv _ => L - (intOf kv).toNat)
      case atStart => exact ⟨0, _, _, by omega, rfl, rfl, Lib.hid (Tin.below (Tin.new (T := 27)) (by repeat (first | exact Below.refl _ _ | refine Below.drew ?_ | refine Below.drewN' ?_ _ | refine Below.alloc ?_ (by first | (simp; done) | (simp; omega)) _ | refine Below.setCell ?_ (by first | (simp; done) | (simp; omega)) _))), Lib.hid (Tin.below (Tin.new' (w := w.alloc (.cells #[.int .i64 0, .int .i64 0, .slice none 0 0] 27)) (T := 27) (by simp)) (by repeat (first | exact Below.refl _ _ | refine Below.drew ?_ | refine Below.drewN' ?_ _ | refine Below.alloc ?_ (by first | (simp; done) | (simp; omega)) _ | refine Below.setCell ?_ (by first | (simp; done) | (simp; omega)) _))), Lib.hid (by rw [Nat.zero_mul]; exact Got.nil _ _ _ _), Lib.hid (by repeat (first | exact Below.refl _ _ | refine Below.drew ?_ | refine Below.drewN' ?_ _ | refine Below.alloc ?_ (by first | (simp; done) | (simp; omega)) _ | refine Below.setCell ?_ (by first | (simp; done) | (simp; omega)) _))⟩
      case round =>
        obtain ⟨k, v0, wr0, hk, rfl, rfl, HT0, HT1, HO, HW⟩ := hrel
        by_cases hlt : k < L
        · go_wp2
          go_loopw [8] (fun iv w' => ∃ (i : Nat) (v : Value) (wr : World), i ≤ L ∧ iv = .int .i64 i ∧ wr = w' ∧ Hid (Tin wr w.heap.size 0 0 (.slice none 0 0)) ∧ Hid (Tin wr (w.heap.size + 1) L L v) ∧ Hid (Got wr (w.heap.size + 2) 32 v (k * L + i) (flipV x L)) ∧ Hid (Below w.heap.size w wr)) (fun iv _ => L - (intOf iv).toNat)
          case atStart => exact ⟨0, v0, _, by omega, rfl, rfl, HT0, HT1, HO, HW⟩
          case round =>
            clear HT0 HT1 HO HW
            obtain ⟨i, v, wr, hi2, rfl, rfl, HT0, HT1, HO, HW⟩ := hrel
            by_cases hlt2 : i < L
            · obtain ⟨K, hK⟩ : ∃ K, K = k * L + i := ⟨_, rfl⟩
              have hkr : K + 1 ≤ 64 := by
                have := mul_in (n := L * L) rfl hlt hlt2
                omega
              rw [← hK] at HO
              have HK := Lib.hid hK
              obtain ⟨hP, hp0, hp1, hp2, _, _, hpf⟩ := HT1.out
              have hsz := HW.out.size
              obtain ⟨zs0, hzz, ho⟩ := HO.out
              have HZ := Lib.hid hzz
              have HO1 := Lib.hid ho
              have HNE := Lib.hid (own_block ho)
              have hn3 : some (w.heap.size + 1) ≠ v.ownBlock := by intro e; have := own_block ho _ e.symm; omega
              have hn4 : some w.heap.size ≠ v.ownBlock := by intro e; have := own_block ho _ e.symm; omega
              clear hK ho hzz
              by_cases hik : k = i
              · have he : ((k : Int) == (i : Int)) = true := by simp; omega
                have HV : ∀ W, Hid (cls .f32 (fres .sub .f32 1065353216 x W) = flipV x L K) := fun W => Lib.hid (by rw [keep_cls, HK.out, flip_at _ _ _ _ hlt2, if_pos hik])
                clear hik
                go_wp2_with (first | (at_builtin; refine wpList_append_lies _ rfl _ _ 22 rfl (w.heap.size + 2) 32 i0 (.float .f32 0) 1 4 Try.underlying22 hi hz0 hz1 hz2 rfl (by omega) v K (zs0.map (Value.float .f32)) (by rfl) (World.ownsRow.alloc HO1.out _) ⟨wr.heap.size, 0, none⟩ 1 1 [.float .f32 (fres .sub .f32 1065353216 x _)] (by rfl) (by rfl) (World.news_of_block (cs := #[.float .f32 (fres .sub .f32 1065353216 x _)]) (t := 32) (fr := (0, 0)) (heap_alloc_new _ _)) (by simp [Value.oneCell']) (by omega) (by unfold maxLen; omega) (by omega) (by simp; omega) (wr.heap.size + 1) (by simp) ?_; intro gg cp w1 hown1 hgrow hat hlt3; have hT1 : Tin w1 (w.heap.size + 1) L L v := Tin.grown hgrow hn3 (HT1.out.below (by repeat (first | exact Below.refl _ _ | refine Below.drew ?_ | refine Below.drewN' ?_ _ | refine Below.alloc ?_ (by first | (simp; done) | (simp; omega)) _ | refine Below.setCell ?_ (by first | (simp; done) | (simp; omega)) _))); have HT1' := Lib.hid hT1; obtain ⟨hg0, hg1, hg2, hg3, _, _, hg4⟩ := hT1) | go_in)
                all_goals
                  exact ⟨⟨i + 1, _, _, by omega, by first | rfl | go_num | (congr 1), rfl, Lib.hid (Tin.below (Tin.far (a := ⟨w.heap.size + 1, 2, none⟩) (Tin.grown hgrow hn4 (HT0.out.below (by repeat (first | exact Below.refl _ _ | refine Below.drew ?_ | refine Below.drewN' ?_ _ | refine Below.alloc ?_ (by first | (simp; done) | (simp; omega)) _ | refine Below.setCell ?_ (by first | (simp; done) | (simp; omega)) _)))) (by simp) _) (by repeat (first | exact Below.refl _ _ | refine Below.drew ?_ | refine Below.drewN' ?_ _ | refine Below.alloc ?_ (by first | (simp; done) | (simp; omega)) _ | refine Below.setCell ?_ (by first | (simp; done) | (simp; omega)) _))), Lib.hid (Tin.below (Tin.set HT1'.out _) (by repeat (first | exact Below.refl _ _ | refine Below.drew ?_ | refine Below.drewN' ?_ _ | refine Below.alloc ?_ (by first | (simp; done) | (simp; omega)) _ | refine Below.setCell ?_ (by first | (simp; done) | (simp; omega)) _))), Lib.hid (by rw [show k * L + (i + 1) = K + 1 by have := HK.out; omega]; exact Got.keep (Got.setCell (Got.step HZ.out (Got.len HO1.out) (HV _).out hown1) ⟨w.heap.size + 1, 2, none⟩ _ (by simp)) (by repeat (first | exact Below.refl _ _ | refine Below.drew ?_ | refine Below.drewN' ?_ _ | refine Below.alloc ?_ (by first | (simp; done) | (simp; omega)) _ | refine Below.setCell ?_ (by first | (simp; done) | (simp; omega)) _))), Lib.hid (by repeat (first | exact HW.out | refine Below.drew ?_ | refine Below.drewN' ?_ _ | refine Below.setCell ?_ (by first | (simp; done) | (simp; omega)) _ | refine Below.alloc ?_ (by first | omega | (simp; omega)) _ | refine Below.grown ?_ hgrow (by first | omega | (simp; omega)) (fun j hj => Nat.le_trans (by omega) (HNE.out j hj))))⟩, by show L - ((i : Int) + 1).toNat < L - (i : Int).toNat; omega⟩
              · have he : ((k : Int) == (i : Int)) = false := by simp; omega
                have HV : ∀ W, Hid (cls .f32 (fres .quo .f32 x (floatOfInt .f32 ((L : Int) - 1)) W) = flipV x L K) := fun W => Lib.hid (by rw [fres_cls, HK.out, flip_at _ _ _ _ hlt2, if_neg hik])
                clear hik
                go_wp2_with (first | (at_builtin; refine wpList_append_lies _ rfl _ _ 22 rfl (w.heap.size + 2) 32 i0 (.float .f32 0) 1 4 Try.underlying22 hi hz0 hz1 hz2 rfl (by omega) v K (zs0.map (Value.float .f32)) (by rfl) (World.ownsRow.alloc HO1.out _) ⟨wr.heap.size, 0, none⟩ 1 1 [.float .f32 (fres .quo .f32 x (floatOfInt .f32 ((L : Int) - 1)) _)] (by rfl) (by rfl) (World.news_of_block (cs := #[.float .f32 (fres .quo .f32 x (floatOfInt .f32 ((L : Int) - 1)) _)]) (t := 32) (fr := (0, 0)) (heap_alloc_new _ _)) (by simp [Value.oneCell']) (by omega) (by unfold maxLen; omega) (by omega) (by simp; omega) (wr.heap.size + 1) (by simp) ?_; intro gg cp w1 hown1 hgrow hat hlt3; have hT1 : Tin w1 (w.heap.size + 1) L L v := Tin.grown hgrow hn3 (HT1.out.below (by repeat (first | exact Below.refl _ _ | refine Below.drew ?_ | refine Below.drewN' ?_ _ | refine Below.alloc ?_ (by first | (simp; done) | (simp; omega)) _ | refine Below.setCell ?_ (by first | (simp; done) | (simp; omega)) _))); have HT1' := Lib.hid hT1; obtain ⟨hg0, hg1, hg2, hg3, _, _, hg4⟩ := hT1) | go_in)
                all_goals
                  exact ⟨⟨i + 1, _, _, by omega, by first | rfl | go_num | (congr 1), rfl, Lib.hid (Tin.below (Tin.far (a := ⟨w.heap.size + 1, 2, none⟩) (Tin.grown hgrow hn4 (HT0.out.below (by repeat (first | exact Below.refl _ _ | refine Below.drew ?_ | refine Below.drewN' ?_ _ | refine Below.alloc ?_ (by first | (simp; done) | (simp; omega)) _ | refine Below.setCell ?_ (by first | (simp; done) | (simp; omega)) _)))) (by simp) _) (by repeat (first | exact Below.refl _ _ | refine Below.drew ?_ | refine Below.drewN' ?_ _ | refine Below.alloc ?_ (by first | (simp; done) | (simp; omega)) _ | refine Below.setCell ?_ (by first | (simp; done) | (simp; omega)) _))), Lib.hid (Tin.below (Tin.set HT1'.out _) (by repeat (first | exact Below.refl _ _ | refine Below.drew ?_ | refine Below.drewN' ?_ _ | refine Below.alloc ?_ (by first | (simp; done) | (simp; omega)) _ | refine Below.setCell ?_ (by first | (simp; done) | (simp; omega)) _))), Lib.hid (by rw [show k * L + (i + 1) = K + 1 by have := HK.out; omega]; exact Got.keep (Got.setCell (Got.step HZ.out (Got.len HO1.out) (HV _).out hown1) ⟨w.heap.size + 1, 2, none⟩ _ (by simp)) (by repeat (first | exact Below.refl _ _ | refine Below.drew ?_ | refine Below.drewN' ?_ _ | refine Below.alloc ?_ (by first | (simp; done) | (simp; omega)) _ | refine Below.setCell ?_ (by first | (simp; done) | (simp; omega)) _))), Lib.hid (by repeat (first | exact HW.out | refine Below.drew ?_ | refine Below.drewN' ?_ _ | refine Below.setCell ?_ (by first | (simp; done) | (simp; omega)) _ | refine Below.alloc ?_ (by first | omega | (simp; omega)) _ | refine Below.grown ?_ hgrow (by first | omega | (simp; omega)) (fun j hj => Nat.le_trans (by omega) (HNE.out j hj))))⟩, by show L - ((i : Int) + 1).toNat < L - (i : Int).toNat; omega⟩
            · obtain rfl : i = L := by omega
              go_wp2
              refine ⟨⟨k + 1, v, _, by omega, by first | rfl | go_num | (congr 1), rfl, HT0, HT1, Lib.hid (by rw [Nat.succ_mul]; exact HO.out), HW⟩, by show i - ((k : Int) + 1).toNat < i - (k : Int).toNat; omega⟩
        · obtain rfl : k = L := by omega
          have hkR : 0 < k * k := Nat.mul_pos (by omega) (by omega)
          obtain ⟨g, cp, rfl, hcap⟩ := HO.out.form hkR
          obtain ⟨zr, hg1, hg2, hg3, hg4, hg5⟩ := Got.fin'' HO.out (by omega)
          have HCAP := Lib.hid hcap
          have HG1 := Lib.hid hg1
          have HG2 := Lib.hid hg2
          have HG3 := Lib.hid hg3
          have HG4 := Lib.hid hg4
          have HG5 := Lib.hid hg5
          obtain ⟨hs1, hd0, hd1, hd2, _⟩ := HT1.out
          clear hg1 hg2 hg3 hg4 hg5 hcap
          go_wp2_with (first | (go_at_call 67; refine (hgS_no (k : Int) (k : Nat) _ (k * k) _ zr _ HG3.out (by omega) HCAP.out (by rw [chan_V HG4.out]; exact HOK.out)).mono ?_; rintro e w3 ⟨rfl, hb⟩; have HR := Lib.hid (HT0.out.below hb); have HG5 := Lib.hid (HG5.out.below HG2.out hb); have HG2 := Lib.hid (Nat.lt_of_lt_of_le HG2.out hb.size); have HB2 := Lib.hid (Below.next HW.out hb); obtain ⟨_, hd0, hd1, hd2, hf0, hf1, hf2⟩ := HR.out; have HP3 := Lib.hid (HR.out.put3 (.int .i64 0) (.int .i64 0) (.slice none 0 0)); clear hb) | go_in)
          obtain ⟨hr0, hr1, hr2⟩ := HP3.out
          exact bodyPost_ret (v := .tuple #[.agg #[.int .i64 0, .int .i64 0, .slice none 0 0], .bool false]) (by simp [results, Try.results22, go_sem, hr0, hr1, hr2]) rfl
            ⟨rfl, by repeat (first | exact HB2.out | refine Below.setCell ?_ (by first | (simp; done) | (simp; omega)) _)⟩
  · have H1 := Lib.hid h1
    clear hok h1
    go_enter Try.func22, Try.ntmps22
    go_wp2_with (first | (go_at_call 65; refine (in_false l 2 8 _ H1.out).mono ?_; rintro e w' ⟨rfl, rfl⟩) | go_in)
    exact bodyPost_ret (v := .tuple #[.agg #[.int .i64 0, .int .i64 0, .slice none 0 0], .bool false]) (by simp [results, Try.results22, go_sem]) rfl
      ⟨rfl, (by repeat (first | exact Below.refl _ _ | refine Below.drew ?_ | refine Below.drewN' ?_ _ | refine Below.alloc ?_ (by first | (simp; done) | (simp; omega)) _ | refine Below.setCell ?_ (by first | (simp; done) | (simp; omega)) _))⟩
set_option maxRecDepth 100000 in
set_option maxHeartbeats 8000000 in
theorem fcS_LoseChannel_yes (l : Int) (x : Nat) (w : World) (hok : okLose l x = true) :
    Calls Try.prog 26 #[.int .i64 l, .float .f32 x] w fun e w' => ∃ g cp, e = .returned (.tuple #[.agg #[.int .i64 l, .int .i64 (l + 1), .slice (some ⟨g, 0, none⟩) (l.toNat * (l.toNat + 1)) cp], .bool true]) ∧ New w w' g (.cl (l.toNat * (l.toNat + 1)) (loseV x l.toNat)) := by
  unfold okLose at hok
  obtain ⟨i0, hi, hz0, hz1, hz2⟩ := info_parts Try.info32
  rw [Bool.and_eq_true, Bool.and_eq_true] at hok
  obtain ⟨h1, h2, h3⟩ := hok
  have h1 := of_decide_eq_true h1
  obtain ⟨L, rfl⟩ : ∃ L : Nat, l = L := ⟨l.toNat, by omega⟩
  have HOK : Hid (chanVB (loseV x L) L (L + 1) = true) := Lib.hid h3
  obtain ⟨hla, hlb⟩ := h1
  clear h3
  obtain ⟨n, hn⟩ : ∃ n, n = L * (L + 1) := ⟨_, rfl⟩
  have hn72 : n ≤ 72 := by rw [hn]; exact Nat.le_trans (Nat.mul_le_mul (by omega : L ≤ 8) (by omega : L + 1 ≤ 9)) (by decide)
  have hwn : IntKind.i64.wrap ((L : Int) * ((L : Int) + 1)) = (n : Int) := by
    have e : (L : Int) * ((L : Int) + 1) = (n : Int) := by rw [hn, Int.natCast_mul] <;> rfl
    rw [e]; exact IntWalk.i64_in _ (by omega)
  have hmk := fun w2 : World => run_make_row' (P := Try.prog) 22 32 (.float .f32 0) 4 Try.underlying22 Try.info32 rfl .i64 .i64 n (by omega) (by omega) w2
  have HN := Lib.hid hn
  have HT0 : Hid (Tin (((w.alloc (.cells #[.int .i64 0, .int .i64 0, .slice none 0 0] 27)).alloc (.cells (madeCells #[Value.float .f32 0] n) 32)).alloc (.cells #[.int .i64 (L : Int), .int .i64 ((L : Int) + 1), .slice (some ⟨w.heap.size + 1, 0, none⟩) n n] 27)) w.heap.size 0 0 (.slice none 0 0)) := Lib.hid (Tin.below (Tin.new (T := 27)) (by repeat (first | exact Below.refl _ _ | refine Below.drew ?_ | refine Below.drewN' ?_ _ | refine Below.alloc ?_ (by first | (simp; done) | (simp; omega)) _ | refine Below.setCell ?_ (by first | (simp; done) | (simp; omega)) _)))
  have HT1 : Hid (Tin (((w.alloc (.cells #[.int .i64 0, .int .i64 0, .slice none 0 0] 27)).alloc (.cells (madeCells #[Value.float .f32 0] n) 32)).alloc (.cells #[.int .i64 (L : Int), .int .i64 ((L : Int) + 1), .slice (some ⟨w.heap.size + 1, 0, none⟩) n n] 27)) (w.heap.size + 2) L ((L : Int) + 1) (.slice (some ⟨w.heap.size + 1, 0, none⟩) n n)) := Lib.hid (Tin.new' (w := ((w.alloc (.cells #[.int .i64 0, .int .i64 0, .slice none 0 0] 27)).alloc (.cells (madeCells #[Value.float .f32 0] n) 32))) (T := 27) (by simp))
  have HE : Hid (Ent.ok (((w.alloc (.cells #[.int .i64 0, .int .i64 0, .slice none 0 0] 27)).alloc (.cells (madeCells #[Value.float .f32 0] n) 32)).alloc (.cells #[.int .i64 (L : Int), .int .i64 ((L : Int) + 1), .slice (some ⟨w.heap.size + 1, 0, none⟩) n n] 27)) (w.heap.size + 1) (.cl n (partV (loseV x L) (L + 1) 0))) := Lib.hid (by
    have h := part_new (w.alloc (.cells #[.int .i64 0, .int .i64 0, .slice none 0 0] 27)) (loseV x L) (L + 1) n 32
    have e : (w.alloc (.cells #[.int .i64 0, .int .i64 0, .slice none 0 0] 27)).heap.size = w.heap.size + 1 := by simp
    rw [e] at h
    exact h.below (by simp) (below_alloc _ _))
  have HW : Hid (Below w.heap.size w (((w.alloc (.cells #[.int .i64 0, .int .i64 0, .slice none 0 0] 27)).alloc (.cells (madeCells #[Value.float .f32 0] n) 32)).alloc (.cells #[.int .i64 (L : Int), .int .i64 ((L : Int) + 1), .slice (some ⟨w.heap.size + 1, 0, none⟩) n n] 27))) := Lib.hid (by repeat (first | exact Below.refl _ _ | refine Below.drew ?_ | refine Below.drewN' ?_ _ | refine Below.alloc ?_ (by first | (simp; done) | (simp; omega)) _ | refine Below.setCell ?_ (by first | (simp; done) | (simp; omega)) _))
  have HSZ : Hid (w.heap.size + 2 < (((w.alloc (.cells #[.int .i64 0, .int .i64 0, .slice none 0 0] 27)).alloc (.cells (madeCells #[Value.float .f32 0] n) 32)).alloc (.cells #[.int .i64 (L : Int), .int .i64 ((L : Int) + 1), .slice (some ⟨w.heap.size + 1, 0, none⟩) n n] 27)).heap.size) := Lib.hid (by simp)
  clear hn
  go_enter Try.func26, Try.ntmps26
  go_wp2_with (first | (go_at_call 65; refine (in_true (L : Int) 1 7 _ (by omega) (by omega)).mono ?_; rintro e w' ⟨rfl, rfl⟩) | (go_at_call 66; refine (shH_spec x _).mono ?_; rintro e w' ⟨rfl, rfl⟩) | go_in)
  go_loopw [7] (fun kv w' => ∃ (k : Nat) (wr : World), k ≤ L ∧ kv = .int .i64 k ∧ wr = w' ∧ Hid (Tin wr w.heap.size 0 0 (.slice none 0 0)) ∧ Hid (Tin wr (w.heap.size + 2) L ((L : Int) + 1) (.slice (some ⟨w.heap.size + 1, 0, none⟩) n n)) ∧ Hid (Ent.ok wr (w.heap.size + 1) (.cl n (partV (loseV x L) (L + 1) k))) ∧ Hid (Below w.heap.size w wr)) (fun kv _ => L - (intOf kv).toNat)
  case atStart => exact ⟨0, _, by omega, rfl, rfl, Lib.hid (HT0.out.below (by repeat (first | exact Below.refl _ _ | refine Below.drew ?_ | refine Below.drewN' ?_ _ | refine Below.alloc ?_ (by first | (simp; done) | (simp; omega)) _ | refine Below.setCell ?_ (by first | (simp; done) | (simp; omega)) _))), Lib.hid (HT1.out.below (by repeat (first | exact Below.refl _ _ | refine Below.drew ?_ | refine Below.drewN' ?_ _ | refine Below.alloc ?_ (by first | (simp; done) | (simp; omega)) _ | refine Below.setCell ?_ (by first | (simp; done) | (simp; omega)) _))), Lib.hid (HE.out.below (by have := HSZ.out; omega) (by repeat (first | exact Below.refl _ _ | refine Below.drew ?_ | refine Below.drewN' ?_ _ | refine Below.alloc ?_ (by first | (simp; done) | (simp; omega)) _ | refine Below.setCell ?_ (by first | (simp; done) | (simp; omega)) _))), Lib.hid (by first | exact HW.out | exact Below.drewN' HW.out _)⟩
  case round =>
    clear HT0 HT1 HE HW
    obtain ⟨i, wr, hk, rfl, rfl, HT0, HT1, HE, HW⟩ := hrel
    obtain ⟨hP, hp0, hp1, hp2, _, _, hpf⟩ := HT1.out
    by_cases hlt : i < L
    · clear hmk hwn
      obtain ⟨a, ha⟩ : ∃ a, a = i * (L + 1) := ⟨_, rfl⟩
      have hjl : L < L + 1 := by omega
      have hji : ¬ L = i := by omega
      obtain ⟨m1, hm1⟩ : ∃ m, m = a + i := ⟨_, rfl⟩
      obtain ⟨m2, hm2⟩ : ∃ m, m = a + L := ⟨_, rfl⟩
      have hin1 : m1 < n := by rw [hm1, ha, HN.out]; exact mul_in rfl hlt (by omega)
      have hin2 : m2 < n := by rw [hm2, ha, HN.out]; exact mul_in rfl hlt hjl
      have hw1 : IntKind.i64.wrap ((i : Int) * ((L : Int) + 1)) = (a : Int) := by
        have e : (i : Int) * ((L : Int) + 1) = (a : Int) := by rw [ha, Int.natCast_mul] <;> rfl
        rw [e]; exact IntWalk.i64_in _ (by omega)
      have hw2 : IntKind.i64.wrap ((a : Int) + (i : Int)) = (m1 : Int) := by rw [IntWalk.i64_in _ (by omega)]; omega
      have hw3 : IntKind.i64.wrap ((a : Int) + (L : Int)) = (m2 : Int) := by rw [IntWalk.i64_in _ (by omega)]; omega
      skip
      obtain ⟨z1, hck1, hfz1⟩ := HE.out.cl_cell hin1
      obtain ⟨z2, hck2, hfz2⟩ := HE.out.cl_cell hin2
      have hne1 : ¬ m1 = m2 := by omega
      have hne2 : ¬ m2 = m1 := by omega
      have HST : ∀ W, Hid (∀ jj, jj < n → (if jj = m2 then cls .f32 x else if jj = m1 then cls .f32 (fres .sub .f32 1065353216 x W) else partV (loseV x L) (L + 1) i jj) = partV (loseV x L) (L + 1) (i + 1) jj) := fun W => Lib.hid (fun jj _ => by rw [keep_cls, hm1, hm2, ha]; exact lose_part x L i jj hlt)
      have hst : ∀ (a : Addr) (m : Mode) (x : Nat) (w : World), (store a (.float .f32 x) m).run Try.prog w = stored Try.prog w a (.float .f32 x) m := fun a m x w => run_store Try.prog w a (.float .f32 x) m rfl
      clear ha hm1 hm2
      go_wp2
      exact ⟨⟨i + 1, _, by omega, by first | rfl | go_num | (congr 1), rfl, Lib.hid (by first | exact Tin.far (a := ⟨w.heap.size + 1, m2, none⟩) ((Tin.far (a := ⟨w.heap.size + 1, m1, none⟩) (Tin.drewN HT0.out _) (by simp) _)) (by simp) _ | exact Tin.far (a := ⟨w.heap.size + 1, m2, none⟩) ((Tin.far (a := ⟨w.heap.size + 1, m1, none⟩) (HT0.out) (by simp) _)) (by simp) _ | exact Tin.far (a := ⟨w.heap.size + 1, m2, none⟩) (Tin.drew (Tin.far (a := ⟨w.heap.size + 1, m1, none⟩) (Tin.drewN HT0.out _) (by simp) _)) (by simp) _ | exact Tin.far (a := ⟨w.heap.size + 1, m2, none⟩) (Tin.drewN (Tin.far (a := ⟨w.heap.size + 1, m1, none⟩) (Tin.drewN HT0.out _) (by simp) _) _) (by simp) _ | exact Tin.far (a := ⟨w.heap.size + 1, m2, none⟩) (Tin.drew (Tin.far (a := ⟨w.heap.size + 1, m1, none⟩) (HT0.out) (by simp) _)) (by simp) _ | exact Tin.far (a := ⟨w.heap.size + 1, m2, none⟩) (Tin.drewN (Tin.far (a := ⟨w.heap.size + 1, m1, none⟩) (HT0.out) (by simp) _) _) (by simp) _), Lib.hid (by first | exact Tin.far (a := ⟨w.heap.size + 1, m2, none⟩) ((Tin.far (a := ⟨w.heap.size + 1, m1, none⟩) (Tin.drewN HT1.out _) (by simp) _)) (by simp) _ | exact Tin.far (a := ⟨w.heap.size + 1, m2, none⟩) ((Tin.far (a := ⟨w.heap.size + 1, m1, none⟩) (HT1.out) (by simp) _)) (by simp) _ | exact Tin.far (a := ⟨w.heap.size + 1, m2, none⟩) (Tin.drew (Tin.far (a := ⟨w.heap.size + 1, m1, none⟩) (Tin.drewN HT1.out _) (by simp) _)) (by simp) _ | exact Tin.far (a := ⟨w.heap.size + 1, m2, none⟩) (Tin.drewN (Tin.far (a := ⟨w.heap.size + 1, m1, none⟩) (Tin.drewN HT1.out _) (by simp) _) _) (by simp) _ | exact Tin.far (a := ⟨w.heap.size + 1, m2, none⟩) (Tin.drew (Tin.far (a := ⟨w.heap.size + 1, m1, none⟩) (HT1.out) (by simp) _)) (by simp) _ | exact Tin.far (a := ⟨w.heap.size + 1, m2, none⟩) (Tin.drewN (Tin.far (a := ⟨w.heap.size + 1, m1, none⟩) (HT1.out) (by simp) _) _) (by simp) _), Lib.hid (by first | exact Ent.ok.cl_eq (Ent.ok.put ((Ent.ok.put (Ent.ok.drewN HE.out _) hin1)) hin2) (HST _).out | exact Ent.ok.cl_eq (Ent.ok.put ((Ent.ok.put (HE.out) hin1)) hin2) (HST _).out | exact Ent.ok.cl_eq (Ent.ok.put (Ent.ok.drew (Ent.ok.put (Ent.ok.drewN HE.out _) hin1)) hin2) (HST _).out | exact Ent.ok.cl_eq (Ent.ok.put (Ent.ok.drewN (Ent.ok.put (Ent.ok.drewN HE.out _) hin1) _) hin2) (HST _).out | exact Ent.ok.cl_eq (Ent.ok.put (Ent.ok.drew (Ent.ok.put (HE.out) hin1)) hin2) (HST _).out | exact Ent.ok.cl_eq (Ent.ok.put (Ent.ok.drewN (Ent.ok.put (HE.out) hin1) _) hin2) (HST _).out), Lib.hid (by repeat (first | exact HW.out | refine Below.drew ?_ | refine Below.drewN' ?_ _ | refine Below.setCell ?_ (by first | (simp; done) | (simp; omega)) _))⟩, by show L - ((i : Int) + 1).toNat < L - (i : Int).toNat; omega⟩
    · obtain rfl : i = L := by omega
      obtain ⟨g, hg⟩ : ∃ g, g = w.heap.size + 1 := ⟨_, rfl⟩
      obtain ⟨cp, hcp⟩ : ∃ cp, cp = n := ⟨_, rfl⟩
      rw [← hg] at HT1 HE hp2
      have hgl : g < wr.heap.size := by omega
      obtain ⟨zr, hg4, hl0, hc0⟩ := HE.out
      have HG3 : Hid (FRow wr (some ⟨g, 0, none⟩) n zr) := Lib.hid ⟨hl0, .inr ⟨g, 0, rfl, hgl, fun jj hjj => by rw [Nat.zero_add]; exact (hc0 jj hjj).1⟩⟩
      have HG4 : Hid (∀ jj, jj < n → cls .f32 (zr.getD jj 0) = loseV x i jj) := Lib.hid (fun jj hjj => by
        rw [hg4 jj hjj]; unfold partV
        rw [if_pos]
        exact (Nat.div_lt_iff_lt_mul (by omega)).2 (by rw [← HN.out]; exact hjj))
      have HG5 : Hid (Ent.ok wr g (.cl n (loseV x i))) := Lib.hid ⟨zr, HG4.out, hl0, hc0⟩
      have HG1 : Hid (w.heap.size + 1 ≤ g) := Lib.hid (by omega)
      have HG2 := Lib.hid hgl
      have HCAP : Hid (n ≤ cp) := Lib.hid (by omega)
      replace hp2 : wr.cell? ⟨w.heap.size + 2, 2, none⟩ = some (.slice (some ⟨g, 0, none⟩) n cp) := by rw [hcp]; exact hp2
      clear hg4 hl0 hc0 hmk hwn hg hcp HE
      have hnn := HN.out
      subst hnn
      go_wp2_with (first | (go_at_call 67; refine (hgS_yes (i : Int) (i + 1 : Nat) _ (i * (i + 1)) _ zr _ HG3.out (by omega) HCAP.out (by rw [chan_V HG4.out]; exact HOK.out)).mono ?_; rintro e w3 ⟨rfl, hb⟩; have HR := Lib.hid (HT0.out.below hb); have HG5 := Lib.hid (HG5.out.below HG2.out hb); have HG2 := Lib.hid (Nat.lt_of_lt_of_le HG2.out hb.size); have HB2 := Lib.hid (Below.next HW.out hb); obtain ⟨_, hd0, hd1, hd2, hf0, hf1, hf2⟩ := HR.out; have HP3 := Lib.hid (HR.out.put3 (.int .i64 (i : Int)) (.int .i64 ((i : Int) + 1)) (.slice (some ⟨g, 0, none⟩) (i * (i + 1)) cp)); clear hb) | go_in)
      obtain ⟨hr0, hr1, hr2⟩ := HP3.out
      have hgne : w.heap.size ≠ g := by have := HG1.out; omega
      exact bodyPost_ret (v := .tuple #[.agg #[.int .i64 (i : Int), .int .i64 ((i : Int) + 1), .slice (some ⟨g, 0, none⟩) (i * (i + 1)) cp], .bool true]) (by simp [results, Try.results26, go_sem, hr0, hr1, hr2]) rfl
        ⟨g, cp, rfl, by have := HG1.out; omega, by simpa using HG2.out, Ent.ok.set (Ent.ok.set (Ent.ok.set HG5.out hgne _) hgne _) hgne _, by repeat (first | exact HB2.out | refine Below.setCell ?_ (by first | (simp; done) | (simp; omega)) _)⟩
set_option maxRecDepth 100000 in
set_option maxHeartbeats 8000000 in
theorem fcS_LoseChannel_no (l : Int) (x : Nat) (w : World) (hok : okLose l x = false) :
    Calls Try.prog 26 #[.int .i64 l, .float .f32 x] w fun e w' => e = .returned (.tuple #[.agg #[.int .i64 0, .int .i64 0, .slice none 0 0], .bool false]) ∧ Below w.heap.size w w' := by
  unfold okLose at hok
  obtain ⟨i0, hi, hz0, hz1, hz2⟩ := info_parts Try.info32
  skip
  by_cases h1 : 1 ≤ l ∧ l ≤ 7
  · obtain ⟨L, rfl⟩ : ∃ L : Nat, l = L := ⟨l.toNat, by omega⟩
    cases h2 : shareH x with
    | false =>
      clear hok
      obtain ⟨hla, hlb⟩ := h1
      go_enter Try.func26, Try.ntmps26
      go_wp2_with (first | (go_at_call 65; refine (in_true (L : Int) 1 7 _ (by omega) (by omega)).mono ?_; rintro e w' ⟨rfl, rfl⟩) | (go_at_call 66; refine (shH_spec x _).mono ?_; rintro e w' ⟨rfl, rfl⟩) | go_in)
      exact bodyPost_ret (v := .tuple #[.agg #[.int .i64 0, .int .i64 0, .slice none 0 0], .bool false]) (by simp [results, Try.results26, go_sem]) rfl
        ⟨rfl, (by repeat (first | exact Below.refl _ _ | refine Below.drew ?_ | refine Below.drewN' ?_ _ | refine Below.alloc ?_ (by first | (simp; done) | (simp; omega)) _ | refine Below.setCell ?_ (by first | (simp; done) | (simp; omega)) _))⟩
    | true =>
      have h3 : chanVB (loseV x L) L (L + 1) = false := by rw [decide_eq_true h1, h2] at hok; exact hok
      have HOK := Lib.hid h3
      obtain ⟨hla, hlb⟩ := h1
      clear hok h3
      obtain ⟨n, hn⟩ : ∃ n, n = L * (L + 1) := ⟨_, rfl⟩
      have hn72 : n ≤ 72 := by rw [hn]; exact Nat.le_trans (Nat.mul_le_mul (by omega : L ≤ 8) (by omega : L + 1 ≤ 9)) (by decide)
      have hwn : IntKind.i64.wrap ((L : Int) * ((L : Int) + 1)) = (n : Int) := by
        have e : (L : Int) * ((L : Int) + 1) = (n : Int) := by rw [hn, Int.natCast_mul] <;> rfl
        rw [e]; exact IntWalk.i64_in _ (by omega)
      have hmk := fun w2 : World => run_make_row' (P := Try.prog) 22 32 (.float .f32 0) 4 Try.underlying22 Try.info32 rfl .i64 .i64 n (by omega) (by omega) w2
      have HN := Lib.hid hn
      have HT0 : Hid (Tin (((w.alloc (.cells #[.int .i64 0, .int .i64 0, .slice none 0 0] 27)).alloc (.cells (madeCells #[Value.float .f32 0] n) 32)).alloc (.cells #[.int .i64 (L : Int), .int .i64 ((L : Int) + 1), .slice (some ⟨w.heap.size + 1, 0, none⟩) n n] 27)) w.heap.size 0 0 (.slice none 0 0)) := Lib.hid (Tin.below (Tin.new (T := 27)) (by repeat (first | exact Below.refl _ _ | refine Below.drew ?_ | refine Below.drewN' ?_ _ | refine Below.alloc ?_ (by first | (simp; done) | (simp; omega)) _ | refine Below.setCell ?_ (by first | (simp; done) | (simp; omega)) _)))
      have HT1 : Hid (Tin (((w.alloc (.cells #[.int .i64 0, .int .i64 0, .slice none 0 0] 27)).alloc (.cells (madeCells #[Value.float .f32 0] n) 32)).alloc (.cells #[.int .i64 (L : Int), .int .i64 ((L : Int) + 1), .slice (some ⟨w.heap.size + 1, 0, none⟩) n n] 27)) (w.heap.size + 2) L ((L : Int) + 1) (.slice (some ⟨w.heap.size + 1, 0, none⟩) n n)) := Lib.hid (Tin.new' (w := ((w.alloc (.cells #[.int .i64 0, .int .i64 0, .slice none 0 0] 27)).alloc (.cells (madeCells #[Value.float .f32 0] n) 32))) (T := 27) (by simp))
      have HE : Hid (Ent.ok (((w.alloc (.cells #[.int .i64 0, .int .i64 0, .slice none 0 0] 27)).alloc (.cells (madeCells #[Value.float .f32 0] n) 32)).alloc (.cells #[.int .i64 (L : Int), .int .i64 ((L : Int) + 1), .slice (some ⟨w.heap.size + 1, 0, none⟩) n n] 27)) (w.heap.size + 1) (.cl n (partV (loseV x L) (L + 1) 0))) := Lib.hid (by
        have h := part_new (w.alloc (.cells #[.int .i64 0, .int .i64 0, .slice none 0 0] 27)) (loseV x L) (L + 1) n 32
        have e : (w.alloc (.cells #[.int .i64 0, .int .i64 0, .slice none 0 0] 27)).heap.size = w.heap.size + 1 := by simp
        rw [e] at h
        exact h.below (by simp) (below_alloc _ _))
      have HW : Hid (Below w.heap.size w (((w.alloc (.cells #[.int .i64 0, .int .i64 0, .slice none 0 0] 27)).alloc (.cells (madeCells #[Value.float .f32 0] n) 32)).alloc (.cells #[.int .i64 (L : Int), .int .i64 ((L : Int) + 1), .slice (some ⟨w.heap.size + 1, 0, none⟩) n n] 27))) := Lib.hid (by repeat (first | exact Below.refl _ _ | refine Below.drew ?_ | refine Below.drewN' ?_ _ | refine Below.alloc ?_ (by first | (simp; done) | (simp; omega)) _ | refine Below.setCell ?_ (by first | (simp; done) | (simp; omega)) _))
      have HSZ : Hid (w.heap.size + 2 < (((w.alloc (.cells #[.int .i64 0, .int .i64 0, .slice none 0 0] 27)).alloc (.cells (madeCells #[Value.float .f32 0] n) 32)).alloc (.cells #[.int .i64 (L : Int), .int .i64 ((L : Int) + 1), .slice (some ⟨w.heap.size + 1, 0, none⟩) n n] 27)).heap.size) := Lib.hid (by simp)
      clear hn
      go_enter Try.func26, Try.ntmps26
      go_wp2_with (first | (go_at_call 65; refine (in_true (L : Int) 1 7 _ (by omega) (by omega)).mono ?_; rintro e w' ⟨rfl, rfl⟩) | (go_at_call 66; refine (shH_spec x _).mono ?_; rintro e w' ⟨rfl, rfl⟩) | go_in)
      go_loopw [7] (fun kv w' => ∃ (k : Nat) (wr : World), k ≤ L ∧ kv = .int .i64 k ∧ wr = w' ∧ Hid (Tin wr w.heap.size 0 0 (.slice none 0 0)) ∧ Hid (Tin wr (w.heap.size + 2) L ((L : Int) + 1) (.slice (some ⟨w.heap.size + 1, 0, none⟩) n n)) ∧ Hid (Ent.ok wr (w.heap.size + 1) (.cl n (partV (loseV x L) (L + 1) k))) ∧ Hid (Below w.heap.size w wr)) (fun kv _ => L - (intOf kv).toNat)
      case atStart => exact ⟨0, _, by omega, rfl, rfl, Lib.hid (HT0.out.below (by repeat (first | exact Below.refl _ _ | refine Below.drew ?_ | refine Below.drewN' ?_ _ | refine Below.alloc ?_ (by first | (simp; done) | (simp; omega)) _ | refine Below.setCell ?_ (by first | (simp; done) | (simp; omega)) _))), Lib.hid (HT1.out.below (by repeat (first | exact Below.refl _ _ | refine Below.drew ?_ | refine Below.drewN' ?_ _ | refine Below.alloc ?_ (by first | (simp; done) | (simp; omega)) _ | refine Below.setCell ?_ (by first | (simp; done) | (simp; omega)) _))), Lib.hid (HE.out.below (by have := HSZ.out; omega) (by repeat (first | exact Below.refl _ _ | refine Below.drew ?_ | refine Below.drewN' ?_ _ | refine Below.alloc ?_ (by first | (simp; done) | (simp; omega)) _ | refine Below.setCell ?_ (by first | (simp; done) | (simp; omega)) _))), Lib.hid (by first | exact HW.out | exact Below.drewN' HW.out _)⟩
      case round =>
        clear HT0 HT1 HE HW
        obtain ⟨i, wr, hk, rfl, rfl, HT0, HT1, HE, HW⟩ := hrel
        obtain ⟨hP, hp0, hp1, hp2, _, _, hpf⟩ := HT1.out
        by_cases hlt : i < L
        · clear hmk hwn
          obtain ⟨a, ha⟩ : ∃ a, a = i * (L + 1) := ⟨_, rfl⟩
          have hjl : L < L + 1 := by omega
          have hji : ¬ L = i := by omega
          obtain ⟨m1, hm1⟩ : ∃ m, m = a + i := ⟨_, rfl⟩
          obtain ⟨m2, hm2⟩ : ∃ m, m = a + L := ⟨_, rfl⟩
          have hin1 : m1 < n := by rw [hm1, ha, HN.out]; exact mul_in rfl hlt (by omega)
          have hin2 : m2 < n := by rw [hm2, ha, HN.out]; exact mul_in rfl hlt hjl
          have hw1 : IntKind.i64.wrap ((i : Int) * ((L : Int) + 1)) = (a : Int) := by
            have e : (i : Int) * ((L : Int) + 1) = (a : Int) := by rw [ha, Int.natCast_mul] <;> rfl
            rw [e]; exact IntWalk.i64_in _ (by omega)
          have hw2 : IntKind.i64.wrap ((a : Int) + (i : Int)) = (m1 : Int) := by rw [IntWalk.i64_in _ (by omega)]; omega
          have hw3 : IntKind.i64.wrap ((a : Int) + (L : Int)) = (m2 : Int) := by rw [IntWalk.i64_in _ (by omega)]; omega
          skip
          obtain ⟨z1, hck1, hfz1⟩ := HE.out.cl_cell hin1
          obtain ⟨z2, hck2, hfz2⟩ := HE.out.cl_cell hin2
          have hne1 : ¬ m1 = m2 := by omega
          have hne2 : ¬ m2 = m1 := by omega
          have HST : ∀ W, Hid (∀ jj, jj < n → (if jj = m2 then cls .f32 x else if jj = m1 then cls .f32 (fres .sub .f32 1065353216 x W) else partV (loseV x L) (L + 1) i jj) = partV (loseV x L) (L + 1) (i + 1) jj) := fun W => Lib.hid (fun jj _ => by rw [keep_cls, hm1, hm2, ha]; exact lose_part x L i jj hlt)
          have hst : ∀ (a : Addr) (m : Mode) (x : Nat) (w : World), (store a (.float .f32 x) m).run Try.prog w = stored Try.prog w a (.float .f32 x) m := fun a m x w => run_store Try.prog w a (.float .f32 x) m rfl
          clear ha hm1 hm2
          go_wp2
          exact ⟨⟨i + 1, _, by omega, by first | rfl | go_num | (congr 1), rfl, Lib.hid (by first | exact Tin.far (a := ⟨w.heap.size + 1, m2, none⟩) ((Tin.far (a := ⟨w.heap.size + 1, m1, none⟩) (Tin.drewN HT0.out _) (by simp) _)) (by simp) _ | exact Tin.far (a := ⟨w.heap.size + 1, m2, none⟩) ((Tin.far (a := ⟨w.heap.size + 1, m1, none⟩) (HT0.out) (by simp) _)) (by simp) _ | exact Tin.far (a := ⟨w.heap.size + 1, m2, none⟩) (Tin.drew (Tin.far (a := ⟨w.heap.size + 1, m1, none⟩) (Tin.drewN HT0.out _) (by simp) _)) (by simp) _ | exact Tin.far (a := ⟨w.heap.size + 1, m2, none⟩) (Tin.drewN (Tin.far (a := ⟨w.heap.size + 1, m1, none⟩) (Tin.drewN HT0.out _) (by simp) _) _) (by simp) _ | exact Tin.far (a := ⟨w.heap.size + 1, m2, none⟩) (Tin.drew (Tin.far (a := ⟨w.heap.size + 1, m1, none⟩) (HT0.out) (by simp) _)) (by simp) _ | exact Tin.far (a := ⟨w.heap.size + 1, m2, none⟩) (Tin.drewN (Tin.far (a := ⟨w.heap.size + 1, m1, none⟩) (HT0.out) (by simp) _) _) (by simp) _), Lib.hid (by first | exact Tin.far (a := ⟨w.heap.size + 1, m2, none⟩) ((Tin.far (a := ⟨w.heap.size + 1, m1, none⟩) (Tin.drewN HT1.out _) (by simp) _)) (by simp) _ | exact Tin.far (a := ⟨w.heap.size + 1, m2, none⟩) ((Tin.far (a := ⟨w.heap.size + 1, m1, none⟩) (HT1.out) (by simp) _)) (by simp) _ | exact Tin.far (a := ⟨w.heap.size + 1, m2, none⟩) (Tin.drew (Tin.far (a := ⟨w.heap.size + 1, m1, none⟩) (Tin.drewN HT1.out _) (by simp) _)) (by simp) _ | exact Tin.far (a := ⟨w.heap.size + 1, m2, none⟩) (Tin.drewN (Tin.far (a := ⟨w.heap.size + 1, m1, none⟩) (Tin.drewN HT1.out _) (by simp) _) _) (by simp) _ | exact Tin.far (a := ⟨w.heap.size + 1, m2, none⟩) (Tin.drew (Tin.far (a := ⟨w.heap.size + 1, m1, none⟩) (HT1.out) (by simp) _)) (by simp) _ | exact Tin.far (a := ⟨w.heap.size + 1, m2, none⟩) (Tin.drewN (Tin.far (a := ⟨w.heap.size + 1, m1, none⟩) (HT1.out) (by simp) _) _) (by simp) _), Lib.hid (by first | exact Ent.ok.cl_eq (Ent.ok.put ((Ent.ok.put (Ent.ok.drewN HE.out _) hin1)) hin2) (HST _).out | exact Ent.ok.cl_eq (Ent.ok.put ((Ent.ok.put (HE.out) hin1)) hin2) (HST _).out | exact Ent.ok.cl_eq (Ent.ok.put (Ent.ok.drew (Ent.ok.put (Ent.ok.drewN HE.out _) hin1)) hin2) (HST _).out | exact Ent.ok.cl_eq (Ent.ok.put (Ent.ok.drewN (Ent.ok.put (Ent.ok.drewN HE.out _) hin1) _) hin2) (HST _).out | exact Ent.ok.cl_eq (Ent.ok.put (Ent.ok.drew (Ent.ok.put (HE.out) hin1)) hin2) (HST _).out | exact Ent.ok.cl_eq (Ent.ok.put (Ent.ok.drewN (Ent.ok.put (HE.out) hin1) _) hin2) (HST _).out), Lib.hid (by repeat (first | exact HW.out | refine Below.drew ?_ | refine Below.drewN' ?_ _ | refine Below.setCell ?_ (by first | (simp; done) | (simp; omega)) _))⟩, by show L - ((i : Int) + 1).toNat < L - (i : Int).toNat; omega⟩
        · obtain rfl : i = L := by omega
          obtain ⟨g, hg⟩ : ∃ g, g = w.heap.size + 1 := ⟨_, rfl⟩
          obtain ⟨cp, hcp⟩ : ∃ cp, cp = n := ⟨_, rfl⟩
          rw [← hg] at HT1 HE hp2
          have hgl : g < wr.heap.size := by omega
          obtain ⟨zr, hg4, hl0, hc0⟩ := HE.out
          have HG3 : Hid (FRow wr (some ⟨g, 0, none⟩) n zr) := Lib.hid ⟨hl0, .inr ⟨g, 0, rfl, hgl, fun jj hjj => by rw [Nat.zero_add]; exact (hc0 jj hjj).1⟩⟩
          have HG4 : Hid (∀ jj, jj < n → cls .f32 (zr.getD jj 0) = loseV x i jj) := Lib.hid (fun jj hjj => by
            rw [hg4 jj hjj]; unfold partV
            rw [if_pos]
            exact (Nat.div_lt_iff_lt_mul (by omega)).2 (by rw [← HN.out]; exact hjj))
          have HG5 : Hid (Ent.ok wr g (.cl n (loseV x i))) := Lib.hid ⟨zr, HG4.out, hl0, hc0⟩
          have HG1 : Hid (w.heap.size + 1 ≤ g) := Lib.hid (by omega)
          have HG2 := Lib.hid hgl
          have HCAP : Hid (n ≤ cp) := Lib.hid (by omega)
          replace hp2 : wr.cell? ⟨w.heap.size + 2, 2, none⟩ = some (.slice (some ⟨g, 0, none⟩) n cp) := by rw [hcp]; exact hp2
          clear hg4 hl0 hc0 hmk hwn hg hcp HE
          have hnn := HN.out
          subst hnn
          go_wp2_with (first | (go_at_call 67; refine (hgS_no (i : Int) (i + 1 : Nat) _ (i * (i + 1)) _ zr _ HG3.out (by omega) HCAP.out (by rw [chan_V HG4.out]; exact HOK.out)).mono ?_; rintro e w3 ⟨rfl, hb⟩; have HR := Lib.hid (HT0.out.below hb); have HG5 := Lib.hid (HG5.out.below HG2.out hb); have HG2 := Lib.hid (Nat.lt_of_lt_of_le HG2.out hb.size); have HB2 := Lib.hid (Below.next HW.out hb); obtain ⟨_, hd0, hd1, hd2, hf0, hf1, hf2⟩ := HR.out; have HP3 := Lib.hid (HR.out.put3 (.int .i64 0) (.int .i64 0) (.slice none 0 0)); clear hb) | go_in)
          obtain ⟨hr0, hr1, hr2⟩ := HP3.out
          exact bodyPost_ret (v := .tuple #[.agg #[.int .i64 0, .int .i64 0, .slice none 0 0], .bool false]) (by simp [results, Try.results26, go_sem, hr0, hr1, hr2]) rfl
            ⟨rfl, by repeat (first | exact HB2.out | refine Below.setCell ?_ (by first | (simp; done) | (simp; omega)) _)⟩
  · have H1 := Lib.hid h1
    clear hok h1
    go_enter Try.func26, Try.ntmps26
    go_wp2_with (first | (go_at_call 65; refine (in_false l 1 7 _ H1.out).mono ?_; rintro e w' ⟨rfl, rfl⟩) | go_in)
    exact bodyPost_ret (v := .tuple #[.agg #[.int .i64 0, .int .i64 0, .slice none 0 0], .bool false]) (by simp [results, Try.results26, go_sem]) rfl
      ⟨rfl, (by repeat (first | exact Below.refl _ _ | refine Below.drew ?_ | refine Below.drewN' ?_ _ | refine Below.alloc ?_ (by first | (simp; done) | (simp; omega)) _ | refine Below.setCell ?_ (by first | (simp; done) | (simp; omega)) _))⟩
set_option maxRecDepth 100000 in
set_option maxHeartbeats 8000000 in
theorem fcS_NextChannel_yes (l : Int) (x : Nat) (w : World) (hok : okNext l x = true) :
    Calls Try.prog 28 #[.int .i64 l, .float .f32 x] w fun e w' => ∃ g cp, e = .returned (.tuple #[.agg #[.int .i64 l, .int .i64 (l), .slice (some ⟨g, 0, none⟩) (l.toNat * l.toNat) cp], .bool true]) ∧ New w w' g (.cl (l.toNat * l.toNat) (nextV x l.toNat)) := by
  unfold okNext at hok
  obtain ⟨i0, hi, hz0, hz1, hz2⟩ := info_parts Try.info32
  rw [Bool.and_eq_true, Bool.and_eq_true] at hok
  obtain ⟨h1, h2, h3⟩ := hok
  have h1 := of_decide_eq_true h1
  obtain ⟨L, rfl⟩ : ∃ L : Nat, l = L := ⟨l.toNat, by omega⟩
  have HOK : Hid (chanVB (nextV x L) L L = true) := Lib.hid h3
  obtain ⟨hla, hlb⟩ := h1
  clear h3
  obtain ⟨n, hn⟩ : ∃ n, n = L * L := ⟨_, rfl⟩
  have hn72 : n ≤ 72 := by rw [hn]; exact Nat.le_trans (Nat.mul_le_mul (by omega : L ≤ 8) (by omega : L ≤ 9)) (by decide)
  have hwn : IntKind.i64.wrap ((L : Int) * (L : Int)) = (n : Int) := by
    have e : (L : Int) * (L : Int) = (n : Int) := by rw [hn, Int.natCast_mul] <;> rfl
    rw [e]; exact IntWalk.i64_in _ (by omega)
  have hmk := fun w2 : World => run_make_row' (P := Try.prog) 22 32 (.float .f32 0) 4 Try.underlying22 Try.info32 rfl .i64 .i64 n (by omega) (by omega) w2
  have HN := Lib.hid hn
  have HT0 : Hid (Tin (((w.alloc (.cells #[.int .i64 0, .int .i64 0, .slice none 0 0] 27)).alloc (.cells (madeCells #[Value.float .f32 0] n) 32)).alloc (.cells #[.int .i64 (L : Int), .int .i64 (L : Int), .slice (some ⟨w.heap.size + 1, 0, none⟩) n n] 27)) w.heap.size 0 0 (.slice none 0 0)) := Lib.hid (Tin.below (Tin.new (T := 27)) (by repeat (first | exact Below.refl _ _ | refine Below.drew ?_ | refine Below.drewN' ?_ _ | refine Below.alloc ?_ (by first | (simp; done) | (simp; omega)) _ | refine Below.setCell ?_ (by first | (simp; done) | (simp; omega)) _)))
  have HT1 : Hid (Tin (((w.alloc (.cells #[.int .i64 0, .int .i64 0, .slice none 0 0] 27)).alloc (.cells (madeCells #[Value.float .f32 0] n) 32)).alloc (.cells #[.int .i64 (L : Int), .int .i64 (L : Int), .slice (some ⟨w.heap.size + 1, 0, none⟩) n n] 27)) (w.heap.size + 2) L (L : Int) (.slice (some ⟨w.heap.size + 1, 0, none⟩) n n)) := Lib.hid (Tin.new' (w := ((w.alloc (.cells #[.int .i64 0, .int .i64 0, .slice none 0 0] 27)).alloc (.cells (madeCells #[Value.float .f32 0] n) 32))) (T := 27) (by simp))
  have HE : Hid (Ent.ok (((w.alloc (.cells #[.int .i64 0, .int .i64 0, .slice none 0 0] 27)).alloc (.cells (madeCells #[Value.float .f32 0] n) 32)).alloc (.cells #[.int .i64 (L : Int), .int .i64 (L : Int), .slice (some ⟨w.heap.size + 1, 0, none⟩) n n] 27)) (w.heap.size + 1) (.cl n (partV (nextV x L) L 0))) := Lib.hid (by
    have h := part_new (w.alloc (.cells #[.int .i64 0, .int .i64 0, .slice none 0 0] 27)) (nextV x L) L n 32
    have e : (w.alloc (.cells #[.int .i64 0, .int .i64 0, .slice none 0 0] 27)).heap.size = w.heap.size + 1 := by simp
    rw [e] at h
    exact h.below (by simp) (below_alloc _ _))
  have HW : Hid (Below w.heap.size w (((w.alloc (.cells #[.int .i64 0, .int .i64 0, .slice none 0 0] 27)).alloc (.cells (madeCells #[Value.float .f32 0] n) 32)).alloc (.cells #[.int .i64 (L : Int), .int .i64 (L : Int), .slice (some ⟨w.heap.size + 1, 0, none⟩) n n] 27))) := Lib.hid (by repeat (first | exact Below.refl _ _ | refine Below.drew ?_ | refine Below.drewN' ?_ _ | refine Below.alloc ?_ (by first | (simp; done) | (simp; omega)) _ | refine Below.setCell ?_ (by first | (simp; done) | (simp; omega)) _))
  have HSZ : Hid (w.heap.size + 2 < (((w.alloc (.cells #[.int .i64 0, .int .i64 0, .slice none 0 0] 27)).alloc (.cells (madeCells #[Value.float .f32 0] n) 32)).alloc (.cells #[.int .i64 (L : Int), .int .i64 (L : Int), .slice (some ⟨w.heap.size + 1, 0, none⟩) n n] 27)).heap.size) := Lib.hid (by simp)
  clear hn
  go_enter Try.func28, Try.ntmps28
  go_wp2_with (first | (go_at_call 65; refine (in_true (L : Int) 2 8 _ (by omega) (by omega)).mono ?_; rintro e w' ⟨rfl, rfl⟩) | (go_at_call 66; refine (shH_spec x _).mono ?_; rintro e w' ⟨rfl, rfl⟩) | go_in)
  go_loopw [7] (fun kv w' => ∃ (k : Nat) (wr : World), k ≤ L ∧ kv = .int .i64 k ∧ wr = w' ∧ Hid (Tin wr w.heap.size 0 0 (.slice none 0 0)) ∧ Hid (Tin wr (w.heap.size + 2) L (L : Int) (.slice (some ⟨w.heap.size + 1, 0, none⟩) n n)) ∧ Hid (Ent.ok wr (w.heap.size + 1) (.cl n (partV (nextV x L) L k))) ∧ Hid (Below w.heap.size w wr)) (fun kv _ => L - (intOf kv).toNat)
  case atStart => exact ⟨0, _, by omega, rfl, rfl, Lib.hid (HT0.out.below (by repeat (first | exact Below.refl _ _ | refine Below.drew ?_ | refine Below.drewN' ?_ _ | refine Below.alloc ?_ (by first | (simp; done) | (simp; omega)) _ | refine Below.setCell ?_ (by first | (simp; done) | (simp; omega)) _))), Lib.hid (HT1.out.below (by repeat (first | exact Below.refl _ _ | refine Below.drew ?_ | refine Below.drewN' ?_ _ | refine Below.alloc ?_ (by first | (simp; done) | (simp; omega)) _ | refine Below.setCell ?_ (by first | (simp; done) | (simp; omega)) _))), Lib.hid (HE.out.below (by have := HSZ.out; omega) (by repeat (first | exact Below.refl _ _ | refine Below.drew ?_ | refine Below.drewN' ?_ _ | refine Below.alloc ?_ (by first | (simp; done) | (simp; omega)) _ | refine Below.setCell ?_ (by first | (simp; done) | (simp; omega)) _))), Lib.hid (by first | exact HW.out | exact Below.drewN' HW.out _)⟩
  case round =>
    clear HT0 HT1 HE HW
    obtain ⟨i, wr, hk, rfl, rfl, HT0, HT1, HE, HW⟩ := hrel
    obtain ⟨hP, hp0, hp1, hp2, _, _, hpf⟩ := HT1.out
    by_cases hlt : i < L
    · clear hmk hwn
      obtain ⟨a, ha⟩ : ∃ a, a = i * L := ⟨_, rfl⟩
      obtain ⟨j, hj⟩ : ∃ j, j = (i + 1) % L := ⟨_, rfl⟩
      have hjl : j < L := by rw [hj]; exact Nat.mod_lt _ (by omega)
      have hji : ¬ j = i := by rw [hj]; exact next_ne hlt (by omega)
      obtain ⟨m1, hm1⟩ : ∃ m, m = a + i := ⟨_, rfl⟩
      obtain ⟨m2, hm2⟩ : ∃ m, m = a + j := ⟨_, rfl⟩
      have hin1 : m1 < n := by rw [hm1, ha, HN.out]; exact mul_in rfl hlt (by omega)
      have hin2 : m2 < n := by rw [hm2, ha, HN.out]; exact mul_in rfl hlt hjl
      have hw1 : IntKind.i64.wrap ((i : Int) * (L : Int)) = (a : Int) := by
        have e : (i : Int) * (L : Int) = (a : Int) := by rw [ha, Int.natCast_mul] <;> rfl
        rw [e]; exact IntWalk.i64_in _ (by omega)
      have hw2 : IntKind.i64.wrap ((a : Int) + (i : Int)) = (m1 : Int) := by rw [IntWalk.i64_in _ (by omega)]; omega
      have hw3 : IntKind.i64.wrap ((a : Int) + (j : Int)) = (m2 : Int) := by rw [IntWalk.i64_in _ (by omega)]; omega
      have hmod : (((i : Int) + 1).tmod (L : Int)) = (j : Int) := by rw [show ((i : Int) + 1) = ((i + 1 : Nat) : Int) by omega, ← Int.ofNat_tmod, hj]
      obtain ⟨z1, hck1, hfz1⟩ := HE.out.cl_cell hin1
      obtain ⟨z2, hck2, hfz2⟩ := HE.out.cl_cell hin2
      have hne1 : ¬ m1 = m2 := by omega
      have hne2 : ¬ m2 = m1 := by omega
      have HST : ∀ W, Hid (∀ jj, jj < n → (if jj = m2 then cls .f32 x else if jj = m1 then cls .f32 (fres .sub .f32 1065353216 x W) else partV (nextV x L) L i jj) = partV (nextV x L) L (i + 1) jj) := fun W => Lib.hid (fun jj _ => by rw [keep_cls, hm1, hm2, ha, hj]; exact next_part x L i jj hlt (by omega))
      have hst : ∀ (a : Addr) (m : Mode) (x : Nat) (w : World), (store a (.float .f32 x) m).run Try.prog w = stored Try.prog w a (.float .f32 x) m := fun a m x w => run_store Try.prog w a (.float .f32 x) m rfl
      clear ha hj hm1 hm2
      go_wp2
      go_region
      go_wp2
      exact ⟨⟨i + 1, _, by omega, by first | rfl | go_num | (congr 1), rfl, Lib.hid (by first | exact Tin.far (a := ⟨w.heap.size + 1, m2, none⟩) ((Tin.far (a := ⟨w.heap.size + 1, m1, none⟩) (Tin.drewN HT0.out _) (by simp) _)) (by simp) _ | exact Tin.far (a := ⟨w.heap.size + 1, m2, none⟩) ((Tin.far (a := ⟨w.heap.size + 1, m1, none⟩) (HT0.out) (by simp) _)) (by simp) _ | exact Tin.far (a := ⟨w.heap.size + 1, m2, none⟩) (Tin.drew (Tin.far (a := ⟨w.heap.size + 1, m1, none⟩) (Tin.drewN HT0.out _) (by simp) _)) (by simp) _ | exact Tin.far (a := ⟨w.heap.size + 1, m2, none⟩) (Tin.drewN (Tin.far (a := ⟨w.heap.size + 1, m1, none⟩) (Tin.drewN HT0.out _) (by simp) _) _) (by simp) _ | exact Tin.far (a := ⟨w.heap.size + 1, m2, none⟩) (Tin.drew (Tin.far (a := ⟨w.heap.size + 1, m1, none⟩) (HT0.out) (by simp) _)) (by simp) _ | exact Tin.far (a := ⟨w.heap.size + 1, m2, none⟩) (Tin.drewN (Tin.far (a := ⟨w.heap.size + 1, m1, none⟩) (HT0.out) (by simp) _) _) (by simp) _), Lib.hid (by first | exact Tin.far (a := ⟨w.heap.size + 1, m2, none⟩) ((Tin.far (a := ⟨w.heap.size + 1, m1, none⟩) (Tin.drewN HT1.out _) (by simp) _)) (by simp) _ | exact Tin.far (a := ⟨w.heap.size + 1, m2, none⟩) ((Tin.far (a := ⟨w.heap.size + 1, m1, none⟩) (HT1.out) (by simp) _)) (by simp) _ | exact Tin.far (a := ⟨w.heap.size + 1, m2, none⟩) (Tin.drew (Tin.far (a := ⟨w.heap.size + 1, m1, none⟩) (Tin.drewN HT1.out _) (by simp) _)) (by simp) _ | exact Tin.far (a := ⟨w.heap.size + 1, m2, none⟩) (Tin.drewN (Tin.far (a := ⟨w.heap.size + 1, m1, none⟩) (Tin.drewN HT1.out _) (by simp) _) _) (by simp) _ | exact Tin.far (a := ⟨w.heap.size + 1, m2, none⟩) (Tin.drew (Tin.far (a := ⟨w.heap.size + 1, m1, none⟩) (HT1.out) (by simp) _)) (by simp) _ | exact Tin.far (a := ⟨w.heap.size + 1, m2, none⟩) (Tin.drewN (Tin.far (a := ⟨w.heap.size + 1, m1, none⟩) (HT1.out) (by simp) _) _) (by simp) _), Lib.hid (by first | exact Ent.ok.cl_eq (Ent.ok.put ((Ent.ok.put (Ent.ok.drewN HE.out _) hin1)) hin2) (HST _).out | exact Ent.ok.cl_eq (Ent.ok.put ((Ent.ok.put (HE.out) hin1)) hin2) (HST _).out | exact Ent.ok.cl_eq (Ent.ok.put (Ent.ok.drew (Ent.ok.put (Ent.ok.drewN HE.out _) hin1)) hin2) (HST _).out | exact Ent.ok.cl_eq (Ent.ok.put (Ent.ok.drewN (Ent.ok.put (Ent.ok.drewN HE.out _) hin1) _) hin2) (HST _).out | exact Ent.ok.cl_eq (Ent.ok.put (Ent.ok.drew (Ent.ok.put (HE.out) hin1)) hin2) (HST _).out | exact Ent.ok.cl_eq (Ent.ok.put (Ent.ok.drewN (Ent.ok.put (HE.out) hin1) _) hin2) (HST _).out), Lib.hid (by repeat (first | exact HW.out | refine Below.drew ?_ | refine Below.drewN' ?_ _ | refine Below.setCell ?_ (by first | (simp; done) | (simp; omega)) _))⟩, by show L - ((i : Int) + 1).toNat < L - (i : Int).toNat; omega⟩
    · obtain rfl : i = L := by omega
      obtain ⟨g, hg⟩ : ∃ g, g = w.heap.size + 1 := ⟨_, rfl⟩
      obtain ⟨cp, hcp⟩ : ∃ cp, cp = n := ⟨_, rfl⟩
      rw [← hg] at HT1 HE hp2
      have hgl : g < wr.heap.size := by omega
      obtain ⟨zr, hg4, hl0, hc0⟩ := HE.out
      have HG3 : Hid (FRow wr (some ⟨g, 0, none⟩) n zr) := Lib.hid ⟨hl0, .inr ⟨g, 0, rfl, hgl, fun jj hjj => by rw [Nat.zero_add]; exact (hc0 jj hjj).1⟩⟩
      have HG4 : Hid (∀ jj, jj < n → cls .f32 (zr.getD jj 0) = nextV x i jj) := Lib.hid (fun jj hjj => by
        rw [hg4 jj hjj]; unfold partV
        rw [if_pos]
        exact (Nat.div_lt_iff_lt_mul (by omega)).2 (by rw [← HN.out]; exact hjj))
      have HG5 : Hid (Ent.ok wr g (.cl n (nextV x i))) := Lib.hid ⟨zr, HG4.out, hl0, hc0⟩
      have HG1 : Hid (w.heap.size + 1 ≤ g) := Lib.hid (by omega)
      have HG2 := Lib.hid hgl
      have HCAP : Hid (n ≤ cp) := Lib.hid (by omega)
      replace hp2 : wr.cell? ⟨w.heap.size + 2, 2, none⟩ = some (.slice (some ⟨g, 0, none⟩) n cp) := by rw [hcp]; exact hp2
      clear hg4 hl0 hc0 hmk hwn hg hcp HE
      have hnn := HN.out
      subst hnn
      go_wp2_with (first | (go_at_call 67; refine (hgS_yes (i : Int) (i : Nat) _ (i * i) _ zr _ HG3.out (by omega) HCAP.out (by rw [chan_V HG4.out]; exact HOK.out)).mono ?_; rintro e w3 ⟨rfl, hb⟩; have HR := Lib.hid (HT0.out.below hb); have HG5 := Lib.hid (HG5.out.below HG2.out hb); have HG2 := Lib.hid (Nat.lt_of_lt_of_le HG2.out hb.size); have HB2 := Lib.hid (Below.next HW.out hb); obtain ⟨_, hd0, hd1, hd2, hf0, hf1, hf2⟩ := HR.out; have HP3 := Lib.hid (HR.out.put3 (.int .i64 (i : Int)) (.int .i64 (i : Int)) (.slice (some ⟨g, 0, none⟩) (i * i) cp)); clear hb) | go_in)
      obtain ⟨hr0, hr1, hr2⟩ := HP3.out
      have hgne : w.heap.size ≠ g := by have := HG1.out; omega
      exact bodyPost_ret (v := .tuple #[.agg #[.int .i64 (i : Int), .int .i64 (i : Int), .slice (some ⟨g, 0, none⟩) (i * i) cp], .bool true]) (by simp [results, Try.results28, go_sem, hr0, hr1, hr2]) rfl
        ⟨g, cp, rfl, by have := HG1.out; omega, by simpa using HG2.out, Ent.ok.set (Ent.ok.set (Ent.ok.set HG5.out hgne _) hgne _) hgne _, by repeat (first | exact HB2.out | refine Below.setCell ?_ (by first | (simp; done) | (simp; omega)) _)⟩
set_option maxRecDepth 100000 in
set_option maxHeartbeats 8000000 in
theorem fcS_NextChannel_no (l : Int) (x : Nat) (w : World) (hok : okNext l x = false) :
    Calls Try.prog 28 #[.int .i64 l, .float .f32 x] w fun e w' => e = .returned (.tuple #[.agg #[.int .i64 0, .int .i64 0, .slice none 0 0], .bool false]) ∧ Below w.heap.size w w' := by
  unfold okNext at hok
  obtain ⟨i0, hi, hz0, hz1, hz2⟩ := info_parts Try.info32
  skip
  by_cases h1 : 2 ≤ l ∧ l ≤ 8
  · obtain ⟨L, rfl⟩ : ∃ L : Nat, l = L := ⟨l.toNat, by omega⟩
    cases h2 : shareH x with
    | false =>
      clear hok
      obtain ⟨hla, hlb⟩ := h1
      go_enter Try.func28, Try.ntmps28
      go_wp2_with (first | (go_at_call 65; refine (in_true (L : Int) 2 8 _ (by omega) (by omega)).mono ?_; rintro e w' ⟨rfl, rfl⟩) | (go_at_call 66; refine (shH_spec x _).mono ?_; rintro e w' ⟨rfl, rfl⟩) | go_in)
      exact bodyPost_ret (v := .tuple #[.agg #[.int .i64 0, .int .i64 0, .slice none 0 0], .bool false]) (by simp [results, Try.results28, go_sem]) rfl
        ⟨rfl, (by repeat (first | exact Below.refl _ _ | refine Below.drew ?_ | refine Below.drewN' ?_ _ | refine Below.alloc ?_ (by first | (simp; done) | (simp; omega)) _ | refine Below.setCell ?_ (by first | (simp; done) | (simp; omega)) _))⟩
    | true =>
      have h3 : chanVB (nextV x L) L L = false := by rw [decide_eq_true h1, h2] at hok; exact hok
      have HOK := Lib.hid h3
      obtain ⟨hla, hlb⟩ := h1
      clear hok h3
      obtain ⟨n, hn⟩ : ∃ n, n = L * L := ⟨_, rfl⟩
      have hn72 : n ≤ 72 := by rw [hn]; exact Nat.le_trans (Nat.mul_le_mul (by omega : L ≤ 8) (by omega : L ≤ 9)) (by decide)
      have hwn : IntKind.i64.wrap ((L : Int) * (L : Int)) = (n : Int) := by
        have e : (L : Int) * (L : Int) = (n : Int) := by rw [hn, Int.natCast_mul] <;> rfl
        rw [e]; exact IntWalk.i64_in _ (by omega)
      have hmk := fun w2 : World => run_make_row' (P := Try.prog) 22 32 (.float .f32 0) 4 Try.underlying22 Try.info32 rfl .i64 .i64 n (by omega) (by omega) w2
      have HN := Lib.hid hn
      have HT0 : Hid (Tin (((w.alloc (.cells #[.int .i64 0, .int .i64 0, .slice none 0 0] 27)).alloc (.cells (madeCells #[Value.float .f32 0] n) 32)).alloc (.cells #[.int .i64 (L : Int), .int .i64 (L : Int), .slice (some ⟨w.heap.size + 1, 0, none⟩) n n] 27)) w.heap.size 0 0 (.slice none 0 0)) := Lib.hid (Tin.below (Tin.new (T := 27)) (by repeat (first | exact Below.refl _ _ | refine Below.drew ?_ | refine Below.drewN' ?_ _ | refine Below.alloc ?_ (by first | (simp; done) | (simp; omega)) _ | refine Below.setCell ?_ (by first | (simp; done) | (simp; omega)) _)))
      have HT1 : Hid (Tin (((w.alloc (.cells #[.int .i64 0, .int .i64 0, .slice none 0 0] 27)).alloc (.cells (madeCells #[Value.float .f32 0] n) 32)).alloc (.cells #[.int .i64 (L : Int), .int .i64 (L : Int), .slice (some ⟨w.heap.size + 1, 0, none⟩) n n] 27)) (w.heap.size + 2) L (L : Int) (.slice (some ⟨w.heap.size + 1, 0, none⟩) n n)) := Lib.hid (Tin.new' (w := ((w.alloc (.cells #[.int .i64 0, .int .i64 0, .slice none 0 0] 27)).alloc (.cells (madeCells #[Value.float .f32 0] n) 32))) (T := 27) (by simp))
      have HE : Hid (Ent.ok (((w.alloc (.cells #[.int .i64 0, .int .i64 0, .slice none 0 0] 27)).alloc (.cells (madeCells #[Value.float .f32 0] n) 32)).alloc (.cells #[.int .i64 (L : Int), .int .i64 (L : Int), .slice (some ⟨w.heap.size + 1, 0, none⟩) n n] 27)) (w.heap.size + 1) (.cl n (partV (nextV x L) L 0))) := Lib.hid (by
        have h := part_new (w.alloc (.cells #[.int .i64 0, .int .i64 0, .slice none 0 0] 27)) (nextV x L) L n 32
        have e : (w.alloc (.cells #[.int .i64 0, .int .i64 0, .slice none 0 0] 27)).heap.size = w.heap.size + 1 := by simp
        rw [e] at h
        exact h.below (by simp) (below_alloc _ _))
      have HW : Hid (Below w.heap.size w (((w.alloc (.cells #[.int .i64 0, .int .i64 0, .slice none 0 0] 27)).alloc (.cells (madeCells #[Value.float .f32 0] n) 32)).alloc (.cells #[.int .i64 (L : Int), .int .i64 (L : Int), .slice (some ⟨w.heap.size + 1, 0, none⟩) n n] 27))) := Lib.hid (by repeat (first | exact Below.refl _ _ | refine Below.drew ?_ | refine Below.drewN' ?_ _ | refine Below.alloc ?_ (by first | (simp; done) | (simp; omega)) _ | refine Below.setCell ?_ (by first | (simp; done) | (simp; omega)) _))
      have HSZ : Hid (w.heap.size + 2 < (((w.alloc (.cells #[.int .i64 0, .int .i64 0, .slice none 0 0] 27)).alloc (.cells (madeCells #[Value.float .f32 0] n) 32)).alloc (.cells #[.int .i64 (L : Int), .int .i64 (L : Int), .slice (some ⟨w.heap.size + 1, 0, none⟩) n n] 27)).heap.size) := Lib.hid (by simp)
      clear hn
      go_enter Try.func28, Try.ntmps28
      go_wp2_with (first | (go_at_call 65; refine (in_true (L : Int) 2 8 _ (by omega) (by omega)).mono ?_; rintro e w' ⟨rfl, rfl⟩) | (go_at_call 66; refine (shH_spec x _).mono ?_; rintro e w' ⟨rfl, rfl⟩) | go_in)
      go_loopw [7] (fun kv w' => ∃ (k : Nat) (wr : World), k ≤ L ∧ kv = .int .i64 k ∧ wr = w' ∧ Hid (Tin wr w.heap.size 0 0 (.slice none 0 0)) ∧ Hid (Tin wr (w.heap.size + 2) L (L : Int) (.slice (some ⟨w.heap.size + 1, 0, none⟩) n n)) ∧ Hid (Ent.ok wr (w.heap.size + 1) (.cl n (partV (nextV x L) L k))) ∧ Hid (Below w.heap.size w wr)) (fun kv _ => L - (intOf kv).toNat)
      case atStart => exact ⟨0, _, by omega, rfl, rfl, Lib.hid (HT0.out.below (by repeat (first | exact Below.refl _ _ | refine Below.drew ?_ | refine Below.drewN' ?_ _ | refine Below.alloc ?_ (by first | (simp; done) | (simp; omega)) _ | refine Below.setCell ?_ (by first | (simp; done) | (simp; omega)) _))), Lib.hid (HT1.out.below (by repeat (first | exact Below.refl _ _ | refine Below.drew ?_ | refine Below.drewN' ?_ _ | refine Below.alloc ?_ (by first | (simp; done) | (simp; omega)) _ | refine Below.setCell ?_ (by first | (simp; done) | (simp; omega)) _))), Lib.hid (HE.out.below (by have := HSZ.out; omega) (by repeat (first | exact Below.refl _ _ | refine Below.drew ?_ | refine Below.drewN' ?_ _ | refine Below.alloc ?_ (by first | (simp; done) | (simp; omega)) _ | refine Below.setCell ?_ (by first | (simp; done) | (simp; omega)) _))), Lib.hid (by first | exact HW.out | exact Below.drewN' HW.out _)⟩
      case round =>
        clear HT0 HT1 HE HW
        obtain ⟨i, wr, hk, rfl, rfl, HT0, HT1, HE, HW⟩ := hrel
        obtain ⟨hP, hp0, hp1, hp2, _, _, hpf⟩ := HT1.out
        by_cases hlt : i < L
        · clear hmk hwn
          obtain ⟨a, ha⟩ : ∃ a, a = i * L := ⟨_, rfl⟩
          obtain ⟨j, hj⟩ : ∃ j, j = (i + 1) % L := ⟨_, rfl⟩
          have hjl : j < L := by rw [hj]; exact Nat.mod_lt _ (by omega)
          have hji : ¬ j = i := by rw [hj]; exact next_ne hlt (by omega)
          obtain ⟨m1, hm1⟩ : ∃ m, m = a + i := ⟨_, rfl⟩
          obtain ⟨m2, hm2⟩ : ∃ m, m = a + j := ⟨_, rfl⟩
          have hin1 : m1 < n := by rw [hm1, ha, HN.out]; exact mul_in rfl hlt (by omega)
          have hin2 : m2 < n := by rw [hm2, ha, HN.out]; exact mul_in rfl hlt hjl
          have hw1 : IntKind.i64.wrap ((i : Int) * (L : Int)) = (a : Int) := by
            have e : (i : Int) * (L : Int) = (a : Int) := by rw [ha, Int.natCast_mul] <;> rfl
            rw [e]; exact IntWalk.i64_in _ (by omega)
          have hw2 : IntKind.i64.wrap ((a : Int) + (i : Int)) = (m1 : Int) := by rw [IntWalk.i64_in _ (by omega)]; omega
          have hw3 : IntKind.i64.wrap ((a : Int) + (j : Int)) = (m2 : Int) := by rw [IntWalk.i64_in _ (by omega)]; omega
          have hmod : (((i : Int) + 1).tmod (L : Int)) = (j : Int) := by rw [show ((i : Int) + 1) = ((i + 1 : Nat) : Int) by omega, ← Int.ofNat_tmod, hj]
          obtain ⟨z1, hck1, hfz1⟩ := HE.out.cl_cell hin1
          obtain ⟨z2, hck2, hfz2⟩ := HE.out.cl_cell hin2
          have hne1 : ¬ m1 = m2 := by omega
          have hne2 : ¬ m2 = m1 := by omega
          have HST : ∀ W, Hid (∀ jj, jj < n → (if jj = m2 then cls .f32 x else if jj = m1 then cls .f32 (fres .sub .f32 1065353216 x W) else partV (nextV x L) L i jj) = partV (nextV x L) L (i + 1) jj) := fun W => Lib.hid (fun jj _ => by rw [keep_cls, hm1, hm2, ha, hj]; exact next_part x L i jj hlt (by omega))
          have hst : ∀ (a : Addr) (m : Mode) (x : Nat) (w : World), (store a (.float .f32 x) m).run Try.prog w = stored Try.prog w a (.float .f32 x) m := fun a m x w => run_store Try.prog w a (.float .f32 x) m rfl
          clear ha hj hm1 hm2
          go_wp2
          go_region
          go_wp2
          exact ⟨⟨i + 1, _, by omega, by first | rfl | go_num | (congr 1), rfl, Lib.hid (by first | exact Tin.far (a := ⟨w.heap.size + 1, m2, none⟩) ((Tin.far (a := ⟨w.heap.size + 1, m1, none⟩) (Tin.drewN HT0.out _) (by simp) _)) (by simp) _ | exact Tin.far (a := ⟨w.heap.size + 1, m2, none⟩) ((Tin.far (a := ⟨w.heap.size + 1, m1, none⟩) (HT0.out) (by simp) _)) (by simp) _ | exact Tin.far (a := ⟨w.heap.size + 1, m2, none⟩) (Tin.drew (Tin.far (a := ⟨w.heap.size + 1, m1, none⟩) (Tin.drewN HT0.out _) (by simp) _)) (by simp) _ | exact Tin.far (a := ⟨w.heap.size + 1, m2, none⟩) (Tin.drewN (Tin.far (a := ⟨w.heap.size + 1, m1, none⟩) (Tin.drewN HT0.out _) (by simp) _) _) (by simp) _ | exact Tin.far (a := ⟨w.heap.size + 1, m2, none⟩) (Tin.drew (Tin.far (a := ⟨w.heap.size + 1, m1, none⟩) (HT0.out) (by simp) _)) (by simp) _ | exact Tin.far (a := ⟨w.heap.size + 1, m2, none⟩) (Tin.drewN (Tin.far (a := ⟨w.heap.size + 1, m1, none⟩) (HT0.out) (by simp) _) _) (by simp) _), Lib.hid (by first | exact Tin.far (a := ⟨w.heap.size + 1, m2, none⟩) ((Tin.far (a := ⟨w.heap.size + 1, m1, none⟩) (Tin.drewN HT1.out _) (by simp) _)) (by simp) _ | exact Tin.far (a := ⟨w.heap.size + 1, m2, none⟩) ((Tin.far (a := ⟨w.heap.size + 1, m1, none⟩) (HT1.out) (by simp) _)) (by simp) _ | exact Tin.far (a := ⟨w.heap.size + 1, m2, none⟩) (Tin.drew (Tin.far (a := ⟨w.heap.size + 1, m1, none⟩) (Tin.drewN HT1.out _) (by simp) _)) (by simp) _ | exact Tin.far (a := ⟨w.heap.size + 1, m2, none⟩) (Tin.drewN (Tin.far (a := ⟨w.heap.size + 1, m1, none⟩) (Tin.drewN HT1.out _) (by simp) _) _) (by simp) _ | exact Tin.far (a := ⟨w.heap.size + 1, m2, none⟩) (Tin.drew (Tin.far (a := ⟨w.heap.size + 1, m1, none⟩) (HT1.out) (by simp) _)) (by simp) _ | exact Tin.far (a := ⟨w.heap.size + 1, m2, none⟩) (Tin.drewN (Tin.far (a := ⟨w.heap.size + 1, m1, none⟩) (HT1.out) (by simp) _) _) (by simp) _), Lib.hid (by first | exact Ent.ok.cl_eq (Ent.ok.put ((Ent.ok.put (Ent.ok.drewN HE.out _) hin1)) hin2) (HST _).out | exact Ent.ok.cl_eq (Ent.ok.put ((Ent.ok.put (HE.out) hin1)) hin2) (HST _).out | exact Ent.ok.cl_eq (Ent.ok.put (Ent.ok.drew (Ent.ok.put (Ent.ok.drewN HE.out _) hin1)) hin2) (HST _).out | exact Ent.ok.cl_eq (Ent.ok.put (Ent.ok.drewN (Ent.ok.put (Ent.ok.drewN HE.out _) hin1) _) hin2) (HST _).out | exact Ent.ok.cl_eq (Ent.ok.put (Ent.ok.drew (Ent.ok.put (HE.out) hin1)) hin2) (HST _).out | exact Ent.ok.cl_eq (Ent.ok.put (Ent.ok.drewN (Ent.ok.put (HE.out) hin1) _) hin2) (HST _).out), Lib.hid (by repeat (first | exact HW.out | refine Below.drew ?_ | refine Below.drewN' ?_ _ | refine Below.setCell ?_ (by first | (simp; done) | (simp; omega)) _))⟩, by show L - ((i : Int) + 1).toNat < L - (i : Int).toNat; omega⟩
        · obtain rfl : i = L := by omega
          obtain ⟨g, hg⟩ : ∃ g, g = w.heap.size + 1 := ⟨_, rfl⟩
          obtain ⟨cp, hcp⟩ : ∃ cp, cp = n := ⟨_, rfl⟩
          rw [← hg] at HT1 HE hp2
          have hgl : g < wr.heap.size := by omega
          obtain ⟨zr, hg4, hl0, hc0⟩ := HE.out
          have HG3 : Hid (FRow wr (some ⟨g, 0, none⟩) n zr) := Lib.hid ⟨hl0, .inr ⟨g, 0, rfl, hgl, fun jj hjj => by rw [Nat.zero_add]; exact (hc0 jj hjj).1⟩⟩
          have HG4 : Hid (∀ jj, jj < n → cls .f32 (zr.getD jj 0) = nextV x i jj) := Lib.hid (fun jj hjj => by
            rw [hg4 jj hjj]; unfold partV
            rw [if_pos]
            exact (Nat.div_lt_iff_lt_mul (by omega)).2 (by rw [← HN.out]; exact hjj))
          have HG5 : Hid (Ent.ok wr g (.cl n (nextV x i))) := Lib.hid ⟨zr, HG4.out, hl0, hc0⟩
          have HG1 : Hid (w.heap.size + 1 ≤ g) := Lib.hid (by omega)
          have HG2 := Lib.hid hgl
          have HCAP : Hid (n ≤ cp) := Lib.hid (by omega)
          replace hp2 : wr.cell? ⟨w.heap.size + 2, 2, none⟩ = some (.slice (some ⟨g, 0, none⟩) n cp) := by rw [hcp]; exact hp2
          clear hg4 hl0 hc0 hmk hwn hg hcp HE
          have hnn := HN.out
          subst hnn
          go_wp2_with (first | (go_at_call 67; refine (hgS_no (i : Int) (i : Nat) _ (i * i) _ zr _ HG3.out (by omega) HCAP.out (by rw [chan_V HG4.out]; exact HOK.out)).mono ?_; rintro e w3 ⟨rfl, hb⟩; have HR := Lib.hid (HT0.out.below hb); have HG5 := Lib.hid (HG5.out.below HG2.out hb); have HG2 := Lib.hid (Nat.lt_of_lt_of_le HG2.out hb.size); have HB2 := Lib.hid (Below.next HW.out hb); obtain ⟨_, hd0, hd1, hd2, hf0, hf1, hf2⟩ := HR.out; have HP3 := Lib.hid (HR.out.put3 (.int .i64 0) (.int .i64 0) (.slice none 0 0)); clear hb) | go_in)
          obtain ⟨hr0, hr1, hr2⟩ := HP3.out
          exact bodyPost_ret (v := .tuple #[.agg #[.int .i64 0, .int .i64 0, .slice none 0 0], .bool false]) (by simp [results, Try.results28, go_sem, hr0, hr1, hr2]) rfl
            ⟨rfl, by repeat (first | exact HB2.out | refine Below.setCell ?_ (by first | (simp; done) | (simp; omega)) _)⟩
  · have H1 := Lib.hid h1
    clear hok h1
    go_enter Try.func28, Try.ntmps28
    go_wp2_with (first | (go_at_call 65; refine (in_false l 2 8 _ H1.out).mono ?_; rintro e w' ⟨rfl, rfl⟩) | go_in)
    exact bodyPost_ret (v := .tuple #[.agg #[.int .i64 0, .int .i64 0, .slice none 0 0], .bool false]) (by simp [results, Try.results28, go_sem]) rfl
      ⟨rfl, (by repeat (first | exact Below.refl _ _ | refine Below.drew ?_ | refine Below.drewN' ?_ _ | refine Below.alloc ?_ (by first | (simp; done) | (simp; omega)) _ | refine Below.setCell ?_ (by first | (simp; done) | (simp; omega)) _))⟩
end Go.Proofs.Ytffamppflelflaa
