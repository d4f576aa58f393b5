/- Turned tables: walks. -/
import Derived.Test.YtffamppflelflaaRpb
import Derived.Deep.RegionLaw
namespace Go.Proofs.Ytffamppflelflaa
open Go.Proofs.Ytffamppflelflaa.Flo Go.RowKit

/-- The chances of a turned table. -/
def turnV (zs : List Nat) (R C : Nat) (j : Nat) : Option Nat := cls .f32 (zs.getD ((j % R) * C + j / R) 0)
theorem turn_at (zs : List Nat) {R C k i : Nat} (hi : i < R) : turnV zs R C (k * R + i) = cls .f32 (zs.getD (i * C + k) 0) := by
  unfold turnV
  rw [Nat.mul_comm k R, Nat.mul_add_mod, Nat.mod_eq_of_lt hi, Nat.mul_add_div (by omega), Nat.div_eq_of_lt hi, Nat.add_zero]
/-- A struct of a table in the making. -/
def Tin (w : World) (p : Nat) (r c : Int) (v : Value) : Prop :=
  p < w.heap.size ∧ w.cell? ⟨p, 0, none⟩ = some (.int .i64 r) ∧ w.cell? ⟨p, 1, none⟩ = some (.int .i64 c) ∧ w.cell? ⟨p, 2, none⟩ = some v ∧ w.frozen? ⟨p, 0, none⟩ = false ∧ w.frozen? ⟨p, 1, none⟩ = false ∧ w.frozen? ⟨p, 2, none⟩ = false
theorem Tin.below {w w' : World} {p : Nat} {r c : Int} {v : Value} (h : Tin w p r c v) (hb : Below w.heap.size w w') : Tin w' p r c v := by
  obtain ⟨hp, h0, h1, h2, f0, f1, f2⟩ := h
  exact ⟨Nat.lt_of_lt_of_le hp hb.size, (hb.cell (p := ⟨p, 0, none⟩) hp).trans h0, (hb.cell (p := ⟨p, 1, none⟩) hp).trans h1, (hb.cell (p := ⟨p, 2, none⟩) hp).trans h2, (hb.frozen (p := ⟨p, 0, none⟩) hp).trans f0, (hb.frozen (p := ⟨p, 1, none⟩) hp).trans f1, (hb.frozen (p := ⟨p, 2, none⟩) hp).trans f2⟩
theorem Tin.grown {w w' : World} {row : Option Nat} {p : Nat} {r c : Int} {v : Value} (hg : w.grownBy w' row) (hne : some p ≠ row) (h : Tin w p r c v) : Tin w' p r c v := by
  obtain ⟨hp, h0, h1, h2, f0, f1, f2⟩ := h
  have hb := hg.block p hp hne
  refine ⟨Nat.lt_of_lt_of_le hp hg.size, ?_, ?_, ?_, ?_, ?_, ?_⟩
  · rw [World.cell?_of_block (a := ⟨p, 0, none⟩) hb]; exact h0
  · rw [World.cell?_of_block (a := ⟨p, 1, none⟩) hb]; exact h1
  · rw [World.cell?_of_block (a := ⟨p, 2, none⟩) hb]; exact h2
  · rw [World.frozen?_of_block (a := ⟨p, 0, none⟩) hb]; exact f0
  · rw [World.frozen?_of_block (a := ⟨p, 1, none⟩) hb]; exact f1
  · rw [World.frozen?_of_block (a := ⟨p, 2, none⟩) hb]; exact f2
theorem Tin.set {w : World} {p : Nat} {r c : Int} {v : Value} (h : Tin w p r c v) (v' : Value) : Tin (w.setCell ⟨p, 2, none⟩ v') p r c v' := by
  obtain ⟨hp, h0, h1, h2, f0, f1, f2⟩ := h
  refine ⟨by rw [World.size_setCell]; exact hp, ?_, ?_, ?_, ?_, ?_, ?_⟩
  · rw [World.cell?_setCell_other (h := fun e => by injection e with _ e2 _; exact absurd e2 (by decide))]; exact h0
  · rw [World.cell?_setCell_other (h := fun e => by injection e with _ e2 _; exact absurd e2 (by decide))]; exact h1
  · rw [World.cell?_setCell_same (h := h2)]
  · rw [World.frozen?_setCell]; exact f0
  · rw [World.frozen?_setCell]; exact f1
  · rw [World.frozen?_setCell]; exact f2
theorem Tin.far {w : World} {p : Nat} {r c : Int} {v : Value} (h : Tin w p r c v) {a : Addr} (ha : a.block ≠ p) (v' : Value) : Tin (w.setCell a v') p r c v := by
  obtain ⟨hp, h0, h1, h2, f0, f1, f2⟩ := h
  refine ⟨by rw [World.size_setCell]; exact hp, ?_, ?_, ?_, ?_, ?_, ?_⟩
  · rw [World.cell?_setCell_other (h := fun e => ha (by rw [e]))]; exact h0
  · rw [World.cell?_setCell_other (h := fun e => ha (by rw [e]))]; exact h1
  · rw [World.cell?_setCell_other (h := fun e => ha (by rw [e]))]; exact h2
  · rw [World.frozen?_setCell]; exact f0
  · rw [World.frozen?_setCell]; exact f1
  · rw [World.frozen?_setCell]; exact f2
theorem Got.setCell {w : World} {base : Nat} {T : TypeId} {v : Value} {k : Nat} {V : Nat → Option Nat} (h : Got w base T v k V) (a : Addr) (u : Value) (ha : a.block < base) : Got (w.setCell a u) base T v k V := by
  obtain ⟨zs, h1, hl, h2⟩ := h
  refine ⟨zs, h1, hl, ?_⟩
  rcases h2 with h2 | ⟨g, cap, cur, e1, e2, e3, e4⟩
  · exact .inl h2
  · refine .inr ⟨g, cap, cur, e1, e2, ?_, e4⟩
    rw [Below.heap_setCell w a u g (by omega)]
    exact e3
theorem Got.form {w : World} {base : Nat} {T : TypeId} {v : Value} {n : Nat} {V : Nat → Option Nat} (h : Got w base T v n V) (hn : 0 < n) : ∃ g cap, v = .slice (some ⟨g, 0, none⟩) n cap ∧ n ≤ cap := by
  obtain ⟨zs, h1, hl, h2⟩ := h
  rcases h2 with ⟨_, h2⟩ | ⟨g, cap, cur, rfl, _, _, h3, _⟩
  · omega
  · exact ⟨g, cap, rfl, h3⟩
theorem Tin.put3 {w : World} {p : Nat} {r c : Int} {v : Value} (h : Tin w p r c v) (x y z : Value) :
    (w.setCell ⟨p, 0, none⟩ x).cell? ⟨p, 0, none⟩ = some x ∧ ((w.setCell ⟨p, 0, none⟩ x).setCell ⟨p, 1, none⟩ y).cell? ⟨p, 1, none⟩ = some y ∧ (((w.setCell ⟨p, 0, none⟩ x).setCell ⟨p, 1, none⟩ y).setCell ⟨p, 2, none⟩ z).cell? ⟨p, 2, none⟩ = some z := by
  obtain ⟨hp, h0, h1, h2, _⟩ := h
  refine ⟨World.cell?_setCell_same _ _ _ h0, ?_, ?_⟩
  · refine World.cell?_setCell_same _ _ _ (?_ : _ = some (.int .i64 c))
    rw [World.cell?_setCell_other (h := fun e => by injection e with _ e2 _; exact absurd e2 (by decide))]; exact h1
  · refine World.cell?_setCell_same _ _ _ (?_ : _ = some v)
    rw [World.cell?_setCell_other (h := fun e => by injection e with _ e2 _; exact absurd e2 (by decide)), World.cell?_setCell_other (h := fun e => by injection e with _ e2 _; exact absurd e2 (by decide))]; exact h2
theorem Tin.new {w : World} {r c : Int} {v : Value} {T : TypeId} : Tin (w.alloc (.cells #[.int .i64 r, .int .i64 c, v] T)) w.heap.size r c v :=
  ⟨by simp, by rw [World.cell?_alloc_at _ _ _ _ rfl]; rfl, by rw [World.cell?_alloc_at _ _ _ _ rfl]; rfl, by rw [World.cell?_alloc_at _ _ _ _ rfl]; rfl, World.frozen?_alloc_at _ _ _ _ rfl, World.frozen?_alloc_at _ _ _ _ rfl, World.frozen?_alloc_at _ _ _ _ rfl⟩
theorem Tin.new' {w : World} {p : Nat} {r c : Int} {v : Value} {T : TypeId} (hp : p = w.heap.size) : Tin (w.alloc (.cells #[.int .i64 r, .int .i64 c, v] T)) p r c v := by subst hp; exact Tin.new
theorem row_cell2 {w : World} {b o n : Nat} {zs : List Nat} (h : FRow w (some ⟨b, o, none⟩) n zs) {k : Nat} (hk : k < n) : w.cell? ⟨b, o + k, none⟩ = some (.float .f32 (zs.getD k 0)) := by
  rcases h.2 with h0 | ⟨b1, o1, e, _, hc⟩
  · omega
  · injection e with e
    injection e with e1 e2
    subst e1; subst e2
    exact hc k hk
theorem mul_in {R C n i k : Nat} (hn : n = R * C) (hi : i < R) (hk : k < C) : i * C + k < n := by
  have : i * C + C ≤ n := by rw [hn, ← Nat.succ_mul]; exact Nat.mul_le_mul_right _ hi
  omega
set_option maxRecDepth 100000 in
set_option maxHeartbeats 8000000 in
theorem turn_impl (b off R C n : Nat) (zs : List Nat) (w : World)
    (ha : FRow w (some ⟨b, off, none⟩) n zs) (hn : n = R * C) (hR : 1 ≤ R ∧ R ≤ 8) (hC : 1 ≤ C ∧ C ≤ 8) :
    Calls Try.prog 86 #[.agg #[.int .i64 (R : Int), .int .i64 (C : Int), .slice (some ⟨b, off, none⟩) n n]] w fun e w' => ∃ g cap, e = .returned (.agg #[.int .i64 (C : Int), .int .i64 (R : Int), .slice (some ⟨g, 0, none⟩) n cap]) ∧ n ≤ cap ∧ Got w' w.heap.size 32 (.slice (some ⟨g, 0, none⟩) n cap) n (turnV zs R C) ∧ Below w.heap.size w w' := by
  obtain ⟨i0, hi, hz0, hz1, hz2⟩ := info_parts Try.info32
  have HA := Lib.hid ha
  have HN := Lib.hid hn
  obtain ⟨hR1, hR2⟩ := hR
  obtain ⟨hC1, hC2⟩ := hC
  have hn64 : n ≤ 64 := by rw [hn]; exact Nat.le_trans (Nat.mul_le_mul hR2 hC2) (by decide)
  have HBN : b < w.heap.size := by
    rcases HA.out.2 with h | ⟨b', o', e, hb', _⟩
    · have := Nat.mul_pos hR1 hC1; omega
    · injection e with e; injection e with e1 e2; subst e1; exact hb'
  clear ha hn
  go_enter Try.func86, Try.ntmps86
  go_wp2
  go_loopw [13] (fun kv w' => ∃ (k : Nat) (v : Value) (wr : World), k ≤ C ∧ kv = .int .i64 k ∧ wr = w' ∧ Hid (Tin wr w.heap.size R C (.slice (some ⟨b, off, none⟩) n n)) ∧ Hid (Tin wr (w.heap.size + 1) 0 0 (.slice none 0 0)) ∧ Hid (Tin wr (w.heap.size + 2) C R v) ∧ Hid (Got wr (w.heap.size + 3) 32 v (k * R) (turnV zs R C)) ∧ Hid (Below w.heap.size w wr)) (fun kv _ => C - (intOf kv).toNat)
  case atStart => exact ⟨0, _, _, by omega, rfl, rfl, Lib.hid (Tin.below (Tin.new (T := 44)) (by repeat (first | exact Below.refl _ _ | refine Below.drew ?_ | refine Below.drewN' ?_ _ | refine Below.alloc ?_ (by first | (simp; done) | (simp; omega)) _))), Lib.hid (Tin.below (Tin.new' (w := w.alloc (.cells #[.int .i64 (R : Int), .int .i64 (C : Int), .slice (some ⟨b, off, none⟩) n n] 44)) (T := 44) (by simp)) (by repeat (first | exact Below.refl _ _ | refine Below.drew ?_ | refine Below.drewN' ?_ _ | refine Below.alloc ?_ (by first | (simp; done) | (simp; omega)) _))), Lib.hid (Tin.below (Tin.new' (w := (w.alloc (.cells #[.int .i64 (R : Int), .int .i64 (C : Int), .slice (some ⟨b, off, none⟩) n n] 44)).alloc (.cells #[.int .i64 0, .int .i64 0, .slice none 0 0] 44)) (T := 44) (by simp)) (by repeat (first | exact Below.refl _ _ | refine Below.drew ?_ | refine Below.drewN' ?_ _ | refine Below.alloc ?_ (by first | (simp; done) | (simp; omega)) _))), Lib.hid (by rw [Nat.zero_mul]; exact Got.nil _ _ _ _), Lib.hid (by repeat (first | exact Below.refl _ _ | refine Below.drew ?_ | refine Below.drewN' ?_ _ | refine Below.alloc ?_ (by first | (simp; done) | (simp; omega)) _))⟩
  case round =>
    obtain ⟨k, v0, wr0, hk, rfl, rfl, HTB, HT0, HT1, HO, HW⟩ := hrel
    obtain ⟨_, hc0, hc1, hc2, _⟩ := HTB.out
    by_cases hlt : k < C
    · go_wp2
      clear hc0 hc1 hc2
      go_loopw [18] (fun iv w' => ∃ (i : Nat) (v : Value) (wr : World), i ≤ R ∧ iv = .int .i64 i ∧ wr = w' ∧ Hid (Tin wr w.heap.size R C (.slice (some ⟨b, off, none⟩) n n)) ∧ Hid (Tin wr (w.heap.size + 1) 0 0 (.slice none 0 0)) ∧ Hid (Tin wr (w.heap.size + 2) C R v) ∧ Hid (Got wr (w.heap.size + 3) 32 v (k * R + i) (turnV zs R C)) ∧ Hid (Below w.heap.size w wr)) (fun iv _ => R - (intOf iv).toNat)
      case atStart => exact ⟨0, v0, _, by omega, rfl, rfl, HTB, HT0, HT1, HO, HW⟩
      case round =>
        clear HTB HT0 HT1 HO HW
        obtain ⟨i, v, wr, hi2, rfl, rfl, HTB, HT0, HT1, HO, HW⟩ := hrel
        obtain ⟨_, hc0, hc1, hc2, _⟩ := HTB.out
        by_cases hlt2 : i < R
        · have hin := mul_in HN.out hlt2 hlt
          have hkr : k * R + i + 1 ≤ 64 := by
            have := mul_in (n := n) (R := C) (C := R) (by rw [HN.out, Nat.mul_comm]) hlt hlt2
            omega
          have hic : i * C ≤ 64 := by omega
          obtain ⟨m, hm⟩ : ∃ m, m = i * C := ⟨_, rfl⟩
          obtain ⟨x, hx⟩ : ∃ x, x = m + k := ⟨_, rfl⟩
          have hw1 : IntKind.i64.wrap ((i : Int) * (C : Int)) = (m : Int) := by rw [hm, Int.natCast_mul]; exact IntWalk.i64_in _ (by rw [← Int.natCast_mul]; omega)
          have hw2 : IntKind.i64.wrap ((m : Int) + (k : Int)) = (x : Int) := by rw [IntWalk.i64_in _ (by omega)]; omega
          have hxn : x < n := by omega
          have hck : wr.cell? ⟨b, off + x, none⟩ = some (.float .f32 (zs.getD x 0)) := row_cell2 (HA.out.below HW.out) hxn
          have HV : Hid (cls .f32 (zs.getD x 0) = turnV zs R C (k * R + i)) := Lib.hid (by rw [turn_at zs hlt2, hx, hm])
          generalize zs.getD x 0 = z at hck HV
          clear hm hx
          obtain ⟨hP, hp0, hp1, hp2, _, _, hpf⟩ := HT1.out
          obtain ⟨zs0, hz, ho⟩ := HO.out
          have HZ := Lib.hid hz
          have HO1 := Lib.hid ho
          have HNE := Lib.hid (own_block ho)
          have hsz := HW.out.size
          have hn2 : some b ≠ v.ownBlock := fun e => by have := own_block ho b e.symm; omega
          have hn3 : some (w.heap.size + 2) ≠ v.ownBlock := fun e => by have := own_block ho _ e.symm; omega
          have hn4 : some (w.heap.size + 1) ≠ v.ownBlock := fun e => by have := own_block ho _ e.symm; omega
          have hn5 : some w.heap.size ≠ v.ownBlock := fun e => by have := own_block ho _ e.symm; omega
          have hz64 : k * R + i ≤ 64 := by omega
          generalize hkk : k * R + i = K at HZ HO1 HV hz64 hkr
          clear hz ho
          go_wp2
          go_region_law (first | (refine step_append_lies _ (by rfl) _ _ _ (by rfl) (w.heap.size + 3) 32 i0 (.float .f32 0) 1 4 Try.underlying22 hi hz0 hz1 hz2 rfl (by omega) v K (zs0.map (Value.float .f32)) (by rfl) ((HO1.out.alloc _).drew) ⟨wr.heap.size, 0, none⟩ 1 1 [.float .f32 z] (by rfl) (by rfl) (World.news_of_block (cs := #[.float .f32 z]) (t := 32) (fr := (0, 0)) (heap_alloc_new _ _)) (by simp [Value.oneCell']) (by omega) (by unfold maxLen; omega) (by omega) (by simp; omega) (wr.heap.size + 1) (by simp) ?_; intro gg cp w1 hown1 hgrow hat hlt3; have hT1 : Tin w1 (w.heap.size + 2) C R v := Tin.grown hgrow hn3 (HT1.out.below (by repeat (first | exact Below.refl _ _ | refine Below.drew ?_ | refine Below.drewN' ?_ _ | refine Below.alloc ?_ (by first | (simp; done) | (simp; omega)) _))); have HT1' := Lib.hid hT1; obtain ⟨hg0, hg1, hg2, hg3, _, _, hg4⟩ := hT1) | (refine step_append_lies _ (by rfl) _ _ _ (by rfl) (w.heap.size + 3) 32 i0 (.float .f32 0) 1 4 Try.underlying22 hi hz0 hz1 hz2 rfl (by omega) v K (zs0.map (Value.float .f32)) (by rfl) (HO1.out.alloc _) ⟨wr.heap.size, 0, none⟩ 1 1 [.float .f32 z] (by rfl) (by rfl) (World.news_of_block (cs := #[.float .f32 z]) (t := 32) (fr := (0, 0)) (heap_alloc_new _ _)) (by simp [Value.oneCell']) (by omega) (by unfold maxLen; omega) (by omega) (by simp; omega) (wr.heap.size + 1) (by simp) ?_; intro gg cp w1 hown1 hgrow hat hlt3; have hT1 : Tin w1 (w.heap.size + 2) C R v := Tin.grown hgrow hn3 (HT1.out.below (by repeat (first | exact Below.refl _ _ | refine Below.drew ?_ | refine Below.drewN' ?_ _ | refine Below.alloc ?_ (by first | (simp; done) | (simp; omega)) _))); have HT1' := Lib.hid hT1; obtain ⟨hg0, hg1, hg2, hg3, _, _, hg4⟩ := hT1))
          all_goals
            go_wp2
            exact ⟨⟨i + 1, _, _, by omega, by first | rfl | go_num | (congr 1), rfl, Lib.hid (Tin.below (Tin.far (a := ⟨w.heap.size + 2, 2, none⟩) (Tin.grown hgrow hn5 (HTB.out.below (by repeat (first | exact Below.refl _ _ | refine Below.drew ?_ | refine Below.drewN' ?_ _ | refine Below.alloc ?_ (by first | (simp; done) | (simp; omega)) _)))) (by simp) _) (by repeat (first | exact Below.refl _ _ | refine Below.drew ?_ | refine Below.drewN' ?_ _ | refine Below.alloc ?_ (by first | (simp; done) | (simp; omega)) _))), Lib.hid (Tin.below (Tin.far (a := ⟨w.heap.size + 2, 2, none⟩) (Tin.grown hgrow hn4 (HT0.out.below (by repeat (first | exact Below.refl _ _ | refine Below.drew ?_ | refine Below.drewN' ?_ _ | refine Below.alloc ?_ (by first | (simp; done) | (simp; omega)) _)))) (by simp) _) (by repeat (first | exact Below.refl _ _ | refine Below.drew ?_ | refine Below.drewN' ?_ _ | refine Below.alloc ?_ (by first | (simp; done) | (simp; omega)) _))), Lib.hid (Tin.below (Tin.set HT1'.out _) (by repeat (first | exact Below.refl _ _ | refine Below.drew ?_ | refine Below.drewN' ?_ _ | refine Below.alloc ?_ (by first | (simp; done) | (simp; omega)) _))), Lib.hid (by rw [show k * R + (i + 1) = K + 1 by omega]; exact Got.keep (Got.setCell (Got.step HZ.out (Got.len HO1.out) HV.out hown1) ⟨w.heap.size + 2, 2, none⟩ _ (by simp)) (by repeat (first | exact Below.refl _ _ | refine Below.drew ?_ | refine Below.drewN' ?_ _ | refine Below.alloc ?_ (by first | (simp; done) | (simp; omega)) _))), Lib.hid (by repeat (first | exact HW.out | refine Below.drew ?_ | refine Below.drewN' ?_ _ | refine Below.setCell ?_ (by first | (simp; done) | (simp; omega)) _ | refine Below.alloc ?_ (by first | omega | (simp; omega)) _ | refine Below.grown ?_ hgrow (by first | omega | (simp; omega)) (fun j hj => Nat.le_trans (by omega) (HNE.out j hj))))⟩, by show R - ((i : Int) + 1).toNat < R - (i : Int).toNat; omega⟩
        · obtain rfl : i = R := by omega
          go_wp2
          refine ⟨⟨k + 1, v, _, by omega, by first | rfl | go_num | (congr 1), rfl, HTB, HT0, HT1, Lib.hid (by rw [Nat.succ_mul]; exact HO.out), HW⟩, by show C - ((k : Int) + 1).toNat < C - (k : Int).toNat; omega⟩
    · obtain rfl : k = C := by omega
      have hkR : 0 < k * R := Nat.mul_pos hC1 hR1
      obtain ⟨g, cap, rfl, hcap⟩ := HO.out.form (by omega)
      obtain ⟨hs0, ha0, ha1, ha2, hb0, hb1, hb2⟩ := HT0.out
      obtain ⟨hs1, hd0, hd1, hd2, he0, he1, he2⟩ := HT1.out
      have HNK : Hid (k * R = n) := Lib.hid (by rw [HN.out, Nat.mul_comm])
      have HP3 := Lib.hid (HT0.out.put3 (.int .i64 (k : Int)) (.int .i64 (R : Int)) (.slice (some ⟨g, 0, none⟩) (k * R) cap))
      go_wp2
      obtain ⟨hr0, hr1, hr2⟩ := HP3.out
      exact bodyPost_ret (v := .agg #[.int .i64 (k : Int), .int .i64 (R : Int), .slice (some ⟨g, 0, none⟩) (k * R) cap]) (by simp [results, Try.results86, go_sem, hr0, hr1, hr2]) rfl
        ⟨g, cap, by rw [HNK.out], by rw [← HNK.out]; exact hcap, by rw [← HNK.out]; exact (Got.mono (Got.setCell (Got.setCell (Got.setCell HO.out _ _ (by simp)) _ _ (by simp)) _ _ (by simp)) (by omega)), by repeat (first | exact HW.out | refine Below.setCell ?_ (by first | (simp; done) | (simp; omega)) _)⟩
end Go.Proofs.Ytffamppflelflaa
