
/- StoreSaved: the program's parts: bytes of numbers and of bits. -/
import Derived.Test.YtnljabgkaelplaaZsp
import Derived.Test.YtnljabgkaelplaaBoo
import Derived.Test.YtnljabgkaelplaaTwp
import Derived.Test.YtnljabgkaelplaaByt
import Derived.Test.YtnljabgkaelplaaMgb
import Derived.Test.YtnljabgkaelplaaGat
import Derived.Lib.FrozenHead2
import Derived.Shelf.Abstract
import Derived.Laws.BitsLemmas
set_option linter.unusedVariables false
namespace Go.Proofs.Ytnljabgkaelplaa
open Go.Proofs.Ytnljabgkaelplaa.Flo Go.RowKit Go.Shelf
attribute [local go_sem] Oper.semAt_some

/-- A block with n bytes in it, that may be written. -/
def Zbp (W : World) (g n : Nat) (f : Nat → UInt8) : Prop := g < W.heap.size ∧ ∀ i, i < n → W.cell? ⟨g, i, none⟩ = some (.int .u8 ((f i).toNat : Int)) ∧ W.frozen? ⟨g, i, none⟩ = false
theorem Zbp.set {W : World} {g n j : Nat} {f : Nat → UInt8} (h : Zbp W g n f) (v : UInt8) : Zbp (W.setCell ⟨g, j, none⟩ (.int .u8 (v.toNat : Int))) g n (fun i => if i = j then v else f i) := by
  refine ⟨by simpa [World.setCell] using h.1, fun i hi => ⟨?_, by rw [World.frozen?_setCell]; exact (h.2 i hi).2⟩⟩
  show _ = some (Value.int .u8 (((if i = j then v else f i)).toNat : Int))
  by_cases e : i = j
  · subst e
    rw [World.cell?_setCell_same (h := (h.2 i hi).1), if_pos rfl]
  · rw [World.cell?_setCell_other (h := fun e2 => e (by injection e2 with _ e3 _; exact e3.symm)), if_neg e]; exact (h.2 i hi).1
theorem Zbp.congr {W : World} {g n : Nat} {f f2 : Nat → UInt8} (h : Zbp W g n f) (e : ∀ i, i < n → f i = f2 i) : Zbp W g n f2 := ⟨h.1, fun i hi => by rw [← e i hi]; exact h.2 i hi⟩
theorem Zbp.drew {W : World} {g n : Nat} {f : Nat → UInt8} (h : Zbp W g n f) : Zbp W.drew g n f := h
theorem made_eqU (n : Nat) : madeCells #[Value.int .u8 0] n = Array.replicate n (Value.int .u8 0) := by
  apply Array.ext
  · simp [madeCells]
  · intro i h1 h2
    simp [madeCells, Nat.mod_one]
theorem zbp_made (w : World) (n : Nat) (T : TypeId) : Zbp (w.alloc (.cells (madeCells #[Value.int .u8 0] n) T)) w.heap.size n (fun _ => 0) := by
  refine ⟨by simp, fun i hi => ⟨?_, World.frozen?_alloc_at _ _ _ _ rfl⟩⟩
  rw [World.cell?_alloc_at _ _ _ _ rfl, made_eqU]
  simp [hi]
/-- What a call leaves: a row of bytes of its own. -/
def ByRow (w w' : World) (k : Nat) (l : List UInt8) (v : Value) : Prop := ∃ g cp, v = .slice (some ⟨g, 0, none⟩) k cp ∧ w.heap.size ≤ g ∧ l.length = k ∧ (∀ j, j < k → w'.cell? ⟨g, 0 + j, none⟩ = some (.int .u8 ((l.getD j 0).toNat : Int))) ∧ Below w.heap.size w w'
theorem by_row {w w' : World} {k : Nat} {v : Value} {l : List UInt8} (h : w'.ownsRow w.heap.size 5 1 v k (Lib.byteCells l)) (hk : 0 < k) (hb : Below w.heap.size w w') : ByRow w w' k l v := by
  have hl : l.length = k := by have := h.1; rw [Lib.byteCells_length] at this; omega
  rcases h.2 with ⟨_, h0⟩ | ⟨g, cap, cur, hv, hBg, hh, r⟩
  · omega
  · refine ⟨g, cap, hv, hBg, hl, fun j hj => ?_, hb⟩
    have hc := World.ownsRowF.cells (World.ownsRowF_of h) (g := g) (by rw [hv]; rfl) j (.int .u8 ((l.getD j 0).toNat : Int)) (by
      unfold Lib.byteCells
      rw [List.getElem?_map, List.getD_eq_getElem?_getD, List.getElem?_eq_getElem (by omega)]
      rfl)
    have e1 : (⟨g, 0, none⟩ : Addr).add j = ⟨g, 0 + j, none⟩ := by unfold Addr.add; split <;> simp_all
    rw [e1] at hc
    exact hc
theorem wr8 (n : Int) (h0 : 0 ≤ n) (h1 : n < 2 ^ 8) : IntKind.u8.wrap n = n := by rw [IntKind.wrap_u8]; omega
theorem b_or8 (a b : Nat) (ha : a < 256) (hb : b < 256) : bits .or .u8 (a : Int) (b : Int) = ((a ||| b : Nat) : Int) := (bits_nat .u8 8 (by decide) wr8 a b ha hb).2
theorem byte_wrap (q : Nat) : IntKind.u8.wrap (q : Int) = ((UInt8.ofNat q).toNat : Int) := by
  rw [show (UInt8.ofNat q).toNat = q % 256 from rfl, IntKind.wrap_u8]; omega
set_option maxRecDepth 100000 in
set_option maxHeartbeats 4000000 in
theorem by_impl (x K : Nat) (w : World) (hx : x < 4294967296) (hK : 1 ≤ K ∧ K ≤ 4) :
    Calls Try.prog 50 #[.int .i64 (x : Int), .int .i64 (K : Int)] w fun e w' => ∃ v, e = .returned v ∧ ByRow w w' K (Zs.nb x K) v := by
  obtain ⟨i0, hi, hz0, hz1, hz2⟩ := info_parts (P := Try.prog) (e := 5) (z := .int .u8 0) (size := 1) (bytes := 1) (by kernel_rfl)
  obtain ⟨hK1, hK2⟩ := hK
  go_enter Try.func50, Try.ntmps50
  go_wp2
  go_loopw [0, 5, 7] (fun xv v0 iv wr0 => ∃ (k : Nat) (v : Value) (wr : World), k ≤ K ∧ v = v0 ∧ xv = .int .i64 ((x / 256 ^ k : Nat) : Int) ∧ iv = .int .i64 (k : Int) ∧ wr = wr0 ∧ Hid (wr.ownsRow w.heap.size 5 1 v k (Lib.byteCells (Zs.nb x k))) ∧ Hid (Below w.heap.size w wr)) (fun _ _ iv _ => K - (intOf iv).toNat)
  case atStart => exact ⟨0, _, _, by omega, rfl, by rw [Nat.pow_zero, Nat.div_one], rfl, rfl, Lib.hid (World.ownsRow_nil _ _ _ _), Lib.hid (Below.refl _ _)⟩
  case round =>
    obtain ⟨k, v, wr, hk, rfl, rfl, rfl, rfl, HO, HW⟩ := hrel
    by_cases hlt : k < K
    · have HQ : Hid (x / 256 ^ k / 256 = x / 256 ^ (k + 1)) := Lib.hid (by rw [Nat.div_div_eq_div_mul, ← Nat.pow_succ])
      have hq : x / 256 ^ k < 4294967296 := Nat.lt_of_le_of_lt (Nat.div_le_self _ _) hx
      have HL : Hid (Lib.byteCells (Zs.nb x (k + 1)) = Lib.byteCells (Zs.nb x k) ++ [.int .u8 ((UInt8.ofNat (x / 256 ^ k)).toNat : Int)]) := Lib.hid (by show Lib.byteCells (Zs.nb x k ++ [_]) = _; rw [Lib.byteCells_append]; rfl)
      have HNE := Lib.hid (own_block HO.out)
      have hsz := HW.out.size
      generalize x / 256 ^ k = q at HQ hq HL ⊢
      have hwb := byte_wrap q
      have hsh : (q : Int).fdiv (2 ^ min (Int.toNat 8) IntKind.i64.bits) = ((q / 256 : Nat) : Int) := by
        rw [show (2 : Int) ^ min (Int.toNat 8) IntKind.i64.bits = 256 by decide, Int.fdiv_eq_ediv_of_nonneg _ (by decide)]; omega
      have hwq : IntKind.i64.wrap ((q / 256 : Nat) : Int) = ((q / 256 : Nat) : Int) := IntWalk.i64_in _ (by omega)
      generalize ((UInt8.ofNat q).toNat : Int) = c at hwb HL
      go_wp2_with (first | (at_builtin; refine wpList_append_lies _ rfl _ _ 77 rfl (w.heap.size) 5 i0 (.int .u8 0) 1 1 Try.underlying77 hi hz0 hz1 hz2 rfl (by omega) v k (Lib.byteCells (Zs.nb x k)) rfl (World.ownsRow.alloc HO.out _) ⟨wr.heap.size, 0, none⟩ 1 1 [.int .u8 c] rfl rfl (World.news_of_block (cs := #[.int .u8 c]) (t := 5) (fr := (0, 0)) (heap_alloc_new _ _)) (by simp [Value.oneCell']) (by omega) (by unfold maxLen; omega) (by omega) (by simp; omega) (wr.heap.size + 1) (by simp) ?_; intro gg cp w3 hown1 hgrow hat hlt2; have HO2 := Lib.hid hown1; have HG2 := Lib.hid hgrow; clear hown1 hgrow hat hlt2) | fail)
      exact ⟨⟨k + 1, _, _, by omega, rfl, by rw [← HQ.out]; first | rfl | (congr 1; omega) | simp, by first | rfl | go_num | (congr 1), rfl, Lib.hid (by rw [HL.out]; exact HO2.out), Lib.hid (Below.grown (Below.alloc HW.out HW.out.size _) HG2.out (by simp; omega) HNE.out)⟩, by show K - ((k : Int) + 1).toNat < K - (k : Int).toNat; omega⟩
    · obtain rfl : k = K := by omega
      go_wp2
      go_ret
      exact ⟨_, rfl, by_row HO.out (by omega) HW.out⟩
set_option maxRecDepth 100000 in
set_option maxHeartbeats 4000000 in
theorem bob_impl (a : Option Addr) (n cap : Nat) (f : Nat → Bool) (w : World) (h : BRow w a n f) (hn : n ≤ 160) :
    Calls Try.prog 49 #[.slice a n cap] w fun e w' => ∃ v, e = .returned v ∧ ByRow w w' ((n + 7) / 8) (Zs.bl f n) v := by
  have HA := Lib.hid h
  clear h
  obtain ⟨K, hK⟩ : ∃ K, (n + 7) / 8 = K := ⟨_, rfl⟩
  have hw1 : IntKind.i64.wrap ((n : Int) + 7) = (n : Int) + 7 := IntWalk.i64_in _ (by omega)
  have hq1 : ((n : Int) + 7).tdiv 8 = (K : Int) := by rw [Int.tdiv_eq_ediv_of_nonneg (by omega)]; omega
  have hw2 : IntKind.i64.wrap (K : Int) = (K : Int) := IntWalk.i64_in _ (by omega)
  have hmk := fun w9 : World => run_make_row' (P := Try.prog) 77 5 (.int .u8 0) 1 Try.underlying77 (by kernel_rfl) rfl .i64 .i64 K (by omega) (by omega) w9
  rw [hK]
  go_enter Try.func49, Try.ntmps49
  go_wp2
  go_loopw [13] (fun iv w' => ∃ (k : Nat) (wr : World), k ≤ n ∧ iv = .int .i64 (k : Int) ∧ wr = w' ∧ Hid (Zbp wr w.heap.size K (fun j => UInt8.ofNat (Zs.bb f k j))) ∧ Hid (Below w.heap.size w wr)) (fun iv _ => n - (intOf iv).toNat)
  case atStart => exact ⟨0, _, by omega, rfl, rfl, Lib.hid ((zbp_made _ _ _).congr (fun j _ => by rw [Zs.bb_zero]; rfl)), Lib.hid (below_alloc _ _)⟩
  case round =>
    obtain ⟨k, wr, hk, rfl, rfl, HZ, HW⟩ := hrel
    by_cases hlt : k < n
    · obtain ⟨b1, o1, rfl, hck⟩ := (HA.out.below HW.out).cell hlt
      cases hfk : f k with
      | false =>
        rw [hfk] at hck
        have HF := Lib.hid (fun j => Zs.bb_other f k j (.inr hfk))
        clear hfk
        go_wp2
        exact ⟨⟨k + 1, _, by omega, by first | rfl | go_num | (congr 1), rfl, Lib.hid (HZ.out.congr (fun j _ => by rw [HF.out])), HW⟩, by show n - ((k : Int) + 1).toNat < n - (k : Int).toNat; omega⟩
      | true =>
        rw [hfk] at hck
        have HF := Lib.hid (fun j h => Zs.bb_other f k j (.inl h))
        have HP := Lib.hid (Zs.bb_put f k hfk)
        have HPL := Lib.hid (Zs.bb_lt f (k + 1) (k / 8))
        have hjK : k / 8 < K := by omega
        obtain ⟨hcz0, hfz⟩ := HZ.out.2 (k / 8) hjK
        have hbl := Zs.bb_lt f k (k / 8)
        have e0 : ((UInt8.ofNat (Zs.bb f k (k / 8))).toNat : Int) = ((Zs.bb f k (k / 8) : Nat) : Int) := by rw [show (UInt8.ofNat (Zs.bb f k (k / 8))).toNat = Zs.bb f k (k / 8) % 256 from rfl, Nat.mod_eq_of_lt hbl]
        have hcz : wr.cell? ⟨w.heap.size, k / 8, none⟩ = some (.int .u8 ((Zs.bb f k (k / 8) : Nat) : Int)) := by rw [← e0]; exact hcz0
        clear hcz0
        have hq2 : (k : Int).tdiv 8 = ((k / 8 : Nat) : Int) := by rw [Int.tdiv_eq_ediv_of_nonneg (by omega)]; omega
        have hw3 : IntKind.i64.wrap ((k / 8 : Nat) : Int) = ((k / 8 : Nat) : Int) := IntWalk.i64_in _ (by omega)
        have hr2 : (k : Int).tmod 8 = ((k % 8 : Nat) : Int) := by rw [Int.tmod_eq_emod_of_nonneg (by omega)]; omega
        have hr8 : k % 8 < 8 := Nat.mod_lt _ (by decide)
        have hp8 : 2 ^ (k % 8) ≤ 2 ^ 7 := Nat.pow_le_pow_right (by decide) (by omega)
        have hor := b_or8 (Zs.bb f k (k / 8)) (2 ^ (k % 8)) hbl (by omega)
        rw [HP.out, show ((2 ^ (k % 8) : Nat) : Int) = (2 : Int) ^ (k % 8) by simp] at hor
        have hwr : IntKind.u8.wrap ((2 : Int) ^ (k % 8)) = ((2 ^ (k % 8) : Nat) : Int) := by
          have e : ((2 ^ (k % 8) : Nat) : Int) = (2 : Int) ^ (k % 8) := by simp
          have hp := hp8
          generalize 2 ^ (k % 8) = pa at e hp
          rw [← e, IntKind.wrap_u8]; omega
        clear hfk e0 HP
        generalize hj : k / 8 = j0 at *
        generalize k % 8 = r0 at *
        have hmin : min r0 8 = r0 := by omega
        have HJ := Lib.hid hj
        generalize Zs.bb f k j0 = x0 at hcz hor hbl
        obtain ⟨y0, hy0⟩ : ∃ y0, Zs.bb f (k + 1) j0 = y0 := ⟨_, rfl⟩
        rw [hy0] at hor HPL
        have HY := Lib.hid hy0
        clear hy0 hj
        go_wp2
        go_region_with (fail)
        all_goals go_wp2
        have hz2 : Zbp ((wr.setCell ⟨w.heap.size, j0, none⟩ (.int .u8 (y0 : Int))).drew) w.heap.size K (fun j => UInt8.ofNat (Zs.bb f (k + 1) j)) := by
          have h1 := HZ.out.set (j := j0) (UInt8.ofNat y0)
          rw [show (UInt8.ofNat y0).toNat = y0 % 256 from rfl, Nat.mod_eq_of_lt HPL.out] at h1
          refine Zbp.drew (h1.congr (fun i _ => ?_))
          by_cases e : i = j0
          · rw [if_pos e, e, HY.out]
          · rw [if_neg e, HF.out i (by have := HJ.out; omega)]
        exact ⟨⟨k + 1, _, by omega, by first | rfl | go_num | (congr 1), rfl, Lib.hid hz2, Lib.hid (Below.drew (HW.out.setCell (p := ⟨w.heap.size, j0, none⟩) (Nat.le_refl _) _))⟩, by show n - ((k : Int) + 1).toNat < n - (k : Int).toNat; omega⟩
    · obtain rfl : k = n := by omega
      go_wp2
      go_ret
      refine ⟨_, rfl, _, _, rfl, Nat.le_refl _, ?_, fun j hj => ?_, HW.out⟩
      · unfold Zs.bl; rw [Zs.blF_len, hK]
      · rw [Nat.zero_add]
        refine (HZ.out.2 j hj).1.trans ?_
        unfold Zs.bl
        rw [Zs.blF_get _ _ _ _ (by omega)]
end Go.Proofs.Ytnljabgkaelplaa
