
/- Rows of texts: marks, and what holds them. -/
import Derived.Test.YthkabonnclfhmaaDoorStr
import Derived.Test.YthkabonnclfhmaaDoorByt
import Derived.Test.YthkabonnclfhmaaDoorMgb
namespace Go.Proofs.YthkabonnclfhmaaDoor
open Go.Proofs.YthkabonnclfhmaaDoor.Flo Go.RowKit

/-- The digits of a number, ahead of others. -/
def mkL (k : Nat) (o : List UInt8) : List UInt8 := if k = 0 then o else mkL (k / 10) (UInt8.ofNat (48 + k % 10) :: o)
termination_by k
decreasing_by omega
theorem mkL_zero (o : List UInt8) : mkL 0 o = o := by rw [mkL]; rfl
theorem mkL_on {k : Nat} (h : 0 < k) (o : List UInt8) : mkL k o = mkL (k / 10) (UInt8.ofNat (48 + k % 10) :: o) := by rw [mkL, if_neg (by omega)]
/-- The text of a mark. -/
def mtx (k : Nat) : ByteArray := txB (109 :: mkL k [])
theorem byteN {k : Nat} : (UInt8.ofNat (48 + k % 10)).toNat = 48 + k % 10 := by
  rw [UInt8.toNat_ofNat']; omega
set_option maxRecDepth 100000 in
set_option maxHeartbeats 2000000 in
theorem mk_text (K : Nat) (w : World) (h1 : 1 ≤ K) (h2 : K ≤ 8388608) :
    Calls Tryd.prog 98 #[.int .i64 (K : Int)] w fun e w' => e = .returned (.string (mtx K)) ∧ Below w.heap.size w w' := by
  have HE : Hid (txB [] = (⟨#[]⟩ : ByteArray)) := Lib.hid rfl
  have hd0 : decide (K = 0) = false := decide_eq_false (by omega)
  go_enter Tryd.func98, Tryd.ntmps98
  go_wp2
  clear hd0
  go_loopw [3, 0] (fun ov kv w0 => ∃ (k : Nat) (o : List UInt8) (wr : World), o.length + k ≤ K ∧ ov = .string (txB o) ∧ kv = .int .i64 k ∧ wr = w0 ∧ Hid (mkL k o = mkL K []) ∧ Hid (Below w.heap.size w wr)) (fun _ kv _ => (intOf kv).toNat)
  case atStart => exact ⟨K, [], _, by simp, by rw [HE.out], rfl, rfl, Lib.hid rfl, Lib.hid (Below.refl _ _)⟩
  case round =>
    obtain ⟨k, o, wr, hko, rfl, rfl, rfl, HM, HW⟩ := hrel
    by_cases hk : k = 0
    · subst hk
      have HF : Hid (txB (109 :: o) = mtx K) := Lib.hid (by unfold mtx; rw [← HM.out, mkL_zero])
      have hadd : ∀ w : World, (Op.stringOp .add ⟨#[109]⟩ (txB o)).run Tryd.prog w = .ok (.string (mtx K)) w := fun w => by
        rw [← HF.out]; exact run_tx Tryd.prog [109] o (by simp; omega) w
      go_wp2
      go_ret
      exact ⟨rfl, HW.out⟩
    · have HN : Hid (mkL (k / 10) (UInt8.ofNat (48 + k % 10) :: o) = mkL K []) := Lib.hid (by rw [← mkL_on (by omega)]; exact HM.out)
      have hkp : 0 < k := by omega
      have hkd : decide (0 < k) = true := decide_eq_true hkp
      obtain ⟨c, hc⟩ : ∃ c, c = UInt8.ofNat (48 + k % 10) := ⟨_, rfl⟩
      have hcv : (48 + (k : Int) % 10) = (c.toNat : Int) := by rw [hc, byteN]; omega
      have hcu : c.toNat < 256 := c.toNat_lt
      have hconv : (convert 101 9 (.slice (some ⟨wr.heap.size, 0, none⟩) 1 1)).run Tryd.prog (wr.alloc (.cells #[.int .u8 (c.toNat : Int)] 5)) = .ok (.string (txB [c])) (wr.alloc (.cells #[.int .u8 (c.toNat : Int)] 5)) :=
        text_cells _ 101 9 5 wr.heap.size 0 1 1 [c] Tryd.underlying101 Tryd.underlying5 Tryd.underlying9 rfl (fun j hj => by
          obtain rfl : j = 0 := by omega
          rw [World.cell?_alloc_at _ _ _ _ rfl]; rfl)
      have hadd : ∀ w : World, (Op.stringOp .add (txB [c]) (txB o)).run Tryd.prog w = .ok (.string (txB (c :: o))) w := fun w => run_tx Tryd.prog [c] o (by simp; omega) w
      rw [← hc] at HN
      have hdiv : k / 10 < k := by omega
      have hlen : (c :: o).length + k / 10 ≤ K := by simp; omega
      clear hk hc
      go_wp2
      exact ⟨⟨k / 10, c :: o, _, hlen, rfl, by first | rfl | (congr 1), rfl, HN, Lib.hid (Below.alloc HW.out HW.out.size _)⟩, by show ((k : Int) / 10).toNat < (k : Int).toNat; omega⟩
theorem below_undrew {w w' : World} (h : Below w.drew.heap.size w.drew w') : Below w.heap.size w w' := ⟨h.os, h.tape, h.output, h.size, h.block⟩
theorem below_undrewN {w w' : World} {n : Nat} (h : Below (w.drewN n).heap.size (w.drewN n) w') : Below w.heap.size w w' := ⟨h.os, h.tape, h.output, h.size, h.block⟩
/-- The marks of texts. -/
def mkS (k0 : Nat) (j : Nat) : ByteArray := mtx (k0 + j)
theorem Mine.putG {w0 w : World} {L : List (Nat × Ent)} {i p n k : Nat} {f : Nat → Value} (h : Mine w0 w L) (hi : L[i]? = some (p, .gv n f)) (hk : k < n) (v : Value) :
    Mine w0 (w.setCell ⟨p, k, none⟩ v) (L.set i (p, .gv n (fun j => if j = k then v else f j))) := by
  have h0 := (h.2.1 _ (List.mem_of_getElem? hi)).2.2
  refine h.mark (old := .gv n f) (new := .gv n (fun j => if j = k then v else f j)) hi rfl rfl trivial (fun _ _ h => h) ⟨World.size_setCell _ _ _, fun a ha => ⟨?_, ?_⟩, fun j hj => ⟨?_, ?_⟩, fun B hB => (Below.refl _ _).setCell hB _⟩
  · rw [World.cell?_setCell_other (h := fun e => ha (by rw [← e]))]
  · rw [World.frozen?_setCell]
  · rw [if_pos hj]
    by_cases e : j = k
    · subst e
      rw [World.cell?_setCell_same (h := (h0.2 j hj).1)]
      simp [Ent.cell]
    · rw [World.cell?_setCell_other (h := fun e2 => e (by injection e2 with _ e3 _; exact e3.symm)), (h0.2 j hj).1]
      simp [Ent.cell, e]
  · rw [World.frozen?_setCell]; exact (h0.2 j hj).2
theorem Mine.conv {w0 w : World} {L : List (Nat × Ent)} {i p n : Nat} {f g : Nat → Value} (h : Mine w0 w L) (hi : L[i]? = some (p, .gv n f)) (e : ∀ j, j < n → f j = g j) : Mine w0 w (L.set i (p, .gv n g)) := by
  have h0 := (h.2.1 _ (List.mem_of_getElem? hi)).2.2
  exact h.mark (old := .gv n f) (new := .gv n g) hi rfl rfl trivial (fun _ _ h => h) ⟨rfl, fun a _ => ⟨rfl, rfl⟩, fun j hj => ⟨by rw [if_pos hj, (h0.2 j hj).1]; exact congrArg some (e j hj), (h0.2 j hj).2⟩, fun B _ => Below.refl _ _⟩
/-- A row of which k texts are marks. -/
def mkF (k0 k : Nat) (f : Nat → ByteArray) (j : Nat) : Value := if j < k then .string (mkS k0 j) else .string (f j)
theorem mkF_on (k0 k : Nat) (f : Nat → ByteArray) : (fun j => if j = k then Value.string (mkS k0 k) else mkF k0 k f j) = mkF k0 (k + 1) f := by
  funext j
  unfold mkF
  by_cases e : j = k
  · subst e
    rw [if_pos rfl, if_pos (by omega)]
  · rw [if_neg e]
    by_cases h : j < k
    · rw [if_pos h, if_pos (by omega)]
    · rw [if_neg h, if_neg (by omega)]
set_option maxRecDepth 100000 in
set_option maxHeartbeats 4000000 in
theorem markMS (p n cap : Nat) (f : Nat → ByteArray) (k0 : Int) (w w0 : World) (L : List (Nat × Ent)) (i : Nat) (h : Mine w0 w L) (hi : L[i]? = some (p, .sl n f)) (hn : n ≤ 1048576) (hk0 : 1 ≤ k0 ∧ k0 ≤ 4194304) :
    Calls Tryd.prog 60 #[.slice (some ⟨p, 0, none⟩) n cap, .int .i64 k0] w fun e w' => e = .returned (.int .i64 (k0 + (n : Int))) ∧ Mine w0 w' (L.set i (p, .sl n (mkS k0.toNat))) := by
  obtain ⟨c0, hc0⟩ : ∃ c0 : Nat, k0 = (c0 : Int) := ⟨k0.toNat, by omega⟩
  have hil : i < L.length := (List.getElem?_eq_some_iff.1 hi).1
  have HIL := Lib.hid hil
  have HS0 : Hid (Mine w0 w (L.set i (p, .gv n (mkF c0 0 f)))) := Lib.hid (h.conv hi (fun j _ => by unfold mkF; rw [if_neg (by omega)]))
  have HC : Hid (k0.toNat = c0) := Lib.hid (by omega)
  subst hc0
  have hk1 : 1 ≤ c0 := by omega
  have hk2 : c0 ≤ 4194304 := by omega
  clear h hi hil hk0
  go_enter Tryd.func60, Tryd.ntmps60
  go_wp2
  go_loopw [1, 5] (fun kv iv w' => ∃ (k : Nat) (wr : World), k ≤ n ∧ kv = .int .i64 ((c0 : Int) + (k : Int)) ∧ iv = .int .i64 k ∧ wr = w' ∧ Hid (Mine w0 wr (L.set i (p, .gv n (mkF c0 k f))))) (fun _ iv _ => n - (intOf iv).toNat)
  case atStart => exact ⟨0, _, by omega, by simp, rfl, rfl, HS0⟩
  case round =>
    obtain ⟨k, wr, hk, rfl, rfl, rfl, HM⟩ := hrel
    by_cases hlt : k < n
    · have HIW : Hid (∀ W, Below wr.heap.size wr W → W.cell? ⟨p, k, none⟩ = some (mkF c0 k f k) ∧ W.frozen? ⟨p, k, none⟩ = false) := Lib.hid (fun W hb => by
        have h1 := (HM.out.below hb).2.1 (p, .gv n (mkF c0 k f)) (List.mem_of_getElem? (i := i) (by rw [List.getElem?_set_self HIL.out]))
        exact h1.2.2.2 k hlt)
      have HMT : Hid (∀ W, Calls Tryd.prog 98 #[.int .i64 ((c0 : Int) + (k : Int))] W fun e w' => e = .returned (.string (mkS c0 k)) ∧ Below W.heap.size W w') := Lib.hid (fun W => by
        have := mk_text (c0 + k) W (by omega) (by omega)
        rw [Int.natCast_add] at this
        exact this)
      have HON := Lib.hid (mkF_on c0 k f)
      generalize mkS c0 k = t at HMT HON
      have hold : mkF c0 k f k = .string (f k) := by unfold mkF; rw [if_neg (by omega)]
      rw [hold] at HIW
      clear hold
      generalize f k = old at HIW
      go_wp2_with (first | (go_at_call 98; refine (HMT.out _).mono ?_; rintro e w2 ⟨rfl, hb⟩; have HB := Lib.hid hb; clear hb; have hcs := (HIW.out _ HB.out).1; have hfs := (HIW.out _ HB.out).2) | fail)
      have HN : Hid (Mine w0 (w2.setCell ⟨p, k, none⟩ (.string t)) (L.set i (p, .gv n (mkF c0 (k + 1) f)))) := Lib.hid (by
        have := (HM.out.below HB.out).putG (i := i) (p := p) (n := n) (f := mkF c0 k f) (by rw [List.getElem?_set_self HIL.out]) hlt (.string t)
        rw [HON.out, List.set_set] at this
        exact this)
      exact ⟨⟨k + 1, _, by omega, by first | rfl | go_num | (congr 1), by first | rfl | go_num | (congr 1), rfl, HN⟩, by show n - ((k : Int) + 1).toNat < n - (k : Int).toNat; omega⟩
    · obtain rfl : k = n := by omega
      have HR : Hid (Mine w0 wr (L.set i (p, .sl k (mkS c0)))) := Lib.hid (by
        have := HM.out.conv (i := i) (p := p) (n := k) (f := mkF c0 k f) (g := fun j => .string (mkS c0 j)) (by rw [List.getElem?_set_self HIL.out]) (fun j hj => by unfold mkF; rw [if_pos hj])
        rw [List.set_set] at this
        exact this)
      go_wp2
      go_ret
      exact ⟨ret_i rfl, by rw [HC.out]; exact HR.out⟩
theorem markNilS (k0 : Int) (w : World) : Calls Tryd.prog 60 #[.slice none 0 0, .int .i64 k0] w fun e w' => e = .returned (.int .i64 k0) ∧ w = w' := by
  go_enter Tryd.func60, Tryd.ntmps60
  go_wp2
  refine wp_loop_rounds 1 ?_
  rw [rounds_succ]
  go_wp2
  go_ret
  exact ⟨rfl, rfl⟩
set_option maxRecDepth 100000 in
set_option maxHeartbeats 4000000 in
theorem heldMS (p n cap : Nat) (k0 : Int) (w w0 : World) (L : List (Nat × Ent)) (h : Mine w0 w L) (hm : (p, .sl n (mkS k0.toNat)) ∈ L) (hn : n ≤ 1048576) (hk0 : 1 ≤ k0 ∧ k0 ≤ 4194304) :
    Calls Tryd.prog 61 #[.slice (some ⟨p, 0, none⟩) n cap, .int .i64 k0] w fun e w' => e = .returned (.int .i64 (k0 + (n : Int))) ∧ Mine w0 w' L := by
  obtain ⟨c0, hc0⟩ : ∃ c0 : Nat, k0 = (c0 : Int) := ⟨k0.toNat, by omega⟩
  have e0 : k0.toNat = c0 := by omega
  rw [e0] at hm
  have HS := Lib.hid h
  have HM := Lib.hid hm
  subst hc0
  have hk1 : 1 ≤ c0 := by omega
  have hk2 : c0 ≤ 4194304 := by omega
  clear h hm e0 hk0
  go_enter Tryd.func61, Tryd.ntmps61
  go_wp2
  go_loopw [1, 5] (fun kv iv w' => ∃ (k : Nat) (wr : World), k ≤ n ∧ kv = .int .i64 ((c0 : Int) + (k : Int)) ∧ iv = .int .i64 k ∧ wr = w' ∧ Hid (Mine w0 wr L)) (fun _ iv _ => n - (intOf iv).toNat)
  case atStart => exact ⟨0, _, by omega, by simp, rfl, rfl, HS⟩
  case round =>
    obtain ⟨k, wr, hk, rfl, rfl, rfl, HW⟩ := hrel
    by_cases hlt : k < n
    · have HIW : Hid (∀ W, Below wr.heap.size wr W → W.cell? ⟨p, k, none⟩ = some (.string (mkS c0 k))) := Lib.hid (fun W hb => by
        obtain ⟨b, o, e, hck⟩ := ((HW.out.below hb).srow HM.out).cell hlt
        injection e with e; injection e with e1 e2; subst e1; subst e2
        rw [Nat.zero_add] at hck; exact hck)
      have HMT : Hid (∀ W, Calls Tryd.prog 98 #[.int .i64 ((c0 : Int) + (k : Int))] W fun e w' => e = .returned (.string (mkS c0 k)) ∧ Below W.heap.size W w') := Lib.hid (fun W => by
        have := mk_text (c0 + k) W (by omega) (by omega)
        rw [Int.natCast_add] at this
        exact this)
      generalize mkS c0 k = t at HMT HIW
      have hcs := HIW.out wr (Below.refl _ _)
      go_wp2
      go_region_with (first | (go_at_call 98; refine (HMT.out _).mono ?_; rintro e w2 ⟨rfl, hb⟩; have HB := Lib.hid (by first | exact hb | exact below_undrew hb | exact below_undrewN hb : Below wr.heap.size wr w2); clear hb; have hcs2 := HIW.out _ HB.out))
      all_goals
        go_wp2
        exact ⟨⟨k + 1, _, by omega, by first | rfl | go_num | (congr 1), by first | rfl | go_num | (congr 1), rfl, Lib.hid (HW.out.below HB.out)⟩, by show n - ((k : Int) + 1).toNat < n - (k : Int).toNat; omega⟩
    · obtain rfl : k = n := by omega
      go_wp2
      go_ret
      exact ⟨ret_i rfl, HW.out⟩
theorem heldNilS (k0 : Int) (w : World) : Calls Tryd.prog 61 #[.slice none 0 0, .int .i64 k0] w fun e w' => e = .returned (.int .i64 k0) ∧ w = w' := by
  go_enter Tryd.func61, Tryd.ntmps61
  go_wp2
  refine wp_loop_rounds 1 ?_
  rw [rounds_succ]
  go_wp2
  go_ret
  exact ⟨rfl, rfl⟩
theorem eqMS0 (w w0 : World) (L : List (Nat × Ent)) (h : Mine w0 w L) :
    Calls Tryd.prog 57 #[.slice none 0 0, .slice none 0 0] w fun e w' => e = .returned (.bool true) ∧ Mine w0 w' L := by
  refine (eqS none none 0 0 0 (fun _ => ⟨#[]⟩) w (.inl rfl) (.inl rfl) (Nat.zero_le _)).mono ?_
  rintro e w' ⟨he, d⟩
  exact ⟨he, h.below d.below⟩
end Go.Proofs.YthkabonnclfhmaaDoor
