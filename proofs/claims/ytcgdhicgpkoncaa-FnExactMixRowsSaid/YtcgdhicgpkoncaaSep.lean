/- Rows of the call's own, each in a block of its own; marks, and what holds them. -/
import Derived.Test.YtcgdhicgpkoncaaMix
namespace Go.Proofs.Ytcgdhicgpkoncaa
open Go.Proofs.Ytcgdhicgpkoncaa.Flo Go.RowKit

theorem FRow.nil (w : World) : FRow w none 0 [] := ⟨rfl, .inl rfl⟩
def Sep (base : Nat) (w : World) (L : List (Nat × Nat × List Nat)) : Prop :=
  base ≤ w.heap.size ∧ (∀ r ∈ L, base ≤ r.1 ∧ r.1 < w.heap.size ∧ FRow w (some ⟨r.1, 0, none⟩) r.2.1 r.2.2 ∧ ∀ j, j < r.2.1 → w.frozen? ⟨r.1, j, none⟩ = false) ∧ (L.map (·.1)).Nodup
theorem Sep.nil (w : World) {base : Nat} (h : base ≤ w.heap.size) : Sep base w [] := ⟨h, (by intro r hr; cases hr), List.nodup_nil⟩
theorem Sep.get {base : Nat} {w : World} {L : List (Nat × Nat × List Nat)} {p n : Nat} {zs : List Nat} (h : Sep base w L) (hm : (p, n, zs) ∈ L) : FRow w (some ⟨p, 0, none⟩) n zs := (h.2.1 _ hm).2.2.1
theorem Sep.below {base : Nat} {w w' : World} {L : List (Nat × Nat × List Nat)} (h : Sep base w L) (hb : Below w.heap.size w w') : Sep base w' L := by
  refine ⟨Nat.le_trans h.1 hb.size, fun r hr => ?_, h.2.2⟩
  obtain ⟨h1, h2, h3, h4⟩ := h.2.1 r hr
  exact ⟨h1, Nat.lt_of_lt_of_le h2 hb.size, h3.below hb, fun j hj => by rw [hb.frozen (p := ⟨r.1, j, none⟩) h2]; exact h4 j hj⟩
theorem Sep.drewN {base : Nat} {w : World} {L : List (Nat × Nat × List Nat)} (h : Sep base w L) (q : Nat) : Sep base (w.drewN q) L := h
theorem Sep.push {base : Nat} {w w' : World} {L : List (Nat × Nat × List Nat)} {p n : Nat} {zs : List Nat} (h : Sep base w L) (hb : Below w.heap.size w w') (hp : w.heap.size ≤ p) (hp2 : p < w'.heap.size) (hr : FRow w' (some ⟨p, 0, none⟩) n zs) (hf : ∀ j, j < n → w'.frozen? ⟨p, j, none⟩ = false) : Sep base w' ((p, n, zs) :: L) := by
  have h' := h.below hb
  refine ⟨h'.1, fun r hm => ?_, ?_⟩
  · cases hm with
    | head => exact ⟨Nat.le_trans h.1 hp, hp2, hr, hf⟩
    | tail _ hm => exact h'.2.1 r hm
  · rw [List.map_cons, List.nodup_cons]
    refine ⟨fun hm => ?_, h.2.2⟩
    obtain ⟨r, hr1, hr2⟩ := List.mem_map.1 hm
    have := (h.2.1 r hr1).2.1
    have hr2 : r.1 = p := hr2
    omega

theorem ret_i {a b : Int} (h : a = b) : Ending.returned (.int .i64 a) = .returned (.int .i64 b) := by rw [h]
/-- The marks from k0 on. -/
def marks (k0 : Int) (n : Nat) : List Nat := (List.range n).map fun (i : Nat) => floatOfInt .f32 (k0 + (i : Int))
theorem marks_len (k0 : Int) (n : Nat) : (marks k0 n).length = n := by simp [marks]
theorem marks_get (k0 : Int) {n k : Nat} (h : k < n) : (marks k0 n).getD k 0 = floatOfInt .f32 (k0 + (k : Int)) := by
  simp [marks, List.getD_eq_getElem?_getD, h]
/-- A block of which k cells are marked. -/
def PM (w : World) (p n : Nat) (zs : List Nat) (k0 : Int) (k : Nat) (wr : World) : Prop :=
  wr.heap.size = w.heap.size ∧ (∀ a : Addr, a.block ≠ p → wr.cell? a = w.cell? a ∧ wr.frozen? a = w.frozen? a) ∧
  (∀ j, j < n → wr.cell? ⟨p, j, none⟩ = some (.float .f32 (if j < k then floatOfInt .f32 (k0 + (j : Int)) else zs.getD j 0)) ∧ wr.frozen? ⟨p, j, none⟩ = false) ∧ ∀ B, B ≤ p → Below B w wr
theorem PM.start {w : World} {p n : Nat} {zs : List Nat} (k0 : Int) (h : FRow w (some ⟨p, 0, none⟩) n zs) (hf : ∀ j, j < n → w.frozen? ⟨p, j, none⟩ = false) : PM w p n zs k0 0 w := by
  refine ⟨rfl, fun a _ => ⟨rfl, rfl⟩, fun j hj => ⟨?_, hf j hj⟩, fun B _ => Below.refl _ _⟩
  rcases h.2 with h0 | ⟨b, off, e, _, hc⟩
  · omega
  · injection e with e
    injection e with e1 e2
    subst e1; subst e2
    have := hc j hj
    rw [Nat.zero_add] at this
    rw [this, if_neg (by omega)]
theorem PM.step {w wr : World} {p n k : Nat} {zs : List Nat} {k0 : Int} (h : PM w p n zs k0 k wr) (hk : k < n) (z : Nat) (hz : z = floatOfInt .f32 (k0 + (k : Int))) : PM w p n zs k0 (k + 1) (wr.setCell ⟨p, k, none⟩ (.float .f32 z)) := by
  obtain ⟨h1, h2, h3, h4⟩ := h
  refine ⟨by rw [World.size_setCell]; exact h1, fun a ha => ⟨?_, ?_⟩, fun j hj => ⟨?_, ?_⟩, fun B hB => (h4 B hB).setCell hB _⟩
  · rw [World.cell?_setCell_other (h := fun e => ha (by rw [← e]))]; exact (h2 a ha).1
  · rw [World.frozen?_setCell]; exact (h2 a ha).2
  · by_cases e : j = k
    · subst e
      rw [World.cell?_setCell_same (h := (h3 j hj).1), if_pos (by omega), hz]
    · rw [World.cell?_setCell_other (h := fun e2 => e (by injection e2 with _ e3 _; exact e3.symm)), (h3 j hj).1]
      by_cases hjk : j < k
      · rw [if_pos hjk, if_pos (by omega)]
      · rw [if_neg hjk, if_neg (by omega)]
  · rw [World.frozen?_setCell]; exact (h3 j hj).2
theorem PM.row {w wr : World} {p n : Nat} {zs : List Nat} {k0 : Int} (h : PM w p n zs k0 n wr) (hp : p < w.heap.size) : FRow wr (some ⟨p, 0, none⟩) n (marks k0 n) ∧ ∀ j, j < n → wr.frozen? ⟨p, j, none⟩ = false := by
  obtain ⟨h1, _, h3, _⟩ := h
  refine ⟨⟨marks_len _ _, .inr ⟨p, 0, rfl, by omega, fun j hj => ?_⟩⟩, fun j hj => (h3 j hj).2⟩
  rw [Nat.zero_add, (h3 j hj).1, if_pos hj, marks_get _ hj]
/-- A marked row among others. -/
theorem Sep.mark {base : Nat} {w wr : World} {L : List (Nat × Nat × List Nat)} {i p n : Nat} {zs : List Nat} {k0 : Int} (h : Sep base w L) (hi : L[i]? = some (p, n, zs)) (hm : PM w p n zs k0 n wr) : Sep base wr (L.set i (p, n, marks k0 n)) ∧ Below base w wr := by
  have hmem : (p, n, zs) ∈ L := List.mem_of_getElem? hi
  obtain ⟨hb1, hb2, _, _⟩ := h.2.1 _ hmem
  have hb1 : base ≤ p := hb1
  have hb2 : p < w.heap.size := hb2
  obtain ⟨hrow, hfz⟩ := hm.row hb2
  obtain ⟨hs, ho, _, hB⟩ := hm
  have hil : i < L.length := (List.getElem?_eq_some_iff.1 hi).1
  have hie : L[i] = (p, n, zs) := (List.getElem?_eq_some_iff.1 hi).2
  refine ⟨⟨by rw [hs]; exact h.1, fun r hr => ?_, ?_⟩, hB base hb1⟩
  · obtain ⟨j, hj, hje⟩ := List.getElem_of_mem hr
    rw [List.length_set] at hj
    by_cases e : j = i
    · subst e
      rw [List.getElem_set_self] at hje
      subst hje
      exact ⟨hb1, by rw [hs]; exact hb2, hrow, hfz⟩
    · rw [List.getElem_set_ne (fun e2 => e e2.symm)] at hje
      have hrm : r ∈ L := by rw [← hje]; exact List.getElem_mem _
      obtain ⟨c1, c2, c3, c4⟩ := h.2.1 r hrm
      have hne : r.1 ≠ p := by
        intro e2
        have hnd := h.2.2
        have a1 : (L.map (·.1))[j]'(by simpa using hj) = r.1 := by simp [hje]
        have a2 : (L.map (·.1))[i]'(by simpa using hil) = p := by simp [hie]
        have hpw := List.pairwise_iff_getElem.1 hnd
        rcases Nat.lt_trichotomy j i with hl | hl | hl
        · exact hpw j i (by simpa using hj) (by simpa using hil) hl (by rw [a1, a2]; exact e2)
        · exact e hl
        · exact hpw i j (by simpa using hil) (by simpa using hj) hl (by rw [a1, a2]; exact e2.symm)
      refine ⟨c1, by rw [hs]; exact c2, ?_, fun q hq => by rw [(ho ⟨r.1, q, none⟩ hne).2]; exact c4 q hq⟩
      refine ⟨c3.1, ?_⟩
      rcases c3.2 with z | ⟨b, off, eb, _, hc⟩
      · exact .inl z
      · injection eb with eb
        injection eb with e1 e2
        subst e1; subst e2
        exact .inr ⟨r.1, 0, rfl, by rw [hs]; exact c2, fun q hq => by rw [(ho ⟨r.1, 0 + q, none⟩ hne).1]; exact hc q hq⟩
  · have : (L.set i (p, n, marks k0 n)).map (·.1) = L.map (·.1) := by
      rw [List.map_set]
      have : p = (L.map (·.1))[i]'(by simpa using hil) := by simp [hie]
      show (L.map (·.1)).set i p = _
      rw [this, List.set_getElem_self]
    rw [this]; exact h.2.2
theorem toS (a : Option Addr) (n cap : Nat) (zs : List Nat) (w : World) (base : Nat) (L : List (Nat × Nat × List Nat)) (h : Sep base w L) (ha : FRow w a n zs) (hn : n ≤ 1048576) :
    Calls Try.prog 16 #[.slice a n cap] w fun e w' => ∃ p, e = .returned (.slice (some ⟨p, 0, none⟩) n n) ∧ Sep base w' ((p, n, zs) :: L) ∧ Below w.heap.size w w' := by
  refine (toF a n cap zs w ha hn).mono ?_
  rintro e w' ⟨he, rfl⟩
  have hb : Below w.heap.size w (w.alloc (.cells (fl zs) 23)) := (Below.refl _ _).alloc (Nat.le_refl _) _
  exact ⟨_, he, h.push hb (Nat.le_refl _) (by simp) (FRow.new ha.1 _) (fun j _ => World.frozen?_alloc_at _ _ _ _ rfl), hb⟩
set_option maxHeartbeats 2000000 in
theorem markS (p n cap : Nat) (zs : List Nat) (k0 : Int) (w : World) (base : Nat) (L : List (Nat × Nat × List Nat)) (i : Nat) (h : Sep base w L) (hi : L[i]? = some (p, n, zs)) (hn : n ≤ 1048576) (hk0 : 0 ≤ k0 ∧ k0 ≤ 4194304) :
    Calls Try.prog 19 #[.slice (some ⟨p, 0, none⟩) n cap, .int .i64 k0] w fun e w' => e = .returned (.int .i64 (k0 + (n : Int))) ∧ Sep base w' (L.set i (p, n, marks k0 n)) ∧ Below base w w' := by
  have HS := Lib.hid h
  have HI := Lib.hid hi
  have HP := Lib.hid (PM.start (k0 := k0) (h.get (List.mem_of_getElem? hi)) (h.2.1 _ (List.mem_of_getElem? hi)).2.2.2)
  obtain ⟨hk1, hk2⟩ := hk0
  clear h hi
  go_enter Try.func19, Try.ntmps19
  go_wp2
  go_loopw [1, 5] (fun kv iv w' => ∃ (k : Nat) (wr : World), k ≤ n ∧ kv = .int .i64 (k0 + (k : Int)) ∧ iv = .int .i64 k ∧ wr = w' ∧ Hid (PM w p n zs k0 k wr)) (fun _ iv _ => n - (intOf iv).toNat)
  case atStart => exact ⟨0, _, by omega, by simp, rfl, rfl, HP⟩
  case round =>
    obtain ⟨k, wr, hk, rfl, rfl, rfl, HM⟩ := hrel
    by_cases hlt : k < n
    · have hck := (HM.out.2.2.1 k hlt).1
      have hfz := (HM.out.2.2.1 k hlt).2
      have HN := Lib.hid (HM.out.step hlt _ rfl)
      have hst : ∀ (a : Addr) (m : Mode) (x : Nat) (w : World), (store a (.float .f32 x) m).run Try.prog w = stored Try.prog w a (.float .f32 x) m := fun a m x w => run_store Try.prog w a (.float .f32 x) m rfl
      generalize (if k < k then floatOfInt .f32 (k0 + (k : Int)) else zs.getD k 0) = old at hck
      go_wp2
      all_goals
        exact ⟨⟨k + 1, _, by omega, by first | rfl | go_num | (congr 1), by first | rfl | go_num | (congr 1), rfl, HN⟩, by show n - ((k : Int) + 1).toNat < n - (k : Int).toNat; omega⟩
    · obtain rfl : k = n := by omega
      have HR := Lib.hid (HS.out.mark HI.out HM.out)
      go_wp2
      go_ret
      exact ⟨ret_i rfl, HR.out.1, HR.out.2⟩
theorem markI (p n cap : Nat) (k0 : Int) (w : World) (base : Nat) (L : List (Nat × Nat × List Nat)) (i : Nat) (h : Sep base w L) (hi : L[i]?.map (fun r => (r.1, r.2.1)) = some (p, n)) (hn : n ≤ 1048576) (hk0 : 0 ≤ k0 ∧ k0 ≤ 4194304) :
    Calls Try.prog 19 #[.slice (some ⟨p, 0, none⟩) n cap, .int .i64 k0] w fun e w' => e = .returned (.int .i64 (k0 + (n : Int))) ∧ Sep base w' (L.set i (p, n, marks k0 n)) ∧ Below base w w' := by
  cases hl : L[i]? with
  | none => rw [hl] at hi; cases hi
  | some r =>
    obtain ⟨p', n', zs⟩ := r
    rw [hl] at hi
    simp at hi
    obtain ⟨rfl, rfl⟩ := hi
    exact markS p' n' cap zs k0 w base L i h hl hn hk0
theorem markNil (k0 : Int) (w : World) : Calls Try.prog 19 #[.slice none 0 0, .int .i64 k0] w fun e w' => e = .returned (.int .i64 k0) ∧ w = w' := by
  go_enter Try.func19, Try.ntmps19
  go_wp2
  refine wp_loop_rounds 1 ?_
  rw [rounds_succ]
  go_wp2
  go_ret
  exact ⟨rfl, rfl⟩
set_option maxHeartbeats 2000000 in
theorem heldS (p n cap : Nat) (k0 : Int) (w : World) (base : Nat) (L : List (Nat × Nat × List Nat)) (h : Sep base w L) (hm : (p, n, marks k0 n) ∈ L) (hn : n ≤ 1048576) (hk0 : 0 ≤ k0 ∧ k0 ≤ 4194304) :
    Calls Try.prog 20 #[.slice (some ⟨p, 0, none⟩) n cap, .int .i64 k0] w fun e w' => e = .returned (.int .i64 (k0 + (n : Int))) ∧ Drew w w' := by
  have HR := Lib.hid (h.get hm)
  obtain ⟨hk1, hk2⟩ := hk0
  clear h hm
  go_enter Try.func20, Try.ntmps20
  go_wp2
  go_loopw [1, 5] (fun kv iv w' => ∃ k q : Nat, k ≤ n ∧ kv = .int .i64 (k0 + (k : Int)) ∧ iv = .int .i64 k ∧ w' = w.drewN q) (fun _ iv _ => n - (intOf iv).toNat)
  case atStart => exact ⟨0, 0, by omega, by simp, rfl, rfl⟩
  case round =>
    obtain ⟨k, q, hk, rfl, rfl, rfl⟩ := hrel
    by_cases hlt : k < n
    · have hck : w.cell? ⟨p, k, none⟩ = some (.float .f32 (floatOfInt .f32 (k0 + (k : Int)))) := by
        rcases HR.out.2 with h0 | ⟨b, off, e, _, hc⟩
        · omega
        · injection e with e
          injection e with e1 e2
          subst e1; subst e2
          have := hc k hlt
          rw [Nat.zero_add, marks_get _ hlt] at this
          exact this
      have ho : (FloatKind.f32).format.order (floatOfInt .f32 (k0 + (k : Int))) (floatOfInt .f32 (k0 + (k : Int))) = some .eq := order_self (write_notNaN _ (.number _ _ 0) rfl)
      go_wp2
      all_goals
        exact ⟨⟨k + 1, _, by omega, by first | rfl | go_num | (congr 1), by first | rfl | go_num | (congr 1), rfl⟩, by show n - ((k : Int) + 1).toNat < n - (k : Int).toNat; omega⟩
    · obtain rfl : k = n := by omega
      go_wp2
      go_ret
      exact ⟨ret_i rfl, Drew.mk _ _⟩
theorem heldNil (k0 : Int) (w : World) : Calls Try.prog 20 #[.slice none 0 0, .int .i64 k0] w fun e w' => e = .returned (.int .i64 k0) ∧ w = w' := by
  go_enter Try.func20, Try.ntmps20
  go_wp2
  refine wp_loop_rounds 1 ?_
  rw [rounds_succ]
  go_wp2
  go_ret
  exact ⟨rfl, rfl⟩
end Go.Proofs.Ytcgdhicgpkoncaa
