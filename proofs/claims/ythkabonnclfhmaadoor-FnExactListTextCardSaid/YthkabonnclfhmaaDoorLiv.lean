
/- What is alive: the rows of numbers that a world holds, and the laws' helpers in these words. -/
import Derived.Test.YthkabonnclfhmaaDoorRww
import Derived.Test.YthkabonnclfhmaaDoorSlg
namespace Go.Proofs.YthkabonnclfhmaaDoor
open Go.Proofs.YthkabonnclfhmaaDoor.Flo Go.RowKit

/-- Slices and the numbers that they lead to. -/
def Live (w : World) (L : List (Option Addr × Nat × List Nat)) : Prop := ∀ r ∈ L, FRow w r.1 r.2.1 r.2.2
theorem Live.get {w : World} {L : List (Option Addr × Nat × List Nat)} {a : Option Addr} {n : Nat} {zs : List Nat} (h : Live w L) (hm : (a, n, zs) ∈ L) : FRow w a n zs := h _ hm
theorem Live.below {w w' : World} {L : List (Option Addr × Nat × List Nat)} (h : Live w L) (b : Below w.heap.size w w') : Live w' L := fun r hr => (h r hr).below b
theorem Live.nil (w : World) : Live w [] := fun _ h => nomatch h
theorem Live.cons {w : World} {L : List (Option Addr × Nat × List Nat)} {a : Option Addr} {n : Nat} {zs : List Nat} (h : Live w L) (hr : FRow w a n zs) : Live w ((a, n, zs) :: L) := by
  intro r hm
  cases hm with
  | head => exact hr
  | tail _ hm => exact h r hm
theorem Below.next {w w1 w2 : World} (h : Below w.heap.size w w1) (h2 : Below w1.heap.size w1 w2) : Below w.heap.size w w2 := h.trans (h2.mono h.size)

theorem Live.drewN {w : World} {L : List (Option Addr × Nat × List Nat)} (h : Live w L) (q : Nat) : Live (w.drewN q) L := h
theorem Below.ofDrewN {w w' : World} {q : Nat} (h : Below (w.drewN q).heap.size (w.drewN q) w') : Below w.heap.size w w' := Below.trans (Below.drewN' (Below.refl _ _) q) h

theorem toL (a : Option Addr) (n cap : Nat) (zs : List Nat) (w : World) (L : List (Option Addr × Nat × List Nat)) (h : Live w L) (hm : (a, n, zs) ∈ L) (hn : n ≤ 1048576) :
    Calls Tryd.prog 28 #[.slice a n cap] w fun e w' => ∃ p, e = .returned (.slice (some p) n n) ∧ Live w' ((some p, n, zs) :: L) ∧ Below w.heap.size w w' := by
  refine (toF a n cap zs w (h.get hm) hn).mono ?_
  rintro e w' ⟨he, rfl⟩
  have hb : Below w.heap.size w (w.alloc (.cells (fl zs) 83)) := (Below.refl _ _).alloc (Nat.le_refl _) _
  exact ⟨_, he, (h.below hb).cons (FRow.new (h.get hm).1 _), hb⟩
set_option maxHeartbeats 1000000 in
theorem eqC (a b : Option Addr) (n cap capb : Nat) (zs ys : List Nat) (w : World) (ha : FRow w a n zs) (hb : FRow w b n ys) (hn : n ≤ 1048576) (hc : ∀ k, k < n → cls .f32 (zs.getD k 0) = cls .f32 (ys.getD k 0)) :
    Calls Tryd.prog 30 #[.slice a n cap, .slice b n capb] w fun e w' => e = .returned (.bool true) ∧ Drew w w' := by
  have HA := Lib.hid ha
  have HB := Lib.hid hb
  have HC := Lib.hid hc
  clear ha hb hc
  go_enter Tryd.func30, Tryd.ntmps30
  go_wp2
  go_loopw [5] (fun iv w' => ∃ k q : Nat, k ≤ n ∧ iv = .int .i64 k ∧ w' = w.drewN q) (fun iv _ => n - (intOf iv).toNat)
  case atStart => exact ⟨0, 0, by omega, rfl, rfl⟩
  case round =>
    obtain ⟨k, q, hk, rfl, rfl⟩ := hrel
    by_cases hlt : k < n
    · rcases HA.out.2 with h0 | ⟨b1, o1, rfl, _, hc1⟩
      · omega
      rcases HB.out.2 with h0 | ⟨b2, o2, rfl, _, hc2⟩
      · omega
      have hck1 : w.cell? ⟨b1, o1 + k, none⟩ = some (.float .f32 (zs.getD k 0)) := hc1 k hlt
      have hck2 : w.cell? ⟨b2, o2 + k, none⟩ = some (.float .f32 (ys.getD k 0)) := hc2 k hlt
      have heq := HC.out k hlt
      generalize zs.getD k 0 = x at hck1 heq
      generalize ys.getD k 0 = y at hck2 heq
      have h := fun w2 : World => fun w3 : World => (cres_wide x w2).trans ((congrArg vwide heq).trans (cres_wide y w3).symm)
      clear hc1 hc2 HA HB HC heq
      go_wp2
      go_region_with (go_at_call 75; refine (sameFloat_true _ _ (h ..) _).mono ?_; rintro e w2 ⟨rfl, n2, rfl⟩)
      all_goals
        go_wp2
        exact ⟨⟨k + 1, _, by omega, by first | rfl | go_num | (congr 1), rfl⟩, by show n - ((k : Int) + 1).toNat < n - (k : Int).toNat; omega⟩
    · obtain rfl : k = n := by omega
      go_wp2
      go_ret
      exact ⟨rfl, Drew.mk _ _⟩
theorem eqL (a b : Option Addr) (n cap capb : Nat) (zs : List Nat) (w : World) (L : List (Option Addr × Nat × List Nat)) (h : Live w L) (ha : (a, n, zs) ∈ L) (hb : (b, n, zs) ∈ L) (hn : n ≤ 1048576) :
    Calls Tryd.prog 30 #[.slice a n cap, .slice b n capb] w fun e w' => e = .returned (.bool true) ∧ Live w' L ∧ Below w.heap.size w w' :=
  (eqF a b n cap capb zs w (h.get ha) (h.get hb) hn).mono fun _ _ ⟨he, d⟩ => ⟨he, h.below d.below, d.below⟩
end Go.Proofs.YthkabonnclfhmaaDoor
