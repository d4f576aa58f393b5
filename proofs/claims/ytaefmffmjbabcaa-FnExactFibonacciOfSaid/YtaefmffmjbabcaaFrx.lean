
/- Letters that come to the front: the functions on lists. -/
import Derived.Test.YtaefmffmjbabcaaFri
namespace Go.Proofs.Ytaefmffmjbabcaa
open Go.Proofs.Ytaefmffmjbabcaa.Flo Go.RowKit

def letB (zs : List Int) (m : Nat) (n : Int) : Bool := decide (letP zs n m) && decide (m ≤ 512)
theorem okF_eq (zs : List Int) (m : Nat) (n : Int) : okF zs m n = (decide (1 ≤ n ∧ n ≤ 16) && letB zs m n) := by
  unfold okF letB
  rw [Bool.and_comm (decide (m ≤ 512))]
set_option maxHeartbeats 2000000 in
theorem al_impl (a : Option Addr) (m cap : Nat) (zs : List Int) (n : Int) (w : World) (h : IRow w a m zs) (hm : m ≤ 1048576) :
    Calls Try.prog 123 #[.slice a m cap, .int .i64 n] w fun e w' => e = .returned (.bool (letB zs m n)) ∧ w = w' := by
  have HA := Lib.hid h
  clear h
  go_enter Try.func123, Try.ntmps123
  go_wp2
  go_loop [9] (fun iv => ∃ k : Nat, k ≤ m ∧ Hid (letP zs n k) ∧ iv = .int .i64 k) (fun iv => m - (intOf iv).toNat)
  case atStart => exact ⟨0, by omega, Lib.hid (by intro j hj; omega), rfl⟩
  case round =>
    obtain ⟨k, hk, HL, rfl⟩ := hrel
    by_cases hlt : k < m
    · obtain ⟨b1, o1, rfl, _, hck1⟩ := HA.out.cell' hlt
      by_cases hc0 : 0 ≤ zs.getD k 0
      · by_cases hc1 : zs.getD k 0 < n
        · have HN : Hid (letP zs n (k + 1)) := Lib.hid (fun j hj => by
            by_cases e : j < k
            · exact HL.out j e
            · obtain rfl : j = k := by omega
              exact ⟨hc0, hc1⟩)
          generalize zs.getD k 0 = c at hck1 hc0 hc1
          have d1 : decide (c < 0) = false := decide_eq_false (by omega)
          have d2 : decide (n ≤ c) = false := decide_eq_false (by omega)
          go_wp2
          go_round
          case rel => exact ⟨k + 1, by omega, HN, by go_num⟩
          case measure => simp [intOf]; omega
        · have HF : Hid (letB zs m n = false) := Lib.hid (by
            unfold letB
            rw [decide_eq_false (p := letP zs n m) (fun e => hc1 (e k hlt).2)]; rfl)
          generalize zs.getD k 0 = c at hck1 hc0 hc1
          have d1 : decide (c < 0) = false := decide_eq_false (by omega)
          have d2 : decide (n ≤ c) = true := decide_eq_true (by omega)
          go_wp2
          go_ret
          exact ⟨ret_bool2 HF.out.symm, rfl⟩
      · have HF : Hid (letB zs m n = false) := Lib.hid (by
          unfold letB
          rw [decide_eq_false (p := letP zs n m) (fun e => hc0 (e k hlt).1)]; rfl)
        generalize zs.getD k 0 = c at hck1 hc0
        have d1 : decide (c < 0) = true := decide_eq_true (by omega)
        go_wp2
        go_ret
        exact ⟨ret_bool2 HF.out.symm, rfl⟩
    · obtain rfl : k = m := by omega
      by_cases h2 : k ≤ 512
      · have HF : Hid (letB zs k n = true) := Lib.hid (by unfold letB; rw [decide_eq_true h2, decide_eq_true HL.out]; rfl)
        have hd : decide ((k : Int) ≤ 512) = true := decide_eq_true (by omega)
        go_wp2
        go_ret
        exact ⟨ret_bool2 HF.out.symm, rfl⟩
      · have HF : Hid (letB zs k n = false) := Lib.hid (by unfold letB; rw [decide_eq_false h2]; simp)
        have hd : decide ((k : Int) ≤ 512) = false := decide_eq_false (by omega)
        go_wp2
        go_ret
        exact ⟨ret_bool2 HF.out.symm, rfl⟩
theorem own_drewN {w : World} {base : Nat} {e : TypeId} {v : Value} {n : Nat} {xs : List Value} (h : w.ownsRow base e 1 v n xs) (q : Nat) : (w.drewN q).ownsRow base e 1 v n xs := h
theorem cell_alc {w : World} {b i : Nat} {v : Value} (h : w.cell? ⟨b, i, none⟩ = some v) (hb : b < w.heap.size) (o : Obj) : (w.alloc o).cell? ⟨b, i, none⟩ = some v := (World.cell?_alloc_past _ _ _ hb).trans h
theorem cell_alq {w : World} {b i : Nat} {v : Value} (h : w.cell? ⟨b, i, none⟩ = some v) (hb : b < w.heap.size) (q : Nat) (o : Obj) : ((w.drewN q).alloc o).cell? ⟨b, i, none⟩ = some v := cell_alc (w := w.drewN q) h hb o
theorem own_rowF {w : World} {base : Nat} {e : TypeId} {g n cap : Nat} {S : List Int} (h : w.ownsRow base e 1 (.slice (some ⟨g, 0, none⟩) n cap) n (S.map (Value.int .i64))) : IRow w (some ⟨g, 0, none⟩) n S :=
  ⟨by simpa using h.1, .inr ⟨g, 0, rfl, (own_lt h).2, fun i hi => by rw [Nat.zero_add]; exact own_cell h hi⟩⟩
set_option maxHeartbeats 2000000 in
theorem ix_impl (a : Option Addr) (n cap : Nat) (L : List Int) (x : Int) (w : World) (h : IRow w a n L) (hx : x ∈ L) (hn : n ≤ 1048576) :
    Calls Try.prog 157 #[.slice a n cap, .int .i64 x] w fun e w' => e = .returned (.int .i64 ((idxF L x : Nat) : Int)) ∧ w = w' := by
  have HA := Lib.hid h
  have hlen : L.length = n := h.1
  have hlt0 := idxF_lt hx
  have HX : Hid (L.getD (idxF L x) 0 = x) := Lib.hid (idxF_get hx)
  have HBF : Hid (∀ j, j < idxF L x → ¬ L.getD j 0 = x) := Lib.hid (fun j hj => idxF_before hj (by omega))
  rw [hlen] at hlt0
  clear h hx hlen
  generalize idxF L x = I at hlt0 HX HBF
  go_enter Try.func157, Try.ntmps157
  go_wp2
  go_loop [8] (fun iv => ∃ k : Nat, k ≤ I ∧ iv = .int .i64 k) (fun iv => n - (intOf iv).toNat)
  case atStart => exact ⟨0, by omega, rfl⟩
  case round =>
    obtain ⟨k, hk, rfl⟩ := hrel
    have hlt : k < n := by omega
    obtain ⟨b1, o1, rfl, _, hck1⟩ := HA.out.cell' hlt
    by_cases he : k = I
    · subst he
      rw [HX.out] at hck1
      have heq : (x == x) = true := by simp
      go_wp2
      go_ret
      exact ⟨rfl, rfl⟩
    · have hne : (x == L.getD k 0) = false := by
        have := HBF.out k (by omega)
        simpa using fun e : x = L.getD k 0 => this e.symm
      generalize L.getD k 0 = y at hck1 hne
      go_wp2
      go_round
      case rel => exact ⟨k + 1, by omega, by go_num⟩
      case measure => simp [intOf]; omega
theorem Try.size64 : (Try.prog.info? 2).map (·.size) = some 1 := by kernel_rfl
end Go.Proofs.Ytaefmffmjbabcaa
