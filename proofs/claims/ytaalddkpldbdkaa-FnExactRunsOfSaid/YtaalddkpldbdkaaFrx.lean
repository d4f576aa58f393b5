/- Letters that come to the front: the functions on lists. -/
import Derived.Test.YtaalddkpldbdkaaFri
namespace Go.Proofs.Ytaalddkpldbdkaa
open Go.Proofs.Ytaalddkpldbdkaa.Flo Go.RowKit

set_option maxHeartbeats 2000000 in
theorem bl_spec (a : Option Addr) (m cap : Nat) (zs : List Int) (n : Int) (w : World) (h : IRow w a m zs) (hm : m ≤ 1048576) (hn : -9223372036854775808 ≤ n ∧ n ≤ 9223372036854775807) :
    Calls Try.prog 54 #[.slice a m cap, .int .i64 n] w fun e w' => e = .returned (.bool (okF zs m n)) ∧ w = w' := by
  have HA := Lib.hid h
  clear h
  by_cases h1 : 1 ≤ n ∧ n ≤ 16
  · have H1 := Lib.hid h1
    by_cases h2 : m ≤ 512
    · have hw : IntKind.i64.wrap (n - 1) = n - 1 := IntWalk.i64_in _ (by omega)
      go_enter Try.func54, Try.ntmps54
      go_wp2_with (first | (go_at_call 69; refine (in_true n 1 16 _ H1.out.1 H1.out.2).mono ?_; rintro e w' ⟨rfl, hw⟩; have hw := hw.symm; subst hw) | go_in)
      go_loop [5] (fun iv => ∃ k : Nat, k ≤ m ∧ Hid (letP zs n k) ∧ iv = .int .i64 k) (fun iv => m - (intOf iv).toNat)
      case atStart => exact ⟨0, by omega, Lib.hid (by intro j hj; omega), rfl⟩
      case round =>
        obtain ⟨k, hk, HL, rfl⟩ := hrel
        by_cases hlt : k < m
        · obtain ⟨b1, o1, rfl, _, hck1⟩ := HA.out.cell' hlt
          by_cases hc : 0 ≤ zs.getD k 0 ∧ zs.getD k 0 < n
          · have HN : Hid (letP zs n (k + 1)) := Lib.hid (fun j hj => by
              by_cases e : j < k
              · exact HL.out j e
              · obtain rfl : j = k := by omega
                exact hc)
            have HC : Hid (0 ≤ zs.getD k 0 ∧ zs.getD k 0 ≤ n - 1) := Lib.hid (by omega)
            clear hc
            generalize zs.getD k 0 = c at hck1 HC
            go_wp2_with (first | (go_at_call 69; refine (in_true c 0 (n - 1) _ HC.out.1 HC.out.2).mono ?_; rintro e w' ⟨rfl, rfl⟩) | go_in)
            go_round
            case rel => exact ⟨k + 1, by omega, HN, by go_num⟩
            case measure => simp [intOf]; omega
          · have HF : Hid (okF zs m n = false) := Lib.hid (by
              unfold okF
              rw [decide_eq_false (p := letP zs n m) (fun e => hc (e k hlt))]
              simp)
            have HC : Hid (¬ (0 ≤ zs.getD k 0 ∧ zs.getD k 0 ≤ n - 1)) := Lib.hid (by omega)
            clear hc
            generalize zs.getD k 0 = c at hck1 HC
            go_wp2_with (first | (go_at_call 69; refine (in_false c 0 (n - 1) _ HC.out).mono ?_; rintro e w' ⟨rfl, rfl⟩) | go_in)
            go_ret
            exact ⟨ret_bool2 HF.out.symm, rfl⟩
        · obtain rfl : k = m := by omega
          have HF : Hid (okF zs k n = true) := Lib.hid (by unfold okF; rw [decide_eq_true H1.out, decide_eq_true h2, decide_eq_true HL.out]; rfl)
          go_wp2
          go_ret
          exact ⟨ret_bool2 HF.out.symm, rfl⟩
    · have HF : Hid (okF zs m n = false) := Lib.hid (by unfold okF; rw [decide_eq_false (p := m ≤ 512) h2]; simp)
      have hd : decide (512 < (m : Int)) = true := decide_eq_true (by omega)
      go_enter Try.func54, Try.ntmps54
      go_wp2_with (first | (go_at_call 69; refine (in_true n 1 16 _ H1.out.1 H1.out.2).mono ?_; rintro e w' ⟨rfl, rfl⟩) | go_in)
      go_ret
      exact ⟨ret_bool2 HF.out.symm, rfl⟩
  · have HF : Hid (okF zs m n = false) := Lib.hid (by unfold okF; rw [decide_eq_false h1]; rfl)
    have H1 := Lib.hid h1
    clear h1
    go_enter Try.func54, Try.ntmps54
    go_wp2_with (first | (go_at_call 69; refine (in_false n 1 16 _ H1.out).mono ?_; rintro e w' ⟨rfl, rfl⟩) | go_in)
    go_ret
    exact ⟨ret_bool2 HF.out.symm, rfl⟩
set_option maxHeartbeats 1000000 in
theorem ll_impl (n : Int) (w : World) : Calls Try.prog 57 #[.int .i64 n] w fun e w' => e = .returned (.bool (decide (1 ≤ n ∧ n ≤ 16))) ∧ w = w' := by
  by_cases h1 : 1 ≤ n
  · by_cases h2 : n ≤ 16
    · have HF : Hid (decide (1 ≤ n ∧ n ≤ 16) = true) := Lib.hid (decide_eq_true ⟨h1, h2⟩)
      have d1 : decide (1 ≤ n) = true := decide_eq_true h1
      have d2 : decide (n ≤ 16) = true := decide_eq_true h2
      go_enter Try.func57, Try.ntmps57
      go_wp2
      go_ret
      first | exact ⟨ret_bool2 HF.out.symm, rfl⟩ | exact ⟨rfl, rfl⟩
    · have HF : Hid (decide (1 ≤ n ∧ n ≤ 16) = false) := Lib.hid (decide_eq_false (fun e => h2 e.2))
      have d1 : decide (1 ≤ n) = true := decide_eq_true h1
      have d2 : decide (n ≤ 16) = false := decide_eq_false h2
      go_enter Try.func57, Try.ntmps57
      go_wp2
      go_ret
      first | exact ⟨ret_bool2 HF.out.symm, rfl⟩ | exact ⟨rfl, rfl⟩
  · have HF : Hid (decide (1 ≤ n ∧ n ≤ 16) = false) := Lib.hid (decide_eq_false (fun e => h1 e.1))
    have d1 : decide (1 ≤ n) = false := decide_eq_false h1
    go_enter Try.func57, Try.ntmps57
    go_wp2
    go_ret
    first | exact ⟨ret_bool2 HF.out.symm, rfl⟩ | exact ⟨rfl, rfl⟩
def letB (zs : List Int) (m : Nat) (n : Int) : Bool := decide (letP zs n m) && decide (m ≤ 512)
theorem okF_eq (zs : List Int) (m : Nat) (n : Int) : okF zs m n = (decide (1 ≤ n ∧ n ≤ 16) && letB zs m n) := by
  unfold okF letB
  rw [Bool.and_comm (decide (m ≤ 512))]
set_option maxHeartbeats 2000000 in
theorem al_impl (a : Option Addr) (m cap : Nat) (zs : List Int) (n : Int) (w : World) (h : IRow w a m zs) (hm : m ≤ 1048576) :
    Calls Try.prog 58 #[.slice a m cap, .int .i64 n] w fun e w' => e = .returned (.bool (letB zs m n)) ∧ w = w' := by
  have HA := Lib.hid h
  clear h
  go_enter Try.func58, Try.ntmps58
  go_wp2
  go_loop [9] (fun iv => ∃ k : Nat, k ≤ m ∧ Hid (letP zs n k) ∧ iv = .int .i64 k) (fun iv => m - (intOf iv).toNat)
  case atStart => exact ⟨0, by omega, Lib.hid (by intro j hj; omega), rfl⟩
  case round =>
    obtain ⟨k, hk, HL, rfl⟩ := hrel
    by_cases hlt : k < m
    · obtain ⟨b1, o1, rfl, _, hck1⟩ := HA.out.cell' hlt
      by_cases hc0 : 0 ≤ zs.getD k 0
      · by_cases hc1 : zs.getD k 0 < n
        · have HN : Hid (letP zs n (k + 1)) := Lib.hid (fun j hj => by
            by_cases e : j < k
            · exact HL.out j e
            · obtain rfl : j = k := by omega
              exact ⟨hc0, hc1⟩)
          generalize zs.getD k 0 = c at hck1 hc0 hc1
          have d1 : decide (c < 0) = false := decide_eq_false (by omega)
          have d2 : decide (n ≤ c) = false := decide_eq_false (by omega)
          go_wp2
          go_round
          case rel => exact ⟨k + 1, by omega, HN, by go_num⟩
          case measure => simp [intOf]; omega
        · have HF : Hid (letB zs m n = false) := Lib.hid (by
            unfold letB
            rw [decide_eq_false (p := letP zs n m) (fun e => hc1 (e k hlt).2)]; rfl)
          generalize zs.getD k 0 = c at hck1 hc0 hc1
          have d1 : decide (c < 0) = false := decide_eq_false (by omega)
          have d2 : decide (n ≤ c) = true := decide_eq_true (by omega)
          go_wp2
          go_ret
          exact ⟨ret_bool2 HF.out.symm, rfl⟩
      · have HF : Hid (letB zs m n = false) := Lib.hid (by
          unfold letB
          rw [decide_eq_false (p := letP zs n m) (fun e => hc0 (e k hlt).1)]; rfl)
        generalize zs.getD k 0 = c at hck1 hc0
        have d1 : decide (c < 0) = true := decide_eq_true (by omega)
        go_wp2
        go_ret
        exact ⟨ret_bool2 HF.out.symm, rfl⟩
    · obtain rfl : k = m := by omega
      by_cases h2 : k ≤ 512
      · have HF : Hid (letB zs k n = true) := Lib.hid (by unfold letB; rw [decide_eq_true h2, decide_eq_true HL.out]; rfl)
        have hd : decide ((k : Int) ≤ 512) = true := decide_eq_true (by omega)
        go_wp2
        go_ret
        exact ⟨ret_bool2 HF.out.symm, rfl⟩
      · have HF : Hid (letB zs k n = false) := Lib.hid (by unfold letB; rw [decide_eq_false h2]; simp)
        have hd : decide ((k : Int) ≤ 512) = false := decide_eq_false (by omega)
        go_wp2
        go_ret
        exact ⟨ret_bool2 HF.out.symm, rfl⟩
set_option maxRecDepth 100000 in
set_option maxHeartbeats 4000000 in
theorem or_spec (N : Nat) (w : World) (h1 : 1 ≤ N) (h2 : N ≤ 16) :
    Calls Try.prog 55 #[.int .i64 (N : Int)] w fun e w' => ∃ g cp, e = .returned (.slice (some ⟨g, 0, none⟩) N cp) ∧ w'.ownsRow (w.heap.size) 2 1 (.slice (some ⟨g, 0, none⟩) N cp) (N) ((rngI N).map (Value.int .i64)) ∧ Below w.heap.size w w' := by
  obtain ⟨i0, hi, hz0, hz1, hz2⟩ := info_parts Try.info64
  go_enter Try.func55, Try.ntmps55
  go_wp2
  go_loopw [3, 4] (fun v0 iv wr0 => ∃ (k : Nat) (v : Value) (wr : World), k ≤ N ∧ v = v0 ∧ iv = .int .i64 k ∧ wr = wr0 ∧ Hid (wr.ownsRow (w.heap.size) 2 1 (v) (k) ((rngI k).map (Value.int .i64))) ∧ Hid (Below w.heap.size w wr)) (fun _ iv _ => N - (intOf iv).toNat)
  case atStart => exact ⟨0, _, _, by omega, rfl, rfl, rfl, Lib.hid (own_empty w 2), Lib.hid (Below.alloc (Below.refl _ _) (Nat.le_refl _) _)⟩
  case round =>
    obtain ⟨k, v, wr, hk, rfl, rfl, rfl, HO, HW⟩ := hrel
    by_cases hlt : k < N
    · have HL := Lib.hid (rngI_on k)
      have HO1 := Lib.hid HO.out
      have HNE := Lib.hid (own_block HO.out)
      have HB := Lib.hid HW.out.size
      go_wp2_with (first | (at_builtin; refine wpList_append_lies _ rfl _ _ 22 rfl (w.heap.size) 2 i0 (.int .i64 0) 1 8 Try.underlying22 hi hz0 hz1 hz2 rfl (by omega) v k ((rngI k).map (Value.int .i64)) rfl (World.ownsRow.alloc HO1.out _) ⟨wr.heap.size, 0, none⟩ 1 1 [.int .i64 ((k : Int))] rfl rfl (World.news_of_block (cs := #[.int .i64 ((k : Int))]) (t := 2) (fr := (0, 0)) (heap_alloc_new _ _)) (by simp [Value.oneCell']) (by omega) (by unfold maxLen; omega) (by omega) (by have := HB.out; simp; omega) (wr.heap.size + 1) (by simp) ?_; intro gg cp w1 hown1 hgrow hat hlt2; have HO2 := Lib.hid hown1; have HG2 := Lib.hid hgrow; clear hown1 hgrow hat hlt2) | go_in)
      exact ⟨⟨k + 1, _, _, by omega, rfl, by first | rfl | go_num | (congr 1), rfl, Lib.hid (by rw [HL.out]; exact HO2.out), Lib.hid (Below.grown (Below.alloc HW.out HW.out.size _) HG2.out (by have := HB.out; simp; omega) HNE.out)⟩, by show N - ((k : Int) + 1).toNat < N - (k : Int).toNat; omega⟩
    · obtain rfl : k = N := by omega
      obtain ⟨g, cp, rfl, hg, hgl⟩ := World.ownsRow.form HO.out (by omega)
      go_wp2
      go_ret
      exact ⟨g, cp, rfl, HO.out, HW.out⟩
set_option maxRecDepth 100000 in
set_option maxHeartbeats 4000000 in
theorem or_impl (N : Nat) (w : World) (h1 : 1 ≤ N) (h2 : N ≤ 16) :
    Calls Try.prog 59 #[.int .i64 (N : Int)] w fun e w' => ∃ g cp, e = .returned (.slice (some ⟨g, 0, none⟩) N cp) ∧ w'.ownsRow (w.heap.size) 2 1 (.slice (some ⟨g, 0, none⟩) N cp) (N) ((rngI N).map (Value.int .i64)) ∧ Below w.heap.size w w' := by
  obtain ⟨i0, hi, hz0, hz1, hz2⟩ := info_parts Try.info64
  go_enter Try.func59, Try.ntmps59
  go_wp2
  go_loopw [3, 6] (fun v0 iv wr0 => ∃ (k : Nat) (v : Value) (wr : World), k ≤ N ∧ v = v0 ∧ iv = .int .i64 k ∧ wr = wr0 ∧ Hid (wr.ownsRow (w.heap.size) 2 1 (v) (k) ((rngI k).map (Value.int .i64))) ∧ Hid (Below w.heap.size w wr)) (fun _ iv _ => N - (intOf iv).toNat)
  case atStart => exact ⟨0, _, _, by omega, rfl, rfl, rfl, Lib.hid (World.ownsRow_nil _ _ _ _), Lib.hid (Below.refl _ _)⟩
  case round =>
    obtain ⟨k, v, wr, hk, rfl, rfl, rfl, HO, HW⟩ := hrel
    by_cases hlt : k < N
    · have HL := Lib.hid (rngI_on k)
      have HO1 := Lib.hid HO.out
      have HNE := Lib.hid (own_block HO.out)
      have HB := Lib.hid HW.out.size
      go_wp2_with (first | (at_builtin; refine wpList_append_lies _ rfl _ _ 22 rfl (w.heap.size) 2 i0 (.int .i64 0) 1 8 Try.underlying22 hi hz0 hz1 hz2 rfl (by omega) v k ((rngI k).map (Value.int .i64)) rfl (World.ownsRow.alloc HO1.out _) ⟨wr.heap.size, 0, none⟩ 1 1 [.int .i64 ((k : Int))] rfl rfl (World.news_of_block (cs := #[.int .i64 ((k : Int))]) (t := 2) (fr := (0, 0)) (heap_alloc_new _ _)) (by simp [Value.oneCell']) (by omega) (by unfold maxLen; omega) (by omega) (by have := HB.out; simp; omega) (wr.heap.size + 1) (by simp) ?_; intro gg cp w1 hown1 hgrow hat hlt2; have HO2 := Lib.hid hown1; have HG2 := Lib.hid hgrow; clear hown1 hgrow hat hlt2) | go_in)
      exact ⟨⟨k + 1, _, _, by omega, rfl, by first | rfl | go_num | (congr 1), rfl, Lib.hid (by rw [HL.out]; exact HO2.out), Lib.hid (Below.grown (Below.alloc HW.out HW.out.size _) HG2.out (by have := HB.out; simp; omega) HNE.out)⟩, by show N - ((k : Int) + 1).toNat < N - (k : Int).toNat; omega⟩
    · obtain rfl : k = N := by omega
      obtain ⟨g, cp, rfl, hg, hgl⟩ := World.ownsRow.form HO.out (by omega)
      go_wp2
      go_ret
      exact ⟨g, cp, rfl, HO.out, HW.out⟩
set_option maxRecDepth 100000 in
set_option maxHeartbeats 4000000 in
theorem ft_spec (base g N cap i : Nat) (L : List Int) (w : World) (h : w.ownsRow (base) 2 1 (.slice (some ⟨g, 0, none⟩) N cap) (N) ((L).map (Value.int .i64))) (hi : i < N) (hN : N ≤ 16) :
    Calls Try.prog 56 #[.slice (some ⟨g, 0, none⟩) N cap, .int .i64 (i : Int)] w fun e w' => e = .returned (.tuple #[]) ∧ w'.ownsRow (base) 2 1 (.slice (some ⟨g, 0, none⟩) N cap) (N) ((mvF L i).map (Value.int .i64)) ∧ w.grownBy w' (some g) := by
  have hst : ∀ (a : Addr) (m : Mode) (x : Int) (w : World), (store a (.int .i64 x) m).run Try.prog w = stored Try.prog w a (.int .i64 x) m := fun a m x w => run_store Try.prog w a (.int .i64 x) m rfl
  have hlen : L.length = N := by simpa using h.1
  have hck0 := own_cell h hi
  have HR : Hid ((dnF i L).set 0 (L.getD i 0) = mvF L i) := Lib.hid (mvF_of L i (by omega))
  have HLEN := Lib.hid hlen
  have HO := Lib.hid h
  clear h hlen
  generalize L.getD i 0 = x0 at hck0 HR
  go_enter Try.func56, Try.ntmps56
  go_wp2
  go_loopw [1] (fun iv w' => ∃ (j : Nat) (S : List Int) (wr : World), j ≤ i ∧ iv = .int .i64 j ∧ wr = w' ∧ Hid (wr.ownsRow (base) 2 1 (.slice (some ⟨g, 0, none⟩) N cap) (N) ((S).map (Value.int .i64))) ∧ Hid (dnF j S = dnF i L) ∧ Hid (w.grownBy wr (some g))) (fun iv _ => (intOf iv).toNat)
  case atStart => exact ⟨i, L, _, by omega, rfl, rfl, HO, Lib.hid rfl, Lib.hid (grown_refl _ _)⟩
  case round =>
    clear hck0
    obtain ⟨j, S, wr, hj, rfl, rfl, HS, HD, HG⟩ := hrel
    by_cases h0 : j = 0
    · subst h0
      have hck := own_cell HS.out (j := 0) (by omega)
      have hfz := HS.out.frozenAt 0
      have HP := Lib.hid (own_set HS.out 0 x0)
      have HE : Hid (S.set 0 x0 = mvF L i) := Lib.hid (by have e : S = dnF i L := HD.out; rw [e]; exact HR.out)
      generalize S.getD 0 0 = old at hck
      go_wp2
      go_end0
      exact ⟨rfl, by rw [← HE.out]; exact HP.out.1, grown_trans HG.out HP.out.2⟩
    · obtain ⟨p, rfl⟩ : ∃ p, j = p + 1 := ⟨j - 1, by omega⟩
      have hck1 := own_cell HS.out (j := p) (by omega)
      have hck2 := own_cell HS.out (j := p + 1) (by omega)
      have hfz := HS.out.frozenAt (p + 1)
      have HD2 : Hid (dnF p (S.set (p + 1) (S.getD p 0)) = dnF i L) := Lib.hid HD.out
      have HP := Lib.hid (own_set HS.out (p + 1) (S.getD p 0))
      generalize S.getD p 0 = x at hck1 HD2 HP
      generalize S.getD (p + 1) 0 = old at hck2
      have hw : IntKind.i64.wrap (((p + 1 : Nat) : Int) - 1) = (p : Int) := by
        have e : ((p + 1 : Nat) : Int) - 1 = (p : Int) := by omega
        rw [e]; exact IntWalk.i64_in _ (by omega)
      go_wp2
      exact ⟨⟨p, S.set (p + 1) x, _, by omega, by first | rfl | go_num | (congr 1), rfl, Lib.hid HP.out.1, HD2, Lib.hid (grown_trans HG.out HP.out.2)⟩, by show ((p : Int)).toNat < (((p + 1 : Nat)) : Int).toNat; omega⟩
theorem own_drewN {w : World} {base : Nat} {e : TypeId} {v : Value} {n : Nat} {xs : List Value} (h : w.ownsRow base e 1 v n xs) (q : Nat) : (w.drewN q).ownsRow base e 1 v n xs := h
theorem cell_alc {w : World} {b i : Nat} {v : Value} (h : w.cell? ⟨b, i, none⟩ = some v) (hb : b < w.heap.size) (o : Obj) : (w.alloc o).cell? ⟨b, i, none⟩ = some v := (World.cell?_alloc_past _ _ _ hb).trans h
theorem cell_alq {w : World} {b i : Nat} {v : Value} (h : w.cell? ⟨b, i, none⟩ = some v) (hb : b < w.heap.size) (q : Nat) (o : Obj) : ((w.drewN q).alloc o).cell? ⟨b, i, none⟩ = some v := cell_alc (w := w.drewN q) h hb o
theorem own_rowF {w : World} {base : Nat} {e : TypeId} {g n cap : Nat} {S : List Int} (h : w.ownsRow base e 1 (.slice (some ⟨g, 0, none⟩) n cap) n (S.map (Value.int .i64))) : IRow w (some ⟨g, 0, none⟩) n S :=
  ⟨by simpa using h.1, .inr ⟨g, 0, rfl, (own_lt h).2, fun i hi => by rw [Nat.zero_add]; exact own_cell h hi⟩⟩
set_option maxHeartbeats 2000000 in
theorem ix_impl (a : Option Addr) (n cap : Nat) (L : List Int) (x : Int) (w : World) (h : IRow w a n L) (hx : x ∈ L) (hn : n ≤ 1048576) :
    Calls Try.prog 60 #[.slice a n cap, .int .i64 x] w fun e w' => e = .returned (.int .i64 ((idxF L x : Nat) : Int)) ∧ w = w' := by
  have HA := Lib.hid h
  have hlen : L.length = n := h.1
  have hlt0 := idxF_lt hx
  have HX : Hid (L.getD (idxF L x) 0 = x) := Lib.hid (idxF_get hx)
  have HBF : Hid (∀ j, j < idxF L x → ¬ L.getD j 0 = x) := Lib.hid (fun j hj => idxF_before hj (by omega))
  rw [hlen] at hlt0
  clear h hx hlen
  generalize idxF L x = I at hlt0 HX HBF
  go_enter Try.func60, Try.ntmps60
  go_wp2
  go_loop [8] (fun iv => ∃ k : Nat, k ≤ I ∧ iv = .int .i64 k) (fun iv => n - (intOf iv).toNat)
  case atStart => exact ⟨0, by omega, rfl⟩
  case round =>
    obtain ⟨k, hk, rfl⟩ := hrel
    have hlt : k < n := by omega
    obtain ⟨b1, o1, rfl, _, hck1⟩ := HA.out.cell' hlt
    by_cases he : k = I
    · subst he
      rw [HX.out] at hck1
      have heq : (x == x) = true := by simp
      go_wp2
      go_ret
      exact ⟨rfl, rfl⟩
    · have hne : (x == L.getD k 0) = false := by
        have := HBF.out k (by omega)
        simpa using fun e : x = L.getD k 0 => this e.symm
      generalize L.getD k 0 = y at hck1 hne
      go_wp2
      go_round
      case rel => exact ⟨k + 1, by omega, by go_num⟩
      case measure => simp [intOf]; omega
theorem Try.size64 : (Try.prog.info? 2).map (·.size) = some 1 := by kernel_rfl
set_option maxRecDepth 100000 in
set_option maxHeartbeats 4000000 in
theorem ft_impl (base g N cap i : Nat) (L : List Int) (w : World) (h : w.ownsRow (base) 2 1 (.slice (some ⟨g, 0, none⟩) N cap) (N) ((L).map (Value.int .i64))) (hi : i < N) (hN : N ≤ 16) :
    Calls Try.prog 61 #[.slice (some ⟨g, 0, none⟩) N cap, .int .i64 (i : Int)] w fun e w' => e = .returned (.tuple #[]) ∧ w'.ownsRow (base) 2 1 (.slice (some ⟨g, 0, none⟩) N cap) (N) ((mvF L i).map (Value.int .i64)) ∧ w.grownBy w' (some g) := by
  have hst : ∀ (a : Addr) (m : Mode) (x : Int) (w : World), (store a (.int .i64 x) m).run Try.prog w = stored Try.prog w a (.int .i64 x) m := fun a m x w => run_store Try.prog w a (.int .i64 x) m rfl
  have hlen : L.length = N := by simpa using h.1
  have hcap : N ≤ cap := by
    rcases h.2 with ⟨h', _⟩ | ⟨g', cap', cur', h', _, _, hnc, _⟩
    · simp at h'
    · simp only [Value.slice.injEq, Option.some.injEq, Addr.mk.injEq, and_true, true_and] at h'
      obtain ⟨rfl, rfl⟩ := h'
      exact hnc
  have hck0 := own_cell h hi
  have HR : Hid ((dnF i L).set 0 (L.getD i 0) = mvF L i) := Lib.hid (mvF_of L i (by omega))
  obtain ⟨cur, hcl, hcur, hct, hnew⟩ := own_copied h
  obtain ⟨cs, hcs⟩ : ∃ cs : List Value, cs = (L.take i).map (Value.int .i64) := ⟨_, rfl⟩
  have hcsl : cs.length = i := by rw [hcs]; simp; omega
  have HCUR := Lib.hid hcur
  have HCN : Hid (cs.length = Nat.min i (N - 1)) := Lib.hid (by rw [hcsl]; exact (Nat.min_eq_left (by omega)).symm)
  have HCN0 : Hid (cs.length = i) := Lib.hid hcsl
  have HCSI : Hid ((cs.length : Int) = (i : Int)) := Lib.hid (by rw [hcsl])
  have HPOS : Hid (0 < cs.length → (some (⟨g, 1, none⟩ : Addr) = some ⟨g, 1, none⟩) ∧ ∃ ad : Addr, some (⟨g, 0, none⟩ : Addr) = some ad ∧ ∀ j v, cs[j]? = some v → w.cell? (ad.add j) = some v) := Lib.hid (fun _ => ⟨rfl, _, rfl, fun j v hv => by
    have hji : j < i := by have := (List.getElem?_eq_some_iff.1 hv).1; omega
    have hadd : (⟨g, 0, none⟩ : Addr).add j = ⟨g, j, none⟩ := by unfold Addr.add; split <;> simp_all
    rw [hadd, own_cell h (by omega)]
    rw [hcs, List.getElem?_map, List.getElem?_take, if_pos hji, List.getElem?_eq_getElem (by omega)] at hv
    rw [List.getD_eq_getElem?_getD, List.getElem?_eq_getElem (by omega)]
    exact hv⟩)
  have HFIT : Hid (1 + cs.length ≤ cur.length) := Lib.hid (by omega)
  have HONE : Hid (∀ v ∈ cs, v.oneCell' = true) := Lib.hid (by intro v hv; rw [hcs] at hv; obtain ⟨z, _, rfl⟩ := List.mem_map.1 hv; rfl)
  have HNEW : Hid (∀ w' : World, w'.heap[g]? = some (.cells (splice cur 1 cs).toArray 2 (0, 0)) → w'.ownsRow (base) 2 1 (.slice (some ⟨g, 0, none⟩) N cap) (N) ((dnF i L).map (Value.int .i64))) := Lib.hid (fun w' hw => by
    have h2 := hnew w' 1 cs (by omega) hw
    have e : splice (L.map (Value.int .i64)) 1 cs = (dnF i L).map (Value.int .i64) := by
      rw [dnF_eq i L (by omega)]
      unfold splice
      rw [hcsl, hcs, Nat.add_comm 1 i]
      simp [List.map_take, List.map_drop]
    rw [e] at h2
    exact h2)
  have HLEN := Lib.hid hlen
  have HDL : Hid ((dnF i L).length = N) := Lib.hid ((dnF_len i L).trans hlen)
  have hN0 : 0 < N := by omega
  clear h hlen hcur hnew hcl hct hcsl hcs
  generalize L.getD i 0 = x0 at hck0 HR
  have hle1 : 1 ≤ N := by omega
  have hle2 : i ≤ cap := by omega
  have hle3 : N ≤ cap := hcap
  have hleI : (1 : Int) ≤ (N : Int) := by omega
  have hleJ : (i : Int) ≤ (cap : Int) := by omega
  go_enter Try.func61, Try.ntmps61
  go_wp2
  by_cases hc1 : cap = 1
  · obtain rfl : N = 1 := by omega
    obtain rfl : i = 0 := by omega
    subst hc1
    go_region_law (refine step_copy_grown (by rfl) _ _ 22 22 (by rfl) 2 Try.underlying22 Try.size64 (some ⟨g, 0, none⟩) (some ⟨g, 0, none⟩) 0 0 0 1 ?_ ?_ g 1 cur 2 ?_ cs ?_ ?_ ?_ ?_ ?_; (next => (simp [Act.eval, Act.put])); (next => (simp [Act.eval, Act.put])); (next => exact HCUR.out); (next => exact (by rw [HCN0.out]; rfl)); (next => exact fun hp => absurd hp (by have := HCN0.out; omega)); (next => exact HFIT.out); (next => exact HONE.out); intro wc hw hg; have HG2 := Lib.hid (HNEW.out wc hw.out); have HGR := Lib.hid (show w.grownBy wc (some g) from ⟨hg.os, hg.tape, hg.output, hg.size, hg.block⟩); clear hw hg)
    all_goals
      have hck := own_cell HG2.out (j := 0) (by omega)
      have hfz := HG2.out.frozenAt 0
      have HP := Lib.hid (own_set HG2.out 0 x0)
      generalize (dnF 0 L).getD 0 0 = old at hck
      (try simp [Act.put])
      go_wp2
      go_end0
      exact ⟨rfl, by rw [← HR.out]; exact HP.out.1, grown_trans HGR.out HP.out.2⟩
  · have hcn : ¬ (1 = cap) := by omega
    go_region_law (refine step_copy_grown (by rfl) _ _ 22 22 (by rfl) 2 Try.underlying22 Try.size64 (some ⟨g, 1, none⟩) (some ⟨g, 0, none⟩) (N - 1) (cap - 1) i cap ?_ ?_ g 1 cur 2 ?_ cs ?_ ?_ ?_ ?_ ?_; (next => (simp [Act.eval, Act.put])); (next => (simp [Act.eval, Act.put])); (next => exact HCUR.out); (next => exact HCN.out); (next => exact fun hp => ⟨rfl, (HPOS.out hp).2⟩); (next => exact HFIT.out); (next => exact HONE.out); intro wc hw hg; have HG2 := Lib.hid (HNEW.out wc hw.out); have HGR := Lib.hid (show w.grownBy wc (some g) from ⟨hg.os, hg.tape, hg.output, hg.size, hg.block⟩); clear hw hg)
    all_goals
      have hck := own_cell HG2.out (j := 0) (by omega)
      have hfz := HG2.out.frozenAt 0
      have HP := Lib.hid (own_set HG2.out 0 x0)
      generalize (dnF i L).getD 0 0 = old at hck
      (try simp [Act.put])
      go_wp2
      go_end0
      exact ⟨rfl, by rw [← HR.out]; exact HP.out.1, grown_trans HGR.out HP.out.2⟩
end Go.Proofs.Ytaalddkpldbdkaa
