/- Rows of chances: walks of IsRow in the model and in the program. -/
import Derived.Test.YtiajpmfdaooefaaRwv
import Derived.Test.YtiajpmfdaooefaaFlx
import Derived.Test.YtiajpmfdaooefaaSlf
namespace Go.Proofs.Ytiajpmfdaooefaa
open Go.Proofs.Ytiajpmfdaooefaa.Flo Go.RowKit

theorem FRow.below {w w' : World} {a : Option Addr} {n : Nat} {zs : List Nat} (h : FRow w a n zs) (hb : Below w.heap.size w w') : FRow w' a n zs := by
  obtain ⟨hl, h⟩ := h
  refine ⟨hl, ?_⟩
  rcases h with h | ⟨b, off, ha, hb2, hc⟩
  · exact .inl h
  · refine .inr ⟨b, off, ha, Nat.lt_of_lt_of_le hb2 hb.size, fun i hi => ?_⟩
    rw [hb.cell (p := ⟨b, off + i, none⟩) hb2]; exact hc i hi
theorem Drew.row {w w' : World} {a : Option Addr} {n : Nat} {zs : List Nat} (d : Drew w w') (h : FRow w a n zs) : FRow w' a n zs := by
  obtain ⟨q, rfl⟩ := d; exact h
theorem ret_bool2 {a b : Bool} (h : a = b) : Ending.returned (.bool a) = .returned (.bool b) := by rw [h]
theorem FRow.cell {w : World} {a : Option Addr} {n : Nat} {zs : List Nat} (h : FRow w a n zs) {k : Nat} (hk : k < n) : ∃ b off, a = some ⟨b, off, none⟩ ∧ w.cell? ⟨b, off + k, none⟩ = some (.float .f32 (zs.getD k 0)) := by
  rcases h.2 with h0 | ⟨b, o, rfl, _, hc⟩
  · omega
  · exact ⟨b, o, rfl, hc k hk⟩

theorem notAll {p : Nat → Bool} {n k : Nat} (hk : k < n) (h : p k = false) : decide (∀ j, j < n → p j = true) = false := by
  refine decide_eq_false fun H => ?_
  rw [H k hk] at h; cases h
theorem isAll {p : Nat → Bool} {n : Nat} (h : ∀ j, j < n → p j = true) : decide (∀ j, j < n → p j = true) = true := decide_eq_true h

set_option maxHeartbeats 1000000 in
theorem sumOf_impl (a : Option Addr) (n cap : Nat) (zs : List Nat) (w : World) (ha : FRow w a n zs) (hn : n ≤ 1048576) :
    Calls Try.prog 119 #[.slice a n cap] w fun e w' => ∃ r, e = .returned (.float .f32 r) ∧ cls .f32 r = vsum zs n ∧ Drew w w' := by
  have HA := Lib.hid ha
  clear ha
  go_enter Try.func119, Try.ntmps119
  go_wp2
  go_loopw [3, 8] (fun sv iv w' => ∃ k q r : Nat, k ≤ n ∧ sv = .float .f32 r ∧ Hid (cls .f32 r = vsum zs k) ∧ iv = .int .i64 k ∧ w' = w.drewN q) (fun _ iv _ => n - (intOf iv).toNat)
  case atStart => exact ⟨0, 0, 0, by omega, rfl, Lib.hid rfl, rfl, rfl⟩
  case round =>
    obtain ⟨k, q, r, hk, rfl, HR, rfl, rfl⟩ := hrel
    by_cases hlt : k < n
    · obtain ⟨b1, o1, rfl, hck1⟩ := HA.out.cell hlt
      have HS : ∀ w2, Hid (cls .f32 (fres .add .f32 r (zs.getD k 0) w2) = vsum zs (k + 1)) := fun w2 => Lib.hid (by rw [fres_cls, HR.out]; rfl)
      generalize zs.getD k 0 = x at hck1 HS
      clear HA
      go_wp2
      exact ⟨⟨k + 1, _, _, by omega, rfl, HS _, by first | rfl | go_num | (congr 1), rfl⟩, by show n - ((k : Int) + 1).toNat < n - (k : Int).toNat; omega⟩
    · obtain rfl : k = n := by omega
      go_wp2
      go_ret
      exact ⟨_, rfl, HR.out, Drew.mk _ _⟩
set_option maxHeartbeats 1000000 in
theorem sumOf_spec (a : Option Addr) (n cap : Nat) (zs : List Nat) (w : World) (ha : FRow w a n zs) (hn : n ≤ 1048576) :
    Calls Try.prog 118 #[.slice a n cap] w fun e w' => ∃ r, e = .returned (.float .f32 r) ∧ cls .f32 r = vsum zs n ∧ Drew w w' := by
  have HA := Lib.hid ha
  clear ha
  go_enter Try.func118, Try.ntmps118
  go_wp2
  go_loopw [3, 4] (fun sv iv w' => ∃ k q r : Nat, k ≤ n ∧ sv = .float .f32 r ∧ Hid (cls .f32 r = vsum zs k) ∧ iv = .int .i64 k ∧ w' = w.drewN q) (fun _ iv _ => n - (intOf iv).toNat)
  case atStart => exact ⟨0, 0, 0, by omega, rfl, Lib.hid rfl, rfl, rfl⟩
  case round =>
    obtain ⟨k, q, r, hk, rfl, HR, rfl, rfl⟩ := hrel
    by_cases hlt : k < n
    · obtain ⟨b1, o1, rfl, hck1⟩ := HA.out.cell hlt
      have HS : ∀ w2, Hid (cls .f32 (fres .add .f32 r (zs.getD k 0) w2) = vsum zs (k + 1)) := fun w2 => Lib.hid (by rw [fres_cls, HR.out]; rfl)
      generalize zs.getD k 0 = x at hck1 HS
      clear HA
      go_wp2
      exact ⟨⟨k + 1, _, _, by omega, rfl, HS _, by first | rfl | go_num | (congr 1), rfl⟩, by show n - ((k : Int) + 1).toNat < n - (k : Int).toNat; omega⟩
    · obtain rfl : k = n := by omega
      go_wp2
      go_ret
      exact ⟨_, rfl, HR.out, Drew.mk _ _⟩

theorem sub_ge {r : Nat} {s : Option Nat} (h : cls .f32 r = s) (w : World) : ((FloatKind.f32).format.order (fres .sub .f32 r 1065353216 w) 3129152111 == some .gt || (FloatKind.f32).format.order (fres .sub .f32 r 1065353216 w) 3129152111 == some .eq) = ge32 (vop .sub .f32 s (some one32)) (some m001) := by
  unfold ge32
  rw [order_cls, fres_cls, h, ← cls_one32, ← cls_m001]; rfl
theorem sub_le {r : Nat} {s : Option Nat} (h : cls .f32 r = s) (w : World) : ((FloatKind.f32).format.order (fres .sub .f32 r 1065353216 w) 981668463 == some .lt || (FloatKind.f32).format.order (fres .sub .f32 r 1065353216 w) 981668463 == some .eq) = le32 (vop .sub .f32 s (some one32)) (some c001) := by
  unfold le32
  rw [order_cls, fres_cls, h, ← cls_one32, ← cls_c001]; rfl
theorem sub_le' {r : Nat} {s : Option Nat} (h : cls .f32 r = s) (w : World) : ((FloatKind.f32).format.order (fres .sub .f32 1065353216 r w) 981668463 == some .lt || (FloatKind.f32).format.order (fres .sub .f32 1065353216 r w) 981668463 == some .eq) = le32 (vop .sub .f32 (some one32) s) (some c001) := by
  unfold le32
  rw [order_cls, fres_cls, h, ← cls_one32, ← cls_c001]; rfl

set_option maxHeartbeats 2000000 in
theorem ch_impl (a : Option Addr) (n cap : Nat) (zs : List Nat) (w : World) (ha : FRow w a n zs) (hn : n ≤ 1048576) :
    Calls Try.prog 101 #[.slice a n cap] w fun e w' => e = .returned (.bool (chS zs n)) ∧ Drew w w' := by
  rw [← ch_eq]
  have HA := Lib.hid ha
  have HC : Hid (∀ {b c}, decide (∀ j, j < n → notNeg (zs.getD j 0) = true) = b → nearB (vsum zs n) = c → chB zs n = (b && c)) := Lib.hid (fun hb hc => by unfold chB; rw [hb, hc])
  clear ha
  cases hg : ge32 (vop .sub .f32 (vsum zs n) (some one32)) (some m001) with
  | false =>
    have HN : Hid (nearB (vsum zs n) = false) := Lib.hid (by unfold nearB; rw [hg]; rfl)
    have HG := Lib.hid hg
    clear hg
    go_enter Try.func101, Try.ntmps101
    go_wp2
    go_loopw [8] (fun iv w' => ∃ k q : Nat, k ≤ n ∧ Hid (∀ j, j < k → notNeg (zs.getD j 0) = true) ∧ iv = .int .i64 k ∧ w' = w.drewN q) (fun iv _ => n - (intOf iv).toNat)
    case atStart => exact ⟨0, 0, by omega, Lib.hid (by intro j hj; omega), rfl, rfl⟩
    case round =>
      obtain ⟨k, q, hk, HL, rfl, rfl⟩ := hrel
      by_cases hlt : k < n
      · obtain ⟨b1, o1, rfl, hck1⟩ := HA.out.cell hlt
        cases ho : ((FloatKind.f32).format.order (zs.getD k 0) 0 == some .lt) with
        | true =>
          have HZ : Hid (notNeg (zs.getD k 0) = false) := Lib.hid (by unfold notNeg; rw [ho]; rfl)
          generalize hx : zs.getD k 0 = x at hck1 ho
          go_wp2
          go_ret
          exact ⟨ret_bool2 (HC.out (notAll hlt HZ.out) rfl).symm, Drew.mk _ _⟩
        | false =>
          have HZ : Hid (notNeg (zs.getD k 0) = true) := Lib.hid (by unfold notNeg; rw [ho]; rfl)
          generalize hx : zs.getD k 0 = x at hck1 ho
          go_wp2
          exact ⟨⟨k + 1, _, by omega, Lib.hid (fun j hj => by by_cases e : j = k; exact e ▸ HZ.out; exact HL.out j (by omega)), by first | rfl | go_num | (congr 1), rfl⟩, by show n - ((k : Int) + 1).toNat < n - (k : Int).toNat; omega⟩
      · obtain rfl : k = n := by omega
        go_wp2_with (first | (go_at_call 119; refine (sumOf_impl _ _ _ zs _ (HA.out.drewN _) hn).mono ?_; rintro e w2 ⟨r, rfl, hr, q2, rfl⟩; have h1 := fun w => (sub_ge hr w).trans HG.out; have Hr := Lib.hid hr; clear hr) | go_in)
        go_ret
        exact ⟨ret_bool2 (HC.out (isAll HL.out) HN.out).symm, Drew.mk _ _⟩
  | true =>
    have HN : Hid (nearB (vsum zs n) = le32 (vop .sub .f32 (vsum zs n) (some one32)) (some c001)) := Lib.hid (by unfold nearB; rw [hg]; rfl)
    have HG := Lib.hid hg
    clear hg
    go_enter Try.func101, Try.ntmps101
    go_wp2
    go_loopw [8] (fun iv w' => ∃ k q : Nat, k ≤ n ∧ Hid (∀ j, j < k → notNeg (zs.getD j 0) = true) ∧ iv = .int .i64 k ∧ w' = w.drewN q) (fun iv _ => n - (intOf iv).toNat)
    case atStart => exact ⟨0, 0, by omega, Lib.hid (by intro j hj; omega), rfl, rfl⟩
    case round =>
      obtain ⟨k, q, hk, HL, rfl, rfl⟩ := hrel
      by_cases hlt : k < n
      · obtain ⟨b1, o1, rfl, hck1⟩ := HA.out.cell hlt
        cases ho : ((FloatKind.f32).format.order (zs.getD k 0) 0 == some .lt) with
        | true =>
          have HZ : Hid (notNeg (zs.getD k 0) = false) := Lib.hid (by unfold notNeg; rw [ho]; rfl)
          generalize hx : zs.getD k 0 = x at hck1 ho
          go_wp2
          go_ret
          exact ⟨ret_bool2 (HC.out (notAll hlt HZ.out) rfl).symm, Drew.mk _ _⟩
        | false =>
          have HZ : Hid (notNeg (zs.getD k 0) = true) := Lib.hid (by unfold notNeg; rw [ho]; rfl)
          generalize hx : zs.getD k 0 = x at hck1 ho
          go_wp2
          exact ⟨⟨k + 1, _, by omega, Lib.hid (fun j hj => by by_cases e : j = k; exact e ▸ HZ.out; exact HL.out j (by omega)), by first | rfl | go_num | (congr 1), rfl⟩, by show n - ((k : Int) + 1).toNat < n - (k : Int).toNat; omega⟩
      · obtain rfl : k = n := by omega
        go_wp2_with (first | (go_at_call 119; refine (sumOf_impl _ _ _ zs _ (HA.out.drewN _) hn).mono ?_; rintro e w2 ⟨r, rfl, hr, q2, rfl⟩; have h1 := fun w => (sub_ge hr w).trans HG.out; have Hr := Lib.hid hr; clear hr) | go_in)
        go_ret
        exact ⟨ret_bool2 ((sub_le Hr.out _).trans (HN.out.symm.trans (HC.out (isAll HL.out) rfl).symm)), Drew.mk _ _⟩
def rowB (zs : List Nat) (n : Nat) : Bool := decide (1 ≤ n ∧ n ≤ 32) && chS zs n
set_option maxHeartbeats 1000000 in
theorem row_impl (a : Option Addr) (n cap : Nat) (zs : List Nat) (w : World) (ha : FRow w a n zs) (hn : n ≤ 1048576) :
    Calls Try.prog 65 #[.slice a n cap] w fun e w' => e = .returned (.bool (rowB zs n)) ∧ Drew w w' := by
  have HA := Lib.hid ha
  clear ha
  by_cases h1 : 1 ≤ n
  · by_cases h2 : n ≤ 32
    · have HR : Hid (rowB zs n = chS zs n) := Lib.hid (by unfold rowB; rw [decide_eq_true (⟨h1, h2⟩ : 1 ≤ n ∧ n ≤ 32)]; rfl)
      go_enter Try.func65, Try.ntmps65
      go_wp2_with (first | (go_at_call 101; refine (ch_impl _ _ _ zs _ HA.out hn).mono ?_; rintro e w2 ⟨rfl, q, rfl⟩) | go_in)
      go_ret
      exact ⟨ret_bool2 HR.out.symm, Drew.mk _ _⟩
    · have HR : Hid (rowB zs n = false) := Lib.hid (by unfold rowB; rw [decide_eq_false (by omega)]; rfl)
      go_enter Try.func65, Try.ntmps65
      go_wp2
      go_ret
      exact ⟨ret_bool2 HR.out.symm, Drew.refl _⟩
  · have HR : Hid (rowB zs n = false) := Lib.hid (by unfold rowB; rw [decide_eq_false (by omega)]; rfl)
    go_enter Try.func65, Try.ntmps65
    go_wp2
    go_ret
    exact ⟨ret_bool2 HR.out.symm, Drew.refl _⟩
set_option maxHeartbeats 1000000 in
theorem least_spec (x : Nat) (w : World) : Calls Try.prog 117 #[.float .f32 x] w fun e w' => e = .returned (.bool (leastB x)) ∧ Drew w w' := by
  cases hf : finD ((FloatKind.f32).decode x) with
  | false =>
    have HR : Hid (leastB x = false) := Lib.hid (by unfold leastB; rw [hf]; rfl)
    go_enter Try.func117, Try.ntmps117
    go_wp2_with (first | (go_at_call 100; refine (finite_spec x _).mono ?_; rintro e w2 ⟨rfl, q, rfl⟩) | go_in)
    go_ret
    exact ⟨ret_bool2 HR.out.symm, Drew.mk _ _⟩
  | true =>
    have HR : Hid (leastB x = ((FloatKind.f32).format.order x 0 == some .gt || (FloatKind.f32).format.order x 0 == some .eq)) := Lib.hid (by unfold leastB; rw [hf]; rfl)
    go_enter Try.func117, Try.ntmps117
    go_wp2_with (first | (go_at_call 100; refine (finite_spec x _).mono ?_; rintro e w2 ⟨rfl, q, rfl⟩) | go_in)
    go_ret
    exact ⟨ret_bool2 HR.out.symm, Drew.mk _ _⟩
set_option maxHeartbeats 2000000 in
theorem ch_spec (a : Option Addr) (n cap : Nat) (zs : List Nat) (w : World) (ha : FRow w a n zs) (hn : n ≤ 1048576) :
    Calls Try.prog 99 #[.slice a n cap] w fun e w' => e = .returned (.bool (chS zs n)) ∧ Drew w w' := by
  have HA := Lib.hid ha
  have HC : Hid (∀ {b c}, decide (∀ j, j < n → leastB (zs.getD j 0) = true) = b → nearB (vsum zs n) = c → chS zs n = (b && c)) := Lib.hid (fun hb hc => by unfold chS; rw [hb, hc])
  clear ha
  cases hg : le32 (vop .sub .f32 (vsum zs n) (some one32)) (some c001) with
  | false =>
    have HN : Hid (nearB (vsum zs n) = false) := Lib.hid (by unfold nearB; rw [hg, Bool.and_false])
    have HG := Lib.hid hg
    clear hg
    go_enter Try.func99, Try.ntmps99
    go_wp2
    go_loopw [3] (fun iv w' => ∃ k q : Nat, k ≤ n ∧ Hid (∀ j, j < k → leastB (zs.getD j 0) = true) ∧ iv = .int .i64 k ∧ w' = w.drewN q) (fun iv _ => n - (intOf iv).toNat)
    case atStart => exact ⟨0, 0, by omega, Lib.hid (by intro j hj; omega), rfl, rfl⟩
    case round =>
      obtain ⟨k, q, hk, HL, rfl, rfl⟩ := hrel
      by_cases hlt : k < n
      · obtain ⟨b1, o1, rfl, hck1⟩ := HA.out.cell hlt
        cases ho : leastB (zs.getD k 0) with
        | false =>
          have HZ := Lib.hid ho
          generalize hx : zs.getD k 0 = x at hck1 ho
          go_wp2_with (first | (go_at_call 117; refine (least_spec x _).mono ?_; rintro e w2 ⟨rfl, q2, rfl⟩) | go_in)
          go_ret
          exact ⟨ret_bool2 (HC.out (notAll hlt HZ.out) rfl).symm, Drew.mk _ _⟩
        | true =>
          have HZ := Lib.hid ho
          generalize hx : zs.getD k 0 = x at hck1 ho
          go_wp2_with (first | (go_at_call 117; refine (least_spec x _).mono ?_; rintro e w2 ⟨rfl, q2, rfl⟩) | go_in)
          exact ⟨⟨k + 1, _, by omega, Lib.hid (fun j hj => by by_cases e : j = k; exact e ▸ HZ.out; exact HL.out j (by omega)), by first | rfl | go_num | (congr 1), rfl⟩, by show n - ((k : Int) + 1).toNat < n - (k : Int).toNat; omega⟩
      · obtain rfl : k = n := by omega
        go_wp2_with (first | (go_at_call 118; refine (sumOf_spec _ _ _ zs _ (HA.out.drewN _) hn).mono ?_; rintro e w2 ⟨r, rfl, hr, q2, rfl⟩; have h1 := fun w => (sub_le hr w).trans HG.out; have Hr := Lib.hid hr; clear hr) | go_in)
        go_ret
        exact ⟨ret_bool2 (HC.out (isAll HL.out) HN.out).symm, Drew.mk _ _⟩
  | true =>
    have HN : Hid (nearB (vsum zs n) = le32 (vop .sub .f32 (some one32) (vsum zs n)) (some c001)) := Lib.hid (by unfold nearB; rw [hg, Bool.and_true, near_eq])
    have HG := Lib.hid hg
    clear hg
    go_enter Try.func99, Try.ntmps99
    go_wp2
    go_loopw [3] (fun iv w' => ∃ k q : Nat, k ≤ n ∧ Hid (∀ j, j < k → leastB (zs.getD j 0) = true) ∧ iv = .int .i64 k ∧ w' = w.drewN q) (fun iv _ => n - (intOf iv).toNat)
    case atStart => exact ⟨0, 0, by omega, Lib.hid (by intro j hj; omega), rfl, rfl⟩
    case round =>
      obtain ⟨k, q, hk, HL, rfl, rfl⟩ := hrel
      by_cases hlt : k < n
      · obtain ⟨b1, o1, rfl, hck1⟩ := HA.out.cell hlt
        cases ho : leastB (zs.getD k 0) with
        | false =>
          have HZ := Lib.hid ho
          generalize hx : zs.getD k 0 = x at hck1 ho
          go_wp2_with (first | (go_at_call 117; refine (least_spec x _).mono ?_; rintro e w2 ⟨rfl, q2, rfl⟩) | go_in)
          go_ret
          exact ⟨ret_bool2 (HC.out (notAll hlt HZ.out) rfl).symm, Drew.mk _ _⟩
        | true =>
          have HZ := Lib.hid ho
          generalize hx : zs.getD k 0 = x at hck1 ho
          go_wp2_with (first | (go_at_call 117; refine (least_spec x _).mono ?_; rintro e w2 ⟨rfl, q2, rfl⟩) | go_in)
          exact ⟨⟨k + 1, _, by omega, Lib.hid (fun j hj => by by_cases e : j = k; exact e ▸ HZ.out; exact HL.out j (by omega)), by first | rfl | go_num | (congr 1), rfl⟩, by show n - ((k : Int) + 1).toNat < n - (k : Int).toNat; omega⟩
      · obtain rfl : k = n := by omega
        go_wp2_with (first | (go_at_call 118; refine (sumOf_spec _ _ _ zs _ (HA.out.drewN _) hn).mono ?_; rintro e w2 ⟨r, rfl, hr, q2, rfl⟩; have h1 := fun w => (sub_le hr w).trans HG.out; have Hr := Lib.hid hr; clear hr) | go_in)
        go_ret
        exact ⟨ret_bool2 ((sub_le' Hr.out _).trans (HN.out.symm.trans (HC.out (isAll HL.out) rfl).symm)), Drew.mk _ _⟩
set_option maxHeartbeats 1000000 in
theorem row_spec (a : Option Addr) (n cap : Nat) (zs : List Nat) (w : World) (ha : FRow w a n zs) (hn : n ≤ 1048576) :
    Calls Try.prog 63 #[.slice a n cap] w fun e w' => e = .returned (.bool (rowB zs n)) ∧ Drew w w' := by
  have HA := Lib.hid ha
  clear ha
  by_cases h1 : 1 ≤ n
  · by_cases h2 : n ≤ 32
    · have HR : Hid (rowB zs n = chS zs n) := Lib.hid (by unfold rowB; rw [decide_eq_true (⟨h1, h2⟩ : 1 ≤ n ∧ n ≤ 32)]; rfl)
      go_enter Try.func63, Try.ntmps63
      go_wp2_with (first | (go_at_call 99; refine (ch_spec _ _ _ zs _ HA.out hn).mono ?_; rintro e w2 ⟨rfl, q, rfl⟩) | go_in)
      go_ret
      exact ⟨ret_bool2 HR.out.symm, Drew.mk _ _⟩
    · have HR : Hid (rowB zs n = false) := Lib.hid (by unfold rowB; rw [decide_eq_false (by omega)]; rfl)
      go_enter Try.func63, Try.ntmps63
      go_wp2
      go_ret
      exact ⟨ret_bool2 HR.out.symm, Drew.refl _⟩
  · have HR : Hid (rowB zs n = false) := Lib.hid (by unfold rowB; rw [decide_eq_false (by omega)]; rfl)
    go_enter Try.func63, Try.ntmps63
    go_wp2
    go_ret
    exact ⟨ret_bool2 HR.out.symm, Drew.refl _⟩
end Go.Proofs.Ytiajpmfdaooefaa
