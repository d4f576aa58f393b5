/- IsPrefixFree: the functions. -/
import Derived.Test.YtaalddkpldbdkaaStr
import Derived.Test.YtaalddkpldbdkaaBts
import Derived.Test.YtaalddkpldbdkaaShf
import Derived.Test.YtaalddkpldbdkaaLiv
import Derived.WalkLawsBesides
namespace Go.Proofs.Ytaalddkpldbdkaa
open Go.Proofs.Ytaalddkpldbdkaa.Flo Go.RowKit

/-- A word of bits. -/
def wl1 (s : ByteArray) : Bool := decide (1 ≤ s.size ∧ s.size ≤ 32) && bitsB s
def wlB (f : Nat → ByteArray) (n : Nat) : Bool := decide (1 ≤ n ∧ n ≤ 16) && decide (∀ k, k < n → wl1 (f k) = true)
theorem wlB_no {f : Nat → ByteArray} {n k : Nat} (hk : k < n) (h : wl1 (f k) = false) : wlB f n = false := by
  unfold wlB
  rw [decide_eq_false (p := ∀ k, k < n → wl1 (f k) = true) (fun e => by rw [e k hk] at h; cases h)]; simp
theorem wlB_end {f : Nat → ByteArray} {n : Nat} (h : ∀ k, k < n → wl1 (f k) = true) : wlB f n = decide (1 ≤ n ∧ n ≤ 16) := by
  unfold wlB
  rw [decide_eq_true (p := ∀ k, k < n → wl1 (f k) = true) h, Bool.and_true]
theorem wlB_out {f : Nat → ByteArray} {n : Nat} (h : wlB f n = true) : (1 ≤ n ∧ n ≤ 16) ∧ ∀ k, k < n → wl1 (f k) = true := by
  unfold wlB at h
  rw [Bool.and_eq_true] at h
  exact ⟨of_decide_eq_true h.1, of_decide_eq_true h.2⟩
theorem wl1_size {s : ByteArray} (h : wl1 s = true) : 1 ≤ s.size ∧ s.size ≤ 32 := by
  unfold wl1 at h
  rw [Bool.and_eq_true] at h
  exact of_decide_eq_true h.1
theorem wl1_no {s : ByteArray} (h : ¬ (1 ≤ s.size ∧ s.size ≤ 32)) : wl1 s = false := by unfold wl1; rw [decide_eq_false h]; rfl
theorem wl1_yes {s : ByteArray} (h : 1 ≤ s.size ∧ s.size ≤ 32) : wl1 s = bitsB s := by unfold wl1; rw [decide_eq_true h]; rfl
theorem on_wl {f : Nat → ByteArray} {k : Nat} (h : ∀ j, j < k → wl1 (f j) = true) (h1 : wl1 (f k) = true) : ∀ j, j < k + 1 → wl1 (f j) = true := fun j hj => by
  by_cases e : j < k
  · exact h j e
  · obtain rfl : j = k := by omega
    exact h1
set_option maxRecDepth 100000 in
set_option maxHeartbeats 4000000 in
theorem wl_spec (a : Option Addr) (n cap : Nat) (f : Nat → ByteArray) (w : World) (h : SRow w a n f) (hn : n ≤ 1048576) (hf : ∀ k, k < n → (f k).size ≤ 1048576) :
    Calls Try.prog 62 #[.slice a n cap] w fun e w' => e = .returned (.bool (wlB f n)) ∧ w = w' := by
  have HA := Lib.hid h
  have HF := Lib.hid hf
  clear h hf
  go_enter Try.func62, Try.ntmps62
  go_wp2
  go_loop [3] (fun iv => ∃ k : Nat, k ≤ n ∧ Hid (∀ j, j < k → wl1 (f j) = true) ∧ iv = .int .i64 k) (fun iv => n - (intOf iv).toNat)
  case atStart => exact ⟨0, by omega, Lib.hid (by intro j hj; omega), rfl⟩
  case round =>
    obtain ⟨k, hk, HL, rfl⟩ := hrel
    by_cases hlt : k < n
    · obtain ⟨b1, o1, rfl, hck1⟩ := HA.out.cell hlt
      have HSZ := Lib.hid (HF.out k hlt)
      have HY : Hid (wl1 (f k) = true → ∀ j, j < k + 1 → wl1 (f j) = true) := Lib.hid (on_wl HL.out)
      have HNO : Hid (wl1 (f k) = false → wlB f n = false) := Lib.hid (wlB_no hlt)
      generalize f k = x at hck1 HSZ HY HNO
      by_cases h1 : 1 ≤ x.size
      · have d1 : decide ((x.size : Int) < 1) = false := decide_eq_false (by omega)
        by_cases h2 : x.size ≤ 32
        · have d2 : decide (32 < (x.size : Int)) = false := decide_eq_false (by omega)
          have HB := Lib.hid (wl1_yes ⟨h1, h2⟩)
          cases hb : bitsB x with
          | true =>
            have HN := Lib.hid (HY.out (HB.out.trans hb))
            go_wp2_with (first | (go_at_call 52; refine (bt_spec x _ HSZ.out).mono ?_; rintro e w' ⟨rfl, rfl⟩) | go_in)
            go_round
            case rel => exact ⟨k + 1, by omega, HN, by go_num⟩
            case measure => simp [intOf]; omega
          | false =>
            have HR := Lib.hid (HNO.out (HB.out.trans hb))
            go_wp2_with (first | (go_at_call 52; refine (bt_spec x _ HSZ.out).mono ?_; rintro e w' ⟨rfl, rfl⟩) | go_in)
            go_ret
            exact ⟨ret_bool2 HR.out.symm, rfl⟩
        · have d2 : decide (32 < (x.size : Int)) = true := decide_eq_true (by omega)
          have HR := Lib.hid (HNO.out (wl1_no (fun e => h2 e.2)))
          go_wp2
          go_ret
          exact ⟨ret_bool2 HR.out.symm, rfl⟩
      · have d1 : decide ((x.size : Int) < 1) = true := decide_eq_true (by omega)
        have HR := Lib.hid (HNO.out (wl1_no (fun e => h1 e.1)))
        go_wp2
        go_ret
        exact ⟨ret_bool2 HR.out.symm, rfl⟩
    · obtain rfl : k = n := by omega
      have HR := Lib.hid (wlB_end HL.out)
      by_cases h1 : 1 ≤ k
      · have d1 : decide (1 ≤ (k : Int)) = true := decide_eq_true (by omega)
        by_cases h2 : k ≤ 16
        · have d2 : decide ((k : Int) ≤ 16) = true := decide_eq_true (by omega)
          go_wp2
          go_ret
          exact ⟨ret_bool2 (by rw [HR.out, decide_eq_true (p := 1 ≤ k ∧ k ≤ 16) ⟨h1, h2⟩]), rfl⟩
        · have d2 : decide ((k : Int) ≤ 16) = false := decide_eq_false (by omega)
          go_wp2
          go_ret
          exact ⟨ret_bool2 (by rw [HR.out, decide_eq_false (p := 1 ≤ k ∧ k ≤ 16) (fun e => h2 e.2)]), rfl⟩
      · have d1 : decide (1 ≤ (k : Int)) = false := decide_eq_false (by omega)
        go_wp2
        go_ret
        exact ⟨ret_bool2 (by rw [HR.out, decide_eq_false (p := 1 ≤ k ∧ k ≤ 16) (fun e => h1 e.1)]), rfl⟩
/-- Does a text begin with another one at a place? -/
def begB (s : ByteArray) (i : Nat) (p : ByteArray) : Bool := decide (i + p.size ≤ s.size) && ((s.extract i (i + p.size)).toList == p.toList)
def preB (s p : ByteArray) : Bool := Lib.hasPrefix s.data.toList p.data.toList
theorem beg_zero (s p : ByteArray) : begB s 0 p = preB s p := by
  unfold begB preB
  rw [← Lib.hasPrefix_raw, Nat.zero_add]
set_option maxRecDepth 100000 in
set_option maxHeartbeats 4000000 in
theorem bg_spec (s p : ByteArray) (i : Nat) (w : World) (hp : p.size ≤ 1048576) (ha : i ≤ 1048576) :
    Calls Try.prog 63 #[.string s, .int .i64 (i : Int), .string p] w fun e w' => e = .returned (.bool (begB s i p)) ∧ w = w' := by
  have hw : IntKind.i64.wrap ((i : Int) + (p.size : Int)) = (i : Int) + (p.size : Int) := IntWalk.i64_in _ (by omega)
  by_cases h1 : i + p.size ≤ s.size
  · have d1 : decide ((i : Int) + (p.size : Int) ≤ (s.size : Int)) = true := decide_eq_true (by omega)
    have i0 : (0 : Int) ≤ (i : Int) := by omega
    have i1 : (i : Int) ≤ (i : Int) + (p.size : Int) := by omega
    have i2 : (i : Int) + (p.size : Int) ≤ (s.size : Int) := by omega
    have HR : Hid (begB s i p = ((s.extract i (i + p.size)).toList == p.toList)) := Lib.hid (by unfold begB; rw [decide_eq_true h1]; rfl)
    go_enter Try.func63, Try.ntmps63
    go_wp2
    go_ret
    exact ⟨ret_bool2 HR.out.symm, rfl⟩
  · have d1 : decide ((i : Int) + (p.size : Int) ≤ (s.size : Int)) = false := decide_eq_false (by omega)
    have HR : Hid (begB s i p = false) := Lib.hid (by unfold begB; rw [decide_eq_false h1]; rfl)
    go_enter Try.func63, Try.ntmps63
    go_wp2
    go_ret
    exact ⟨ret_bool2 HR.out.symm, rfl⟩
theorem bg_zero (s p : ByteArray) (w : World) (hp : p.size ≤ 1048576) :
    Calls Try.prog 63 #[.string s, .int .i64 0, .string p] w fun e w' => e = .returned (.bool (preB s p)) ∧ w = w' := beg_zero s p ▸ bg_spec s p 0 w hp (by omega)
theorem Drew.on {w w' : World} (h : Drew w w') (q : Nat) : Drew w (w'.drewN q) := by
  obtain ⟨n, rfl⟩ := h
  exact ⟨n + q, by rw [World.drewN_drewN]⟩
def fr1 (f : Nat → ByteArray) (n i : Nat) : Prop := ∀ k, k < n → i ≠ k → preB (f k) (f i) = false
instance (f : Nat → ByteArray) (n i : Nat) : Decidable (fr1 f n i) := by unfold fr1; infer_instance
def frB (f : Nat → ByteArray) (n : Nat) : Bool := decide (∀ i, i < n → fr1 f n i)
theorem frB_no {f : Nat → ByteArray} {n i k : Nat} (hi : i < n) (hk : k < n) (hne : i ≠ k) (h : preB (f k) (f i) = true) : frB f n = false :=
  decide_eq_false (fun e => by have := e i hi k hk hne; rw [h] at this; cases this)
set_option maxRecDepth 100000 in
set_option maxHeartbeats 4000000 in
theorem pf_spec (a : Option Addr) (n cap : Nat) (f : Nat → ByteArray) (w : World) (h : SRow w a n f) (hn : n ≤ 1048576) (hf : ∀ k, k < n → (f k).size ≤ 1048576) (hok : wlB f n = true) :
    Calls Try.prog 26 #[.slice a n cap] w fun e w' => e = .returned (.tuple #[.bool (frB f n), .bool true]) ∧ Below w.heap.size w w' := by
  have HA := Lib.hid h
  have HF := Lib.hid hf
  clear h hf
  go_enter Try.func26, Try.ntmps26
  go_wp2_with (first | (go_at_call 62; refine (wl_spec _ n _ f _ HA.out hn HF.out).mono ?_; rintro e w' ⟨rfl, rfl⟩) | go_in)
  clear hok
  go_loopw [4] (fun iv w0 => ∃ (i : Nat) (wr : World), i ≤ n ∧ iv = .int .i64 i ∧ w0 = wr ∧ Hid (∀ j, j < i → fr1 f n j) ∧ Hid (Drew w wr)) (fun iv _ => n - (intOf iv).toNat)
  case atStart => exact ⟨0, _, by omega, rfl, rfl, Lib.hid (by intro j hj; omega), Lib.hid (Drew.refl _)⟩
  case round =>
    obtain ⟨i, wr, hi, rfl, rfl, HL, HW⟩ := hrel
    by_cases hlt : i < n
    · go_wp2
      go_loopw [5] (fun kv w0 => ∃ (k : Nat) (wr2 : World), k ≤ n ∧ kv = .int .i64 k ∧ w0 = wr2 ∧ Hid (∀ j, j < k → i ≠ j → preB (f j) (f i) = false) ∧ Hid (Drew w wr2)) (fun kv _ => n - (intOf kv).toNat)
      case atStart => exact ⟨0, _, by omega, rfl, rfl, Lib.hid (by intro j hj; omega), HW⟩
      case round =>
        obtain ⟨k, wr2, hk, rfl, rfl, HL2, HW2⟩ := hrel
        by_cases hlk : k < n
        · by_cases hik : i = k
          · have HN : Hid (∀ j, j < k + 1 → i ≠ j → preB (f j) (f i) = false) := Lib.hid (fun j hj hne => HL2.out j (by omega) hne)
            subst hik
            have hd : ((i : Int) != (i : Int)) = false := by simp
            go_wp2
            go_quiet (fail)
            go_wp2
            exact ⟨⟨i + 1, _, by omega, by first | rfl | go_num | (congr 1), rfl, HN, Lib.hid (Drew.on HW2.out _)⟩, by show n - ((i : Int) + 1).toNat < n - (i : Int).toNat; omega⟩
          · have hd : ((i : Int) != (k : Int)) = true := by simp; omega
            obtain ⟨b1, o1, rfl, hck1⟩ := (HA.out.drewTo HW2.out).cell hlt
            obtain ⟨b2, o2, e2, hck2⟩ := (HA.out.drewTo HW2.out).cell hlk
            obtain ⟨rfl, rfl⟩ : b1 = b2 ∧ o1 = o2 := by injection e2 with e2; injection e2 with e2 e3; exact ⟨e2, e3⟩
            have HS1 := Lib.hid (HF.out i hlt)
            have HY : Hid (preB (f k) (f i) = false → ∀ j, j < k + 1 → i ≠ j → preB (f j) (f i) = false) := Lib.hid (fun h j hj hne => by
              by_cases e : j < k
              · exact HL2.out j e hne
              · obtain rfl : j = k := by omega
                exact h)
            have HNO : Hid (preB (f k) (f i) = true → frB f n = false) := Lib.hid (frB_no hlt hlk hik)
            clear hik e2
            generalize f i = x at hck1 HS1 HY HNO
            generalize f k = y at hck2 HY HNO
            cases hp : preB y x with
            | false =>
              have HC : Hid (∀ W : World, Calls Try.prog 63 #[.string y, .int .i64 0, .string x] W fun e w' => e = .returned (.bool false) ∧ w' = W) := Lib.hid (fun W => (bg_zero y x W HS1.out).mono fun _ _ ⟨h1, h2⟩ => ⟨by rw [h1, hp], h2.symm⟩)
              have HN := Lib.hid (HY.out hp)
              go_wp2
              go_quiet ((go_at_call 63; with_reducible exact Calls.quiet_of_same (HC.out _)))
              go_wp2
              exact ⟨⟨k + 1, _, by omega, by first | rfl | go_num | (congr 1), rfl, HN, Lib.hid (Drew.on HW2.out _)⟩, by show n - ((k : Int) + 1).toNat < n - (k : Int).toNat; omega⟩
            | true =>
              have HC : Hid (∀ W : World, Calls Try.prog 63 #[.string y, .int .i64 0, .string x] W fun e w' => e = .returned (.bool true) ∧ w' = W) := Lib.hid (fun W => (bg_zero y x W HS1.out).mono fun _ _ ⟨h1, h2⟩ => ⟨by rw [h1, hp], h2.symm⟩)
              have HR := Lib.hid (HNO.out hp)
              go_wp2
              go_quiet ((go_at_call 63; with_reducible exact Calls.quiet_of_same (HC.out _)))
              go_wp2
              go_ret2
              exact ⟨by rw [HR.out]; rfl, (Drew.on HW2.out _).below⟩
        · obtain rfl : k = n := by omega
          have HN : Hid (∀ j, j < i + 1 → fr1 f k j) := Lib.hid (fun j hj => by
            by_cases e : j < i
            · exact HL.out j e
            · obtain rfl : j = i := by omega
              exact HL2.out)
          go_wp2
          exact ⟨⟨i + 1, _, by omega, by first | rfl | go_num | (congr 1), rfl, HN, HW2⟩, by show k - ((i : Int) + 1).toNat < k - (i : Int).toNat; omega⟩
    · obtain rfl : i = n := by omega
      have HR : Hid (frB f i = true) := Lib.hid (decide_eq_true HL.out)
      go_wp2
      go_ret2
      exact ⟨by rw [HR.out]; rfl, HW.out.below⟩
theorem pf_spec' (a : Option Addr) (n cap : Nat) (f : Nat → ByteArray) (w : World) (h : SRow w a n f) (hn : n ≤ 1048576) (hf : ∀ k, k < n → (f k).size ≤ 1048576) (hok : wlB f n = false) :
    Calls Try.prog 26 #[.slice a n cap] w fun e w' => e = .returned (.tuple #[.bool false, .bool false]) ∧ Below w.heap.size w w' := by
  have HA := Lib.hid h
  have HF := Lib.hid hf
  clear h hf
  go_enter Try.func26, Try.ntmps26
  go_wp2_with (first | (go_at_call 62; refine (wl_spec _ n _ f _ HA.out hn HF.out).mono ?_; rintro e w' ⟨rfl, rfl⟩) | go_in)
  go_ret2
  exact ⟨rfl, Below.refl _ _⟩
set_option maxRecDepth 100000 in
set_option maxHeartbeats 4000000 in
theorem wl_impl (a : Option Addr) (n cap : Nat) (f : Nat → ByteArray) (w : World) (h : SRow w a n f) (hn : n ≤ 1048576) (hf : ∀ k, k < n → (f k).size ≤ 1048576) :
    Calls Try.prog 64 #[.slice a n cap] w fun e w' => e = .returned (.bool (wlB f n)) ∧ Below w.heap.size w w' := by
  have HA := Lib.hid h
  have HF := Lib.hid hf
  clear h hf
  go_enter Try.func64, Try.ntmps64
  go_wp2
  go_loopw [7] (fun iv w0 => ∃ (k : Nat) (wr : World), k ≤ n ∧ Hid (∀ j, j < k → wl1 (f j) = true) ∧ iv = .int .i64 k ∧ w0 = wr ∧ Hid (Below w.heap.size w wr)) (fun iv _ => n - (intOf iv).toNat)
  case atStart => exact ⟨0, _, by omega, Lib.hid (by intro j hj; omega), rfl, rfl, Lib.hid (Below.refl _ _)⟩
  case round =>
    obtain ⟨k, wr, hk, HL, rfl, rfl, HW⟩ := hrel
    by_cases hlt : k < n
    · obtain ⟨b1, o1, rfl, hck1⟩ := (HA.out.below HW.out).cell hlt
      have HSZ := Lib.hid (HF.out k hlt)
      have HY : Hid (wl1 (f k) = true → ∀ j, j < k + 1 → wl1 (f j) = true) := Lib.hid (on_wl HL.out)
      have HNO : Hid (wl1 (f k) = false → wlB f n = false) := Lib.hid (wlB_no hlt)
      generalize f k = x at hck1 HSZ HY HNO
      by_cases h1 : 1 ≤ x.size
      · have d1 : decide ((x.size : Int) < 1) = false := decide_eq_false (by omega)
        by_cases h2 : x.size ≤ 32
        · have d2 : decide (32 < (x.size : Int)) = false := decide_eq_false (by omega)
          have HB := Lib.hid (wl1_yes ⟨h1, h2⟩)
          cases hb : bitsB x with
          | true =>
            have HN := Lib.hid (HY.out (HB.out.trans hb))
            go_wp2_with (first | (go_at_call 53; refine (bt_impl x _ HSZ.out).mono ?_; rintro e w2 ⟨rfl, hbl⟩; have HW2 := Lib.hid (Below.next HW.out hbl); clear hbl) | go_in)
            exact ⟨⟨k + 1, _, by omega, HN, by first | rfl | go_num | (congr 1), rfl, HW2⟩, by show n - ((k : Int) + 1).toNat < n - (k : Int).toNat; omega⟩
          | false =>
            have HR := Lib.hid (HNO.out (HB.out.trans hb))
            go_wp2_with (first | (go_at_call 53; refine (bt_impl x _ HSZ.out).mono ?_; rintro e w2 ⟨rfl, hbl⟩; have HW2 := Lib.hid (Below.next HW.out hbl); clear hbl) | go_in)
            go_ret
            exact ⟨ret_bool2 HR.out.symm, HW2.out⟩
        · have d2 : decide (32 < (x.size : Int)) = true := decide_eq_true (by omega)
          have HR := Lib.hid (HNO.out (wl1_no (fun e => h2 e.2)))
          go_wp2
          go_ret
          exact ⟨ret_bool2 HR.out.symm, HW.out⟩
      · have d1 : decide ((x.size : Int) < 1) = true := decide_eq_true (by omega)
        have HR := Lib.hid (HNO.out (wl1_no (fun e => h1 e.1)))
        go_wp2
        go_ret
        exact ⟨ret_bool2 HR.out.symm, HW.out⟩
    · obtain rfl : k = n := by omega
      have HR := Lib.hid (wlB_end HL.out)
      by_cases h1 : 1 ≤ k
      · have d1 : decide (1 ≤ (k : Int)) = true := decide_eq_true (by omega)
        by_cases h2 : k ≤ 16
        · have d2 : decide ((k : Int) ≤ 16) = true := decide_eq_true (by omega)
          go_wp2
          go_ret
          exact ⟨ret_bool2 (by rw [HR.out, decide_eq_true (p := 1 ≤ k ∧ k ≤ 16) ⟨h1, h2⟩]), HW.out⟩
        · have d2 : decide ((k : Int) ≤ 16) = false := decide_eq_false (by omega)
          go_wp2
          go_ret
          exact ⟨ret_bool2 (by rw [HR.out, decide_eq_false (p := 1 ≤ k ∧ k ≤ 16) (fun e => h2 e.2)]), HW.out⟩
      · have d1 : decide (1 ≤ (k : Int)) = false := decide_eq_false (by omega)
        go_wp2
        go_ret
        exact ⟨ret_bool2 (by rw [HR.out, decide_eq_false (p := 1 ≤ k ∧ k ≤ 16) (fun e => h1 e.1)]), HW.out⟩
set_option maxRecDepth 100000 in
set_option maxHeartbeats 4000000 in
theorem pf_impl (a : Option Addr) (n cap : Nat) (f : Nat → ByteArray) (w : World) (h : SRow w a n f) (hn : n ≤ 1048576) (hf : ∀ k, k < n → (f k).size ≤ 1048576) (hok : wlB f n = true) :
    Calls Try.prog 28 #[.slice a n cap] w fun e w' => e = .returned (.tuple #[.bool (frB f n), .bool true]) ∧ Below w.heap.size w w' := by
  have HA := Lib.hid h
  have HF := Lib.hid hf
  clear h hf
  go_enter Try.func28, Try.ntmps28
  go_wp2_with (first | (go_at_call 64; refine (wl_impl _ n _ f _ HA.out hn HF.out).mono ?_; rintro e w2 ⟨rfl, hbl⟩; have HW := Lib.hid hbl; clear hbl) | go_in)
  clear hok
  go_loop [13] (fun iv => ∃ i : Nat, i ≤ n ∧ iv = .int .i64 i ∧ Hid (∀ j, j < i → fr1 f n j)) (fun iv => n - (intOf iv).toNat)
  case atStart => exact ⟨0, by omega, rfl, Lib.hid (by intro j hj; omega)⟩
  case round =>
    obtain ⟨i, hi, rfl, HL⟩ := hrel
    by_cases hlt : i < n
    · obtain ⟨b1, o1, rfl, hck1⟩ := (HA.out.below HW.out).cell hlt
      go_wp2
      go_loop [20] (fun kv => ∃ k : Nat, k ≤ n ∧ kv = .int .i64 k ∧ Hid (∀ j, j < k → i ≠ j → preB (f j) (f i) = false)) (fun kv => n - (intOf kv).toNat)
      case atStart => exact ⟨0, by omega, rfl, Lib.hid (by intro j hj; omega)⟩
      case round =>
        obtain ⟨k, hk, rfl, HL2⟩ := hrel
        by_cases hlk : k < n
        · obtain ⟨b2, o2, e2, hck2⟩ := (HA.out.below HW.out).cell hlk
          obtain ⟨rfl, rfl⟩ : b1 = b2 ∧ o1 = o2 := by injection e2 with e2; injection e2 with e2 e3; exact ⟨e2, e3⟩
          clear e2
          by_cases hik : i = k
          · have HN : Hid (∀ j, j < k + 1 → i ≠ j → preB (f j) (f i) = false) := Lib.hid (fun j hj hne => HL2.out j (by omega) hne)
            subst hik
            have hd : ((i : Int) != (i : Int)) = false := by simp
            go_wp2
            go_round
            case rel => exact ⟨i + 1, by omega, by go_num, HN⟩
            case measure => simp [intOf]; omega
          · have hd : ((i : Int) != (k : Int)) = true := by simp; omega
            have HY : Hid (preB (f k) (f i) = false → ∀ j, j < k + 1 → i ≠ j → preB (f j) (f i) = false) := Lib.hid (fun h j hj hne => by
              by_cases e : j < k
              · exact HL2.out j e hne
              · obtain rfl : j = k := by omega
                exact h)
            have HNO : Hid (preB (f k) (f i) = true → frB f n = false) := Lib.hid (frB_no hlt hlk hik)
            clear hik
            cases hp : preB (f k) (f i) with
            | false =>
              have HN := Lib.hid (HY.out hp)
              have HC : Hid (∀ W : World, Calls Try.prog 65 #[.string (f k), .string (f i)] W fun e w' => e = .returned (.bool false) ∧ w' = W) := Lib.hid (fun W => (Try.strings_HasPrefix (f k) (f i) W).mono fun _ _ ⟨h1, h2⟩ => ⟨h1.trans (ret_bool2 hp), h2⟩)
              clear hp HY HNO
              go_wp2_with (first | (go_at_call 65; refine (HC.out _).mono ?_; rintro e w' ⟨rfl, rfl⟩) | go_in)
              go_round
              case rel => exact ⟨k + 1, by omega, by go_num, HN⟩
              case measure => simp [intOf]; omega
            | true =>
              have HR := Lib.hid (HNO.out hp)
              have HC : Hid (∀ W : World, Calls Try.prog 65 #[.string (f k), .string (f i)] W fun e w' => e = .returned (.bool true) ∧ w' = W) := Lib.hid (fun W => (Try.strings_HasPrefix (f k) (f i) W).mono fun _ _ ⟨h1, h2⟩ => ⟨h1.trans (ret_bool2 hp), h2⟩)
              clear hp HY HNO
              go_wp2_with (first | (go_at_call 65; refine (HC.out _).mono ?_; rintro e w' ⟨rfl, rfl⟩) | go_in)
              go_ret2
              exact ⟨by rw [HR.out]; rfl, HW.out⟩
        · obtain rfl : k = n := by omega
          have HN : Hid (∀ j, j < i + 1 → fr1 f k j) := Lib.hid (fun j hj => by
            by_cases e : j < i
            · exact HL.out j e
            · obtain rfl : j = i := by omega
              exact HL2.out)
          go_wp2
          exact ⟨⟨i + 1, by omega, by first | rfl | go_num | (congr 1), HN⟩, by show k - ((i : Int) + 1).toNat < k - (i : Int).toNat; omega⟩
    · obtain rfl : i = n := by omega
      have HR : Hid (frB f i = true) := Lib.hid (decide_eq_true HL.out)
      go_wp2
      go_ret2
      exact ⟨by rw [HR.out]; rfl, HW.out⟩
theorem pf_impl' (a : Option Addr) (n cap : Nat) (f : Nat → ByteArray) (w : World) (h : SRow w a n f) (hn : n ≤ 1048576) (hf : ∀ k, k < n → (f k).size ≤ 1048576) (hok : wlB f n = false) :
    Calls Try.prog 28 #[.slice a n cap] w fun e w' => e = .returned (.tuple #[.bool false, .bool false]) ∧ Below w.heap.size w w' := by
  have HA := Lib.hid h
  have HF := Lib.hid hf
  clear h hf
  go_enter Try.func28, Try.ntmps28
  go_wp2_with (first | (go_at_call 64; refine (wl_impl _ n _ f _ HA.out hn HF.out).mono ?_; rintro e w2 ⟨rfl, hbl⟩; have HW := Lib.hid hbl; clear hbl) | go_in)
  go_ret2
  exact ⟨rfl, HW.out⟩
end Go.Proofs.Ytaalddkpldbdkaa
