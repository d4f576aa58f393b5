
/- Codes: when they are valid, and how much of all words they take. -/
import Derived.Test.YtdmdgkjmecgpeaaCdm
import Derived.Test.YtdmdgkjmecgpeaaTbl
import Derived.Test.YtdmdgkjmecgpeaaSmv
namespace Go.Proofs.Ytdmdgkjmecgpeaa
open Go.Proofs.Ytdmdgkjmecgpeaa.Flo Go.RowKit

/-- How much of all words the first k words take. -/
def krI (zs : List Int) : Nat → Int
  | 0 => 0
  | k + 1 => krI zs k + 2 ^ (32 - zs.getD k 0).toNat
def lnP (zs : List Int) (n : Nat) : Prop := ∀ k, k < n → 1 ≤ zs.getD k 0 ∧ zs.getD k 0 ≤ 32
instance (zs : List Int) (n : Nat) : Decidable (lnP zs n) := inferInstanceAs (Decidable (∀ k, k < n → 1 ≤ zs.getD k 0 ∧ zs.getD k 0 ≤ 32))
def codeB (zs : List Int) (n : Nat) : Bool := decide (1 ≤ n ∧ n ≤ 16) && (decide (lnP zs n) && decide (krI zs n ≤ 4294967296))
theorem code_out {zs : List Int} {n : Nat} (h : codeB zs n = true) : (1 ≤ n ∧ n ≤ 16) ∧ lnP zs n ∧ krI zs n ≤ 4294967296 := by
  unfold codeB at h
  rw [Bool.and_eq_true, Bool.and_eq_true] at h
  exact ⟨of_decide_eq_true h.1, of_decide_eq_true h.2.1, of_decide_eq_true h.2.2⟩
theorem code_no {zs : List Int} {n k : Nat} (hk : k < n) (h : ¬ (1 ≤ zs.getD k 0 ∧ zs.getD k 0 ≤ 32)) : codeB zs n = false := by
  unfold codeB
  rw [decide_eq_false (p := lnP zs n) (fun e => h (e k hk))]
  simp
theorem code_len {zs : List Int} {n : Nat} (h : ¬ (1 ≤ n ∧ n ≤ 16)) : codeB zs n = false := by
  unfold codeB
  rw [decide_eq_false h]; rfl
theorem code_end {zs : List Int} {n : Nat} (h1 : 1 ≤ n ∧ n ≤ 16) (h : lnP zs n) : codeB zs n = decide (krI zs n ≤ 4294967296) := by
  unfold codeB
  rw [decide_eq_true h1, decide_eq_true h]; rfl
theorem lnP.part {zs : List Int} {n k : Nat} (h : lnP zs n) (hk : k ≤ n) : lnP zs k := fun j hj => h j (by omega)
theorem p2_le {x : Int} (h : 1 ≤ x ∧ x ≤ 32) : 1 ≤ (2 : Int) ^ (32 - x).toNat ∧ (2 : Int) ^ (32 - x).toNat ≤ 2147483648 := by
  have e : ((2 : Int) ^ (32 - x).toNat) = ((2 ^ (32 - x).toNat : Nat) : Int) := by simp
  have h1 : 2 ^ (32 - x).toNat ≤ 2 ^ 31 := Nat.pow_le_pow_right (by decide) (by omega)
  have h2 : 1 ≤ 2 ^ (32 - x).toNat := Nat.one_le_two_pow
  rw [e]
  have : (2 : Nat) ^ 31 = 2147483648 := by decide
  omega
theorem kr_le {zs : List Int} {n : Nat} (h : lnP zs n) : ∀ k, k ≤ n → 0 ≤ krI zs k ∧ krI zs k ≤ (k : Int) * 2147483648 := by
  intro k
  induction k with
  | zero => intro _; exact ⟨Int.le_refl _, by show (0 : Int) ≤ _; omega⟩
  | succ k ih =>
    intro hk
    have h1 := ih (by omega)
    have h2 := p2_le (h k (by omega))
    have e : krI zs (k + 1) = krI zs k + 2 ^ (32 - zs.getD k 0).toNat := rfl
    rw [e]
    omega
theorem kr_zero (zs : List Int) : krI zs 0 = 0 := rfl
set_option maxHeartbeats 2000000 in
theorem kr_spec (p : Nat) (a : Option Addr) (n cap : Nat) (zs : List Int) (w : World) (h : IRow w a n zs) (hn : n ≤ 16) (hl : lnP zs n) (hp : w.cell? ⟨p, 0, none⟩ = some (.slice a n cap)) :
    Calls Try.prog 202 #[.pointer (some ⟨p, 0, none⟩)] w fun e w' => e = .returned (.int .i64 (krI zs n)) ∧ w = w' := by
  have HA := Lib.hid h
  have HP := Lib.hid hl
  clear h hl
  go_enter Try.func202, Try.ntmps202
  go_wp2
  go_loop [3, 4] (fun sv iv => ∃ k : Nat, k ≤ n ∧ sv = .int .i64 (krI zs k) ∧ iv = .int .i64 k) (fun _ iv => n - (intOf iv).toNat)
  case atStart => exact ⟨0, by omega, rfl, rfl⟩
  case round =>
    obtain ⟨k, hk, rfl, rfl⟩ := hrel
    have hb := kr_le HP.out k hk
    by_cases hlt : k < n
    · obtain ⟨b1, o1, rfl, _, hck1⟩ := HA.out.cell' hlt
      have HT1 : Hid (krI zs (k + 1) = krI zs k + 2 ^ (32 - zs.getD k 0).toNat) := Lib.hid rfl
      have hc := HP.out k hlt
      have hp2 := p2_le hc
      obtain ⟨hc0, hc1⟩ := hc
      generalize zs.getD k 0 = c at hck1 hc0 hc1 HT1 hp2
      generalize krI zs k = T at hb HT1
      obtain ⟨m, rfl⟩ : ∃ m : Nat, c = 32 - (m : Int) := ⟨(32 - c).toNat, by omega⟩
      have e : (32 - (32 - (m : Int))).toNat = m := by omega
      rw [e] at HT1 hp2
      have hmin : min m 64 = m := by omega
      go_wp2
      go_round
      case rel => exact ⟨k + 1, by omega, val_i HT1.out.symm, by go_num⟩
      case measure => simp [intOf]; omega
    · obtain rfl : k = n := by omega
      go_wp2
      go_ret
      exact ⟨rfl, rfl⟩
set_option maxHeartbeats 2000000 in
theorem kr_impl (a : Option Addr) (n cap : Nat) (zs : List Int) (w : World) (h : IRow w a n zs) (hn : n ≤ 16) (hl : lnP zs n) :
    Calls Try.prog 152 #[.agg #[.slice a n cap]] w fun e w' => e = .returned (.int .i64 (krI zs n)) ∧ Below w.heap.size w w' := by
  have HA := Lib.hid (h.alloc (.cells #[.slice a n cap] 32))
  have HP := Lib.hid hl
  clear h hl
  go_enter Try.func152, Try.ntmps152
  go_wp2
  go_loop [3, 9] (fun sv iv => ∃ k : Nat, k ≤ n ∧ sv = .int .i64 (krI zs k) ∧ iv = .int .i64 k) (fun _ iv => n - (intOf iv).toNat)
  case atStart => exact ⟨0, by omega, rfl, rfl⟩
  case round =>
    obtain ⟨k, hk, rfl, rfl⟩ := hrel
    have hb := kr_le HP.out k hk
    by_cases hlt : k < n
    · obtain ⟨b1, o1, rfl, _, hck1⟩ := HA.out.cell' hlt
      have HT1 : Hid (krI zs (k + 1) = krI zs k + 2 ^ (32 - zs.getD k 0).toNat) := Lib.hid rfl
      have hc := HP.out k hlt
      have hp2 := p2_le hc
      obtain ⟨hc0, hc1⟩ := hc
      generalize zs.getD k 0 = c at hck1 hc0 hc1 HT1 hp2
      generalize krI zs k = T at hb HT1
      obtain ⟨m, rfl⟩ : ∃ m : Nat, c = 32 - (m : Int) := ⟨(32 - c).toNat, by omega⟩
      have e : (32 - (32 - (m : Int))).toNat = m := by omega
      rw [e] at HT1 hp2
      have hmin : min m 64 = m := by omega
      go_wp2
      go_round
      case rel => exact ⟨k + 1, by omega, val_i HT1.out.symm, by go_num⟩
      case measure => simp [intOf]; omega
    · obtain rfl : k = n := by omega
      go_wp2
      go_ret
      exact ⟨rfl, belowA _ _⟩
set_option maxHeartbeats 2000000 in
theorem cdis_spec (p : Nat) (a : Option Addr) (n cap : Nat) (zs : List Int) (w : World) (h : IRow w a n zs) (hn : n ≤ 1048576) (hp : w.cell? ⟨p, 0, none⟩ = some (.slice a n cap)) :
    Calls Try.prog 148 #[.pointer (some ⟨p, 0, none⟩)] w fun e w' => e = .returned (.bool (codeB zs n)) ∧ w = w' := by
  have HA := Lib.hid h
  clear h
  by_cases h1 : 1 ≤ n
  · by_cases h2 : n ≤ 16
    · go_enter Try.func148, Try.ntmps148
      go_wp2
      go_loop [3] (fun iv => ∃ k : Nat, k ≤ n ∧ Hid (lnP zs k) ∧ iv = .int .i64 k) (fun iv => n - (intOf iv).toNat)
      case atStart => exact ⟨0, by omega, Lib.hid (by intro j hj; omega), rfl⟩
      case round =>
        obtain ⟨k, hk, HL, rfl⟩ := hrel
        by_cases hlt : k < n
        · obtain ⟨b1, o1, rfl, _, hck1⟩ := HA.out.cell' hlt
          by_cases hc : 1 ≤ zs.getD k 0 ∧ zs.getD k 0 ≤ 32
          · have HN : Hid (lnP zs (k + 1)) := Lib.hid (fun j hj => by
              by_cases e : j < k
              · exact HL.out j e
              · obtain rfl : j = k := by omega
                exact hc)
            have HC := Lib.hid hc
            clear hc
            generalize zs.getD k 0 = c at hck1 HC
            go_wp2_with (first | (go_at_call 84; refine (in_true c 1 32 _ HC.out.1 HC.out.2).mono ?_; rintro e w' ⟨rfl, rfl⟩) | go_in)
            go_round
            case rel => exact ⟨k + 1, by omega, HN, by go_num⟩
            case measure => simp [intOf]; omega
          · have HF := Lib.hid (code_no hlt hc)
            have HC := Lib.hid hc
            clear hc
            generalize zs.getD k 0 = c at hck1 HC
            go_wp2_with (first | (go_at_call 84; refine (in_false c 1 32 _ HC.out).mono ?_; rintro e w' ⟨rfl, rfl⟩) | go_in)
            go_ret
            exact ⟨ret_bool2 HF.out.symm, rfl⟩
        · obtain rfl : k = n := by omega
          have HF := Lib.hid (code_end ⟨h1, h2⟩ HL.out)
          go_wp2_with (first | (go_at_call 202; refine (kr_spec p _ k _ zs _ HA.out h2 HL.out hp).mono ?_; rintro e w' ⟨rfl, rfl⟩) | go_in)
          go_ret
          exact ⟨ret_bool2 HF.out.symm, rfl⟩
    · have HF := Lib.hid (code_len (zs := zs) (n := n) (fun e => h2 e.2))
      have hd : decide (16 < (n : Int)) = true := decide_eq_true (by omega)
      go_enter Try.func148, Try.ntmps148
      go_wp2
      go_ret
      exact ⟨ret_bool2 HF.out.symm, rfl⟩
  · have HF := Lib.hid (code_len (zs := zs) (n := n) (fun e => h1 e.1))
    obtain rfl : n = 0 := by omega
    go_enter Try.func148, Try.ntmps148
    go_wp2
    go_ret
    exact ⟨ret_bool2 HF.out.symm, rfl⟩
theorem cell_box (w : World) (v : Value) (T : TypeId) : (w.alloc (.cells #[v] T)).cell? ⟨w.heap.size, 0, none⟩ = some v := by
  rw [World.cell?_alloc_at _ _ _ _ rfl]; rfl
set_option maxHeartbeats 2000000 in
theorem vc_impl (a : Option Addr) (n cap : Nat) (zs : List Int) (w : World) (h : IRow w a n zs) (hn : n ≤ 1048576) :
    Calls Try.prog 71 #[.agg #[.slice a n cap]] w fun e w' => e = .returned (.bool (codeB zs n)) ∧ Below w.heap.size w w' := by
  have HA := Lib.hid (h.alloc (.cells #[.slice a n cap] 32))
  clear h
  go_enter Try.func71, Try.ntmps71
  go_wp2
  go_loop [8] (fun iv => ∃ k : Nat, k ≤ n ∧ Hid (lnP zs k) ∧ iv = .int .i64 k) (fun iv => n - (intOf iv).toNat)
  case atStart => exact ⟨0, by omega, Lib.hid (by intro j hj; omega), rfl⟩
  case round =>
    obtain ⟨k, hk, HL, rfl⟩ := hrel
    by_cases hlt : k < n
    · obtain ⟨b1, o1, rfl, _, hck1⟩ := HA.out.cell' hlt
      by_cases hc0 : 1 ≤ zs.getD k 0
      · by_cases hc1 : zs.getD k 0 ≤ 32
        · have HN : Hid (lnP zs (k + 1)) := Lib.hid (fun j hj => by
            by_cases e : j < k
            · exact HL.out j e
            · obtain rfl : j = k := by omega
              exact ⟨hc0, hc1⟩)
          generalize zs.getD k 0 = c at hck1 hc0 hc1
          go_wp2
          go_round
          case rel => exact ⟨k + 1, by omega, HN, by go_num⟩
          case measure => simp [intOf]; omega
        · have HF := Lib.hid (code_no hlt (fun e => hc1 e.2))
          generalize zs.getD k 0 = c at hck1 hc0 hc1
          have hd : decide (32 < c) = true := decide_eq_true (by omega)
          go_wp2
          go_ret
          exact ⟨ret_bool2 HF.out.symm, belowA _ _⟩
      · have HF := Lib.hid (code_no hlt (fun e => hc0 e.1))
        generalize zs.getD k 0 = c at hck1 hc0
        have hd : decide (c < 1) = true := decide_eq_true (by omega)
        go_wp2
        go_ret
        exact ⟨ret_bool2 HF.out.symm, belowA _ _⟩
    · obtain rfl : k = n := by omega
      by_cases h1 : 1 ≤ k
      · by_cases h2 : k ≤ 16
        · have HF := Lib.hid (code_end ⟨h1, h2⟩ HL.out)
          have hb := kr_le HL.out k (Nat.le_refl _)
          go_wp2_with (first | (go_at_call 152; refine (kr_impl _ k _ zs _ HA.out h2 HL.out).mono ?_; rintro e w' ⟨rfl, hb2⟩; have HB := Lib.hid (Below.ofAlloc hb2); clear hb2) | go_in)
          go_ret
          exact ⟨ret_bool2 HF.out.symm, HB.out⟩
        · have HF := Lib.hid (code_len (zs := zs) (n := k) (fun e => h2 e.2))
          go_wp2
          go_ret
          exact ⟨ret_bool2 (by rw [HF.out]), belowA _ _⟩
      · have HF := Lib.hid (code_len (zs := zs) (n := k) (fun e => h1 e.1))
        obtain rfl : k = 0 := by omega
        go_wp2
        go_ret
        exact ⟨ret_bool2 HF.out.symm, belowA _ _⟩
end Go.Proofs.Ytdmdgkjmecgpeaa
