/- ReadNumbers: the program's reading of one number. -/
import Derived.Test.YtkmggoagboikgaaDoorHrp
import Derived.Test.YtkmggoagboikgaaDoorFla
import Derived.Laws.RangeString
import Derived.Laws.RangeAny
set_option linter.unusedVariables false
set_option linter.unusedSimpArgs false
namespace Go.Proofs.YtkmggoagboikgaaDoor
open Go.Proofs.YtkmggoagboikgaaDoor.Flo Go.RowKit
attribute [local go_sem] call_from32
theorem frb_impl (n : Nat) (w : World) (hn : n < 4294967296) : Calls Tryd.prog 32 #[.int .i64 (n : Int)] w fun e w' => e = .returned (.tuple #[.float .f32 n, .bool true]) ∧ w = w' := by
  have d1 : decide ((n : Int) < 0) = false := decide_eq_false (by omega)
  have d2 : decide ((4294967295 : Int) < (n : Int)) = false := decide_eq_false (by omega)
  have d2b : decide (4294967295 < n) = false := decide_eq_false (by omega)
  go_enter Tryd.func32, Tryd.ntmps32
  go_wp2_with go_in
  go_ret2
  exact ⟨rfl, rfl⟩
theorem lfr_spec (n : Nat) (w : World) (hn : n < 4294967296) : Calls Tryd.prog 27 #[.int .i64 (n : Int)] w fun e w' => e = .returned (.float .f32 n) ∧ w = w' := by
  go_enter Tryd.func27, Tryd.ntmps27
  go_wp2_with go_in
  go_ret
  exact ⟨rfl, rfl⟩
theorem hxd_hi {r : Nat} (h : 128 ≤ r) : hvO r = none := by unfold hvO; rw [if_neg (by omega), if_neg (by omega)]
theorem ba_get (s : ByteArray) (k : Nat) (h : k < s.size) : s.data.toList.getD k 0 = s[k] := by
  rw [List.getD_eq_getElem?_getD, List.getElem?_eq_getElem (by simpa using h)]
  rfl
theorem hxd_rune (r : Int) (w : World) (h : 128 ≤ r) : Calls Tryd.prog 31 #[.int .i32 r] w fun e w' => e = .returned (.tuple #[.int .i64 0, .bool false]) ∧ w = w' := by
  have d1 : decide ((48 : Int) ≤ r) = true := decide_eq_true (by omega)
  have d2 : decide (r ≤ 57) = false := decide_eq_false (by omega)
  have d3 : decide ((97 : Int) ≤ r) = true := decide_eq_true (by omega)
  have d4 : decide (r ≤ 102) = false := decide_eq_false (by omega)
  go_enter Tryd.func31, Tryd.ntmps31
  go_wp2
  go_ret2
  exact ⟨rfl, rfl⟩
set_option maxRecDepth 100000 in
set_option maxHeartbeats 8000000 in
theorem rp_impl (s : ByteArray) (w : World) (hs : s.size ≤ 1048576) :
    Calls Tryd.prog 20 #[.string s] w fun e w' => e = .returned (rpV s.data.toList) ∧ Below w.heap.size w w' := by
  have hsl : s.data.toList.length = s.size := Array.length_toList
  by_cases h8 : s.size = 8
  · have hd : ((s.size : Int) != 8) = false := by simp; omega
    have hd2 : ((s.size : Int) == 8) = true := by simp; omega
    have HL8 : Hid (s.data.toList.length = 8) := Lib.hid (by omega)
    clear hsl
    go_enter Tryd.func20, Tryd.ntmps20
    go_wp2
    go_loopw [4] (fun bv w' => ∃ pos n : Nat, w' = w.iter s pos ∧ pos ≤ s.size ∧ bv = .int .i64 (n : Int) ∧ Hid (hvT s.data.toList pos = some n)) (fun _ w' => s.size - w'.iterPos w.heap.size)
    case atStart => exact ⟨0, 0, rfl, Nat.zero_le _, rfl, Lib.hid rfl⟩
    case round =>
      obtain ⟨pos, n, rfl, hpos, rfl, HV⟩ := hrel
      by_cases hp : pos < s.size
      · have HGT := Lib.hid (ba_get s pos hp)
        have hnl := hvT_lt HV.out
        have hp7 : 16 ^ pos ≤ 16 ^ 7 := Nat.pow_le_pow_right (by decide) (by omega)
        have hn7 : n < 268435456 := Nat.lt_of_lt_of_le hnl hp7
        clear hnl hp7
        by_cases ha : s[pos].toNat < 128
        · have hnx : ∀ ty, (Instr.next (.pointer (some ⟨w.heap.size, 0, none⟩)) true ty).run Tryd.prog (w.iter s pos) = _ := fun ty => run_next_ascii w s pos ty hp ha
          have HXD := Lib.hid (fun w3 => hxd_impl s[pos].toNat w3 (by omega))
          cases hv : hvO s[pos].toNat with
          | none =>
            rw [hv] at HXD
            have HN := Lib.hid (rpV_no (rpO_dig (l := s.data.toList) (k := pos) (by omega) (by rw [HGT.out]; exact hv)))
            clear hv
            go_wp2_with (first | (go_at_call 31; (with_reducible refine (HXD.out _).mono ?_); rintro e w' ⟨rfl, hw⟩; subst hw) | fail)
            go_ret2
            exact ⟨by rw [HN.out]; rfl, (Below.refl _ _).alloc (Nat.le_refl _) _⟩
          | some d =>
            rw [hv] at HXD
            have hd16 := hvO_lt hv
            have HN := Lib.hid (hvT_on HV.out (by rw [HGT.out]; exact hv))
            clear hv
            go_wp2_with (first | (go_at_call 31; (with_reducible refine (HXD.out _).mono ?_); rintro e w' ⟨rfl, hw⟩; subst hw) | fail)
            go_roundw
            case rel => exact ⟨pos + 1, 16 * n + d, rfl, by omega, by congr 1, HN⟩
            case measure => simp; omega
        · have hnx : ∀ ty, (Instr.next (.pointer (some ⟨w.heap.size, 0, none⟩)) true ty).run Tryd.prog (w.iter s pos) = _ := fun ty => run_next_any w s pos ty hp
          have hdh := (decode_high s pos hp (by omega)).1
          have HXD := Lib.hid (fun w3 => hxd_rune ((Utf8.decode s pos).1 : Int) w3 (by omega))
          have HN := Lib.hid (rpV_no (rpO_dig (l := s.data.toList) (k := pos) (by omega) (by rw [HGT.out]; exact hxd_hi (by omega))))
          go_wp2_with (first | (go_at_call 31; (with_reducible refine (HXD.out _).mono ?_); rintro e w' ⟨rfl, hw⟩; subst hw) | fail)
          go_ret2
          exact ⟨by rw [HN.out]; rfl, (Below.refl _ _).alloc (Nat.le_refl _) _⟩
      · have hnx : ∀ ty, (Instr.next (.pointer (some ⟨w.heap.size, 0, none⟩)) true ty).run Tryd.prog (w.iter s pos) = _ := fun ty => run_next_end w s pos ty hp
        have HV8 : Hid (hvT s.data.toList 8 = some n) := Lib.hid (by have := HV.out; rwa [show pos = 8 by omega] at this)
        have hn8 : n < 4294967296 := hvT_lt HV8.out
        have HFB := Lib.hid (fun w3 => frb_impl n w3 hn8)
        have HBI := Lib.hid (fun w3 => bits_impl n hn8 w3)
        have HRV := Lib.hid (rpO_val HL8.out HV8.out)
        by_cases hb : bitsF n = n
        · have hbe : ((bitsF n : Int) != (n : Int)) = false := by simp; omega
          have hbe2 : ((bitsF n : Int) == (n : Int)) = true := by simp; omega
          have HN : Hid (rpV s.data.toList = _) := Lib.hid (rpV_yes (HRV.out.trans (if_pos hb)))
          clear hb
          go_wp2_with (first | (go_at_call 32; (with_reducible refine (HFB.out _).mono ?_); rintro e w' ⟨rfl, hw⟩; subst hw) | (go_at_call 23; (with_reducible refine (HBI.out _).mono ?_); rintro e w' ⟨rfl, hw⟩; subst hw) | fail)
          go_ret2
          exact ⟨by rw [HN.out]; rfl, (Below.refl _ _).alloc (Nat.le_refl _) _⟩
        · have hbe : ((bitsF n : Int) != (n : Int)) = true := by simp; omega
          have hbe2 : ((bitsF n : Int) == (n : Int)) = false := by simp; omega
          have HN : Hid (rpV s.data.toList = _) := Lib.hid (rpV_no (HRV.out.trans (if_neg hb)))
          clear hb
          go_wp2_with (first | (go_at_call 32; (with_reducible refine (HFB.out _).mono ?_); rintro e w' ⟨rfl, hw⟩; subst hw) | (go_at_call 23; (with_reducible refine (HBI.out _).mono ?_); rintro e w' ⟨rfl, hw⟩; subst hw) | fail)
          go_ret2
          exact ⟨by rw [HN.out]; rfl, (Below.refl _ _).alloc (Nat.le_refl _) _⟩
  · have hd : ((s.size : Int) != 8) = true := by simp; omega
    have hd2 : ((s.size : Int) == 8) = false := by simp; omega
    have HN := Lib.hid (rpV_no (rpO_len (l := s.data.toList) (by omega)))
    clear hsl
    go_enter Tryd.func20, Tryd.ntmps20
    go_wp2
    go_ret2
    exact ⟨by rw [HN.out]; rfl, Below.refl _ _⟩
end Go.Proofs.YtkmggoagboikgaaDoor
