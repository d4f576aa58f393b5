
/- ValidSaved: the functions. -/
import Derived.Test.YtnljabgkaelplaaSvk
import Derived.Test.YtnljabgkaelplaaSof
import Derived.WalkLawsBesides
import Derived.Laws.RangeString
import Derived.Laws.RangeAny
namespace Go.Proofs.Ytnljabgkaelplaa
open Go.Proofs.Ytnljabgkaelplaa.Flo Go.RowKit

/-- A letter a to z. -/
def letB (c : UInt8) : Bool := decide (97 ≤ c.toNat) && decide (c.toNat ≤ 122)
def nameB (l : List UInt8) : Bool := l.all letB && (decide (1 ≤ l.length) && decide (l.length ≤ 8))
theorem all_snoc (l : List UInt8) (c : UInt8) (h : l.all letB = true) (h1 : 97 ≤ c.toNat) (h2 : c.toNat ≤ 122) : (l ++ [c]).all letB = true := by
  rw [List.all_append, h]; simp [letB, h1, h2]
theorem not_all {s : ByteArray} {k : Nat} (h : k < s.size) (hc : s[k].toNat < 97 ∨ 122 < s[k].toNat) : s.data.toList.all letB = false := by
  rw [List.all_eq_false]
  refine ⟨s[k], ?_, ?_⟩
  · exact List.getElem_mem (l := s.data.toList) (n := k) (by simpa using h)
  · simp [letB]; omega
theorem take_snoc' (s : ByteArray) (k : Nat) (h : k < s.size) : s.data.toList.take (k + 1) = s.data.toList.take k ++ [s[k]] := by
  rw [List.take_succ_eq_append_getElem (by simpa using h)]; rfl

set_option maxHeartbeats 400000 in
theorem name_spec (s : ByteArray) (w : World) (hs : s.size ≤ maxLen) :
    Calls Try.prog 82 #[.string s] w fun e w' => e = .returned (.bool (nameB s.data.toList)) ∧ w = w' := by
  unfold maxLen at hs
  go_enter Try.func82, Try.ntmps82
  go_wp2
  go_loop [3] (fun i => ∃ k : Nat, k ≤ s.size ∧ i = .int .i64 k ∧ (s.data.toList.take k).all letB = true) (fun i => s.size - (intOf i).toNat)
  case atStart => exact ⟨0, Nat.zero_le _, rfl, rfl⟩
  case round =>
    obtain ⟨k, hk, rfl, hall⟩ := hrel
    have Hall := Lib.hid hall
    clear hall
    by_cases hlt : k < s.size
    · by_cases h1 : (s[k].toNat : Int) < 97
      · have H := Lib.hid (not_all hlt (.inl (by omega)))
        go_wp2
        go_ret
        exact ⟨ret_bool2 (by rw [nameB, H.out, Bool.false_and]), rfl⟩
      · by_cases h2 : (122 : Int) < (s[k].toNat : Int)
        · have H := Lib.hid (not_all hlt (.inr (by omega)))
          go_wp2
          go_ret
          exact ⟨ret_bool2 (by rw [nameB, H.out, Bool.false_and]), rfl⟩
        · have H := Lib.hid (all_snoc _ _ Hall.out (by omega : 97 ≤ s[k].toNat) (by omega))
          have H2 := Lib.hid (take_snoc' s k hlt)
          go_wp2
          go_round
          case rel => exact ⟨k + 1, by omega, by go_num, by rw [H2.out]; exact H.out⟩
          case measure => simp [intOf]; omega
    · have H : Hid (s.data.toList.all letB = true) := Lib.hid (by
        have := Hall.out
        rwa [List.take_of_length_le (by simp; omega)] at this)
      by_cases h1 : (1 : Int) ≤ (s.size : Int)
      all_goals
        go_wp2
        go_ret
        exact ⟨ret_bool2 (by rw [nameB, H.out, Bool.eq_iff_iff]; simp; omega), rfl⟩

theorem name_short {s : ByteArray} (h : s.size < 1 ∨ 8 < s.size) : nameB s.data.toList = false := by
  have hz : s.data.toList.length = s.size := by simp
  unfold nameB
  rw [hz]
  rcases h with h | h
  · have : decide (1 ≤ s.size) = false := decide_eq_false (by omega)
    rw [this]; simp
  · have : decide (s.size ≤ 8) = false := decide_eq_false (by omega)
    rw [this]; simp
theorem name_full {s : ByteArray} (h1 : 1 ≤ s.size) (h2 : s.size ≤ 8) (h : s.data.toList.all letB = true) : nameB s.data.toList = true := by
  have hz : s.data.toList.length = s.size := by simp
  unfold nameB
  rw [hz, h, decide_eq_true h1, decide_eq_true h2]; rfl

set_option maxHeartbeats 400000 in
theorem name_impl (s : ByteArray) (w : World) (hs : s.size ≤ maxLen) :
    Calls Try.prog 86 #[.string s] w fun e w' => e = .returned (.bool (nameB s.data.toList)) ∧ Below w.heap.size w w' := by
  unfold maxLen at hs
  by_cases h0 : s.size < 1
  · have H := Lib.hid (name_short (.inl h0))
    have hlt : (s.size : Int) < 1 := by omega
    clear h0
    go_enter Try.func86, Try.ntmps86
    go_wp2
    go_ret
    exact ⟨ret_bool2 (by rw [H.out]), Below.refl _ _⟩
  by_cases h8 : 8 < s.size
  · have H := Lib.hid (name_short (.inr h8))
    have hlt : (8 : Int) < (s.size : Int) := by omega
    clear h8
    go_enter Try.func86, Try.ntmps86
    go_wp2
    go_ret
    exact ⟨ret_bool2 (by rw [H.out]), Below.refl _ _⟩
  have g1 : ¬ (s.size : Int) < 1 := by omega
  have g2 : ¬ (8 : Int) < (s.size : Int) := by omega
  go_enter Try.func86, Try.ntmps86
  go_wp2
  go_loopw [] (fun w' => ∃ pos : Nat, w' = w.iter s pos ∧ pos ≤ s.size ∧ Hid ((s.data.toList.take pos).all letB = true)) (fun w' => s.size - w'.iterPos w.heap.size)
  case atStart => exact ⟨0, rfl, Nat.zero_le _, Lib.hid rfl⟩
  case round =>
    obtain ⟨pos, rfl, hpos, Hall⟩ := hrel
    by_cases hp : pos < s.size
    · by_cases ha : s[pos].toNat < 128
      · have hnx : ∀ ty, (Instr.next (.pointer (some ⟨w.heap.size, 0, none⟩)) true ty).run Try.prog (w.iter s pos) = _ := fun ty => run_next_ascii w s pos ty hp ha
        by_cases h1 : (s[pos].toNat : Int) < 97
        · have H := Lib.hid (not_all hp (.inl (by omega)))
          go_wp2
          go_ret
          exact ⟨ret_bool2 (by rw [nameB, H.out, Bool.false_and]), (Below.refl _ _).alloc (Nat.le_refl _) _⟩
        · by_cases h2 : (122 : Int) < (s[pos].toNat : Int)
          · have H := Lib.hid (not_all hp (.inr (by omega)))
            go_wp2
            go_ret
            exact ⟨ret_bool2 (by rw [nameB, H.out, Bool.false_and]), (Below.refl _ _).alloc (Nat.le_refl _) _⟩
          · have H := Lib.hid (all_snoc _ _ Hall.out (by omega : 97 ≤ s[pos].toNat) (by omega))
            have H2 := Lib.hid (take_snoc' s pos hp)
            go_wp2
            go_roundw
            case rel => exact ⟨pos + 1, rfl, by omega, Lib.hid (by rw [H2.out]; exact H.out)⟩
            case measure => simp; omega
      · have hnx : ∀ ty, (Instr.next (.pointer (some ⟨w.heap.size, 0, none⟩)) true ty).run Try.prog (w.iter s pos) = _ := fun ty => run_next_any w s pos ty hp
        have hd := (decode_high s pos hp (by omega)).1
        have hle := decode_le s pos
        have H := Lib.hid (not_all hp (.inr (by omega)))
        have h1 : ¬ ((Utf8.decode s pos).1 : Int) < 97 := by omega
        have h2 : (122 : Int) < ((Utf8.decode s pos).1 : Int) := by omega
        go_wp2
        go_ret
        exact ⟨ret_bool2 (by rw [nameB, H.out, Bool.false_and]), (Below.refl _ _).alloc (Nat.le_refl _) _⟩
    · have hnx : ∀ ty, (Instr.next (.pointer (some ⟨w.heap.size, 0, none⟩)) true ty).run Try.prog (w.iter s pos) = _ := fun ty => run_next_end w s pos ty hp
      have H := Lib.hid (name_full (s := s) (by omega) (by omega) (by
        have := Hall.out
        rwa [List.take_of_length_le (by simp; omega)] at this))
      go_wp2
      go_ret
      exact ⟨ret_bool2 (by rw [H.out]), (Below.refl _ _).alloc (Nat.le_refl _) _⟩

/-- Is it valid? -/
def svB (s : ByteArray) (n : Nat) (zs : List Nat) (m : Nat) : Bool := nameB s.data.toList && (decide (n ≤ 160) && sfB zs m)
theorem sv_s {s : ByteArray} {n m : Nat} {zs : List Nat} (h : nameB s.data.toList = false) : svB s n zs m = false := by unfold svB; rw [h]; rfl
theorem sv_n {s : ByteArray} {n m : Nat} {zs : List Nat} (h1 : nameB s.data.toList = true) (h : ¬ n ≤ 160) : svB s n zs m = false := by unfold svB; rw [h1, decide_eq_false h]; rfl
theorem sv_m {s : ByteArray} {n m : Nat} {zs : List Nat} (h1 : nameB s.data.toList = true) (h : n ≤ 160) : svB s n zs m = sfB zs m := by unfold svB; rw [h1, decide_eq_true h]; rfl
set_option maxRecDepth 100000 in
set_option maxHeartbeats 4000000 in
theorem vs_impl (s : ByteArray) (a : Option Addr) (n cap : Nat) (b : Option Addr) (m capb : Nat) (zs : List Nat) (w : World) (hs : s.size ≤ 1048576) (hb : FRow w b m zs) (hn : n ≤ 1048576) (hm : m ≤ 1048576) :
    Calls Try.prog 45 #[.agg #[.string s, .slice a n cap, .slice b m capb]] w fun e w' => e = .returned (.bool (svB s n zs m)) ∧ Below w.heap.size w w' := by
  have HC : Hid ((w.alloc (.cells #[.string s, .slice a n cap, .slice b m capb] 29)).cell? ⟨w.heap.size, 1, none⟩ = some (.slice a n cap) ∧ (w.alloc (.cells #[.string s, .slice a n cap, .slice b m capb] 29)).cell? ⟨w.heap.size, 2, none⟩ = some (.slice b m capb)) := Lib.hid (by constructor <;> (rw [World.cell?_alloc_at _ _ _ _ rfl]; rfl))
  have HNM := Lib.hid (fun W => name_impl s W (by unfold maxLen; omega))
  have HSF := Lib.hid (fun W (h : Below w.heap.size w W) => sf_impl b m capb zs W (hb.below h) hm)
  clear hb
  cases h1 : nameB s.data.toList with
  | true =>
    rw [h1] at HNM
    by_cases h2 : n ≤ 160
    · have d2 : decide ((n : Int) ≤ 160) = true := decide_eq_true (by omega)
      have HF := Lib.hid (sv_m (zs := zs) (m := m) h1 h2)
      clear h1 h2
      generalize sfB zs m = v at HSF HF
      go_enter Try.func45, Try.ntmps45
      go_wp2_with (first | (go_at_call 86; refine (HNM.out _).mono ?_; rintro e w2 ⟨rfl, hb⟩; have HB : Hid (Below w.heap.size w w2) := Lib.hid (Below.next (belowA _ _) (by first | exact hb | exact hb ▸ Below.refl _ _)); have hc1 : w2.cell? ⟨w.heap.size, 1, none⟩ = some (.slice a n cap) := (by rw [hb.cell (p := ⟨w.heap.size, 1, none⟩) (by simp)]; exact HC.out.1); have hc2 : w2.cell? ⟨w.heap.size, 2, none⟩ = some (.slice b m capb) := (by rw [hb.cell (p := ⟨w.heap.size, 2, none⟩) (by simp)]; exact HC.out.2); clear hb) | (go_at_call 87; refine (HSF.out _ HB.out).mono ?_; rintro e w3 ⟨rfl, hd⟩; have HD := Lib.hid (Below.next HB.out hd.below); clear hd) | fail)
      go_ret
      exact ⟨ret_bool2 HF.out.symm, HD.out⟩
    · have d2 : decide ((n : Int) ≤ 160) = false := decide_eq_false (by omega)
      have HF := Lib.hid (sv_n (zs := zs) (m := m) h1 h2)
      clear h1 h2 HSF
      go_enter Try.func45, Try.ntmps45
      go_wp2_with (first | (go_at_call 86; refine (HNM.out _).mono ?_; rintro e w2 ⟨rfl, hb⟩; have HB : Hid (Below w.heap.size w w2) := Lib.hid (Below.next (belowA _ _) (by first | exact hb | exact hb ▸ Below.refl _ _)); have hc1 : w2.cell? ⟨w.heap.size, 1, none⟩ = some (.slice a n cap) := (by rw [hb.cell (p := ⟨w.heap.size, 1, none⟩) (by simp)]; exact HC.out.1); have hc2 : w2.cell? ⟨w.heap.size, 2, none⟩ = some (.slice b m capb) := (by rw [hb.cell (p := ⟨w.heap.size, 2, none⟩) (by simp)]; exact HC.out.2); clear hb) | fail)
      go_ret
      exact ⟨ret_bool2 HF.out.symm, HB.out⟩
  | false =>
    rw [h1] at HNM
    have HF := Lib.hid (sv_s (n := n) (zs := zs) (m := m) h1)
    clear h1 HSF
    go_enter Try.func45, Try.ntmps45
    go_wp2_with (first | (go_at_call 86; refine (HNM.out _).mono ?_; rintro e w2 ⟨rfl, hb⟩; have HB : Hid (Below w.heap.size w w2) := Lib.hid (Below.next (belowA _ _) (by first | exact hb | exact hb ▸ Below.refl _ _)); have hc1 : w2.cell? ⟨w.heap.size, 1, none⟩ = some (.slice a n cap) := (by rw [hb.cell (p := ⟨w.heap.size, 1, none⟩) (by simp)]; exact HC.out.1); have hc2 : w2.cell? ⟨w.heap.size, 2, none⟩ = some (.slice b m capb) := (by rw [hb.cell (p := ⟨w.heap.size, 2, none⟩) (by simp)]; exact HC.out.2); clear hb) | fail)
    go_ret
    exact ⟨ret_bool2 HF.out.symm, HB.out⟩
set_option maxRecDepth 100000 in
set_option maxHeartbeats 4000000 in
theorem vs_spec0 (p : Nat) (s : ByteArray) (a : Option Addr) (n cap : Nat) (b : Option Addr) (m capb : Nat) (zs : List Nat) (w : World) (hs : s.size ≤ 1048576) (hb : FRow w b m zs) (hn : n ≤ 1048576) (hm : m ≤ 1048576) (h0 : w.cell? ⟨p, 0, none⟩ = some (.string s)) (h1 : w.cell? ⟨p, 1, none⟩ = some (.slice a n cap)) (h2 : w.cell? ⟨p, 2, none⟩ = some (.slice b m capb)) :
    Calls Try.prog 43 #[.pointer (some ⟨p, 0, none⟩)] w fun e w' => e = .returned (.bool (svB s n zs m)) ∧ Below w.heap.size w w' := by
  have HNM := Lib.hid (fun W => name_spec s W (by unfold maxLen; omega))
  have HSF := Lib.hid (fun W (h : Below w.heap.size w W) => s7_spec b m capb zs W (hb.below h) hm)
  clear hb
  cases hx1 : nameB s.data.toList with
  | true =>
    rw [hx1] at HNM
    by_cases hx2 : n ≤ 160
    · have d2 : decide ((n : Int) ≤ 160) = true := decide_eq_true (by omega)
      have HF := Lib.hid (sv_m (zs := zs) (m := m) hx1 hx2)
      clear hx1 hx2
      generalize sfB zs m = v at HSF HF
      go_enter Try.func43, Try.ntmps43
      go_wp2_with (first | (go_at_call 82; refine (HNM.out _).mono ?_; rintro e w2 ⟨rfl, hb⟩; subst hb; have HB : Hid (Below w.heap.size w w) := Lib.hid (Below.refl _ _)) | (go_at_call 83; refine (HSF.out _ HB.out).mono ?_; rintro e w3 ⟨rfl, hd⟩; have HD := Lib.hid (Below.next HB.out hd.below); clear hd) | fail)
      go_ret
      exact ⟨ret_bool2 HF.out.symm, HD.out⟩
    · have d2 : decide ((n : Int) ≤ 160) = false := decide_eq_false (by omega)
      have HF := Lib.hid (sv_n (zs := zs) (m := m) hx1 hx2)
      clear hx1 hx2 HSF
      go_enter Try.func43, Try.ntmps43
      go_wp2_with (first | (go_at_call 82; refine (HNM.out _).mono ?_; rintro e w2 ⟨rfl, hb⟩; subst hb; have HB : Hid (Below w.heap.size w w) := Lib.hid (Below.refl _ _)) | fail)
      go_ret
      exact ⟨ret_bool2 HF.out.symm, HB.out⟩
  | false =>
    rw [hx1] at HNM
    have HF := Lib.hid (sv_s (n := n) (zs := zs) (m := m) hx1)
    clear hx1 HSF
    go_enter Try.func43, Try.ntmps43
    go_wp2_with (first | (go_at_call 82; refine (HNM.out _).mono ?_; rintro e w2 ⟨rfl, hb⟩; subst hb; have HB : Hid (Below w.heap.size w w) := Lib.hid (Below.refl _ _)) | fail)
    go_ret
    exact ⟨ret_bool2 HF.out.symm, HB.out⟩
end Go.Proofs.Ytnljabgkaelplaa
