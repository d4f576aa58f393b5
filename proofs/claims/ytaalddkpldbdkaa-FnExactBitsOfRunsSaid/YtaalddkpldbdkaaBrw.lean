/- BitsOfRuns: the functions. -/
import Derived.Test.YtaalddkpldbdkaaBld
import Derived.Test.YtaalddkpldbdkaaUnw
import Derived.Test.YtaalddkpldbdkaaBts
namespace Go.Proofs.Ytaalddkpldbdkaa
open Go.Proofs.Ytaalddkpldbdkaa.Flo Go.RowKit

/-- The kind of the run at a place. -/
def flB (f : Bool) : Nat → Bool
  | 0 => f
  | k + 1 => !(flB f k)
theorem flB_eq (f : Bool) : ∀ k, flB f k = (f == (k % 2 == 0))
  | 0 => by simp [flB]
  | k + 1 => by
    show (!(flB f k)) = _
    rw [flB_eq f k]
    have : ((k + 1) % 2 == 0) = !(k % 2 == 0) := by
      rcases Nat.mod_two_eq_zero_or_one k with h | h
      · have h2 : (k + 1) % 2 = 1 := by omega
        rw [h, h2]; rfl
      · have h2 : (k + 1) % 2 = 0 := by omega
        rw [h, h2]; rfl
    rw [this]
    cases f <;> cases (k % 2 == 0) <;> rfl
def flC (f : Bool) (k : Nat) : UInt8 := if flB f k then 49 else 48
/-- The text of the first k runs. -/
def ruT (f : Bool) (zs : List Int) : Nat → List UInt8
  | 0 => []
  | k + 1 => ruT f zs k ++ repL (flC f k) (zs.getD k 0).toNat
def ruN (zs : List Int) : Nat → Nat
  | 0 => 0
  | k + 1 => ruN zs k + (zs.getD k 0).toNat
theorem ruT_len (f : Bool) (zs : List Int) : ∀ k, (ruT f zs k).length = ruN zs k
  | 0 => rfl
  | k + 1 => by simp [ruT, ruN, ruT_len f zs k, repL_len]
def okB1 (zs : List Int) (k : Nat) : Prop := 1 ≤ zs.getD k 0 ∧ ruN zs k + (zs.getD k 0).toNat ≤ 512
instance (zs : List Int) (k : Nat) : Decidable (okB1 zs k) := by unfold okB1; infer_instance
def okBR (zs : List Int) (n : Nat) : Bool := decide (∀ j, j < n → okB1 zs j)
theorem okBR_no {zs : List Int} {n k : Nat} (hk : k < n) (h : ¬ okB1 zs k) : okBR zs n = false := decide_eq_false (fun e => h (e k hk))
theorem ru_ge {zs : List Int} {k : Nat} (h : ∀ j, j < k → okB1 zs j) : k ≤ ruN zs k ∧ (0 < k → ruN zs k ≤ 512) := by
  induction k with
  | zero => exact ⟨Nat.le_refl _, fun h => absurd h (by omega)⟩
  | succ k ih =>
    have h1 := ih (fun j hj => h j (by omega))
    have h2 := h k (by omega)
    obtain ⟨h3, h4⟩ := h2
    have e : ruN zs (k + 1) = ruN zs k + (zs.getD k 0).toNat := rfl
    exact ⟨by omega, fun _ => by omega⟩
theorem ru_le {zs : List Int} {k : Nat} (h : ∀ j, j < k → okB1 zs j) : ruN zs k ≤ 512 := by
  cases k with
  | zero => exact Nat.zero_le _
  | succ k => exact (ru_ge h).2 (by omega)
theorem okBR_long {zs : List Int} {n : Nat} (h : 512 < n) : okBR zs n = false := by
  refine decide_eq_false (fun e => ?_)
  have := ru_ge e
  have h2 := ru_le e
  omega
def brA (f : Bool) (zs : List Int) (n : Nat) : Value := .tuple #[.string (if okBR zs n then txB (ruT f zs n) else ⟨#[]⟩), .bool (okBR zs n)]
theorem brA_no {f : Bool} {zs : List Int} {n : Nat} (h : okBR zs n = false) : brA f zs n = .tuple #[.string ⟨#[]⟩, .bool false] := by unfold brA; rw [h]; rfl
theorem brA_yes {f : Bool} {zs : List Int} {n : Nat} (h : ∀ j, j < n → okB1 zs j) : brA f zs n = .tuple #[.string (txB (ruT f zs n)), .bool true] := by
  have : okBR zs n = true := decide_eq_true h
  unfold brA; rw [this]; rfl
theorem okB1_on {zs : List Int} {k : Nat} (h : ∀ j, j < k → okB1 zs j) (h1 : okB1 zs k) : ∀ j, j < k + 1 → okB1 zs j := fun j hj => by
  by_cases e : j < k
  · exact h j e
  · obtain rfl : j = k := by omega
    exact h1
set_option maxRecDepth 100000 in
set_option maxHeartbeats 4000000 in
theorem br_spec (f : Bool) (a : Option Addr) (n cap : Nat) (zs : List Int) (w : World) (h : IRow w a n zs) (hn : n ≤ 1048576) :
    Calls Try.prog 32 #[.bool f, .slice a n cap] w fun e w' => e = .returned (brA f zs n) ∧ w = w' := by
  have HA := Lib.hid h
  clear h
  by_cases h5 : n ≤ 512
  · have hd : decide ((n : Int) ≤ 512) = true := decide_eq_true (by omega)
    have hE : Hid (txB [] = (⟨#[]⟩ : ByteArray)) := Lib.hid rfl
    go_enter Try.func32, Try.ntmps32
    go_wp2
    go_loop [6, 7] (fun ov iv => ∃ k : Nat, k ≤ n ∧ ov = .string (txB (ruT f zs k)) ∧ Hid (∀ j, j < k → okB1 zs j) ∧ iv = .int .i64 k) (fun _ iv => n - (intOf iv).toNat)
    case atStart => exact ⟨0, by omega, rfl, Lib.hid (by intro j hj; omega), rfl⟩
    case round =>
      obtain ⟨k, hk, rfl, HL, rfl⟩ := hrel
      by_cases hlt : k < n
      · obtain ⟨b1, o1, rfl, _, hck1⟩ := HA.out.cell' hlt
        by_cases hz : 1 ≤ zs.getD k 0 ∧ zs.getD k 0 ≤ 512
        · obtain ⟨Z, hZ⟩ : ∃ Z : Nat, zs.getD k 0 = (Z : Int) := ⟨(zs.getD k 0).toNat, by omega⟩
          rw [hZ] at hck1 hz
          have hlen := ru_le HL.out
          have hT : Hid (ruT f zs (k + 1) = ruT f zs k ++ repL (flC f k) Z) := Lib.hid (by show ruT f zs k ++ repL (flC f k) (zs.getD k 0).toNat = _; rw [hZ]; rfl)
          have hl1 : (ruT f zs (k + 1)).length = ruN zs k + Z := by rw [ruT_len]; show ruN zs k + (zs.getD k 0).toNat = _; rw [hZ]; rfl
          have hadd : ∀ w : World, (Op.stringOp .add (txB (ruT f zs k)) (txB (repL (flC f k) Z))).run Try.prog w = .ok (.string (txB (ruT f zs (k + 1)))) w := fun w => by
            rw [hT.out]
            exact run_tx Try.prog _ _ (by rw [ruT_len, repL_len]; omega) w
          have hpar : (((k : Int) % 2) == 0) = (k % 2 == 0) := by
            have e : (k : Int) % 2 = ((k % 2 : Nat) : Int) := by norm_cast
            rw [e]
            rcases Nat.mod_two_eq_zero_or_one k with h | h <;> rw [h] <;> rfl
          have hfl := flB_eq f k
          rw [← hpar] at hfl
          have H1 := Lib.hid hz
          have hck2 := hck1
          have hZ5 : Z ≤ 1048575 := by omega
          by_cases hs5 : ruN zs k + Z ≤ 512
          · have HN : Hid (∀ j, j < k + 1 → okB1 zs j) := Lib.hid (okB1_on HL.out ⟨by rw [hZ]; exact hz.1, by rw [hZ]; simpa using hs5⟩)
            have hd5 : decide (512 < ((txB (ruT f zs (k + 1))).size : Int)) = false := decide_eq_false (by rw [txB_size, hl1]; omega)
            have HU : Hid (txB (ruT f zs (k + 1)) = txB (ruT f zs (k + 1))) := Lib.hid rfl
            clear hpar hl1 hT hZ hz hlen hs5
            generalize hU : txB (ruT f zs (k + 1)) = U at hadd hd5
            replace HU := Lib.hid hU
            clear hU
            cases hq : (((k : Int) % 2) == 0) <;> cases f
            all_goals
              rw [hq] at hfl
              have hc : flC _ k = _ := congrArg (fun b : Bool => if b = true then (49 : UInt8) else 48) hfl
              replace hc := hc.trans (by first | exact (rfl : _ = (49 : UInt8)) | exact (rfl : _ = (48 : UInt8)))
              rw [hc] at hadd
              clear hc hfl
              go_wp2_with (first | (go_at_call 69; refine (in_true (Z : Int) 1 512 _ H1.out.1 H1.out.2).mono ?_; rintro e w' ⟨rfl, rfl⟩) | (go_at_call 70; (first | (with_reducible refine (same_spec 49 Z _ hZ5).mono ?_) | (with_reducible refine (same_spec 48 Z _ hZ5).mono ?_)); rintro e w' ⟨rfl, rfl⟩) | go_in)
              go_round
              case rel => exact ⟨k + 1, by omega, by rw [HU.out], HN, by go_num⟩
              case measure => simp [intOf]; omega
          · have HR := Lib.hid (brA_no (f := f) (okBR_no (zs := zs) hlt (fun e => hs5 (by have := e.2; rw [hZ] at this; simpa using this))))
            have hd5 : decide (512 < ((txB (ruT f zs (k + 1))).size : Int)) = true := decide_eq_true (by rw [txB_size, hl1]; omega)
            clear hpar hl1 hT hZ hz hlen hs5
            generalize txB (ruT f zs (k + 1)) = U at hadd hd5
            cases hq : (((k : Int) % 2) == 0) <;> cases f
            all_goals
              rw [hq] at hfl
              have hc : flC _ k = _ := congrArg (fun b : Bool => if b = true then (49 : UInt8) else 48) hfl
              replace hc := hc.trans (by first | exact (rfl : _ = (49 : UInt8)) | exact (rfl : _ = (48 : UInt8)))
              rw [hc] at hadd
              clear hc hfl
              go_wp2_with (first | (go_at_call 69; refine (in_true (Z : Int) 1 512 _ H1.out.1 H1.out.2).mono ?_; rintro e w' ⟨rfl, rfl⟩) | (go_at_call 70; (first | (with_reducible refine (same_spec 49 Z _ hZ5).mono ?_) | (with_reducible refine (same_spec 48 Z _ hZ5).mono ?_)); rintro e w' ⟨rfl, rfl⟩) | go_in)
              go_ret2
              exact ⟨by rw [HR.out]; rfl, rfl⟩
        · have HR := Lib.hid (brA_no (f := f) (okBR_no (zs := zs) hlt (fun e => hz ⟨e.1, by have := e.2; omega⟩)))
          have H1 := Lib.hid hz
          clear hz
          generalize zs.getD k 0 = c at hck1 H1
          go_wp2_with (first | (go_at_call 69; refine (in_false c 1 512 _ H1.out).mono ?_; rintro e w' ⟨rfl, rfl⟩) | go_in)
          go_ret2
          exact ⟨by rw [HR.out]; rfl, rfl⟩
      · obtain rfl : k = n := by omega
        have HR := Lib.hid (brA_yes (f := f) HL.out)
        go_wp2
        go_ret2
        exact ⟨by rw [HR.out]; rfl, rfl⟩
  · have HR := Lib.hid (brA_no (f := f) (okBR_long (zs := zs) (show 512 < n by omega)))
    rw [HR.out]
    have hd : decide ((n : Int) ≤ 512) = false := decide_eq_false (by omega)
    have hd2 : decide (0 < (n : Int)) = true := decide_eq_true (by omega)
    go_enter Try.func32, Try.ntmps32
    go_wp2
    refine wp_loop_rounds 1 ?_
    rw [rounds_succ]
    go_wp2
    go_ret2
    exact ⟨rfl, rfl⟩
set_option maxRecDepth 100000 in
set_option maxHeartbeats 4000000 in
theorem br_impl (f : Bool) (a : Option Addr) (n cap : Nat) (zs : List Int) (w : World) (h : IRow w a n zs) (hn : n ≤ 1048576) :
    Calls Try.prog 33 #[.bool f, .slice a n cap] w fun e w' => e = .returned (brA f zs n) ∧ Below w.heap.size w w' := by
  have HA := Lib.hid h
  have HF := Lib.hid (Bld.fresh 79 5 w)
  clear h
  go_enter Try.func33, Try.ntmps33
  go_wp2
  go_loopw [12, 0] (fun iv fv wr0 => ∃ (k : Nat) (wr : World), k ≤ n ∧ iv = .int .i64 k ∧ fv = .bool (flB f k) ∧ wr0 = wr ∧ Hid (∀ j, j < k → okB1 zs j) ∧ Hid (Bld 79 5 w.heap.size (ruT f zs k) wr) ∧ Hid (Below w.heap.size w wr)) (fun iv _ _ => n - (intOf iv).toNat)
  case atStart => exact ⟨0, _, by omega, rfl, rfl, rfl, Lib.hid (by intro j hj; omega), HF, Lib.hid (below_alloc _ _)⟩
  case round =>
    obtain ⟨k, wr, hk, rfl, rfl, rfl, HL, HB, HW⟩ := hrel
    by_cases hlt : k < n
    · obtain ⟨b1, o1, rfl, _, hck1⟩ := (HA.out.below HW.out).cell' hlt
      by_cases hz : 1 ≤ zs.getD k 0
      · obtain ⟨Z, hZ⟩ : ∃ Z : Nat, zs.getD k 0 = (Z : Int) := ⟨(zs.getD k 0).toNat, by omega⟩
        rw [hZ] at hck1 hz
        have hlen := ru_le HL.out
        have hd1 : decide ((Z : Int) < 1) = false := decide_eq_false (by omega)
        have hw1 : IntKind.i64.wrap (512 - (ruN zs k : Int)) = 512 - (ruN zs k : Int) := IntWalk.i64_in _ (by omega)
        have HLEN := Lib.hid (ruT_len f zs k)
        have HT : Hid (ruT f zs (k + 1) = ruT f zs k ++ repL (flC f k) Z) := Lib.hid (by show ruT f zs k ++ repL (flC f k) (zs.getD k 0).toNat = _; rw [hZ]; rfl)
        have HFL : Hid (flB f (k + 1) = !(flB f k)) := Lib.hid rfl
        by_cases hs5 : ruN zs k + Z ≤ 512
        · have HN : Hid (∀ j, j < k + 1 → okB1 zs j) := Lib.hid (okB1_on HL.out ⟨by rw [hZ]; exact hz, by rw [hZ]; simpa using hs5⟩)
          have hd2 : decide (512 - (ruN zs k : Int) < (Z : Int)) = false := decide_eq_false (by omega)
          have hZ5 : Z ≤ 512 := by omega
          have HSZ : Hid ((ruT f zs k).length + (repL (flC f k) Z).length ≤ 1048576) := Lib.hid (by rw [ruT_len, repL_len]; omega)
          clear hs5 hZ hz
          generalize ruN zs k = L at hw1 HLEN hd2 hlen
          have hc : flC f k = if flB f k = true then 49 else 48 := rfl
          rw [hc] at HT HSZ
          clear hc
          generalize hq : flB f k = q at HT HSZ HFL
          clear hq
          cases q
          all_goals
            replace HT := Lib.hid (HT.out.trans (by first | exact (rfl : _ = ruT f zs k ++ repL 49 Z) | exact (rfl : _ = ruT f zs k ++ repL 48 Z)))
            go_wp2_with (first | (go_at_call 71; refine (bld_len _ L _ _ HB.out HLEN.out).mono ?_; rintro e w' ⟨rfl, rfl⟩) | (go_at_call 68; (first | (with_reducible refine (rep1 49 Z _ (by omega)).mono ?_) | (with_reducible refine (rep1 48 Z _ (by omega)).mono ?_)); rintro e w2 ⟨rfl, hb⟩; have HB2 := Lib.hid (HB.out.below hb); have HW2 := Lib.hid (Below.next HW.out hb); clear hb) | (go_at_call 72; refine (bld_write _ _ _ _ HB2.out HSZ.out).mono ?_; rintro e w3 ⟨v, rfl, hb3, hb⟩; have HB3 := Lib.hid hb3; have HW3 := Lib.hid (HW2.out.trans hb); clear hb hb3) | go_in)
            exact ⟨⟨k + 1, _, by omega, by first | rfl | go_num | (congr 1), by rw [HFL.out]; rfl, rfl, HN, Lib.hid (by rw [HT.out]; exact HB3.out), HW3⟩, by show n - ((k : Int) + 1).toNat < n - (k : Int).toNat; omega⟩
        · have HR := Lib.hid (brA_no (f := f) (okBR_no (zs := zs) hlt (fun e => hs5 (by have := e.2; rw [hZ] at this; simpa using this))))
          have hd2 : decide (512 - (ruN zs k : Int) < (Z : Int)) = true := decide_eq_true (by omega)
          clear hs5 hZ hz
          generalize ruN zs k = L at hw1 HLEN hd2 hlen
          go_wp2_with (first | (go_at_call 71; refine (bld_len _ L _ _ HB.out HLEN.out).mono ?_; rintro e w' ⟨rfl, rfl⟩) | go_in)
          go_ret2
          exact ⟨by rw [HR.out]; rfl, HW.out⟩
      · have HR := Lib.hid (brA_no (f := f) (okBR_no (zs := zs) hlt (fun e => hz e.1)))
        have hd1 : decide (zs.getD k 0 < 1) = true := decide_eq_true (by omega)
        clear hz
        generalize zs.getD k 0 = c at hck1 hd1
        go_wp2
        go_ret2
        exact ⟨by rw [HR.out]; rfl, HW.out⟩
    · obtain rfl : k = n := by omega
      have HR := Lib.hid (brA_yes (f := f) HL.out)
      go_wp2_with (first | (go_at_call 73; refine (bld_string _ _ _ HB.out).mono ?_; rintro e w2 ⟨rfl, hb⟩; have HW2 := Lib.hid (HW.out.trans hb); clear hb) | go_in)
      go_ret2
      exact ⟨by rw [HR.out]; rfl, HW2.out⟩
end Go.Proofs.Ytaalddkpldbdkaa
