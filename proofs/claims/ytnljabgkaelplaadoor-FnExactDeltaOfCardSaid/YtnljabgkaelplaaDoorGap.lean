
/- The library's FormatInt in base 2. -/
import Derived.Test.YtnljabgkaelplaaDoorDra
import Derived.Test.YtnljabgkaelplaaDoorDig
import Derived.Test.YtnljabgkaelplaaDoorUnw
set_option linter.unusedVariables false
set_option linter.unusedSimpArgs false
namespace Go.Proofs.YtnljabgkaelplaaDoor
open Go.Proofs.YtnljabgkaelplaaDoor.Flo Go.RowKit Go.Shelf Go.Proofs.YtnljabgkaelplaaDoor.Pr
attribute [local go_sem] Oper.semAt_some

/-- A block with n bytes in it, that may be written. -/
def Gbp (W : World) (g n : Nat) (f : Nat → UInt8) : Prop := g < W.heap.size ∧ ∀ i, i < n → W.cell? ⟨g, i, none⟩ = some (.int .u8 ((f i).toNat : Int)) ∧ W.frozen? ⟨g, i, none⟩ = false
theorem Gbp.set {W : World} {g n j : Nat} {f : Nat → UInt8} (h : Gbp W g n f) (v : UInt8) : Gbp (W.setCell ⟨g, j, none⟩ (.int .u8 (v.toNat : Int))) g n (fun i => if i = j then v else f i) := by
  refine ⟨by simpa [World.setCell] using h.1, fun i hi => ⟨?_, by rw [World.frozen?_setCell]; exact (h.2 i hi).2⟩⟩
  show _ = some (Value.int .u8 (((if i = j then v else f i)).toNat : Int))
  by_cases e : i = j
  · subst e
    rw [World.cell?_setCell_same (h := (h.2 i hi).1), if_pos rfl]
  · rw [World.cell?_setCell_other (h := fun e2 => e (by injection e2 with _ e3 _; exact e3.symm)), if_neg e]; exact (h.2 i hi).1
theorem Gbp.congr {W : World} {g n : Nat} {f f2 : Nat → UInt8} (h : Gbp W g n f) (e : ∀ i, i < n → f i = f2 i) : Gbp W g n f2 := ⟨h.1, fun i hi => by rw [← e i hi]; exact h.2 i hi⟩
/-- K digits: the number lies between two powers of two. -/
def Siz (n K : Nat) : Prop := 1 ≤ K ∧ 2 ^ (K - 1) ≤ n ∧ n < 2 ^ K
theorem siz_ex {n : Nat} (h : 1 ≤ n) : ∃ K, Siz n K := by
  refine ⟨n.log2 + 1, by omega, ?_, Nat.lt_log2_self⟩
  exact Nat.log2_self_le (by omega)
theorem siz_le {n K : Nat} (h : Siz n K) (hn : n ≤ 1000000) : K ≤ 20 := by
  obtain ⟨_, h2, _⟩ := h
  apply Nat.le_of_not_lt
  intro h3
  have : 2 ^ 20 ≤ 2 ^ (K - 1) := Nat.pow_le_pow_right (by decide) (by omega)
  omega
theorem siz_div {n K j : Nat} (h : Siz n K) : (2 ≤ n / 2 ^ j ↔ j + 1 < K) ∧ (j + 1 = K → n / 2 ^ j = 1) ∧ (0 < n / 2 ^ j ↔ j < K) := by
  obtain ⟨h1, h2, h3⟩ := h
  refine ⟨⟨fun q => ?_, fun q => ?_⟩, fun e => ?_, ⟨fun q => ?_, fun q => ?_⟩⟩
  · apply Nat.lt_of_not_le
    intro hle
    have h4 : 2 ^ K ≤ 2 ^ (j + 1) := Nat.pow_le_pow_right (by decide) hle
    have h5 := Nat.le_div_iff_mul_le (Nat.two_pow_pos j) |>.1 q
    rw [Nat.pow_succ] at h4
    omega
  · rw [Nat.le_div_iff_mul_le (Nat.two_pow_pos j)]
    have h4 : 2 ^ (j + 1) ≤ 2 ^ (K - 1) := Nat.pow_le_pow_right (by decide) (by omega)
    rw [Nat.pow_succ] at h4
    omega
  · subst e
    have h4 := Nat.div_lt_of_lt_mul (show n < 2 ^ j * 2 by rw [← Nat.pow_succ]; exact h3)
    have h5 : 1 ≤ n / 2 ^ j := (Nat.le_div_iff_mul_le (Nat.two_pow_pos j)).2 (by simpa using h2)
    omega
  · apply Nat.lt_of_not_le
    intro hle
    have h4 : 2 ^ K ≤ 2 ^ j := Nat.pow_le_pow_right (by decide) hle
    have h5 := (Nat.le_div_iff_mul_le (Nat.two_pow_pos j)).1 (show 1 ≤ n / 2 ^ j by omega)
    omega
  · have h4 : 2 ^ j ≤ 2 ^ (K - 1) := Nat.pow_le_pow_right (by decide) (by omega)
    exact (Nat.le_div_iff_mul_le (Nat.two_pow_pos j)).2 (by omega)
/-- The digit at the place 2^t. -/
def dgt (n t : Nat) : UInt8 := if n / 2 ^ t % 2 = 1 then 49 else 48
theorem digL_get (n : Nat) : ∀ K j, j < K → (digL n K).getD j 0 = dgt n (K - 1 - j)
  | K + 1, 0, _ => by unfold digL dgt; rw [List.getD_cons_zero]; rfl
  | K + 1, j + 1, h => by
    unfold digL
    rw [List.getD_cons_succ, digL_get n K j (by omega)]
    congr 1
    omega
/-- The array behind j digits: from the end. -/
def gF (n j : Nat) : Nat → UInt8 := fun i => if 65 - j ≤ i ∧ i < 65 then dgt n (64 - i) else 0
theorem gF_set {n j i : Nat} (hj : j < 65) (hi : i < 65) : (if i = 64 - j then dgt n j else gF n j i) = gF n (j + 1) i := by
  unfold gF
  by_cases e : i = 64 - j
  · rw [if_pos e, if_pos (by omega)]; congr 1; omega
  · rw [if_neg e]
    by_cases h : 65 - j ≤ i ∧ i < 65
    · rw [if_pos h, if_pos (by omega)]
    · rw [if_neg h, if_neg (by omega)]
theorem made_eqG (n : Nat) : madeCells #[Value.int .u8 0] n = Array.replicate n (Value.int .u8 0) := by
  apply Array.ext
  · simp [madeCells]
  · intro i h1 h2
    simp [madeCells, Nat.mod_one]
theorem ag_one (q : Nat) (h : q ≤ 1000000) : bits .and .u64 (q : Int) 1 = ((q % 2 : Nat) : Int) := by
  have := bits_and_u64_nat q 1 (by omega) (by decide)
  rw [Nat.and_one_is_mod] at this
  exact this
theorem dg_zero36 (h : 0 < ({ data := #[48, 49, 50, 51, 52, 53, 54, 55, 56, 57, 97, 98, 99, 100, 101, 102, 103, 104, 105, 106, 107, 108, 109, 110, 111, 112, 113, 114, 115, 116, 117, 118, 119, 120, 121, 122] } : ByteArray).size) : ({ data := #[48, 49, 50, 51, 52, 53, 54, 55, 56, 57, 97, 98, 99, 100, 101, 102, 103, 104, 105, 106, 107, 108, 109, 110, 111, 112, 113, 114, 115, 116, 117, 118, 119, 120, 121, 122] } : ByteArray)[0]'h = 48 := rfl
theorem dg_one36 (h : 1 < ({ data := #[48, 49, 50, 51, 52, 53, 54, 55, 56, 57, 97, 98, 99, 100, 101, 102, 103, 104, 105, 106, 107, 108, 109, 110, 111, 112, 113, 114, 115, 116, 117, 118, 119, 120, 121, 122] } : ByteArray).size) : ({ data := #[48, 49, 50, 51, 52, 53, 54, 55, 56, 57, 97, 98, 99, 100, 101, 102, 103, 104, 105, 106, 107, 108, 109, 110, 111, 112, 113, 114, 115, 116, 117, 118, 119, 120, 121, 122] } : ByteArray)[1]'h = 49 := rfl
theorem alG : Tryd.prog.arrayLen 131 = 65 := by kernel_rfl
theorem elG : Tryd.prog.elem 131 = 5 := by kernel_rfl
theorem slG (g i0 K : Nat) (hi : i0 + K = 65) (hK : 1 ≤ K) (W : World) : (Instr.sliceAt 131 (.pointer (some ⟨g, 0, none⟩)) (some (.int .i64 (i0 : Int))) none none).run Tryd.prog W = .ok (.slice (some ⟨g, i0, none⟩) K K) W := by
  have h1 : (i0 : Int) ≤ Tryd.prog.arrayLen 131 := by rw [alG]; omega
  rw [run_sliceAt_array_l W 131 ⟨g, 0, none⟩ (by kernel_rfl) .i64 (i0 : Int) (by omega) h1, elG, Tryd.sizeOf5]
  simp only [Result.andThen, slicedAt, alG, Int.toNat_natCast]
  rw [if_neg (by omega)]
  have e1 : (⟨g, 0, none⟩ : Addr).add (i0 * 1) = ⟨g, i0, none⟩ := by rw [Nat.mul_one]; unfold Addr.add; split <;> simp_all
  rw [e1, show 65 - i0 = K by omega]
theorem zcG : Tryd.zeroCells131 = Array.replicate 65 (Value.int .u8 0) := by kernel_rfl
theorem gbp_new (w : World) (n : Nat) (T : TypeId) : Gbp (w.alloc (.cells Tryd.zeroCells131 T)) w.heap.size 65 (gF n 0) := by
  refine ⟨by simp, fun i hi => ⟨?_, World.frozen?_alloc_at _ _ _ _ rfl⟩⟩
  rw [World.cell?_alloc_at _ _ _ _ rfl, zcG]
  have e : gF n 0 i = 0 := by unfold gF; rw [if_neg (by omega)]
  rw [e]
  simp [hi]
theorem ip2_impl (w : World) : Calls Tryd.prog 123 #[.int .i64 2] w fun e w' => e = .returned (.bool true) ∧ w = w' := by
  have hb : bits .and .i64 2 1 = 0 := by decide
  go_enter Tryd.func123, Tryd.ntmps123
  go_wp2
  go_ret
  exact ⟨rfl, rfl⟩
theorem tz2_impl (w0 w : World) (hp : Db w0) (hb : Below w0.heap.size w0 w) : Calls Tryd.prog 124 #[.int .u64 2] w fun e w' => e = .returned (.int .i64 1) ∧ w = w' := by
  have HT := Lib.hid (tz_lib 2 (by decide) (by decide) w0 w hp hb)
  rw [show (Lib.ctz 64 2 : Nat) = 1 by decide] at HT
  clear hb
  go_enter Tryd.func124, Tryd.ntmps124
  go_wp2_with (first | (go_at_call 72; refine HT.out.mono ?_; rintro e w' ⟨rfl, hw⟩; subst hw) | fail)
  go_ret
  exact ⟨rfl, rfl⟩
set_option maxRecDepth 100000 in
set_option maxHeartbeats 8000000 in
theorem fmb_impl (n K : Nat) (w0 w : World) (hp : Db w0) (hb : Below w0.heap.size w0 w) (hs : Siz n K) (hn : n ≤ 1000000) :
    Calls Tryd.prog 108 #[.slice none 0 0, .int .u64 (n : Int), .int .i64 2, .bool false, .bool false] w fun e w' => e = .returned (.tuple #[.slice none 0 0, .string (txB (digL n K))]) ∧ Below w.heap.size w w' := by
  have hK := siz_le hs hn
  have HSD := Lib.hid (fun j => siz_div (j := j) hs)
  have hK1 := hs.1
  have HTZ := Lib.hid (fun (w3 : World) (h3 : Below w.heap.size w w3) => tz2_impl w0 w3 hp (hb.trans (h3.mono hb.size)))
  have HB0 := Lib.hid (below_alloc w (.cells Tryd.zeroCells131 131))
  have HG0 := Lib.hid (gbp_new w n 131)
  clear hb hs
  go_enter Tryd.func108, Tryd.ntmps108
  go_wp2_with (first | (go_at_call 123; (with_reducible refine (ip2_impl _).mono ?_); rintro e w' ⟨rfl, hw⟩; subst hw) | (go_at_call 124; (with_reducible refine (HTZ.out _ HB0.out).mono ?_); rintro e w' ⟨rfl, hw⟩; subst hw) | fail)
  go_loopw [1, 13] (fun uv iv w' => ∃ (j : Nat) (wr : World), j + 1 ≤ K ∧ uv = .int .u64 ((n / 2 ^ j : Nat) : Int) ∧ iv = .int .i64 ((65 - j : Nat) : Int) ∧ wr = w' ∧ Hid (Gbp wr w.heap.size 65 (gF n j)) ∧ Hid (Below w.heap.size w wr)) (fun uv _ _ => (intOf uv).toNat)
  case atStart => exact ⟨0, _, by omega, by rw [Nat.pow_zero, Nat.div_one], rfl, rfl, HG0, HB0⟩
  case round =>
    obtain ⟨j, wr, hj, rfl, rfl, rfl, HG, HW⟩ := hrel
    obtain ⟨hd1, hd2, _⟩ := HSD.out j
    have hqn : n / 2 ^ j ≤ 1000000 := Nat.le_trans (Nat.div_le_self _ _) hn
    have HD : Hid (dgt n j = if n / 2 ^ j % 2 = 1 then 49 else 48) := Lib.hid rfl
    have HQ : Hid (n / 2 ^ j / 2 = n / 2 ^ (j + 1)) := Lib.hid (by rw [Nat.div_div_eq_div_mul, ← Nat.pow_succ])
    have hi65 : 65 - j = (64 - j) + 1 := by omega
    have hj64 : 64 - j < 65 := by omega
    obtain ⟨hcg, hfg⟩ := HG.out.2 (64 - j) hj64
    have HSET := Lib.hid (fun (i : Nat) (hi : i < 65) => gF_set (n := n) (show j < 65 by omega) hi)
    have HJ1 : Hid (65 - (j + 1) = 64 - j) := Lib.hid (by omega)
    rw [hi65]
    generalize n / 2 ^ j = q at hd1 hd2 hqn HD HQ ⊢
    obtain ⟨i0, hi0⟩ : ∃ i0, 64 - j = i0 := ⟨_, rfl⟩
    rw [hi0] at hj64 hcg hfg HSET HJ1 ⊢
    have HI0 := Lib.hid hi0
    have hsub : ((i0 + 1 : Nat) : Int) - 1 = (i0 : Int) := by omega
    clear hi65 hi0
    by_cases hlt : j + 1 < K
    · have hq2 := hd1.2 hlt
      have hdq : decide ((2 : Int) ≤ (q : Int)) = true := decide_eq_true (by omega)
      have hdq2 : decide (2 ≤ q) = true := decide_eq_true hq2
      have hand := ag_one q hqn
      have hsh : (q : Int).fdiv (2 ^ min (Int.toNat 1) IntKind.u64.bits) = ((q / 2 : Nat) : Int) := by
        rw [show (2 : Int) ^ min (Int.toNat 1) IntKind.u64.bits = 2 by decide, Int.fdiv_eq_ediv_of_nonneg _ (by decide)]; omega
      clear hd1 hd2
      rcases Nat.mod_two_eq_zero_or_one q with h0 | h0
      · rw [h0] at hand
        rw [h0, if_neg (by decide)] at HD
        clear h0
        go_wp2_with (simp only [dg_zero36])
        have hset := HG.out.set (j := i0) (48 : UInt8)
        exact ⟨⟨j + 1, _, by omega, by rw [← HQ.out]; first | rfl | (congr 1; omega) | simp, by rw [HJ1.out], rfl, Lib.hid (hset.congr (fun i hi => by rw [← HD.out]; exact HSET.out i hi)), Lib.hid (HW.out.setCell (p := ⟨w.heap.size, i0, none⟩) (Nat.le_refl _) _)⟩, by simp [intOf]; omega⟩
      · rw [h0] at hand
        rw [h0, if_pos rfl] at HD
        clear h0
        go_wp2_with (simp only [dg_one36])
        have hset := HG.out.set (j := i0) (49 : UInt8)
        exact ⟨⟨j + 1, _, by omega, by rw [← HQ.out]; first | rfl | (congr 1; omega) | simp, by rw [HJ1.out], rfl, Lib.hid (hset.congr (fun i hi => by rw [← HD.out]; exact HSET.out i hi)), Lib.hid (HW.out.setCell (p := ⟨w.heap.size, i0, none⟩) (Nat.le_refl _) _)⟩, by simp [intOf]; omega⟩
    · have hq1 := hd2 (by omega)
      subst hq1
      clear hd1 hd2 HQ
      have hset := HG.out.set (j := i0) (49 : UInt8)
      have hset2 : Gbp (wr.setCell ⟨w.heap.size, i0, none⟩ (.int .u8 49)) w.heap.size 65 (gF n (j + 1)) := hset.congr (fun i hi => by rw [← HSET.out i hi, HD.out]; rfl)
      have hKj : K = j + 1 := by omega
      have hiK : i0 + K = 65 := by have := HI0.out; omega
      have hsl := fun W => slG w.heap.size i0 K hiK hK1 W
      have hBW : Below w.heap.size w (wr.setCell ⟨w.heap.size, i0, none⟩ (.int .u8 49)) := HW.out.setCell (p := ⟨w.heap.size, i0, none⟩) (Nat.le_refl _) _
      have htx := text_cells (wr.setCell ⟨w.heap.size, i0, none⟩ (.int .u8 49)) 90 9 5 w.heap.size i0 K K (digL n K) Tryd.underlying90 Tryd.underlying5 Tryd.underlying9 (digL_len n K) (fun t ht => by
        have h1 := (hset2.2 (i0 + t) (by omega)).1
        rw [h1, digL_get n K t ht]
        unfold gF
        rw [if_pos (by omega), show 64 - (i0 + t) = K - 1 - t by omega])
      have HBW := Lib.hid hBW
      clear hset hset2 hBW HG HSET HD hKj
      go_wp2_with (simp only [dg_one36])
      go_ret2
      exact ⟨rfl, HBW.out⟩
end Go.Proofs.YtnljabgkaelplaaDoor
