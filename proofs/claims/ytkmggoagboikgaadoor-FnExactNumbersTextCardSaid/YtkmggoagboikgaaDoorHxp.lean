
/- Numbers in base 16; the library's FormatInt in base 16. -/
import Derived.Test.YtkmggoagboikgaaDoorDge
import Derived.Test.YtkmggoagboikgaaDoorStx
import Derived.Test.YtkmggoagboikgaaDoorByt
set_option linter.unusedVariables false
set_option linter.unusedSimpArgs false
namespace Go.Proofs.YtkmggoagboikgaaDoor
open Go.Proofs.YtkmggoagboikgaaDoor.Flo Go.RowKit Go.Shelf Go.Proofs.YtkmggoagboikgaaDoor.Pr
attribute [local go_sem] Oper.semAt_some

/-- A block with n bytes in it, that may be written. -/
def Gbp (W : World) (g n : Nat) (f : Nat → UInt8) : Prop := g < W.heap.size ∧ ∀ i, i < n → W.cell? ⟨g, i, none⟩ = some (.int .u8 ((f i).toNat : Int)) ∧ W.frozen? ⟨g, i, none⟩ = false
theorem Gbp.set {W : World} {g n j : Nat} {f : Nat → UInt8} (h : Gbp W g n f) (v : UInt8) : Gbp (W.setCell ⟨g, j, none⟩ (.int .u8 (v.toNat : Int))) g n (fun i => if i = j then v else f i) := by
  refine ⟨by simpa [World.setCell] using h.1, fun i hi => ⟨?_, by rw [World.frozen?_setCell]; exact (h.2 i hi).2⟩⟩
  show _ = some (Value.int .u8 (((if i = j then v else f i)).toNat : Int))
  by_cases e : i = j
  · subst e
    rw [World.cell?_setCell_same (h := (h.2 i hi).1), if_pos rfl]
  · rw [World.cell?_setCell_other (h := fun e2 => e (by injection e2 with _ e3 _; exact e3.symm)), if_neg e]; exact (h.2 i hi).1
theorem Gbp.congr {W : World} {g n : Nat} {f f2 : Nat → UInt8} (h : Gbp W g n f) (e : ∀ i, i < n → f i = f2 i) : Gbp W g n f2 := ⟨h.1, fun i hi => by rw [← e i hi]; exact h.2 i hi⟩
theorem made_eqG (n : Nat) : madeCells #[Value.int .u8 0] n = Array.replicate n (Value.int .u8 0) := by
  apply Array.ext
  · simp [madeCells]
  · intro i h1 h2
    simp [madeCells, Nat.mod_one]
/-- K digits: none less are enough, but at least one. -/
def Siz16 (n K : Nat) : Prop := 1 ≤ K ∧ (1 < K → 16 ^ (K - 1) ≤ n) ∧ n < 16 ^ K
theorem siz16_ex (n : Nat) : ∀ b, n < 16 ^ b → 1 ≤ b → ∃ K, Siz16 n K ∧ K ≤ b
  | 0, _, h => absurd h (by decide)
  | b + 1, h, _ => by
    by_cases h1 : 1 ≤ b ∧ n < 16 ^ b
    · obtain ⟨K, hK, hb⟩ := siz16_ex n b h1.2 h1.1
      exact ⟨K, hK, by omega⟩
    · refine ⟨b + 1, ⟨by omega, fun h2 => ?_, h⟩, Nat.le_refl _⟩
      rw [Nat.add_sub_cancel]
      apply Nat.le_of_not_lt
      intro h3
      exact h1 ⟨by omega, h3⟩
theorem siz16_div {n K j : Nat} (h : Siz16 n K) : (16 ≤ n / 16 ^ j ↔ j + 1 < K) := by
  obtain ⟨h1, h2, h3⟩ := h
  refine ⟨fun q => ?_, fun q => ?_⟩
  · apply Nat.lt_of_not_le
    intro hle
    have h4 : 16 ^ K ≤ 16 ^ (j + 1) := Nat.pow_le_pow_right (by decide) hle
    have h5 := Nat.le_div_iff_mul_le (Nat.pow_pos (n := j) (show 0 < 16 by decide)) |>.1 q
    rw [Nat.pow_succ] at h4
    omega
  · rw [Nat.le_div_iff_mul_le (Nat.pow_pos (n := j) (show 0 < 16 by decide))]
    have h4 : 16 ^ (j + 1) ≤ 16 ^ (K - 1) := Nat.pow_le_pow_right (by decide) (by omega)
    have h5 := h2 (by omega)
    rw [Nat.pow_succ] at h4
    omega
/-- A digit as a letter. -/
def hd (d : Nat) : UInt8 := if d < 10 then UInt8.ofNat (48 + d) else UInt8.ofNat (87 + d)
def hdg (n t : Nat) : UInt8 := hd (n / 16 ^ t % 16)
/-- The last K digits. -/
def hxL (n : Nat) : Nat → List UInt8
  | 0 => []
  | k + 1 => hdg n k :: hxL n k
theorem hxL_len (n : Nat) : ∀ K, (hxL n K).length = K
  | 0 => rfl
  | k + 1 => by show (_ :: hxL n k).length = _; rw [List.length_cons, hxL_len n k]
theorem hxL_get (n : Nat) : ∀ K j, j < K → (hxL n K).getD j 0 = hdg n (K - 1 - j)
  | K + 1, 0, _ => by show (hdg n K :: _).getD 0 0 = _; rw [List.getD_cons_zero]; rfl
  | K + 1, j + 1, h => by
    show (hdg n K :: hxL n K).getD (j + 1) 0 = _
    rw [List.getD_cons_succ, hxL_get n K j (by omega)]
    congr 1
    omega
theorem hxL_pad {n K : Nat} (h : n < 16 ^ K) : ∀ m, repL 48 m ++ hxL n K = hxL n (K + m)
  | 0 => rfl
  | m + 1 => by
    have ih := hxL_pad h m
    have h1 : n / 16 ^ (K + m) = 0 := Nat.div_eq_of_lt (Nat.lt_of_lt_of_le h (Nat.pow_le_pow_right (by decide) (by omega)))
    have e : hxL n (K + (m + 1)) = hdg n (K + m) :: hxL n (K + m) := rfl
    rw [e, ← ih]
    unfold hdg
    rw [h1]
    rfl
/-- The array behind j digits: from the end. -/
def hF (n j : Nat) : Nat → UInt8 := fun i => if 65 - j ≤ i ∧ i < 65 then hdg n (64 - i) else 0
theorem hF_set {n j i : Nat} (hj : j < 65) (hi : i < 65) : (if i = 64 - j then hdg n j else hF n j i) = hF n (j + 1) i := by
  unfold hF
  by_cases e : i = 64 - j
  · rw [if_pos e, if_pos (by omega)]; congr 1; omega
  · rw [if_neg e]
    by_cases h : 65 - j ≤ i ∧ i < 65
    · rw [if_pos h, if_pos (by omega)]
    · rw [if_neg h, if_neg (by omega)]
theorem and_15 (q : Nat) (h : q < 18446744073709551616) : bits .and .u64 (q : Int) 15 = ((q % 16 : Nat) : Int) := by
  have := bits_and_u64_nat q 15 h (by decide)
  rw [show (15 : Nat) = 2 ^ 4 - 1 from rfl, Nat.and_two_pow_sub_one_eq_mod] at this
  exact this
theorem dg_hd (d : Nat) (h : d < ({ data := #[48, 49, 50, 51, 52, 53, 54, 55, 56, 57, 97, 98, 99, 100, 101, 102, 103, 104, 105, 106, 107, 108, 109, 110, 111, 112, 113, 114, 115, 116, 117, 118, 119, 120, 121, 122] } : ByteArray).size) (h2 : d < 16) : ({ data := #[48, 49, 50, 51, 52, 53, 54, 55, 56, 57, 97, 98, 99, 100, 101, 102, 103, 104, 105, 106, 107, 108, 109, 110, 111, 112, 113, 114, 115, 116, 117, 118, 119, 120, 121, 122] } : ByteArray)[d]'h = hd d := by
  have : ∀ e : Fin 16, ({ data := #[48, 49, 50, 51, 52, 53, 54, 55, 56, 57, 97, 98, 99, 100, 101, 102, 103, 104, 105, 106, 107, 108, 109, 110, 111, 112, 113, 114, 115, 116, 117, 118, 119, 120, 121, 122] } : ByteArray)[e.val]'(Nat.lt_of_lt_of_le e.isLt (by decide)) = hd e.val := by decide
  exact this ⟨d, h2⟩
theorem dg_hd16 (d : Nat) (h : d < ({ data := #[48, 49, 50, 51, 52, 53, 54, 55, 56, 57, 97, 98, 99, 100, 101, 102] } : ByteArray).size) : ({ data := #[48, 49, 50, 51, 52, 53, 54, 55, 56, 57, 97, 98, 99, 100, 101, 102] } : ByteArray)[d]'h = hd d := by
  have : ∀ e : Fin 16, ({ data := #[48, 49, 50, 51, 52, 53, 54, 55, 56, 57, 97, 98, 99, 100, 101, 102] } : ByteArray)[e.val]'(Nat.lt_of_lt_of_le e.isLt (by decide)) = hd e.val := by decide
  exact this ⟨d, h⟩
theorem siz36 : ({ data := #[48, 49, 50, 51, 52, 53, 54, 55, 56, 57, 97, 98, 99, 100, 101, 102, 103, 104, 105, 106, 107, 108, 109, 110, 111, 112, 113, 114, 115, 116, 117, 118, 119, 120, 121, 122] } : ByteArray).size = 36 := rfl
theorem alG : Tryd.prog.arrayLen 90 = 65 := by kernel_rfl
theorem elG : Tryd.prog.elem 90 = 5 := by kernel_rfl
theorem slG (g i0 K : Nat) (hi : i0 + K = 65) (hK : 1 ≤ K) (W : World) : (Instr.sliceAt 90 (.pointer (some ⟨g, 0, none⟩)) (some (.int .i64 (i0 : Int))) none none).run Tryd.prog W = .ok (.slice (some ⟨g, i0, none⟩) K K) W := by
  have h1 : (i0 : Int) ≤ Tryd.prog.arrayLen 90 := by rw [alG]; omega
  rw [run_sliceAt_array_l W 90 ⟨g, 0, none⟩ (by kernel_rfl) .i64 (i0 : Int) (by omega) h1, elG, Tryd.sizeOf5]
  simp only [Result.andThen, slicedAt, alG, Int.toNat_natCast]
  rw [if_neg (by omega)]
  have e1 : (⟨g, 0, none⟩ : Addr).add (i0 * 1) = ⟨g, i0, none⟩ := by rw [Nat.mul_one]; unfold Addr.add; split <;> simp_all
  rw [e1, show 65 - i0 = K by omega]
theorem zcH : Tryd.zeroCells90 = Array.replicate 65 (Value.int .u8 0) := by kernel_rfl
theorem hbp_new (w : World) (n : Nat) (T : TypeId) : Gbp (w.alloc (.cells Tryd.zeroCells90 T)) w.heap.size 65 (hF n 0) := by
  refine ⟨by simp, fun i hi => ⟨?_, World.frozen?_alloc_at _ _ _ _ rfl⟩⟩
  rw [World.cell?_alloc_at _ _ _ _ rfl, zcH]
  have e : hF n 0 i = 0 := by unfold hF; rw [if_neg (by omega)]
  rw [e]
  simp [hi]
theorem ip16_impl (w : World) : Calls Tryd.prog 60 #[.int .i64 16] w fun e w' => e = .returned (.bool true) ∧ w = w' := by
  have hb : bits .and .i64 16 15 = 0 := by decide
  go_enter Tryd.func60, Tryd.ntmps60
  go_wp2
  go_ret
  exact ⟨rfl, rfl⟩
theorem tz16_impl (w0 w : World) (hp : Db w0) (hb : Below w0.heap.size w0 w) : Calls Tryd.prog 61 #[.int .u64 16] w fun e w' => e = .returned (.int .i64 4) ∧ w = w' := by
  have HT := Lib.hid (tz_lib 16 (by decide) (by decide) w0 w hp hb)
  rw [show (Lib.ctz 64 16 : Nat) = 4 by decide] at HT
  clear hb
  go_enter Tryd.func61, Tryd.ntmps61
  go_wp2_with (first | (go_at_call 70; refine HT.out.mono ?_; rintro e w' ⟨rfl, hw⟩; subst hw) | fail)
  go_ret
  exact ⟨rfl, rfl⟩
set_option maxRecDepth 100000 in
set_option maxHeartbeats 8000000 in
theorem fmb16 (n K : Nat) (w0 w : World) (hp : Db w0) (hb : Below w0.heap.size w0 w) (hs : Siz16 n K) (hK : K ≤ 16) (hn : n < 18446744073709551616) :
    Calls Tryd.prog 49 #[.slice none 0 0, .int .u64 (n : Int), .int .i64 16, .bool false, .bool false] w fun e w' => e = .returned (.tuple #[.slice none 0 0, .string (txB (hxL n K))]) ∧ Below w.heap.size w w' := by
  have HSD := Lib.hid (fun j => siz16_div (j := j) hs)
  have hK1 := hs.1
  have HTZ := Lib.hid (fun (w3 : World) (h3 : Below w.heap.size w w3) => tz16_impl w0 w3 hp (hb.trans (h3.mono hb.size)))
  have HB0 := Lib.hid (below_alloc w (.cells Tryd.zeroCells90 90))
  have HG0 := Lib.hid (hbp_new w n 90)
  clear hb hs
  go_enter Tryd.func49, Tryd.ntmps49
  go_wp2_with (first | (go_at_call 60; (with_reducible refine (ip16_impl _).mono ?_); rintro e w' ⟨rfl, hw⟩; subst hw) | (go_at_call 61; (with_reducible refine (HTZ.out _ HB0.out).mono ?_); rintro e w' ⟨rfl, hw⟩; subst hw) | fail)
  go_loopw [1, 13] (fun uv iv w' => ∃ (j : Nat) (wr : World), j + 1 ≤ K ∧ uv = .int .u64 ((n / 16 ^ j : Nat) : Int) ∧ iv = .int .i64 ((65 - j : Nat) : Int) ∧ wr = w' ∧ Hid (Gbp wr w.heap.size 65 (hF n j)) ∧ Hid (Below w.heap.size w wr)) (fun uv _ _ => (intOf uv).toNat)
  case atStart => exact ⟨0, _, by omega, by rw [Nat.pow_zero, Nat.div_one], rfl, rfl, HG0, HB0⟩
  case round =>
    obtain ⟨j, wr, hj, rfl, rfl, rfl, HG, HW⟩ := hrel
    have hd1 := HSD.out j
    have hqn : n / 16 ^ j < 18446744073709551616 := Nat.lt_of_le_of_lt (Nat.div_le_self _ _) hn
    have HD : Hid (hdg n j = hd (n / 16 ^ j % 16)) := Lib.hid rfl
    have HQ : Hid (n / 16 ^ j / 16 = n / 16 ^ (j + 1)) := Lib.hid (by rw [Nat.div_div_eq_div_mul, ← Nat.pow_succ])
    have hi65 : 65 - j = (64 - j) + 1 := by omega
    have hj64 : 64 - j < 65 := by omega
    obtain ⟨hcg, hfg⟩ := HG.out.2 (64 - j) hj64
    have HSET := Lib.hid (fun (i : Nat) (hi : i < 65) => hF_set (n := n) (show j < 65 by omega) hi)
    have HJ1 : Hid (65 - (j + 1) = 64 - j) := Lib.hid (by omega)
    rw [hi65]
    generalize n / 16 ^ j = q at hd1 hqn HD HQ ⊢
    obtain ⟨i0, hi0⟩ : ∃ i0, 64 - j = i0 := ⟨_, rfl⟩
    rw [hi0] at hj64 hcg hfg HSET HJ1 ⊢
    have HI0 := Lib.hid hi0
    have hsub : ((i0 + 1 : Nat) : Int) - 1 = (i0 : Int) := by omega
    clear hi65 hi0
    by_cases hlt : j + 1 < K
    · have hq2 := hd1.2 hlt
      have hdq : decide ((16 : Int) ≤ (q : Int)) = true := decide_eq_true (by omega)
      have hdq2 : decide (16 ≤ q) = true := decide_eq_true hq2
      have hand := and_15 q hqn
      have hsh : (q : Int).fdiv (2 ^ min (Int.toNat 4) IntKind.u64.bits) = ((q / 16 : Nat) : Int) := by
        rw [show (2 : Int) ^ min (Int.toNat 4) IntKind.u64.bits = 16 by decide, Int.fdiv_eq_ediv_of_nonneg _ (by decide)]; omega
      have hr16 : q % 16 < 16 := Nat.mod_lt _ (by decide)
      have hqd : q / 16 < q := by omega
      have HQD := Lib.hid hqd
      clear hd1
      generalize q % 16 = d at hand hr16 HD
      have hdl := dg_hd d (by rw [siz36]; omega) hr16
      go_wp2_with (simp only [dg_hd d _ hr16])
      have hset := HG.out.set (j := i0) (hd d)
      exact ⟨⟨j + 1, _, by omega, by rw [← HQ.out]; first | rfl | (congr 1; omega) | simp, by rw [HJ1.out], rfl, Lib.hid (hset.congr (fun i hi => by rw [← HD.out]; exact HSET.out i hi)), Lib.hid (HW.out.setCell (p := ⟨w.heap.size, i0, none⟩) (Nat.le_refl _) _)⟩, by simp [intOf]; omega⟩
    · have hq1 : q < 16 := by
        apply Nat.lt_of_not_le
        intro h; exact hlt (hd1.1 h)
      have hdq : decide ((16 : Int) ≤ (q : Int)) = false := decide_eq_false (by omega)
      have hdq2 : decide (16 ≤ q) = false := decide_eq_false (by omega)
      rw [Nat.mod_eq_of_lt hq1] at HD
      clear hd1 HQ
      have hset := HG.out.set (j := i0) (hd q)
      have hset2 : Gbp (wr.setCell ⟨w.heap.size, i0, none⟩ (.int .u8 ((hd q).toNat : Int))) w.heap.size 65 (hF n (j + 1)) := hset.congr (fun i hi => by rw [← HSET.out i hi, HD.out])
      have hKj : K = j + 1 := by omega
      have hiK : i0 + K = 65 := by have := HI0.out; omega
      have hsl := fun W => slG w.heap.size i0 K hiK hK1 W
      have hBW : Below w.heap.size w (wr.setCell ⟨w.heap.size, i0, none⟩ (.int .u8 ((hd q).toNat : Int))) := HW.out.setCell (p := ⟨w.heap.size, i0, none⟩) (Nat.le_refl _) _
      have htx := text_cells (wr.setCell ⟨w.heap.size, i0, none⟩ (.int .u8 ((hd q).toNat : Int))) 53 9 5 w.heap.size i0 K K (hxL n K) Tryd.underlying53 Tryd.underlying5 Tryd.underlying9 (hxL_len n K) (fun t ht => by
        have h1 := (hset2.2 (i0 + t) (by omega)).1
        rw [h1, hxL_get n K t ht]
        unfold hF
        rw [if_pos (by omega), show 64 - (i0 + t) = K - 1 - t by omega])
      have HBW := Lib.hid hBW
      clear hset hset2 hBW HG HSET HD hKj
      go_wp2_with (simp only [dg_hd q _ hq1])
      go_ret2
      exact ⟨rfl, HBW.out⟩
end Go.Proofs.YtkmggoagboikgaaDoor
