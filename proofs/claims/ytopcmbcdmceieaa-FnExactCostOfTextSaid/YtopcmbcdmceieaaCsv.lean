/- What texts cost: plain facts. -/
import Derived.Test.YtopcmbcdmceieaaRwi
import Derived.Test.YtopcmbcdmceieaaItw
import Derived.Test.YtopcmbcdmceieaaTwo
namespace Go.Proofs.Ytopcmbcdmceieaa
open Go.Proofs.Ytopcmbcdmceieaa.Flo Go.RowKit

theorem dec_neg32 (b : Nat) : (FloatKind.f32).decode (Op.negFloat .f32 b) = ((FloatKind.f32).decode b).opposite := by
  have hk : Op.negFloat .f32 b = b ^^^ 2 ^ 31 := rfl
  have hx : (b ^^^ 2 ^ 31) % 2 ^ 31 = b % 2 ^ 31 := by rw [Nat.xor_mod_two_pow]; simp
  have hd : (b ^^^ 2 ^ 31) / 2 ^ 31 = (b / 2 ^ 31) ^^^ 1 := by
    rw [← Nat.shiftRight_eq_div_pow, Nat.shiftRight_xor_distrib, Nat.shiftRight_eq_div_pow, Nat.shiftRight_eq_div_pow]
  have hp : ((b / 2 ^ 31) ^^^ 1) % 2 = 1 - b / 2 ^ 31 % 2 := by
    have := Nat.xor_mod_two_pow (a := b / 2 ^ 31) (b := 1) (n := 1)
    rw [Nat.pow_one] at this
    rw [this]
    have : b / 2 ^ 31 % 2 = 0 ∨ b / 2 ^ 31 % 2 = 1 := by omega
    rcases this with h | h <;> rw [h] <;> rfl
  rw [hk]
  unfold FloatKind.decode Ieee.Format.read
  have h1 : (FloatKind.f32).format.signWeight = 2 ^ 31 := rfl
  rw [h1, hx, hd]
  dsimp only
  have hs : (((b / 2 ^ 31) ^^^ 1) % 2 == 1) = !(b / 2 ^ 31 % 2 == 1) := by
    rw [hp]
    have : b / 2 ^ 31 % 2 = 0 ∨ b / 2 ^ 31 % 2 = 1 := by omega
    rcases this with h | h <;> rw [h] <;> rfl
  rw [hs]
  split
  · rfl
  · split
    · rfl
    · split <;> rfl
theorem neg_word32 (s : Bool) {r : Nat} (h : r < 2 ^ 31) : Op.negFloat .f32 ((FloatKind.f32).format.word s r) = (FloatKind.f32).format.word (!s) r := by
  have hw : ∀ t, (FloatKind.f32).format.word t r = if t then 2 ^ 31 + r else r := fun _ => rfl
  have hk : ∀ b, Op.negFloat .f32 b = b ^^^ 2 ^ 31 := fun _ => rfl
  have hd : ∀ b : Nat, (b ^^^ 2 ^ 31) / 2 ^ 31 = (b / 2 ^ 31) ^^^ 1 := fun b => by
    rw [← Nat.shiftRight_eq_div_pow, Nat.shiftRight_xor_distrib, Nat.shiftRight_eq_div_pow, Nat.shiftRight_eq_div_pow]
  have hx : ∀ b : Nat, (b ^^^ 2 ^ 31) % 2 ^ 31 = b % 2 ^ 31 := fun b => by rw [Nat.xor_mod_two_pow]; simp
  rw [hw, hw, hk]
  have h1 := hd (if s = true then 2 ^ 31 + r else r)
  have h2 := hx (if s = true then 2 ^ 31 + r else r)
  generalize (if s = true then 2 ^ 31 + r else r) ^^^ 2 ^ 31 = X at h1 h2
  cases s
  · have e : r / 2 ^ 31 = 0 := Nat.div_eq_of_lt h
    simp only [Bool.false_eq_true, if_false, e] at h1 h2
    simp only [Bool.not_false, if_true]
    have : (0 : Nat) ^^^ 1 = 1 := rfl
    omega
  · have e : (2 ^ 31 + r) / 2 ^ 31 = 1 := by omega
    simp only [if_true, e] at h1 h2
    simp only [Bool.not_true, Bool.false_eq_true, if_false]
    have : (1 : Nat) ^^^ 1 = 0 := rfl
    omega
/-- The nearest word to a number: its sign is a bit of its own. -/
theorem nearest_word (M : Nat) (P : Int) : ∃ R, R ≤ (FloatKind.f32).format.infRung ∧ ∀ s, (FloatKind.f32).format.nearest s M P = (FloatKind.f32).format.word s R := by
  by_cases h : M = 0
  · exact ⟨0, Nat.zero_le _, fun s => by unfold Ieee.Format.nearest; rw [if_pos h]⟩
  · refine ⟨min (((max (P + (M.log2 : Int) - ((FloatKind.f32).format.fractionBits : Int)) (FloatKind.f32).format.leastPlace) - (FloatKind.f32).format.leastPlace).toNat * (FloatKind.f32).format.binade + Ieee.Toward.even.cut false (M <<< (P - (max (P + (M.log2 : Int) - ((FloatKind.f32).format.fractionBits : Int)) (FloatKind.f32).format.leastPlace)).toNat) ((max (P + (M.log2 : Int) - ((FloatKind.f32).format.fractionBits : Int)) (FloatKind.f32).format.leastPlace) - P).toNat) (FloatKind.f32).format.infRung, Nat.min_le_right _ _, fun s => ?_⟩
    unfold Ieee.Format.nearest
    rw [if_neg h]
    rfl
theorem quo_neg {z c m n : Nat} {s t : Bool} {i j : Int} (hz : (FloatKind.f32).decode z = .number s m i) (hc : (FloatKind.f32).decode c = .number t n j) (hn : n ≠ 0) :
    floatBits .quo .f32 (Op.negFloat .f32 z) c = (floatBits .quo .f32 z c).map (Op.negFloat .f32) := by
  have e : ∀ x, floatBits .quo .f32 x c = (((FloatKind.f32).decode x).quotient ((FloatKind.f32).format.fractionBits + 2) ((FloatKind.f32).decode c)).map (FloatKind.f32).format.write := fun _ => rfl
  rw [e, e, dec_neg32, hz, hc]
  unfold Ieee.Datum.opposite Ieee.Datum.quotient
  dsimp only
  rw [if_neg hn, if_neg hn]
  simp only [Option.map_some]
  generalize 2 * ((m <<< ((FloatKind.f32).format.fractionBits + 2 + n.log2 - m.log2)) / n) + ((m <<< ((FloatKind.f32).format.fractionBits + 2 + n.log2 - m.log2)) % n != 0).toNat = M
  generalize i - j - ((FloatKind.f32).format.fractionBits + 2 + n.log2 - m.log2 : Nat) - 1 = P
  obtain ⟨R, hR, h⟩ := nearest_word M P
  show some ((FloatKind.f32).format.nearest ((!s) ^^ t) M P) = some (Op.negFloat .f32 ((FloatKind.f32).format.nearest (s ^^ t) M P))
  rw [h, h, neg_word32 _ (Nat.lt_of_le_of_lt hR (by decide))]
  cases s <;> cases t <;> rfl
theorem nearest_ne0' (f : Ieee.Format) (mag : Nat) (place : Int) (hm : mag ≠ 0) (hp : f.leastPlace ≤ place) (hi : 0 < f.infRung) : f.nearest false mag place ≠ 0 := by
  have hpos : 0 < f.binade := Nat.two_pow_pos _
  unfold Ieee.Format.nearest
  rw [if_neg hm]
  dsimp only
  generalize hlast : max (place + (mag.log2 : Int) - f.fractionBits) f.leastPlace = last
  show min ((last - f.leastPlace).toNat * f.binade + Ieee.Toward.even.cut false (mag <<< (place - last).toNat) (last - place).toNat) f.infRung ≠ 0
  by_cases hl : last = f.leastPlace
  · have e : (last - place).toNat = 0 := by omega
    have h1 : 1 ≤ Ieee.Toward.even.cut false (mag <<< (place - last).toNat) (last - place).toNat := by
      rw [e]
      refine cut_even_ge false _ 0 1 ?_
      rw [Nat.shiftLeft_eq]
      have := Nat.mul_pos (show 0 < mag by omega) (Nat.two_pow_pos (place - last).toNat)
      show 1 ≤ mag * 2 ^ (place - last).toNat
      exact this
    omega
  · have h2 : 1 ≤ (last - f.leastPlace).toNat := by omega
    have h3 : 1 * f.binade ≤ (last - f.leastPlace).toNat * f.binade := Nat.mul_le_mul_right _ h2
    omega
theorem read_whole32' (neg : Bool) (q : Nat) (h0 : q ≠ 0) (h : q.log2 ≤ 23) :
    (FloatKind.f32).decode ((FloatKind.f32).format.nearest neg q 0) = .number neg (q <<< (23 - q.log2)) ((q.log2 : Int) - 23) := by
  have h1 : (FloatKind.f32).format.leastPlace = -149 := rfl
  have h2 : (FloatKind.f32).format.fractionBits = 23 := rfl
  have h3 : (FloatKind.f32).format.binade = 2 ^ 23 := rfl
  have h4 : (FloatKind.f32).format.infRung = 255 * 2 ^ 23 := rfl
  have h5 := (FloatKind.f32).format.infRung_lt
  unfold FloatKind.decode
  generalize (FloatKind.f32).format = f at *
  unfold Ieee.Format.nearest
  dsimp only
  rw [if_neg h0, h1, h2]
  have hlast : max (0 + (q.log2 : Int) - (23 : Nat)) (-149) = (q.log2 : Int) - 23 := by omega
  rw [hlast]
  have e1 : (0 - ((q.log2 : Int) - 23)).toNat = 23 - q.log2 := by omega
  have e2 : (((q.log2 : Int) - 23) - 0).toNat = 0 := by omega
  rw [e1, e2]
  have hlo : 2 ^ 23 ≤ q <<< (23 - q.log2) := by
    rw [Nat.shiftLeft_eq]
    calc 2 ^ 23 = 2 ^ q.log2 * 2 ^ (23 - q.log2) := by rw [← Nat.pow_add]; congr 1; omega
      _ ≤ _ := Nat.mul_le_mul_right _ (Nat.log2_self_le h0)
  have hhi : q <<< (23 - q.log2) < 2 ^ 24 := log2_shl_lt (by omega)
  generalize q <<< (23 - q.log2) = K at *
  have hcut : Ieee.Toward.even.cut neg K 0 = K :=
    Nat.le_antisymm (cut_even_le neg K 0 K (by omega)) (cut_even_ge neg K 0 K (by omega))
  rw [hcut, h3]
  generalize hp : ((q.log2 : Int) - 23 - -149).toNat = p
  have hr : p * 2 ^ 23 + K < f.infRung := by rw [h4]; omega
  rw [Nat.min_eq_left (Nat.le_of_lt hr), read_word f neg _ (Nat.lt_trans hr h5), h3, if_neg (by omega), if_pos hr, h1]
  have hm : (p * 2 ^ 23 + K) % 2 ^ 23 = K - 2 ^ 23 := by omega
  have hd : (p * 2 ^ 23 + K) / 2 ^ 23 = p + 1 := by omega
  have h6 : 2 ^ 23 + (K - 2 ^ 23) = K := by omega
  have h7 : (-149 : Int) + ((p + 1 - 1 : Nat) : Int) = (q.log2 : Int) - 23 := by omega
  rw [hm, hd, h6, h7]
/-- Small integers as numbers. -/
theorem chkC_one {k : Nat} (h0 : 1 ≤ k) (h : k ≤ 16384) : ∃ n j, (FloatKind.f32).decode (floatOfInt .f32 (k : Int)) = .number false n j ∧ n.log2 = 23 ∧ -23 ≤ j ∧ j ≤ -9 := by
  have hk0 : k ≠ 0 := by omega
  have hl : k.log2 < 15 := (Nat.log2_lt hk0).2 (by have : (2 : Nat) ^ 15 = 32768 := rfl; omega)
  have e : floatOfInt .f32 (k : Int) = (FloatKind.f32).format.nearest false k 0 := by
    show (FloatKind.f32).format.nearest (decide ((k : Int) < 0)) (k : Int).natAbs 0 = _
    rw [Int.natAbs_natCast, decide_eq_false (by omega)]
  rw [e, read_whole32' false k hk0 (by omega)]
  exact ⟨_, _, rfl, by rw [log2_shl_eq _ _ hk0]; omega, by omega, by omega⟩
theorem pos_word {q : Nat} (h0 : q ≠ 0) (h : q < 2139095040) : ∃ m i, (FloatKind.f32).decode q = .number false m i ∧ m ≠ 0 := by
  unfold FloatKind.decode Ieee.Format.read
  have h1 : (FloatKind.f32).format.signWeight = 2147483648 := rfl
  have h2 : (FloatKind.f32).format.binade = 8388608 := rfl
  have h3 : (FloatKind.f32).format.infRung = 2139095040 := rfl
  have e1 : q / 2147483648 = 0 := Nat.div_eq_of_lt (by omega)
  have e2 : q % 2147483648 = q := Nat.mod_eq_of_lt (by omega)
  rw [h1, h2, h3, e1, e2]
  dsimp only
  split
  · exact ⟨q, _, rfl, h0⟩
  · first
    | exact ⟨_, _, rfl, by omega⟩
    | (rw [if_pos h]; exact ⟨_, _, rfl, by omega⟩)
theorem quo_num {m n : Nat} {i j : Int} (hn0 : n ≠ 0) (hml : m.log2 = 23) (hnl : n.log2 = 23) : (Ieee.Datum.number false m i).quotient 25 (.number false n j) = some (.number false (2 * ((m <<< 25) / n) + ((m <<< 25) % n != 0).toNat) (i - j - 25 - 1)) := by
  simp only [Ieee.Datum.quotient]
  rw [if_neg hn0, hml, hnl, show 25 + 23 - 23 = 25 from rfl]
  simp
/-- The share of a count. -/
def qB (c t : Int) : Nat := (floatBits .quo .f32 (floatOfInt .f32 c) (floatOfInt .f32 t)).getD 0
set_option maxHeartbeats 1000000 in
theorem qB_num {c t : Int} (hc : 1 ≤ c ∧ c ≤ 16384) (ht : 1 ≤ t ∧ t ≤ 16384) : floatBits .quo .f32 (floatOfInt .f32 c) (floatOfInt .f32 t) = some (qB c t) ∧ ∃ m i, (FloatKind.f32).decode (qB c t) = .number false m i ∧ m ≠ 0 := by
  obtain ⟨c', rfl⟩ : ∃ c' : Nat, c = (c' : Int) := ⟨c.toNat, by omega⟩
  obtain ⟨t', rfl⟩ : ∃ t' : Nat, t = (t' : Int) := ⟨t.toNat, by omega⟩
  obtain ⟨m, i, hm, hml, hi1, hi2⟩ := chkC_one (k := c') (by omega) (by omega)
  obtain ⟨n, j, hn, hnl, hj1, hj2⟩ := chkC_one (k := t') (by omega) (by omega)
  have hn0 : n ≠ 0 := by intro e; rw [e] at hnl; exact absurd hnl (by decide)
  have hm0 : m ≠ 0 := by intro e; rw [e] at hml; exact absurd hml (by decide)
  have hn24 : n < 2 ^ 24 := (Nat.log2_lt hn0).1 (by omega)
  have hm23 : 2 ^ 23 ≤ m := (Nat.le_log2 hm0).1 (by omega)
  have hm24 : m < 2 ^ 24 := (Nat.log2_lt hm0).1 (by omega)
  have hn23 : 2 ^ 23 ≤ n := (Nat.le_log2 hn0).1 (by omega)
  have e : floatBits .quo .f32 (floatOfInt .f32 (c' : Int)) (floatOfInt .f32 (t' : Int)) = some ((FloatKind.f32).format.nearest false (2 * ((m <<< 25) / n) + ((m <<< 25) % n != 0).toNat) (i - j - 25 - 1)) := by
    show ((((FloatKind.f32).decode (floatOfInt .f32 (c' : Int))).quotient 25 ((FloatKind.f32).decode (floatOfInt .f32 (t' : Int)))).map (FloatKind.f32).format.write) = _
    rw [hm, hn, quo_num hn0 hml hnl]
    rfl
  rw [Nat.shiftLeft_eq] at e
  generalize hM : 2 * (m * 2 ^ 25 / n) + ((m * 2 ^ 25) % n != 0).toNat = M at e
  obtain ⟨X, hX⟩ : ∃ X, X = (FloatKind.f32).format.nearest false M (i - j - 25 - 1) := ⟨_, rfl⟩
  rw [← hX] at e
  have hq : qB (c' : Int) (t' : Int) = X := by unfold qB; rw [e]; exact Option.getD_some
  refine ⟨by rw [hq]; exact e, ?_⟩
  have hdiv : 2 ≤ m * 2 ^ 25 / n := by
    rw [Nat.le_div_iff_mul_le (by omega)]
    have : (2 : Nat) ^ 24 = 16777216 := rfl
    have : (2 : Nat) ^ 25 = 33554432 := rfl
    have : (2 : Nat) ^ 23 = 8388608 := rfl
    omega
  have hdiv2 : m * 2 ^ 25 / n < 2 ^ 27 := by
    rw [Nat.div_lt_iff_lt_mul (by omega)]
    have : (2 : Nat) ^ 24 = 16777216 := rfl
    have : (2 : Nat) ^ 25 = 33554432 := rfl
    have : (2 : Nat) ^ 23 = 8388608 := rfl
    have : (2 : Nat) ^ 27 = 134217728 := rfl
    omega
  have hb : ((m * 2 ^ 25) % n != 0).toNat ≤ 1 := by cases ((m * 2 ^ 25) % n != 0) <;> decide
  have hM0 : M ≠ 0 := by omega
  have hMl : M.log2 < 28 := (Nat.log2_lt hM0).2 (by have : (2 : Nat) ^ 28 = 268435456 := rfl; have : (2 : Nat) ^ 27 = 134217728 := rfl; omega)
  have h0 := nearest_ne0' (FloatKind.f32).format M (i - j - 25 - 1) hM0 (by show (-149 : Int) ≤ _; omega) (by decide)
  have hle := (nearest_le .f32 false M (i - j - 25 - 1) 20 (leN_of_log (.inr (by omega))) ⟨by decide, by decide⟩).1
  obtain ⟨R, hR, hw⟩ := nearest_word M (i - j - 25 - 1)
  rw [hw] at h0 hle
  have hwR : (FloatKind.f32).format.word false R = R := rfl
  rw [hwR] at h0 hle
  have hR2 : R ≠ 2139095040 := by
    intro e2
    rw [e2] at hle
    exact hle
  rw [hq, hX, hw, hwR]
  have hR3 : R ≤ 2139095040 := hR
  exact pos_word h0 (by omega)
/-- The bits of a letter. -/
def nT (c t : Int) : Nat := Op.negFloat .f32 ((bitsV (qB c t)).getD 0)
theorem nT_num {c t : Int} (hc : 1 ≤ c ∧ c ≤ 16384) (ht : 1 ≤ t ∧ t ≤ 16384) : bitsV (qB c t) = some ((bitsV (qB c t)).getD 0) ∧ VLe .f32 44 (some (nT c t)) ∧
    ∃ L, logR (qB c t) = some L ∧ floatBits .quo .f32 (Op.negFloat .f32 L) 1060205080 = some (nT c t) := by
  obtain ⟨_, m, i, hd, h0⟩ := qB_num hc ht
  obtain ⟨b, hb, hl⟩ := bitsV_le hd h0
  obtain ⟨L, hL, hlL⟩ := logR_le hd h0
  have e : (bitsV (qB c t)).getD 0 = b := by rw [hb]; rfl
  refine ⟨by rw [hb]; rfl, ⟨_, rfl, ?_⟩, L, hL, ?_⟩
  · unfold nT
    rw [e, dec_neg32]
    exact hl.opposite
  · cases hdL : (FloatKind.f32).decode L with
    | number s mm ii =>
      have hdc : (FloatKind.f32).decode 1060205080 = .number false 11629080 (-24) := by decide +kernel
      rw [quo_neg hdL hdc (by decide)]
      have h2 : bitsV (qB c t) = floatBits .quo .f32 L 1060205080 := by unfold bitsV; rw [hL]; rfl
      rw [← h2, hb]
      unfold nT
      rw [e]
      rfl
    | infinity s => rw [hdL] at hlL; exact (show False from hlL).elim
    | nan s f => rw [hdL] at hlL; exact (show False from hlL).elim
def csN (zs ts : List Int) (t : Int) : Nat → Nat
  | 0 => 0
  | k + 1 => (floatBits .add .f32 (csN zs ts t k) (nT (zs.getD (ts.getD k 0).toNat 0) t)).getD 0
theorem cs_step {zs ts : List Int} {t : Int} {n m : Nat} (hz : ptP zs n) (ht : 1 ≤ t ∧ t ≤ 16384) (hl : letP ts (n : Int) m) : ∀ k, k ≤ m → k ≤ 64 → VLe .f32 (44 + k) (some (csN zs ts t k)) ∧
    (k < m → k < 64 → floatBits .add .f32 (csN zs ts t k) (nT (zs.getD (ts.getD k 0).toNat 0) t) = some (csN zs ts t (k + 1)))
  | 0, _, _ => by
    have h0 : VLe .f32 (44 + ((0 : Nat) : Int)) (some (csN zs ts t 0)) := ⟨0, rfl, by rw [dec_032]; exact leN_of_log (.inl rfl)⟩
    refine ⟨h0, fun hk _ => ?_⟩
    have hc := hz (ts.getD 0 0).toNat (by have := hl 0 hk; omega)
    obtain ⟨r, hr, _⟩ := vadd_le h0 (nT_num hc ht).2.1 ⟨by decide, by decide⟩
    have hr : floatBits .add .f32 (csN zs ts t 0) (nT (zs.getD (ts.getD 0 0).toNat 0) t) = some r := hr
    show _ = some ((floatBits .add .f32 (csN zs ts t 0) (nT (zs.getD (ts.getD 0 0).toNat 0) t)).getD 0)
    rw [hr]; rfl
  | k + 1, hk, hk2 => by
    obtain ⟨h1, h2⟩ := cs_step hz ht hl k (by omega) (by omega)
    have h3 := h2 (by omega) (by omega)
    have hc := hz (ts.getD k 0).toNat (by have := hl k (by omega); omega)
    have hv := vadd_le h1 (nT_num hc ht).2.1 (show Norm .f32 _ from ⟨by omega, by omega⟩)
    have hv2 : VLe .f32 (44 + ((k + 1 : Nat) : Int)) (some (csN zs ts t (k + 1))) := by
      rw [← h3]
      exact VLe.mono hv (by omega)
    refine ⟨hv2, fun hk3 hk4 => ?_⟩
    have hc2 := hz (ts.getD (k + 1) 0).toNat (by have := hl (k + 1) hk3; omega)
    obtain ⟨r, hr, _⟩ := vadd_le hv2 (nT_num hc2 ht).2.1 (show Norm .f32 _ from ⟨by omega, by omega⟩)
    have hr : floatBits .add .f32 (csN zs ts t (k + 1)) (nT (zs.getD (ts.getD (k + 1) 0).toNat 0) t) = some r := hr
    show _ = some ((floatBits .add .f32 (csN zs ts t (k + 1)) (nT (zs.getD (ts.getD (k + 1) 0).toNat 0) t)).getD 0)
    rw [hr]; rfl
end Go.Proofs.Ytopcmbcdmceieaa
