/- DrawLetters: plain facts. -/
import Derived.Test.YtcgdhicgpkoncaaGsp
import Derived.Test.YtcgdhicgpkoncaaRtv
import Derived.Test.YtcgdhicgpkoncaaRcv
namespace Go.Proofs.Ytcgdhicgpkoncaa.Flo
open Go

/-- What a small whole number is written as, in 32 bits: itself. -/
theorem read_whole32 (neg : Bool) (q : Nat) (h0 : q ≠ 0) (h : q.log2 ≤ 23) :
    (FloatKind.f32).decode ((FloatKind.f32).format.nearest neg q 0) = .number neg (q <<< (23 - q.log2)) ((q.log2 : Int) - 23) := by
  have h1 : (FloatKind.f32).format.leastPlace = -149 := rfl
  have h2 : (FloatKind.f32).format.fractionBits = 23 := rfl
  have h3 : (FloatKind.f32).format.binade = 2 ^ 23 := rfl
  have h4 : (FloatKind.f32).format.infRung = 255 * 2 ^ 23 := rfl
  have h5 := (FloatKind.f32).format.infRung_lt
  unfold FloatKind.decode
  generalize (FloatKind.f32).format = f at *
  unfold Ieee.Format.nearest
  dsimp only
  rw [if_neg h0, h1, h2]
  have hlast : max (0 + (q.log2 : Int) - (23 : Nat)) (-149) = (q.log2 : Int) - 23 := by omega
  rw [hlast]
  have e1 : (0 - ((q.log2 : Int) - 23)).toNat = 23 - q.log2 := by omega
  have e2 : (((q.log2 : Int) - 23) - 0).toNat = 0 := by omega
  rw [e1, e2]
  have hlo : 2 ^ 23 ≤ q <<< (23 - q.log2) := by
    rw [Nat.shiftLeft_eq]
    calc 2 ^ 23 = 2 ^ q.log2 * 2 ^ (23 - q.log2) := by rw [← Nat.pow_add]; congr 1; omega
      _ ≤ _ := Nat.mul_le_mul_right _ (Nat.log2_self_le h0)
  have hhi : q <<< (23 - q.log2) < 2 ^ 24 := log2_shl_lt (by omega)
  generalize q <<< (23 - q.log2) = K at *
  have hcut : Ieee.Toward.even.cut neg K 0 = K :=
    Nat.le_antisymm (cut_even_le neg K 0 K (by omega)) (cut_even_ge neg K 0 K (by omega))
  rw [hcut, h3]
  generalize hp : ((q.log2 : Int) - 23 - -149).toNat = p
  have hr : p * 2 ^ 23 + K < f.infRung := by rw [h4]; omega
  rw [Nat.min_eq_left (Nat.le_of_lt hr), read_word f neg _ (Nat.lt_trans hr h5), h3, if_neg (by omega), if_pos hr, h1]
  have hm : (p * 2 ^ 23 + K) % 2 ^ 23 = K - 2 ^ 23 := by omega
  have hd : (p * 2 ^ 23 + K) / 2 ^ 23 = p + 1 := by omega
  have h6 : 2 ^ 23 + (K - 2 ^ 23) = K := by omega
  have h7 : (-149 : Int) + ((p + 1 - 1 : Nat) : Int) = (q.log2 : Int) - 23 := by omega
  rw [hm, hd, h6, h7]
theorem quo_def (x y : Nat) : floatBits .quo .f32 x y = (((FloatKind.f32).decode x).quotient ((FloatKind.f32).format.fractionBits + 2) ((FloatKind.f32).decode y)).map (FloatKind.f32).format.write := rfl
theorem mul_def (x y : Nat) : floatBits .mul .f32 x y = (((FloatKind.f32).decode x).product ((FloatKind.f32).decode y)).map (FloatKind.f32).format.write := rfl
theorem write_num (s : Bool) (m : Nat) (i : Int) : (FloatKind.f32).format.write (.number s m i) = (FloatKind.f32).format.nearest s m i := rfl
theorem quotient_num (K a b m e : Nat) (i : Int) (hl : K.log2 = b) (hm : m.log2 = b) (h0 : m ≠ 0) (he : e = a + b - b) (hd : K <<< e = K * 4 * m) :
    (Ieee.Datum.number false K i).quotient a (.number false m 1) = some (.number false (2 * (K * 4)) (i - 1 - e - 1)) := by
  simp only [Ieee.Datum.quotient]
  rw [if_neg h0, hl, hm, ← he, hd, Nat.mul_div_cancel _ (by omega), Nat.mul_mod_left]
  rfl
theorem product_num (K m : Nat) (i j : Int) : (Ieee.Datum.number false K i).product (.number false m j) = some (.number false (K * m) (i + j)) := rfl
/-- Dividing a small whole number by 2 ^ 24 is multiplying it with 2 ^ -24. -/
theorem share_eq (q : Nat) (hq : q < 2 ^ 24) : ∃ z, floatBits .quo .f32 (floatOfInt .f32 (q : Int)) 1266679808 = some z ∧ floatBits .mul .f32 (floatOfInt .f32 (q : Int)) 864026624 = some z := by
  by_cases h0 : q = 0
  · subst h0
    exact ⟨0, by decide +kernel, by decide +kernel⟩
  have hl : q.log2 ≤ 23 := by have := (Nat.log2_lt h0).2 hq; omega
  have hd0 : (FloatKind.f32).decode (floatOfInt .f32 (q : Int)) = .number false (q <<< (23 - q.log2)) ((q.log2 : Int) - 23) := by
    have e : floatOfInt .f32 (q : Int) = (FloatKind.f32).format.nearest false q 0 := by
      show (FloatKind.f32).format.nearest (decide ((q : Int) < 0)) (q : Int).natAbs 0 = _
      rw [decide_eq_false (by omega)]; rfl
    rw [e]; exact read_whole32 false q h0 hl
  have hlo : 2 ^ 23 ≤ q <<< (23 - q.log2) := by
    rw [Nat.shiftLeft_eq]
    calc 2 ^ 23 = 2 ^ q.log2 * 2 ^ (23 - q.log2) := by rw [← Nat.pow_add]; congr 1; omega
      _ ≤ _ := Nat.mul_le_mul_right _ (Nat.log2_self_le h0)
  have hhi : q <<< (23 - q.log2) < 2 ^ 24 := log2_shl_lt (by omega)
  generalize q <<< (23 - q.log2) = K at *
  have hKl : K.log2 = 23 := by
    have a1 : 23 ≤ K.log2 := (Nat.le_log2 (by omega)).2 hlo
    have a2 : K.log2 < 24 := (Nat.log2_lt (by omega)).2 hhi
    omega
  have d1 : (FloatKind.f32).decode 1266679808 = .number false 8388608 1 := by decide +kernel
  have d2 : (FloatKind.f32).decode 864026624 = .number false 8388608 (-47) := by decide +kernel
  -- the word of both
  obtain ⟨r, hr⟩ : ∃ r, r = (q.log2 + 103) * 2 ^ 23 + (K - 2 ^ 23) := ⟨_, rfl⟩
  have hir : (FloatKind.f32).format.infRung = 255 * 2 ^ 23 := rfl
  have hbi : (FloatKind.f32).format.binade = 2 ^ 23 := rfl
  have hlp : (FloatKind.f32).format.leastPlace = -149 := rfl
  have hrl : r < (FloatKind.f32).format.infRung := by rw [hir, hr]; omega
  have hrd : (FloatKind.f32).format.read ((FloatKind.f32).format.word false r) = .number false K ((q.log2 : Int) - 47) := by
    rw [read_word _ false r (Nat.lt_trans hrl (FloatKind.f32).format.infRung_lt), hbi, if_neg (by rw [hr]; omega), if_pos hrl, hlp]
    have m1 : r % 2 ^ 23 = K - 2 ^ 23 := by rw [hr]; omega
    have m2 : r / 2 ^ 23 = q.log2 + 103 := by rw [hr]; omega
    have a1 : 2 ^ 23 + (K - 2 ^ 23) = K := by omega
    have a2 : (-149 : Int) + ((q.log2 + 103 - 1 : Nat) : Int) = (q.log2 : Int) - 47 := by omega
    rw [m1, m2, a1, a2]
  have hex := fun u => nearest_exact (FloatKind.f32).format false r hrl (by rw [hr]; omega) u
  rw [hrd] at hex
  refine ⟨(FloatKind.f32).format.word false r, ?_, ?_⟩
  · rw [quo_def, hd0, d1]
    have hl2 : (8388608 : Nat).log2 = 23 := by decide +kernel
    have hq2 := quotient_num K ((FloatKind.f32).format.fractionBits + 2) 23 8388608 25 ((q.log2 : Int) - 23) hKl hl2 (by decide) rfl (by rw [Nat.shiftLeft_eq]; omega)
    rw [hq2]
    have := hex 3 false
    have e1 : 2 * (K * 4) = K <<< 3 := by rw [Nat.shiftLeft_eq]; omega
    have e2 : (q.log2 : Int) - 23 - 1 - ((25 : Nat) : Int) - 1 = (q.log2 : Int) - 47 - (3 : Nat) := by omega
    rw [Option.map_some, write_num, e1, e2, this]
  · rw [mul_def, hd0, d2]
    have := hex 23 false
    have e1 : K * 8388608 = K <<< 23 := by rw [Nat.shiftLeft_eq]
    have e2 : (q.log2 : Int) - 23 + -47 = (q.log2 : Int) - 47 - (23 : Nat) := by omega
    rw [product_num, Option.map_some, write_num, e1, e2, this]
end Go.Proofs.Ytcgdhicgpkoncaa.Flo
