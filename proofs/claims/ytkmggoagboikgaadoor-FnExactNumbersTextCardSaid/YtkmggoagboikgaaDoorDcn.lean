
/- Decimal numerals: plain facts. -/
import Derived.Lib.ItoaNum
import Derived.Lib.ItoaLen
import Derived.Lib.AtoiAll
import Derived.Lib.ParseIntBTie
namespace Go.Proofs.YtkmggoagboikgaaDoor.Dcn
open Go.Lib

theorem dec_step (u : Nat) : decDigits u = (if u < 10 then [] else decDigits (u / 10)) ++ [UInt8.ofNat (48 + u % 10)] := by
  by_cases h : u < 10
  · rw [decDigits, dif_pos h, if_pos h, Nat.mod_eq_of_lt h]; rfl
  · rw [decDigits, dif_neg h, if_neg h]
theorem dec_ne (u : Nat) : decDigits u ≠ [] := by rw [dec_step]; simp
theorem dg_val (u : Nat) : ((UInt8.ofNat (48 + u % 10)).toNat : Int) = 48 + ((u % 10 : Nat) : Int) := by
  have : u % 10 < 10 := Nat.mod_lt _ (by omega)
  rw [UInt8.toNat_ofNat_of_lt' (by show 48 + u % 10 < 256; omega)]; omega
theorem dg_nat (u : Nat) : (UInt8.ofNat (48 + u % 10)).toNat = 48 + u % 10 := by
  have := dg_val u; omega
/-- What is done of a number's digits: L behind what is left, U. -/
def DigRel (U0 U : Nat) (L : List UInt8) : Prop := (L = [] ∧ U = U0) ∨ (L ≠ [] ∧ U = 0 ∧ L = decDigits U0) ∨ (L ≠ [] ∧ U ≠ 0 ∧ decDigits U ++ L = decDigits U0)
theorem DigRel.start (U : Nat) : DigRel U U [] := .inl ⟨rfl, rfl⟩
theorem DigRel.next {U0 U : Nat} {L : List UInt8} (h : DigRel U0 U L) (hc : L = [] ∨ U ≠ 0) : DigRel U0 (U / 10) (UInt8.ofNat (48 + U % 10) :: L) := by
  have key : decDigits U ++ L = decDigits U0 := by
    rcases h with ⟨rfl, rfl⟩ | ⟨h1, h2, _⟩ | ⟨_, _, h3⟩
    · simp
    · rcases hc with h | h
      · exact absurd h h1
      · exact absurd h2 h
    · exact h3
  rw [dec_step U] at key
  by_cases hu : U < 10
  · rw [if_pos hu] at key
    exact .inr (.inl ⟨by simp, by omega, by simpa using key⟩)
  · rw [if_neg hu] at key
    exact .inr (.inr ⟨by simp, by omega, by simpa using key⟩)
theorem DigRel.stop {U0 : Nat} {L : List UInt8} (h : DigRel U0 0 L) (hL : L ≠ []) : L = decDigits U0 := by
  rcases h with ⟨h, _⟩ | ⟨_, _, h⟩ | ⟨_, h, _⟩
  · exact absurd h hL
  · exact h
  · exact absurd rfl h
theorem dec_len (u : Nat) (h : u < 18446744073709551616) : (decDigits u).length ≤ 20 := by rw [decDigits_length]; exact nDigits_le20 u h
theorem DigRel.len {U0 U : Nat} {L : List UInt8} (h : DigRel U0 U L) (h0 : U0 < 18446744073709551616) : L.length ≤ 20 := by
  have := dec_len U0 h0
  rcases h with ⟨rfl, _⟩ | ⟨_, _, rfl⟩ | ⟨_, _, h⟩
  · simp
  · exact this
  · have := congrArg List.length h
    simp at this; omega
theorem dec_digit : ∀ (u : Nat), ∀ c ∈ decDigits u, 48 ≤ c.toNat ∧ c.toNat ≤ 57 := by
  intro u
  induction u using Nat.strongRecOn with
  | _ u ih =>
    intro c hc
    rw [dec_step] at hc
    rcases List.mem_append.1 hc with hc | hc
    · split at hc
      · cases hc
      · exact ih (u / 10) (by omega) c hc
    · rw [List.mem_singleton] at hc
      subst hc
      rw [dg_nat]
      have : u % 10 < 10 := Nat.mod_lt _ (by omega)
      omega
/-- The number that the digits of a text tell; other bytes tell nothing. -/
def vD (acc : Nat) : List UInt8 → Nat
  | [] => acc
  | c :: r => vD (if 48 ≤ c.toNat ∧ c.toNat ≤ 57 then 10 * acc + (c.toNat - 48) else acc) r
theorem vD_app : ∀ (a b : List UInt8) (acc : Nat), vD acc (a ++ b) = vD (vD acc a) b
  | [], _, _ => rfl
  | _ :: a, b, _ => vD_app a b _
theorem vD_ge : ∀ (l : List UInt8) (acc : Nat), acc ≤ vD acc l
  | [], _ => Nat.le_refl _
  | c :: r, acc => by
    refine Nat.le_trans ?_ (vD_ge r _)
    split <;> omega
theorem vD_lt : ∀ (l : List UInt8) (acc : Nat), vD acc l < (acc + 1) * 10 ^ l.length
  | [], acc => by simp [vD]
  | c :: r, acc => by
    have h := vD_lt r (if 48 ≤ c.toNat ∧ c.toNat ≤ 57 then 10 * acc + (c.toNat - 48) else acc)
    refine Nat.lt_of_lt_of_le h ?_
    rw [List.length_cons, Nat.pow_succ, Nat.mul_comm (10 ^ r.length) 10, ← Nat.mul_assoc]
    refine Nat.mul_le_mul_right _ ?_
    split <;> omega
theorem vD_dec (u : Nat) : vD 0 (decDigits u) = u := by
  induction u using Nat.strongRecOn with
  | _ u ih =>
    have e : vD 0 (if u < 10 then [] else decDigits (u / 10)) = u / 10 := by
      split
      · show 0 = u / 10; omega
      · exact ih (u / 10) (by omega)
    rw [dec_step, vD_app, e]
    have hm : u % 10 < 10 := Nat.mod_lt _ (by omega)
    show (if 48 ≤ (UInt8.ofNat (48 + u % 10)).toNat ∧ (UInt8.ofNat (48 + u % 10)).toNat ≤ 57 then 10 * (u / 10) + ((UInt8.ofNat (48 + u % 10)).toNat - 48) else u / 10) = u
    rw [dg_nat, if_pos ⟨by omega, by omega⟩]
    omega
theorem parse_digits : ∀ (l : List UInt8) (acc : Nat), (∀ c ∈ l, 48 ≤ c.toNat ∧ c.toNat ≤ 57) → vD acc l < 18446744073709551616 → parseUint10 acc l = .ok (vD acc l)
  | [], _, _, _ => rfl
  | c :: r, acc, hd, hv => by
    have hc := hd c (List.mem_cons_self ..)
    have e : vD acc (c :: r) = vD (acc * 10 + (c.toNat - 48)) r := by
      show vD (if _ then _ else _) r = _
      rw [if_pos hc, Nat.mul_comm]
    rw [e] at hv ⊢
    have hge := vD_ge r (acc * 10 + (c.toNat - 48))
    simp only [parseUint10]
    rw [if_pos hc, if_neg (by omega), if_neg (by omega)]
    exact parse_digits r _ (fun x hx => hd x (List.mem_cons_of_mem _ hx)) hv
theorem parse_dec (u : Nat) (h : u < 18446744073709551616) : parseMag (decDigits u) = .ok u := by
  unfold parseMag
  rw [if_neg (dec_ne u), parse_digits _ _ (dec_digit u) (by rw [vD_dec]; exact h), vD_dec]
theorem atoi_itoa (n : Int) (h0 : -9223372036854775808 ≤ n) (h1 : n ≤ 9223372036854775807) : atoiAll (itoa n) = .ok n := by
  by_cases hn : n < 0
  · obtain ⟨u, rfl⟩ : ∃ u : Nat, n = -(u : Int) := ⟨n.natAbs, by omega⟩
    rw [itoa_neg u (by omega), atoiAll_minus, parse_dec u (by omega)]
    simp only [signed]
    rw [if_neg (by omega)]
  · obtain ⟨u, rfl⟩ : ∃ u : Nat, n = (u : Int) := ⟨n.toNat, by omega⟩
    rw [itoa_nonneg]
    have hp := parse_dec u (by omega)
    have hd := dec_digit u
    have hne := dec_ne u
    revert hp hd hne
    generalize decDigits u = l
    intro hp hd hne
    match l, hne with
    | c :: r, _ =>
      have hc := hd c (List.mem_cons_self ..)
      rw [atoiAll_plain c r (by omega) (by omega), hp]
      simp only [signless]
      rw [if_neg (by omega)]
theorem itoa_ne (n : Int) : itoa n ≠ [] := by
  unfold itoa
  split
  · simp
  · exact dec_ne _
theorem nDig_pow : ∀ (k u : Nat), u < 10 ^ k → 1 ≤ k → nDigits u ≤ k
  | 0, _, _, h => by omega
  | k + 1, u, h, _ => by
    by_cases hu : u < 10
    · rw [nDigits_small hu]; omega
    · rw [nDigits_big hu]
      rw [Nat.pow_succ] at h
      have hk : 1 ≤ k := by
        rcases Nat.eq_zero_or_pos k with rfl | hk
        · simp at h; omega
        · exact hk
      have := nDig_pow k (u / 10) (by omega) hk
      omega
/-- The text of a number of a list is at most 17 bytes long. -/
theorem itoa_len17 (n : Int) (h0 : -1000000000000000 ≤ n) (h1 : n ≤ 1000000000000000) : 1 ≤ (itoa n).length ∧ (itoa n).length ≤ 17 := by
  refine ⟨List.length_pos_iff.2 (itoa_ne n), ?_⟩
  by_cases hn : n < 0
  · obtain ⟨u, rfl⟩ : ∃ u : Nat, n = -(u : Int) := ⟨n.natAbs, by omega⟩
    rw [itoa_neg u (by omega), List.length_cons, decDigits_length]
    have := nDig_pow 16 u (by omega) (by omega)
    omega
  · obtain ⟨u, rfl⟩ : ∃ u : Nat, n = (u : Int) := ⟨n.toNat, by omega⟩
    rw [itoa_nonneg, decDigits_length]
    have := nDig_pow 16 u (by omega) (by omega)
    omega
/-- The number that a text tells, its sign and its digits. -/
def sgD (l : List UInt8) : Int := if l.head? = some 45 then -(vD 0 l : Int) else (vD 0 l : Int)
theorem sgD_itoa (n : Int) : sgD (itoa n) = n := by
  by_cases hn : n < 0
  · obtain ⟨u, rfl⟩ : ∃ u : Nat, n = -(u : Int) := ⟨n.natAbs, by omega⟩
    rw [itoa_neg u (by omega)]
    unfold sgD
    rw [List.head?_cons, if_pos rfl]
    have e : vD 0 (45 :: decDigits u) = vD 0 (decDigits u) := rfl
    rw [e, vD_dec]
  · obtain ⟨u, rfl⟩ : ∃ u : Nat, n = (u : Int) := ⟨n.toNat, by omega⟩
    rw [itoa_nonneg]
    unfold sgD
    rw [if_neg, vD_dec]
    intro h
    have hm : (45 : UInt8) ∈ decDigits u := List.mem_of_mem_head? h
    have := dec_digit u _ hm
    simp at this
/-- A number of a list. -/
def inVal (n : Int) : Bool := decide (-1000000000000000 ≤ n) && decide (n ≤ 1000000000000000)
theorem inVal_out {n : Int} (h : inVal n = true) : -1000000000000000 ≤ n ∧ n ≤ 1000000000000000 := by
  unfold inVal at h; simpa using h
theorem inVal_no {n : Int} (h : inVal n = false) : n < -1000000000000000 ∨ 1000000000000000 < n := by
  unfold inVal at h
  simp only [Bool.and_eq_false_iff, decide_eq_false_iff_not] at h
  omega
theorem inVal_in {n : Int} (h0 : -1000000000000000 ≤ n) (h1 : n ≤ 1000000000000000) : inVal n = true := by
  unfold inVal; rw [decide_eq_true h0, decide_eq_true h1]; rfl
/-- The number of a list that a text tells, if it is the number's text. -/
def rdO (l : List UInt8) : Option Int := if inVal (sgD l) = true ∧ itoa (sgD l) = l then some (sgD l) else none
theorem rdO_some {l : List UInt8} {v : Int} (h : rdO l = some v) : -1000000000000000 ≤ v ∧ v ≤ 1000000000000000 ∧ itoa v = l := by
  unfold rdO at h
  split at h
  · next hc =>
    injection h with h
    subst h
    have := inVal_out hc.1
    exact ⟨this.1, this.2, hc.2⟩
  · cases h
theorem rdO_mk {v : Int} (h0 : -1000000000000000 ≤ v) (h1 : v ≤ 1000000000000000) : rdO (itoa v) = some v := by
  unfold rdO
  rw [sgD_itoa, if_pos ⟨inVal_in h0 h1, rfl⟩]
theorem rdO_none {l : List UInt8} (h : rdO l = none) {v : Int} (h0 : -1000000000000000 ≤ v) (h1 : v ≤ 1000000000000000) : itoa v ≠ l := by
  intro e
  subst e
  rw [rdO_mk h0 h1] at h
  cases h
theorem rdO_len {l : List UInt8} {v : Int} (h : rdO l = some v) : 1 ≤ l.length ∧ l.length ≤ 17 := by
  obtain ⟨h0, h1, rfl⟩ := rdO_some h
  exact itoa_len17 v h0 h1
theorem rdO_atoi {l : List UInt8} {v : Int} (h : rdO l = some v) : parseIntB 64 l = .ok v := by
  obtain ⟨h0, h1, rfl⟩ := rdO_some h
  rw [parseIntB_64, atoi_itoa v (by omega) (by omega)]
theorem rdO_sg {l : List UInt8} {v : Int} (h : rdO l = some v) : sgD l = v := by
  obtain ⟨_, _, rfl⟩ := rdO_some h
  exact sgD_itoa v
end Go.Proofs.YtkmggoagboikgaaDoor.Dcn
