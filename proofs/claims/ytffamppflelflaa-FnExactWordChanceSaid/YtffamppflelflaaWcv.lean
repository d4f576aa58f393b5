/- WordChance: plain facts. -/
import Derived.Test.YtffamppflelflaaThw
import Derived.Test.YtffamppflelflaaFla
namespace Go.Proofs.Ytffamppflelflaa
open Go.Proofs.Ytffamppflelflaa.Flo Go.RowKit

/-- All cells are 32-bit words. -/
def Wf (zs : List Nat) (n : Nat) : Prop := ∀ k, k < n → zs.getD k 0 < 2 ^ 32
section
open Go.ChangeShapes Go.WideShapes Go.Deep
variable {H : Type} {enc : TypeId × Value → H} {P : Program} {w : World} {base : Nat} {spare : Nat → Bool} {held : Bool}
theorem open_frow2 {t e : TypeId} {fuel : Nat} {a : Option Addr} {len cap : Nat} {x : DataW H × List MemPlace} (ht : P.underlying t = some (.slice e)) (he : P.underlying e = some (.float .f32)) (hc : P.cellsOf e = 1)
    (h : DataW.trod enc P w base spare held fuel t [.slice a len cap] = some x) : ∃ zs, FRow w a len zs ∧ Wf zs len := by
  rcases open_slice1 ht hc h with ⟨hcs, _⟩ | ⟨y, l, c, m, n, V, D, Pl, hcs, _, hl, hm, hmm, _, hx⟩
  · simp at hcs
    obtain ⟨rfl, rfl, rfl⟩ := hcs
    exact ⟨[], ⟨rfl, .inl rfl⟩, fun k hk => by omega⟩
  · simp at hcs
    obtain ⟨rfl, rfl, rfl⟩ := hcs
    have hlm : len ≤ m := by rw [hmm]; split <;> omega
    have key : ∀ i, ∃ z : Nat, i < len → w.cell? (y.add i) = some (.float .f32 z) ∧ z < 2 ^ 32 := fun i => by
      by_cases hi : i < len
      · obtain ⟨hcell, htr⟩ := hx i (by omega)
        obtain ⟨z, hz, _, hwf⟩ := trod_float he htr
        exact ⟨z, fun _ => ⟨by rw [hcell]; simp at hz; rw [hz], lt32 hwf⟩⟩
      · exact ⟨0, fun h => absurd h hi⟩
    have key2 : ∃ f : Nat → Nat, ∀ i, i < len → w.cell? (y.add i) = some (.float .f32 (f i)) ∧ f i < 2 ^ 32 := ⟨fun i => (key i).choose, fun i => (key i).choose_spec⟩
    obtain ⟨f, hfw⟩ := key2
    have hf : ∀ i, i < len → w.cell? (y.add i) = some (.float .f32 (f i)) := fun i hi => (hfw i hi).1
    by_cases h0 : len = 0
    · exact ⟨[], ⟨by simp [h0], .inl h0⟩, fun k hk => by omega⟩
    have h00 : w.cell? y = some (.float .f32 (f 0)) := hf 0 (by omega)
    have hs : y.spot = none := by
      unfold World.cell? at h00
      split at h00
      · split at h00
        · cases h00
        · rename_i hn; cases hy : y.spot with
          | none => rfl
          | some s => rw [hy] at hn; simp at hn
      · cases h00
    have hb : y.block < w.heap.size := by
      unfold World.cell? at h00
      split at h00
      · rename_i hh; exact (Array.getElem?_eq_some_iff.1 hh).1
      · cases h00
    obtain ⟨b, off, spot⟩ := y
    simp at hs
    subst hs
    refine ⟨(List.range len).map f, ⟨by simp, .inr ⟨b, off, rfl, hb, fun i hi => ?_⟩⟩, fun k hk => by simpa [List.getD_eq_getElem?_getD, hk] using (hfw k hk).2⟩
    have := hf i hi
    rw [show (⟨b, off, none⟩ : Addr).add i = ⟨b, off + i, none⟩ by unfold Addr.add; split <;> simp_all] at this
    rw [this]
    simp [List.getD_eq_getElem?_getD, hi]
end

theorem one_mul32 {x : Nat} (hx : x < 2 ^ 32) (hf : finD ((FloatKind.f32).decode x) = true) : floatBits .mul .f32 1065353216 x = some x := by
  obtain ⟨s, r, rfl, hr⟩ : ∃ s r, x = (FloatKind.f32).format.word s r ∧ r < 2 ^ 31 := by
    by_cases h : x < 2 ^ 31
    · exact ⟨false, x, rfl, h⟩
    · exact ⟨true, x - 2 ^ 31, by show x = 2 ^ 31 + (x - 2 ^ 31); omega, by omega⟩
  have hsw : r < (FloatKind.f32).format.signWeight := hr
  have hrd := read_word (FloatKind.f32).format s r hsw
  have hf2 : finD ((FloatKind.f32).format.read ((FloatKind.f32).format.word s r)) = true := hf
  by_cases h0 : r = 0
  · subst h0; cases s <;> decide +kernel
  have key : ∀ {m : Nat} {i : Int}, (FloatKind.f32).format.read ((FloatKind.f32).format.word s r) = .number s m i → r < (FloatKind.f32).format.infRung → floatBits .mul .f32 1065353216 ((FloatKind.f32).format.word s r) = some ((FloatKind.f32).format.word s r) := by
    intro m i he hri
    have hn := nearest_exact (FloatKind.f32).format s r hri h0 23
    rw [he] at hn
    have hn : ∀ t, (FloatKind.f32).format.nearest t (m <<< 23) (i - 23) = (FloatKind.f32).format.word t r := hn
    show ((((FloatKind.f32).decode one32).product ((FloatKind.f32).format.read ((FloatKind.f32).format.word s r))).map (FloatKind.f32).format.write) = _
    rw [dec_one32, he]
    show some ((FloatKind.f32).format.nearest (false ^^ s) (2 ^ 23 * m) (-23 + i)) = _
    rw [Bool.false_xor, show 2 ^ 23 * m = m <<< 23 by rw [Nat.shiftLeft_eq, Nat.mul_comm], show (-23 + i : Int) = i - 23 by omega, hn]
  by_cases h1 : r < (FloatKind.f32).format.binade
  · rw [if_pos h1] at hrd
    exact key hrd (Nat.lt_of_lt_of_le h1 (by decide))
  · rw [if_neg h1] at hrd
    by_cases h2 : r < (FloatKind.f32).format.infRung
    · rw [if_pos h2] at hrd
      exact key hrd h2
    · rw [if_neg h2] at hrd
      rw [hrd] at hf2
      split at hf2 <;> cases hf2
/-- The letters of a word. -/
def wl (zw : List Int) (i : Nat) : Nat := (zw.getD i 0).toNat
def letterB (zw : List Int) (R j : Nat) : Bool := decide (0 ≤ zw.getD j 0 ∧ zw.getD j 0 < (R : Int))
def lettersB (zw : List Int) (k R : Nat) : Bool := decide (∀ j, j < k → letterB zw R j = true)
def wordN (zr zc : List Nat) (C : Nat) (zw : List Int) : Nat → Nat
  | 0 => zr.getD (wl zw 0) 0
  | i + 1 => (floatBits .mul .f32 (wordN zr zc C zw i) (zc.getD (wl zw i * C + wl zw (i + 1)) 0)).getD 0
def okWc (r c : Int) (zc : List Nat) (n : Nat) (zr : List Nat) (m : Nat) (zw : List Int) (k : Nat) : Bool := takeB r c zc n zr m && (decide (r = c) && (decide (1 ≤ k ∧ k ≤ 64) && lettersB zw k r.toNat))
theorem letter_out {zw : List Int} {R j : Nat} (h : letterB zw R j = true) : zw.getD j 0 = (wl zw j : Int) ∧ wl zw j < R := by
  have := of_decide_eq_true h
  unfold wl
  omega
theorem ch_num1 {zs : List Nat} {n k : Nat} (h : rowB zs n = true) (hk : k < n) : VLe .f32 1 (some (zs.getD k 0)) := by
  have h1 := ch_le (row_n h).2 hk
  rwa [fin_cls (row_num h hk).2] at h1
theorem word_step {zr zc : List Nat} {R k : Nat} {zw : List Int} (hr : rowB zr R = true) (hc : rowsB zc R R = true) (hl : ∀ j, j < k → letterB zw R j = true) (hk : k ≤ 64) : ∀ i, i < k →
    VLe .f32 ((i : Int) + 1) (some (wordN zr zc R zw i)) ∧ (i + 1 < k → floatBits .mul .f32 (wordN zr zc R zw i) (zc.getD (wl zw i * R + wl zw (i + 1)) 0) = some (wordN zr zc R zw (i + 1))) := by
  have hmul : ∀ i, i + 1 < k → VLe .f32 ((i : Int) + 1) (some (wordN zr zc R zw i)) → ∃ z, floatBits .mul .f32 (wordN zr zc R zw i) (zc.getD (wl zw i * R + wl zw (i + 1)) 0) = some z ∧ VLe .f32 (((i + 1 : Nat) : Int) + 1) (some z) := by
    intro i hi h
    have a1 := (letter_out (hl i (by omega))).2
    have a2 := (letter_out (hl (i + 1) hi)).2
    have h2 : VLe .f32 1 (some (zc.getD (wl zw i * R + wl zw (i + 1)) 0)) := by
      have := ch_num1 (rows_at hc a1) a2
      rwa [sub_get _ _ _ a2] at this
    have hv := vmul_le h h2 (show Norm .f32 ((i : Int) + 1 + 1) from ⟨by omega, by omega⟩)
    obtain ⟨z, hz, hzz⟩ := hv
    refine ⟨z, hz, ?_⟩
    rw [show (((i + 1 : Nat) : Int) + 1) = (i : Int) + 1 + 1 by omega]
    exact ⟨z, rfl, hzz⟩
  intro i
  induction i with
  | zero =>
    intro hi
    have a1 := (letter_out (hl 0 hi)).2
    have h1 : VLe .f32 ((0 : Nat) + 1 : Int) (some (wordN zr zc R zw 0)) := ch_num1 hr a1
    refine ⟨h1, fun h2 => ?_⟩
    obtain ⟨z, hz, _⟩ := hmul 0 h2 h1
    show _ = some ((floatBits .mul .f32 (wordN zr zc R zw 0) (zc.getD (wl zw 0 * R + wl zw (0 + 1)) 0)).getD 0)
    rw [hz]; rfl
  | succ i ih =>
    intro hi
    obtain ⟨h1, h2⟩ := ih (by omega)
    have h2 := h2 hi
    obtain ⟨z, hz, hzv⟩ := hmul i hi h1
    rw [h2] at hz
    obtain rfl : wordN zr zc R zw (i + 1) = z := by injection hz
    refine ⟨hzv, fun h3 => ?_⟩
    obtain ⟨z, hz, _⟩ := hmul (i + 1) h3 hzv
    show _ = some ((floatBits .mul .f32 (wordN zr zc R zw (i + 1)) (zc.getD (wl zw (i + 1) * R + wl zw (i + 1 + 1)) 0)).getD 0)
    rw [hz]; rfl
theorem irow_cell {w : World} {a : Option Addr} {n : Nat} {zs : List Int} (h : IRow w a n zs) {k : Nat} (hk : k < n) : ∃ b off, a = some ⟨b, off, none⟩ ∧ w.cell? ⟨b, off + k, none⟩ = some (.int .i64 (zs.getD k 0)) := by
  rcases h.2 with h0 | ⟨b, off, ha, _, hc⟩
  · omega
  · exact ⟨b, off, ha, hc k hk⟩
theorem IRow.alloc' {w : World} {a : Option Addr} {n : Nat} {zs : List Int} (h : IRow w a n zs) (o : Obj) : IRow (w.alloc o) a n zs := h.below (below_alloc w o)
end Go.Proofs.Ytffamppflelflaa
