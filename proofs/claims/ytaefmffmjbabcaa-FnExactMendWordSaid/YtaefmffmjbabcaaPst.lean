
/- Parities: rows in steps, the model's. -/
import Derived.Test.YtaefmffmjbabcaaPva
namespace Go.Proofs.Ytaefmffmjbabcaa
open Go.Proofs.Ytaefmffmjbabcaa.Flo Go.RowKit Go.Proofs.Ytaefmffmjbabcaa.Pr

/-- The first numbers of a row that is told by a function. -/
def rI (n : Nat) (f : Nat → Nat) : List Int := (List.range n).map (fun i => ((f i : Nat) : Int))
theorem rI_len (n : Nat) (f : Nat → Nat) : (rI n f).length = n := by simp [rI]
theorem rI_get {n : Nat} (f : Nat → Nat) {i : Nat} (h : i < n) : (rI n f).getD i 0 = ((f i : Nat) : Int) := by
  unfold rI
  rw [List.getD_eq_getElem?_getD, List.getElem?_map, List.getElem?_range h]
  rfl
theorem rI_ext {n : Nat} {L : List Int} {f : Nat → Nat} (hl : L.length = n) (h : ∀ i, i < n → L.getD i 0 = ((f i : Nat) : Int)) : L = rI n f := by
  apply List.ext_getElem?
  intro i
  by_cases e : i < n
  · have h1 := h i e
    have h2 := rI_get f e
    rw [List.getD_eq_getElem?_getD] at h1 h2
    rw [List.getElem?_eq_getElem (by omega)] at h1 ⊢
    rw [List.getElem?_eq_getElem (by rw [rI_len]; exact e)] at h2 ⊢
    simp only [Option.getD_some] at h1 h2
    rw [h1, h2]
  · rw [List.getElem?_eq_none (by omega), List.getElem?_eq_none (by rw [rI_len]; omega)]
theorem rI_congr {n : Nat} {f g : Nat → Nat} (h : ∀ i, i < n → f i = g i) : rI n f = rI n g := rI_ext (rI_len _ _) (fun i hi => by rw [rI_get f hi, h i hi])
theorem rI_set {n j : Nat} (f : Nat → Nat) (x : Nat) (h : j < n) : (rI n f).set j ((x : Nat) : Int) = rI n (upd f j x) := by
  refine rI_ext (by simp [rI_len]) (fun i hi => ?_)
  rw [getD_set _ _ _ _ (by rw [rI_len]; exact h)]
  by_cases e : i = j
  · subst e; rw [if_pos rfl, upd_at]
  · rw [if_neg e, upd_ne _ _ e, rI_get f hi]
theorem rI_zN {zs : List Int} {n r : Nat} (hl : zs.length = n) (h : woP zs n r) : zs = rI n (zN zs) := rI_ext hl (fun _ hi => (zN_at h hi).1)
/-- What the walk needs of the rows at each step. -/
theorem ech_at {z : Nat → Nat} {m n : Nat} (hz : ∀ j, j < n → z j < 2 ^ m) (hm : m ≤ 16) {b : Nat} (hb : b ≤ m) : (ech z m n b).k ≤ n ∧ ∀ j, j < n → (ech z m n b).f j < 2 ^ 16 := by
  obtain ⟨piv, H⟩ := ech_ok hz b hb
  exact ⟨H.le, fun j hj => Nat.lt_of_lt_of_le (H.word j hj) (Nat.pow_le_pow_right (by decide) hm)⟩
theorem fnd_on {r : Nat → Nat} {i n a : Nat} (ha : a < n) (h : (r a).testBit i = true) : fnd r i n (n - a) = a := by
  obtain ⟨m, hm⟩ : ∃ m, n - a = m + 1 := ⟨n - a - 1, by omega⟩
  rw [hm]
  unfold fnd
  rw [show n - (m + 1) = a by omega, if_pos h]
theorem fnd_off {r : Nat → Nat} {i n a : Nat} (ha : a < n) (h : (r a).testBit i = false) : fnd r i n (n - a) = fnd r i n (n - (a + 1)) := by
  obtain ⟨m, hm⟩ : ∃ m, n - a = m + 1 := ⟨n - a - 1, by omega⟩
  rw [hm]
  show (if (r (n - (m + 1))).testBit i then n - (m + 1) else fnd r i n m) = _
  rw [show n - (m + 1) = a by omega, h, show n - (a + 1) = m by omega]
  simp
theorem stp_hit {n i a : Nat} {f : Nat → Nat} {k : Nat} (h : fnd f i n (n - k) = a) (ha : a < n) : stp n i ⟨f, k⟩ = ⟨clr (swp f k a) k i n, k + 1⟩ := by
  unfold stp
  simp only [h, if_pos ha]
theorem stp_miss {n i : Nat} {f : Nat → Nat} {k : Nat} (h : fnd f i n (n - k) = n) : stp n i ⟨f, k⟩ = ⟨f, k⟩ := by
  unfold stp
  simp only [h, Nat.lt_irrefl, if_false]
theorem swp_put {n a k : Nat} (f : Nat → Nat) (ha : a < n) (hk : k < n) : ((rI n f).set a ((f k : Nat) : Int)).set k ((f a : Nat) : Int) = rI n (swp f k a) := by
  rw [rI_set f (f k) ha, rI_set _ (f a) hk]; rfl
theorem swp_lt {n a k r : Nat} {f : Nat → Nat} (ha : a < n) (hk : k < n) (h : ∀ j, j < n → f j < r) : ∀ j, j < n → swp f k a j < r := by
  intro j hj
  unfold swp
  by_cases e : j = k
  · subst e; rw [upd_at]; exact h a ha
  · rw [upd_ne _ _ e]
    by_cases e2 : j = a
    · subst e2; rw [upd_at]; exact h k hk
    · rw [upd_ne _ _ e2]; exact h j hj
theorem clr_zero {n : Nat} (h : Nat → Nat) (k i : Nat) : rI n (clr h k i 0) = rI n h := rI_congr (fun x _ => by simp [clr])
theorem clr_same {h : Nat → Nat} {k i j : Nat} : clr h k i j j = h j := by simp [clr]
theorem clr_k {h : Nat → Nat} {k i j : Nat} : clr h k i j k = h k := by simp [clr]
theorem clr_stay {n : Nat} {h : Nat → Nat} {k i j : Nat} (e : j = k ∨ (h j).testBit i = false) : rI n (clr h k i (j + 1)) = rI n (clr h k i j) := rI_congr (fun x _ => by
  simp only [clr]
  have : (x < j + 1 ∧ x ≠ k ∧ (h x).testBit i = true) ↔ (x < j ∧ x ≠ k ∧ (h x).testBit i = true) := by
    constructor
    · rintro ⟨h1, h2, h3⟩
      refine ⟨?_, h2, h3⟩
      by_cases e2 : x = j
      · subst e2
        rcases e with e | e
        · exact absurd e h2
        · rw [h3] at e; exact absurd e (by decide)
      · omega
    · rintro ⟨h1, h2⟩; exact ⟨by omega, h2⟩
  simp only [this])
theorem clr_put {n : Nat} {h : Nat → Nat} {k i j : Nat} (hj : j < n) (h1 : j ≠ k) (h2 : (h j).testBit i = true) : (rI n (clr h k i j)).set j ((h j ^^^ h k : Nat) : Int) = rI n (clr h k i (j + 1)) := by
  rw [rI_set _ _ hj]
  refine rI_congr (fun x _ => ?_)
  by_cases e : x = j
  · subst e; rw [upd_at]; simp [clr, h1, h2]
  · rw [upd_ne _ _ e]
    simp only [clr]
    have : (x < j + 1 ∧ x ≠ k ∧ (h x).testBit i = true) ↔ (x < j ∧ x ≠ k ∧ (h x).testBit i = true) := by
      constructor
      · rintro ⟨h1, h2⟩; exact ⟨by omega, h2⟩
      · rintro ⟨h1, h2⟩; exact ⟨by omega, h2⟩
    simp only [this]
set_option maxRecDepth 100000 in
set_option maxHeartbeats 8000000 in
theorem st_spec (m : Nat) (b o n cap : Nat) (zs : List Int) (w : World) (h : IRow w (some ⟨b, o, none⟩) n zs) (hm : 1 ≤ m ∧ m ≤ 16) (hn : 1 ≤ n ∧ n ≤ 8) (hz : woP zs n m) :
    Calls Try.prog 146 #[.int .i64 (m : Int), .slice (some ⟨b, o, none⟩) n cap] w fun e w' => ∃ g cp, e = .returned (.tuple #[.slice (some ⟨g, 0, none⟩) n cp, .int .i64 ((ech (zN zs) m n m).k : Int)]) ∧ New w w' g (.il n (rI n (ech (zN zs) m n m).f)) := by
  obtain ⟨i0, hi, hz0, hz1, hz2⟩ := info_parts Try.info64
  obtain ⟨hm1, hm2⟩ := hm
  obtain ⟨hn1, hn2⟩ := hn
  have HA := Lib.hid h
  have HZR := Lib.hid (rI_zN h.1 hz)
  have HZ : Hid (∀ b, b ≤ m → (ech (zN zs) m n b).k ≤ n ∧ ∀ j, j < n → (ech (zN zs) m n b).f j < 2 ^ 16) := Lib.hid (fun b hb => ech_at (fun j hj => (zN_at hz hj).2) hm2 hb)
  have HL : Hid ((zs.map (Value.int .i64)).length = n * 1) := Lib.hid (by rw [List.length_map, h.1, Nat.mul_one])
  have HE := Lib.hid (own_empty w 2)
  have HA2 := Lib.hid (h.alloc (.cells #[] 2))
  have hwm : IntKind.i64.wrap ((m : Int) - 1) = (m : Int) - 1 := IntWalk.i64_in _ (by omega)
  clear h hz
  go_enter Try.func146, Try.ntmps146
  go_wp2_with (first | (at_builtin; refine wpList_append_lies _ rfl _ _ 22 rfl (w.heap.size) 2 i0 (.int .i64 0) 1 8 Try.underlying22 hi hz0 hz1 hz2 rfl (by omega) (.slice (some ⟨w.heap.size, 0, none⟩) 0 0) 0 [] rfl HE.out ⟨b, o, none⟩ n cap (zs.map (Value.int .i64)) rfl HL.out (irow_news HA2.out) (one_cellsI zs) (by omega) (by unfold maxLen; omega) (by omega) (by simp) (w.heap.size + 1) (by simp) ?_; intro g cp w1 hown1 hgrow hat hlt2; (have HO := Lib.hid (by rw [Nat.zero_add] at hown1; simpa using hown1 : w1.ownsRow w.heap.size 2 1 (.slice (some ⟨g, 0, none⟩) n cp) n (zs.map (Value.int .i64)))); have HG := Lib.hid hgrow; clear hown1 hgrow hat hlt2) | fail)
  obtain ⟨hic, hgb⟩ := ICl.own HO.out (by omega)
  rw [HZR.out] at hic
  have HIC := Lib.hid hic
  have HB1 := Lib.hid (Below.grown (belowA _ _) HG.out (by simp) (own_block HE.out) : Below w.heap.size w w1)
  clear hic HO HG
  go_loopw [7, 8] (fun kv iv w' => ∃ (b' : Nat) (wr : World), b' ≤ m ∧ kv = .int .i64 ((ech (zN zs) m n b').k : Int) ∧ iv = .int .i64 ((m : Int) - 1 - b') ∧ wr = w' ∧ Hid (ICl wr g n (rI n (ech (zN zs) m n b').f)) ∧ Hid (Below w.heap.size w wr)) (fun _ iv _ => (intOf iv + 1).toNat)
  case atStart => exact ⟨0, _, by omega, rfl, by go_num, rfl, by rw [HZR.out] at *; exact HIC, HB1⟩
  case round =>
    obtain ⟨b', wr, hb', rfl, rfl, rfl, HI, HW⟩ := hrel
    by_cases hlt : b' < m
    · obtain ⟨i, hii⟩ : ∃ i, i = m - 1 - b' := ⟨_, rfl⟩
      have hie : (m : Int) - 1 - b' = (i : Int) := by omega
      have HS : Hid (ech (zN zs) m n (b' + 1) = stp n i (ech (zN zs) m n b')) := Lib.hid (by rw [hii]; rfl)
      obtain ⟨hkn, hfl⟩ := HZ.out b' hb'
      have HFL := Lib.hid hfl
      have hi16 : i < 16 := by omega
      rw [hie]
      clear hii hfl
      generalize ech (zN zs) m n b' = s at HI HS hkn HFL
      obtain ⟨f, k⟩ := s
      simp only at HI hkn HFL
      go_wp2
      go_loop [9] (fun av => ∃ a : Nat, k ≤ a ∧ a ≤ n ∧ av = .int .i64 a ∧ Hid (fnd f i n (n - k) = fnd f i n (n - a))) (fun av => n - (intOf av).toNat)
      case atStart => exact ⟨k, by omega, by omega, rfl, Lib.hid rfl⟩
      case round =>
        obtain ⟨a, hka, han, rfl, HA3⟩ := hrel
        by_cases hlt2 : a < n
        · have hck := (HI.out.cell hlt2).1
          rw [rI_get f hlt2] at hck
          have HFV : Hid (f a < 2 ^ 16) := Lib.hid (HFL.out a hlt2)
          cases ht : (f a).testBit i with
          | false =>
            have HA4 := Lib.hid (HA3.out.trans (fnd_off hlt2 ht))
            have HT := Lib.hid ht
            generalize f a = fa at hck HFV HT
            clear ht HA3
            go_wp2_with (first | (go_at_call 148; refine (has_spec fa i _ (by have := HFV.out; omega) (by omega)).mono ?_; rw [HT.out]; rintro e w' ⟨rfl, hw⟩; subst hw) | fail)
            go_round
            case rel => exact ⟨a + 1, by omega, by omega, by go_num, HA4⟩
            case measure => simp [intOf]; omega
          | true =>
            have HS2 := Lib.hid (HS.out.trans (stp_hit (HA3.out.trans (fnd_on hlt2 ht)) hlt2))
            have HT := Lib.hid ht
            have hkn2 : k < n := by omega
            have hckk := (HI.out.cell hkn2).1
            have hfa := (HI.out.cell hlt2).2
            have hfk := (HI.out.cell hkn2).2
            rw [rI_get f hkn2] at hckk
            have HP1 := Lib.hid (HI.out.put hlt2 ((f k : Nat) : Int))
            have HP2 : Hid (ICl ((wr.setCell ⟨g, a, none⟩ (.int .i64 ((f k : Nat) : Int))).setCell ⟨g, k, none⟩ (.int .i64 ((f a : Nat) : Int))) g n (rI n (swp f k a))) := Lib.hid (by rw [← swp_put f hlt2 hkn2]; exact HP1.out.put hkn2 _)
            have HSL : Hid (∀ j, j < n → swp f k a j < 2 ^ 16) := Lib.hid (swp_lt hlt2 hkn2 HFL.out)
            have hp1k := (HP1.out.cell hkn2).2
            have HW2 : Hid (Below w.heap.size w ((wr.setCell ⟨g, a, none⟩ (.int .i64 ((f k : Nat) : Int))).setCell ⟨g, k, none⟩ (.int .i64 ((f a : Nat) : Int)))) := Lib.hid (Below.setCell (Below.setCell HW.out hgb _) hgb _)
            have hp1c := (HP1.out.cell hkn2).1
            generalize ((rI n f).set a ((f k : Nat) : Int)).getD k 0 = X at hp1c
            generalize swp f k a = h at HP2 HSL HS2
            generalize f a = fa at hck HFV HT HP2 HW2
            generalize f k = fk at hckk HP1 HP2 HW2 hp1k hp1c
            clear ht HA3 HS
            have hwk : IntKind.i64.wrap ((k : Int) + 1) = (k : Int) + 1 := IntWalk.i64_in _ (by omega)
            have hwi : IntKind.i64.wrap ((i : Int) - 1) = (i : Int) - 1 := IntWalk.i64_in _ (by omega)
            have hane : ((a : Int) == (n : Int)) = false := by simp; omega
            go_wp2_with (first | (go_at_call 148; refine (has_spec fa i _ (by have := HFV.out; omega) (by omega)).mono ?_; rw [HT.out]; rintro e w' ⟨rfl, hw⟩; subst hw) | fail)
            go_loopw [11] (fun jv w' => ∃ (j : Nat) (wq : World), j ≤ n ∧ jv = .int .i64 j ∧ wq = w' ∧ Hid (ICl wq g n (rI n (clr h k i j))) ∧ Hid (Below w.heap.size w wq)) (fun jv _ => n - (intOf jv).toNat)
            case atStart => exact ⟨0, _, by omega, rfl, rfl, by rw [clr_zero]; exact HP2, HW2⟩
            case round =>
              clear HI HW HP1 HP2 HW2 hck hckk hfa hfk hp1k hp1c
              obtain ⟨j, wq, hj, rfl, rfl, HI, HW⟩ := hrel
              by_cases hlt3 : j < n
              · obtain ⟨hcj, hfj⟩ := HI.out.cell hlt3
                obtain ⟨hcc, _⟩ := HI.out.cell hkn2
                rw [rI_get _ hlt3, clr_same] at hcj
                rw [rI_get _ hkn2, clr_k] at hcc
                have HFV : Hid (h j < 2 ^ 16) := Lib.hid (HSL.out j hlt3)
                have HFK : Hid (h k < 2 ^ 16) := Lib.hid (HSL.out k hkn2)
                by_cases hjk : j = k
                · have HC := Lib.hid (clr_stay (n := n) (h := h) (k := k) (i := i) (j := j) (.inl hjk))
                  subst hjk
                  go_wp2
                  exact ⟨⟨j + 1, _, by omega, by first | rfl | go_num | (congr 1), rfl, by rw [HC.out]; exact HI, HW⟩, by show n - ((j : Int) + 1).toNat < n - (j : Int).toNat; omega⟩
                · have hne : ((j : Int) == (k : Int)) = false := by simp; omega
                  cases ht : (h j).testBit i with
                  | false =>
                    have HC := Lib.hid (clr_stay (n := n) (h := h) (k := k) (i := i) (j := j) (.inr ht))
                    have HT := Lib.hid ht
                    generalize h j = hh at hcj HFV HT
                    clear ht
                    go_wp2_with (first | (go_at_call 148; refine (has_spec hh i _ (by have := HFV.out; omega) (by omega)).mono ?_; rw [HT.out]; rintro e w' ⟨rfl, hw⟩; subst hw) | fail)
                    exact ⟨⟨j + 1, _, by omega, by first | rfl | go_num | (congr 1), rfl, by rw [HC.out]; exact HI, HW⟩, by show n - ((j : Int) + 1).toNat < n - (j : Int).toNat; omega⟩
                  | true =>
                    have HC := Lib.hid (clr_put (n := n) hlt3 hjk ht)
                    have HT := Lib.hid ht
                    have hbx := b_xor (h j) (h k) (by have := HFV.out; omega) (by have := HFK.out; omega)
                    generalize hhx : h j ^^^ h k = xx at hbx HC
                    have HP := Lib.hid (HI.out.put hlt3 ((xx : Nat) : Int))
                    rw [HC.out] at HP
                    generalize h j = hh at hcj HFV HT hbx hhx
                    generalize h k = hk2 at hcc HFK hbx hhx
                    clear ht hhx
                    go_wp2_with (first | (go_at_call 148; refine (has_spec hh i _ (by have := HFV.out; omega) (by omega)).mono ?_; rw [HT.out]; rintro e w' ⟨rfl, hw⟩; subst hw) | fail)
                    go_region_with fail
                    all_goals
                      go_wp2
                      exact ⟨⟨j + 1, _, by omega, by first | rfl | go_num | (congr 1), rfl, HP, Lib.hid (by repeat (first | exact HW.out | refine Below.drew ?_ | refine Below.drewN' ?_ _ | refine Below.setCell ?_ hgb _))⟩, by show n - ((j : Int) + 1).toNat < n - (j : Int).toNat; omega⟩
              · obtain rfl : j = n := by omega
                go_wp2
                exact ⟨⟨b' + 1, _, by omega, by rw [HS2.out]; first | rfl | go_num | (congr 1), by first | rfl | go_num | (congr 1; omega), rfl, by rw [HS2.out]; exact HI, HW⟩, by show ((i : Int) - 1 + 1).toNat < ((i : Int) + 1).toNat; omega⟩
        · obtain rfl : a = n := by omega
          have HS2 := Lib.hid (HS.out.trans (stp_miss (HA3.out.trans (by rw [Nat.sub_self]; rfl))))
          have hwi : IntKind.i64.wrap ((i : Int) - 1) = (i : Int) - 1 := IntWalk.i64_in _ (by omega)
          go_wp2
          exact ⟨⟨b' + 1, _, by omega, by rw [HS2.out], by first | rfl | go_num | (congr 1; omega), rfl, by rw [HS2.out]; exact HI, HW⟩, by show ((i : Int) - 1 + 1).toNat < ((i : Int) + 1).toNat; omega⟩
    · obtain rfl : b' = m := by omega
      have d1 : decide (0 ≤ (b' : Int) - 1 - b') = false := decide_eq_false (by omega)
      go_wp2
      exact bodyPost_ret (v := .tuple #[.slice (some ⟨g, 0, none⟩) n cp, .int .i64 ((ech (zN zs) b' n b').k : Int)]) (by simp [results, Try.results146, go_sem]) rfl
        ⟨g, cp, rfl, ICl.new HI.out hgb HW.out⟩
end Go.Proofs.Ytaefmffmjbabcaa
