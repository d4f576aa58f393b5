/- What slides: plain facts, and the longest match. -/
import Derived.Test.YtbpmjgpfjlnlpaaUmi
namespace Go.Proofs.Ytbpmjgpfjlnlpaa
open Go.Proofs.Ytbpmjgpfjlnlpaa.Flo Go.RowKit

/-- How many of the first l letters at a place are those b places back. -/
def mtK (zs : List Int) (p b : Nat) : Nat → Nat
  | 0 => 0
  | l + 1 => if mtK zs p b l = l ∧ zs.getD (p + l) 0 = zs.getD (p - b + l) 0 then l + 1 else mtK zs p b l
theorem mt_full {zs : List Int} {p b : Nat} : ∀ k, (∀ j, j < k → zs.getD (p + j) 0 = zs.getD (p - b + j) 0) → mtK zs p b k = k
  | 0, _ => rfl
  | k + 1, h => by
    unfold mtK
    rw [if_pos ⟨mt_full k (fun j hj => h j (by omega)), h k (by omega)⟩]
theorem mt_stop {zs : List Int} {p b k : Nat} (h : ∀ j, j < k → zs.getD (p + j) 0 = zs.getD (p - b + j) 0) (hno : ¬ zs.getD (p + k) 0 = zs.getD (p - b + k) 0) : ∀ l, k ≤ l → mtK zs p b l = k
  | 0, hl => by
    obtain rfl : k = 0 := by omega
    rfl
  | l + 1, hl => by
    by_cases e : k = l + 1
    · rw [e]; exact mt_full (l + 1) (by rw [← e]; exact h)
    · have ih := mt_stop h hno l (by omega)
      unfold mtK
      rw [ih, if_neg]
      intro ⟨e1, e2⟩
      subst e1
      exact hno e2
theorem mt_le (zs : List Int) (p b : Nat) : ∀ l, mtK zs p b l ≤ l
  | 0 => Nat.le_refl _
  | l + 1 => by
    have := mt_le zs p b l
    unfold mtK
    split <;> omega
/-- The farthest back of the longest ones, the first b of them. -/
def bsK (zs : List Int) (p lim : Nat) : Nat → Nat × Nat
  | 0 => (0, 0)
  | b + 1 => if (bsK zs p lim b).2 < mtK zs p (b + 1) lim then (b + 1, mtK zs p (b + 1) lim) else bsK zs p lim b
theorem bs_le (zs : List Int) (p lim : Nat) : ∀ b, (bsK zs p lim b).2 ≤ lim ∧ (bsK zs p lim b).1 ≤ b
  | 0 => ⟨Nat.zero_le _, Nat.le_refl _⟩
  | b + 1 => by
    have h1 := bs_le zs p lim b
    have h2 := mt_le zs p (b + 1) lim
    unfold bsK
    split
    · exact ⟨h2, Nat.le_refl _⟩
    · exact ⟨h1.1, by omega⟩
theorem bs_step {zs : List Int} {p lim b k : Nat} (hk : mtK zs p (b + 1) lim = k) : bsK zs p lim (b + 1) = if (bsK zs p lim b).2 < k then (b + 1, k) else bsK zs p lim b := by
  subst hk; rfl
/-- Where the s-th triple begins, and the triples ahead of it. -/
def slK (zs : List Int) (m win : Nat) : Nat → Nat × List Int
  | 0 => (0, [])
  | s + 1 =>
    if (slK zs m win s).1 < m then
      ((slK zs m win s).1 + (bsK zs (slK zs m win s).1 (m - (slK zs m win s).1 - 1) (min win (slK zs m win s).1)).2 + 1,
       (slK zs m win s).2 ++ [((bsK zs (slK zs m win s).1 (m - (slK zs m win s).1 - 1) (min win (slK zs m win s).1)).1 : Int), ((bsK zs (slK zs m win s).1 (m - (slK zs m win s).1 - 1) (min win (slK zs m win s).1)).2 : Int), zs.getD ((slK zs m win s).1 + (bsK zs (slK zs m win s).1 (m - (slK zs m win s).1 - 1) (min win (slK zs m win s).1)).2) 0])
    else slK zs m win s
theorem sl_at (zs : List Int) (m win : Nat) : ∀ s, (slK zs m win s).1 ≤ m ∧ ((slK zs m win s).1 < m → s ≤ (slK zs m win s).1) ∧ (slK zs m win s).2.length ≤ 3 * (slK zs m win s).1
  | 0 => ⟨Nat.zero_le _, fun _ => Nat.le_refl _, Nat.le_refl _⟩
  | s + 1 => by
    have h := sl_at zs m win s
    by_cases e : (slK zs m win s).1 < m
    · have hb := (bs_le zs (slK zs m win s).1 (m - (slK zs m win s).1 - 1) (min win (slK zs m win s).1)).1
      have e2 : slK zs m win (s + 1) = ((slK zs m win s).1 + (bsK zs (slK zs m win s).1 (m - (slK zs m win s).1 - 1) (min win (slK zs m win s).1)).2 + 1,
       (slK zs m win s).2 ++ [((bsK zs (slK zs m win s).1 (m - (slK zs m win s).1 - 1) (min win (slK zs m win s).1)).1 : Int), ((bsK zs (slK zs m win s).1 (m - (slK zs m win s).1 - 1) (min win (slK zs m win s).1)).2 : Int), zs.getD ((slK zs m win s).1 + (bsK zs (slK zs m win s).1 (m - (slK zs m win s).1 - 1) (min win (slK zs m win s).1)).2) 0]) := if_pos e
      rw [e2]
      have h2 := h.2.1 e
      refine ⟨by omega, fun _ => by omega, ?_⟩
      simp
      omega
    · have e2 : slK zs m win (s + 1) = slK zs m win s := by
        show (if (slK zs m win s).1 < m then _ else slK zs m win s) = slK zs m win s
        rw [if_neg e]
      rw [e2]
      exact ⟨h.1, fun h3 => absurd h3 e, h.2.2⟩
theorem sl_next (zs : List Int) {m win s : Nat} (h : ¬ (slK zs m win s).1 < m) : slK zs m win (s + 1) = slK zs m win s := by
  show (if (slK zs m win s).1 < m then _ else slK zs m win s) = slK zs m win s
  rw [if_neg h]
theorem sl_end (zs : List Int) {m win s : Nat} (h : ¬ (slK zs m win s).1 < m) : ∀ t, slK zs m win (s + t) = slK zs m win s
  | 0 => rfl
  | t + 1 => by
    have ih := sl_end zs h t
    have e := sl_next zs (s := s + t) (by rw [ih]; exact h)
    rw [show s + (t + 1) = s + t + 1 from rfl, e, ih]
/-- All triples. -/
def slR (zs : List Int) (m win : Nat) : List Int := (slK zs m win m).2
theorem sl_last (zs : List Int) {m win s : Nat} (h : ¬ (slK zs m win s).1 < m) : (slK zs m win s).2 = slR zs m win := by
  unfold slR
  by_cases hs : s ≤ m
  · have := sl_end zs h (m - s)
    rw [show s + (m - s) = m by omega] at this
    rw [this]
  · have h2 : ¬ (slK zs m win m).1 < m := fun e => by
      have := (sl_at zs m win m).2.1 e
      omega
    have := sl_end zs h2 (s - m)
    rw [show m + (s - m) = s by omega] at this
    rw [this]
theorem if_fst (F L nb k : Nat) : ((if ((F, L) : Nat × Nat).2 < k then (nb, k) else (F, L)).1) = if L < k then nb else F := by by_cases h : L < k <;> simp [h]
theorem if_snd (F L nb k : Nat) : ((if ((F, L) : Nat × Nat).2 < k then (nb, k) else (F, L)).2) = if L < k then k else L := by by_cases h : L < k <;> simp [h]
set_option maxRecDepth 100000 in
set_option maxHeartbeats 8000000 in
theorem ma_a (a : Option Addr) (m cap : Nat) (zs : List Int) (p win lim : Nat) (w : World) (h : IRow w a m zs) (hm : m ≤ 64) (hp : p + lim < m) (hw64 : win ≤ 64) (hc : win ≤ p) :
    Calls Try.prog 83 #[.slice a m cap, .int .i64 (p : Int), .int .i64 (win : Int), .int .i64 (lim : Int)] w fun e w' => e = .returned (.tuple #[.int .i64 ((bsK zs p lim (min win p)).1 : Int), .int .i64 ((bsK zs p lim (min win p)).2 : Int)]) ∧ Drew w w' := by
  have HA := Lib.hid h
  clear h
  have hBp : win ≤ p := by omega
  rw [show min win p = win by omega]
  have dm1 : decide ((p : Int) < (win : Int)) = false := decide_eq_false (by omega)
  have dm2 : decide ((win : Int) < (p : Int)) = decide (win < p) := by congr 1; exact propext ⟨by omega, by omega⟩
  have dm3 : ((win : Int) ≤ (p : Int)) := by omega
  go_enter Try.func83, Try.ntmps83
  go_wp2
  go_step3
  go_wp2
  go_step3
  go_wp2
  go_loopw [10, 11, 12] (fun fv lv bv w' => ∃ b q : Nat, b ≤ win ∧ fv = .int .i64 ((bsK zs p lim b).1 : Int) ∧ lv = .int .i64 ((bsK zs p lim b).2 : Int) ∧ bv = .int .i64 ((b + 1 : Nat) : Int) ∧ w' = w.drewN q) (fun _ _ bv _ => win + 1 - (intOf bv).toNat)
  case atStart => exact ⟨0, 0, by omega, rfl, rfl, rfl, (World.drewN_zero _).symm⟩
  case round =>
    obtain ⟨b, q, hb, rfl, rfl, rfl, rfl⟩ := hrel
    by_cases hlt : b < win
    · obtain ⟨nb, hnb⟩ : ∃ nb, nb = b + 1 := ⟨_, rfl⟩
      have HST := Lib.hid (fun k (hk : mtK zs p (b + 1) lim = k) => bs_step (zs := zs) (p := p) (lim := lim) (b := b) hk)
      have hbl := bs_le zs p lim b
      have hdle : decide ((nb : Int) ≤ (win : Int)) = true := decide_eq_true (by omega)
      have hdln : nb ≤ win := by omega
      have hdlm : decide (nb ≤ win) = true := decide_eq_true hdln
      rw [← hnb]
      rw [← hnb] at HST
      have hwn : IntKind.i64.wrap ((nb : Int) + 1) = ((nb + 1 : Nat) : Int) := by rw [IntWalk.i64_in _ (by omega)]; omega
      have HNB := Lib.hid hnb
      obtain ⟨⟨F, L⟩, hX⟩ : ∃ X, X = bsK zs p lim b := ⟨_, rfl⟩
      rw [← hX] at hbl
      rw [← hX]
      have HX := Lib.hid hX
      have HB1 : Hid (nb ≤ p) := Lib.hid (by omega)
      have HB2 : Hid (nb ≤ win) := Lib.hid (by omega)
      clear hX hnb
      have hL : L ≤ lim := hbl.1
      have hF : F ≤ b := hbl.2
      clear hbl
      go_wp2
      go_loopw [10, 11, 22] (fun fv lv iv w' => ∃ k q2 : Nat, k ≤ lim ∧ Hid (∀ j, j < k → zs.getD (p + j) 0 = zs.getD (p - nb + j) 0) ∧ fv = .int .i64 (((if L < k then nb else F : Nat)) : Int) ∧ lv = .int .i64 (((if L < k then k else L : Nat)) : Int) ∧ iv = .int .i64 k ∧ w' = w.drewN q2) (fun _ _ iv _ => lim - (intOf iv).toNat)
      case atStart => exact ⟨0, q, by omega, Lib.hid (by intro j hj; omega), by rw [if_neg (by omega)], by rw [if_neg (by omega)], rfl, rfl⟩
      case round =>
        obtain ⟨k, q2, hk, HE, rfl, rfl, rfl, rfl⟩ := hrel
        have hnp := HB1.out
        by_cases hlk : k < lim
        · obtain ⟨b1, o1, rfl, _, hckx⟩ := (HA.out).cell' (k := p + k) (by omega)
          have hcky : w.cell? ⟨b1, o1 + (p - nb + k), none⟩ = some (.int .i64 (zs.getD (p - nb + k) 0)) := by
            obtain ⟨b2, o2, e, _, hx⟩ := (HA.out).cell' (k := p - nb + k) (by omega)
            injection e with e; injection e with e1 e2; subst e1; subst e2; exact hx
          have HEN : Hid (zs.getD (p + k) 0 = zs.getD (p - nb + k) 0 → ∀ j, j < k + 1 → zs.getD (p + j) 0 = zs.getD (p - nb + j) 0) := Lib.hid (fun e0 j hj => by
            by_cases e : j < k
            · exact HE.out j e
            · obtain rfl : j = k := by omega
              exact e0)
          have HMT : Hid (¬ zs.getD (p + k) 0 = zs.getD (p - nb + k) 0 → mtK zs p nb lim = k) := Lib.hid (fun e0 => mt_stop HE.out e0 lim hk)
          obtain ⟨xx, hxx⟩ : ∃ xx, xx = p + k := ⟨_, rfl⟩
          obtain ⟨dd, hdd⟩ : ∃ dd, dd = p - nb := ⟨_, rfl⟩
          obtain ⟨yy, hyy⟩ : ∃ yy, yy = dd + k := ⟨_, rfl⟩
          have hwx : IntKind.i64.wrap ((p : Int) + (k : Int)) = (xx : Int) := by rw [IntWalk.i64_in _ (by omega)]; omega
          have hwd : IntKind.i64.wrap ((p : Int) - (nb : Int)) = (dd : Int) := by rw [IntWalk.i64_in _ (by omega)]; omega
          have hwy : IntKind.i64.wrap ((dd : Int) + (k : Int)) = (yy : Int) := by rw [IntWalk.i64_in _ (by omega)]; omega
          have hxm : xx < m := by omega
          have hym : yy < m := by omega
          rw [← hxx] at hckx HEN HMT
          rw [← hdd, ← hyy] at hcky
          rw [← hdd] at HEN HMT
          rw [← hyy] at HEN HMT
          have HDD := Lib.hid hdd
          have HST2 := Lib.hid (fun e0 => HST.out k (HMT.out e0))
          clear hxx hdd hyy HE
          by_cases he : zs.getD xx 0 = zs.getD yy 0
          · have HEN2 := Lib.hid (HEN.out he)
            rw [← he] at hcky
            generalize zs.getD xx 0 = c at hckx hcky
            have hcc : (c != c) = false := by simp
            clear he HEN HMT HST2
            have hwk : IntKind.i64.wrap ((k : Int) + 1) = ((k + 1 : Nat) : Int) := by rw [IntWalk.i64_in _ (by omega)]; omega
            by_cases hLk : L < k
            · rw [if_pos hLk, if_pos hLk]
              have d1 : decide ((k : Int) < (k : Int) + 1) = true := decide_eq_true (by omega)
              go_wp2
              go_region_with fail
              all_goals
                go_wp2
                exact ⟨⟨k + 1, _, by omega, Lib.hid (by rw [← HDD.out]; exact HEN2.out), by rw [if_pos (by omega)], by rw [if_pos (by omega)]; first | rfl | go_num | (congr 1), by first | rfl | go_num | (congr 1), rfl⟩, by show lim - ((k : Int) + 1).toNat < lim - (k : Int).toNat; omega⟩
            · rw [if_neg hLk, if_neg hLk]
              by_cases hLk2 : L < k + 1
              · have d1 : decide ((L : Int) < (k : Int) + 1) = true := decide_eq_true (by omega)
                go_wp2
                go_region_with fail
                all_goals
                  go_wp2
                  exact ⟨⟨k + 1, _, by omega, Lib.hid (by rw [← HDD.out]; exact HEN2.out), by rw [if_pos hLk2], by rw [if_pos hLk2]; first | rfl | go_num | (congr 1), by first | rfl | go_num | (congr 1), rfl⟩, by show lim - ((k : Int) + 1).toNat < lim - (k : Int).toNat; omega⟩
              · have d1 : decide ((L : Int) < (k : Int) + 1) = false := decide_eq_false (by omega)
                go_wp2
                go_region_with fail
                all_goals
                  go_wp2
                  exact ⟨⟨k + 1, _, by omega, Lib.hid (by rw [← HDD.out]; exact HEN2.out), by rw [if_neg hLk2], by rw [if_neg hLk2], by first | rfl | go_num | (congr 1), rfl⟩, by show lim - ((k : Int) + 1).toNat < lim - (k : Int).toNat; omega⟩
          · have HS3 := Lib.hid (HST2.out he)
            generalize zs.getD xx 0 = c at hckx he
            generalize zs.getD yy 0 = c2 at hcky he
            have hcc : (c != c2) = true := by simpa using he
            clear he HEN HMT HST2
            obtain ⟨F2, hF2⟩ : ∃ F2, F2 = (if L < k then nb else F) := ⟨_, rfl⟩
            obtain ⟨L2, hL2⟩ : ∃ L2, L2 = (if L < k then k else L) := ⟨_, rfl⟩
            rw [← hF2, ← hL2]
            have HF2 := Lib.hid hF2
            have HL2 := Lib.hid hL2
            clear hF2 hL2
            go_wp2
            go_region_with fail
            all_goals
              go_wp2
              exact ⟨⟨nb, _, HB2.out, by rw [HS3.out, ← HX.out, if_fst, HF2.out], by rw [HS3.out, ← HX.out, if_snd, HL2.out], by first | rfl | go_num | (congr 1), rfl⟩, by have := HB2.out; simp [intOf]; omega⟩
        · obtain rfl : k = lim := by omega
          have HS3 := Lib.hid (HST.out k (mt_full k HE.out))
          obtain ⟨F2, hF2⟩ : ∃ F2, F2 = (if L < k then nb else F) := ⟨_, rfl⟩
          obtain ⟨L2, hL2⟩ : ∃ L2, L2 = (if L < k then k else L) := ⟨_, rfl⟩
          rw [← hF2, ← hL2]
          have HF2 := Lib.hid hF2
          have HL2 := Lib.hid hL2
          clear hF2 hL2
          go_wp2
          exact ⟨⟨nb, _, HB2.out, by rw [HS3.out, ← HX.out, if_fst, HF2.out], by rw [HS3.out, ← HX.out, if_snd, HL2.out], by first | rfl | go_num | (congr 1), rfl⟩, by have := HB2.out; simp [intOf]; omega⟩
    · obtain rfl : b = win := by omega
      have hdle : decide (((b + 1 : Nat) : Int) ≤ (b : Int)) = false := decide_eq_false (by omega)
      go_wp2
      try rw [Exit.noGoto_ret]
      go_ret2
      exact ⟨rfl, Drew.mk _ _⟩
set_option maxRecDepth 100000 in
set_option maxHeartbeats 8000000 in
theorem ma_b (a : Option Addr) (m cap : Nat) (zs : List Int) (p win lim : Nat) (w : World) (h : IRow w a m zs) (hm : m ≤ 64) (hp : p + lim < m) (hw64 : win ≤ 64) (hc : ¬ win ≤ p) :
    Calls Try.prog 83 #[.slice a m cap, .int .i64 (p : Int), .int .i64 (win : Int), .int .i64 (lim : Int)] w fun e w' => e = .returned (.tuple #[.int .i64 ((bsK zs p lim (min win p)).1 : Int), .int .i64 ((bsK zs p lim (min win p)).2 : Int)]) ∧ Drew w w' := by
  have HA := Lib.hid h
  clear h
  have hBp : p ≤ p := by omega
  rw [show min win p = p by omega]
  have dm1 : decide ((p : Int) < (win : Int)) = true := decide_eq_true (by omega)
  have dm2 : decide ((win : Int) < (p : Int)) = false := decide_eq_false (by omega)
  have dm3 : ¬ ((win : Int) ≤ (p : Int)) := by omega
  go_enter Try.func83, Try.ntmps83
  go_wp2
  go_step3
  go_wp2
  go_step3
  go_wp2
  go_loopw [10, 11, 12] (fun fv lv bv w' => ∃ b q : Nat, b ≤ p ∧ fv = .int .i64 ((bsK zs p lim b).1 : Int) ∧ lv = .int .i64 ((bsK zs p lim b).2 : Int) ∧ bv = .int .i64 ((b + 1 : Nat) : Int) ∧ w' = w.drewN q) (fun _ _ bv _ => p + 1 - (intOf bv).toNat)
  case atStart => exact ⟨0, 0, by omega, rfl, rfl, rfl, (World.drewN_zero _).symm⟩
  case round =>
    obtain ⟨b, q, hb, rfl, rfl, rfl, rfl⟩ := hrel
    by_cases hlt : b < p
    · obtain ⟨nb, hnb⟩ : ∃ nb, nb = b + 1 := ⟨_, rfl⟩
      have HST := Lib.hid (fun k (hk : mtK zs p (b + 1) lim = k) => bs_step (zs := zs) (p := p) (lim := lim) (b := b) hk)
      have hbl := bs_le zs p lim b
      have hdle : decide ((nb : Int) ≤ (p : Int)) = true := decide_eq_true (by omega)
      have hdln : nb ≤ p := by omega
      have hdlm : decide (nb ≤ p) = true := decide_eq_true hdln
      rw [← hnb]
      rw [← hnb] at HST
      have hwn : IntKind.i64.wrap ((nb : Int) + 1) = ((nb + 1 : Nat) : Int) := by rw [IntWalk.i64_in _ (by omega)]; omega
      have HNB := Lib.hid hnb
      obtain ⟨⟨F, L⟩, hX⟩ : ∃ X, X = bsK zs p lim b := ⟨_, rfl⟩
      rw [← hX] at hbl
      rw [← hX]
      have HX := Lib.hid hX
      have HB1 : Hid (nb ≤ p) := Lib.hid (by omega)
      have HB2 : Hid (nb ≤ p) := Lib.hid (by omega)
      clear hX hnb
      have hL : L ≤ lim := hbl.1
      have hF : F ≤ b := hbl.2
      clear hbl
      go_wp2
      go_loopw [10, 11, 22] (fun fv lv iv w' => ∃ k q2 : Nat, k ≤ lim ∧ Hid (∀ j, j < k → zs.getD (p + j) 0 = zs.getD (p - nb + j) 0) ∧ fv = .int .i64 (((if L < k then nb else F : Nat)) : Int) ∧ lv = .int .i64 (((if L < k then k else L : Nat)) : Int) ∧ iv = .int .i64 k ∧ w' = w.drewN q2) (fun _ _ iv _ => lim - (intOf iv).toNat)
      case atStart => exact ⟨0, q, by omega, Lib.hid (by intro j hj; omega), by rw [if_neg (by omega)], by rw [if_neg (by omega)], rfl, rfl⟩
      case round =>
        obtain ⟨k, q2, hk, HE, rfl, rfl, rfl, rfl⟩ := hrel
        have hnp := HB1.out
        by_cases hlk : k < lim
        · obtain ⟨b1, o1, rfl, _, hckx⟩ := (HA.out).cell' (k := p + k) (by omega)
          have hcky : w.cell? ⟨b1, o1 + (p - nb + k), none⟩ = some (.int .i64 (zs.getD (p - nb + k) 0)) := by
            obtain ⟨b2, o2, e, _, hx⟩ := (HA.out).cell' (k := p - nb + k) (by omega)
            injection e with e; injection e with e1 e2; subst e1; subst e2; exact hx
          have HEN : Hid (zs.getD (p + k) 0 = zs.getD (p - nb + k) 0 → ∀ j, j < k + 1 → zs.getD (p + j) 0 = zs.getD (p - nb + j) 0) := Lib.hid (fun e0 j hj => by
            by_cases e : j < k
            · exact HE.out j e
            · obtain rfl : j = k := by omega
              exact e0)
          have HMT : Hid (¬ zs.getD (p + k) 0 = zs.getD (p - nb + k) 0 → mtK zs p nb lim = k) := Lib.hid (fun e0 => mt_stop HE.out e0 lim hk)
          obtain ⟨xx, hxx⟩ : ∃ xx, xx = p + k := ⟨_, rfl⟩
          obtain ⟨dd, hdd⟩ : ∃ dd, dd = p - nb := ⟨_, rfl⟩
          obtain ⟨yy, hyy⟩ : ∃ yy, yy = dd + k := ⟨_, rfl⟩
          have hwx : IntKind.i64.wrap ((p : Int) + (k : Int)) = (xx : Int) := by rw [IntWalk.i64_in _ (by omega)]; omega
          have hwd : IntKind.i64.wrap ((p : Int) - (nb : Int)) = (dd : Int) := by rw [IntWalk.i64_in _ (by omega)]; omega
          have hwy : IntKind.i64.wrap ((dd : Int) + (k : Int)) = (yy : Int) := by rw [IntWalk.i64_in _ (by omega)]; omega
          have hxm : xx < m := by omega
          have hym : yy < m := by omega
          rw [← hxx] at hckx HEN HMT
          rw [← hdd, ← hyy] at hcky
          rw [← hdd] at HEN HMT
          rw [← hyy] at HEN HMT
          have HDD := Lib.hid hdd
          have HST2 := Lib.hid (fun e0 => HST.out k (HMT.out e0))
          clear hxx hdd hyy HE
          by_cases he : zs.getD xx 0 = zs.getD yy 0
          · have HEN2 := Lib.hid (HEN.out he)
            rw [← he] at hcky
            generalize zs.getD xx 0 = c at hckx hcky
            have hcc : (c != c) = false := by simp
            clear he HEN HMT HST2
            have hwk : IntKind.i64.wrap ((k : Int) + 1) = ((k + 1 : Nat) : Int) := by rw [IntWalk.i64_in _ (by omega)]; omega
            by_cases hLk : L < k
            · rw [if_pos hLk, if_pos hLk]
              have d1 : decide ((k : Int) < (k : Int) + 1) = true := decide_eq_true (by omega)
              go_wp2
              go_region_with fail
              all_goals
                go_wp2
                exact ⟨⟨k + 1, _, by omega, Lib.hid (by rw [← HDD.out]; exact HEN2.out), by rw [if_pos (by omega)], by rw [if_pos (by omega)]; first | rfl | go_num | (congr 1), by first | rfl | go_num | (congr 1), rfl⟩, by show lim - ((k : Int) + 1).toNat < lim - (k : Int).toNat; omega⟩
            · rw [if_neg hLk, if_neg hLk]
              by_cases hLk2 : L < k + 1
              · have d1 : decide ((L : Int) < (k : Int) + 1) = true := decide_eq_true (by omega)
                go_wp2
                go_region_with fail
                all_goals
                  go_wp2
                  exact ⟨⟨k + 1, _, by omega, Lib.hid (by rw [← HDD.out]; exact HEN2.out), by rw [if_pos hLk2], by rw [if_pos hLk2]; first | rfl | go_num | (congr 1), by first | rfl | go_num | (congr 1), rfl⟩, by show lim - ((k : Int) + 1).toNat < lim - (k : Int).toNat; omega⟩
              · have d1 : decide ((L : Int) < (k : Int) + 1) = false := decide_eq_false (by omega)
                go_wp2
                go_region_with fail
                all_goals
                  go_wp2
                  exact ⟨⟨k + 1, _, by omega, Lib.hid (by rw [← HDD.out]; exact HEN2.out), by rw [if_neg hLk2], by rw [if_neg hLk2], by first | rfl | go_num | (congr 1), rfl⟩, by show lim - ((k : Int) + 1).toNat < lim - (k : Int).toNat; omega⟩
          · have HS3 := Lib.hid (HST2.out he)
            generalize zs.getD xx 0 = c at hckx he
            generalize zs.getD yy 0 = c2 at hcky he
            have hcc : (c != c2) = true := by simpa using he
            clear he HEN HMT HST2
            obtain ⟨F2, hF2⟩ : ∃ F2, F2 = (if L < k then nb else F) := ⟨_, rfl⟩
            obtain ⟨L2, hL2⟩ : ∃ L2, L2 = (if L < k then k else L) := ⟨_, rfl⟩
            rw [← hF2, ← hL2]
            have HF2 := Lib.hid hF2
            have HL2 := Lib.hid hL2
            clear hF2 hL2
            go_wp2
            go_region_with fail
            all_goals
              go_wp2
              exact ⟨⟨nb, _, HB2.out, by rw [HS3.out, ← HX.out, if_fst, HF2.out], by rw [HS3.out, ← HX.out, if_snd, HL2.out], by first | rfl | go_num | (congr 1), rfl⟩, by have := HB2.out; simp [intOf]; omega⟩
        · obtain rfl : k = lim := by omega
          have HS3 := Lib.hid (HST.out k (mt_full k HE.out))
          obtain ⟨F2, hF2⟩ : ∃ F2, F2 = (if L < k then nb else F) := ⟨_, rfl⟩
          obtain ⟨L2, hL2⟩ : ∃ L2, L2 = (if L < k then k else L) := ⟨_, rfl⟩
          rw [← hF2, ← hL2]
          have HF2 := Lib.hid hF2
          have HL2 := Lib.hid hL2
          clear hF2 hL2
          go_wp2
          exact ⟨⟨nb, _, HB2.out, by rw [HS3.out, ← HX.out, if_fst, HF2.out], by rw [HS3.out, ← HX.out, if_snd, HL2.out], by first | rfl | go_num | (congr 1), rfl⟩, by have := HB2.out; simp [intOf]; omega⟩
    · obtain rfl : b = p := by omega
      have hdle : decide (((b + 1 : Nat) : Int) ≤ (b : Int)) = false := decide_eq_false (by omega)
      go_wp2
      try rw [Exit.noGoto_ret]
      go_ret2
      exact ⟨rfl, Drew.mk _ _⟩
theorem ma_impl (a : Option Addr) (m cap : Nat) (zs : List Int) (p win lim : Nat) (w : World) (h : IRow w a m zs) (hm : m ≤ 64) (hp : p + lim < m) (hw64 : win ≤ 64) :
    Calls Try.prog 83 #[.slice a m cap, .int .i64 (p : Int), .int .i64 (win : Int), .int .i64 (lim : Int)] w fun e w' => e = .returned (.tuple #[.int .i64 ((bsK zs p lim (min win p)).1 : Int), .int .i64 ((bsK zs p lim (min win p)).2 : Int)]) ∧ Drew w w' := by
  by_cases hc : win ≤ p
  · exact ma_a a m cap zs p win lim w h hm hp hw64 hc
  · exact ma_b a m cap zs p win lim w h hm hp hw64 hc
end Go.Proofs.Ytbpmjgpfjlnlpaa
