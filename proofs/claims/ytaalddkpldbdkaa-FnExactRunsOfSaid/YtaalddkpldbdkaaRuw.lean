/- RunsOf: the functions. -/
import Derived.Test.YtaalddkpldbdkaaFrx
import Derived.Test.YtaalddkpldbdkaaBts
import Derived.Lib.OthersKept
import Derived.Deep.QuietTactic
import Derived.BigQuiet
namespace Go.Proofs.Ytaalddkpldbdkaa
open Go.Proofs.Ytaalddkpldbdkaa.Flo Go.RowKit

/-- The byte at a place, as a number. -/
def byN (s : ByteArray) (k : Nat) : Nat := ((s.data.toList[k]?).map (·.toNat)).getD 0
theorem byN_at {s : ByteArray} {k : Nat} (h : k < s.size) : (s[k]'h).toNat = byN s k := by
  unfold byN
  rw [List.getElem?_eq_getElem (by simpa using h)]
  rfl
/-- Does a run begin at a place? -/
def newB (s : ByteArray) : Nat → Bool
  | 0 => true
  | k + 1 => !(byN s (k + 1) == byN s k)
def incL (R : List Int) (r : Nat) : List Int := R.set r (IntKind.i64.wrap (R.getD r 0 + 1))
/-- The runs of the first k bits. -/
def ruL (s : ByteArray) : Nat → List Int
  | 0 => []
  | k + 1 => if newB s k then incL (ruL s k ++ [0]) (ruL s k).length else incL (ruL s k) ((ruL s k).length - 1)
theorem ru_new {s : ByteArray} {k r : Nat} (h : newB s k = true) (hr : (ruL s k).length = r) : ruL s (k + 1) = (ruL s k ++ [0]).set r (IntKind.i64.wrap (0 + 1)) ∧ (ruL s (k + 1)).length = r + 1 := by
  have e : ruL s (k + 1) = if newB s k then incL (ruL s k ++ [0]) (ruL s k).length else incL (ruL s k) ((ruL s k).length - 1) := rfl
  rw [e, h, if_pos rfl, hr]
  unfold incL
  have e2 : (ruL s k ++ [0]).getD r 0 = 0 := by rw [List.getD_eq_getElem?_getD, List.getElem?_append_right (by omega)]; simp [hr]
  rw [e2]
  exact ⟨rfl, by simp [hr]⟩
theorem ru_old {s : ByteArray} {k r : Nat} (h : newB s k = false) (hr : (ruL s k).length = r) : ruL s (k + 1) = (ruL s k).set (r - 1) (IntKind.i64.wrap ((ruL s k).getD (r - 1) 0 + 1)) ∧ (ruL s (k + 1)).length = r := by
  have e : ruL s (k + 1) = if newB s k then incL (ruL s k ++ [0]) (ruL s k).length else incL (ruL s k) ((ruL s k).length - 1) := rfl
  rw [e, h, if_neg (by decide), hr]
  exact ⟨rfl, by simp [incL, hr]⟩
theorem ru_len (s : ByteArray) : ∀ k, (ruL s k).length ≤ k ∧ (0 < k → 0 < (ruL s k).length) := by
  intro k
  induction k with
  | zero => exact ⟨Nat.le_refl _, fun h => absurd h (by omega)⟩
  | succ k ih =>
    cases h : newB s k with
    | true =>
      have := (ru_new h rfl).2
      omega
    | false =>
      have h2 := (ru_old h rfl).2
      have : 0 < k := by cases k with | zero => cases h | succ k => omega
      have := ih.2 this
      omega
theorem val_by {a b : Nat} (h : a = b) : Value.int .i32 (a : Int) = .int .i32 (b : Int) := by rw [h]
theorem app_map (L : List Int) (x : Int) : (L ++ [x]).map (Value.int .i64) = L.map (Value.int .i64) ++ [.int .i64 x] := by simp
theorem last0 {L : List Int} {r : Nat} (h : L.length = r) : (L ++ [0]).getD r 0 = 0 := by rw [List.getD_eq_getElem?_getD, List.getElem?_append_right (by omega)]; simp [h]
/-- The sign ahead of a place. -/
def befI (s : ByteArray) : Nat → Int
  | 0 => -1
  | k + 1 => (byN s k : Int)
theorem new_bef (s : ByteArray) : ∀ k, newB s k = !((byN s k : Int) == befI s k)
  | 0 => by
    have : ((byN s 0 : Int) == -1) = false := by simp
    show true = !((byN s 0 : Int) == -1)
    rw [this]; rfl
  | k + 1 => by
    show (!(byN s (k + 1) == byN s k)) = !((byN s (k + 1) : Int) == (byN s k : Int))
    congr 1
    rw [Bool.eq_iff_iff]
    simp only [beq_iff_eq]
    omega
theorem iterPos_of {w : World} {k p : Nat} {s : ByteArray} (h : w.heap[k]? = some (.stringIter s p)) : w.iterPos k = p := by
  unfold World.iterPos
  rw [h]
theorem grown_at {w w' : World} {row : Option Nat} {k : Nat} {o : Obj} (h : w.grownBy w' row) (hk : w.heap[k]? = some o) (hr : row ≠ some k) : w'.heap[k]? = some o := by
  obtain ⟨_, _, _, _, h5⟩ := h
  rw [h5 k (Array.getElem?_eq_some_iff.1 hk).1 (fun e => hr (by first | exact e | exact e.symm))]; exact hk
theorem own_iterAt {w : World} {base : Nat} {e : TypeId} {v : Value} {n : Nat} {xs : List Value} (h : w.ownsRow base e 1 v n xs) {k : Nat} (hk : k < base) (s : ByteArray) (p : Nat) : (w.iterAt k s p).ownsRow base e 1 v n xs := by
  obtain ⟨h1, h2⟩ := h
  refine ⟨h1, ?_⟩
  rcases h2 with h2 | ⟨g, cap, cur, hv, hg, hh, r⟩
  · exact .inl h2
  · exact .inr ⟨g, cap, cur, hv, hg, by rw [Lib.iterAt_other _ _ _ _ _ (by omega)]; exact hh, r⟩
set_option maxRecDepth 100000 in
set_option maxHeartbeats 8000000 in
theorem ruS (s : ByteArray) (w : World) (hs : s.size ≤ 1048576) (hok : bitsB s = true) (h0 : 0 < s.size) :
    Calls Try.prog 15 #[.string s] w fun e w' => ∃ g cp, e = .returned (.tuple #[.slice (some ⟨g, 0, none⟩) (ruL s s.size).length cp, .bool true]) ∧ New w w' g (.il (ruL s s.size).length (ruL s s.size)) := by
  obtain ⟨i0, hi, hz0, hz1, hz2⟩ := info_parts Try.info64
  have hst : ∀ (a : Addr) (m : Mode) (x : Int) (w : World), (store a (.int .i64 x) m).run Try.prog w = stored Try.prog w a (.int .i64 x) m := fun a m x w => run_store Try.prog w a (.int .i64 x) m rfl
  have hs5 := (bits_out hok).1
  have HB0 := Lib.hid (bits_out hok).2
  go_enter Try.func15, Try.ntmps15
  go_wp2_with (first | (go_at_call 52; refine (bt_spec s _ hs).mono ?_; rintro e w' ⟨rfl, rfl⟩) | go_in)
  clear hok
  go_loopw [4, 5] (fun v0 iv wr0 => ∃ (k r : Nat) (v : Value) (wr : World), k ≤ s.size ∧ v = v0 ∧ iv = .int .i64 k ∧ wr = wr0 ∧ Hid ((ruL s k).length = r) ∧ Hid (wr.ownsRow (w.heap.size) 2 1 (v) (r) ((ruL s k).map (Value.int .i64))) ∧ Hid (Below w.heap.size w wr)) (fun _ iv _ => s.size - (intOf iv).toNat)
  case atStart => exact ⟨0, 0, _, _, by omega, rfl, rfl, rfl, Lib.hid rfl, Lib.hid (own_empty w 2), Lib.hid (Below.alloc (Below.refl _ _) (Nat.le_refl _) _)⟩
  case round =>
    obtain ⟨k, r, v, wr, hk, rfl, rfl, rfl, HRL, HO, HW⟩ := hrel
    have hrk := ru_len s k
    have hr1 : r ≤ k := by have := HRL.out; omega
    have hr2 : 0 < k → 0 < r := by have := HRL.out; omega
    clear hrk
    by_cases hlt : k < s.size
    · have HGL := Lib.hid HW.out.size
      have HNE0 : Hid (∀ b, v.ownBlock = some b → w.heap.size ≤ b) := Lib.hid (own_block HO.out)
      cases hnb : newB s k with
      | true =>
        have HNEW := Lib.hid (ru_new hnb HRL.out)
        obtain ⟨R, hR⟩ : ∃ R, R = ruL s k := ⟨_, rfl⟩
        rw [← hR] at HNEW
        have HRR : Hid (R.length = r) := Lib.hid (by rw [hR]; exact HRL.out)
        have HOv : Hid (wr.ownsRow (w.heap.size) 2 1 (v) (r) ((R).map (Value.int .i64))) := Lib.hid (by rw [hR]; exact HO.out)
        clear hR hr2
        by_cases hk0 : k = 0
        · subst hk0
          clear hnb
          go_wp2_with fail
          go_quiet (fail)
          go_wp2_with (first | (at_builtin; refine wpList_append_lies _ rfl _ _ 22 rfl (w.heap.size) 2 i0 (.int .i64 0) 1 8 Try.underlying22 hi hz0 hz1 hz2 rfl (by omega) v r ((R).map (Value.int .i64)) rfl (World.ownsRow.alloc HOv.out _) ⟨wr.heap.size, 0, none⟩ 1 1 [.int .i64 (0)] rfl rfl (World.news_of_block (cs := #[.int .i64 (0)]) (t := 2) (fr := (0, 0)) (heap_alloc_new _ _)) (by simp [Value.oneCell']) (by omega) (by unfold maxLen; omega) (by omega) (by have := HGL.out; simp; omega) (wr.heap.size + 1) (by simp) ?_; intro gg cp w5 hown1 hgrow hat hlt2; have HO2 := Lib.hid hown1; have HG2 := Lib.hid hgrow; have HO3 : Hid (w5.ownsRow (w.heap.size) 2 1 (.slice (some ⟨gg, 0, none⟩) (r + 1) cp) (r + 1) ((R ++ [0]).map (Value.int .i64))) := Lib.hid (by rw [app_map]; exact HO2.out); have hckn : w5.cell? ⟨gg, r, none⟩ = some (.int .i64 0) := (own_cell HO3.out (j := r) (by omega)).trans (by rw [last0 HRR.out]); have hfzn := HO3.out.frozenAt r; have HP := Lib.hid (own_set HO3.out r 1); have HW5 : Hid (Below w.heap.size w w5) := Lib.hid (by first | exact Below.grown (Below.alloc HW.out HW.out.size _) HG2.out (by have := HW.out.size; simp; omega) HNE0.out | exact Below.grown (Below.alloc (Below.drewN' HW.out _) HW.out.size _) HG2.out (by have := HW.out.size; simp; omega) HNE0.out); clear hown1 hgrow hat hlt2) | go_in)
          exact ⟨⟨0 + 1, r + 1, _, _, by omega, rfl, by first | rfl | go_num | (congr 1), rfl, Lib.hid HNEW.out.2, Lib.hid (by rw [HNEW.out.1]; exact HP.out.1), Lib.hid (Below.grown HW5.out HP.out.2 HW5.out.size (fun b hb => by cases hb; exact (own_lt HO3.out).1))⟩, by show s.size - ((0 : Int) + 1).toNat < s.size - (0 : Int).toNat; omega⟩
        · obtain ⟨p, hkp⟩ : ∃ p, k = p + 1 := ⟨k - 1, by omega⟩
          have hp : p < s.size := by omega
          have hne2 : (((byN s k : Nat) : Int) == ((byN s p : Nat) : Int)) = false := by
            have := new_bef s k
            rw [hnb, hkp] at this
            rw [hkp]
            simpa [befI] using this
          have hb1 : (s[k]'hlt).toNat = byN s k := byN_at hlt
          have hb2 : (s[p]'hp).toNat = byN s p := byN_at hp
          have hz : ((k : Int) == 0) = false := by simp; omega
          have hwp : IntKind.i64.wrap ((k : Int) - 1) = (p : Int) := by
            have e : (k : Int) - 1 = (p : Int) := by omega
            rw [e]; exact IntWalk.i64_in _ (by omega)
          clear hnb hk0 hkp
          generalize byN s k = x at hb1 hne2
          generalize byN s p = y at hb2 hne2
          have hne3 : ((x : Int) != (y : Int)) = true := by rw [bne, hne2]; rfl
          go_wp2_with fail
          go_quiet (fail)
          go_wp2_with (first | (at_builtin; refine wpList_append_lies _ rfl _ _ 22 rfl (w.heap.size) 2 i0 (.int .i64 0) 1 8 Try.underlying22 hi hz0 hz1 hz2 rfl (by omega) v r ((R).map (Value.int .i64)) rfl (World.ownsRow.alloc HOv.out _) ⟨wr.heap.size, 0, none⟩ 1 1 [.int .i64 (0)] rfl rfl (World.news_of_block (cs := #[.int .i64 (0)]) (t := 2) (fr := (0, 0)) (heap_alloc_new _ _)) (by simp [Value.oneCell']) (by omega) (by unfold maxLen; omega) (by omega) (by have := HGL.out; simp; omega) (wr.heap.size + 1) (by simp) ?_; intro gg cp w5 hown1 hgrow hat hlt2; have HO2 := Lib.hid hown1; have HG2 := Lib.hid hgrow; have HO3 : Hid (w5.ownsRow (w.heap.size) 2 1 (.slice (some ⟨gg, 0, none⟩) (r + 1) cp) (r + 1) ((R ++ [0]).map (Value.int .i64))) := Lib.hid (by rw [app_map]; exact HO2.out); have hckn : w5.cell? ⟨gg, r, none⟩ = some (.int .i64 0) := (own_cell HO3.out (j := r) (by omega)).trans (by rw [last0 HRR.out]); have hfzn := HO3.out.frozenAt r; have HP := Lib.hid (own_set HO3.out r 1); have HW5 : Hid (Below w.heap.size w w5) := Lib.hid (by first | exact Below.grown (Below.alloc HW.out HW.out.size _) HG2.out (by have := HW.out.size; simp; omega) HNE0.out | exact Below.grown (Below.alloc (Below.drewN' HW.out _) HW.out.size _) HG2.out (by have := HW.out.size; simp; omega) HNE0.out); clear hown1 hgrow hat hlt2) | go_in)
          exact ⟨⟨k + 1, r + 1, _, _, by omega, rfl, by first | rfl | go_num | (congr 1), rfl, Lib.hid HNEW.out.2, Lib.hid (by rw [HNEW.out.1]; exact HP.out.1), Lib.hid (Below.grown HW5.out HP.out.2 HW5.out.size (fun b hb => by cases hb; exact (own_lt HO3.out).1))⟩, by show s.size - ((k : Int) + 1).toNat < s.size - (k : Int).toNat; omega⟩
      | false =>
        obtain ⟨p, hkp⟩ : ∃ p, k = p + 1 := by
          cases k with
          | zero => cases hnb
          | succ p => exact ⟨p, rfl⟩
        have hr0 := hr2 (by omega)
        have hp : p < s.size := by omega
        have heq : byN s k = byN s p := by
          have := new_bef s k
          rw [hnb, hkp] at this
          rw [hkp]
          have h2 : ((byN s (p + 1) : Int) == befI s (p + 1)) = true := by simpa using this
          have h3 : (byN s (p + 1) : Int) = (byN s p : Int) := by simpa [befI] using h2
          omega
        obtain ⟨q, hq⟩ : ∃ q, r = q + 1 := ⟨r - 1, by omega⟩
        have HOLD := Lib.hid (ru_old hnb HRL.out)
        obtain ⟨R, hR⟩ : ∃ R, R = ruL s k := ⟨_, rfl⟩
        rw [← hR] at HOLD
        have HOR : Hid (wr.ownsRow (w.heap.size) 2 1 (v) (r) ((R).map (Value.int .i64))) := Lib.hid (by rw [hR]; exact HO.out)
        obtain ⟨g, cap, hv, hg, hgl⟩ := World.ownsRow.form HOR.out (by omega)
        subst hv
        have hck := own_cell HOR.out (j := q) (by omega)
        have hfz := HOR.out.frozenAt q
        have HP := Lib.hid (own_set HOR.out q (IntKind.i64.wrap (R.getD q 0 + 1)))
        have e1 : r - 1 = q := by omega
        rw [e1] at HOLD
        generalize R.getD q 0 = x at hck HP HOLD
        obtain ⟨X, hX⟩ : ∃ X, X = IntKind.i64.wrap (x + 1) := ⟨_, rfl⟩
        rw [← hX] at HP HOLD
        have hX2 := hX.symm
        have hwq : IntKind.i64.wrap ((r : Int) - 1) = (q : Int) := by
          have e : (r : Int) - 1 = (q : Int) := by omega
          rw [e]; exact IntWalk.i64_in _ (by omega)
        have hb1 : (s[k]'hlt).toNat = byN s p := (byN_at hlt).trans heq
        have hb2 : (s[p]'hp).toNat = byN s p := byN_at hp
        have hz : ((k : Int) == 0) = false := by simp; omega
        have hwp : IntKind.i64.wrap ((k : Int) - 1) = (p : Int) := by
          have e : (k : Int) - 1 = (p : Int) := by omega
          rw [e]; exact IntWalk.i64_in _ (by omega)
        have hqr : q < r := by omega
        clear hnb hkp hX hR e1 heq hr2 hr0 hq
        generalize byN s p = y at hb1 hb2
        have hne3 : ((y : Int) != (y : Int)) = false := by simp
        go_wp2_with fail
        go_quiet (fail)
        go_wp2
        exact ⟨⟨k + 1, r, _, _, by omega, rfl, by first | rfl | go_num | (congr 1), rfl, Lib.hid HOLD.out.2, Lib.hid (by rw [HOLD.out.1]; exact HP.out.1), Lib.hid ((Below.drewN' HW.out _).setCell (own_lt HOR.out).1 _)⟩, by show s.size - ((k : Int) + 1).toNat < s.size - (k : Int).toNat; omega⟩
    · obtain rfl : k = s.size := by omega
      have hr0 := hr2 h0
      have HRL2 := Lib.hid HRL.out
      obtain ⟨g2, cp, rfl, hg, hgl, hr, hf⟩ := own_irowF HO.out (by omega)
      have HN := Lib.hid ((⟨hg, hgl, Ent.il_ok hr hf, HW.out⟩ : New w wr g2 (.il r (ruL s s.size))))
      clear hg hgl hr hf
      go_wp2
      go_ret2
      have e := HRL2.out
      subst e
      exact ⟨g2, cp, rfl, HN.out⟩
set_option maxRecDepth 100000 in
set_option maxHeartbeats 8000000 in
theorem ruI (s : ByteArray) (w : World) (hs : s.size ≤ 1048576) (hok : bitsB s = true) (h0 : 0 < s.size) :
    Calls Try.prog 16 #[.string s] w fun e w' => ∃ g cp, e = .returned (.tuple #[.slice (some ⟨g, 0, none⟩) (ruL s s.size).length cp, .bool true]) ∧ New w w' g (.il (ruL s s.size).length (ruL s s.size)) := by
  obtain ⟨i0, hi, hz0, hz1, hz2⟩ := info_parts Try.info64
  have hst : ∀ (a : Addr) (m : Mode) (x : Int) (w : World), (store a (.int .i64 x) m).run Try.prog w = stored Try.prog w a (.int .i64 x) m := fun a m x w => run_store Try.prog w a (.int .i64 x) m rfl
  have hs5 := (bits_out hok).1
  have HB0 := Lib.hid (bits_out hok).2
  go_enter Try.func16, Try.ntmps16
  go_wp2_with (first | (go_at_call 53; refine (bt_impl s _ hs).mono ?_; rintro e w2 ⟨rfl, hbl⟩; have HBL := Lib.hid hbl; clear hbl) | go_in)
  clear hok
  go_loopw [4, 5] (fun v0 bv wr0 => ∃ (k r : Nat) (v : Value) (wr : World), k ≤ s.size ∧ v = v0 ∧ bv = .int .i32 (befI s k) ∧ wr = wr0 ∧ Hid ((ruL s k).length = r) ∧ Hid (wr.ownsRow (w2.heap.size + 1) 2 1 (v) (r) ((ruL s k).map (Value.int .i64))) ∧ Hid (wr.heap[w2.heap.size]? = some (.stringIter s k)) ∧ Hid (Below w2.heap.size w2 wr)) (fun _ _ wr => s.size - wr.iterPos w2.heap.size)
  case atStart => exact ⟨0, 0, _, _, by omega, rfl, rfl, rfl, Lib.hid rfl, Lib.hid (World.ownsRow_nil _ _ _ _), Lib.hid (World.iter_heap w2 s 0), Lib.hid ((Below.refl _ _).alloc (Nat.le_refl _) _)⟩
  case round =>
    obtain ⟨k, r, v, wr, hk, rfl, rfl, rfl, HRL, HO, HIT, HW⟩ := hrel
    have hrk := ru_len s k
    have hr1 : r ≤ k := by have := HRL.out; omega
    have hr2 : 0 < k → 0 < r := by have := HRL.out; omega
    clear hrk
    by_cases hlt : k < s.size
    · have hx := HB0.out k hlt
      have hnx : ∀ ty, (Instr.next (.pointer (some ⟨w2.heap.size, 0, none⟩)) true ty).run Try.prog wr = _ := fun ty => Lib.run_next_ascii_at wr w2.heap.size s k ty HIT.out hlt (by omega)
      have HOi := Lib.hid (own_iterAt HO.out (k := w2.heap.size) (Nat.lt_succ_self _) s (k + 1))
      have HITi := Lib.hid (Lib.iterAt_heap wr w2.heap.size s k (k + 1) HIT.out)
      have HWi := Lib.hid (Lib.below_iterAt HW.out (Nat.le_refl w2.heap.size) s (k + 1))
      have HNE0 : Hid (∀ b, v.ownBlock = some b → w2.heap.size + 1 ≤ b) := Lib.hid (own_block HO.out)
      generalize wr.iterAt w2.heap.size s (k + 1) = wi at hnx HOi HITi HWi
      have HGL : Hid (w2.heap.size + 1 ≤ wi.heap.size) := Lib.hid (Array.getElem?_eq_some_iff.1 HITi.out).1
      have hbb : (s[k]'hlt).toNat = byN s k := byN_at hlt
      rw [hbb] at hnx hx
      have HBE : Hid (befI s (k + 1) = (byN s k : Int)) := Lib.hid rfl
      have hnw := new_bef s k
      cases hnb : newB s k with
      | true =>
        have HNEW := Lib.hid (ru_new hnb HRL.out)
        obtain ⟨R, hR⟩ : ∃ R, R = ruL s k := ⟨_, rfl⟩
        rw [← hR] at HNEW
        have HRR : Hid (R.length = r) := Lib.hid (by rw [hR]; exact HRL.out)
        have HOv : Hid (wi.ownsRow (w2.heap.size + 1) 2 1 (v) (r) ((R).map (Value.int .i64))) := Lib.hid (by rw [hR]; exact HOi.out)
        rw [hnb] at hnw
        clear hR hr2 hnb hbb hx
        generalize byN s k = x at hnx HBE hnw
        generalize befI s k = y at hnw
        have hne3 : ((x : Int) != y) = true := by rw [bne]; exact hnw.symm
        clear hnw
        go_wp2_with (first | (at_builtin; refine wpList_append_lies _ rfl _ _ 22 rfl (w2.heap.size + 1) 2 i0 (.int .i64 0) 1 8 Try.underlying22 hi hz0 hz1 hz2 rfl (by omega) v r ((R).map (Value.int .i64)) rfl (World.ownsRow.alloc HOv.out _) ⟨wi.heap.size, 0, none⟩ 1 1 [.int .i64 (0)] rfl rfl (World.news_of_block (cs := #[.int .i64 (0)]) (t := 2) (fr := (0, 0)) (heap_alloc_new _ _)) (by simp [Value.oneCell']) (by omega) (by unfold maxLen; omega) (by omega) (by have := HGL.out; simp; omega) (wi.heap.size + 1) (by simp) ?_; intro gg cp w5 hown1 hgrow hat hlt2; have HO2 := Lib.hid hown1; have HG2 := Lib.hid hgrow; have HO3 : Hid (w5.ownsRow (w2.heap.size + 1) 2 1 (.slice (some ⟨gg, 0, none⟩) (r + 1) cp) (r + 1) ((R ++ [0]).map (Value.int .i64))) := Lib.hid (by rw [app_map]; exact HO2.out); have hckn : w5.cell? ⟨gg, r, none⟩ = some (.int .i64 0) := (own_cell HO3.out (j := r) (by omega)).trans (by rw [last0 HRR.out]); have hfzn := HO3.out.frozenAt r; have HP := Lib.hid (own_set HO3.out r 1); have HW5 : Hid (Below w2.heap.size w2 w5) := Lib.hid (Below.grown (Below.alloc HWi.out HWi.out.size _) HG2.out (by have := HWi.out.size; simp; omega) (fun b hb => Nat.le_of_succ_le (HNE0.out b hb))); have hit5 : Hid (w5.heap[w2.heap.size]? = some (.stringIter s (k + 1))) := Lib.hid (grown_at HG2.out ((Below.heap_alloc _ _ _ (Array.getElem?_eq_some_iff.1 HITi.out).1).trans HITi.out) (fun e => by have := HNE0.out _ e; omega)); clear hown1 hgrow hat hlt2) | go_in)
        have HITF : Hid ((w5.setCell ⟨gg, r, none⟩ (.int .i64 1)).heap[w2.heap.size]? = some (.stringIter s (k + 1))) := Lib.hid ((Below.heap_setCell _ _ _ _ (by show w2.heap.size ≠ gg; have := (own_lt HO3.out).1; omega)).trans hit5.out)
        exact ⟨⟨k + 1, r + 1, _, _, by omega, rfl, by rw [HBE.out], rfl, Lib.hid HNEW.out.2, Lib.hid (by rw [HNEW.out.1]; exact HP.out.1), HITF, Lib.hid (Below.grown (row := some gg) HW5.out HP.out.2 HW5.out.size (fun b hb => by injection hb with hb; rw [← hb]; exact Nat.le_of_succ_le (own_lt HO3.out).1))⟩, by show s.size - World.iterPos _ _ < s.size - World.iterPos _ _; rw [iterPos_of HITF.out, iterPos_of HIT.out]; omega⟩
      | false =>
        obtain ⟨p, hkp⟩ : ∃ p, k = p + 1 := by
          cases k with
          | zero => cases hnb
          | succ p => exact ⟨p, rfl⟩
        have hr0 := hr2 (by omega)
        have hp : p < s.size := by omega
        have heq : byN s k = byN s p := by
          have := new_bef s k
          rw [hnb, hkp] at this
          rw [hkp]
          have h2 : ((byN s (p + 1) : Int) == befI s (p + 1)) = true := by simpa using this
          have h3 : (byN s (p + 1) : Int) = (byN s p : Int) := by simpa [befI] using h2
          omega
        obtain ⟨q, hq⟩ : ∃ q, r = q + 1 := ⟨r - 1, by omega⟩
        have HOLD := Lib.hid (ru_old hnb HRL.out)
        obtain ⟨R, hR⟩ : ∃ R, R = ruL s k := ⟨_, rfl⟩
        rw [← hR] at HOLD
        have HOR : Hid (wi.ownsRow (w2.heap.size + 1) 2 1 (v) (r) ((R).map (Value.int .i64))) := Lib.hid (by rw [hR]; exact HOi.out)
        obtain ⟨g, cap, hv, hg, hgl⟩ := World.ownsRow.form HOR.out (by omega)
        subst hv
        have hck := own_cell HOR.out (j := q) (by omega)
        have hfz := HOR.out.frozenAt q
        have HP := Lib.hid (own_set HOR.out q (IntKind.i64.wrap (R.getD q 0 + 1)))
        have e1 : r - 1 = q := by omega
        rw [e1] at HOLD
        generalize R.getD q 0 = x at hck HP HOLD
        obtain ⟨X, hX⟩ : ∃ X, X = IntKind.i64.wrap (x + 1) := ⟨_, rfl⟩
        rw [← hX] at HP HOLD
        have hX2 := hX.symm
        have hwq : IntKind.i64.wrap ((r : Int) - 1) = (q : Int) := by
          have e : (r : Int) - 1 = (q : Int) := by omega
          rw [e]; exact IntWalk.i64_in _ (by omega)
        rw [hnb] at hnw
        have hqr : q < r := by omega
        clear hnb hkp hX hR e1 heq hr2 hr0 hq hbb hx
        generalize byN s k = x2 at hnx HBE hnw
        generalize befI s k = y at hnw
        have hne3 : ((x2 : Int) != y) = false := by rw [bne]; exact hnw.symm
        clear hnw
        go_wp2
        have HITF : Hid ((wi.setCell ⟨g, q, none⟩ (.int .i64 X)).heap[w2.heap.size]? = some (.stringIter s (k + 1))) := Lib.hid ((Below.heap_setCell _ _ _ _ (by show w2.heap.size ≠ g; have := (own_lt HOR.out).1; omega)).trans HITi.out)
        exact ⟨⟨k + 1, r, _, _, by omega, rfl, by rw [HBE.out], rfl, Lib.hid HOLD.out.2, Lib.hid (by rw [HOLD.out.1]; exact HP.out.1), HITF, Lib.hid (Below.grown (row := some g) HWi.out HP.out.2 HWi.out.size (fun b hb => by injection hb with hb; rw [← hb]; exact Nat.le_of_succ_le (own_lt HOR.out).1))⟩, by show s.size - World.iterPos _ _ < s.size - World.iterPos _ _; rw [iterPos_of HITF.out, iterPos_of HIT.out]; omega⟩
    · obtain rfl : k = s.size := by omega
      have hnx : ∀ ty, (Instr.next (.pointer (some ⟨w2.heap.size, 0, none⟩)) true ty).run Try.prog wr = _ := fun ty => Lib.run_next_end_at wr w2.heap.size s _ ty HIT.out hlt
      have hr0 := hr2 h0
      have HRL2 := Lib.hid HRL.out
      obtain ⟨g2, cp, rfl, hg, hgl, hr, hf⟩ := own_irowF HO.out (by omega)
      have HN := Lib.hid ((⟨Nat.le_trans HBL.out.size (Nat.le_of_succ_le hg), hgl, Ent.il_ok hr hf, Below.next HBL.out HW.out⟩ : New w wr g2 (.il r (ruL s s.size))))
      clear hg hgl hr hf
      go_wp2
      go_ret2
      have e := HRL2.out
      subst e
      exact ⟨g2, cp, rfl, HN.out⟩
set_option maxHeartbeats 1000000 in
theorem ruSN (s : ByteArray) (w : World) (hs : s.size ≤ 1048576) (hok : bitsB s = false) :
    Calls Try.prog 15 #[.string s] w fun e w' => e = .returned (.tuple #[.slice none 0 0, .bool false]) ∧ Below w.heap.size w w' := by
  go_enter Try.func15, Try.ntmps15
  go_wp2_with (first | (go_at_call 52; refine (bt_spec s _ hs).mono ?_; rintro e w' ⟨rfl, rfl⟩) | go_in)
  go_ret2
  exact ⟨rfl, Below.refl _ _⟩
set_option maxHeartbeats 1000000 in
theorem ruIN (s : ByteArray) (w : World) (hs : s.size ≤ 1048576) (hok : bitsB s = false) :
    Calls Try.prog 16 #[.string s] w fun e w' => e = .returned (.tuple #[.slice none 0 0, .bool false]) ∧ Below w.heap.size w w' := by
  go_enter Try.func16, Try.ntmps16
  go_wp2_with (first | (go_at_call 53; refine (bt_impl s _ hs).mono ?_; rintro e w2 ⟨rfl, hbl⟩; have HBL := Lib.hid hbl; clear hbl) | go_in)
  go_ret2
  exact ⟨rfl, HBL.out⟩
end Go.Proofs.Ytaalddkpldbdkaa
