/- DecodeLetters: values, both functions, what both answer (one text: a claim has at most 60). -/
import Derived.Test.YtiajpmfdaooefaaWdi
import Derived.Test.YtiajpmfdaooefaaBts
import Derived.Test.YtiajpmfdaooefaaShf
import Derived.Test.YtiajpmfdaooefaaCdv
import Derived.WalkLawsBesides
import Derived.ScopeJumps
import Derived.WalkMore
namespace Go.Proofs.Ytiajpmfdaooefaa
open Go.Proofs.Ytiajpmfdaooefaa.Flo Go.RowKit Go.Sort

/-- The words behind k rounds, as lists. -/
def wdG (zs : List Int) (n : Nat) : Nat → Nat → List UInt8
  | 0, _ => []
  | k + 1, j => if j = ((ordA zs n)[k]!).toNat then dgL (wX zs n k) (lzD zs n k).toNat else wdG zs n k j
theorem wdF_G (zs : List Int) (n : Nat) : ∀ k j, wdF zs n k j = txB (wdG zs n k j)
  | 0, _ => rfl
  | k + 1, j => by
    unfold wdF wdG
    split
    · rfl
    · exact wdF_G zs n k j
theorem wdG_bits (zs : List Int) (n : Nat) : ∀ k j c, c ∈ wdG zs n k j → c = 48 ∨ c = 49
  | 0, _, c, h => by simp [wdG] at h
  | k + 1, j, c, h => by
    unfold wdG at h
    split at h
    · exact dgL_bits _ _ c h
    · exact wdG_bits zs n k j c h
theorem lzD_le {zs : List Int} {n k : Nat} (hl : lnP zs n) (hk : k < n) : (lzD zs n k).toNat ≤ 32 ∧ 1 ≤ lzD zs n k := by
  have h2 : 0 ≤ (ordA zs n)[k]! ∧ (ordA zs n)[k]! < (n : Int) := (ordP_ok zs n n (Nat.le_refl _)).2.1 k hk
  have := hl ((ordA zs n)[k]!).toNat (by omega)
  unfold lzD
  omega
theorem wdG_len {zs : List Int} {n : Nat} (hl : lnP zs n) : ∀ k j, k ≤ n → (wdG zs n k j).length ≤ 32
  | 0, _, _ => by simp [wdG]
  | k + 1, j, hk => by
    unfold wdG
    split
    · rw [dgL_len]; exact (lzD_le hl (by omega)).1
    · exact wdG_len hl k j (by omega)
/-- Does a text begin with another one at a place? -/
def begB (s : ByteArray) (i : Nat) (p : ByteArray) : Bool := decide (i + p.size ≤ s.size) && ((s.extract i (i + p.size)).toList == p.toList)
set_option maxRecDepth 100000 in
set_option maxHeartbeats 4000000 in
theorem bg_spec (s p : ByteArray) (i : Nat) (w : World) (hp : p.size ≤ 1048576) (ha : i ≤ 1048576) :
    Calls Try.prog 95 #[.string s, .int .i64 (i : Int), .string p] w fun e w' => e = .returned (.bool (begB s i p)) ∧ w = w' := by
  have hw : IntKind.i64.wrap ((i : Int) + (p.size : Int)) = (i : Int) + (p.size : Int) := IntWalk.i64_in _ (by omega)
  by_cases h1 : i + p.size ≤ s.size
  · have d1 : decide ((i : Int) + (p.size : Int) ≤ (s.size : Int)) = true := decide_eq_true (by omega)
    have i0 : (0 : Int) ≤ (i : Int) := by omega
    have i1 : (i : Int) ≤ (i : Int) + (p.size : Int) := by omega
    have i2 : (i : Int) + (p.size : Int) ≤ (s.size : Int) := by omega
    have HR : Hid (begB s i p = ((s.extract i (i + p.size)).toList == p.toList)) := Lib.hid (by unfold begB; rw [decide_eq_true h1]; rfl)
    go_enter Try.func95, Try.ntmps95
    go_wp2
    go_ret
    exact ⟨ret_bool2 HR.out.symm, rfl⟩
  · have d1 : decide ((i : Int) + (p.size : Int) ≤ (s.size : Int)) = false := decide_eq_false (by omega)
    have HR : Hid (begB s i p = false) := Lib.hid (by unfold begB; rw [decide_eq_false h1]; rfl)
    go_enter Try.func95, Try.ntmps95
    go_wp2
    go_ret
    exact ⟨ret_bool2 HR.out.symm, rfl⟩

theorem ord_all (zs : List Int) {n j : Nat} (hj : j < n) : ∃ k, k < n ∧ (ordA zs n)[k]! = (j : Int) := by
  have hio := iotA_size n
  have h := (insertionSort_holds (ltZ_swo zs n) (iotA n) 0 n (by omega) (by omega)).1
  rw [ord_ins] at h
  obtain ⟨hs, _, hp⟩ := h
  rw [hio] at hs
  have e1 : (ordA zs n).extract 0 n = ordA zs n := by
    have := @Array.extract_size _ (ordA zs n)
    rwa [hs] at this
  have e2 : (iotA n).extract 0 n = iotA n := by
    have := @Array.extract_size _ (iotA n)
    rwa [hio] at this
  rw [e1, e2] at hp
  have hm : (j : Int) ∈ (iotA n).toList := by
    rw [← iotA_get hj, getElem!_pos (iotA n) j (by omega)]
    exact Array.getElem_mem_toList (by omega)
  have hm2 := hp.mem_iff.2 hm
  obtain ⟨k, hk, e⟩ := List.getElem_of_mem hm2
  have hk2 : k < (ordA zs n).size := by simpa using hk
  refine ⟨k, by omega, ?_⟩
  rw [getElem!_pos _ k hk2, ← e]
  simp
theorem wdG_pos {zs : List Int} {n : Nat} (hl : lnP zs n) {j : Nat} : ∀ K, K ≤ n → (∃ k, k < K ∧ (ordA zs n)[k]! = (j : Int)) → 1 ≤ (wdG zs n K j).length
  | 0, _, ⟨_, h, _⟩ => by omega
  | K + 1, hK, ⟨k, hk, e⟩ => by
    unfold wdG
    split
    · rw [dgL_len]
      have := (lzD_le hl (k := K) (by omega)).2
      omega
    · next hne =>
      refine wdG_pos hl K (by omega) ⟨k, ?_, e⟩
      by_cases h : k = K
      · subst h
        rw [e] at hne
        exact absurd rfl hne
      · omega
/-- The words, as texts: none is empty, none is longer than 32. -/
theorem wdF_size {zs : List Int} {n : Nat} (hl : lnP zs n) {j : Nat} (hj : j < n) : 1 ≤ (wdF zs n n j).size ∧ (wdF zs n n j).size ≤ 32 := by
  rw [wdF_G, txB_size]
  exact ⟨wdG_pos hl n (Nat.le_refl _) (ord_all zs hj), wdG_len hl n j (Nat.le_refl _)⟩
/-- The first of n places at which p holds, or n. -/
def fkF (p : Nat → Bool) : Nat → Nat
  | 0 => 0
  | n + 1 => if fkF p n < n then fkF p n else if p n then n else n + 1
theorem fk_no {p : Nat → Bool} : ∀ {n : Nat}, (∀ j, j < n → p j = false) → fkF p n = n
  | 0, _ => rfl
  | n + 1, h => by
    have h1 := fk_no (n := n) (fun j hj => h j (by omega))
    unfold fkF
    rw [h1, if_neg (by omega), h n (by omega)]
    rfl
theorem fk_yes {p : Nat → Bool} {k : Nat} (h : p k = true) (hb : ∀ j, j < k → p j = false) : ∀ {n : Nat}, k < n → fkF p n = k
  | 0, hk => by omega
  | n + 1, hk => by
    unfold fkF
    by_cases e : k < n
    · rw [fk_yes h hb e, if_pos e]
    · obtain rfl : k = n := by omega
      rw [fk_no hb, if_neg (by omega), h]
      rfl
/-- Where the letter r begins. -/
def dcP (f : Nat → ByteArray) (n : Nat) (s : ByteArray) : Nat → Nat
  | 0 => 0
  | r + 1 => dcP f n s r + (f (fkF (fun k => begB s (dcP f n s r) (f k)) n)).size
def dcK (f : Nat → ByteArray) (n : Nat) (s : ByteArray) (r : Nat) : Nat := fkF (fun k => begB s (dcP f n s r) (f k)) n
theorem dcP_on {f : Nat → ByteArray} {n : Nat} {s : ByteArray} {r k : Nat} (h : dcK f n s r = k) : dcP f n s (r + 1) = dcP f n s r + (f k).size := by
  rw [← h]; rfl
def dcL (f : Nat → ByteArray) (n : Nat) (s : ByteArray) : Nat → List Int
  | 0 => []
  | r + 1 => dcL f n s r ++ [(dcK f n s r : Int)]
theorem dcL_len (f : Nat → ByteArray) (n : Nat) (s : ByteArray) : ∀ r, (dcL f n s r).length = r
  | 0 => rfl
  | r + 1 => by unfold dcL; rw [List.length_append, dcL_len f n s r]; rfl
/-- How many letters there are, if the text is made of words. -/
def dcN (f : Nat → ByteArray) (n : Nat) (s : ByteArray) : Nat → Nat → Option Nat
  | 0, _ => none
  | u + 1, r => if dcP f n s r = s.size then some r else if dcK f n s r < n then dcN f n s u (r + 1) else none
theorem dcN_end {f : Nat → ByteArray} {n : Nat} {s : ByteArray} {u r : Nat} (hu : 0 < u) (h : dcP f n s r = s.size) : dcN f n s u r = some r := by
  obtain ⟨u, rfl⟩ : ∃ v, u = v + 1 := ⟨u - 1, by omega⟩
  unfold dcN
  rw [if_pos h]
theorem dcN_no {f : Nat → ByteArray} {n : Nat} {s : ByteArray} {u r : Nat} (h : dcP f n s r ≠ s.size) (h2 : dcK f n s r = n) : dcN f n s u r = none := by
  cases u with
  | zero => rfl
  | succ u => unfold dcN; rw [if_neg h, if_neg (by omega)]
theorem dcN_on {f : Nat → ByteArray} {n : Nat} {s : ByteArray} {u r k : Nat} (h : dcP f n s r ≠ s.size) (h2 : dcK f n s r = k) (hk : k < n) (hu : 0 < u) : dcN f n s u r = dcN f n s (u - 1) (r + 1) := by
  obtain ⟨u, rfl⟩ : ∃ v, u = v + 1 := ⟨u - 1, by omega⟩
  rw [dcN, if_neg h, if_pos (by omega)]
  rfl
/-- What begins at a place, of the text from there on. -/
theorem beg_drop (s p : ByteArray) (i : Nat) (hi : i ≤ s.size) : begB s i p = Lib.hasPrefix (s.data.toList.drop i) p.data.toList := by
  unfold begB
  rw [Lib.extract_toList, Lib.toList_data, ← Lib.hasPrefix_of_take, Lib.size_eq, Lib.size_eq, List.length_drop, Nat.add_sub_cancel_left]
  rw [Lib.size_eq] at hi
  congr 1
  rw [decide_eq_decide]
  omega
theorem beg_le {s p : ByteArray} {i : Nat} (h : begB s i p = true) : i + p.size ≤ s.size := by
  unfold begB at h
  rw [Bool.and_eq_true] at h
  exact of_decide_eq_true h.1
theorem beg_end {s p : ByteArray} (hp : 1 ≤ p.size) : begB s s.size p = false := by
  unfold begB
  rw [decide_eq_false (by omega)]; rfl
/-- What DecodeLetters comes to: no letters, or the first N of them in a row of the call's own. -/
def DcPost (D : Option Nat) (L : Nat → List Int) (T : TypeId) (w : World) (e : Ending) (w' : World) : Prop :=
  (D = none ∧ e = .returned (.tuple #[.slice none 0 0, .bool false]) ∧ Below w.heap.size w w') ∨
  ∃ N v, D = some N ∧ e = .returned (.tuple #[v, .bool true]) ∧ w'.ownsRow w.heap.size T 1 v N ((L N).map (Value.int .i64)) ∧ Below w.heap.size w w'

theorem own_mono {w : World} {base base' : Nat} {T : TypeId} {v : Value} {k : Nat} {xs : List Value} (h : w.ownsRow base T 1 v k xs) (hb : base' ≤ base) : w.ownsRow base' T 1 v k xs := by
  obtain ⟨hl, h2⟩ := h
  refine ⟨hl, ?_⟩
  rcases h2 with h2 | ⟨g, cap, cur, e1, e2, e3⟩
  · exact .inl h2
  · exact .inr ⟨g, cap, cur, e1, Nat.le_trans hb e2, e3⟩
set_option maxRecDepth 100000 in
set_option maxHeartbeats 8000000 in
theorem dc_spec (a : Option Addr) (n cap : Nat) (zs : List Int) (s : ByteArray) (w : World) (h : IRow w a n zs) (hn : n ≤ 1048576) (hs : s.size ≤ 1048576) (hok : codeB zs n = true) (hb : bitsB s = true) :
    Calls Try.prog 52 #[.agg #[.slice a n cap], .string s] w (DcPost (dcN (wdF zs n n) n s (s.size + 1) 0) (dcL (wdF zs n n) n s) 2 w) := by
  obtain ⟨i0, hi, hz0, hz1, hz2⟩ := info_parts Try.info64
  have HA := Lib.hid (h.alloc (.cells #[.slice a n cap] 27))
  have HSZ : Hid (w.heap.size < (w.alloc (.cells #[.slice a n cap] 27)).heap.size) := Lib.hid (by simp)
  obtain ⟨⟨h10, h11⟩, hl, _⟩ := code_out hok
  have HL := Lib.hid hl
  have hs5 := (bits_out hb).1
  have HFS : Hid (∀ j, j < n → 1 ≤ (wdF zs n n j).size ∧ (wdF zs n n j).size ≤ 32) := Lib.hid (fun j hj => wdF_size HL.out hj)
  clear h hl
  have HCB := Lib.hid (cell_box w (.slice a n cap) 27)
  obtain ⟨f, hf⟩ : ∃ f, wdF zs n n = f := ⟨_, rfl⟩
  rw [hf] at HFS ⊢
  have HF := Lib.hid hf
  clear hf
  obtain ⟨D, hD⟩ : ∃ D, D = dcN f n s (s.size + 1) 0 := ⟨_, rfl⟩
  rw [← hD]
  have HD := Lib.hid hD
  clear hD
  go_enter Try.func52, Try.ntmps52
  go_wp2_with (first | (go_at_call 56; refine (cdis_spec _ a n cap zs _ HA.out hn (cell_box _ _ _)).mono ?_; rintro e w' ⟨rfl, rfl⟩) | (go_at_call 94; refine (bt_spec s _ hs).mono ?_; rintro e w' ⟨rfl, rfl⟩) | (go_at_call 66; refine (wd_spec w.heap.size a n cap zs _ HA.out h10 h11 HL.out HCB.out HSZ.out).mono ?_; rintro e w3 ⟨g, rfl, hg⟩; have HG := Lib.hid hg; clear hg) | fail)
  have HGC : Hid (∀ (W : World) (j : Nat), Below w3.heap.size w3 W → j < n → W.cell? ⟨g, j, none⟩ = some (.string (f j))) := Lib.hid (fun W j hb hj => by
    rw [← HF.out, hb.cell (p := ⟨g, j, none⟩) HG.out.2.1]; exact (HG.out.2.2.1.2 j hj).1)
  have HW3 : Hid (Below w.heap.size w w3) := Lib.hid (Below.next (belowA _ _) HG.out.2.2.2)
  clear hok hb HG HA HL HCB HSZ HF
  go_loopw [7, 8] (fun v0 av wr0 => ∃ (r p : Nat) (v : Value) (wr : World), v = v0 ∧ av = .int .i64 (p : Int) ∧ wr = wr0 ∧ Hid (dcP f n s r = p ∧ r ≤ p ∧ p ≤ s.size ∧ dcN f n s (s.size + 1 - r) r = D) ∧ Hid (wr.ownsRow w3.heap.size 2 1 v r ((dcL f n s r).map (Value.int .i64))) ∧ Hid (Below w3.heap.size w3 wr)) (fun _ av _ => s.size - (intOf av).toNat)
  case atStart => exact ⟨0, 0, _, _, rfl, rfl, rfl, Lib.hid ⟨rfl, by omega, by omega, HD.out.symm⟩, Lib.hid (own_empty w3 2), Lib.hid (below_alloc _ _)⟩
  case round =>
    obtain ⟨r, p, v, wr, rfl, rfl, rfl, HQ, HO, HW⟩ := hrel
    have hrp := HQ.out.2.1
    have hps := HQ.out.2.2.1
    by_cases hlt : p < s.size
    · go_wp2
      go_loopw [9] (fun kv w0 => ∃ (k : Nat) (wr2 : World), k ≤ n ∧ kv = .int .i64 k ∧ wr2 = w0 ∧ Hid (∀ j, j < k → begB s p (f j) = false) ∧ Hid (Drew wr wr2)) (fun kv _ => n - (intOf kv).toNat)
      case atStart => exact ⟨0, _, by omega, rfl, rfl, Lib.hid (by intro j hj; omega), Lib.hid (Drew.refl _)⟩
      case round =>
        obtain ⟨k, wr2, hk, rfl, rfl, HL2, HW2⟩ := hrel
        have HOv0 : Hid (wr2.ownsRow w3.heap.size 2 1 v r ((dcL f n s r).map (Value.int .i64))) := Lib.hid (by obtain ⟨q, e⟩ := HW2.out; rw [e]; exact HO.out)
        have HWv : Hid (Below w3.heap.size w3 wr2) := Lib.hid (by obtain ⟨q, e⟩ := HW2.out; rw [e]; exact Below.drewN' HW.out _)
        by_cases hlk : k < n
        · have hck1 := HGC.out wr2 k HWv.out hlk
          have hx1 := HFS.out k hlk
          cases hp : begB s p (f k) with
          | false =>
            have HN : Hid (∀ j, j < k + 1 → begB s p (f j) = false) := Lib.hid (fun j hj => by
              by_cases e : j < k
              · exact HL2.out j e
              · obtain rfl : j = k := by omega
                exact hp)
            have HC : Hid (∀ W : World, Calls Try.prog 95 #[.string s, .int .i64 (p : Int), .string (f k)] W fun e w' => e = .returned (.bool false) ∧ W = w') := Lib.hid (fun W => (bg_spec s (f k) p W (by omega) (by omega)).mono fun _ _ ⟨h1, h2⟩ => ⟨by rw [h1, hp], h2⟩)
            clear hp HL2 HOv0 HWv
            generalize f k = x at hck1 HC hx1
            go_wp2_with (first | (go_at_call 95; refine (HC.out _).mono ?_; rintro e w' ⟨rfl, rfl⟩) | go_in)
            exact ⟨⟨k + 1, _, by omega, by first | rfl | go_num | (congr 1), rfl, HN, HW2⟩, by show n - ((k : Int) + 1).toNat < n - (k : Int).toNat; omega⟩
          | true =>
            have HC : Hid (∀ W : World, Calls Try.prog 95 #[.string s, .int .i64 (p : Int), .string (f k)] W fun e w' => e = .returned (.bool true) ∧ W = w') := Lib.hid (fun W => (bg_spec s (f k) p W (by omega) (by omega)).mono fun _ _ ⟨h1, h2⟩ => ⟨by rw [h1, hp], h2⟩)
            have hle := beg_le hp
            have HK : Hid (dcK f n s r = k) := Lib.hid (fk_yes (by rw [HQ.out.1]; exact hp) (fun j hj => by rw [HQ.out.1]; exact HL2.out j hj) hlk)
            have HP1 : Hid (dcP f n s (r + 1) = p + (f k).size) := Lib.hid (by rw [dcP_on HK.out, HQ.out.1])
            have HN1 : Hid (dcN f n s (s.size + 1 - (r + 1)) (r + 1) = D) := Lib.hid (by
              have := dcN_on (u := s.size + 1 - r) (by rw [HQ.out.1]; omega) HK.out hlk (by omega)
              rw [HQ.out.2.2.2] at this
              rw [this]
              congr 1)
            have HR1 : Hid (dcL f n s (r + 1) = dcL f n s r ++ [(k : Int)]) := Lib.hid (by show dcL f n s r ++ [(dcK f n s r : Int)] = _; rw [HK.out])
            obtain ⟨R, hR⟩ : ∃ R, R = dcL f n s r := ⟨_, rfl⟩
            rw [← hR] at HR1
            have HOv : Hid (wr2.ownsRow w3.heap.size 2 1 v r ((R).map (Value.int .i64))) := Lib.hid (by rw [hR]; exact HOv0.out)
            have HGL := Lib.hid HWv.out.size
            have HNE0 : Hid (∀ b, v.ownBlock = some b → w3.heap.size ≤ b) := Lib.hid (own_block HO.out)
            have hne : ((k : Int) == (n : Int)) = false := by simp; omega
            have hw : IntKind.i64.wrap ((p : Int) + ((f k).size : Int)) = (p : Int) + ((f k).size : Int) := IntWalk.i64_in _ (by omega)
            clear hp HL2 HOv0 HK hR HW2
            replace HGC : Hid (∀ (W : World) (j : Nat), Below w3.heap.size w3 W → j < n → W.cell? ⟨g, j, none⟩ = some (.string (f j))) := HGC
            have HGK : Hid (∀ W : World, Below w3.heap.size w3 W → W.cell? ⟨g, k, none⟩ = some (.string (f k))) := Lib.hid (fun W hb => HGC.out W k hb hlk)
            generalize f k = x at hck1 HC hx1 HP1 hw hle HGK
            go_wp2_with (first | (go_at_call 95; refine (HC.out _).mono ?_; rintro e w' ⟨rfl, rfl⟩) | (at_builtin; refine wpList_append_lies _ rfl _ _ 22 rfl (w3.heap.size) 2 i0 (.int .i64 0) 1 8 Try.underlying22 hi hz0 hz1 hz2 rfl (by omega) v r ((R).map (Value.int .i64)) rfl (World.ownsRow.alloc HOv.out _) ⟨wr2.heap.size, 0, none⟩ 1 1 [.int .i64 (k : Int)] rfl rfl (World.news_of_block (cs := #[.int .i64 (k : Int)]) (t := 2) (fr := (0, 0)) (heap_alloc_new _ _)) (by simp [Value.oneCell']) (by omega) (by unfold maxLen; omega) (by omega) (by have := HGL.out; first | (simp; done) | (simp; omega)) (wr2.heap.size + 1) (by simp) ?_; intro gg cp w5 hown1 hgrow hat hlt2; have HO2 := Lib.hid hown1; have HG2 := Lib.hid hgrow; have HO3 : Hid (w5.ownsRow (w3.heap.size) 2 1 (.slice (some ⟨gg, 0, none⟩) (r + 1) cp) (r + 1) ((R ++ [(k : Int)]).map (Value.int .i64))) := Lib.hid (by rw [app_map2]; exact HO2.out); have HW5 : Hid (Below w3.heap.size w3 w5) := Lib.hid (by first | exact Below.grown (Below.alloc HWv.out HWv.out.size _) HG2.out (by have := HWv.out.size; first | (simp; done) | (simp; omega)) HNE0.out | exact Below.grown (Below.alloc (Below.drewN' HWv.out _) HWv.out.size _) HG2.out (by have := HWv.out.size; first | (simp; done) | (simp; omega)) HNE0.out); have hck5 := HGK.out w5 HW5.out; clear hown1 hgrow hat hlt2) | go_in)
            exact ⟨⟨r + 1, p + x.size, _, _, rfl, by first | rfl | (rw [Int.natCast_add]), rfl, Lib.hid ⟨HP1.out, by omega, hle, HN1.out⟩, Lib.hid (by rw [HR1.out]; exact HO3.out), HW5⟩, by show s.size - ((p : Int) + (x.size : Int)).toNat < s.size - (p : Int).toNat; omega⟩
        · obtain rfl : k = n := by omega
          have HR : Hid (D = none) := Lib.hid (by
            rw [← HQ.out.2.2.2]
            exact dcN_no (by rw [HQ.out.1]; omega) (fk_no (by rw [HQ.out.1]; exact HL2.out)))
          have hne : ((k : Int) == (k : Int)) = true := by simp
          have HWF := Lib.hid (Below.next HW3.out HWv.out)
          go_wp2
          go_ret2
          exact .inl ⟨HR.out, rfl, by first | exact HWF.out | exact Below.drewN' HWF.out _⟩
    · obtain rfl : p = s.size := by omega
      have HR : Hid (D = some r) := Lib.hid (by
        rw [← HQ.out.2.2.2]
        exact dcN_end (by omega) HQ.out.1)
      have HWF := Lib.hid (Below.next HW3.out HW.out)
      go_wp2
      go_ret2
      exact .inr ⟨r, v, HR.out, rfl, own_mono HO.out HW3.out.size, HWF.out⟩

theorem cut_has {s t x : ByteArray} {p : Nat} (ht : t = txB (s.data.toList.drop p)) : Lib.hasPrefix t.data.toList x.data.toList = Lib.hasPrefix (s.data.toList.drop p) x.data.toList := by rw [ht]; rfl
theorem cut_no {s t x : ByteArray} {p : Nat} (ht : t = txB (s.data.toList.drop p)) (h : Lib.hasPrefix (s.data.toList.drop p) x.data.toList = false) : (⟨(Lib.trimPrefix t.data.toList x.data.toList).toArray⟩ : ByteArray) = t := by
  rw [Lib.trimPrefix, if_neg (by rw [cut_has ht, h]; exact Bool.false_ne_true), Lib.mk_data]
theorem cut_yes {s t x : ByteArray} {p : Nat} (ht : t = txB (s.data.toList.drop p)) (h : Lib.hasPrefix (s.data.toList.drop p) x.data.toList = true) : (⟨(Lib.trimPrefix t.data.toList x.data.toList).toArray⟩ : ByteArray) = txB (s.data.toList.drop (p + x.size)) := by
  rw [Lib.trimPrefix, if_pos (by rw [cut_has ht, h])]
  show txB _ = _
  congr 1
  rw [ht, Lib.size_eq, ← List.drop_drop]
  rfl
def DcJ (f : Nat → ByteArray) (n : Nat) (s : ByteArray) (D : Option Nat) (w : World) (a' : Act) (w' : World) : Prop := ∃ (w3 : World) (g r p : Nat) (v : Value) (t : ByteArray) (u0 u2 u3 u4 u5 u8 u9 u10 u11 u12 u13 u14 u15 u16 u17 u18 u19 u20 u21 u22 u23 u24 u25 u26 u27 u28 u29 u30 u31 u32 u33 u34 u35 u36 u37 u38 u39 u40 u41 u42 u43 u44 : Value), a' = { tmps := #[u0, .string t, u2, u3, u4, u5, .slice (some ⟨g, 0, none⟩) n n, v, u8, u9, u10, u11, u12, u13, u14, u15, u16, u17, u18, u19, u20, u21, u22, u23, u24, u25, u26, u27, u28, u29, u30, u31, u32, u33, u34, u35, u36, u37, u38, u39, u40, u41, u42, u43, u44], defers := [] } ∧ Hid (t = txB (s.data.toList.drop p)) ∧ Hid (dcP f n s r = p ∧ r ≤ p ∧ p ≤ s.size ∧ dcN f n s (s.size + 1 - r) r = D) ∧ Hid (w'.ownsRow w3.heap.size 2 1 v r ((dcL f n s r).map (Value.int .i64))) ∧ Hid (Below w3.heap.size w3 w') ∧ Hid (Below w.heap.size w w3) ∧ Hid (∀ (W : World) (j : Nat), Below w3.heap.size w3 W → j < n → W.cell? ⟨g, j, none⟩ = some (.string (f j)))
theorem wp_scope_jumpsP {P : Program} {a : Act} {w : World} {Q : Exit → Act → World → Prop} {c rest : Code} (l : Nat) (J : Act → World → Prop) (μ : Act → World → Nat) (hf : findLabel c l = some rest)
    (pass : ∀ a w, J a w → rest.wp P (Exit.jump l (fun a' w' => J a' w' ∧ μ a' w' < μ a w) Q) a w)
    (first : (∀ a w, J a w → rest.wp P (Exit.jump l J Q) a w) → c.wp P (Exit.jump l J Q) a w) : (Code.scope c).wp P Q a w :=
  wp_scope_jumps l J μ hf (first (fun a w h => wp_mono (pass a w h) (fun e a w hq => by cases e <;> first | exact hq | exact ⟨hq.1, hq.2.1⟩))) pass
def strOf : Value → Nat | .string s => s.size | _ => 0
set_option maxRecDepth 100000 in
set_option maxHeartbeats 8000000 in
theorem dc_impl (a : Option Addr) (n cap : Nat) (zs : List Int) (s : ByteArray) (w : World) (h : IRow w a n zs) (hn : n ≤ 1048576) (hs : s.size ≤ 1048576) (hok : codeB zs n = true) (hb : bitsB s = true) :
    Calls Try.prog 53 #[.agg #[.slice a n cap], .string s] w (DcPost (dcN (wdF zs n n) n s (s.size + 1) 0) (dcL (wdF zs n n) n s) 2 w) := by
  obtain ⟨t, hts⟩ : ∃ t, s = t := ⟨_, rfl⟩
  suffices h9 : Calls Try.prog 53 #[.agg #[.slice a n cap], .string t] w (DcPost (dcN (wdF zs n n) n s (s.size + 1) 0) (dcL (wdF zs n n) n s) 2 w) by rw [← hts] at h9; exact h9
  have HTS := Lib.hid hts.symm
  have hb2 : bitsB t = true := by rw [← hts]; exact hb
  have hs2 : t.size ≤ 1048576 := by rw [← hts]; exact hs
  clear hts
  obtain ⟨i0, hi, hz0, hz1, hz2⟩ := info_parts Try.info64
  have HS := Lib.hid ((Mine.nil w).alloc1 (.slice a n cap) 27)
  have HA := Lib.hid (h.alloc (.cells #[.slice a n cap] 27))
  obtain ⟨⟨h10, h11⟩, hl, _⟩ := code_out hok
  have HL := Lib.hid hl
  have hs5 := (bits_out hb).1
  have HFS : Hid (∀ j, j < n → 1 ≤ (wdF zs n n j).size ∧ (wdF zs n n j).size ≤ 32) := Lib.hid (fun j hj => wdF_size HL.out hj)
  clear h hl
  obtain ⟨f, hf⟩ : ∃ f, wdF zs n n = f := ⟨_, rfl⟩
  rw [hf] at HFS ⊢
  have HF := Lib.hid hf
  clear hf
  obtain ⟨D, hD⟩ : ∃ D, D = dcN f n s (s.size + 1) 0 := ⟨_, rfl⟩
  rw [← hD]
  have HD := Lib.hid hD
  clear hD
  go_enter Try.func53, Try.ntmps53
  go_wp2
  refine wp_scope_jumpsP 0 (DcJ f n s D w) (fun a' _ => strOf (a'.tmps.getD 1 undef)) rfl ?_ ?_
  · clear HS HA HL HF HD HTS hb2 hs2 hok hb
    rintro a' wr ⟨w3, g, r, p, v, t, u0, u2, u3, u4, u5, u8, u9, u10, u11, u12, u13, u14, u15, u16, u17, u18, u19, u20, u21, u22, u23, u24, u25, u26, u27, u28, u29, u30, u31, u32, u33, u34, u35, u36, u37, u38, u39, u40, u41, u42, u43, u44, rfl, HT, HQ, HO, HW, HW3, HGC⟩
    have hrp := HQ.out.2.1
    have hps := HQ.out.2.2.1
    go_wp2
    go_loopw [1, 7, 24] (fun bv v0 kv w0 => ∃ (k : Nat) (v : Value), k ≤ n ∧ bv = .string t ∧ v = v0 ∧ kv = .int .i64 k ∧ wr = w0 ∧ Hid (wr.ownsRow w3.heap.size 2 1 v r ((dcL f n s r).map (Value.int .i64))) ∧ Hid (∀ j, j < k → begB s p (f j) = false)) (fun _ _ kv _ => n - (intOf kv).toNat)
    case atStart => exact ⟨0, _, by omega, (by first | rfl | trivial), (by first | rfl | trivial), (by first | rfl | trivial), (by first | rfl | trivial), HO, Lib.hid (by intro j hj; omega)⟩
    case round =>
      obtain ⟨k, v, hk, rfl, rfl, rfl, rfl, HOx, HL2⟩ := hrel
      by_cases hlk : k < n
      · have hck1 := HGC.out wr k HW.out hlk
        have hx1 := HFS.out k hlk
        have hbd := beg_drop s (f k) p hps
        cases hp : begB s p (f k) with
        | false =>
          have HN : Hid (∀ j, j < k + 1 → begB s p (f j) = false) := Lib.hid (fun j hj => by
            by_cases e : j < k
            · exact HL2.out j e
            · obtain rfl : j = k := by omega
              exact hp)
          have HC : Hid (∀ W : World, Calls Try.prog 97 #[.string t, .string (f k)] W fun e w' => e = .returned (.tuple #[.string t, .bool false]) ∧ W = w') := Lib.hid (fun W => (Try.strings_CutPrefix t (f k) W).mono fun _ _ ⟨h1, h2⟩ => ⟨by rw [h1, cut_no HT.out (hbd.symm.trans hp), cut_has HT.out, ← hbd, hp], h2.symm⟩)
          clear hp HL2 hbd
          generalize f k = x at hck1 HC hx1
          go_wp2_with (first | (go_at_call 97; refine (HC.out _).mono ?_; rintro e w' ⟨rfl, rfl⟩) | go_in)
          exact ⟨⟨k + 1, _, by omega, (by first | rfl | trivial), (by first | rfl | trivial), (by first | rfl | go_num | (congr 1)), (by first | rfl | trivial), HOx, HN⟩, by show n - ((k : Int) + 1).toNat < n - (k : Int).toNat; omega⟩
        | true =>
          have HC : Hid (∀ W : World, Calls Try.prog 97 #[.string t, .string (f k)] W fun e w' => e = .returned (.tuple #[.string (txB (s.data.toList.drop (p + (f k).size))), .bool true]) ∧ W = w') := Lib.hid (fun W => (Try.strings_CutPrefix t (f k) W).mono fun _ _ ⟨h1, h2⟩ => ⟨by rw [h1, cut_yes HT.out (hbd.symm.trans hp), cut_has HT.out, ← hbd, hp], h2.symm⟩)
          have hle := beg_le hp
          have HK : Hid (dcK f n s r = k) := Lib.hid (fk_yes (by rw [HQ.out.1]; exact hp) (fun j hj => by rw [HQ.out.1]; exact HL2.out j hj) hlk)
          have HP1 : Hid (dcP f n s (r + 1) = p + (f k).size) := Lib.hid (by rw [dcP_on HK.out, HQ.out.1])
          have HN1 : Hid (dcN f n s (s.size + 1 - (r + 1)) (r + 1) = D) := Lib.hid (by
            have := dcN_on (u := s.size + 1 - r) (by rw [HQ.out.1]; omega) HK.out hlk (by omega)
            rw [HQ.out.2.2.2] at this
            rw [this]
            congr 1)
          have HR1 : Hid (dcL f n s (r + 1) = dcL f n s r ++ [(k : Int)]) := Lib.hid (by show dcL f n s r ++ [(dcK f n s r : Int)] = _; rw [HK.out])
          obtain ⟨R, hR⟩ : ∃ R, R = dcL f n s r := ⟨_, rfl⟩
          rw [← hR] at HR1
          have HOv : Hid (wr.ownsRow w3.heap.size 2 1 v r ((R).map (Value.int .i64))) := Lib.hid (by rw [hR]; exact HOx.out)
          have HWv := HW
          have HGL := Lib.hid HWv.out.size
          have HNE0 : Hid (∀ b, v.ownBlock = some b → w3.heap.size ≤ b) := Lib.hid (own_block HOx.out)
          have HGK : Hid (∀ W : World, Below w3.heap.size w3 W → W.cell? ⟨g, k, none⟩ = some (.string (f k))) := Lib.hid (fun W hb => HGC.out W k hb hlk)
          clear hp HL2 HK hR hbd
          generalize f k = x at hck1 HC hx1 HP1 hle HGK
          go_wp2_with (first | (go_at_call 97; refine (HC.out _).mono ?_; rintro e w' ⟨rfl, rfl⟩) | (at_builtin; refine wpList_append_lies _ rfl _ _ 22 rfl (w3.heap.size) 2 i0 (.int .i64 0) 1 8 Try.underlying22 hi hz0 hz1 hz2 rfl (by omega) v r ((R).map (Value.int .i64)) rfl (World.ownsRow.alloc HOv.out _) ⟨wr.heap.size, 0, none⟩ 1 1 [.int .i64 (k : Int)] rfl rfl (World.news_of_block (cs := #[.int .i64 (k : Int)]) (t := 2) (fr := (0, 0)) (heap_alloc_new _ _)) (by simp [Value.oneCell']) (by omega) (by unfold maxLen; omega) (by omega) (by have := HGL.out; first | (simp; done) | (simp; omega)) (wr.heap.size + 1) (by simp) ?_; intro gg cp w5 hown1 hgrow hat hlt2; have HO2 := Lib.hid hown1; have HG2 := Lib.hid hgrow; have HO3 : Hid (w5.ownsRow (w3.heap.size) 2 1 (.slice (some ⟨gg, 0, none⟩) (r + 1) cp) (r + 1) ((R ++ [(k : Int)]).map (Value.int .i64))) := Lib.hid (by rw [app_map2]; exact HO2.out); have HW5 : Hid (Below w3.heap.size w3 w5) := Lib.hid (by first | exact Below.grown (Below.alloc HWv.out HWv.out.size _) HG2.out (by have := HWv.out.size; first | (simp; done) | (simp; omega)) HNE0.out | exact Below.grown (Below.alloc (Below.drewN' HWv.out _) HWv.out.size _) HG2.out (by have := HWv.out.size; first | (simp; done) | (simp; omega)) HNE0.out); have hck5 := HGK.out w5 HW5.out; clear hown1 hgrow hat hlt2) | go_in)
          go_step3
          exact ⟨rfl, ⟨w3, g, r + 1, p + x.size, _, _, _, _, _, _, _, _, _, _, _, _, _, _, _, _, _, _, _, _, _, _, _, _, _, _, _, _, _, _, _, _, _, _, _, _, _, _, _, _, _, _, _, _, rfl, Lib.hid (by first | rfl | (rw [Nat.zero_add])), Lib.hid ⟨HP1.out, by omega, hle, HN1.out⟩, Lib.hid (by rw [HR1.out]; exact HO3.out), HW5, HW3, HGC⟩, by show (txB (s.data.toList.drop (p + x.size))).size < t.size; rw [HT.out, txB_size, txB_size, List.length_drop, List.length_drop, ← Lib.size_eq]; omega⟩
      · obtain rfl : k = n := by omega
        by_cases hpe : p = s.size
        · have HR : Hid (D = some r) := Lib.hid (by
            rw [← HQ.out.2.2.2]
            exact dcN_end (by omega) (HQ.out.1.trans hpe))
          have HWF := Lib.hid (Below.next HW3.out HW.out)
          have ht0 : t = ⟨#[]⟩ := by
            rw [HT.out, List.drop_eq_nil_of_le (by rw [← Lib.size_eq]; omega)]; rfl
          have HOy := Lib.hid (own_mono HOx.out HW3.out.size)
          clear HT
          subst ht0
          go_wp2
          try simp only [Exit.jump]
          go_ret2
          exact .inr ⟨_, v, HR.out, rfl, HOy.out, HWF.out⟩
        · have HR : Hid (D = none) := Lib.hid (by
            rw [← HQ.out.2.2.2]
            exact dcN_no (by rw [HQ.out.1]; exact hpe) (fk_no (by rw [HQ.out.1]; exact HL2.out)))
          have HWF := Lib.hid (Below.next HW3.out HW.out)
          have hsz : t.size ≠ 0 := by rw [HT.out, txB_size, List.length_drop, ← Lib.size_eq]; omega
          have hn1 : t.toList.isEmpty = false := by
            rw [HT.out, Lib.toList_data]
            show (s.data.toList.drop p).isEmpty = false
            cases h : s.data.toList.drop p with
            | nil => have := congrArg List.length h; rw [List.length_drop, ← Lib.size_eq] at this; simp only [List.length_nil] at this; omega
            | cons _ _ => rfl
          go_wp2
          try simp only [Exit.jump]
          go_ret2
          exact .inl ⟨HR.out, rfl, HWF.out⟩
  · intro _
    go_wp2_with (first | (go_at_call 18; refine (vc_impl a n cap zs _ HA.out hn).mono ?_; rintro e w2 ⟨rfl, hb⟩; replace HA := Lib.hid (HA.out.below hb); replace HS := Lib.hid (HS.out.below hb); obtain ⟨⟨hf0, hf1, hf2⟩, _⟩ := HS.out.facts1; clear hb) | (go_at_call 96; refine (bt_impl t _ hs2).mono ?_; rintro e w4 ⟨rfl, hbl⟩; replace HA := Lib.hid (HA.out.below hbl); replace HS := Lib.hid (HS.out.below hbl); obtain ⟨⟨hf0, hf1, hf2⟩, _⟩ := HS.out.facts1; clear hbl) | (go_at_call 67; refine (wd_impl a n cap zs _ HA.out h10 h11 HL.out).mono ?_; rintro e w3 ⟨g, rfl, hg⟩; have HG := Lib.hid hg; clear hg) | fail)
    go_step3
    have HGC : Hid (∀ (W : World) (j : Nat), Below w3.heap.size w3 W → j < n → W.cell? ⟨g, j, none⟩ = some (.string (f j))) := Lib.hid (fun W j hb hj => by
      rw [← HF.out, hb.cell (p := ⟨g, j, none⟩) HG.out.2.1]; exact (HG.out.2.2.1.2 j hj).1)
    have HW3 : Hid (Below w.heap.size w w3) := Lib.hid (Below.next HS.out.out HG.out.2.2.2)
    have HT : Hid (t = txB (s.data.toList.drop 0)) := Lib.hid (by rw [HTS.out, List.drop_zero]; exact (Lib.mk_data s).symm)
    have HQ : Hid (dcP f n s 0 = 0 ∧ 0 ≤ 0 ∧ 0 ≤ s.size ∧ dcN f n s (s.size + 1 - 0) 0 = D) := Lib.hid ⟨rfl, by omega, by omega, HD.out.symm⟩
    have HW : Hid (Below w3.heap.size w3 w3) := Lib.hid (Below.refl _ _)
    have HO : Hid (w3.ownsRow w3.heap.size 2 1 (.slice none 0 0) 0 ((dcL f n s 0).map (Value.int .i64))) := Lib.hid (World.ownsRow_nil _ _ _ _)
    have hps : 0 ≤ s.size := by omega
    clear HS HA HL HF HD HG hok hb
    go_wp2
    go_loopw [1, 7, 24] (fun bv v0 kv w0 => ∃ (k : Nat) (v : Value), k ≤ n ∧ bv = .string t ∧ v = v0 ∧ kv = .int .i64 k ∧ w3 = w0 ∧ Hid (w3.ownsRow w3.heap.size 2 1 v 0 ((dcL f n s 0).map (Value.int .i64))) ∧ Hid (∀ j, j < k → begB s 0 (f j) = false)) (fun _ _ kv _ => n - (intOf kv).toNat)
    case atStart => exact ⟨0, _, by omega, (by first | rfl | trivial), (by first | rfl | trivial), (by first | rfl | trivial), (by first | rfl | trivial), HO, Lib.hid (by intro j hj; omega)⟩
    case round =>
      obtain ⟨k, v, hk, rfl, rfl, rfl, rfl, HOx, HL2⟩ := hrel
      by_cases hlk : k < n
      · have hck1 := HGC.out w3 k HW.out hlk
        have hx1 := HFS.out k hlk
        have hbd := beg_drop s (f k) 0 hps
        cases hp : begB s 0 (f k) with
        | false =>
          have HN : Hid (∀ j, j < k + 1 → begB s 0 (f j) = false) := Lib.hid (fun j hj => by
            by_cases e : j < k
            · exact HL2.out j e
            · obtain rfl : j = k := by omega
              exact hp)
          have HC : Hid (∀ W : World, Calls Try.prog 97 #[.string t, .string (f k)] W fun e w' => e = .returned (.tuple #[.string t, .bool false]) ∧ W = w') := Lib.hid (fun W => (Try.strings_CutPrefix t (f k) W).mono fun _ _ ⟨h1, h2⟩ => ⟨by rw [h1, cut_no HT.out (hbd.symm.trans hp), cut_has HT.out, ← hbd, hp], h2.symm⟩)
          clear hp HL2 hbd
          generalize f k = x at hck1 HC hx1
          go_wp2_with (first | (go_at_call 97; refine (HC.out _).mono ?_; rintro e w' ⟨rfl, rfl⟩) | go_in)
          exact ⟨⟨k + 1, _, by omega, (by first | rfl | trivial), (by first | rfl | trivial), (by first | rfl | go_num | (congr 1)), (by first | rfl | trivial), HOx, HN⟩, by show n - ((k : Int) + 1).toNat < n - (k : Int).toNat; omega⟩
        | true =>
          have HC : Hid (∀ W : World, Calls Try.prog 97 #[.string t, .string (f k)] W fun e w' => e = .returned (.tuple #[.string (txB (s.data.toList.drop (0 + (f k).size))), .bool true]) ∧ W = w') := Lib.hid (fun W => (Try.strings_CutPrefix t (f k) W).mono fun _ _ ⟨h1, h2⟩ => ⟨by rw [h1, cut_yes HT.out (hbd.symm.trans hp), cut_has HT.out, ← hbd, hp], h2.symm⟩)
          have hle := beg_le hp
          have HK : Hid (dcK f n s 0 = k) := Lib.hid (fk_yes (by rw [HQ.out.1]; exact hp) (fun j hj => by rw [HQ.out.1]; exact HL2.out j hj) hlk)
          have HP1 : Hid (dcP f n s (0 + 1) = 0 + (f k).size) := Lib.hid (by rw [dcP_on HK.out, HQ.out.1])
          have HN1 : Hid (dcN f n s (s.size + 1 - (0 + 1)) (0 + 1) = D) := Lib.hid (by
            have := dcN_on (u := s.size + 1 - 0) (by rw [HQ.out.1]; omega) HK.out hlk (by omega)
            rw [HQ.out.2.2.2] at this
            rw [this]
            congr 1)
          have HR1 : Hid (dcL f n s (0 + 1) = dcL f n s 0 ++ [(k : Int)]) := Lib.hid (by show dcL f n s 0 ++ [(dcK f n s 0 : Int)] = _; rw [HK.out])
          obtain ⟨R, hR⟩ : ∃ R, R = dcL f n s 0 := ⟨_, rfl⟩
          rw [← hR] at HR1
          have HOv : Hid (w3.ownsRow w3.heap.size 2 1 v 0 ((R).map (Value.int .i64))) := Lib.hid (by rw [hR]; exact HOx.out)
          have HWv := HW
          have HGL := Lib.hid HWv.out.size
          have HNE0 : Hid (∀ b, v.ownBlock = some b → w3.heap.size ≤ b) := Lib.hid (own_block HOx.out)
          have HGK : Hid (∀ W : World, Below w3.heap.size w3 W → W.cell? ⟨g, k, none⟩ = some (.string (f k))) := Lib.hid (fun W hb => HGC.out W k hb hlk)
          clear hp HL2 HK hR hbd
          generalize f k = x at hck1 HC hx1 HP1 hle HGK
          go_wp2_with (first | (go_at_call 97; refine (HC.out _).mono ?_; rintro e w' ⟨rfl, rfl⟩) | (at_builtin; refine wpList_append_lies _ rfl _ _ 22 rfl (w3.heap.size) 2 i0 (.int .i64 0) 1 8 Try.underlying22 hi hz0 hz1 hz2 rfl (by omega) v 0 ((R).map (Value.int .i64)) rfl (World.ownsRow.alloc HOv.out _) ⟨w3.heap.size, 0, none⟩ 1 1 [.int .i64 (k : Int)] rfl rfl (World.news_of_block (cs := #[.int .i64 (k : Int)]) (t := 2) (fr := (0, 0)) (heap_alloc_new _ _)) (by simp [Value.oneCell']) (by omega) (by unfold maxLen; omega) (by omega) (by have := HGL.out; first | (simp; done) | (simp; omega)) (w3.heap.size + 1) (by simp) ?_; intro gg cp w5 hown1 hgrow hat hlt2; have HO2 := Lib.hid hown1; have HG2 := Lib.hid hgrow; have HO3 : Hid (w5.ownsRow (w3.heap.size) 2 1 (.slice (some ⟨gg, 0, none⟩) (0 + 1) cp) (0 + 1) ((R ++ [(k : Int)]).map (Value.int .i64))) := Lib.hid (by rw [app_map2]; exact HO2.out); have HW5 : Hid (Below w3.heap.size w3 w5) := Lib.hid (by first | exact Below.grown (Below.alloc HWv.out HWv.out.size _) HG2.out (by have := HWv.out.size; first | (simp; done) | (simp; omega)) HNE0.out | exact Below.grown (Below.alloc (Below.drewN' HWv.out _) HWv.out.size _) HG2.out (by have := HWv.out.size; first | (simp; done) | (simp; omega)) HNE0.out); have hck5 := HGK.out w5 HW5.out; clear hown1 hgrow hat hlt2) | go_in)
          go_step3
          exact ⟨rfl, ⟨w3, g, 0 + 1, 0 + x.size, _, _, _, _, _, _, _, _, _, _, _, _, _, _, _, _, _, _, _, _, _, _, _, _, _, _, _, _, _, _, _, _, _, _, _, _, _, _, _, _, _, _, _, _, rfl, Lib.hid (by first | rfl | (rw [Nat.zero_add])), Lib.hid ⟨HP1.out, by omega, hle, HN1.out⟩, Lib.hid (by rw [HR1.out]; exact HO3.out), HW5, HW3, HGC⟩⟩
      · obtain rfl : k = n := by omega
        by_cases hpe : 0 = s.size
        · have HR : Hid (D = some 0) := Lib.hid (by
            rw [← HQ.out.2.2.2]
            exact dcN_end (by omega) (HQ.out.1.trans hpe))
          have HWF := Lib.hid (Below.next HW3.out HW.out)
          have ht0 : t = ⟨#[]⟩ := by
            rw [HT.out, List.drop_eq_nil_of_le (by rw [← Lib.size_eq]; omega)]; rfl
          have HOy := Lib.hid (own_mono HOx.out HW3.out.size)
          clear HT HTS hb2 hs2
          subst ht0
          go_wp2
          try simp only [Exit.jump]
          go_ret2
          exact .inr ⟨_, v, HR.out, rfl, HOy.out, HWF.out⟩
        · have HR : Hid (D = none) := Lib.hid (by
            rw [← HQ.out.2.2.2]
            exact dcN_no (by rw [HQ.out.1]; exact hpe) (fk_no (by rw [HQ.out.1]; exact HL2.out)))
          have HWF := Lib.hid (Below.next HW3.out HW.out)
          have hsz : t.size ≠ 0 := by rw [HT.out, txB_size, List.length_drop, ← Lib.size_eq]; omega
          have hn1 : t.toList.isEmpty = false := by
            rw [HT.out, Lib.toList_data]
            show (s.data.toList.drop 0).isEmpty = false
            cases h : s.data.toList.drop 0 with
            | nil => have := congrArg List.length h; rw [List.length_drop, ← Lib.size_eq] at this; simp only [List.length_nil] at this; omega
            | cons _ _ => rfl
          go_wp2
          try simp only [Exit.jump]
          go_ret2
          exact .inl ⟨HR.out, rfl, HWF.out⟩

def okDc (zs : List Int) (n : Nat) (s : ByteArray) : Bool := codeB zs n && (bitsB s && (dcN (wdF zs n n) n s (s.size + 1) 0).isSome)
def cntDc (zs : List Int) (n : Nat) (s : ByteArray) : Nat := (dcN (wdF zs n n) n s (s.size + 1) 0).getD 0
theorem okDc_out {zs : List Int} {n : Nat} {s : ByteArray} (h : okDc zs n s = true) : codeB zs n = true ∧ bitsB s = true ∧ dcN (wdF zs n n) n s (s.size + 1) 0 = some (cntDc zs n s) := by
  unfold okDc at h
  rw [Bool.and_eq_true, Bool.and_eq_true] at h
  refine ⟨h.1, h.2.1, ?_⟩
  unfold cntDc
  cases e : dcN (wdF zs n n) n s (s.size + 1) 0 with
  | none => rw [e] at h; cases h.2.2
  | some N => rfl
theorem okDc_no {zs : List Int} {n : Nat} {s : ByteArray} (h : okDc zs n s = false) (h1 : codeB zs n = true) (h2 : bitsB s = true) : dcN (wdF zs n n) n s (s.size + 1) 0 = none := by
  unfold okDc at h
  rw [h1, h2] at h
  cases e : dcN (wdF zs n n) n s (s.size + 1) 0 with
  | none => rfl
  | some N => rw [e] at h; cases h
theorem dcN_lt {f : Nat → ByteArray} {n : Nat} {s : ByteArray} : ∀ u r N, dcN f n s u r = some N → N < r + u
  | 0, _, _, h => by cases h
  | u + 1, r, N, h => by
    unfold dcN at h
    split at h
    · cases h; omega
    · split at h
      · have := dcN_lt u (r + 1) N h; omega
      · cases h
theorem dc_n {zs : List Int} {n : Nat} {s : ByteArray} (hs : s.size ≤ 1048576) (h : okDc zs n s = true) : cntDc zs n s ≤ 1048576 := by
  have := dcN_lt _ _ _ (okDc_out h).2.2
  omega
theorem dp_yes {D : Option Nat} {N : Nat} {L : Nat → List Int} {T : TypeId} {w : World} {e : Ending} {w' : World} (h : DcPost D L T w e w') (hD : D = some N) (hN : N ≠ 0) : ∃ g cp, e = .returned (.tuple #[.slice (some ⟨g, 0, none⟩) N cp, .bool true]) ∧ New w w' g (.il N (L N)) := by
  rcases h with ⟨h, _⟩ | ⟨M, v, h1, h2, h3, h4⟩
  · rw [hD] at h; cases h
  · rw [hD] at h1
    injection h1 with h1
    subst h1
    obtain ⟨g, cp, rfl, hg, hgl, hr, hf⟩ := own_irowF h3 hN
    exact ⟨g, cp, h2, hg, hgl, Ent.il_ok hr hf, h4⟩
theorem dp_zero {D : Option Nat} {L : Nat → List Int} {T : TypeId} {w : World} {e : Ending} {w' : World} (h : DcPost D L T w e w') (hD : D = some 0) : ∃ b cp, e = .returned (.tuple #[.slice b 0 cp, .bool true]) ∧ Below w.heap.size w w' := by
  rcases h with ⟨h, _⟩ | ⟨M, v, h1, h2, h3, h4⟩
  · rw [hD] at h; cases h
  · rw [hD] at h1
    injection h1 with h1
    subst h1
    obtain ⟨_, h3⟩ := h3
    rcases h3 with ⟨e1, _⟩ | ⟨g, cap, cur, e1, _⟩
    · exact ⟨_, _, by rw [h2, e1], h4⟩
    · exact ⟨_, _, by rw [h2, e1], h4⟩
theorem dp_no {D : Option Nat} {L : Nat → List Int} {T : TypeId} {w : World} {e : Ending} {w' : World} (h : DcPost D L T w e w') (hD : D = none) : e = .returned (.tuple #[.slice none 0 0, .bool false]) ∧ Below w.heap.size w w' := by
  rcases h with ⟨_, h⟩ | ⟨M, v, h1, _⟩
  · exact h
  · rw [hD] at h1; cases h1
theorem dcSY (a : Option Addr) (n cap : Nat) (zs : List Int) (s : ByteArray) (w : World) (h : IRow w a n zs) (hn : n ≤ 1048576) (hs : s.size ≤ 1048576) (hok : okDc zs n s = true) (hpos : cntDc zs n s ≠ 0) :
    Calls Try.prog 52 #[.agg #[.slice a n cap], .string s] w fun e w' => ∃ g cp, e = .returned (.tuple #[.slice (some ⟨g, 0, none⟩) (cntDc zs n s) cp, .bool true]) ∧ New w w' g (.il (cntDc zs n s) (dcL (wdF zs n n) n s (cntDc zs n s))) :=
  (dc_spec a n cap zs s w h hn hs (okDc_out hok).1 (okDc_out hok).2.1).mono fun _ _ h => dp_yes h (okDc_out hok).2.2 hpos
theorem dcS0 (a : Option Addr) (n cap : Nat) (zs : List Int) (s : ByteArray) (w : World) (h : IRow w a n zs) (hn : n ≤ 1048576) (hs : s.size ≤ 1048576) (hok : okDc zs n s = true) (hz : cntDc zs n s = 0) :
    Calls Try.prog 52 #[.agg #[.slice a n cap], .string s] w fun e w' => ∃ b cp, e = .returned (.tuple #[.slice b 0 cp, .bool true]) ∧ Below w.heap.size w w' :=
  (dc_spec a n cap zs s w h hn hs (okDc_out hok).1 (okDc_out hok).2.1).mono fun _ _ h => dp_zero h (hz ▸ (okDc_out hok).2.2)
set_option maxHeartbeats 4000000 in
theorem dcSN (a : Option Addr) (n cap : Nat) (zs : List Int) (s : ByteArray) (w : World) (h : IRow w a n zs) (hn : n ≤ 1048576) (hs : s.size ≤ 1048576) (hok : okDc zs n s = false) :
    Calls Try.prog 52 #[.agg #[.slice a n cap], .string s] w fun e w' => e = .returned (.tuple #[.slice none 0 0, .bool false]) ∧ Below w.heap.size w w' := by
  cases h1 : codeB zs n with
  | true =>
    cases h2 : bitsB s with
    | true => exact (dc_spec a n cap zs s w h hn hs h1 h2).mono fun _ _ h => dp_no h (okDc_no hok h1 h2)
    | false =>
      have HA := Lib.hid (h.alloc (.cells #[.slice a n cap] 27))
      clear h hok
      go_enter Try.func52, Try.ntmps52
      go_wp2_with (first | (go_at_call 56; refine (cdis_spec _ a n cap zs _ HA.out hn (cell_box _ _ _)).mono ?_; rintro e w' ⟨rfl, rfl⟩) | (go_at_call 94; refine (bt_spec s _ hs).mono ?_; rintro e w' ⟨rfl, rfl⟩) | fail)
      go_ret2
      exact ⟨rfl, belowA _ _⟩
  | false =>
    have HA := Lib.hid (h.alloc (.cells #[.slice a n cap] 27))
    clear h hok
    go_enter Try.func52, Try.ntmps52
    go_wp2_with (first | (go_at_call 56; refine (cdis_spec _ a n cap zs _ HA.out hn (cell_box _ _ _)).mono ?_; rintro e w' ⟨rfl, rfl⟩) | fail)
    go_ret2
    exact ⟨rfl, belowA _ _⟩
theorem dcIY (a : Option Addr) (n cap : Nat) (zs : List Int) (s : ByteArray) (w : World) (h : IRow w a n zs) (hn : n ≤ 1048576) (hs : s.size ≤ 1048576) (hok : okDc zs n s = true) (hpos : cntDc zs n s ≠ 0) :
    Calls Try.prog 53 #[.agg #[.slice a n cap], .string s] w fun e w' => ∃ g cp, e = .returned (.tuple #[.slice (some ⟨g, 0, none⟩) (cntDc zs n s) cp, .bool true]) ∧ New w w' g (.il (cntDc zs n s) (dcL (wdF zs n n) n s (cntDc zs n s))) :=
  (dc_impl a n cap zs s w h hn hs (okDc_out hok).1 (okDc_out hok).2.1).mono fun _ _ h => dp_yes h (okDc_out hok).2.2 hpos
theorem dcI0 (a : Option Addr) (n cap : Nat) (zs : List Int) (s : ByteArray) (w : World) (h : IRow w a n zs) (hn : n ≤ 1048576) (hs : s.size ≤ 1048576) (hok : okDc zs n s = true) (hz : cntDc zs n s = 0) :
    Calls Try.prog 53 #[.agg #[.slice a n cap], .string s] w fun e w' => ∃ b cp, e = .returned (.tuple #[.slice b 0 cp, .bool true]) ∧ Below w.heap.size w w' :=
  (dc_impl a n cap zs s w h hn hs (okDc_out hok).1 (okDc_out hok).2.1).mono fun _ _ h => dp_zero h (hz ▸ (okDc_out hok).2.2)
set_option maxHeartbeats 4000000 in
theorem dcIN (a : Option Addr) (n cap : Nat) (zs : List Int) (s : ByteArray) (w : World) (h : IRow w a n zs) (hn : n ≤ 1048576) (hs : s.size ≤ 1048576) (hok : okDc zs n s = false) :
    Calls Try.prog 53 #[.agg #[.slice a n cap], .string s] w fun e w' => e = .returned (.tuple #[.slice none 0 0, .bool false]) ∧ Below w.heap.size w w' := by
  cases h1 : codeB zs n with
  | true =>
    cases h2 : bitsB s with
    | true => exact (dc_impl a n cap zs s w h hn hs h1 h2).mono fun _ _ h => dp_no h (okDc_no hok h1 h2)
    | false =>
      have HS := Lib.hid ((Mine.nil w).alloc1 (.slice a n cap) 27)
      have HA := Lib.hid (h.alloc (.cells #[.slice a n cap] 27))
      clear h hok
      go_enter Try.func53, Try.ntmps53
      go_wp2
      go_step3
      go_wp2_with (first | (go_at_call 18; refine (vc_impl a n cap zs _ HA.out hn).mono ?_; rintro e w2 ⟨rfl, hb⟩; replace HS := Lib.hid (HS.out.below hb); clear hb) | (go_at_call 96; refine (bt_impl s _ hs).mono ?_; rintro e w4 ⟨rfl, hbl⟩; replace HS := Lib.hid (HS.out.below hbl); clear hbl) | fail)
      try rw [Exit.noGoto_ret]
      go_ret2
      exact ⟨rfl, HS.out.out⟩
  | false =>
    have HS := Lib.hid ((Mine.nil w).alloc1 (.slice a n cap) 27)
    have HA := Lib.hid (h.alloc (.cells #[.slice a n cap] 27))
    clear h hok
    go_enter Try.func53, Try.ntmps53
    go_wp2
    go_step3
    go_wp2_with (first | (go_at_call 18; refine (vc_impl a n cap zs _ HA.out hn).mono ?_; rintro e w2 ⟨rfl, hb⟩; replace HS := Lib.hid (HS.out.below hb); clear hb) | fail)
    try rw [Exit.noGoto_ret]
    go_ret2
    exact ⟨rfl, HS.out.out⟩

theorem eqMIz (a b : Option Addr) (cap capb : Nat) (w w0 : World) (L : List (Nat × Ent)) (h : Mine w0 w L) :
    Calls Try.prog 27 #[.slice a 0 cap, .slice b 0 capb] w fun e w' => e = .returned (.bool true) ∧ Mine w0 w' L := by
  refine (eqI a b 0 cap capb [] w ⟨rfl, .inl rfl⟩ ⟨rfl, .inl rfl⟩ (Nat.zero_le _)).mono ?_
  rintro e w' ⟨he, d⟩
  exact ⟨he, h.below d.below⟩
theorem markIz (a : Option Addr) (cap : Nat) (k0 : Int) (w : World) : Calls Try.prog 41 #[.slice a 0 cap, .int .i64 k0] w fun e w' => e = .returned (.int .i64 k0) ∧ w = w' := by
  go_enter Try.func41, Try.ntmps41
  go_wp2
  refine wp_loop_rounds 1 ?_
  rw [rounds_succ]
  go_wp2
  go_ret
  exact ⟨rfl, rfl⟩
theorem heldIz (a : Option Addr) (cap : Nat) (k0 : Int) (w : World) : Calls Try.prog 54 #[.slice a 0 cap, .int .i64 k0] w fun e w' => e = .returned (.int .i64 k0) ∧ w = w' := by
  go_enter Try.func54, Try.ntmps54
  go_wp2
  refine wp_loop_rounds 1 ?_
  rw [rounds_succ]
  go_wp2
  go_ret
  exact ⟨rfl, rfl⟩
end Go.Proofs.Ytiajpmfdaooefaa
