/- DrawLetters: the functions. -/
import Derived.Test.YtcgdhicgpkoncaaDrv
namespace Go.Proofs.Ytcgdhicgpkoncaa
open Go.Proofs.Ytcgdhicgpkoncaa.Flo Go.RowKit

/-- What a row of the call's own is, as cells. -/
theorem own_irow {w : World} {base : Nat} {e : TypeId} {v : Value} {n : Nat} {zs : List Int} (h : w.ownsRow base e 1 v n (zs.map (Value.int .i64))) (hn : n ≠ 0) :
    ∃ g cap, v = .slice (some ⟨g, 0, none⟩) n cap ∧ base ≤ g ∧ g < w.heap.size ∧ IRow w (some ⟨g, 0, none⟩) n zs ∧ ∀ j, j < n → w.frozen? ⟨g, j, none⟩ = false := by
  obtain ⟨hl, h⟩ := h
  rcases h with ⟨_, h0⟩ | ⟨g, cap, cur, rfl, hg, hh, hnc, _, hcs, ht⟩
  · exact absurd h0 hn
  · have hlen : zs.length = n := by simpa using hl
    rw [Nat.mul_one] at ht hcs
    have hgl : g < w.heap.size := (Array.getElem?_eq_some_iff.1 hh).1
    have hcell : ∀ i, i < n → w.cell? ⟨g, i, none⟩ = cur[i]? := fun i hi => by
      unfold World.cell?
      rw [Array.getElem?_eq_getElem hgl] at hh
      injection hh with hh
      simp [hgl, hh]
    refine ⟨g, cap, rfl, hg, hgl, ⟨hlen, .inr ⟨g, 0, rfl, hgl, fun i hi => ?_⟩⟩, fun j hj => ?_⟩
    · rw [Nat.zero_add, hcell i hi]
      have h1 : cur[i]? = cur.toList[i]? := by simp
      rw [h1]
      have h2 : (cur.toList.take n)[i]? = cur.toList[i]? := by rw [List.getElem?_take]; simp [hi]
      rw [← h2, ht]
      rw [List.getElem?_map, List.getD_eq_getElem?_getD, List.getElem?_eq_getElem (by omega)]; rfl
    · unfold World.frozen?
      rw [Array.getElem?_eq_getElem hgl] at hh
      injection hh with hh
      simp [hgl, hh]

def gtZ (zs : List Nat) (sh k : Nat) : Bool := gt32 (Flo.vsum zs (k + 1)) (cls .f32 sh)
def posZ (zs : List Nat) (k : Nat) : Bool := (FloatKind.f32).format.order (zs.getD k 0) 0 == some .gt
/-- The letter of a share, from the place k on. -/
def letF (zs : List Nat) (sh : Nat) : Nat → Nat → Nat → Nat
  | 0, _, last => last
  | f + 1, k, last => if gtZ zs sh k then k else letF zs sh f (k + 1) (if posZ zs k then k else last)
theorem gt_sum {zs : List Nat} {sh k r : Nat} (h : cls .f32 r = Flo.vsum zs k) (W : World) : ((FloatKind.f32).format.order (fres .add .f32 r (zs.getD k 0) W) sh == some .gt) = gtZ zs sh k := by
  unfold gtZ gt32
  rw [order_cls, fres_cls, h]; rfl
theorem let_hit {zs : List Nat} {sh n k last : Nat} (hk : k < n) (hg : gtZ zs sh k = true) : letF zs sh (n - k) k last = k := by
  obtain ⟨f, hf⟩ : ∃ f, n - k = f + 1 := ⟨n - k - 1, by omega⟩
  rw [hf]
  show (if gtZ zs sh k then k else _) = k
  rw [if_pos hg]
theorem let_on {zs : List Nat} {sh n k last : Nat} (hk : k < n) (hg : gtZ zs sh k = false) : letF zs sh (n - k) k last = letF zs sh (n - (k + 1)) (k + 1) (if posZ zs k then k else last) := by
  obtain ⟨f, hf⟩ : ∃ f, n - k = f + 1 := ⟨n - k - 1, by omega⟩
  have hf2 : n - (k + 1) = f := by omega
  rw [hf, hf2]
  show (if gtZ zs sh k then k else _) = _
  rw [hg]; rfl
def nxt (s : Int) : Int := (1664525 * s + 1013904223) % 4294967296
def seedN (s : Int) : Nat → Int
  | 0 => s
  | k + 1 => nxt (seedN s k)
theorem seed_in {s : Int} (h0 : 0 ≤ s) (h1 : s ≤ 4294967295) : ∀ k, 0 ≤ seedN s k ∧ seedN s k ≤ 4294967295
  | 0 => ⟨h0, h1⟩
  | k + 1 => by
    have e : seedN s (k + 1) = (1664525 * seedN s k + 1013904223) % 4294967296 := rfl
    rw [e]; omega
def shN (s : Int) : Nat := (floatBits .mul .f32 (floatOfInt .f32 (s / 256)) 864026624).getD 0
theorem sh_ops {s : Int} (h0 : 0 ≤ s) (h1 : s ≤ 4294967295) : ∃ q : Nat, s / 256 = (q : Int) ∧ floatBits .quo .f32 (floatOfInt .f32 (q : Int)) 1266679808 = some (shN s) ∧ floatBits .mul .f32 (floatOfInt .f32 (q : Int)) 864026624 = some (shN s) := by
  obtain ⟨q, hq⟩ : ∃ q : Nat, s / 256 = (q : Int) := ⟨(s / 256).toNat, by omega⟩
  obtain ⟨z, h2, h3⟩ := share_eq q (by omega)
  have e : shN s = z := by unfold shN; rw [hq, h3]; rfl
  exact ⟨q, hq, by rw [e]; exact h2, by rw [e]; exact h3⟩
/-- The letters that are drawn. -/
def lets (zs : List Nat) (n : Nat) (s : Int) (k : Nat) : List Int := (List.range k).map fun j => ((letF zs (shN (seedN s (j + 1))) n 0 0 : Nat) : Int)
theorem lets_len (zs : List Nat) (n : Nat) (s : Int) (k : Nat) : (lets zs n s k).length = k := by simp [lets]
theorem lets_on (zs : List Nat) (n : Nat) (s : Int) (k : Nat) : (lets zs n s (k + 1)).map (Value.int .i64) = (lets zs n s k).map (Value.int .i64) ++ [.int .i64 ((letF zs (shN (seedN s (k + 1))) n 0 0 : Nat) : Int)] := by
  simp [lets, List.range_succ]
def okD (zs : List Nat) (n : Nat) (s c : Int) : Bool := rowB zs n && (decide (0 ≤ s ∧ s ≤ 4294967295) && decide (0 ≤ c ∧ c ≤ 64))
theorem okD_out {zs : List Nat} {n : Nat} {s c : Int} (h : okD zs n s c = true) : rowB zs n = true ∧ (0 ≤ s ∧ s ≤ 4294967295) ∧ (0 ≤ c ∧ c ≤ 64) := by
  unfold okD at h
  rw [Bool.and_eq_true, Bool.and_eq_true] at h
  exact ⟨h.1, of_decide_eq_true h.2.1, of_decide_eq_true h.2.2⟩
theorem ret_nat {a b : Nat} (h : a = b) : Ending.returned (.int .i64 (a : Int)) = .returned (.int .i64 (b : Int)) := by rw [h]
set_option maxRecDepth 100000 in
set_option maxHeartbeats 4000000 in
theorem ltrS (a : Option Addr) (n cap : Nat) (zs : List Nat) (sh : Nat) (w : World) (ha : FRow w a n zs) (hn : n ≤ 1048576) :
    Calls Try.prog 86 #[.slice a n cap, .float .f32 sh] w fun e w' => e = .returned (.int .i64 ((letF zs sh n 0 0 : Nat) : Int)) ∧ Drew w w' := by
  have HA := Lib.hid ha
  clear ha
  go_enter Try.func86, Try.ntmps86
  go_wp2
  go_loopw [5, 6, 7] (fun lv sv iv w' => ∃ k q r last : Nat, k ≤ n ∧ last ≤ n ∧ lv = .int .i64 (last : Int) ∧ sv = .float .f32 r ∧ Hid (cls .f32 r = Flo.vsum zs k) ∧ iv = .int .i64 k ∧ w' = w.drewN q ∧ Hid (letF zs sh (n - k) k last = letF zs sh n 0 0)) (fun _ _ iv _ => n - (intOf iv).toNat)
  case atStart => exact ⟨0, 0, 0, 0, by omega, by omega, rfl, rfl, Lib.hid rfl, rfl, rfl, Lib.hid rfl⟩
  case round =>
    obtain ⟨k, q, r, last, hk, hlast, rfl, rfl, HR, rfl, rfl, HL⟩ := hrel
    by_cases hlt : k < n
    · obtain ⟨b1, o1, rfl, hck1⟩ := HA.out.cell hlt
      have hgt := gt_sum (sh := sh) HR.out
      have HS : ∀ w2, Hid (cls .f32 (fres .add .f32 r (zs.getD k 0) w2) = Flo.vsum zs (k + 1)) := fun w2 => Lib.hid (by rw [fres_cls, HR.out]; rfl)
      cases hg : gtZ zs sh k with
      | true =>
        have HF := Lib.hid (HL.out.symm.trans (let_hit hlt hg))
        rw [hg] at hgt
        clear hg HS
        generalize zs.getD k 0 = x at hck1 hgt
        go_wp2
        go_ret
        exact ⟨ret_nat HF.out.symm, Drew.mk _ _⟩
      | false =>
        rw [hg] at hgt
        cases hp : posZ zs k with
        | true =>
          have HN : Hid (letF zs sh (n - (k + 1)) (k + 1) k = letF zs sh n 0 0) := Lib.hid (by have := let_on (last := last) hlt hg; rw [hp] at this; exact this.symm.trans HL.out)
          have hpp : ((FloatKind.f32).format.order (zs.getD k 0) 0 == some .gt) = true := hp
          clear hg hp
          generalize zs.getD k 0 = x at hck1 hgt HS hpp
          go_wp2
          exact ⟨⟨k + 1, _, _, k, by omega, by omega, rfl, rfl, HS _, by first | rfl | go_num | (congr 1), rfl, HN⟩, by show n - ((k : Int) + 1).toNat < n - (k : Int).toNat; omega⟩
        | false =>
          have HN : Hid (letF zs sh (n - (k + 1)) (k + 1) last = letF zs sh n 0 0) := Lib.hid (by have := let_on (last := last) hlt hg; rw [hp] at this; exact this.symm.trans HL.out)
          have hpp : ((FloatKind.f32).format.order (zs.getD k 0) 0 == some .gt) = false := hp
          clear hg hp
          generalize zs.getD k 0 = x at hck1 hgt HS hpp
          go_wp2
          exact ⟨⟨k + 1, _, _, last, by omega, by omega, rfl, rfl, HS _, by first | rfl | go_num | (congr 1), rfl, HN⟩, by show n - ((k : Int) + 1).toNat < n - (k : Int).toNat; omega⟩
    · obtain rfl : k = n := by omega
      have HF : Hid (last = letF zs sh k 0 0) := Lib.hid (by have := HL.out; rw [Nat.sub_self] at this; exact this)
      go_wp2
      go_ret
      exact ⟨ret_nat HF.out, Drew.mk _ _⟩
set_option maxRecDepth 100000 in
set_option maxHeartbeats 4000000 in
theorem ltrI (a : Option Addr) (n cap : Nat) (zs : List Nat) (sh : Nat) (w : World) (ha : FRow w a n zs) (hn : n ≤ 1048576) :
    Calls Try.prog 89 #[.slice a n cap, .float .f32 sh] w fun e w' => e = .returned (.int .i64 ((letF zs sh n 0 0 : Nat) : Int)) ∧ Drew w w' := by
  have HA := Lib.hid ha
  clear ha
  go_enter Try.func89, Try.ntmps89
  go_wp2
  go_loopw [5, 6, 11] (fun sv lv iv w' => ∃ k q r last : Nat, k ≤ n ∧ last ≤ n ∧ lv = .int .i64 (last : Int) ∧ sv = .float .f32 r ∧ Hid (cls .f32 r = Flo.vsum zs k) ∧ iv = .int .i64 k ∧ w' = w.drewN q ∧ Hid (letF zs sh (n - k) k last = letF zs sh n 0 0)) (fun _ _ iv _ => n - (intOf iv).toNat)
  case atStart => exact ⟨0, 0, 0, 0, by omega, by omega, rfl, rfl, Lib.hid rfl, rfl, rfl, Lib.hid rfl⟩
  case round =>
    obtain ⟨k, q, r, last, hk, hlast, rfl, rfl, HR, rfl, rfl, HL⟩ := hrel
    by_cases hlt : k < n
    · obtain ⟨b1, o1, rfl, hck1⟩ := HA.out.cell hlt
      have hgt := gt_sum (sh := sh) HR.out
      have HS : ∀ w2, Hid (cls .f32 (fres .add .f32 r (zs.getD k 0) w2) = Flo.vsum zs (k + 1)) := fun w2 => Lib.hid (by rw [fres_cls, HR.out]; rfl)
      cases hg : gtZ zs sh k with
      | true =>
        have HF := Lib.hid (HL.out.symm.trans (let_hit hlt hg))
        rw [hg] at hgt
        clear hg HS
        generalize zs.getD k 0 = x at hck1 hgt
        go_wp2
        go_ret
        exact ⟨ret_nat HF.out.symm, Drew.mk _ _⟩
      | false =>
        rw [hg] at hgt
        cases hp : posZ zs k with
        | true =>
          have HN : Hid (letF zs sh (n - (k + 1)) (k + 1) k = letF zs sh n 0 0) := Lib.hid (by have := let_on (last := last) hlt hg; rw [hp] at this; exact this.symm.trans HL.out)
          have hpp : ((FloatKind.f32).format.order (zs.getD k 0) 0 == some .gt) = true := hp
          clear hg hp
          generalize zs.getD k 0 = x at hck1 hgt HS hpp
          go_wp2
          exact ⟨⟨k + 1, _, _, k, by omega, by omega, rfl, rfl, HS _, by first | rfl | go_num | (congr 1), rfl, HN⟩, by show n - ((k : Int) + 1).toNat < n - (k : Int).toNat; omega⟩
        | false =>
          have HN : Hid (letF zs sh (n - (k + 1)) (k + 1) last = letF zs sh n 0 0) := Lib.hid (by have := let_on (last := last) hlt hg; rw [hp] at this; exact this.symm.trans HL.out)
          have hpp : ((FloatKind.f32).format.order (zs.getD k 0) 0 == some .gt) = false := hp
          clear hg hp
          generalize zs.getD k 0 = x at hck1 hgt HS hpp
          go_wp2
          exact ⟨⟨k + 1, _, _, last, by omega, by omega, rfl, rfl, HS _, by first | rfl | go_num | (congr 1), rfl, HN⟩, by show n - ((k : Int) + 1).toNat < n - (k : Int).toNat; omega⟩
    · obtain rfl : k = n := by omega
      have HF : Hid (last = letF zs sh k 0 0) := Lib.hid (by have := HL.out; rw [Nat.sub_self] at this; exact this)
      go_wp2
      go_ret
      exact ⟨ret_nat HF.out, Drew.mk _ _⟩
set_option maxHeartbeats 1000000 in
theorem next_impl (S S2 : Int) (w : World) (h0 : 0 ≤ S) (h1 : S ≤ 4294967295) (h2 : (1664525 * S + 1013904223) % 4294967296 = S2) : Calls Try.prog 88 #[.int .i64 S] w fun e w' => e = .returned (.int .i64 S2) ∧ w = w' := by
  have H2 := Lib.hid h2
  clear h2
  go_enter Try.func88, Try.ntmps88
  go_wp2
  go_ret
  exact ⟨by rw [← H2.out]; rfl, rfl⟩
set_option maxHeartbeats 1000000 in
theorem seed_yes (s : Int) (w : World) (h0 : 0 ≤ s) (h1 : s ≤ 4294967295) : Calls Try.prog 87 #[.int .i64 s] w fun e w' => e = .returned (.bool true) ∧ w = w' := by
  have d1 : decide (0 ≤ s) = true := decide_eq_true h0
  have d2 : decide (s < 4294967296) = true := decide_eq_true (by omega)
  go_enter Try.func87, Try.ntmps87
  go_wp2
  go_ret
  exact ⟨rfl, rfl⟩
set_option maxHeartbeats 1000000 in
theorem seed_no (s : Int) (w : World) (h : ¬ (0 ≤ s ∧ s ≤ 4294967295)) : Calls Try.prog 87 #[.int .i64 s] w fun e w' => e = .returned (.bool false) ∧ w = w' := by
  by_cases h0 : 0 ≤ s
  · have d1 : decide (0 ≤ s) = true := decide_eq_true h0
    have d2 : decide (s < 4294967296) = false := decide_eq_false (by omega)
    clear h
    go_enter Try.func87, Try.ntmps87
    go_wp2
    go_ret
    exact ⟨rfl, rfl⟩
  · have d1 : decide (0 ≤ s) = false := decide_eq_false h0
    clear h
    go_enter Try.func87, Try.ntmps87
    go_wp2
    go_ret
    exact ⟨rfl, rfl⟩
theorem own_emptyI (w : World) (T : TypeId) : (w.alloc (.cells #[] T)).ownsRow w.heap.size T 1 (.slice (some ⟨w.heap.size, 0, none⟩) 0 0) 0 [] :=
  own_empty w T
theorem val_int {a b : Int} (h : a = b) : Value.int .i64 a = .int .i64 b := by rw [h]
theorem ret_3 {v : Value} {a b : Int} (h : a = b) : Ending.returned (.tuple #[v, .int .i64 a, .bool true]) = .returned (.tuple #[v, .int .i64 b, .bool true]) := by rw [h]
set_option maxRecDepth 100000 in
set_option maxHeartbeats 8000000 in
theorem drS (a : Option Addr) (n cap : Nat) (zs : List Nat) (s c : Int) (w : World) (ha : FRow w a n zs) (hn : n ≤ 1048576) (hok : okD zs n s c = true) (h1 : 0 < c) :
    Calls Try.prog 45 #[.slice a n cap, .int .i64 s, .int .i64 c] w fun e w' => ∃ g cp, e = .returned (.tuple #[.slice (some ⟨g, 0, none⟩) c.toNat cp, .int .i64 (seedN s c.toNat), .bool true]) ∧ New w w' g (.il c.toNat (lets zs n s c.toNat)) := by
  obtain ⟨i0, hi, hz0, hz1, hz2⟩ := info_parts Try.info64
  obtain ⟨hrow, hs, hc⟩ := okD_out hok
  obtain ⟨C, rfl⟩ : ∃ C : Nat, c = (C : Int) := ⟨c.toNat, by omega⟩
  have hC64 : C ≤ 64 := by omega
  have HC0 : Hid ((0 : Int) ≤ (C : Int)) := Lib.hid (by omega)
  have HC64 : Hid ((C : Int) ≤ 64) := Lib.hid (by omega)
  have HA := Lib.hid ha
  clear ha hok hc
  have hC1 : 0 < C := by omega
  clear h1
  go_enter Try.func45, Try.ntmps45
  go_wp2_with (first | (go_at_call 81; refine (row_spec _ n _ zs _ HA.out hn).mono ?_; rintro e w' ⟨rfl, q1, rfl⟩) | (go_at_call 60; ((with_reducible refine (in_true s 0 4294967295 _ hs.1 hs.2).mono ?_); rintro e w' ⟨rfl, rfl⟩)) | (go_at_call 60; ((with_reducible refine (in_true (C : Int) 0 64 _ HC0.out HC64.out).mono ?_); rintro e w' ⟨rfl, rfl⟩)) | go_in)
  go_loopw [1, 9, 10] (fun sv v0 iv wr0 => ∃ (k : Nat) (v : Value) (wr : World), k ≤ C ∧ sv = .int .i64 (seedN s k) ∧ v = v0 ∧ iv = .int .i64 k ∧ wr = wr0 ∧ Hid (wr.ownsRow w.heap.size 2 1 v k ((lets zs n s k).map (Value.int .i64))) ∧ Hid (Below w.heap.size w wr)) (fun _ _ iv _ => C - (intOf iv).toNat)
  case atStart => exact ⟨0, _, _, by omega, rfl, rfl, rfl, rfl, Lib.hid (own_emptyI (w.drewN _) 2), Lib.hid (Below.alloc (Below.drewN' (Below.refl _ _) _) (Nat.le_refl _) _)⟩
  case round =>
    obtain ⟨k, v, wr, hk, rfl, rfl, rfl, rfl, HO, HW⟩ := hrel
    have hsk := seed_in hs.1 hs.2 k
    have hsk2 := seed_in hs.1 hs.2 (k + 1)
    obtain ⟨S, hS⟩ : ∃ S, seedN s k = S := ⟨_, rfl⟩
    have HS := Lib.hid hS
    rw [hS] at hsk ⊢
    by_cases hlt : k < C
    · obtain ⟨q, hq, hq1, hq2⟩ := sh_ops hsk2.1 hsk2.2
      obtain ⟨Z, hZ⟩ : ∃ Z, shN (seedN s (k + 1)) = Z := ⟨_, rfl⟩
      have HZ := Lib.hid hZ
      rw [hZ] at hq1 hq2
      have hraw : (1664525 * S + 1013904223) % 4294967296 = seedN s (k + 1) := by rw [← hS]; rfl
      rw [← hq] at hq1 hq2
      obtain ⟨S2, hS2e⟩ : ∃ S2, seedN s (k + 1) = S2 := ⟨_, rfl⟩
      rw [hS2e] at hq1 hq2 hraw hsk2
      have HL := Lib.hid (lets_on zs n s k)
      have HS2 := Lib.hid hS2e
      obtain ⟨hS1, hS2⟩ := hsk
      obtain ⟨hS3, hS4⟩ := hsk2
      rw [← hraw] at hq1
      have HRAW := Lib.hid hraw
      have hr1 := fun w2 => fres_some hq1 w2
      have hf1 := fcnt_some hq1
      have HO1 := Lib.hid HO.out
      have HNE := Lib.hid (own_block HO.out)
      have HB := Lib.hid HW.out.size
      have HAw := Lib.hid (HA.out.below HW.out)
      clear hq hq1 hq2 hS hS2e hZ hraw
      go_wp2_with (first | (go_at_call 86; (first | (with_reducible refine (ltrS _ n _ zs Z _ HAw.out hn).mono ?_) | (with_reducible refine (ltrS _ n _ zs Z _ (HAw.out.drewN _) hn).mono ?_)); rintro e w' ⟨rfl, q5, rfl⟩) | (at_builtin; refine wpList_append_lies _ rfl _ _ 32 rfl w.heap.size 2 i0 (.int .i64 0) 1 8 Try.underlying32 hi hz0 hz1 hz2 rfl (by omega) v k ((lets zs n s k).map (Value.int .i64)) rfl (World.ownsRow.alloc HO1.out _) ⟨wr.heap.size, 0, none⟩ 1 1 [.int .i64 ((letF zs Z n 0 0 : Nat) : Int)] rfl rfl (World.news_of_block (cs := #[.int .i64 ((letF zs Z n 0 0 : Nat) : Int)]) (t := 2) (fr := (0, 0)) (heap_alloc_new _ _)) (by simp [Value.oneCell']) (by omega) (by unfold maxLen; omega) (by omega) (by have := HB.out; simp; omega) (wr.heap.size + 1) (by simp) ?_; intro gg cp w1 hown1 hgrow hat hlt2; have HO2 := Lib.hid hown1; have HG := Lib.hid hgrow; clear hown1 hgrow hat hlt2) | go_in)
      exact ⟨⟨k + 1, _, _, by omega, val_int (HRAW.out.trans HS2.out.symm), rfl, by first | rfl | go_num | (congr 1), rfl, Lib.hid (by rw [HL.out, HZ.out]; exact HO2.out), Lib.hid (Below.grown (Below.alloc (Below.drewN' HW.out _) HW.out.size _) HG.out (by have := HB.out; simp; omega) HNE.out)⟩, by show C - ((k : Int) + 1).toNat < C - (k : Int).toNat; omega⟩
    · obtain rfl : k = C := by omega
      obtain ⟨g, cp, rfl, hg, hgl, hr, hf⟩ := own_irow HO.out (by omega)
      have HN := Lib.hid ((⟨hg, hgl, Ent.il_ok hr hf, HW.out⟩ : New w wr g (.il k (lets zs n s k))))
      have HSS := Lib.hid HS.out
      clear hg hgl hr hf
      go_wp2
      go_ret3
      exact ⟨g, cp, ret_3 HSS.out.symm, HN.out⟩
set_option maxRecDepth 100000 in
set_option maxHeartbeats 8000000 in
theorem drS0 (a : Option Addr) (n cap : Nat) (zs : List Nat) (s c : Int) (w : World) (ha : FRow w a n zs) (hn : n ≤ 1048576) (hok : okD zs n s c = true) (h1 : c = 0) :
    Calls Try.prog 45 #[.slice a n cap, .int .i64 s, .int .i64 c] w fun e w' => ∃ b cp, e = .returned (.tuple #[.slice b 0 cp, .int .i64 s, .bool true]) ∧ Below w.heap.size w w' := by
  obtain ⟨hrow, hs, hc⟩ := okD_out hok
  subst h1
  have HC0 : Hid ((0 : Int) ≤ 0) := Lib.hid (by omega)
  have HC64 : Hid ((0 : Int) ≤ 64) := Lib.hid (by omega)
  have HA := Lib.hid ha
  clear ha hok hc
  go_enter Try.func45, Try.ntmps45
  go_wp2_with (first | (go_at_call 81; refine (row_spec _ n _ zs _ HA.out hn).mono ?_; rintro e w' ⟨rfl, q1, rfl⟩) | (go_at_call 60; ((with_reducible refine (in_true s 0 4294967295 _ hs.1 hs.2).mono ?_); rintro e w' ⟨rfl, rfl⟩)) | (go_at_call 60; ((with_reducible refine (in_true 0 0 64 _ HC0.out HC64.out).mono ?_); rintro e w' ⟨rfl, rfl⟩)) | go_in)
  refine wp_loop_rounds 1 ?_
  rw [rounds_succ]
  go_wp2
  go_ret3
  exact ⟨_, _, rfl, by first | exact Below.alloc (Below.drewN' (Below.refl _ _) _) (Nat.le_refl _) _ | exact Below.drewN' (Below.refl _ _) _⟩
set_option maxRecDepth 100000 in
set_option maxHeartbeats 8000000 in
theorem drS' (a : Option Addr) (n cap : Nat) (zs : List Nat) (s c : Int) (w : World) (ha : FRow w a n zs) (hn : n ≤ 1048576) (hok : okD zs n s c = false) :
    Calls Try.prog 45 #[.slice a n cap, .int .i64 s, .int .i64 c] w fun e w' => e = .returned (.tuple #[.slice none 0 0, .int .i64 0, .bool false]) ∧ Below w.heap.size w w' := by
  have HA := Lib.hid ha
  clear ha
  cases hrow : rowB zs n with
  | false =>
    clear hok
    go_enter Try.func45, Try.ntmps45
    go_wp2_with (first | (go_at_call 81; refine (row_spec _ n _ zs _ HA.out hn).mono ?_; rintro e w' ⟨rfl, q1, rfl⟩) | go_in)
    go_ret3
    exact ⟨rfl, Below.drewN' (Below.refl _ _) _⟩
  | true =>
    by_cases hs : 0 ≤ s ∧ s ≤ 4294967295
    · have hc : ¬ (0 ≤ c ∧ c ≤ 64) := by
        intro hc
        unfold okD at hok
        rw [hrow, decide_eq_true hs, decide_eq_true hc] at hok
        cases hok
      have HX := Lib.hid hc
      clear hok
      clear hc
      go_enter Try.func45, Try.ntmps45
      go_wp2_with (first | (go_at_call 81; refine (row_spec _ n _ zs _ HA.out hn).mono ?_; rintro e w' ⟨rfl, q1, rfl⟩) | (go_at_call 60; ((with_reducible refine (in_true s 0 4294967295 _ hs.1 hs.2).mono ?_); rintro e w' ⟨rfl, rfl⟩)) | (go_at_call 60; ((with_reducible refine (in_false c 0 64 _ HX.out).mono ?_); rintro e w' ⟨rfl, rfl⟩)) | go_in)
      go_ret3
      exact ⟨rfl, Below.drewN' (Below.refl _ _) _⟩
    · have HX := Lib.hid hs
      clear hok hs
      go_enter Try.func45, Try.ntmps45
      go_wp2_with (first | (go_at_call 81; refine (row_spec _ n _ zs _ HA.out hn).mono ?_; rintro e w' ⟨rfl, q1, rfl⟩) | (go_at_call 60; ((with_reducible refine (in_false s 0 4294967295 _ HX.out).mono ?_); rintro e w' ⟨rfl, rfl⟩)) | go_in)
      go_ret3
      exact ⟨rfl, Below.drewN' (Below.refl _ _) _⟩
set_option maxRecDepth 100000 in
set_option maxHeartbeats 8000000 in
theorem drI (a : Option Addr) (n cap : Nat) (zs : List Nat) (s c : Int) (w : World) (ha : FRow w a n zs) (hn : n ≤ 1048576) (hok : okD zs n s c = true) (h1 : 0 < c) :
    Calls Try.prog 46 #[.slice a n cap, .int .i64 s, .int .i64 c] w fun e w' => ∃ g cp, e = .returned (.tuple #[.slice (some ⟨g, 0, none⟩) c.toNat cp, .int .i64 (seedN s c.toNat), .bool true]) ∧ New w w' g (.il c.toNat (lets zs n s c.toNat)) := by
  obtain ⟨i0, hi, hz0, hz1, hz2⟩ := info_parts Try.info64
  obtain ⟨hrow, hs, hc⟩ := okD_out hok
  obtain ⟨C, rfl⟩ : ∃ C : Nat, c = (C : Int) := ⟨c.toNat, by omega⟩
  have hC64 : C ≤ 64 := by omega
  have HC0 : Hid ((0 : Int) ≤ (C : Int)) := Lib.hid (by omega)
  have HC64 : Hid ((C : Int) ≤ 64) := Lib.hid (by omega)
  have HA := Lib.hid ha
  clear ha hok hc
  have hd64 : decide (64 < (C : Int)) = false := decide_eq_false (by omega)
  have hC1 : 0 < C := by omega
  clear h1
  go_enter Try.func46, Try.ntmps46
  go_wp2_with (first | (go_at_call 83; refine (row_impl _ n _ zs _ HA.out hn).mono ?_; rintro e w' ⟨rfl, q1, rfl⟩) | (go_at_call 87; refine (seed_yes s _ hs.1 hs.2).mono ?_; rintro e w' ⟨rfl, rfl⟩) | go_in)
  go_loopw [1, 9, 27] (fun sv v0 iv wr0 => ∃ (k : Nat) (v : Value) (wr : World), k ≤ C ∧ sv = .int .i64 (seedN s k) ∧ v = v0 ∧ iv = .int .i64 k ∧ wr = wr0 ∧ Hid (wr.ownsRow w.heap.size 2 1 v k ((lets zs n s k).map (Value.int .i64))) ∧ Hid (Below w.heap.size w wr)) (fun _ _ iv _ => C - (intOf iv).toNat)
  case atStart => exact ⟨0, _, _, by omega, rfl, rfl, rfl, rfl, Lib.hid (World.ownsRow_nil _ _ _ _), Lib.hid (Below.drewN' (Below.refl _ _) _)⟩
  case round =>
    obtain ⟨k, v, wr, hk, rfl, rfl, rfl, rfl, HO, HW⟩ := hrel
    have hsk := seed_in hs.1 hs.2 k
    have hsk2 := seed_in hs.1 hs.2 (k + 1)
    obtain ⟨S, hS⟩ : ∃ S, seedN s k = S := ⟨_, rfl⟩
    have HS := Lib.hid hS
    rw [hS] at hsk ⊢
    by_cases hlt : k < C
    · obtain ⟨q, hq, hq1, hq2⟩ := sh_ops hsk2.1 hsk2.2
      obtain ⟨Z, hZ⟩ : ∃ Z, shN (seedN s (k + 1)) = Z := ⟨_, rfl⟩
      have HZ := Lib.hid hZ
      rw [hZ] at hq1 hq2
      have hraw : (1664525 * S + 1013904223) % 4294967296 = seedN s (k + 1) := by rw [← hS]; rfl
      rw [← hq] at hq1 hq2
      obtain ⟨S2, hS2e⟩ : ∃ S2, seedN s (k + 1) = S2 := ⟨_, rfl⟩
      rw [hS2e] at hq1 hq2 hraw hsk2
      have HL := Lib.hid (lets_on zs n s k)
      have HS2 := Lib.hid hS2e
      obtain ⟨hS1, hS2⟩ := hsk
      obtain ⟨hS3, hS4⟩ := hsk2
      have HRAW := Lib.hid hraw
      have hr1 := fun w2 => fres_some hq2 w2
      have hf1 := fcnt_some hq2
      have HO1 := Lib.hid HO.out
      have HNE := Lib.hid (own_block HO.out)
      have HB := Lib.hid HW.out.size
      have HAw := Lib.hid (HA.out.below HW.out)
      clear hq hq1 hq2 hS hS2e hZ hraw
      go_wp2_with (first | (go_at_call 89; (first | (with_reducible refine (ltrI _ n _ zs Z _ HAw.out hn).mono ?_) | (with_reducible refine (ltrI _ n _ zs Z _ (HAw.out.drewN _) hn).mono ?_)); rintro e w' ⟨rfl, q5, rfl⟩) | (go_at_call 88; refine (next_impl S S2 _ hS1 hS2 HRAW.out).mono ?_; rintro e w' ⟨rfl, rfl⟩) | (at_builtin; refine wpList_append_lies _ rfl _ _ 32 rfl w.heap.size 2 i0 (.int .i64 0) 1 8 Try.underlying32 hi hz0 hz1 hz2 rfl (by omega) v k ((lets zs n s k).map (Value.int .i64)) rfl (World.ownsRow.alloc HO1.out _) ⟨wr.heap.size, 0, none⟩ 1 1 [.int .i64 ((letF zs Z n 0 0 : Nat) : Int)] rfl rfl (World.news_of_block (cs := #[.int .i64 ((letF zs Z n 0 0 : Nat) : Int)]) (t := 2) (fr := (0, 0)) (heap_alloc_new _ _)) (by simp [Value.oneCell']) (by omega) (by unfold maxLen; omega) (by omega) (by have := HB.out; simp; omega) (wr.heap.size + 1) (by simp) ?_; intro gg cp w1 hown1 hgrow hat hlt2; have HO2 := Lib.hid hown1; have HG := Lib.hid hgrow; clear hown1 hgrow hat hlt2) | go_in)
      exact ⟨⟨k + 1, _, _, by omega, val_int HS2.out.symm, rfl, by first | rfl | go_num | (congr 1), rfl, Lib.hid (by rw [HL.out, HZ.out]; exact HO2.out), Lib.hid (Below.grown (Below.alloc (Below.drewN' HW.out _) HW.out.size _) HG.out (by have := HB.out; simp; omega) HNE.out)⟩, by show C - ((k : Int) + 1).toNat < C - (k : Int).toNat; omega⟩
    · obtain rfl : k = C := by omega
      obtain ⟨g, cp, rfl, hg, hgl, hr, hf⟩ := own_irow HO.out (by omega)
      have HN := Lib.hid ((⟨hg, hgl, Ent.il_ok hr hf, HW.out⟩ : New w wr g (.il k (lets zs n s k))))
      have HSS := Lib.hid HS.out
      clear hg hgl hr hf
      go_wp2
      go_ret3
      exact ⟨g, cp, ret_3 HSS.out.symm, HN.out⟩
set_option maxRecDepth 100000 in
set_option maxHeartbeats 8000000 in
theorem drI0 (a : Option Addr) (n cap : Nat) (zs : List Nat) (s c : Int) (w : World) (ha : FRow w a n zs) (hn : n ≤ 1048576) (hok : okD zs n s c = true) (h1 : c = 0) :
    Calls Try.prog 46 #[.slice a n cap, .int .i64 s, .int .i64 c] w fun e w' => ∃ b cp, e = .returned (.tuple #[.slice b 0 cp, .int .i64 s, .bool true]) ∧ Below w.heap.size w w' := by
  obtain ⟨hrow, hs, hc⟩ := okD_out hok
  subst h1
  have HC0 : Hid ((0 : Int) ≤ 0) := Lib.hid (by omega)
  have HC64 : Hid ((0 : Int) ≤ 64) := Lib.hid (by omega)
  have HA := Lib.hid ha
  clear ha hok hc
  go_enter Try.func46, Try.ntmps46
  go_wp2_with (first | (go_at_call 83; refine (row_impl _ n _ zs _ HA.out hn).mono ?_; rintro e w' ⟨rfl, q1, rfl⟩) | (go_at_call 87; refine (seed_yes s _ hs.1 hs.2).mono ?_; rintro e w' ⟨rfl, rfl⟩) | go_in)
  refine wp_loop_rounds 1 ?_
  rw [rounds_succ]
  go_wp2
  go_ret3
  exact ⟨_, _, rfl, by first | exact Below.alloc (Below.drewN' (Below.refl _ _) _) (Nat.le_refl _) _ | exact Below.drewN' (Below.refl _ _) _⟩
set_option maxRecDepth 100000 in
set_option maxHeartbeats 8000000 in
theorem drI' (a : Option Addr) (n cap : Nat) (zs : List Nat) (s c : Int) (w : World) (ha : FRow w a n zs) (hn : n ≤ 1048576) (hok : okD zs n s c = false) :
    Calls Try.prog 46 #[.slice a n cap, .int .i64 s, .int .i64 c] w fun e w' => e = .returned (.tuple #[.slice none 0 0, .int .i64 0, .bool false]) ∧ Below w.heap.size w w' := by
  have HA := Lib.hid ha
  clear ha
  cases hrow : rowB zs n with
  | false =>
    clear hok
    go_enter Try.func46, Try.ntmps46
    go_wp2_with (first | (go_at_call 83; refine (row_impl _ n _ zs _ HA.out hn).mono ?_; rintro e w' ⟨rfl, q1, rfl⟩) | go_in)
    go_ret3
    exact ⟨rfl, Below.drewN' (Below.refl _ _) _⟩
  | true =>
    by_cases hs : 0 ≤ s ∧ s ≤ 4294967295
    · have hc : ¬ (0 ≤ c ∧ c ≤ 64) := by
        intro hc
        unfold okD at hok
        rw [hrow, decide_eq_true hs, decide_eq_true hc] at hok
        cases hok
      have HX := Lib.hid hc
      clear hok
      by_cases h0 : 0 ≤ c
      · have hd0 : decide (c < 0) = false := decide_eq_false (by omega)
        have hd64 : decide (64 < c) = true := decide_eq_true (by omega)
        clear hc h0
        go_enter Try.func46, Try.ntmps46
        go_wp2_with (first | (go_at_call 83; refine (row_impl _ n _ zs _ HA.out hn).mono ?_; rintro e w' ⟨rfl, q1, rfl⟩) | (go_at_call 87; refine (seed_yes s _ hs.1 hs.2).mono ?_; rintro e w' ⟨rfl, rfl⟩) | go_in)
        go_ret3
        exact ⟨rfl, Below.drewN' (Below.refl _ _) _⟩
      · have hd0 : decide (c < 0) = true := decide_eq_true (by omega)
        clear hc h0
        go_enter Try.func46, Try.ntmps46
        go_wp2_with (first | (go_at_call 83; refine (row_impl _ n _ zs _ HA.out hn).mono ?_; rintro e w' ⟨rfl, q1, rfl⟩) | (go_at_call 87; refine (seed_yes s _ hs.1 hs.2).mono ?_; rintro e w' ⟨rfl, rfl⟩) | go_in)
        go_ret3
        exact ⟨rfl, Below.drewN' (Below.refl _ _) _⟩
    · have HX := Lib.hid hs
      clear hok hs
      go_enter Try.func46, Try.ntmps46
      go_wp2_with (first | (go_at_call 83; refine (row_impl _ n _ zs _ HA.out hn).mono ?_; rintro e w' ⟨rfl, q1, rfl⟩) | (go_at_call 87; refine (seed_no s _ HX.out).mono ?_; rintro e w' ⟨rfl, rfl⟩) | go_in)
      go_ret3
      exact ⟨rfl, Below.drewN' (Below.refl _ _) _⟩
end Go.Proofs.Ytcgdhicgpkoncaa
