/- Texts of this place that stand together: XRtv XSlf XRww XFlp XRwl XSlg XRwi XLiv XCrs XCrt XRtw XFrv XFrw XMix XIro XGsp. -/
import Derived.Test.YtkmggoagboikgaaDoorMga
import Derived.Deep.OwnRows
import Derived.Lib.Hide
import Derived.Deep.RegionWith
import Derived.Deep.RegionHeld3
import Derived.Deep.AppendLies
import Derived.ProofKit
import Derived.OpenShut
import Derived.ChangeArms
import Derived.Deep.Slices

/- Roots of products: what adding a zero leaves; plain facts. -/
namespace Go.Proofs.YtkmggoagboikgaaDoor.Flo
open Go

/-- A NUMBER OF THE FORMAT IS ROUNDED TO ITSELF, however it is written. -/
theorem nearest_exact (f : Ieee.Format) (s : Bool) (rung : Nat) (hr : rung < f.infRung) (h0 : rung ≠ 0) (u : Nat) :
    match f.read (f.word s rung) with
    | .number _ m i => ∀ t, f.nearest t (m <<< u) (i - u) = f.word t rung
    | _ => False := by
  have hpos : 0 < f.binade := Nat.two_pow_pos _
  have hbi : f.binade = 2 ^ f.fractionBits := rfl
  rw [read_word f s rung (Nat.lt_trans hr f.infRung_lt)]
  by_cases h1 : rung < f.binade
  · rw [if_pos h1]
    intro t
    have hm : rung <<< u ≠ 0 := by rw [Nat.shiftLeft_eq]; exact Nat.mul_ne_zero h0 (by have := Nat.two_pow_pos u; omega)
    have hl : rung.log2 < f.fractionBits := (Nat.log2_lt h0).2 (by rw [← hbi]; exact h1)
    have hlog : (rung <<< u).log2 = rung.log2 + u := by
      have := Go.Proofs.YtkmggoagboikgaaDoor.log2_shl_eq rung u h0; exact this
    unfold Ieee.Format.nearest
    rw [if_neg hm]
    dsimp only
    rw [hlog]
    have e : max (f.leastPlace - u + ((rung.log2 + u : Nat) : Int) - f.fractionBits) f.leastPlace = f.leastPlace := by omega
    rw [e]
    have e1 : (f.leastPlace - (u : Int) - f.leastPlace).toNat = 0 := by omega
    have e2 : (f.leastPlace - (f.leastPlace - (u : Int))).toNat = u := by omega
    rw [e1, e2, Nat.shiftLeft_zero]
    have hk : Ieee.Toward.even.cut t (rung <<< u) u = rung := by
      have a1 := cut_even_le t (rung <<< u) u rung (by rw [Nat.shiftLeft_eq]; exact Nat.le_refl _)
      have a2 := cut_even_ge t (rung <<< u) u rung (by rw [Nat.shiftLeft_eq]; exact Nat.le_refl _)
      omega
    rw [hk]
    have e3 : (f.leastPlace - f.leastPlace).toNat = 0 := by omega
    rw [e3, Nat.zero_mul, Nat.zero_add, Nat.min_eq_left (Nat.le_of_lt hr)]
  · rw [if_neg h1, if_pos hr]
    intro t
    have hb : rung % f.binade < f.binade := Nat.mod_lt _ hpos
    have hm0 : f.binade + rung % f.binade ≠ 0 := by omega
    generalize hM : f.binade + rung % f.binade = M at hm0
    have hm : M <<< u ≠ 0 := by rw [Nat.shiftLeft_eq]; exact Nat.mul_ne_zero hm0 (by have := Nat.two_pow_pos u; omega)
    have hl : M.log2 = f.fractionBits := by
      have a1 : f.fractionBits ≤ M.log2 := (Nat.le_log2 hm0).2 (by rw [← hbi]; omega)
      have a2 : M.log2 < f.fractionBits + 1 := (Nat.log2_lt hm0).2 (by rw [Nat.pow_succ, ← hbi]; omega)
      omega
    have hlog : (M <<< u).log2 = M.log2 + u := Go.Proofs.YtkmggoagboikgaaDoor.log2_shl_eq M u hm0
    have hq : 1 ≤ rung / f.binade := (Nat.le_div_iff_mul_le hpos).2 (by omega)
    generalize hQ : rung / f.binade = q at hq
    have hdm := Nat.div_add_mod rung f.binade
    rw [hQ] at hdm
    unfold Ieee.Format.nearest
    rw [if_neg hm]
    dsimp only
    rw [hlog, hl]
    have e : max (f.leastPlace + ((q - 1 : Nat) : Int) - u + ((f.fractionBits + u : Nat) : Int) - f.fractionBits) f.leastPlace = f.leastPlace + ((q - 1 : Nat) : Int) := by omega
    rw [e]
    have e1 : (f.leastPlace + ((q - 1 : Nat) : Int) - (u : Int) - (f.leastPlace + ((q - 1 : Nat) : Int))).toNat = 0 := by omega
    have e2 : (f.leastPlace + ((q - 1 : Nat) : Int) - (f.leastPlace + ((q - 1 : Nat) : Int) - (u : Int))).toNat = u := by omega
    rw [e1, e2, Nat.shiftLeft_zero]
    have hk : Ieee.Toward.even.cut t (M <<< u) u = M := by
      have a1 := cut_even_le t (M <<< u) u M (by rw [Nat.shiftLeft_eq]; exact Nat.le_refl _)
      have a2 := cut_even_ge t (M <<< u) u M (by rw [Nat.shiftLeft_eq]; exact Nat.le_refl _)
      omega
    rw [hk]
    have e3 : (f.leastPlace + ((q - 1 : Nat) : Int) - f.leastPlace).toNat = q - 1 := by omega
    rw [e3]
    have e4 : (q - 1) * f.binade + M = rung := by
      have : f.binade * q = f.binade * (q - 1) + f.binade := by
        have : q = (q - 1) + 1 := by omega
        rw [this, Nat.mul_add, Nat.mul_one]; simp
      rw [Nat.mul_comm]; omega
    rw [e4, Nat.min_eq_left (Nat.le_of_lt hr)]

/-- A sum that is no negative number: a word of a rung up to infinity's. -/
def Wpos (a : Option Nat) : Prop := ∃ r, r ≤ (FloatKind.f32).format.infRung ∧ a = some r
theorem wpos_zero : Wpos (cls .f32 0) := ⟨0, by decide, cls_032⟩

theorem word_false (r : Nat) : (FloatKind.f32).format.word false r = r := rfl
theorem read_pos {r : Nat} (h : r ≤ (FloatKind.f32).format.infRung) : PosD ((FloatKind.f32).decode r) := by
  have h2 := binade_le .f32
  unfold FloatKind.decode
  rw [← word_false r, read_word _ false r (Nat.lt_of_le_of_lt h (FloatKind.f32).format.infRung_lt)]
  split
  · exact .inl rfl
  · split
    · exact .inl rfl
    · rw [if_pos (by omega)]; rfl

/-- Adding a zero changes no such sum. -/
theorem wpos_add_zero {a : Option Nat} (h : Wpos a) {z : Nat} {s : Bool} {i : Int} (hz : (FloatKind.f32).decode z = .number s 0 i) : vop .add .f32 a (some z) = a := by
  obtain ⟨r, hr, rfl⟩ := h
  show ((((FloatKind.f32).decode r).sum ((FloatKind.f32).decode z)).map (FloatKind.f32).format.write) = some r
  rw [hz]
  by_cases h1 : r = (FloatKind.f32).format.infRung
  · have e : (FloatKind.f32).decode r = .infinity false := by rw [h1]; decide +kernel
    rw [e]
    show some ((FloatKind.f32).format.write (.infinity false)) = some r
    rw [h1]; rfl
  · by_cases h0 : r = 0
    · rw [h0, dec_032]
      show some ((FloatKind.f32).format.write (.number _ _ _)) = _
      rw [signed_zero, signed_zero]
      rfl
    · have hx := fun u => nearest_exact (FloatKind.f32).format false r (by omega) h0 u
      rw [word_false] at hx
      unfold FloatKind.decode
      have hp := read_pos hr
      unfold FloatKind.decode at hp
      cases hd : (FloatKind.f32).format.read r with
      | nan => have := hx 0; rw [hd] at this; exact this.elim
      | infinity => have := hx 0; rw [hd] at this; exact this.elim
      | number t m j =>
        have hm : m ≠ 0 := by
          intro e
          have := hx 0
          rw [hd] at this
          have := this false
          rw [e] at this
          have h3 : (FloatKind.f32).format.nearest false (0 <<< 0) (j - (0 : Nat)) = 0 := rfl
          rw [h3] at this
          exact h0 this.symm
        rw [hd] at hp
        have ht : t = false := Or.resolve_right hp hm
        subst ht
        show some ((FloatKind.f32).format.write (.number _ _ _)) = some r
        rw [signed_zero, Int.add_zero, signed_false']
        have hpos : 0 < m * 2 ^ (j - min j i).toNat := Nat.mul_pos (by omega) (Nat.two_pow_pos _)
        have e1 : (((m * 2 ^ (j - min j i).toNat : Nat) : Int)).natAbs = m <<< (j - min j i).toNat := by rw [Int.natAbs_natCast, Nat.shiftLeft_eq]
        rw [e1]
        have e2 : (if ((m * 2 ^ (j - min j i).toNat : Nat) : Int) = 0 then false && s else decide (((m * 2 ^ (j - min j i).toNat : Nat) : Int) < 0)) = false := by
          rw [if_neg (by omega)]; exact decide_eq_false (by omega)
        rw [e2]
        have := hx (j - min j i).toNat
        rw [hd] at this
        have := this false
        have e3 : j - ((j - min j i).toNat : Int) = min j i := by omega
        rw [e3, word_false] at this
        exact congrArg some this

/-- .. and adding what is no negative number keeps it one. -/
theorem wpos_add {a b : Option Nat} (ha : Wpos a) (hb : VPos .f32 b) : Wpos (vop .add .f32 a b) := by
  obtain ⟨r, hr, rfl⟩ := ha
  obtain ⟨y, rfl, hy⟩ := hb
  have hx := read_pos hr
  show Wpos ((((FloatKind.f32).decode r).sum ((FloatKind.f32).decode y)).map (FloatKind.f32).format.write)
  have hnf : ∀ d, (FloatKind.f32).decode r = d → match d with | .number s m _ => s = false | _ => True := by
    intro d hd
    unfold FloatKind.decode at hd
    rw [← word_false r, read_word _ false r (Nat.lt_of_le_of_lt hr (FloatKind.f32).format.infRung_lt)] at hd
    split at hd
    · subst hd; rfl
    · split at hd
      · subst hd; rfl
      · split at hd
        · subst hd; trivial
        · subst hd; trivial
  cases hd : (FloatKind.f32).decode r with
  | nan => rw [hd] at hx; exact hx.elim
  | infinity s =>
    rw [hd] at hx
    have hs : s = false := hx
    subst hs
    cases hy2 : (FloatKind.f32).decode y with
    | nan => rw [hy2] at hy; exact hy.elim
    | infinity t =>
      rw [hy2] at hy
      have ht : t = false := hy
      subst ht
      exact ⟨(FloatKind.f32).format.infRung, Nat.le_refl _, rfl⟩
    | number => exact ⟨(FloatKind.f32).format.infRung, Nat.le_refl _, rfl⟩
  | number s m i =>
    have hs : s = false := hnf _ hd
    subst hs
    cases hy2 : (FloatKind.f32).decode y with
    | nan => rw [hy2] at hy; exact hy.elim
    | infinity t =>
      rw [hy2] at hy
      have ht : t = false := hy
      subst ht
      exact ⟨(FloatKind.f32).format.infRung, Nat.le_refl _, rfl⟩
    | number t n j =>
      rw [hy2] at hy
      show Wpos (some ((FloatKind.f32).format.write (.number _ _ _)))
      rw [signed_false', posD_signed hy]
      have e : (if ((m * 2 ^ (i - min i j).toNat : Nat) : Int) + ((n * 2 ^ (j - min i j).toNat : Nat) : Int) = 0 then false && t else decide (((m * 2 ^ (i - min i j).toNat : Nat) : Int) + ((n * 2 ^ (j - min i j).toNat : Nat) : Int) < 0)) = false := by
        split
        · rfl
        · exact decide_eq_false (by omega)
      rw [e]
      obtain ⟨q, hq, _, hw⟩ := nearest_rung (FloatKind.f32).format (((m * 2 ^ (i - min i j).toNat : Nat) : Int) + ((n * 2 ^ (j - min i j).toNat : Nat) : Int)).natAbs (min i j)
      exact ⟨q, hq, congrArg some (hw false)⟩

/-! ### Roots -/
/-- The root of a 32-bit number, narrowed. -/
def rootV (a : Option Nat) : Option Nat := vnarrow (vsqrt (vwide a))

theorem rootV_zero {x : Nat} {s : Bool} {i : Int} (h : (FloatKind.f32).decode x = .number s 0 i) : ∃ z, rootV (some x) = some z ∧ ∃ t j, (FloatKind.f32).decode z = .number t 0 j := by
  have hc : cls .f32 x = some x := cls_of_not (by rw [h]; rfl)
  have hw := Go.Proofs.YtkmggoagboikgaaDoor.wide_zero h
  rw [hc] at hw
  unfold rootV
  rw [hw]
  cases s
  · exact ⟨0, by decide +kernel, false, -149, by decide +kernel⟩
  · exact ⟨2147483648, by decide +kernel, true, -149, by decide +kernel⟩
end Go.Proofs.YtkmggoagboikgaaDoor.Flo


/- Slices of 32-bit numbers: the laws' own helpers. -/
namespace Go.Proofs.YtkmggoagboikgaaDoor
open Go.Proofs.YtkmggoagboikgaaDoor.Flo Go.RowKit

/-- A slice value of n numbers: the cells that it leads to hold them. -/
def FRow (w : World) (a : Option Addr) (n : Nat) (zs : List Nat) : Prop :=
  zs.length = n ∧ (n = 0 ∨ ∃ b off, a = some ⟨b, off, none⟩ ∧ b < w.heap.size ∧ ∀ i, i < n → w.cell? ⟨b, off + i, none⟩ = some (.float .f32 (zs.getD i 0)))
/-- The numbers as cells. -/
def fl (zs : List Nat) : Array Value := (zs.map (Value.float .f32)).toArray
/-- The cells of a copy, of which k are done. -/
def mix (zs : List Nat) (k n : Nat) : Array Value := ((zs.map (Value.float .f32)).take k ++ List.replicate (n - k) (Value.float .f32 0)).toArray
theorem made_eq (n : Nat) : madeCells #[Value.float .f32 0] n = Array.replicate n (Value.float .f32 0) := by
  apply Array.ext
  · simp [madeCells]
  · intro i h1 h2
    simp [madeCells, Nat.mod_one]
theorem mix_zero (zs : List Nat) (n : Nat) : mix zs 0 n = madeCells #[Value.float .f32 0] n := by
  rw [made_eq]
  unfold mix
  simp
theorem mix_all (zs : List Nat) (n : Nat) (h : zs.length = n) : mix zs n n = fl zs := by
  unfold mix fl
  rw [List.take_of_length_le (by simp; omega)]; simp
theorem mix_set (zs : List Nat) (k n : Nat) (hk : k < n) (h : zs.length = n) : (mix zs k n).setIfInBounds k (.float .f32 (zs.getD k 0)) = mix zs (k + 1) n := by
  unfold mix
  apply Array.ext'
  have hz : zs.getD k 0 = zs[k]'(by omega) := by rw [List.getD_eq_getElem?_getD, List.getElem?_eq_getElem (by omega)]; rfl
  have hn : n - k = (n - (k + 1)) + 1 := by omega
  simp only [Array.toList_setIfInBounds]
  rw [hz, hn, List.replicate_succ, List.set_append_right _ _ (by simp; omega)]
  have hl : k - ((zs.map (Value.float .f32)).take k).length = 0 := by simp; omega
  rw [hl, List.set_cons_zero, List.take_succ_eq_append_getElem (by simp; omega)]
  simp
theorem mix_size (zs : List Nat) (k n : Nat) (hk : k ≤ n) (h : zs.length = n) : (mix zs k n).size = n := by
  unfold mix; simp; omega
/-- Where a slice's cells are, in a world with a block more. -/
theorem FRow.alloc {w : World} {a : Option Addr} {n : Nat} {zs : List Nat} (h : FRow w a n zs) (o : Obj) : FRow (w.alloc o) a n zs := by
  obtain ⟨hl, h⟩ := h
  refine ⟨hl, ?_⟩
  rcases h with h | ⟨b, off, ha, hb, hc⟩
  · exact .inl h
  · refine .inr ⟨b, off, ha, by simp; omega, fun i hi => ?_⟩
    rw [World.cell?_alloc_past _ _ _ hb]; exact hc i hi
theorem FRow.new {w : World} {zs : List Nat} {n : Nat} (h : zs.length = n) (e : TypeId) : FRow (w.alloc (.cells (fl zs) e)) (some ⟨w.heap.size, 0, none⟩) n zs := by
  refine ⟨h, .inr ⟨w.heap.size, 0, rfl, by simp, fun i hi => ?_⟩⟩
  rw [World.cell?_alloc_at _ _ _ _ rfl]
  unfold fl
  have hz : zs.getD i 0 = zs[i]'(by omega) := by rw [List.getD_eq_getElem?_getD, List.getElem?_eq_getElem (by omega)]; rfl
  rw [hz]
  simp
theorem FRow.drewN {w : World} {a : Option Addr} {n : Nat} {zs : List Nat} (h : FRow w a n zs) (q : Nat) : FRow (w.drewN q) a n zs := h

theorem Tryd.info32 : (Tryd.prog.info? 33).map (fun i => (i.zero, i.size, i.bytes)) = some (some (.float .f32 0), 1, 4) := by kernel_rfl

set_option maxHeartbeats 1000000 in
theorem toF (a : Option Addr) (n cap : Nat) (zs : List Nat) (w : World) (h : FRow w a n zs) (hn : n ≤ 1048576) :
    Calls Tryd.prog 6 #[.slice a n cap] w fun e w' => e = .returned (.slice (some ⟨w.heap.size, 0, none⟩) n n) ∧ w.alloc (.cells (fl zs) 33) = w' := by
  have hmk := fun w2 : World => run_make_row' (P := Tryd.prog) 22 33 (.float .f32 0) 4 Tryd.underlying22 Tryd.info32 rfl .i64 .i64 n (by omega) (by omega) w2
  obtain ⟨hlen, h⟩ := h
  rw [← mix_all zs n hlen]
  have Hlen := Lib.hid hlen
  have H := Lib.hid h
  clear hlen h
  go_enter Tryd.func6, Tryd.ntmps6
  go_wp2
  go_loopw [4] (fun iv w' => ∃ k : Nat, k ≤ n ∧ iv = .int .i64 k ∧ w' = w.alloc (.cells (mix zs k n) 33)) (fun iv _ => n - (intOf iv).toNat)
  case atStart => exact ⟨0, by omega, rfl, by rw [mix_zero]⟩
  case round =>
    obtain ⟨k, hk, rfl, rfl⟩ := hrel
    clear hmk
    by_cases hlt : k < n
    · rcases H.out with h0 | ⟨b, off, rfl, hb, hc⟩
      · omega
      · have hck := hc k hlt
        have hset := mix_set zs k n hlt Hlen.out
        have hsz := mix_size zs k n hk Hlen.out
        have hck2 : (w.alloc (.cells (mix zs k n) 33)).cell? ⟨b, off + k, none⟩ = some (.float .f32 (zs.getD k 0)) := by
          rw [World.cell?_alloc_past _ _ _ hb]; exact hck
        have hold : (mix zs k n)[k]? = some ((mix zs k n)[k]'(by omega)) := Array.getElem?_eq_getElem _
        have hold2 : k < (mix zs k n).size := by omega
        have hst : ∀ (a : Addr) (m : Mode) (x : Nat) (w : World), (store a (.float .f32 x) m).run Tryd.prog w = stored Tryd.prog w a (.float .f32 x) m := fun a m x w => run_store Tryd.prog w a (.float .f32 x) m rfl
        clear hc hck
        go_wp2
        rw [List.getD_eq_getElem?_getD] at hset
        exact ⟨⟨k + 1, by omega, by first | rfl | go_num | (congr 1), by rw [hset]⟩, by show n - ((k : Int) + 1).toNat < n - (k : Int).toNat; omega⟩
    · obtain rfl : k = n := by omega
      go_wp2
      go_ret
      exact ⟨rfl, rfl⟩
set_option maxHeartbeats 1000000 in
theorem eqF (a b : Option Addr) (n cap capb : Nat) (zs : List Nat) (w : World) (ha : FRow w a n zs) (hb : FRow w b n zs) (hn : n ≤ 1048576) :
    Calls Tryd.prog 8 #[.slice a n cap, .slice b n capb] w fun e w' => e = .returned (.bool true) ∧ Drew w w' := by
  have HA := Lib.hid ha
  have HB := Lib.hid hb
  clear ha hb
  go_enter Tryd.func8, Tryd.ntmps8
  go_wp2
  go_loopw [5] (fun iv w' => ∃ k q : Nat, k ≤ n ∧ iv = .int .i64 k ∧ w' = w.drewN q) (fun iv _ => n - (intOf iv).toNat)
  case atStart => exact ⟨0, 0, by omega, rfl, rfl⟩
  case round =>
    obtain ⟨k, q, hk, rfl, rfl⟩ := hrel
    by_cases hlt : k < n
    · rcases HA.out.2 with h0 | ⟨b1, o1, rfl, _, hc1⟩
      · omega
      rcases HB.out.2 with h0 | ⟨b2, o2, rfl, _, hc2⟩
      · omega
      have hck1 : w.cell? ⟨b1, o1 + k, none⟩ = some (.float .f32 (zs.getD k 0)) := hc1 k hlt
      have hck2 : w.cell? ⟨b2, o2 + k, none⟩ = some (.float .f32 (zs.getD k 0)) := hc2 k hlt
      generalize zs.getD k 0 = x at hck1 hck2
      have h := fun w2 : World => fun w3 : World => (cres_wide x w2).trans (cres_wide x w3).symm
      clear hc1 hc2 HA HB
      go_wp2
      go_region_with (go_at_call 17; refine (sameFloat_true _ _ (h ..) _).mono ?_; rintro e w2 ⟨rfl, n2, rfl⟩)
      all_goals
        go_wp2
        exact ⟨⟨k + 1, _, by omega, by first | rfl | go_num | (congr 1), rfl⟩, by show n - ((k : Int) + 1).toNat < n - (k : Int).toNat; omega⟩
    · obtain rfl : k = n := by omega
      go_wp2
      go_ret
      exact ⟨rfl, Drew.mk _ _⟩
end Go.Proofs.YtkmggoagboikgaaDoor


/- Rows of chances: walks of IsRow in the model and in the program. -/
namespace Go.Proofs.YtkmggoagboikgaaDoor
open Go.Proofs.YtkmggoagboikgaaDoor.Flo Go.RowKit

theorem FRow.below {w w' : World} {a : Option Addr} {n : Nat} {zs : List Nat} (h : FRow w a n zs) (hb : Below w.heap.size w w') : FRow w' a n zs := by
  obtain ⟨hl, h⟩ := h
  refine ⟨hl, ?_⟩
  rcases h with h | ⟨b, off, ha, hb2, hc⟩
  · exact .inl h
  · refine .inr ⟨b, off, ha, Nat.lt_of_lt_of_le hb2 hb.size, fun i hi => ?_⟩
    rw [hb.cell (p := ⟨b, off + i, none⟩) hb2]; exact hc i hi
theorem Drew.row {w w' : World} {a : Option Addr} {n : Nat} {zs : List Nat} (d : Drew w w') (h : FRow w a n zs) : FRow w' a n zs := by
  obtain ⟨q, rfl⟩ := d; exact h
theorem ret_bool2 {a b : Bool} (h : a = b) : Ending.returned (.bool a) = .returned (.bool b) := by rw [h]
theorem FRow.cell {w : World} {a : Option Addr} {n : Nat} {zs : List Nat} (h : FRow w a n zs) {k : Nat} (hk : k < n) : ∃ b off, a = some ⟨b, off, none⟩ ∧ w.cell? ⟨b, off + k, none⟩ = some (.float .f32 (zs.getD k 0)) := by
  rcases h.2 with h0 | ⟨b, o, rfl, _, hc⟩
  · omega
  · exact ⟨b, o, rfl, hc k hk⟩

theorem notAll {p : Nat → Bool} {n k : Nat} (hk : k < n) (h : p k = false) : decide (∀ j, j < n → p j = true) = false := by
  refine decide_eq_false fun H => ?_
  rw [H k hk] at h; cases h
theorem isAll {p : Nat → Bool} {n : Nat} (h : ∀ j, j < n → p j = true) : decide (∀ j, j < n → p j = true) = true := decide_eq_true h


theorem sub_ge {r : Nat} {s : Option Nat} (h : cls .f32 r = s) (w : World) : ((FloatKind.f32).format.order (fres .sub .f32 r 1065353216 w) 3129152111 == some .gt || (FloatKind.f32).format.order (fres .sub .f32 r 1065353216 w) 3129152111 == some .eq) = ge32 (vop .sub .f32 s (some one32)) (some m001) := by
  unfold ge32
  rw [order_cls, fres_cls, h, ← cls_one32, ← cls_m001]; rfl
theorem sub_le {r : Nat} {s : Option Nat} (h : cls .f32 r = s) (w : World) : ((FloatKind.f32).format.order (fres .sub .f32 r 1065353216 w) 981668463 == some .lt || (FloatKind.f32).format.order (fres .sub .f32 r 1065353216 w) 981668463 == some .eq) = le32 (vop .sub .f32 s (some one32)) (some c001) := by
  unfold le32
  rw [order_cls, fres_cls, h, ← cls_one32, ← cls_c001]; rfl
theorem sub_le' {r : Nat} {s : Option Nat} (h : cls .f32 r = s) (w : World) : ((FloatKind.f32).format.order (fres .sub .f32 1065353216 r w) 981668463 == some .lt || (FloatKind.f32).format.order (fres .sub .f32 1065353216 r w) 981668463 == some .eq) = le32 (vop .sub .f32 (some one32) s) (some c001) := by
  unfold le32
  rw [order_cls, fres_cls, h, ← cls_one32, ← cls_c001]; rfl

def rowB (zs : List Nat) (n : Nat) : Bool := decide (1 ≤ n ∧ n ≤ 32) && chS zs n
end Go.Proofs.YtkmggoagboikgaaDoor


/- Logarithms: the program's walk, and the laws. -/
namespace Go.Proofs.YtkmggoagboikgaaDoor
open Go.Proofs.YtkmggoagboikgaaDoor.Flo Go.RowKit
attribute [local go_sem] call_from32
attribute [local go_sem] call_bits32

theorem order_inf32 {x : Nat} {s : Bool} {m : Nat} {i : Int} (h : (FloatKind.f32).decode x = .number s m i) : (FloatKind.f32).format.order x 2139095040 = some .lt := by
  have h0 : (FloatKind.f32).format.read 2139095040 = .infinity false := by decide +kernel
  unfold FloatKind.decode at h
  unfold Ieee.Format.order
  rw [h, h0]; rfl

theorem inf_bits {x : Nat} (hx : x < 2 ^ 32) (h : (FloatKind.f32).decode x = .infinity false) : x = 2139095040 := by
  unfold FloatKind.decode FloatKind.format Ieee.Format.read at h
  dsimp only at h
  have h1 : Ieee.single.binade = 2 ^ 23 := rfl
  have h2 : Ieee.single.infRung = 2139095040 := rfl
  have h3 : Ieee.single.signWeight = 2 ^ 31 := rfl
  rw [h1, h2, h3] at h
  split at h
  · cases h
  · split at h
    · cases h
    · split at h
      · rename_i hr
        injection h with hs
        have : ¬ x / 2 ^ 31 % 2 = 1 := by simpa using hs
        omega
      · cases h

end Go.Proofs.YtkmggoagboikgaaDoor


/- Logarithms of chances, and entropies: plain facts and walks. -/
namespace Go.Proofs.YtkmggoagboikgaaDoor
open Go.Proofs.YtkmggoagboikgaaDoor.Flo Go.RowKit
attribute [local go_sem] call_from32
attribute [local go_sem] call_bits32

theorem vnarrow_le {E : Int} {a : Option Nat} (h : VLe .f64 E a) (hE : Norm .f32 E) : VLe .f32 E (vnarrow a) := by
  obtain ⟨b, rfl, hb⟩ := h
  unfold vnarrow floatToFloatBits
  simp only [Option.bind_some]
  rw [if_neg (by decide)]
  cases hd : (FloatKind.f64).decode b with
  | nan => rw [hd] at hb; exact hb.elim
  | infinity s => rw [hd] at hb; exact hb.elim
  | number s m e =>
    rw [hd] at hb
    have hw := write_le (k := .f32) (d := .number s m e) hb hE
    have hni : ((FloatKind.f32).decode ((FloatKind.f32).encode (.number s m e))).isInfinity = false := by
      unfold FloatKind.encode
      cases hx : (FloatKind.f32).decode ((FloatKind.f32).format.write (.number s m e)) with
      | number => rfl
      | infinity => rw [hx] at hw; exact hw.elim
      | nan => rfl
    simp only [hni, Bool.false_eq_true, if_false]
    exact ⟨_, rfl, hw⟩

theorem logR_le {x m : Nat} {i : Int} (h : (FloatKind.f32).decode x = .number false m i) (h0 : m ≠ 0) : VLe .f32 42 (logR x) := by
  obtain ⟨y, X, hy, hp, hlo, hhi⟩ := pos_wide h h0
  rw [logR_pos h h0 hy]
  exact vnarrow_le (logW_le hp hlo hhi) ⟨by decide, by decide⟩

def cln232 : Nat := 1060205080
theorem cls_cln232 : cls .f32 cln232 = some cln232 := by decide +kernel
theorem lo_cln232 : VL .f32 (-1) (some cln232) := ⟨_, rfl, by
  rw [show (FloatKind.f32).decode cln232 = .number false 11629080 (-24) by decide +kernel]; exact ⟨by decide, by decide⟩⟩
/-- The bits of a number. -/
def bitsV (x : Nat) : Option Nat := vop .quo .f32 (logR x) (some cln232)
theorem bitsV_le {x m : Nat} {i : Int} (h : (FloatKind.f32).decode x = .number false m i) (h0 : m ≠ 0) : VLe .f32 44 (bitsV x) :=
  (vquo_le (logR_le h h0) lo_cln232 ⟨by decide, by decide⟩).mono (by decide)
theorem bits_cls {l x : Nat} (h : cls .f32 l = logR x) (w : World) : cls .f32 (fres .quo .f32 l 1060205080 w) = bitsV x := by
  rw [fres_cls, h]
  exact congrArg _ cls_cln232

theorem le_fin {E : Int} {r : Nat} {a : Option Nat} (h : VLe .f32 E a) (hr : cls .f32 r = a) : finD ((FloatKind.f32).decode r) = true := by
  obtain ⟨b, rfl, hb⟩ := h
  obtain ⟨rfl, _⟩ := cls_some hr
  cases hd : (FloatKind.f32).decode r with
  | number => rfl
  | infinity => rw [hd] at hb; exact hb.elim
  | nan => rw [hd] at hb; exact hb.elim

/-- Equal to 0. -/
def zeroB (z : Nat) : Bool := (FloatKind.f32).format.order z 0 == some .eq
theorem num_order (z : Nat) {s : Bool} {m : Nat} {i : Int} (hd : (FloatKind.f32).decode z = .number s m i) (hs : s = false ∨ m = 0) :
    (m = 0 ∧ (FloatKind.f32).format.order z 0 = some .eq) ∨ (s = false ∧ m ≠ 0 ∧ (FloatKind.f32).format.order z 0 = some .gt) := by
  have e : (FloatKind.f32).format.order z 0 = ((FloatKind.f32).decode z).order ((FloatKind.f32).decode 0) := rfl
  by_cases h0 : m = 0
  · left
    refine ⟨h0, ?_⟩
    rw [e, hd, dec_032, order_0, h0, signed_zero]; rfl
  · right
    have hs := hs.resolve_right h0
    subst hs
    refine ⟨rfl, h0, ?_⟩
    rw [e, hd, dec_032, order_0, signed_false']
    have : 0 < m * 2 ^ (i - min i (-149)).toNat := Nat.mul_pos (by omega) (Nat.two_pow_pos _)
    generalize m * 2 ^ (i - min i (-149)).toNat = p at this
    show some (compareOfLessAndEq _ _) = _
    unfold compareOfLessAndEq
    rw [if_neg (by omega), if_neg (by omega)]

/-- The class of the sum of the first k terms: those of chances of 0 are left out. -/
def vterms (zs : List Nat) (T : Nat → Option Nat) : Nat → Option Nat
  | 0 => cls .f32 0
  | k + 1 => if zeroB (zs.getD k 0) then vterms zs T k else vop .add .f32 (vterms zs T k) (T k)
theorem vterms_le {zs : List Nat} {T : Nat → Option Nat} {E : Int} {n : Nat} (hE : 0 ≤ E) (hE2 : E + n ≤ 127) (h : ∀ k, k < n → zeroB (zs.getD k 0) = false → VLe .f32 E (T k)) : ∀ k, k ≤ n → VLe .f32 (E + k) (vterms zs T k) := by
  intro k
  induction k with
  | zero => intro _; exact ⟨0, cls_032, by rw [dec_032]; exact leN_of_log (.inl rfl)⟩
  | succ k ih =>
    intro hk
    have hi := ih (by omega)
    unfold vterms
    by_cases hz : zeroB (zs.getD k 0) = true
    · rw [if_pos hz]; exact hi.mono (by omega)
    · rw [if_neg hz]
      exact (vadd_le hi (h k (by omega) (by simpa using hz)) ⟨by omega, by omega⟩).mono (by omega)
/-- A term of an entropy. -/
def entT (zs : List Nat) (k : Nat) : Option Nat := vop .mul .f32 (cls .f32 (zs.getD k 0)) (bitsV (zs.getD k 0))
def entV (zs : List Nat) (n : Nat) : Option Nat := vop .sub .f32 (cls .f32 0) (vterms zs (entT zs) n)
theorem entV_le {zs : List Nat} {n : Nat} (h : chS zs n = true) (hn : n ≤ 64) : VLe .f32 127 (entV zs n) := by
  have hT : ∀ k, k < n → zeroB (zs.getD k 0) = false → VLe .f32 45 (entT zs k) := fun k hk hz => by
    obtain ⟨s, m, i, hd, hs, hle⟩ := ch_each h hk
    rcases num_order _ hd hs with ⟨_, h1⟩ | ⟨rfl, h0, _⟩
    · unfold zeroB at hz; rw [h1] at hz; cases hz
    · exact vmul_le hle (bitsV_le hd h0) ⟨by decide, by decide⟩
  have hS := vterms_le (zs := zs) (n := n) (by decide : (0:Int) ≤ 45) (by omega) hT n (Nat.le_refl _)
  have h0 : VLe .f32 0 (cls .f32 0) := ⟨0, cls_032, by rw [dec_032]; exact leN_of_log (.inl rfl)⟩
  exact (vsub_le h0 hS ⟨by omega, by omega⟩).mono (by omega)

end Go.Proofs.YtkmggoagboikgaaDoor


/- Sums of 32-bit numbers: walks. -/
namespace Go.Proofs.YtkmggoagboikgaaDoor
open Go.Proofs.YtkmggoagboikgaaDoor.Flo Go.RowKit

/-- The class of the sum of the first k. -/
def vsum (zs : List Nat) : Nat → Option Nat
  | 0 => cls .f32 0
  | k + 1 => vop .add .f32 (vsum zs k) (cls .f32 (zs.getD k 0))
theorem FRow.new' {w : World} {zs : List Nat} {n b : Nat} (h : zs.length = n) (hb : b = w.heap.size) (e : TypeId) : FRow (w.alloc (.cells (fl zs) e)) (some ⟨b, 0, none⟩) n zs := by
  subst hb; exact FRow.new h e
theorem Below.drewN' {B : Nat} {a w : World} (h : Below B a w) (n : Nat) : Below B a (w.drewN n) := ⟨h.os, h.tape, h.output, h.size, h.block⟩
end Go.Proofs.YtkmggoagboikgaaDoor


/- IsRow and EntropyOf: the laws' walks. -/
namespace Go.Proofs.YtkmggoagboikgaaDoor
open Go.Proofs.YtkmggoagboikgaaDoor.Flo Go.RowKit

theorem row_n {zs : List Nat} {n : Nat} (h : rowB zs n = true) : n ≤ 64 ∧ chS zs n = true := by
  unfold rowB at h
  rw [Bool.and_eq_true] at h
  have := of_decide_eq_true h.1
  exact ⟨by omega, h.2⟩
end Go.Proofs.YtkmggoagboikgaaDoor


/- What is alive: the rows of numbers that a world holds, and the laws' helpers in these words. -/
namespace Go.Proofs.YtkmggoagboikgaaDoor
open Go.Proofs.YtkmggoagboikgaaDoor.Flo Go.RowKit

/-- Slices and the numbers that they lead to. -/
def Live (w : World) (L : List (Option Addr × Nat × List Nat)) : Prop := ∀ r ∈ L, FRow w r.1 r.2.1 r.2.2
theorem Live.get {w : World} {L : List (Option Addr × Nat × List Nat)} {a : Option Addr} {n : Nat} {zs : List Nat} (h : Live w L) (hm : (a, n, zs) ∈ L) : FRow w a n zs := h _ hm
theorem Live.below {w w' : World} {L : List (Option Addr × Nat × List Nat)} (h : Live w L) (b : Below w.heap.size w w') : Live w' L := fun r hr => (h r hr).below b
theorem Live.nil (w : World) : Live w [] := fun _ h => nomatch h
theorem Live.cons {w : World} {L : List (Option Addr × Nat × List Nat)} {a : Option Addr} {n : Nat} {zs : List Nat} (h : Live w L) (hr : FRow w a n zs) : Live w ((a, n, zs) :: L) := by
  intro r hm
  cases hm with
  | head => exact hr
  | tail _ hm => exact h r hm
theorem Below.next {w w1 w2 : World} (h : Below w.heap.size w w1) (h2 : Below w1.heap.size w1 w2) : Below w.heap.size w w2 := h.trans (h2.mono h.size)

theorem Live.drewN {w : World} {L : List (Option Addr × Nat × List Nat)} (h : Live w L) (q : Nat) : Live (w.drewN q) L := h
theorem Below.ofDrewN {w w' : World} {q : Nat} (h : Below (w.drewN q).heap.size (w.drewN q) w') : Below w.heap.size w w' := Below.trans (Below.drewN' (Below.refl _ _) q) h

theorem toL (a : Option Addr) (n cap : Nat) (zs : List Nat) (w : World) (L : List (Option Addr × Nat × List Nat)) (h : Live w L) (hm : (a, n, zs) ∈ L) (hn : n ≤ 1048576) :
    Calls Tryd.prog 6 #[.slice a n cap] w fun e w' => ∃ p, e = .returned (.slice (some p) n n) ∧ Live w' ((some p, n, zs) :: L) ∧ Below w.heap.size w w' := by
  refine (toF a n cap zs w (h.get hm) hn).mono ?_
  rintro e w' ⟨he, rfl⟩
  have hb : Below w.heap.size w (w.alloc (.cells (fl zs) 33)) := (Below.refl _ _).alloc (Nat.le_refl _) _
  exact ⟨_, he, (h.below hb).cons (FRow.new (h.get hm).1 _), hb⟩
set_option maxHeartbeats 1000000 in
theorem eqC (a b : Option Addr) (n cap capb : Nat) (zs ys : List Nat) (w : World) (ha : FRow w a n zs) (hb : FRow w b n ys) (hn : n ≤ 1048576) (hc : ∀ k, k < n → cls .f32 (zs.getD k 0) = cls .f32 (ys.getD k 0)) :
    Calls Tryd.prog 8 #[.slice a n cap, .slice b n capb] w fun e w' => e = .returned (.bool true) ∧ Drew w w' := by
  have HA := Lib.hid ha
  have HB := Lib.hid hb
  have HC := Lib.hid hc
  clear ha hb hc
  go_enter Tryd.func8, Tryd.ntmps8
  go_wp2
  go_loopw [5] (fun iv w' => ∃ k q : Nat, k ≤ n ∧ iv = .int .i64 k ∧ w' = w.drewN q) (fun iv _ => n - (intOf iv).toNat)
  case atStart => exact ⟨0, 0, by omega, rfl, rfl⟩
  case round =>
    obtain ⟨k, q, hk, rfl, rfl⟩ := hrel
    by_cases hlt : k < n
    · rcases HA.out.2 with h0 | ⟨b1, o1, rfl, _, hc1⟩
      · omega
      rcases HB.out.2 with h0 | ⟨b2, o2, rfl, _, hc2⟩
      · omega
      have hck1 : w.cell? ⟨b1, o1 + k, none⟩ = some (.float .f32 (zs.getD k 0)) := hc1 k hlt
      have hck2 : w.cell? ⟨b2, o2 + k, none⟩ = some (.float .f32 (ys.getD k 0)) := hc2 k hlt
      have heq := HC.out k hlt
      generalize zs.getD k 0 = x at hck1 heq
      generalize ys.getD k 0 = y at hck2 heq
      have h := fun w2 : World => fun w3 : World => (cres_wide x w2).trans ((congrArg vwide heq).trans (cres_wide y w3).symm)
      clear hc1 hc2 HA HB HC heq
      go_wp2
      go_region_with (go_at_call 17; refine (sameFloat_true _ _ (h ..) _).mono ?_; rintro e w2 ⟨rfl, n2, rfl⟩)
      all_goals
        go_wp2
        exact ⟨⟨k + 1, _, by omega, by first | rfl | go_num | (congr 1), rfl⟩, by show n - ((k : Int) + 1).toNat < n - (k : Int).toNat; omega⟩
    · obtain rfl : k = n := by omega
      go_wp2
      go_ret
      exact ⟨rfl, Drew.mk _ _⟩
theorem eqL (a b : Option Addr) (n cap capb : Nat) (zs : List Nat) (w : World) (L : List (Option Addr × Nat × List Nat)) (h : Live w L) (ha : (a, n, zs) ∈ L) (hb : (b, n, zs) ∈ L) (hn : n ≤ 1048576) :
    Calls Tryd.prog 8 #[.slice a n cap, .slice b n capb] w fun e w' => e = .returned (.bool true) ∧ Live w' L ∧ Below w.heap.size w w' :=
  (eqF a b n cap capb zs w (h.get ha) (h.get hb) hn).mono fun _ _ ⟨he, d⟩ => ⟨he, h.below d.below, d.below⟩
end Go.Proofs.YtkmggoagboikgaaDoor


/- Two rows: covers, CrossEntropy. -/
namespace Go.Proofs.YtkmggoagboikgaaDoor
open Go.Proofs.YtkmggoagboikgaaDoor.Flo Go.RowKit

/-- Two rows of the same length. -/
def twoB (za zb : List Nat) (n m : Nat) : Bool := rowB za n && rowB zb m && decide (n = m)
theorem two_out {za zb : List Nat} {n m : Nat} (h : twoB za zb n m = true) : n = m ∧ n ≤ 32 ∧ chS za n = true ∧ chS zb n = true ∧ rowB za n = true ∧ rowB zb n = true := by
  unfold twoB at h
  rw [Bool.and_eq_true, Bool.and_eq_true] at h
  obtain ⟨⟨h1, h2⟩, h3⟩ := h
  have h3 := of_decide_eq_true h3
  subst h3
  refine ⟨rfl, ?_, (row_n h1).2, (row_n h2).2, h1, h2⟩
  unfold rowB at h1
  rw [Bool.and_eq_true] at h1
  exact (of_decide_eq_true h1.1).2
/-- No chance of b is 0 where that of a is not. -/
def covB (za zb : List Nat) (n : Nat) : Bool := decide (∀ k, k < n → (zeroB (za.getD k 0) || !zeroB (zb.getD k 0)) = true)
end Go.Proofs.YtkmggoagboikgaaDoor


/- CrossEntropy: its terms, the walks, the law. -/
namespace Go.Proofs.YtkmggoagboikgaaDoor
open Go.Proofs.YtkmggoagboikgaaDoor.Flo Go.RowKit

theorem cov_at {za zb : List Nat} {n : Nat} (h : covB za zb n = true) {k : Nat} (hk : k < n) (hz : zeroB (za.getD k 0) = false) : zeroB (zb.getD k 0) = false := by
  unfold covB at h
  have := of_decide_eq_true h k hk
  rw [hz, Bool.false_or] at this
  simpa using this
/-- A chance that is not 0: its bits are a number. -/
theorem ch_bits {zs : List Nat} {n : Nat} (h : chS zs n = true) {k : Nat} (hk : k < n) (hz : zeroB (zs.getD k 0) = false) : VLe .f32 44 (bitsV (zs.getD k 0)) := by
  obtain ⟨s, m, i, hd, hs, _⟩ := ch_each h hk
  rcases num_order _ hd hs with ⟨_, h1⟩ | ⟨rfl, h0, _⟩
  · unfold zeroB at hz; rw [h1] at hz; cases hz
  · exact bitsV_le hd h0
theorem ch_inf {zs : List Nat} {n : Nat} (h : chS zs n = true) {k : Nat} (hk : k < n) : (FloatKind.f32).decode (zs.getD k 0) = .infinity false → zs.getD k 0 = 2139095040 := by
  obtain ⟨s, m, i, hd, _⟩ := ch_each h hk
  rw [hd]; intro e; cases e
theorem ch_le {zs : List Nat} {n : Nat} (h : chS zs n = true) {k : Nat} (hk : k < n) : VLe .f32 1 (cls .f32 (zs.getD k 0)) := by
  obtain ⟨_, _, _, _, _, h⟩ := ch_each h hk; exact h
/-- What is returned: 0 where it fails. -/
def ansV (b : Bool) (v : Option Nat) : Option Nat := if b then v else cls .f32 0
theorem ret_fb {r : Nat} {b c : Bool} (h : b = c) : Ending.returned (.tuple #[.float .f32 r, .bool b]) = .returned (.tuple #[.float .f32 r, .bool c]) := by rw [h]
theorem le_032 : VLe .f32 0 (cls .f32 0) := ⟨0, cls_032, by rw [dec_032]; exact leN_of_log (.inl rfl)⟩

/-- A term of a cross entropy. -/
def crossT (za zb : List Nat) (k : Nat) : Option Nat := vop .mul .f32 (cls .f32 (za.getD k 0)) (bitsV (zb.getD k 0))
def crossV (za zb : List Nat) (n : Nat) : Option Nat := vop .sub .f32 (cls .f32 0) (vterms za (crossT za zb) n)
theorem crossV_le {za zb : List Nat} {n : Nat} (hca : chS za n = true) (hcb : chS zb n = true) (hcv : covB za zb n = true) (hn : n ≤ 32) : VLe .f32 127 (crossV za zb n) := by
  have hT : ∀ k, k < n → zeroB (za.getD k 0) = false → VLe .f32 45 (crossT za zb k) := fun k hk hz =>
    vmul_le (ch_le hca hk) (ch_bits hcb hk (cov_at hcv hk hz)) ⟨by decide, by decide⟩
  have hS := vterms_le (zs := za) (n := n) (by decide : (0:Int) ≤ 45) (by omega) hT n (Nat.le_refl _)
  exact (vsub_le le_032 hS ⟨by omega, by omega⟩).mono (by omega)
def okX (za zb : List Nat) (n m : Nat) : Bool := twoB za zb n m && covB za zb n
end Go.Proofs.YtkmggoagboikgaaDoor


/- RootFar: values, walks, contracts. -/
namespace Go.Proofs.YtkmggoagboikgaaDoor
open Go.Proofs.YtkmggoagboikgaaDoor.Flo Go.RowKit

theorem narrow_pos {b r : Nat} (h : vnarrow (some b) = some r) (hp : PosD ((FloatKind.f64).decode b)) : PosD ((FloatKind.f32).decode r) := by
  unfold vnarrow floatToFloatBits at h
  simp only [Option.bind_some] at h
  rw [if_neg (by decide)] at h
  cases hd : (FloatKind.f64).decode b with
  | nan => rw [hd] at hp; exact hp.elim
  | infinity s =>
    rw [hd] at h hp
    cases h
    exact write_pos .f32 (r := .infinity s) hp
  | number s m i =>
    rw [hd] at h hp
    dsimp only at h
    split at h
    · cases h
    · cases h; exact write_pos .f32 (r := .number s m i) hp
theorem rootV_pos {x m : Nat} {i : Int} (h : (FloatKind.f32).decode x = .number false m i) (h0 : m ≠ 0) : VPos .f32 (rootV (some x)) := by
  have hc : cls .f32 x = some x := cls_of_not (by rw [h]; rfl)
  obtain ⟨y, hy, hdy⟩ := wide_num h h0
  have hok := vsqrt_wide_okn x
  rw [hc] at hy hok
  have hm : m <<< (52 - m.log2) ≠ 0 := by rw [Nat.shiftLeft_eq]; exact Nat.mul_ne_zero h0 (by have := Nat.two_pow_pos (52 - m.log2); omega)
  unfold rootV
  rw [hy] at hok ⊢
  have hs : ∃ M I, vsqrt (some y) = some ((FloatKind.f64).format.write (.number false M I)) := by
    show ∃ M I, (((FloatKind.f64).decode y).root ((FloatKind.f64).format.fractionBits + 2)).map (FloatKind.f64).format.write = _
    rw [hdy]
    unfold Ieee.Datum.root
    dsimp only
    rw [if_neg hm]
    exact ⟨_, _, rfl⟩
  obtain ⟨M, I, hs⟩ := hs
  rw [hs] at hok ⊢
  rcases hok with hok | ⟨r, hr⟩
  · cases hok
  · exact ⟨r, hr, narrow_pos hr (write_pos .f64 (r := .number false M I) (.inl rfl))⟩

/-- A term of RootFar. -/
def rtT (za zb : List Nat) (k : Nat) : Option Nat := rootV (vop .mul .f32 (cls .f32 (za.getD k 0)) (cls .f32 (zb.getD k 0)))
/-- The sum of all terms, those of chances of 0 too. -/
def vall (T : Nat → Option Nat) : Nat → Option Nat
  | 0 => cls .f32 0
  | k + 1 => vop .add .f32 (vall T k) (T k)
theorem prod_num {x y : Nat} {s t : Bool} {m n : Nat} {i j : Int} (hx : (FloatKind.f32).decode x = .number s m i) (hy : (FloatKind.f32).decode y = .number t n j) (hs : s = false ∨ m = 0) (ht : t = false ∨ n = 0)
    (lx : VLe .f32 1 (cls .f32 x)) (ly : VLe .f32 1 (cls .f32 y)) : ∃ p u q l, vop .mul .f32 (cls .f32 x) (cls .f32 y) = some p ∧ (FloatKind.f32).decode p = .number u q l ∧ (u = false ∨ q = 0) ∧ (m = 0 → q = 0) := by
  obtain ⟨p, hp, hle⟩ := vmul_le lx ly ⟨by decide, by decide⟩
  have hcx : cls .f32 x = some x := cls_of_not (by rw [hx]; rfl)
  have hcy : cls .f32 y = some y := cls_of_not (by rw [hy]; rfl)
  have e : vop .mul .f32 (some x) (some y) = some ((FloatKind.f32).format.write (.number (s ^^ t) (m * n) (i + j))) := by
    show ((((FloatKind.f32).decode x).product ((FloatKind.f32).decode y)).map (FloatKind.f32).format.write) = _
    rw [hx, hy]; rfl
  rw [hcx, hcy] at hp
  rw [hcx, hcy]
  have hpe : p = (FloatKind.f32).format.write (.number (s ^^ t) (m * n) (i + j)) := by rw [e] at hp; injection hp with hp; exact hp.symm
  cases hd : (FloatKind.f32).decode p with
  | nan => rw [hd] at hle; exact hle.elim
  | infinity => rw [hd] at hle; exact hle.elim
  | number u q l =>
    refine ⟨p, u, q, l, hp, hd, ?_, ?_⟩
    · have := write_pos .f32 (r := .number (s ^^ t) (m * n) (i + j)) (by
        show (s ^^ t) = false ∨ m * n = 0
        rcases hs with rfl | rfl
        · rcases ht with rfl | rfl
          · exact .inl rfl
          · exact .inr (Nat.mul_zero _)
        · exact .inr (Nat.zero_mul _))
      rw [← hpe, hd] at this
      exact this
    · intro hm
      rw [hpe, hm, Nat.zero_mul] at hd
      have h0 : (FloatKind.f32).format.write (.number (s ^^ t) 0 (i + j)) = (FloatKind.f32).format.word (s ^^ t) 0 := rfl
      rw [h0] at hd
      generalize (s ^^ t) = g at hd
      cases g with
      | false =>
        rw [show (FloatKind.f32).format.word false 0 = 0 from rfl, dec_032] at hd
        injection hd with _ h2 _; exact h2.symm
      | true =>
        rw [show (FloatKind.f32).decode ((FloatKind.f32).format.word true 0) = .number true 0 (-149) by decide +kernel] at hd
        injection hd with _ h2 _; exact h2.symm
theorem rt_term {za zb : List Nat} {n k : Nat} (hca : chS za n = true) (hcb : chS zb n = true) (hk : k < n) :
    VPos .f32 (rtT za zb k) ∧ (zeroB (za.getD k 0) = true → ∃ z, rtT za zb k = some z ∧ ∃ t j, (FloatKind.f32).decode z = .number t 0 j) := by
  obtain ⟨s, m, i, hd, hs, hl⟩ := ch_each hca hk
  obtain ⟨t, n2, j, hd2, ht, hl2⟩ := ch_each hcb hk
  obtain ⟨p, u, q, l, hp, hdp, hu, hq⟩ := prod_num hd hd2 hs ht hl hl2
  unfold rtT
  rw [hp]
  constructor
  · by_cases h0 : q = 0
    · subst h0
      obtain ⟨z, hz, t2, j2, hdz⟩ := rootV_zero hdp
      exact ⟨z, hz, by rw [hdz]; exact .inr rfl⟩
    · have hu := hu.resolve_right h0
      subst hu
      exact rootV_pos hdp h0
  · intro hz
    rcases num_order _ hd hs with ⟨hm, _⟩ | ⟨_, _, ho⟩
    · rw [hq hm] at hdp
      exact rootV_zero hdp
    · unfold zeroB at hz; rw [ho] at hz; cases hz
theorem vall_pos {za zb : List Nat} {n : Nat} (hca : chS za n = true) (hcb : chS zb n = true) : ∀ k, k ≤ n → Wpos (vall (rtT za zb) k) ∧ vterms za (rtT za zb) k = vall (rtT za zb) k := by
  intro k
  induction k with
  | zero => intro _; exact ⟨wpos_zero, rfl⟩
  | succ k ih =>
    intro hk
    obtain ⟨h1, h2⟩ := ih (by omega)
    obtain ⟨hp, hz⟩ := rt_term hca hcb (show k < n by omega)
    refine ⟨wpos_add h1 hp, ?_⟩
    show (if _ then _ else _) = _
    by_cases hb : zeroB (za.getD k 0) = true
    · rw [if_pos hb, h2]
      obtain ⟨z, hz, t, j, hdz⟩ := hz hb
      show _ = vop .add .f32 _ _
      rw [hz, wpos_add_zero h1 hdz]
    · rw [if_neg hb, h2]; rfl
/-- What is no less than the least place is rounded to no zero. -/
theorem nearest_ne0 (f : Ieee.Format) (mag : Nat) (place : Int) (hm : mag ≠ 0) (hp : f.leastPlace ≤ place) (hi : 0 < f.infRung) : f.nearest false mag place ≠ 0 := by
  have hpos : 0 < f.binade := Nat.two_pow_pos _
  unfold Ieee.Format.nearest
  rw [if_neg hm]
  dsimp only
  generalize hlast : max (place + (mag.log2 : Int) - f.fractionBits) f.leastPlace = last
  show min ((last - f.leastPlace).toNat * f.binade + Ieee.Toward.even.cut false (mag <<< (place - last).toNat) (last - place).toNat) f.infRung ≠ 0
  by_cases hl : last = f.leastPlace
  · have e : (last - place).toNat = 0 := by omega
    have h1 : 1 ≤ Ieee.Toward.even.cut false (mag <<< (place - last).toNat) (last - place).toNat := by
      rw [e]
      refine cut_even_ge false _ 0 1 ?_
      rw [Nat.shiftLeft_eq]
      have := Nat.mul_pos (show 0 < mag by omega) (Nat.two_pow_pos (place - last).toNat)
      show 1 ≤ mag * 2 ^ (place - last).toNat
      exact this
    omega
  · have h2 : 1 ≤ (last - f.leastPlace).toNat := by omega
    have h3 : 1 * f.binade ≤ (last - f.leastPlace).toNat * f.binade := Nat.mul_le_mul_right _ h2
    omega
theorem order_word (s : Bool) (q : Nat) (hq : q ≤ (FloatKind.f32).format.infRung) (h0 : q ≠ 0) : (FloatKind.f32).format.order ((FloatKind.f32).format.word s q) 0 = if s then some .lt else some .gt := by
  have hbi := binade_le .f32
  have e : (FloatKind.f32).format.order ((FloatKind.f32).format.word s q) 0 = ((FloatKind.f32).format.read ((FloatKind.f32).format.word s q)).order (.number false 0 (-149)) := by rw [← dec_032]; rfl
  rw [e, read_word _ s q (Nat.lt_of_le_of_lt hq (FloatKind.f32).format.infRung_lt)]
  have key : ∀ (m : Nat) (i : Int), m ≠ 0 → (Ieee.Datum.number s m i).order (.number false 0 (-149)) = if s then some .lt else some .gt := by
    intro m i hm
    rw [order_0]
    have hp : 0 < m * 2 ^ (i - min i (-149)).toNat := Nat.mul_pos (by omega) (Nat.two_pow_pos _)
    cases s with
    | false =>
      rw [signed_false']
      generalize m * 2 ^ (i - min i (-149)).toNat = p at hp
      show some (compareOfLessAndEq _ _) = _
      unfold compareOfLessAndEq
      rw [if_neg (by omega), if_neg (by omega)]; rfl
    | true =>
      have e2 : Ieee.signed true m (i - min i (-149)).toNat = - Ieee.signed false m (i - min i (-149)).toNat := signed_not false _ _
      rw [e2, signed_false']
      generalize m * 2 ^ (i - min i (-149)).toNat = p at hp
      show some (compareOfLessAndEq _ _) = _
      unfold compareOfLessAndEq
      rw [if_pos (by omega)]; rfl
  split
  · exact key _ _ h0
  · split
    · exact key _ _ (by have : 0 < (FloatKind.f32).format.binade := Nat.two_pow_pos _; omega)
    · rw [if_pos (by omega)]; cases s <;> rfl
/-- What is left of 1: its sign, and a zero has none. -/
theorem rest_one {a : Option Nat} (h : Wpos a) : ∃ b, vop .sub .f32 (some one32) a = some b ∧ ((FloatKind.f32).format.order b 0 = some .lt ∨ (FloatKind.f32).format.order b 0 = some .gt ∨ b = 0) := by
  obtain ⟨r, hr, rfl⟩ := h
  have hx := read_pos hr
  show ∃ b, ((((FloatKind.f32).decode one32).sum ((FloatKind.f32).decode r).opposite).map (FloatKind.f32).format.write) = some b ∧ _
  rw [dec_one32]
  have hord : ∀ b, (FloatKind.f32).format.order b 0 = ((FloatKind.f32).decode b).order (.number false 0 (-149)) := fun b => by rw [← dec_032]; rfl
  cases hd : (FloatKind.f32).decode r with
  | nan => rw [hd] at hx; exact hx.elim
  | infinity s =>
    rw [hd] at hx
    have hs : s = false := hx
    subst hs
    exact ⟨_, rfl, .inl (by decide +kernel)⟩
  | number s m i =>
    rw [hd] at hx
    refine ⟨_, rfl, ?_⟩
    generalize hg : (Ieee.signed false (2 ^ 23) (-23 - min (-23) i).toNat + Ieee.signed (!s) m (i - min (-23) i).toNat) = g
    show (FloatKind.f32).format.order ((FloatKind.f32).format.write (.number (if g = 0 then false && !s else decide (g < 0)) g.natAbs (min (-23) i))) 0 = some .lt ∨ _
    by_cases h0 : g = 0
    · right; right
      show (FloatKind.f32).format.write (.number (if g = 0 then false && !s else decide (g < 0)) g.natAbs (min (-23) i)) = 0
      rw [if_pos h0, h0]; rfl
    · rw [if_neg h0]
      obtain ⟨q, hq, hq0, hw⟩ := nearest_rung (FloatKind.f32).format g.natAbs (min (-23) i)
      have hwr : (FloatKind.f32).format.write (.number (decide (g < 0)) g.natAbs (min (-23) i)) = (FloatKind.f32).format.word (decide (g < 0)) q := hw _
      have hi : -149 ≤ i := (num32 hd).2.1
      have hq1 : q ≠ 0 := by
        intro e
        have h1 := hw false
        rw [e] at h1
        exact nearest_ne0 (FloatKind.f32).format g.natAbs (min (-23) i) (by omega) (by show (-149 : Int) ≤ _; omega) (by decide) h1
      rw [hwr, order_word _ q hq hq1]
      by_cases hneg : g < 0
      · left; rw [decide_eq_true hneg]; rfl
      · right; left; rw [decide_eq_false hneg]; rfl
end Go.Proofs.YtkmggoagboikgaaDoor


/- How far two chances are apart; plain facts. -/
namespace Go.Proofs.YtkmggoagboikgaaDoor
open Go.Proofs.YtkmggoagboikgaaDoor.Flo Go.RowKit

/-- The absolute difference of two chances. -/
def farN (x y : Nat) : Nat := ((vop .sub .f32 (cls .f32 x) (cls .f32 y)).getD 0) % 2 ^ 31
theorem word_mod (s : Bool) (r : Nat) (h : r ≤ (FloatKind.f32).format.infRung) : (FloatKind.f32).format.word s r % 2 ^ 31 = r := by
  have hi : (FloatKind.f32).format.infRung = 2139095040 := rfl
  have hw : (FloatKind.f32).format.word s r = if s then 2 ^ 31 + r else r := rfl
  rw [hw]
  cases s
  · simp; omega
  · simp; omega
theorem far_words {x y : Nat} {s t : Bool} {m n : Nat} {i j : Int} (hx : (FloatKind.f32).decode x = .number s m i) (hy : (FloatKind.f32).decode y = .number t n j) (lx : VLe .f32 1 (cls .f32 x)) (ly : VLe .f32 1 (cls .f32 y)) :
    ∃ r sp sq, r < (FloatKind.f32).format.infRung ∧ floatBits .sub .f32 x y = some ((FloatKind.f32).format.word sp r) ∧ floatBits .sub .f32 y x = some ((FloatKind.f32).format.word sq r) ∧ (r ≠ 0 → sq = !sp) ∧ (r = 0 → ¬ (sp = true ∧ sq = true)) ∧ farN x y = r := by
  have hcx : cls .f32 x = some x := cls_of_not (by rw [hx]; rfl)
  have hcy : cls .f32 y = some y := cls_of_not (by rw [hy]; rfl)
  have hle := vsub_le lx ly (show Norm .f32 (max 1 1 + 1) from ⟨by decide, by decide⟩)
  have hmin : min j i = min i j := Int.min_comm ..
  have e1 : floatBits .sub .f32 x y = some ((FloatKind.f32).format.write (.number (if Ieee.signed s m (i - min i j).toNat + Ieee.signed (!t) n (j - min i j).toNat = 0 then s && !t else decide (Ieee.signed s m (i - min i j).toNat + Ieee.signed (!t) n (j - min i j).toNat < 0)) (Ieee.signed s m (i - min i j).toNat + Ieee.signed (!t) n (j - min i j).toNat).natAbs (min i j))) := by
    show ((((FloatKind.f32).decode x).sum ((FloatKind.f32).decode y).opposite).map (FloatKind.f32).format.write) = _
    rw [hx, hy]; rfl
  have e2 : floatBits .sub .f32 y x = some ((FloatKind.f32).format.write (.number (if Ieee.signed t n (j - min i j).toNat + Ieee.signed (!s) m (i - min i j).toNat = 0 then t && !s else decide (Ieee.signed t n (j - min i j).toNat + Ieee.signed (!s) m (i - min i j).toNat < 0)) (Ieee.signed t n (j - min i j).toNat + Ieee.signed (!s) m (i - min i j).toNat).natAbs (min i j))) := by
    show ((((FloatKind.f32).decode y).sum ((FloatKind.f32).decode x).opposite).map (FloatKind.f32).format.write) = _
    rw [hx, hy]
    show some ((FloatKind.f32).format.write (.number _ _ _)) = _
    rw [hmin]
  have eg : Ieee.signed t n (j - min i j).toNat + Ieee.signed (!s) m (i - min i j).toNat = -(Ieee.signed s m (i - min i j).toNat + Ieee.signed (!t) n (j - min i j).toNat) := by
    rw [signed_not, signed_not]; omega
  rw [eg, Int.natAbs_neg] at e2
  have hpl : -149 ≤ min i j := by have := (num32 hx).2.1; have := (num32 hy).2.1; omega
  rw [hcx, hcy] at hle
  have hv : vop .sub .f32 (some x) (some y) = floatBits .sub .f32 x y := rfl
  have hfar : farN x y = ((floatBits .sub .f32 x y).getD 0) % 2 ^ 31 := by unfold farN; rw [hcx, hcy, hv]
  rw [hv] at hle
  generalize Ieee.signed s m (i - min i j).toNat + Ieee.signed (!t) n (j - min i j).toNat = g at e1 e2
  obtain ⟨r, hr, hr0, hw⟩ := nearest_rung (FloatKind.f32).format g.natAbs (min i j)
  have hwr : ∀ u, (FloatKind.f32).format.write (.number u g.natAbs (min i j)) = (FloatKind.f32).format.word u r := fun u => hw u
  rw [hwr] at e1 e2
  rw [e1] at hle hfar
  have hlt : r < (FloatKind.f32).format.infRung := by
    rcases Nat.lt_or_eq_of_le hr with h | h
    · exact h
    · exfalso
      obtain ⟨b, hb, hbl⟩ := hle
      injection hb with hb
      subst hb
      rw [h] at hbl
      have := read_inf .f32 (if g = 0 then s && !t else decide (g < 0))
      unfold FloatKind.decode at hbl
      rw [this] at hbl
      exact hbl
  refine ⟨r, _, _, hlt, e1, e2, ?_, ?_, ?_⟩
  · intro h0
    have hg : g ≠ 0 := fun e => h0 (hr0 (by rw [e]; rfl))
    rw [if_neg hg, if_neg (by omega)]
    by_cases hn : g < 0
    · rw [decide_eq_true hn, decide_eq_false (by omega)]; rfl
    · rw [decide_eq_false hn, decide_eq_true (by omega)]; rfl
  · intro h0
    have hg : g = 0 := by
      rcases Int.lt_trichotomy g 0 with h | h | h
      · exfalso
        have h1 := hw false
        rw [h0] at h1
        exact nearest_ne0 (FloatKind.f32).format g.natAbs (min i j) (by omega) (by show (-149 : Int) ≤ _; omega) (by decide) h1
      · exact h
      · exfalso
        have h1 := hw false
        rw [h0] at h1
        exact nearest_ne0 (FloatKind.f32).format g.natAbs (min i j) (by omega) (by show (-149 : Int) ≤ _; omega) (by decide) h1
    rw [if_pos hg, if_pos (by omega)]
    cases s <;> cases t <;> simp
  · rw [hfar]
    exact word_mod _ _ (Nat.le_of_lt hlt)

theorem word_not (s : Bool) {r : Nat} (h : r < (FloatKind.f32).format.infRung) : ((FloatKind.f32).decode ((FloatKind.f32).format.word s r)).isNaN = false := read_word_le _ s r (Nat.le_of_lt h)
theorem word_neg (s : Bool) {r : Nat} (h : r < (FloatKind.f32).format.infRung) : ((FloatKind.f32).decode ((FloatKind.f32).format.word s r)).neg = s := by
  unfold FloatKind.decode
  rw [read_word _ s r (Nat.lt_trans h (FloatKind.f32).format.infRung_lt)]
  by_cases h1 : r < (FloatKind.f32).format.binade
  · rw [if_pos h1]; rfl
  · rw [if_neg h1, if_pos h]; rfl
/-- 'max(x - y, y - x)', as the program has it. -/
theorem far_max (P : Program) {r : Nat} {sp sq : Bool} (hr : r < (FloatKind.f32).format.infRung) (h1 : r ≠ 0 → sq = !sp) (h0 : r = 0 → ¬ (sp = true ∧ sq = true)) :
    ∀ ts t w, (Builtin.max_ ts t #[.float .f32 ((FloatKind.f32).format.word sp r), .float .f32 ((FloatKind.f32).format.word sq r)]).run P w = .ok (.float .f32 r) w := by
  intro ts t w
  have hneg := word_neg sp hr
  by_cases e : r = 0
  · subst e
    have ho : (FloatKind.f32).format.order ((FloatKind.f32).format.word sp 0) ((FloatKind.f32).format.word sq 0) = some .eq := by
      cases sp <;> cases sq <;> decide +kernel
    have := h0 rfl
    simp [Builtin.max_, Builtin.max2, ho, hneg]
    cases sp <;> cases sq <;> simp_all [Ieee.Format.word]
  · have hq := h1 e
    subst hq
    have ho : (FloatKind.f32).format.order ((FloatKind.f32).format.word sp r) ((FloatKind.f32).format.word (!sp) r) = if sp then some .lt else some .gt := by
      unfold Ieee.Format.order
      rw [read_word _ sp r (Nat.lt_trans hr (FloatKind.f32).format.infRung_lt), read_word _ (!sp) r (Nat.lt_trans hr (FloatKind.f32).format.infRung_lt)]
      have key : ∀ (m : Nat) (i : Int), m ≠ 0 → (Ieee.Datum.number sp m i).order (.number (!sp) m i) = if sp then some .lt else some .gt := by
        intro m i hm
        simp only [Ieee.Datum.order]
        rw [Int.min_self, signed_not]
        have hp : 0 < m * 2 ^ (i - i).toNat := Nat.mul_pos (by omega) (Nat.two_pow_pos _)
        cases sp with
        | false =>
          rw [signed_false']
          generalize m * 2 ^ (i - i).toNat = p at hp
          show some (compareOfLessAndEq _ _) = _
          unfold compareOfLessAndEq
          rw [if_neg (by omega), if_neg (by omega)]; rfl
        | true =>
          have e2 : Ieee.signed true m (i - i).toNat = - Ieee.signed false m (i - i).toNat := signed_not false _ _
          rw [e2, signed_false']
          generalize m * 2 ^ (i - i).toNat = p at hp
          show some (compareOfLessAndEq _ _) = _
          unfold compareOfLessAndEq
          rw [if_pos (by omega)]; rfl
      by_cases hb : r < (FloatKind.f32).format.binade
      · rw [if_pos hb, if_pos hb]; exact key _ _ e
      · rw [if_neg hb, if_pos hr, if_neg hb, if_pos hr]
        exact key _ _ (by have : 0 < (FloatKind.f32).format.binade := Nat.two_pow_pos _; omega)
    cases sp with
    | false =>
      have ho2 : (FloatKind.f32).format.order r ((FloatKind.f32).format.word true r) = some .gt := ho
      show (Builtin.max_ ts t #[.float .f32 r, .float .f32 ((FloatKind.f32).format.word true r)]).run P w = _
      simp [Builtin.max_, Builtin.max2, ho2]
    | true =>
      have ho2 : (FloatKind.f32).format.order ((FloatKind.f32).format.word true r) r = some .lt := ho
      show (Builtin.max_ ts t #[.float .f32 ((FloatKind.f32).format.word true r), .float .f32 r]).run P w = _
      simp [Builtin.max_, Builtin.max2, ho2]
/-- '0 - x' of a word: its opposite; and a zero is +0. -/
theorem neg_word {r : Nat} (hr : r < (FloatKind.f32).format.infRung) (s : Bool) (h : s = true ∨ r = 0) : vop .sub .f32 (some 0) (some ((FloatKind.f32).format.word s r)) = some r := by
  show ((((FloatKind.f32).decode 0).sum ((FloatKind.f32).decode ((FloatKind.f32).format.word s r)).opposite).map (FloatKind.f32).format.write) = some r
  by_cases h0 : r = 0
  · subst h0
    cases s <;> decide +kernel
  · have hs := h.resolve_right h0
    subst hs
    have hx := fun u => nearest_exact (FloatKind.f32).format true r hr h0 u
    rw [dec_032]
    unfold FloatKind.decode
    cases hd : (FloatKind.f32).format.read ((FloatKind.f32).format.word true r) with
    | nan => have := hx 0; rw [hd] at this; exact this.elim
    | infinity => have := hx 0; rw [hd] at this; exact this.elim
    | number u m j =>
      have hu : u = true := by
        have := word_neg true hr
        unfold FloatKind.decode at this
        rw [hd] at this; exact this
      subst hu
      have hm : m ≠ 0 := by
        intro e
        have := hx 0
        rw [hd] at this
        have := this false
        rw [e] at this
        have h3 : (FloatKind.f32).format.nearest false (0 <<< 0) (j - (0 : Nat)) = 0 := rfl
        rw [h3] at this
        exact h0 this.symm
      show some ((FloatKind.f32).format.write (.number _ _ _)) = some r
      have hp : 0 < m * 2 ^ (j - min (-149) j).toNat := Nat.mul_pos (by omega) (Nat.two_pow_pos _)
      have e0 : Ieee.signed (!true) m (j - min (-149) j).toNat = ((m * 2 ^ (j - min (-149) j).toNat : Nat) : Int) := signed_false' _ _
      rw [signed_zero, Int.zero_add, e0]
      have e1 : (((m * 2 ^ (j - min (-149) j).toNat : Nat) : Int)).natAbs = m <<< (j - min (-149) j).toNat := by rw [Int.natAbs_natCast, Nat.shiftLeft_eq]
      rw [e1, if_neg (by omega), decide_eq_false (by omega)]
      have := hx (j - min (-149) j).toNat
      rw [hd] at this
      have := this false
      have e3 : j - ((j - min (-149) j).toNat : Int) = min (-149) j := by omega
      rw [e3, word_false] at this
      exact congrArg some this
end Go.Proofs.YtkmggoagboikgaaDoor


/- FarOfRows: walks and law. -/
namespace Go.Proofs.YtkmggoagboikgaaDoor
open Go.Proofs.YtkmggoagboikgaaDoor.Flo Go.RowKit

def farT (za zb : List Nat) (k : Nat) : Option Nat := some (farN (za.getD k 0) (zb.getD k 0))
def sumT (T : Nat → Option Nat) : Nat → Option Nat
  | 0 => cls .f32 0
  | k + 1 => vop .add .f32 (sumT T k) (T k)
def farV (za zb : List Nat) (n : Nat) : Option Nat := vop .mul .f32 (some 1056964608) (sumT (farT za zb) n)
theorem half_cls {r : Nat} {a : Option Nat} (h : cls .f32 r = a) (w : World) : cls .f32 (fres .mul .f32 1056964608 r w) = vop .mul .f32 (some 1056964608) a := by
  rw [fres_cls, h]; exact congrArg (fun x => vop .mul .f32 x a) (show cls .f32 1056964608 = some 1056964608 by decide +kernel)
theorem fres_some {op : BinOp} {k : FloatKind} {x y r : Nat} (h : floatBits op k x y = some r) (w : World) : fres op k x y w = r := by unfold fres; rw [h]
theorem fcnt_some {op : BinOp} {k : FloatKind} {x y r : Nat} (h : floatBits op k x y = some r) : fcnt op k x y = 0 := by unfold fcnt; rw [h]; rfl
theorem size_pos {x : Nat} (h : (FloatKind.f32).format.order x 0 = some .gt) : ((FloatKind.f32).format.order x 0 == some .lt || (FloatKind.f32).format.order x 0 == some .eq) = false := by rw [h]; rfl
/-- All differences. -/
def farL (za zb : List Nat) (n : Nat) : List Nat := (List.range n).map fun k => farN (za.getD k 0) (zb.getD k 0)
theorem farL_len (za zb : List Nat) (n : Nat) : (farL za zb n).length = n := by simp [farL]
theorem farL_get (za zb : List Nat) {n k : Nat} (h : k < n) : (farL za zb n).getD k 0 = farN (za.getD k 0) (zb.getD k 0) := by
  simp [farL, List.getD_eq_getElem?_getD, h]
theorem far_sum {za zb : List Nat} {n : Nat} (h : ∀ k, k < n → cls .f32 (farN (za.getD k 0) (zb.getD k 0)) = some (farN (za.getD k 0) (zb.getD k 0))) : ∀ k, k ≤ n → Flo.vsum (farL za zb n) k = sumT (farT za zb) k := by
  intro k
  induction k with
  | zero => intro _; rfl
  | succ k ih =>
    intro hk
    show vop .add .f32 (Flo.vsum (farL za zb n) k) (cls .f32 ((farL za zb n).getD k 0)) = vop .add .f32 (sumT (farT za zb) k) (farT za zb k)
    rw [ih (by omega), farL_get za zb (show k < n by omega), h k (by omega)]; rfl
theorem store_at (P : Program) (W : World) (cs : Array Value) (T : TypeId) (b k x Q : Nat) (m : Mode) (hb : b = W.heap.size) (hk : k < cs.size) :
    (store ⟨b, k, none⟩ (.float .f32 x) m).run P ((W.alloc (.cells cs T)).drewN Q) = .ok () ((W.alloc (.cells (cs.setIfInBounds k (.float .f32 x)) T)).drewN Q) := by
  have h1 : ((W.alloc (.cells cs T)).drewN Q).cell? ⟨b, k, none⟩ = some (cs[k]'hk) := by
    show (W.alloc (.cells cs T)).cell? ⟨b, k, none⟩ = _
    rw [World.cell?_alloc_at _ _ _ _ hb]; exact Array.getElem?_eq_getElem hk
  have h2 : ((W.alloc (.cells cs T)).drewN Q).frozen? ⟨b, k, none⟩ = false := World.frozen?_alloc_at _ _ _ _ hb
  have h3 : ((W.alloc (.cells cs T)).drewN Q).setCell ⟨b, k, none⟩ (.float .f32 x) = (W.alloc (.cells (cs.setIfInBounds k (.float .f32 x)) T)).drewN Q := by
    rw [← World.setCell_alloc_at cs T b k _ hb]; rfl
  rw [run_store _ _ _ _ _ rfl, h1, h2]
  simp only [Bool.false_eq_true, if_false]
  rw [h3]
end Go.Proofs.YtkmggoagboikgaaDoor


/- Mixtures: the model's and the program's. -/
namespace Go.Proofs.YtkmggoagboikgaaDoor
open Go.Proofs.YtkmggoagboikgaaDoor.Flo Go.RowKit

/-- A number of a mixture. -/
def mixN (sh x y : Nat) : Nat := (vop .add .f32 (vop .mul .f32 (vop .sub .f32 (some one32) (cls .f32 sh)) (cls .f32 x)) (vop .mul .f32 (cls .f32 sh) (cls .f32 y))).getD 0
def mixL (sh : Nat) (za zb : List Nat) (n : Nat) : List Nat := (List.range n).map fun k => mixN sh (za.getD k 0) (zb.getD k 0)
theorem mixL_len (sh : Nat) (za zb : List Nat) (n : Nat) : (mixL sh za zb n).length = n := by simp [mixL]
theorem mixL_get (sh : Nat) (za zb : List Nat) {n k : Nat} (h : k < n) : (mixL sh za zb n).getD k 0 = mixN sh (za.getD k 0) (zb.getD k 0) := by
  simp [mixL, List.getD_eq_getElem?_getD, h]
theorem vle_some {E : Int} {a : Option Nat} (h : VLe .f32 E a) (hc : ∀ b, a = some b → cls .f32 b = some b) : ∃ b, a = some b ∧ cls .f32 b = some b := by
  obtain ⟨b, rfl, _⟩ := h
  exact ⟨b, rfl, hc b rfl⟩
theorem vop_some' {op : BinOp} {k : FloatKind} {a c : Option Nat} {b : Nat} (h : vop op k a c = some b) : cls k b = some b := by
  cases a with
  | none => cases h
  | some x => cases c with
    | none => cases h
    | some y => exact cls_of_not (floatBits_notNaN (op := op) (x := x) (y := y) h)
theorem cls_self {x : Nat} {E : Int} (h : VLe .f32 E (cls .f32 x)) : cls .f32 x = some x := by
  obtain ⟨b, hb, _⟩ := h
  obtain ⟨rfl, _⟩ := cls_some hb
  exact hb
/-- The operations of a mixture give numbers. -/
theorem mix_ops {sh x y : Nat} (hs : VLe .f32 0 (cls .f32 sh)) (hx : VLe .f32 1 (cls .f32 x)) (hy : VLe .f32 1 (cls .f32 y)) :
    ∃ p1 p2 p3, floatBits .sub .f32 1065353216 sh = some p1 ∧ floatBits .mul .f32 p1 x = some p2 ∧ floatBits .mul .f32 sh y = some p3 ∧ floatBits .add .f32 p2 p3 = some (mixN sh x y) ∧ VLe .f32 4 (cls .f32 (mixN sh x y)) := by
  have hone : VLe .f32 0 (cls .f32 one32) := by
    rw [cls_one32]
    exact ⟨_, rfl, by rw [dec_one32]; exact leN_of 23 (by decide) (by decide) (by decide)⟩
  have cs := cls_self hs
  have cx := cls_self hx
  have cy := cls_self hy
  have h1 := vsub_le hone hs (show Norm .f32 (max 0 0 + 1) from ⟨by decide, by decide⟩)
  have h2 := vmul_le h1 hx (show Norm .f32 (max 0 0 + 1 + 1) from ⟨by decide, by decide⟩)
  have h3 := vmul_le hs hy (show Norm .f32 (0 + 1) from ⟨by decide, by decide⟩)
  have h4 := vadd_le h2 h3 (show Norm .f32 (max (max 0 0 + 1 + 1) (0 + 1) + 1) from ⟨by decide, by decide⟩)
  obtain ⟨p1, e1, _⟩ := h1
  obtain ⟨p2, e2, _⟩ := h2
  obtain ⟨p3, e3, _⟩ := h3
  have h4' := h4
  obtain ⟨p4, e4, _⟩ := h4
  have hm : mixN sh x y = p4 := by
    unfold mixN
    rw [← cls_one32, e4]; rfl
  refine ⟨p1, p2, p3, ?_, ?_, ?_, ?_, ?_⟩
  · rw [cls_one32, cs] at e1; exact e1
  · rw [e1, cx] at e2; exact e2
  · rw [cs, cy] at e3; exact e3
  · rw [hm]; rw [e2, e3] at e4; exact e4
  · rw [hm, vop_some' e4]; rw [e4] at h4'; exact h4'.mono (by decide)

/-- What a row of the call's own is, as cells. -/
theorem own_row {w : World} {base : Nat} {e : TypeId} {v : Value} {n : Nat} {zs : List Nat} (h : w.ownsRow base e 1 v n (zs.map (Value.float .f32))) (hn : n ≠ 0) :
    ∃ g cap, v = .slice (some ⟨g, 0, none⟩) n cap ∧ base ≤ g ∧ g < w.heap.size ∧ FRow w (some ⟨g, 0, none⟩) n zs ∧ ∀ j, j < n → w.frozen? ⟨g, j, none⟩ = false := by
  obtain ⟨hl, h⟩ := h
  rcases h with ⟨_, h0⟩ | ⟨g, cap, cur, rfl, hg, hh, hnc, _, hcs, ht⟩
  · exact absurd h0 hn
  · have hlen : zs.length = n := by simpa using hl
    rw [Nat.mul_one] at ht hcs
    have hgl : g < w.heap.size := (Array.getElem?_eq_some_iff.1 hh).1
    have hcell : ∀ i, i < n → w.cell? ⟨g, i, none⟩ = cur[i]? := fun i hi => by
      unfold World.cell?
      rw [Array.getElem?_eq_getElem hgl] at hh
      injection hh with hh
      simp [hgl, hh]
    refine ⟨g, cap, rfl, hg, hgl, ⟨hlen, .inr ⟨g, 0, rfl, hgl, fun i hi => ?_⟩⟩, fun j hj => ?_⟩
    · rw [Nat.zero_add, hcell i hi]
      have h1 : cur[i]? = cur.toList[i]? := by simp
      rw [h1]
      have h2 : (cur.toList.take n)[i]? = cur.toList[i]? := by rw [List.getElem?_take]; simp [hi]
      rw [← h2, ht]
      rw [List.getElem?_map, List.getD_eq_getElem?_getD, List.getElem?_eq_getElem (by omega)]; rfl
    · unfold World.frozen?
      rw [Array.getElem?_eq_getElem hgl] at hh
      injection hh with hh
      simp [hgl, hh]
theorem mix_take (sh : Nat) (za zb : List Nat) {n k : Nat} (h : k < n) : ((mixL sh za zb n).take (k + 1)).map (Value.float .f32) = ((mixL sh za zb n).take k).map (Value.float .f32) ++ [.float .f32 (mixN sh (za.getD k 0) (zb.getD k 0))] := by
  have hl := mixL_len sh za zb n
  rw [List.take_succ_eq_append_getElem (by omega), List.map_append]
  have : (mixL sh za zb n)[k]'(by omega) = mixN sh (za.getD k 0) (zb.getD k 0) := by
    have := mixL_get sh za zb h
    rw [List.getD_eq_getElem?_getD, List.getElem?_eq_getElem (by omega)] at this
    exact this
  rw [← this]; rfl
theorem own_empty (w : World) (T : TypeId) : (w.alloc (.cells #[] T)).ownsRow w.heap.size T 1 (.slice (some ⟨w.heap.size, 0, none⟩) 0 0) 0 [] :=
  ⟨rfl, .inr ⟨w.heap.size, 0, #[], rfl, Nat.le_refl _, heap_alloc_new w _, Nat.le_refl _, Nat.zero_le _, rfl, rfl⟩⟩
theorem own_block {w : World} {base : Nat} {e : TypeId} {v : Value} {n : Nat} {xs : List Value} (h : w.ownsRow base e 1 v n xs) : ∀ k, v.ownBlock = some k → base ≤ k := by
  intro k hk
  rcases h.2 with ⟨rfl, _⟩ | ⟨g, cap, cur, rfl, hg, _⟩
  · cases hk
  · injection hk with hk
    subst hk; exact hg
end Go.Proofs.YtkmggoagboikgaaDoor


/- Slices of int64: rows, the laws' helpers, how one is opened. -/
namespace Go.Proofs.YtkmggoagboikgaaDoor
open Go.Proofs.YtkmggoagboikgaaDoor.Flo Go.RowKit

/-- A slice value of n numbers: the cells that it leads to hold them. -/
def IRow (w : World) (a : Option Addr) (n : Nat) (zs : List Int) : Prop :=
  zs.length = n ∧ (n = 0 ∨ ∃ b off, a = some ⟨b, off, none⟩ ∧ b < w.heap.size ∧ ∀ i, i < n → w.cell? ⟨b, off + i, none⟩ = some (.int .i64 (zs.getD i 0)))
/-- The numbers as cells. -/
def il (zs : List Int) : Array Value := (zs.map (Value.int .i64)).toArray
/-- The cells of a copy, of which k are done. -/
def mixI (zs : List Int) (k n : Nat) : Array Value := ((zs.map (Value.int .i64)).take k ++ List.replicate (n - k) (Value.int .i64 0)).toArray
theorem made_eqI (n : Nat) : madeCells #[Value.int .i64 0] n = Array.replicate n (Value.int .i64 0) := by
  apply Array.ext
  · simp [madeCells]
  · intro i h1 h2
    simp [madeCells, Nat.mod_one]
theorem mix_zeroI (zs : List Int) (n : Nat) : mixI zs 0 n = madeCells #[Value.int .i64 0] n := by
  rw [made_eqI]
  unfold mixI
  simp
theorem mix_allI (zs : List Int) (n : Nat) (h : zs.length = n) : mixI zs n n = il zs := by
  unfold mixI il
  rw [List.take_of_length_le (by simp; omega)]; simp
theorem mix_setI (zs : List Int) (k n : Nat) (hk : k < n) (h : zs.length = n) : (mixI zs k n).setIfInBounds k (.int .i64 (zs.getD k 0)) = mixI zs (k + 1) n := by
  unfold mixI
  apply Array.ext'
  have hz : zs.getD k 0 = zs[k]'(by omega) := by rw [List.getD_eq_getElem?_getD, List.getElem?_eq_getElem (by omega)]; rfl
  have hn : n - k = (n - (k + 1)) + 1 := by omega
  simp only [Array.toList_setIfInBounds]
  rw [hz, hn, List.replicate_succ, List.set_append_right _ _ (by simp; omega)]
  have hl : k - ((zs.map (Value.int .i64)).take k).length = 0 := by simp; omega
  rw [hl, List.set_cons_zero, List.take_succ_eq_append_getElem (by simp; omega)]
  simp
theorem mix_sizeI (zs : List Int) (k n : Nat) (hk : k ≤ n) (h : zs.length = n) : (mixI zs k n).size = n := by
  unfold mixI; simp; omega
/-- Where a slice's cells are, in a world with a block more. -/
theorem IRow.alloc {w : World} {a : Option Addr} {n : Nat} {zs : List Int} (h : IRow w a n zs) (o : Obj) : IRow (w.alloc o) a n zs := by
  obtain ⟨hl, h⟩ := h
  refine ⟨hl, ?_⟩
  rcases h with h | ⟨b, off, ha, hb, hc⟩
  · exact .inl h
  · refine .inr ⟨b, off, ha, by simp; omega, fun i hi => ?_⟩
    rw [World.cell?_alloc_past _ _ _ hb]; exact hc i hi
theorem IRow.new {w : World} {zs : List Int} {n : Nat} (h : zs.length = n) (e : TypeId) : IRow (w.alloc (.cells (il zs) e)) (some ⟨w.heap.size, 0, none⟩) n zs := by
  refine ⟨h, .inr ⟨w.heap.size, 0, rfl, by simp, fun i hi => ?_⟩⟩
  rw [World.cell?_alloc_at _ _ _ _ rfl]
  unfold il
  have hz : zs.getD i 0 = zs[i]'(by omega) := by rw [List.getD_eq_getElem?_getD, List.getElem?_eq_getElem (by omega)]; rfl
  rw [hz]
  simp
theorem IRow.drewN {w : World} {a : Option Addr} {n : Nat} {zs : List Int} (h : IRow w a n zs) (q : Nat) : IRow (w.drewN q) a n zs := h

theorem Tryd.info64 : (Tryd.prog.info? 2).map (fun i => (i.zero, i.size, i.bytes)) = some (some (.int .i64 0), 1, 8) := by kernel_rfl

section
open Go.ChangeShapes Go.WideShapes Go.Deep
variable {H : Type} {enc : TypeId × Value → H} {P : Program} {w : World} {base : Nat} {spare : Nat → Bool} {held : Bool}
theorem trod_i64 {t : TypeId} {fuel : Nat} {cs : List Value} {x : DataW H × List MemPlace} {k : IntKind} (ht : P.underlying t = some (.int k)) (h : DataW.trod enc P w base spare held fuel t cs = some x) : ∃ n, cs = [.int k n] ∧ x = (.lit (.int k n), []) ∧ (Lit.int k n).wf = true := by
  cases fuel with
  | zero => simp [DataW.trod] at h
  | succ n =>
    unfold DataW.trod at h
    rw [ht] at h
    split at h <;> simp_all
theorem open_irow {t e : TypeId} {fuel : Nat} {a : Option Addr} {len cap : Nat} {x : DataW H × List MemPlace} (ht : P.underlying t = some (.slice e)) (he : P.underlying e = some (.int .i64)) (hc : P.cellsOf e = 1)
    (h : DataW.trod enc P w base spare held fuel t [.slice a len cap] = some x) : ∃ zs, IRow w a len zs := by
  rcases open_slice1 ht hc h with ⟨hcs, _⟩ | ⟨y, l, c, m, n, V, D, Pl, hcs, _, hl, hm, hmm, _, hx⟩
  · simp at hcs
    obtain ⟨rfl, rfl, rfl⟩ := hcs
    exact ⟨[], rfl, .inl rfl⟩
  · simp at hcs
    obtain ⟨rfl, rfl, rfl⟩ := hcs
    have hlm : len ≤ m := by rw [hmm]; split <;> omega
    have key : ∀ i, ∃ z : Int, i < len → w.cell? (y.add i) = some (.int .i64 z) := fun i => by
      by_cases hi : i < len
      · obtain ⟨hcell, htr⟩ := hx i (by omega)
        obtain ⟨z, hz, _⟩ := trod_i64 he htr
        exact ⟨z, fun _ => by rw [hcell]; simp at hz; rw [hz]⟩
      · exact ⟨0, fun h => absurd h hi⟩
    have key2 : ∃ f : Nat → Int, ∀ i, i < len → w.cell? (y.add i) = some (.int .i64 (f i)) := ⟨fun i => (key i).choose, fun i => (key i).choose_spec⟩
    obtain ⟨f, hf⟩ := key2
    by_cases h0 : len = 0
    · exact ⟨[], by simp [h0], .inl h0⟩
    have h00 : w.cell? y = some (.int .i64 (f 0)) := hf 0 (by omega)
    have hs : y.spot = none := by
      unfold World.cell? at h00
      split at h00
      · split at h00
        · cases h00
        · rename_i hn; cases hy : y.spot with
          | none => rfl
          | some s => rw [hy] at hn; simp at hn
      · cases h00
    have hb : y.block < w.heap.size := by
      unfold World.cell? at h00
      split at h00
      · rename_i hh; exact (Array.getElem?_eq_some_iff.1 hh).1
      · cases h00
    obtain ⟨b, off, spot⟩ := y
    simp at hs
    subst hs
    refine ⟨(List.range len).map f, by simp, .inr ⟨b, off, rfl, hb, fun i hi => ?_⟩⟩
    have := hf i hi
    rw [show (⟨b, off, none⟩ : Addr).add i = ⟨b, off + i, none⟩ by unfold Addr.add; split <;> simp_all] at this
    rw [this]
    simp [List.getD_eq_getElem?_getD, hi]
end
end Go.Proofs.YtkmggoagboikgaaDoor


/- What is the call's own: rows and structs in blocks of their own; marks, and what holds them. -/
namespace Go.Proofs.YtkmggoagboikgaaDoor
open Go.Proofs.YtkmggoagboikgaaDoor.Flo Go.RowKit

theorem FRow.nil (w : World) : FRow w none 0 [] := ⟨rfl, .inl rfl⟩
theorem IRow.nil (w : World) : IRow w none 0 [] := ⟨rfl, .inl rfl⟩
theorem IRow.below {w w' : World} {a : Option Addr} {n : Nat} {zs : List Int} (h : IRow w a n zs) (hb : Below w.heap.size w w') : IRow w' a n zs := by
  obtain ⟨hl, h⟩ := h
  refine ⟨hl, ?_⟩
  rcases h with h | ⟨b, off, ha, hk, hc⟩
  · exact .inl h
  · exact .inr ⟨b, off, ha, Nat.lt_of_lt_of_le hk hb.size, fun i hi => by rw [hb.cell (p := ⟨b, off + i, none⟩) hk]; exact hc i hi⟩
/-- What a block holds. -/
inductive Ent
  | fl (n : Nat) (zs : List Nat)
  | il (n : Nat) (zs : List Int)
  | vs (l : List Value)
  | cl (n : Nat) (V : Nat → Option Nat)
  | gv (n : Nat) (f : Nat → Value)
def Ent.n : Ent → Nat
  | .fl n _ => n
  | .il n _ => n
  | .vs l => l.length
  | .cl n _ => n
  | .gv n _ => n
/-- The cells of a block. -/
def Ent.cell : Ent → Nat → Value
  | .fl _ zs, i => .float .f32 (zs.getD i 0)
  | .il _ zs, i => .int .i64 (zs.getD i 0)
  | .vs l, i => l.getD i (Value.bool false)
  | .cl _ _, _ => Value.bool false
  | .gv _ f, i => f i
def Ent.len : Ent → Prop
  | .fl n zs => zs.length = n
  | .il n zs => zs.length = n
  | .vs _ => True
  | .cl _ _ => True
  | .gv _ _ => True
def Ent.ok0 (w : World) (p : Nat) (e : Ent) : Prop := e.len ∧ ∀ i, i < e.n → w.cell? ⟨p, i, none⟩ = some (e.cell i) ∧ w.frozen? ⟨p, i, none⟩ = false
theorem Ent.ok0.same {w w' : World} {p : Nat} {e : Ent} (h : e.ok0 w p) (hc : ∀ i, w'.cell? ⟨p, i, none⟩ = w.cell? ⟨p, i, none⟩ ∧ w'.frozen? ⟨p, i, none⟩ = w.frozen? ⟨p, i, none⟩) : e.ok0 w' p :=
  ⟨h.1, fun i hi => by rw [(hc i).1, (hc i).2]; exact h.2 i hi⟩
/-- What an entry says; one of classes alone tells its numbers up to which not-a-number. -/
def Ent.ok (w : World) (p : Nat) : Ent → Prop
  | .cl n V => ∃ zs : List Nat, (∀ i, i < n → cls .f32 (zs.getD i 0) = V i) ∧ Ent.ok0 w p (.fl n zs)
  | .fl n zs => Ent.ok0 w p (.fl n zs)
  | .il n zs => Ent.ok0 w p (.il n zs)
  | .vs l => Ent.ok0 w p (.vs l)
  | .gv n f => Ent.ok0 w p (.gv n f)
theorem Ent.ok.same {w w' : World} {p : Nat} {e : Ent} (h : e.ok w p) (hc : ∀ i, w'.cell? ⟨p, i, none⟩ = w.cell? ⟨p, i, none⟩ ∧ w'.frozen? ⟨p, i, none⟩ = w.frozen? ⟨p, i, none⟩) : e.ok w' p := by
  cases e with
  | cl n V => obtain ⟨zs, h1, h2⟩ := h; exact ⟨zs, h1, h2.same hc⟩
  | fl n zs => exact Ent.ok0.same h hc
  | il n zs => exact Ent.ok0.same h hc
  | vs l => exact Ent.ok0.same h hc
  | gv n f => exact Ent.ok0.same h hc
theorem Ent.ok.below {w w' : World} {p : Nat} {e : Ent} (h : e.ok w p) (hp : p < w.heap.size) (hb : Below w.heap.size w w') : e.ok w' p :=
  h.same fun i => ⟨hb.cell (p := ⟨p, i, none⟩) hp, hb.frozen (p := ⟨p, i, none⟩) hp⟩
/-- What has been made since the world w0. -/
def Mine (w0 w : World) (L : List (Nat × Ent)) : Prop :=
  Below w0.heap.size w0 w ∧ (∀ r ∈ L, w0.heap.size ≤ r.1 ∧ r.1 < w.heap.size ∧ r.2.ok w r.1) ∧ (L.map (·.1)).Nodup
theorem Mine.nil (w : World) : Mine w w [] := ⟨Below.refl _ _, (by intro r hr; cases hr), List.nodup_nil⟩
theorem Mine.out {w0 w : World} {L : List (Nat × Ent)} (h : Mine w0 w L) : Below w0.heap.size w0 w := h.1
theorem Mine.below {w0 w w' : World} {L : List (Nat × Ent)} (h : Mine w0 w L) (hb : Below w.heap.size w w') : Mine w0 w' L := by
  refine ⟨Below.next h.1 hb, fun r hr => ?_, h.2.2⟩
  obtain ⟨h1, h2, h3⟩ := h.2.1 r hr
  exact ⟨h1, Nat.lt_of_lt_of_le h2 hb.size, h3.below h2 hb⟩
theorem Mine.drewN {w0 w : World} {L : List (Nat × Ent)} (h : Mine w0 w L) (q : Nat) : Mine w0 (w.drewN q) L := h.below (Below.drewN' (Below.refl _ _) q)
theorem Mine.drew {w0 w : World} {L : List (Nat × Ent)} (h : Mine w0 w L) : Mine w0 w.drew L := by rw [World.drew_is_drewN]; exact h.drewN 1
theorem Mine.push {w0 w w' : World} {L : List (Nat × Ent)} {p : Nat} {e : Ent} (h : Mine w0 w L) (hb : Below w.heap.size w w') (hp : w.heap.size ≤ p) (hp2 : p < w'.heap.size) (he : e.ok w' p) : Mine w0 w' ((p, e) :: L) := by
  have h' := h.below hb
  refine ⟨h'.1, fun r hm => ?_, ?_⟩
  · cases hm with
    | head => exact ⟨Nat.le_trans h.1.size hp, hp2, he⟩
    | tail _ hm => exact h'.2.1 r hm
  · rw [List.map_cons, List.nodup_cons]
    refine ⟨fun hm => ?_, h.2.2⟩
    obtain ⟨r, hr1, hr2⟩ := List.mem_map.1 hm
    have := (h.2.1 r hr1).2.1
    have hr2 : r.1 = p := hr2
    omega
/-- A new block of a callee's. -/
def New (w w' : World) (g : Nat) (e : Ent) : Prop := w.heap.size ≤ g ∧ g < w'.heap.size ∧ e.ok w' g ∧ Below w.heap.size w w'
theorem Mine.add {w0 w w' : World} {L : List (Nat × Ent)} {g : Nat} {e : Ent} (h : Mine w0 w L) (n : New w w' g e) : Mine w0 w' ((g, e) :: L) := h.push n.2.2.2 n.1 n.2.1 n.2.2.1
theorem Ent.vs_new (w : World) (l : List Value) (T : TypeId) : (Ent.vs l).ok (w.alloc (.cells l.toArray T)) w.heap.size := by
  refine ⟨trivial, fun i hi => ⟨?_, World.frozen?_alloc_at _ _ _ _ rfl⟩⟩
  rw [World.cell?_alloc_at _ _ _ _ rfl]
  have hi : i < l.length := hi
  show l.toArray[i]? = some (l.getD i (.bool false))
  rw [List.getD_eq_getElem?_getD, List.getElem?_eq_getElem hi]; simp [hi]
theorem Mine.alloc3 {w0 w : World} {L : List (Nat × Ent)} (h : Mine w0 w L) (x y z : Value) (T : TypeId) : Mine w0 (w.alloc (.cells #[x, y, z] T)) ((w.heap.size, .vs [x, y, z]) :: L) :=
  h.push (below_alloc' w _) (Nat.le_refl _) (by simp) (Ent.vs_new w [x, y, z] T)
  where below_alloc' (w : World) (o : Obj) : Below w.heap.size w (w.alloc o) := (Below.refl _ _).alloc (Nat.le_refl _) o
theorem Mine.keep {w0 W : World} {L : List (Nat × Ent)} {P : Program} {f : FuncId} {args : Array Value} {Q : Ending → World → Prop} (h : Mine w0 W L) (c : Calls P f args W Q) : Calls P f args W (fun e w' => Q e w' ∧ Mine w0 W L) :=
  c.mono fun _ _ q => ⟨q, h⟩
theorem Mine.frow {w0 w : World} {L : List (Nat × Ent)} {p n : Nat} {zs : List Nat} (h : Mine w0 w L) (hm : (p, Ent.fl n zs) ∈ L) : FRow w (some ⟨p, 0, none⟩) n zs := by
  obtain ⟨_, h2, h3, h4⟩ := h.2.1 _ hm
  exact ⟨h3, .inr ⟨p, 0, rfl, h2, fun i hi => by rw [Nat.zero_add]; exact (h4 i hi).1⟩⟩
theorem Mine.crow {w0 w : World} {L : List (Nat × Ent)} {p n : Nat} {V : Nat → Option Nat} (h : Mine w0 w L) (hm : (p, Ent.cl n V) ∈ L) : ∃ zs, FRow w (some ⟨p, 0, none⟩) n zs ∧ ∀ i, i < n → cls .f32 (zs.getD i 0) = V i := by
  obtain ⟨_, h2, zs, hv, h3, h4⟩ := h.2.1 _ hm
  exact ⟨zs, ⟨h3, .inr ⟨p, 0, rfl, h2, fun i hi => by rw [Nat.zero_add]; exact (h4 i hi).1⟩⟩, hv⟩
theorem Mine.irow {w0 w : World} {L : List (Nat × Ent)} {p n : Nat} {zs : List Int} (h : Mine w0 w L) (hm : (p, Ent.il n zs) ∈ L) : IRow w (some ⟨p, 0, none⟩) n zs := by
  obtain ⟨_, h2, h3, h4⟩ := h.2.1 _ hm
  exact ⟨h3, .inr ⟨p, 0, rfl, h2, fun i hi => by rw [Nat.zero_add]; exact (h4 i hi).1⟩⟩
theorem Mine.three {w0 w : World} {L : List (Nat × Ent)} {p : Nat} {x y z : Value} (h : Mine w0 w L) (hm : (p, Ent.vs [x, y, z]) ∈ L) : w.cell? ⟨p, 0, none⟩ = some x ∧ w.cell? ⟨p, 1, none⟩ = some y ∧ w.cell? ⟨p, 2, none⟩ = some z := by
  obtain ⟨_, _, _, h4⟩ := h.2.1 _ hm
  exact ⟨(h4 0 (by decide : (0 : Nat) < 3)).1, (h4 1 (by decide : (1 : Nat) < 3)).1, (h4 2 (by decide : (2 : Nat) < 3)).1⟩
/-- The cells of the structs, here and behind one block more. -/
def Facts (w : World) : List (Nat × Ent) → Prop
  | [] => True
  | (p, .vs [x, y, z]) :: L => (w.cell? ⟨p, 0, none⟩ = some x ∧ w.cell? ⟨p, 1, none⟩ = some y ∧ w.cell? ⟨p, 2, none⟩ = some z ∧ (∀ o, (w.alloc o).cell? ⟨p, 0, none⟩ = some x) ∧ (∀ o, (w.alloc o).cell? ⟨p, 1, none⟩ = some y) ∧ (∀ o, (w.alloc o).cell? ⟨p, 2, none⟩ = some z)) ∧ Facts w L
  | (_, .vs _) :: L => Facts w L
  | (_, .fl _ _) :: L => Facts w L
  | (_, .il _ _) :: L => Facts w L
  | (_, .cl _ _) :: L => Facts w L
  | (_, .gv _ _) :: L => Facts w L
theorem facts_of {w : World} : ∀ {L : List (Nat × Ent)}, (∀ r ∈ L, r.1 < w.heap.size ∧ r.2.ok w r.1) → Facts w L
  | [], _ => trivial
  | (p, e) :: L, h => by
    have ih := facts_of (fun r hr => h r (.tail _ hr))
    have h0 := h (p, e) (.head _)
    cases e with
    | fl n zs => exact ih
    | il n zs => exact ih
    | cl n V => exact ih
    | gv n f => exact ih
    | vs l =>
      match l with
      | [x, y, z] =>
        obtain ⟨hp, _, h4⟩ := h0
        have k0 := (h4 0 (by decide : (0 : Nat) < 3)).1
        have k1 := (h4 1 (by decide : (1 : Nat) < 3)).1
        have k2 := (h4 2 (by decide : (2 : Nat) < 3)).1
        exact ⟨⟨k0, k1, k2, fun o => (World.cell?_alloc_past _ _ _ hp).trans k0, fun o => (World.cell?_alloc_past _ _ _ hp).trans k1, fun o => (World.cell?_alloc_past _ _ _ hp).trans k2⟩, ih⟩
      | [] => exact ih
      | [_] => exact ih
      | [_, _] => exact ih
      | _ :: _ :: _ :: _ :: _ => exact ih
theorem Mine.facts {w0 w : World} {L : List (Nat × Ent)} (h : Mine w0 w L) : Facts w L := facts_of fun r hr => (h.2.1 r hr).2
theorem Ent.fl_ok {w : World} {p n : Nat} {zs : List Nat} (h : FRow w (some ⟨p, 0, none⟩) n zs) (hf : ∀ j, j < n → w.frozen? ⟨p, j, none⟩ = false) : (Ent.fl n zs).ok w p := by
  refine ⟨h.1, fun i hi => ⟨?_, hf i hi⟩⟩
  rcases h.2 with h0 | ⟨b, off, e, _, hc⟩
  · have hi : i < n := hi
    omega
  · injection e with e
    injection e with e1 e2
    subst e1; subst e2
    have := hc i hi
    rw [Nat.zero_add] at this
    exact this
theorem Ent.il_ok {w : World} {p n : Nat} {zs : List Int} (h : IRow w (some ⟨p, 0, none⟩) n zs) (hf : ∀ j, j < n → w.frozen? ⟨p, j, none⟩ = false) : (Ent.il n zs).ok w p := by
  refine ⟨h.1, fun i hi => ⟨?_, hf i hi⟩⟩
  rcases h.2 with h0 | ⟨b, off, e, _, hc⟩
  · have hi : i < n := hi
    omega
  · injection e with e
    injection e with e1 e2
    subst e1; subst e2
    have := hc i hi
    rw [Nat.zero_add] at this
    exact this

theorem ret_i {a b : Int} (h : a = b) : Ending.returned (.int .i64 a) = .returned (.int .i64 b) := by rw [h]
/-- The marks from k0 on. -/
def marks (k0 : Int) (n : Nat) : List Nat := (List.range n).map fun (i : Nat) => floatOfInt .f32 (k0 + (i : Int))
theorem marks_len (k0 : Int) (n : Nat) : (marks k0 n).length = n := by simp [marks]
theorem marks_get (k0 : Int) {n k : Nat} (h : k < n) : (marks k0 n).getD k 0 = floatOfInt .f32 (k0 + (k : Int)) := by
  simp [marks, List.getD_eq_getElem?_getD, h]
def marksI (k0 : Int) (n : Nat) : List Int := (List.range n).map fun (i : Nat) => k0 + (i : Int)
theorem marksI_len (k0 : Int) (n : Nat) : (marksI k0 n).length = n := by simp [marksI]
theorem marksI_get (k0 : Int) {n k : Nat} (h : k < n) : (marksI k0 n).getD k 0 = k0 + (k : Int) := by
  simp [marksI, List.getD_eq_getElem?_getD, h]
/-- A block of which k cells are those of another one. -/
def PM (w : World) (p : Nat) (old new : Ent) (k : Nat) (wr : World) : Prop :=
  wr.heap.size = w.heap.size ∧ (∀ a : Addr, a.block ≠ p → wr.cell? a = w.cell? a ∧ wr.frozen? a = w.frozen? a) ∧
  (∀ j, j < old.n → wr.cell? ⟨p, j, none⟩ = some (if j < k then new.cell j else old.cell j) ∧ wr.frozen? ⟨p, j, none⟩ = false) ∧ ∀ B, B ≤ p → Below B w wr
theorem PM.start {w : World} {p : Nat} {old : Ent} (new : Ent) (h : old.ok0 w p) : PM w p old new 0 w :=
  ⟨rfl, fun a _ => ⟨rfl, rfl⟩, fun j hj => ⟨by rw [if_neg (by omega)]; exact (h.2 j hj).1, (h.2 j hj).2⟩, fun B _ => Below.refl _ _⟩
theorem PM.step {w wr : World} {p k : Nat} {old new : Ent} (h : PM w p old new k wr) (hk : k < old.n) (z : Value) (hz : z = new.cell k) : PM w p old new (k + 1) (wr.setCell ⟨p, k, none⟩ z) := by
  obtain ⟨h1, h2, h3, h4⟩ := h
  refine ⟨by rw [World.size_setCell]; exact h1, fun a ha => ⟨?_, ?_⟩, fun j hj => ⟨?_, ?_⟩, fun B hB => (h4 B hB).setCell hB _⟩
  · rw [World.cell?_setCell_other (h := fun e => ha (by rw [← e]))]; exact (h2 a ha).1
  · rw [World.frozen?_setCell]; exact (h2 a ha).2
  · by_cases e : j = k
    · subst e
      rw [World.cell?_setCell_same (h := (h3 j hj).1), if_pos (by omega), hz]
    · rw [World.cell?_setCell_other (h := fun e2 => e (by injection e2 with _ e3 _; exact e3.symm)), (h3 j hj).1]
      by_cases hjk : j < k
      · rw [if_pos hjk, if_pos (by omega)]
      · rw [if_neg hjk, if_neg (by omega)]
  · rw [World.frozen?_setCell]; exact (h3 j hj).2
/-- A marked row among others. -/
theorem Mine.mark {w0 w wr : World} {L : List (Nat × Ent)} {i p n : Nat} {e old new : Ent} (h : Mine w0 w L) (hi : L[i]? = some (p, e)) (hn : old.n = n) (hn2 : new.n = n) (hl : new.len) (hk : ∀ w p, new.ok0 w p → new.ok w p) (hm : PM w p old new n wr) : Mine w0 wr (L.set i (p, new)) := by
  have hmem : (p, e) ∈ L := List.mem_of_getElem? hi
  obtain ⟨hb1, hb2, _⟩ := h.2.1 _ hmem
  have hb1 : w0.heap.size ≤ p := hb1
  have hb2 : p < w.heap.size := hb2
  obtain ⟨hs, ho, hc, hB⟩ := hm
  have hnew : new.ok wr p := hk _ _ ⟨hl, fun j hj => by have := hc j (by omega); rw [if_pos (by omega)] at this; exact this⟩
  have hil : i < L.length := (List.getElem?_eq_some_iff.1 hi).1
  have hie : L[i] = (p, e) := (List.getElem?_eq_some_iff.1 hi).2
  refine ⟨h.1.trans (hB _ hb1), fun r hr => ?_, ?_⟩
  · obtain ⟨j, hj, hje⟩ := List.getElem_of_mem hr
    rw [List.length_set] at hj
    by_cases e : j = i
    · subst e
      rw [List.getElem_set_self] at hje
      subst hje
      exact ⟨hb1, by rw [hs]; exact hb2, hnew⟩
    · rw [List.getElem_set_ne (fun e2 => e e2.symm)] at hje
      have hrm : r ∈ L := by rw [← hje]; exact List.getElem_mem _
      obtain ⟨c1, c2, c3⟩ := h.2.1 r hrm
      have hne : r.1 ≠ p := by
        intro e2
        have hnd := h.2.2
        have a1 : (L.map (·.1))[j]'(by simpa using hj) = r.1 := by simp [hje]
        have a2 : (L.map (·.1))[i]'(by simpa using hil) = p := by simp [hie]
        have hpw := List.pairwise_iff_getElem.1 hnd
        rcases Nat.lt_trichotomy j i with hl | hl | hl
        · exact hpw j i (by simpa using hj) (by simpa using hil) hl (by rw [a1, a2]; exact e2)
        · exact e hl
        · exact hpw i j (by simpa using hil) (by simpa using hj) hl (by rw [a1, a2]; exact e2.symm)
      exact ⟨c1, by rw [hs]; exact c2, c3.same fun q => ho ⟨r.1, q, none⟩ hne⟩
  · have : (L.set i (p, new)).map (·.1) = L.map (·.1) := by
      rw [List.map_set]
      have : p = (L.map (·.1))[i]'(by simpa using hil) := by simp [hie]
      show (L.map (·.1)).set i p = _
      rw [this, List.set_getElem_self]
    rw [this]; exact h.2.2
theorem toM (a : Option Addr) (n cap : Nat) (zs : List Nat) (w w0 : World) (L : List (Nat × Ent)) (h : Mine w0 w L) (ha : FRow w0 a n zs) (hn : n ≤ 1048576) :
    Calls Tryd.prog 6 #[.slice a n cap] w fun e w' => ∃ p, e = .returned (.slice (some ⟨p, 0, none⟩) n n) ∧ Mine w0 w' ((p, .fl n zs) :: L) := by
  refine (toF a n cap zs w (ha.below h.1) hn).mono ?_
  rintro e w' ⟨he, rfl⟩
  have hb : Below w.heap.size w (w.alloc (.cells (fl zs) 33)) := (Below.refl _ _).alloc (Nat.le_refl _) _
  exact ⟨_, he, h.push hb (Nat.le_refl _) (by simp) (Ent.fl_ok (FRow.new ha.1 _) (fun j _ => World.frozen?_alloc_at _ _ _ _ rfl))⟩
theorem eqM (p q n cap capb : Nat) (zs : List Nat) (w w0 : World) (L : List (Nat × Ent)) (h : Mine w0 w L) (ha : (p, .fl n zs) ∈ L) (hb : (q, .fl n zs) ∈ L) (hn : n ≤ 1048576) :
    Calls Tryd.prog 8 #[.slice (some ⟨p, 0, none⟩) n cap, .slice (some ⟨q, 0, none⟩) n capb] w fun e w' => e = .returned (.bool true) ∧ Mine w0 w' L := by
  refine (eqF _ _ n cap capb zs w (h.frow ha) (h.frow hb) hn).mono ?_
  rintro e w' ⟨he, d⟩
  exact ⟨he, h.below d.below⟩
theorem eqMC (p q n cap capb : Nat) (V : Nat → Option Nat) (w w0 : World) (L : List (Nat × Ent)) (h : Mine w0 w L) (ha : (p, .cl n V) ∈ L) (hb : (q, .cl n V) ∈ L) (hn : n ≤ 1048576) :
    Calls Tryd.prog 8 #[.slice (some ⟨p, 0, none⟩) n cap, .slice (some ⟨q, 0, none⟩) n capb] w fun e w' => e = .returned (.bool true) ∧ Mine w0 w' L := by
  obtain ⟨za, ha1, ha2⟩ := h.crow ha
  obtain ⟨zb, hb1, hb2⟩ := h.crow hb
  refine (eqC _ _ n cap capb za zb w ha1 hb1 hn (fun k hk => (ha2 k hk).trans (hb2 k hk).symm)).mono ?_
  rintro e w' ⟨he, d⟩
  exact ⟨he, h.below d.below⟩
theorem eqM0 (w w0 : World) (L : List (Nat × Ent)) (h : Mine w0 w L) :
    Calls Tryd.prog 8 #[.slice none 0 0, .slice none 0 0] w fun e w' => e = .returned (.bool true) ∧ Mine w0 w' L := by
  refine (eqF none none 0 0 0 [] w (FRow.nil _) (FRow.nil _) (Nat.zero_le _)).mono ?_
  rintro e w' ⟨he, d⟩
  exact ⟨he, h.below d.below⟩
set_option maxHeartbeats 2000000 in
theorem markM0 (p n cap : Nat) (e : Ent) (zs : List Nat) (k0 : Int) (w w0 : World) (L : List (Nat × Ent)) (i : Nat) (h : Mine w0 w L) (hi : L[i]? = some (p, e)) (ho : (Ent.fl n zs).ok0 w p) (hn : n ≤ 1048576) (hk0 : 0 ≤ k0 ∧ k0 ≤ 4194304) :
    Calls Tryd.prog 11 #[.slice (some ⟨p, 0, none⟩) n cap, .int .i64 k0] w fun e w' => e = .returned (.int .i64 (k0 + (n : Int))) ∧ Mine w0 w' (L.set i (p, .fl n (marks k0 n))) := by
  have HS := Lib.hid h
  have HI := Lib.hid hi
  have HP := Lib.hid (PM.start (.fl n (marks k0 n)) ho)
  obtain ⟨hk1, hk2⟩ := hk0
  clear h hi ho
  go_enter Tryd.func11, Tryd.ntmps11
  go_wp2
  go_loopw [1, 5] (fun kv iv w' => ∃ (k : Nat) (wr : World), k ≤ n ∧ kv = .int .i64 (k0 + (k : Int)) ∧ iv = .int .i64 k ∧ wr = w' ∧ Hid (PM w p (.fl n zs) (.fl n (marks k0 n)) k wr)) (fun _ iv _ => n - (intOf iv).toNat)
  case atStart => exact ⟨0, _, by omega, by simp, rfl, rfl, HP⟩
  case round =>
    obtain ⟨k, wr, hk, rfl, rfl, rfl, HM⟩ := hrel
    by_cases hlt : k < n
    · have hck := (HM.out.2.2.1 k hlt).1
      have hfz := (HM.out.2.2.1 k hlt).2
      have HN := Lib.hid (HM.out.step hlt (.float .f32 (floatOfInt .f32 (k0 + (k : Int)))) (by show _ = Value.float .f32 ((marks k0 n).getD k 0); rw [marks_get _ hlt]))
      have hst : ∀ (a : Addr) (m : Mode) (x : Nat) (w : World), (store a (.float .f32 x) m).run Tryd.prog w = stored Tryd.prog w a (.float .f32 x) m := fun a m x w => run_store Tryd.prog w a (.float .f32 x) m rfl
      generalize (if k < k then (Ent.fl n (marks k0 n)).cell k else (Ent.fl n zs).cell k) = old at hck
      go_wp2
      all_goals
        exact ⟨⟨k + 1, _, by omega, by first | rfl | go_num | (congr 1), by first | rfl | go_num | (congr 1), rfl, HN⟩, by show n - ((k : Int) + 1).toNat < n - (k : Int).toNat; omega⟩
    · obtain rfl : k = n := by omega
      have HR := Lib.hid (HS.out.mark (old := .fl k zs) (new := .fl k (marks k0 k)) HI.out rfl rfl (marks_len _ _) (fun _ _ h => h) HM.out)
      go_wp2
      go_ret
      exact ⟨ret_i rfl, HR.out⟩
theorem markM (p n cap : Nat) (zs : List Nat) (k0 : Int) (w w0 : World) (L : List (Nat × Ent)) (i : Nat) (h : Mine w0 w L) (hi : L[i]? = some (p, .fl n zs)) (hn : n ≤ 1048576) (hk0 : 0 ≤ k0 ∧ k0 ≤ 4194304) :
    Calls Tryd.prog 11 #[.slice (some ⟨p, 0, none⟩) n cap, .int .i64 k0] w fun e w' => e = .returned (.int .i64 (k0 + (n : Int))) ∧ Mine w0 w' (L.set i (p, .fl n (marks k0 n))) :=
  markM0 p n cap _ zs k0 w w0 L i h hi (h.2.1 _ (List.mem_of_getElem? hi)).2.2 hn hk0
theorem markMC (p n cap : Nat) (V : Nat → Option Nat) (k0 : Int) (w w0 : World) (L : List (Nat × Ent)) (i : Nat) (h : Mine w0 w L) (hi : L[i]? = some (p, .cl n V)) (hn : n ≤ 1048576) (hk0 : 0 ≤ k0 ∧ k0 ≤ 4194304) :
    Calls Tryd.prog 11 #[.slice (some ⟨p, 0, none⟩) n cap, .int .i64 k0] w fun e w' => e = .returned (.int .i64 (k0 + (n : Int))) ∧ Mine w0 w' (L.set i (p, .fl n (marks k0 n))) := by
  obtain ⟨_, _, zs, _, ho⟩ := h.2.1 _ (List.mem_of_getElem? hi)
  exact markM0 p n cap _ zs k0 w w0 L i h hi ho hn hk0
theorem markNil (k0 : Int) (w : World) : Calls Tryd.prog 11 #[.slice none 0 0, .int .i64 k0] w fun e w' => e = .returned (.int .i64 k0) ∧ w = w' := by
  go_enter Tryd.func11, Tryd.ntmps11
  go_wp2
  refine wp_loop_rounds 1 ?_
  rw [rounds_succ]
  go_wp2
  go_ret
  exact ⟨rfl, rfl⟩
set_option maxHeartbeats 2000000 in
theorem heldM (p n cap : Nat) (k0 : Int) (w w0 : World) (L : List (Nat × Ent)) (h : Mine w0 w L) (hm : (p, .fl n (marks k0 n)) ∈ L) (hn : n ≤ 1048576) (hk0 : 0 ≤ k0 ∧ k0 ≤ 4194304) :
    Calls Tryd.prog 12 #[.slice (some ⟨p, 0, none⟩) n cap, .int .i64 k0] w fun e w' => e = .returned (.int .i64 (k0 + (n : Int))) ∧ Mine w0 w' L := by
  have HR := Lib.hid (h.frow hm)
  have HS := Lib.hid h
  obtain ⟨hk1, hk2⟩ := hk0
  clear h hm
  go_enter Tryd.func12, Tryd.ntmps12
  go_wp2
  go_loopw [1, 5] (fun kv iv w' => ∃ k q : Nat, k ≤ n ∧ kv = .int .i64 (k0 + (k : Int)) ∧ iv = .int .i64 k ∧ w' = w.drewN q) (fun _ iv _ => n - (intOf iv).toNat)
  case atStart => exact ⟨0, 0, by omega, by simp, rfl, rfl⟩
  case round =>
    obtain ⟨k, q, hk, rfl, rfl, rfl⟩ := hrel
    by_cases hlt : k < n
    · have hck : w.cell? ⟨p, k, none⟩ = some (.float .f32 (floatOfInt .f32 (k0 + (k : Int)))) := by
        rcases HR.out.2 with h0 | ⟨b, off, e, _, hc⟩
        · omega
        · injection e with e
          injection e with e1 e2
          subst e1; subst e2
          have := hc k hlt
          rw [Nat.zero_add, marks_get _ hlt] at this
          exact this
      have ho : (FloatKind.f32).format.order (floatOfInt .f32 (k0 + (k : Int))) (floatOfInt .f32 (k0 + (k : Int))) = some .eq := order_self (write_notNaN _ (.number _ _ 0) rfl)
      go_wp2
      all_goals
        exact ⟨⟨k + 1, _, by omega, by first | rfl | go_num | (congr 1), by first | rfl | go_num | (congr 1), rfl⟩, by show n - ((k : Int) + 1).toNat < n - (k : Int).toNat; omega⟩
    · obtain rfl : k = n := by omega
      go_wp2
      go_ret
      exact ⟨ret_i rfl, HS.out.drewN _⟩
theorem heldNil (k0 : Int) (w : World) : Calls Tryd.prog 12 #[.slice none 0 0, .int .i64 k0] w fun e w' => e = .returned (.int .i64 k0) ∧ w = w' := by
  go_enter Tryd.func12, Tryd.ntmps12
  go_wp2
  refine wp_loop_rounds 1 ?_
  rw [rounds_succ]
  go_wp2
  go_ret
  exact ⟨rfl, rfl⟩
end Go.Proofs.YtkmggoagboikgaaDoor
