
/- NumbersText: the functions. -/
import Derived.Test.YtkmggoagboikgaaDoorHxp
import Derived.Test.YtkmggoagboikgaaDoorCtx
import Derived.Test.YtkmggoagboikgaaDoorRep
import Derived.Test.YtkmggoagboikgaaDoorFla
import Derived.Deep.Onto
import Derived.Lib.FrozenHead2
set_option linter.unusedVariables false
set_option linter.unusedSimpArgs false
namespace Go.Proofs.YtkmggoagboikgaaDoor
open Go.Proofs.YtkmggoagboikgaaDoor.Flo Go.RowKit Go.Shelf Go.Proofs.YtkmggoagboikgaaDoor.Pr Go.Proofs.YtkmggoagboikgaaDoor.Dcn
attribute [local go_sem] Oper.semAt_some

theorem infoTH : (Tryd.prog.info? 9).map (fun i => (i.zero, i.size, i.bytes)) = some (some (.string ⟨#[]⟩), 1, 16) := by kernel_rfl
def WfH (zs : List Nat) (n : Nat) : Prop := ∀ k, k < n → zs.getD k 0 < 2 ^ 32
def hx8 (z : Nat) : List UInt8 := hxL (bitsF z) 8
theorem hx8_len (z : Nat) : (hx8 z).length = 8 := hxL_len _ 8
def ntx (zs : List Nat) : List UInt8 := ctx (zs.map hx8)
def ntA (zs : List Nat) (n : Nat) : Value := if n ≤ 256 then .tuple #[.string (txB (ntx zs)), .bool true] else .tuple #[.string ⟨#[]⟩, .bool false]
theorem ntA_long {zs : List Nat} {n : Nat} (h : ¬ n ≤ 256) : ntA zs n = .tuple #[.string ⟨#[]⟩, .bool false] := if_neg h
theorem ntA_yes {zs : List Nat} {n : Nat} (h : n ≤ 256) : ntA zs n = .tuple #[.string (txB (ntx zs)), .bool true] := if_pos h
theorem hx8_in (zs : List Nat) : ∀ l ∈ zs.map hx8, l.length ≤ 1000 := by
  intro l hm
  obtain ⟨z, hz, rfl⟩ := List.mem_map.1 hm
  rw [hx8_len]; omega
theorem fi16 (n K : Nat) (w0 w : World) (hp : Db w0) (hb : Below w0.heap.size w0 w) (hs : Siz16 n K) (hK : K ≤ 8) (hn : n < 4294967296) :
    Calls Tryd.prog 22 #[.int .i64 (n : Int), .int .i64 16] w fun e w' => e = .returned (.string (txB (hxL n K))) ∧ Below w.heap.size w w' := by
  have HF := Lib.hid (fmb16 n K w0 w hp hb hs (by omega) (by omega))
  have hwn : IntKind.u64.wrap (n : Int) = (n : Int) := by rw [IntKind.wrap_u64]; omega
  have hd0 : decide ((n : Int) < 0) = false := decide_eq_false (by omega)
  clear hb hs
  have HI : Hid (Calls Tryd.prog 33 #[.int .i64 (n : Int), .int .i64 16] w fun e w' => e = .returned (.string (txB (hxL n K))) ∧ Below w.heap.size w w') := Lib.hid (by
    go_enter Tryd.func33, Tryd.ntmps33
    go_wp2_with (first | (go_at_call 49; (with_reducible refine HF.out.mono ?_); rintro e w2 ⟨rfl, hb⟩; have HB := Lib.hid hb; clear hb) | fail)
    go_ret
    exact ⟨rfl, HB.out⟩)
  go_enter Tryd.func22, Tryd.ntmps22
  go_wp2_with (first | (go_at_call 33; (with_reducible refine HI.out.mono ?_); rintro e w2 ⟨rfl, hb⟩; have HB := Lib.hid hb; clear hb) | fail)
  go_ret
  exact ⟨rfl, HB.out⟩
set_option maxRecDepth 100000 in
set_option maxHeartbeats 4000000 in
theorem tp_impl (z : Nat) (hz : z < 2 ^ 32) (w0 w : World) (hp : Db w0) (hb : Below w0.heap.size w0 w) :
    Calls Tryd.prog 15 #[.float .f32 z] w fun e w' => e = .returned (.string (txB (hx8 z))) ∧ Below w.heap.size w w' := by
  have hq := bitsF_lt hz
  have HBT := Lib.hid (fun w2 => bits_impl z hz w2)
  obtain ⟨K, hK, hK8⟩ := siz16_ex (bitsF z) 8 (by omega) (by decide)
  have HFI := Lib.hid (fi16 (bitsF z) K w0 w hp hb hK hK8 (by omega))
  have hpad := hxL_pad hK.2.2 (8 - K)
  rw [show K + (8 - K) = 8 by omega] at hpad
  have HRP := Lib.hid (fun w2 => rep1 48 (8 - K) w2 (by omega))
  have hts : (txB (hxL (bitsF z) K)).size = K := by rw [txB_size, hxL_len]
  have hadd := fun W : World => run_tx Tryd.prog (repL 48 (8 - K)) (hxL (bitsF z) K) (by rw [repL_len, hxL_len]; omega) W
  rw [hpad] at hadd
  have HX : Hid (txB (hx8 z) = txB (hxL (bitsF z) 8)) := Lib.hid rfl
  have hsb : (8 : Int) - (K : Int) = ((8 - K : Nat) : Int) := by omega
  clear hb hK hpad
  generalize bitsF z = q at HBT HFI hts hadd HX hq
  generalize txB (hxL q 8) = T8 at *
  generalize txB (hxL q K) = TK at *
  generalize 8 - K = M at HRP hadd hsb
  generalize txB (repL 48 M) = TR at *
  go_enter Tryd.func15, Tryd.ntmps15
  go_wp2_with (first | (go_at_call 23; (with_reducible refine (HBT.out _).mono ?_); rintro e w' ⟨rfl, hw⟩; subst hw) | (go_at_call 22; (with_reducible refine HFI.out.mono ?_); rintro e w2 ⟨rfl, hb⟩; have HB := Lib.hid hb; clear hb) | (go_at_call 24; (with_reducible refine (HRP.out _).mono ?_); rintro e w3 ⟨rfl, hb⟩; have HB2 := Lib.hid (Below.next HB.out hb); clear hb) | fail)
  go_ret
  exact ⟨by rw [HX.out]; rfl, HB2.out⟩
theorem and_15i (q : Nat) (h : q < 2 ^ 62) : bits .and .i64 (q : Int) 15 = ((q % 16 : Nat) : Int) := by
  have := b_and q 15 h (by decide)
  rw [show (15 : Nat) = 2 ^ 4 - 1 from rfl, Nat.and_two_pow_sub_one_eq_mod] at this
  exact this
/-- The first c of 8 digits. -/
def hxP (q : Nat) : Nat → List UInt8
  | 0 => []
  | c + 1 => hxP q c ++ [hdg q (7 - c)]
theorem hx_empty (w : World) (T : TypeId) : (w.alloc (.cells #[] T)).ownsRow w.heap.size T 1 (.slice (some ⟨w.heap.size, 0, none⟩) 0 0) 0 [] :=
  ⟨by simp, .inr ⟨w.heap.size, 0, #[], rfl, Nat.le_refl _, heap_alloc_new w _, by simp, by simp [maxLen], by simp, by simp⟩⟩
theorem hx_text {W : World} {B N : Nat} {v : Value} {l : List UInt8} (h : W.ownsRow B 5 1 v N (Lib.byteCells l)) (hN : 0 < N) : ∃ g cp, v = .slice (some ⟨g, 0, none⟩) N cp ∧ (convert 53 9 (.slice (some ⟨g, 0, none⟩) N cp)).run Tryd.prog W = .ok (.string (txB l)) W := by
  have hl : l.length = N := by have := h.1; rw [Lib.byteCells_length] at this; omega
  rcases h.2 with ⟨_, h0⟩ | ⟨g, cap, cur, hv, hB, hh, r⟩
  · omega
  · refine ⟨g, cap, hv, text_cells W 53 9 5 g 0 N cap l Tryd.underlying53 Tryd.underlying5 Tryd.underlying9 hl (fun j hj => ?_)⟩
    have hc := World.ownsRowF.cells (World.ownsRowF_of h) (g := g) (by rw [hv]; rfl) j (.int .u8 ((l.getD j 0).toNat : Int)) (by
      unfold Lib.byteCells
      rw [List.getElem?_map, List.getD_eq_getElem?_getD, List.getElem?_eq_getElem (by omega)]
      rfl)
    have e1 : (⟨g, 0, none⟩ : Addr).add j = ⟨g, 0 + j, none⟩ := by unfold Addr.add; split <;> simp_all
    rw [e1] at hc
    exact hc
set_option maxRecDepth 100000 in
set_option maxHeartbeats 4000000 in
theorem hex_spec (z : Nat) (hz : z < 2 ^ 32) (w : World) :
    Calls Tryd.prog 21 #[.float .f32 z] w fun e w' => e = .returned (.string (txB (hx8 z))) ∧ Below w.heap.size w w' := by
  obtain ⟨i0, hi, hz0, hz1, hz2⟩ := info_parts (P := Tryd.prog) (e := 5) (z := .int .u8 0) (size := 1) (bytes := 1) (by kernel_rfl)
  have hq := bitsF_lt hz
  have HBT := Lib.hid (fun w2 => bits_spec z hz w2)
  have HX : Hid (hx8 z = hxL (bitsF z) 8) := Lib.hid rfl
  generalize bitsF z = q at HBT HX hq
  have HE := Lib.hid (hx_empty w 5)
  have HB0 := Lib.hid (below_alloc w (.cells #[] 5))
  go_enter Tryd.func21, Tryd.ntmps21
  go_wp2_with (first | (go_at_call 28; (with_reducible refine (HBT.out _).mono ?_); rintro e w' ⟨rfl, hw⟩; subst hw) | fail)
  go_loopw [4, 5] (fun v0 kv w' => ∃ (c : Nat) (v : Value) (wr : World), c ≤ 8 ∧ v = v0 ∧ kv = .int .i64 (28 - 4 * (c : Int)) ∧ wr = w' ∧ Hid (wr.ownsRow w.heap.size 5 1 v c (Lib.byteCells (hxP q c))) ∧ Hid (Below w.heap.size w wr)) (fun _ kv _ => (intOf kv + 4).toNat)
  case atStart => exact ⟨0, _, _, by omega, rfl, rfl, rfl, HE, HB0⟩
  case round =>
    obtain ⟨c, v, wr, hc, hsv, rfl, rfl, HO, HW⟩ := hrel
    subst hsv
    by_cases hlt : c < 8
    · obtain ⟨kk, hkk⟩ : ∃ kk : Nat, 28 - 4 * (c : Int) = (kk : Int) := ⟨28 - 4 * c, by omega⟩
      have hk4 : kk = 4 * (7 - c) := by omega
      have hkn : (28 : Int) - 4 * ((c + 1 : Nat) : Int) = (kk : Int) - 4 := by omega
      have HKN := Lib.hid hkn
      have hp16 : 2 ^ kk = 16 ^ (7 - c) := by rw [hk4, Nat.pow_mul]
      have HP1 : Hid (hxP q (c + 1) = hxP q c ++ [hdg q (7 - c)]) := Lib.hid rfl
      have hdd : hdg q (7 - c) = hd (q / 16 ^ (7 - c) % 16) := rfl
      rw [hdd] at HP1
      have hs1 : bits .and .i64 ((q : Int) / 2 ^ kk) 15 = ((q / 16 ^ (7 - c) % 16 : Nat) : Int) := by
        rw [← hp16, ← and_15i (q / 2 ^ kk) (Nat.lt_of_le_of_lt (Nat.div_le_self _ _) (by omega))]; norm_cast
      have hd16 : q / 16 ^ (7 - c) % 16 < 16 := Nat.mod_lt _ (by decide)
      generalize q / 16 ^ (7 - c) % 16 = d at hs1 hd16 HP1
      have HNE := Lib.hid (own_block HO.out)
      have hsz := HW.out.size
      have hkk28 : kk ≤ 28 := by omega
      rw [hkk]
      generalize hxP q c = L at HO HP1
      clear hkn hp16 hdd hk4 hkk
      go_wp2_with (first | (simp only [dg_hd16 d _]) | (at_builtin; refine wpList_append_lies _ rfl _ _ 53 rfl (w.heap.size) 5 i0 (.int .u8 0) 1 1 Tryd.underlying53 hi hz0 hz1 hz2 rfl (by omega) _ c (Lib.byteCells L) rfl (World.ownsRow.alloc HO.out _) ⟨wr.heap.size, 0, none⟩ 1 1 [.int .u8 ((hd d).toNat : Int)] rfl rfl (World.news_of_block (cs := #[.int .u8 ((hd d).toNat : Int)]) (t := 5) (fr := (0, 0)) (heap_alloc_new _ _)) (by simp [Value.oneCell']) (by omega) (by unfold maxLen; omega) (by omega) (by simp; omega) (wr.heap.size + 1) (by simp) ?_; intro gg cp w3 hown1 hgrow hat hlt2; have HO2 := Lib.hid hown1; have HG2 := Lib.hid hgrow; clear hown1 hgrow hat hlt2) | fail)
      exact ⟨⟨c + 1, _, _, by omega, rfl, by rw [HKN.out], rfl, Lib.hid (by rw [HP1.out, Lib.byteCells_append]; exact HO2.out), Lib.hid (Below.grown (Below.alloc HW.out HW.out.size _) HG2.out (by simp; omega) HNE.out)⟩, by simp [intOf]; omega⟩
    · obtain rfl : c = 8 := by omega
      have hk9 : (28 : Int) - 4 * ((8 : Nat) : Int) = -4 := by omega
      rw [hk9]
      have HP8 : Hid (hxP q 8 = hxL q 8) := Lib.hid rfl
      rw [HP8.out] at HO
      obtain ⟨g, cp, hv, htx⟩ := hx_text HO.out (by decide)
      subst hv
      clear hk9
      go_wp2
      go_ret
      exact ⟨by rw [HX.out]; rfl, HW.out⟩
end Go.Proofs.YtkmggoagboikgaaDoor
