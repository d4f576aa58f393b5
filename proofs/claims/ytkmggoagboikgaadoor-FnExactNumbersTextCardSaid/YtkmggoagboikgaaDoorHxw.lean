
/- NumbersText: what both answer. -/
import Derived.Test.YtkmggoagboikgaaDoorHxt
set_option linter.unusedVariables false
set_option linter.unusedSimpArgs false
namespace Go.Proofs.YtkmggoagboikgaaDoor
open Go.Proofs.YtkmggoagboikgaaDoor.Flo Go.RowKit Go.Shelf Go.Proofs.YtkmggoagboikgaaDoor.Pr Go.Proofs.YtkmggoagboikgaaDoor.Dcn

theorem frow_cell {w : World} {a : Option Addr} {n : Nat} {zs : List Nat} (h : FRow w a n zs) {k : Nat} (hk : k < n) : ∃ b off, a = some ⟨b, off, none⟩ ∧ b < w.heap.size ∧ w.cell? ⟨b, off + k, none⟩ = some (.float .f32 (zs.getD k 0)) := by
  rcases h.2 with h0 | ⟨b, o, rfl, hb, hc⟩
  · omega
  · exact ⟨b, o, rfl, hb, hc k hk⟩
set_option maxRecDepth 100000 in
set_option maxHeartbeats 4000000 in
theorem ntt_spec (a : Option Addr) (n cap : Nat) (zs : List Nat) (w : World) (ha : FRow w a n zs) (hn : n ≤ 256) (hv : WfH zs n) :
    Calls Tryd.prog 14 #[.slice a n cap] w fun e w' => e = .returned (.string (txB (ntx zs))) ∧ Below w.heap.size w w' := by
  have hl := ha.1
  by_cases h0 : n = 0
  · have hx : zs.map hx8 = [] := by rw [List.eq_nil_of_length_eq_zero (l := zs) (by omega)]; rfl
    have HC : Hid (ntx zs = _) := Lib.hid (ctx_nil hx)
    have hd : ((n : Int) == 0) = true := by simp; omega
    clear ha hl hx hv h0
    go_enter Tryd.func14, Tryd.ntmps14
    go_wp2
    go_ret
    exact ⟨ret_str1 (by rw [HC.out]; rfl), Below.refl _ _⟩
  · have HC : Hid (ntx zs = Lib.join (zs.map hx8) [44]) := Lib.hid (ctx_ne (by intro e; have := congrArg List.length e; rw [List.length_map, List.length_nil] at this; omega))
    have hd : ((n : Int) == 0) = false := by simp; omega
    have HA := Lib.hid ha
    have HV := Lib.hid hv
    have HM : Hid (∀ k, k ≤ n → (Lib.join ((zs.map hx8).take k) [44]).length ≤ 300000) := Lib.hid (fun k hk => by
      have h1 := join_bd 1000 ((zs.map hx8).take k) (fun l hm => hx8_in zs l (List.mem_of_mem_take hm))
      have h2 : 1001 * ((zs.map hx8).take k).length ≤ 1001 * 256 := Nat.mul_le_mul_left _ (by rw [List.length_take]; omega)
      omega)
    have HS : Hid (∀ k, 1 ≤ k → k < n → Lib.join ((zs.map hx8).take (k + 1)) [44] = Lib.join ((zs.map hx8).take k) [44] ++ (44 :: hx8 (zs.getD k 0))) := Lib.hid (fun k h1 hk => by
      have hz : k < zs.length := by omega
      rw [join_snoc _ k h1 (by rw [List.length_map]; omega), List.getElem_map, List.getD_eq_getElem?_getD, List.getElem?_eq_getElem hz, Option.getD_some])
    have H1 : Hid (Lib.join ((zs.map hx8).take 1) [44] = hx8 (zs.getD 0 0)) := Lib.hid (by
      cases zs with
      | nil => simp at hl; omega
      | cons z r => simp [Lib.join_one])
    have HF : Hid (Lib.join ((zs.map hx8).take n) [44] = Lib.join (zs.map hx8) [44]) := Lib.hid (by rw [List.take_of_length_le (by rw [List.length_map]; omega)])
    obtain ⟨b1, o1, rfl, hlb, hc0⟩ := frow_cell ha (k := 0) (by omega)
    have hv0 := hv 0 (by omega)
    have HD0 := Lib.hid (fun W => hex_spec (zs.getD 0 0) hv0 W)
    rw [← H1.out] at HD0
    have HN0 := Lib.hid h0
    generalize zs.getD 0 0 = x0 at hc0 HD0
    clear ha hl hv h0 hv0 H1
    have hn0 : 0 < n := by have := HN0.out; omega
    have hc00 := hc0
    rw [Nat.add_zero] at hc00
    go_enter Tryd.func14, Tryd.ntmps14
    go_wp2_with (first | (go_at_call 21; refine (HD0.out _).mono ?_; rintro e w4 ⟨rfl, hb4⟩; have HB4 := Lib.hid hb4; clear hb4) | fail)
    go_loopw [3, 4] (fun sv iv wr => ∃ k : Nat, 1 ≤ k ∧ k ≤ n ∧ iv = .int .i64 k ∧ sv = .string (txB (Lib.join ((zs.map hx8).take k) [44])) ∧ Hid (Below w.heap.size w wr)) (fun _ iv _ => n - (intOf iv).toNat)
    case atStart => exact ⟨1, by omega, by omega, rfl, rfl, HB4⟩
    case round =>
      obtain ⟨k, hk1, hk, rfl, rfl, HW⟩ := hrel
      by_cases hlt : k < n
      · obtain ⟨b2, o2, e2, _, hck⟩ := frow_cell (HA.out.below HW.out) hlt
        injection e2 with e2
        injection e2 with e2 e3
        subst e2; subst e3
        have hvi := HV.out k hlt
        have HDC := Lib.hid (fun W => hex_spec (zs.getD k 0) hvi W)
        have h17 := (hx8_len (zs.getD k 0))
        have hS := HS.out k hk1 hlt
        have hm := HM.out k hk
        obtain ⟨L, hL⟩ : ∃ L, L = Lib.join ((zs.map hx8).take k) [44] := ⟨_, rfl⟩
        obtain ⟨L2, hL2⟩ : ∃ L2, L2 = Lib.join ((zs.map hx8).take (k + 1)) [44] := ⟨_, rfl⟩
        rw [← hL] at hS hm ⊢
        rw [← hL2] at hS
        generalize hx8 (zs.getD k 0) = X at hS HDC h17
        generalize zs.getD k 0 = x at hck HDC
        have hr1 : ∀ w : World, (Op.stringOp .add ⟨#[44]⟩ (txB X)).run Tryd.prog w = .ok (.string (txB (44 :: X))) w := fun w => run_tx Tryd.prog [44] X (by simp; omega) w
        have hr2 : ∀ w : World, (Op.stringOp .add (txB L) (txB (44 :: X))).run Tryd.prog w = .ok (.string (txB L2)) w := fun w => by rw [hS]; exact run_tx Tryd.prog _ _ (by simp; omega) w
        have HL2 := Lib.hid hL2
        clear hvi hL hL2 hS hm h17
        go_wp2_with (first | (go_at_call 21; refine (HDC.out _).mono ?_; rintro e w5 ⟨rfl, hb5⟩; have HB5 := Lib.hid (Below.next HW.out hb5); clear hb5) | fail)
        go_roundw
        case rel => exact ⟨k + 1, by omega, by omega, by go_num, by rw [← HL2.out], HB5⟩
        case measure => simp [intOf]; omega
      · obtain rfl : k = n := by omega
        have HE : Hid (Lib.join ((zs.map hx8).take k) [44] = ntx zs) := Lib.hid (by rw [HF.out, HC.out])
        go_wp2
        go_ret
        exact ⟨ret_str1 (by rw [← HE.out]), HW.out⟩
set_option maxRecDepth 100000 in
set_option maxHeartbeats 4000000 in
theorem nt_impl (a : Option Addr) (n cap : Nat) (zs : List Nat) (w0 w : World) (ha : FRow w a n zs) (hz : WfH zs n) (hp : Db w0) (hb : Below w0.heap.size w0 w) :
    Calls Tryd.prog 7 #[.slice a n cap] w fun e w' => e = .returned (ntA zs n) ∧ Below w.heap.size w w' := by
  by_cases h64 : n ≤ 256
  · obtain ⟨i0, hi, hz0, hz1, hz2⟩ := info_parts infoTH
    have hd64 : decide (256 < (n : Int)) = false := decide_eq_false (by omega)
    have HA := Lib.hid ha
    have HZ := Lib.hid hz
    have HB0 := Lib.hid hb
    have HP := Lib.hid hp
    obtain ⟨F, hF⟩ : ∃ F : Nat → Value, F = fun i => .string (txB ((zs.map hx8).getD i [])) := ⟨_, rfl⟩
    have HFE := Lib.hid hF
    have HTI := Lib.hid (fun v base W h => ti_impl v (zs.map hx8) n base W (by rw [List.length_map]; exact ha.1) h (by omega) (hx8_in zs))
    rw [← hF] at HTI
    rw [ntA_yes h64]
    have HLT : Hid (ctx (zs.map hx8) = ntx zs) := Lib.hid rfl
    clear ha hz hp hb hF
    go_enter Tryd.func7, Tryd.ntmps7
    go_wp2
    go_loopw [4, 12] (fun sv iv w' => ∃ (k : Nat) (v : Value) (wr : World), k ≤ n ∧ sv = v ∧ iv = .int .i64 k ∧ wr = w' ∧ Hid (Gat wr w.heap.size 9 v k F) ∧ Hid (Below w.heap.size w wr)) (fun _ iv _ => n - (intOf iv).toNat)
    case atStart => exact ⟨0, _, _, by omega, rfl, rfl, rfl, Lib.hid (Gat.nil _ _ _ _), Lib.hid (Below.refl _ _)⟩
    case round =>
      obtain ⟨k, v, wr, hk, hsv, rfl, rfl, HG, HW⟩ := hrel
      subst hsv
      by_cases hlt : k < n
      · obtain ⟨b1, o1, rfl, _, hck⟩ := frow_cell (HA.out.below HW.out) hlt
        have hlen : zs.length = n := HA.out.1
        have HK : Hid (F k = .string (txB (hx8 (zs.getD k 0)))) := Lib.hid (by rw [HFE.out]; show Value.string _ = _; rw [List.getD_eq_getElem?_getD, List.getElem?_map, List.getD_eq_getElem?_getD, List.getElem?_eq_getElem (by omega)]; rfl)
        have HNE := Lib.hid (Gat.block HG.out)
        have hzk := HZ.out k hlt
        have HTP := Lib.hid (fun W (h : Below w0.heap.size w0 W) => tp_impl (zs.getD k 0) hzk w0 W HP.out h)
        generalize zs.getD k 0 = x at hck HK HTP hzk
        clear HA hlen hzk
        go_wp2_with (first
          | (go_at_call 15; (with_reducible refine (HTP.out _ (Below.next HB0.out HW.out)).mono ?_); rintro e w4 ⟨rfl, hb4⟩; have HB4 := Lib.hid hb4; have HW4 := Lib.hid (Below.next HW.out hb4); have HG4 := Lib.hid (Gat.keep HG.out hb4); have HS4 := Lib.hid (Below.next HW.out hb4).size; clear hb4)
          | (at_builtin; refine wpList_append_lies _ rfl _ _ 34 rfl w.heap.size 9 i0 (.string ⟨#[]⟩) 1 16 Tryd.underlying34 hi hz0 hz1 hz2 rfl (by omega) _ k ((List.range k).map F) rfl (World.ownsRow.alloc HG4.out _) ⟨w4.heap.size, 0, none⟩ 1 1 [.string (txB (hx8 x))] rfl rfl (World.news_of_block (cs := #[.string (txB (hx8 x))]) (t := 9) (fr := (0, 0)) (heap_alloc_new _ _)) (by simp [Value.oneCell']) (by omega) (by unfold maxLen; omega) (by omega) (by have := HS4.out; simp; omega) (w4.heap.size + 1) (by simp) ?_; intro gg cp w5 hown1 hgrow hat hlt3; have HO2 := Lib.hid hown1; have HG2 := Lib.hid hgrow; clear hown1 hgrow hat hlt3)
          | fail)
        exact ⟨⟨k + 1, _, _, by omega, rfl, by first | rfl | go_num | (congr 1), rfl, Lib.hid (Gat.step HO2.out HK.out.symm), Lib.hid (Below.grown (Below.alloc HW4.out HS4.out _) HG2.out (by have := HS4.out; simp; omega) (fun j hj => HNE.out j hj))⟩, by show n - ((k : Int) + 1).toNat < n - (k : Int).toNat; omega⟩
      · obtain rfl : k = n := by omega
        have HT2 := Lib.hid (HTI.out _ w.heap.size wr HG.out)
        clear HTI
        go_wp2_with (first | (go_at_call 16; refine HT2.out.mono ?_; rintro e w4 ⟨rfl, hb4⟩; have HB4 := Lib.hid (Below.next HW.out hb4); clear hb4) | fail)
        go_ret2
        exact ⟨by rw [← HLT.out]; rfl, HB4.out⟩
  · have hd64 : decide (256 < (n : Int)) = true := decide_eq_true (by omega)
    rw [ntA_long h64]
    clear ha hz hp hb h64
    go_enter Tryd.func7, Tryd.ntmps7
    go_wp2
    go_ret2
    exact ⟨rfl, Below.refl _ _⟩
set_option maxRecDepth 100000 in
theorem nt_spec (a : Option Addr) (n cap : Nat) (zs : List Nat) (w : World) (ha : FRow w a n zs) (hz : WfH zs n) :
    Calls Tryd.prog 5 #[.slice a n cap] w fun e w' => e = .returned (ntA zs n) ∧ Below w.heap.size w w' := by
  by_cases h64 : n ≤ 256
  · have HL : Hid (∀ w2 : World, Calls Tryd.prog 13 #[.slice a n cap] w2 fun e w' => e = .returned (.bool true) ∧ w2 = w') := Lib.hid (fun w2 => by
      have hd : decide ((n : Int) ≤ 256) = true := decide_eq_true (by omega)
      go_enter Tryd.func13, Tryd.ntmps13
      go_wp2
      go_ret
      exact ⟨rfl, rfl⟩)
    have HT := Lib.hid (ntt_spec a n cap zs w ha (by omega) hz)
    rw [ntA_yes h64]
    clear ha hz
    generalize ntx zs = T at HT
    go_enter Tryd.func5, Tryd.ntmps5
    go_wp2_with (first | (go_at_call 13; refine (HL.out _).mono ?_; rintro e w3 ⟨rfl, hw3⟩; subst hw3) | (go_at_call 14; refine HT.out.mono ?_; rintro e w3 ⟨rfl, hb3⟩; have HB3 := Lib.hid hb3; clear hb3) | fail)
    go_ret2
    exact ⟨rfl, HB3.out⟩
  · have HL : Hid (∀ w2 : World, Calls Tryd.prog 13 #[.slice a n cap] w2 fun e w' => e = .returned (.bool false) ∧ w2 = w') := Lib.hid (fun w2 => by
      have hd : decide ((n : Int) ≤ 256) = false := decide_eq_false (by omega)
      have hd2 : decide (n ≤ 256) = false := decide_eq_false h64
      go_enter Tryd.func13, Tryd.ntmps13
      go_wp2
      go_ret
      exact ⟨rfl, rfl⟩)
    rw [ntA_long h64]
    clear ha hz
    go_enter Tryd.func5, Tryd.ntmps5
    go_wp2_with (first | (go_at_call 13; refine (HL.out _).mono ?_; rintro e w3 ⟨rfl, hw3⟩; subst hw3) | fail)
    go_ret2
    exact ⟨rfl, Below.refl _ _⟩
end Go.Proofs.YtkmggoagboikgaaDoor
