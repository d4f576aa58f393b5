
/- ListText: the functions. -/
import Derived.Test.YthkabonnclfhmaaDoorCtx
import Derived.Test.YthkabonnclfhmaaDoorRdw
import Derived.Test.YthkabonnclfhmaaDoorMgb
namespace Go.Proofs.YthkabonnclfhmaaDoor
open Go.Proofs.YthkabonnclfhmaaDoor.Flo Go.RowKit Go.Proofs.YthkabonnclfhmaaDoor.Dcn

theorem Tryd.infoT : (Tryd.prog.info? 9).map (fun i => (i.zero, i.size, i.bytes)) = some (some (.string ⟨#[]⟩), 1, 16) := by kernel_rfl
/-- Are these all numbers of a list? -/
def allV (zs : List Int) (n : Nat) : Bool := (List.range n).all fun j => inVal (zs.getD j 0)
theorem allV_no {zs : List Int} {n k : Nat} (hk : k < n) (h : inVal (zs.getD k 0) = false) : allV zs n = false := by
  cases hb : allV zs n with
  | false => rfl
  | true => exact absurd (List.all_eq_true.1 hb k (List.mem_range.2 hk)) (by rw [h]; simp)
theorem allV_yes {zs : List Int} {n : Nat} (h : ∀ j, j < n → inVal (zs.getD j 0) = true) : allV zs n = true := List.all_eq_true.2 fun j hj => h j (List.mem_range.1 hj)
theorem allV_out {zs : List Int} {n : Nat} (h : allV zs n = true) : ∀ j, j < n → inVal (zs.getD j 0) = true := fun j hj => List.all_eq_true.1 h j (List.mem_range.2 hj)
/-- Is it a list? -/
def okL (zs : List Int) (n : Nat) : Bool := decide (n ≤ 64) && allV zs n
/-- The text of a list. -/
def ltx (zs : List Int) : List UInt8 := ctx (zs.map Lib.itoa)
/-- What ListText answers. -/
def ltA (zs : List Int) (n : Nat) : Value := if okL zs n then .tuple #[.string (txB (ltx zs)), .bool true] else .tuple #[.string ⟨#[]⟩, .bool false]
theorem ltA_long {zs : List Int} {n : Nat} (h : ¬ n ≤ 64) : ltA zs n = .tuple #[.string ⟨#[]⟩, .bool false] := by unfold ltA okL; rw [decide_eq_false h]; rfl
theorem ltA_no {zs : List Int} {n k : Nat} (hk : k < n) (h : inVal (zs.getD k 0) = false) : ltA zs n = .tuple #[.string ⟨#[]⟩, .bool false] := by unfold ltA okL; rw [allV_no hk h, Bool.and_false]; rfl
theorem ltA_yes {zs : List Int} {n : Nat} (h0 : n ≤ 64) (h : ∀ j, j < n → inVal (zs.getD j 0) = true) : ltA zs n = .tuple #[.string (txB (ltx zs)), .bool true] := by unfold ltA okL; rw [allV_yes h, decide_eq_true h0]; rfl
theorem irow_cell {w : World} {a : Option Addr} {n : Nat} {zs : List Int} (h : IRow w a n zs) {k : Nat} (hk : k < n) : ∃ b off, a = some ⟨b, off, none⟩ ∧ b < w.heap.size ∧ w.cell? ⟨b, off + k, none⟩ = some (.int .i64 (zs.getD k 0)) := by
  rcases h.2 with h0 | ⟨b, o, rfl, hb, hc⟩
  · omega
  · exact ⟨b, o, rfl, hb, hc k hk⟩
theorem itoa_in (zs : List Int) (n : Nat) (hl : zs.length = n) (h : ∀ j, j < n → inVal (zs.getD j 0) = true) : ∀ l ∈ zs.map Lib.itoa, l.length ≤ 1000 := by
  intro l hm
  obtain ⟨z, hz, rfl⟩ := List.mem_map.1 hm
  obtain ⟨j, hj, rfl⟩ := List.getElem_of_mem hz
  have h1 := inVal_out (h j (by omega))
  rw [List.getD_eq_getElem?_getD, List.getElem?_eq_getElem hj, Option.getD_some] at h1
  have := (itoa_len17 _ h1.1 h1.2).2
  omega
set_option maxRecDepth 100000 in
set_option maxHeartbeats 4000000 in
theorem lt_impl (a : Option Addr) (n cap : Nat) (zs : List Int) (w0 w : World) (ha : IRow w a n zs) (hn : n ≤ 1048576) (hp : Pow w0) (hb : Below w0.heap.size w0 w) :
    Calls Tryd.prog 21 #[.slice a n cap] w fun e w' => e = .returned (ltA zs n) ∧ Below w.heap.size w w' := by
  by_cases h64 : n ≤ 64
  · obtain ⟨i0, hi, hz0, hz1, hz2⟩ := info_parts Tryd.infoT
    have hd64 : decide (64 < (n : Int)) = false := decide_eq_false (by omega)
    have HA := Lib.hid ha
    have HP := Lib.hid hp
    have HB0 := Lib.hid hb
    have HX : ∃ F : Nat → Value, F = fun i => .string (txB ((zs.map Lib.itoa).getD i [])) := ⟨_, rfl⟩
    obtain ⟨F, hF⟩ := HX
    have HFE := Lib.hid hF
    have HTI := Lib.hid (fun v base W h hv => ti_impl v (zs.map Lib.itoa) n base W (by rw [List.length_map]; exact ha.1) h (by omega) (itoa_in zs n ha.1 hv))
    rw [← hF] at HTI
    have HY := Lib.hid (fun h => ltA_yes (zs := zs) h64 h)
    have HLT : Hid (ctx (zs.map Lib.itoa) = ltx zs) := Lib.hid rfl
    clear ha hp hb hF
    go_enter Tryd.func21, Tryd.ntmps21
    go_wp2
    go_loopw [4, 12] (fun sv iv w' => ∃ (k : Nat) (v : Value) (wr : World), k ≤ n ∧ sv = v ∧ iv = .int .i64 k ∧ wr = w' ∧ Hid (Gat wr w.heap.size 9 v k F) ∧ Hid (Below w.heap.size w wr) ∧ Hid (∀ j, j < k → inVal (zs.getD j 0) = true)) (fun _ iv _ => n - (intOf iv).toNat)
    case atStart => exact ⟨0, _, _, by omega, rfl, rfl, rfl, Lib.hid (Gat.nil _ _ _ _), Lib.hid (Below.refl _ _), Lib.hid (by intro j hj; omega)⟩
    case round =>
      obtain ⟨k, v, wr, hk, rfl, rfl, rfl, HG, HW, HV⟩ := hrel
      by_cases hlt : k < n
      · obtain ⟨b1, o1, rfl, _, hck⟩ := irow_cell (HA.out.below HW.out) hlt
        have hlen : zs.length = n := HA.out.1
        have HK : Hid (F k = .string (txB (Lib.itoa (zs.getD k 0)))) := Lib.hid (by rw [HFE.out]; show Value.string _ = _; rw [List.getD_eq_getElem?_getD, List.getElem?_map, List.getD_eq_getElem?_getD, List.getElem?_eq_getElem (by omega)]; rfl)
        have HSZ := Lib.hid HW.out.size
        have HNE := Lib.hid (Gat.block HG.out)
        have HLN := Lib.hid hlen
        clear hlen
        cases hin : inVal (zs.getD k 0)
        · have HN := Lib.hid (ltA_no (zs := zs) hlt hin)
          have HIV := Lib.hid (fun W => isv_impl (zs.getD k 0) W)
          rw [hin] at HIV
          generalize zs.getD k 0 = x at hck HIV
          clear HA HK hin
          go_wp2_with (first | (go_at_call 66; refine (HIV.out _).mono ?_; rintro e w3 ⟨rfl, hw3⟩; subst hw3) | fail)
          go_ret2
          exact ⟨by rw [HN.out]; rfl, HW.out⟩
        · have HV2 : Hid (∀ j, j < k + 1 → inVal (zs.getD j 0) = true) := Lib.hid (fun j hj => by
            by_cases e : j < k
            · exact HV.out j e
            · obtain rfl : j = k := by omega
              exact hin)
          have hvi := inVal_out hin
          have HIV := Lib.hid (fun W => isv_impl (zs.getD k 0) W)
          rw [hin] at HIV
          have HDC := Lib.hid (fun W (h : Below w0.heap.size w0 W) => dec_impl (zs.getD k 0) (by omega) (by omega) w0 W HP.out h)
          generalize zs.getD k 0 = x at hck HIV HK HDC
          clear HA hin hvi
          go_wp2_with (first
            | (go_at_call 66; refine (HIV.out _).mono ?_; rintro e w3 ⟨rfl, hw3⟩; subst hw3)
            | (go_at_call 16; refine (HDC.out _ (Below.next HB0.out HW.out)).mono ?_; rintro e w4 ⟨rfl, hb4⟩; have HB4 := Lib.hid hb4; have HW4 := Lib.hid (Below.next HW.out hb4); have HG4 := Lib.hid (Gat.keep HG.out hb4); have HS4 := Lib.hid (Below.next HW.out hb4).size; clear hb4)
            | (at_builtin; refine wpList_append_lies _ rfl _ _ 66 rfl w.heap.size 9 i0 (.string ⟨#[]⟩) 1 16 Tryd.underlying66 hi hz0 hz1 hz2 rfl (by omega) u4 k ((List.range k).map F) rfl (World.ownsRow.alloc HG4.out _) ⟨w4.heap.size, 0, none⟩ 1 1 [.string (txB (Lib.itoa x))] rfl rfl (World.news_of_block (cs := #[.string (txB (Lib.itoa x))]) (t := 9) (fr := (0, 0)) (heap_alloc_new _ _)) (by simp [Value.oneCell']) (by omega) (by unfold maxLen; omega) (by omega) (by have := HS4.out; simp; omega) (w4.heap.size + 1) (by simp) ?_; intro gg cp w1 hown1 hgrow hat hlt3; have HO2 := Lib.hid hown1; have HG2 := Lib.hid hgrow; clear hown1 hgrow hat hlt3)
            | fail)
          exact ⟨⟨k + 1, _, _, by omega, rfl, by first | rfl | go_num | (congr 1), rfl, Lib.hid (Gat.step HO2.out HK.out.symm), Lib.hid (Below.grown (Below.alloc HW4.out HS4.out _) HG2.out (by have := HS4.out; simp; omega) (fun j hj => HNE.out j hj)), HV2⟩, by show n - ((k : Int) + 1).toNat < n - (k : Int).toNat; omega⟩
      · obtain rfl : k = n := by omega
        have HY2 := Lib.hid (HY.out HV.out)
        have HT2 := Lib.hid (HTI.out u4 w.heap.size wr HG.out HV.out)
        clear HY HTI
        go_wp2_with (first | (go_at_call 69; refine HT2.out.mono ?_; rintro e w4 ⟨rfl, hb4⟩; have HB4 := Lib.hid (Below.next HW.out hb4); clear hb4) | fail)
        go_ret2
        exact ⟨by rw [HY2.out, ← HLT.out]; rfl, HB4.out⟩
  · have hd64 : decide (64 < (n : Int)) = true := decide_eq_true (by omega)
    rw [ltA_long h64]
    clear ha hp hb h64
    go_enter Tryd.func21, Tryd.ntmps21
    go_wp2
    go_ret2
    exact ⟨rfl, Below.refl _ _⟩
set_option maxRecDepth 100000 in
set_option maxHeartbeats 4000000 in
theorem ll_spec (a : Option Addr) (n cap : Nat) (zs : List Int) (w : World) (ha : IRow w a n zs) (hn : n ≤ 1048576) :
    Calls Tryd.prog 67 #[.slice a n cap] w fun e w' => e = .returned (.bool (okL zs n)) ∧ w = w' := by
  have HA := Lib.hid ha
  clear ha
  go_enter Tryd.func67, Tryd.ntmps67
  go_wp2
  go_loop [3] (fun iv => ∃ k : Nat, k ≤ n ∧ iv = .int .i64 k ∧ Hid (∀ j, j < k → inVal (zs.getD j 0) = true)) (fun iv => n - (intOf iv).toNat)
  case atStart => exact ⟨0, by omega, rfl, Lib.hid (by intro j hj; omega)⟩
  case round =>
    obtain ⟨k, hk, rfl, HV⟩ := hrel
    by_cases hlt : k < n
    · obtain ⟨b1, o1, rfl, _, hck⟩ := irow_cell HA.out hlt
      cases hin : inVal (zs.getD k 0)
      · have HN : Hid (okL zs n = false) := Lib.hid (by unfold okL; rw [allV_no hlt hin, Bool.and_false])
        have HIV := Lib.hid (fun W => isv_spec (zs.getD k 0) W)
        rw [hin] at HIV
        generalize zs.getD k 0 = x at hck HIV
        clear HA hin
        go_wp2_with (first | (go_at_call 100; refine (HIV.out _).mono ?_; rintro e w3 ⟨rfl, hw3⟩; subst hw3) | fail)
        go_ret
        exact ⟨ret_boolD HN.out.symm, rfl⟩
      · have HV2 : Hid (∀ j, j < k + 1 → inVal (zs.getD j 0) = true) := Lib.hid (fun j hj => by
          by_cases e : j < k
          · exact HV.out j e
          · obtain rfl : j = k := by omega
            exact hin)
        have HIV := Lib.hid (fun W => isv_spec (zs.getD k 0) W)
        rw [hin] at HIV
        generalize zs.getD k 0 = x at hck HIV
        clear HA hin
        go_wp2_with (first | (go_at_call 100; refine (HIV.out _).mono ?_; rintro e w3 ⟨rfl, hw3⟩; subst hw3) | fail)
        go_round
        case rel => exact ⟨k + 1, by omega, by go_num, HV2⟩
        case measure => simp [intOf]; omega
    · obtain rfl : k = n := by omega
      have HN : Hid (okL zs k = decide ((k : Int) ≤ 64)) := Lib.hid (by unfold okL; rw [allV_yes HV.out, Bool.and_true, decide_eq_decide]; omega)
      go_wp2
      go_ret
      exact ⟨ret_boolD HN.out.symm, rfl⟩
set_option maxRecDepth 100000 in
set_option maxHeartbeats 4000000 in
theorem ltt_spec (a : Option Addr) (n cap : Nat) (zs : List Int) (w : World) (ha : IRow w a n zs) (hn : n ≤ 256) (hv : ∀ j, j < n → inVal (zs.getD j 0) = true) :
    Calls Tryd.prog 68 #[.slice a n cap] w fun e w' => e = .returned (.string (txB (ltx zs))) ∧ Below w.heap.size w w' := by
  have hl := ha.1
  by_cases h0 : n = 0
  · have hx : zs.map Lib.itoa = [] := by rw [List.eq_nil_of_length_eq_zero (l := zs) (by omega)]; rfl
    have HC : Hid (ltx zs = _) := Lib.hid (ctx_nil hx)
    have hd : ((n : Int) == 0) = true := by simp; omega
    clear ha hl hx hv h0
    go_enter Tryd.func68, Tryd.ntmps68
    go_wp2
    go_ret
    exact ⟨ret_str1 (by rw [HC.out]; rfl), Below.refl _ _⟩
  · have HC : Hid (ltx zs = Lib.join (zs.map Lib.itoa) [44]) := Lib.hid (ctx_ne (by intro e; have := congrArg List.length e; rw [List.length_map, List.length_nil] at this; omega))
    have hd : ((n : Int) == 0) = false := by simp; omega
    have HA := Lib.hid ha
    have HV := Lib.hid hv
    have HM : Hid (∀ k, k ≤ n → (Lib.join ((zs.map Lib.itoa).take k) [44]).length ≤ 300000) := Lib.hid (fun k hk => by
      have h1 := join_bd 1000 ((zs.map Lib.itoa).take k) (fun l hm => itoa_in zs n hl hv l (List.mem_of_mem_take hm))
      have h2 : 1001 * ((zs.map Lib.itoa).take k).length ≤ 1001 * 256 := Nat.mul_le_mul_left _ (by rw [List.length_take]; omega)
      omega)
    have HS : Hid (∀ k, 1 ≤ k → k < n → Lib.join ((zs.map Lib.itoa).take (k + 1)) [44] = Lib.join ((zs.map Lib.itoa).take k) [44] ++ (44 :: Lib.itoa (zs.getD k 0))) := Lib.hid (fun k h1 hk => by
      have hz : k < zs.length := by omega
      rw [join_snoc _ k h1 (by rw [List.length_map]; omega), List.getElem_map, List.getD_eq_getElem?_getD, List.getElem?_eq_getElem hz, Option.getD_some])
    have H1 : Hid (Lib.join ((zs.map Lib.itoa).take 1) [44] = Lib.itoa (zs.getD 0 0)) := Lib.hid (by
      cases zs with
      | nil => simp at hl; omega
      | cons z r => simp [Lib.join_one])
    have HF : Hid (Lib.join ((zs.map Lib.itoa).take n) [44] = Lib.join (zs.map Lib.itoa) [44]) := Lib.hid (by rw [List.take_of_length_le (by rw [List.length_map]; omega)])
    obtain ⟨b1, o1, rfl, hlb, hc0⟩ := irow_cell ha (k := 0) (by omega)
    have hv0 := inVal_out (hv 0 (by omega))
    have HD0 := Lib.hid (fun W => dec_spec (zs.getD 0 0) (by omega) (by omega) W)
    rw [← H1.out] at HD0
    have HN0 := Lib.hid h0
    generalize zs.getD 0 0 = x0 at hc0 HD0
    clear ha hl hv h0 hv0 H1
    have hn0 : 0 < n := by have := HN0.out; omega
    have hc00 := hc0
    rw [Nat.add_zero] at hc00
    go_enter Tryd.func68, Tryd.ntmps68
    go_wp2_with (first | (go_at_call 62; refine (HD0.out _).mono ?_; rintro e w4 ⟨rfl, hb4⟩; have HB4 := Lib.hid hb4; clear hb4) | fail)
    go_loopw [3, 4] (fun sv iv wr => ∃ k : Nat, 1 ≤ k ∧ k ≤ n ∧ iv = .int .i64 k ∧ sv = .string (txB (Lib.join ((zs.map Lib.itoa).take k) [44])) ∧ Hid (Below w.heap.size w wr)) (fun _ iv _ => n - (intOf iv).toNat)
    case atStart => exact ⟨1, by omega, by omega, rfl, rfl, HB4⟩
    case round =>
      obtain ⟨k, hk1, hk, rfl, rfl, HW⟩ := hrel
      by_cases hlt : k < n
      · obtain ⟨b2, o2, e2, _, hck⟩ := irow_cell (HA.out.below HW.out) hlt
        injection e2 with e2
        injection e2 with e2 e3
        subst e2; subst e3
        have hvi := inVal_out (HV.out k hlt)
        have HDC := Lib.hid (fun W => dec_spec (zs.getD k 0) (by omega) (by omega) W)
        have h17 := (itoa_len17 (zs.getD k 0) hvi.1 hvi.2).2
        have hS := HS.out k hk1 hlt
        have hm := HM.out k hk
        obtain ⟨L, hL⟩ : ∃ L, L = Lib.join ((zs.map Lib.itoa).take k) [44] := ⟨_, rfl⟩
        obtain ⟨L2, hL2⟩ : ∃ L2, L2 = Lib.join ((zs.map Lib.itoa).take (k + 1)) [44] := ⟨_, rfl⟩
        rw [← hL] at hS hm ⊢
        rw [← hL2] at hS
        generalize Lib.itoa (zs.getD k 0) = X at hS HDC h17
        generalize zs.getD k 0 = x at hck HDC
        have hr1 : ∀ w : World, (Op.stringOp .add ⟨#[44]⟩ (txB X)).run Tryd.prog w = .ok (.string (txB (44 :: X))) w := fun w => run_tx Tryd.prog [44] X (by simp; omega) w
        have hr2 : ∀ w : World, (Op.stringOp .add (txB L) (txB (44 :: X))).run Tryd.prog w = .ok (.string (txB L2)) w := fun w => by rw [hS]; exact run_tx Tryd.prog _ _ (by simp; omega) w
        have HL2 := Lib.hid hL2
        clear hvi hL hL2 hS hm h17
        go_wp2_with (first | (go_at_call 62; refine (HDC.out _).mono ?_; rintro e w5 ⟨rfl, hb5⟩; have HB5 := Lib.hid (Below.next HW.out hb5); clear hb5) | fail)
        go_roundw
        case rel => exact ⟨k + 1, by omega, by omega, by go_num, by rw [← HL2.out], HB5⟩
        case measure => simp [intOf]; omega
      · obtain rfl : k = n := by omega
        have HE : Hid (Lib.join ((zs.map Lib.itoa).take k) [44] = ltx zs) := Lib.hid (by rw [HF.out, HC.out])
        go_wp2
        go_ret
        exact ⟨ret_str1 (by rw [← HE.out]), HW.out⟩
set_option maxRecDepth 100000 in
theorem lt_spec (a : Option Addr) (n cap : Nat) (zs : List Int) (w : World) (ha : IRow w a n zs) (hn : n ≤ 1048576) :
    Calls Tryd.prog 19 #[.slice a n cap] w fun e w' => e = .returned (ltA zs n) ∧ Below w.heap.size w w' := by
  have HL := Lib.hid (ll_spec a n cap zs w ha hn)
  cases hok : okL zs n
  · have HE : Hid (ltA zs n = .tuple #[.string ⟨#[]⟩, .bool false]) := Lib.hid (by unfold ltA; rw [hok]; rfl)
    rw [hok] at HL
    clear ha hok
    go_enter Tryd.func19, Tryd.ntmps19
    go_wp2_with (first | (go_at_call 67; refine HL.out.mono ?_; rintro e w3 ⟨rfl, hw3⟩; subst hw3) | fail)
    go_ret2
    exact ⟨by rw [HE.out]; rfl, Below.refl _ _⟩
  · have HE : Hid (ltA zs n = .tuple #[.string (txB (ltx zs)), .bool true]) := Lib.hid (by unfold ltA; rw [hok]; rfl)
    rw [hok] at HL
    unfold okL at hok
    rw [Bool.and_eq_true] at hok
    have HT := Lib.hid (ltt_spec a n cap zs w ha (by have := of_decide_eq_true hok.1; omega) (allV_out hok.2))
    clear ha hok
    generalize ltx zs = T at HT HE
    go_enter Tryd.func19, Tryd.ntmps19
    go_wp2_with (first | (go_at_call 67; refine HL.out.mono ?_; rintro e w3 ⟨rfl, hw3⟩; subst hw3) | (go_at_call 68; refine HT.out.mono ?_; rintro e w3 ⟨rfl, hb3⟩; have HB3 := Lib.hid hb3; clear hb3) | fail)
    go_ret2
    exact ⟨by rw [HE.out]; rfl, HB3.out⟩
end Go.Proofs.YthkabonnclfhmaaDoor
