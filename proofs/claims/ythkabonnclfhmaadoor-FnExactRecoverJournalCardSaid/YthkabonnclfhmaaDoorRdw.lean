
/- ReadDecimal: the functions. -/
import Derived.Test.YthkabonnclfhmaaDoorDcf
import Derived.WalkSmall
import Derived.Stop.LaidErr
namespace Go.Proofs.YthkabonnclfhmaaDoor
open Go.Proofs.YthkabonnclfhmaaDoor.Flo Go.RowKit Go.Proofs.YthkabonnclfhmaaDoor.Dcn

theorem ret_boolD {a b : Bool} (h : a = b) : Ending.returned (.bool a) = .returned (.bool b) := by rw [h]
theorem isv_impl (n : Int) (w : World) : Calls Tryd.prog 66 #[.int .i64 n] w fun e w' => e = .returned (.bool (inVal n)) ∧ w = w' := by
  by_cases h0 : -1000000000000000 ≤ n
  · by_cases h1 : n ≤ 1000000000000000
    · have hv := Lib.hid (inVal_in h0 h1)
      have d0 : decide (-1000000000000000 ≤ n) = true := decide_eq_true h0
      have d1 : decide (n ≤ 1000000000000000) = true := decide_eq_true h1
      go_enter Tryd.func66, Tryd.ntmps66
      go_wp2
      go_ret
      exact ⟨ret_boolD hv.out.symm, rfl⟩
    · have hv : Hid (inVal n = false) := Lib.hid (by unfold inVal; rw [decide_eq_false h1, Bool.and_false])
      have d0 : decide (-1000000000000000 ≤ n) = true := decide_eq_true h0
      have d1 : decide (n ≤ 1000000000000000) = false := decide_eq_false h1
      go_enter Tryd.func66, Tryd.ntmps66
      go_wp2
      go_ret
      exact ⟨ret_boolD hv.out.symm, rfl⟩
  · have hv : Hid (inVal n = false) := Lib.hid (by unfold inVal; rw [decide_eq_false h0]; rfl)
    have d0 : decide (-1000000000000000 ≤ n) = false := decide_eq_false h0
    go_enter Tryd.func66, Tryd.ntmps66
    go_wp2
    go_ret
    exact ⟨ret_boolD hv.out.symm, rfl⟩
theorem isv_spec (n : Int) (w : World) : Calls Tryd.prog 100 #[.int .i64 n, .int .i64 (-1000000000000000), .int .i64 1000000000000000] w fun e w' => e = .returned (.bool (inVal n)) ∧ w = w' := by
  by_cases h0 : -1000000000000000 ≤ n
  · by_cases h1 : n ≤ 1000000000000000
    · have hv := Lib.hid (inVal_in h0 h1)
      have d0 : decide (-1000000000000000 ≤ n) = true := decide_eq_true h0
      have d1 : decide (n ≤ 1000000000000000) = true := decide_eq_true h1
      go_enter Tryd.func100, Tryd.ntmps100
      go_wp2
      go_ret
      exact ⟨ret_boolD hv.out.symm, rfl⟩
    · have hv : Hid (inVal n = false) := Lib.hid (by unfold inVal; rw [decide_eq_false h1, Bool.and_false])
      have d0 : decide (-1000000000000000 ≤ n) = true := decide_eq_true h0
      have d1 : decide (n ≤ 1000000000000000) = false := decide_eq_false h1
      go_enter Tryd.func100, Tryd.ntmps100
      go_wp2
      go_ret
      exact ⟨ret_boolD hv.out.symm, rfl⟩
  · have hv : Hid (inVal n = false) := Lib.hid (by unfold inVal; rw [decide_eq_false h0]; rfl)
    have d0 : decide (-1000000000000000 ≤ n) = false := decide_eq_false h0
    go_enter Tryd.func100, Tryd.ntmps100
    go_wp2
    go_ret
    exact ⟨ret_boolD hv.out.symm, rfl⟩
/-- strconv's errors lie in the world that the call has entered, and in each that comes of it. -/
def Errs (w0 : World) : Prop := ∀ W, Below w0.heap.size w0 W → (∃ tp p, W.var? Tryd.prog "strconv.ErrSyntax" = some #[.iface tp p]) ∧ (∃ tp p, W.var? Tryd.prog "strconv.ErrRange" = some #[.iface tp p])
theorem var_below {w0 W : World} {g : Nat} {n : String} {cs : Array Value} (hg : Tryd.prog.globalNamed n = some g) (h : w0.var? Tryd.prog n = some cs) (hb : Below w0.heap.size w0 W) : W.var? Tryd.prog n = some cs := by
  unfold World.var? at *
  rw [hg] at h ⊢
  simp only [Option.bind_some] at h ⊢
  cases hx : w0.heap[g]? with
  | none => rw [hx] at h; simp at h
  | some o =>
    rw [hb.block g (Array.getElem?_eq_some_iff.1 hx).1, hx]
    rw [hx] at h
    exact h
theorem Errs.of {w0 : World} {t1 t2 : TypeId} {p1 p2 : Value} (h1 : w0.var? Tryd.prog "strconv.ErrSyntax" = some #[.iface t1 p1]) (h2 : w0.var? Tryd.prog "strconv.ErrRange" = some #[.iface t2 p2]) : Errs w0 := fun W hb =>
  ⟨⟨t1, p1, var_below (g := 1) (by kernel_rfl) h1 hb⟩, ⟨t2, p2, var_below (g := 2) (by kernel_rfl) h2 hb⟩⟩
theorem txB_eq {a b : ByteArray} (h : a.data.toList = b.data.toList) : a = b := by
  cases a; cases b
  simp only [ByteArray.mk.injEq]
  exact Array.toList_inj.1 h
theorem txB_list (l : List UInt8) : (txB l).data.toList = l := by unfold txB; simp
set_option maxRecDepth 100000 in
set_option maxHeartbeats 2000000 in
theorem rd_yes (s : ByteArray) (v : Int) (hv : rdO s.data.toList = some v) (hs : s.size ≤ 1048576) (w0 w : World) (hp : Pow w0) (hb : Below w0.heap.size w0 w) :
    Calls Tryd.prog 18 #[.string s] w fun e w' => e = .returned (.tuple #[.int .i64 v, .bool true]) ∧ Below w.heap.size w w' := by
  have hr := rdO_some hv
  have HPI := Lib.hid (fun W => Tryd.strconv_ParseInt_10_at64_ok s (by omega) v (rdO_atoi hv) W)
  have HIV := Lib.hid (fun W => isv_impl v W)
  rw [inVal_in hr.1 hr.2.1] at HIV
  have HDC := Lib.hid (fun W (h : Below w0.heap.size w0 W) => dec_impl v (by omega) (by omega) w0 W hp h)
  rw [show txB (Lib.itoa v) = s from txB_eq (by rw [txB_list]; exact hr.2.2)] at HDC
  have HB0 := Lib.hid hb
  clear hr hp hb hv
  go_enter Tryd.func18, Tryd.ntmps18
  go_wp2_with (first
    | (go_at_call 65; refine (HPI.out _).mono ?_; rintro e w2 ⟨rfl, hw2⟩; have HB : Hid (Below w.heap.size w w2) := Lib.hid (by rcases hw2 with rfl | ⟨t, rfl⟩; exact Below.refl _ _; exact Lib.bytesWorld_below _ _ _); clear hw2)
    | (go_at_call 66; refine (HIV.out _).mono ?_; rintro e w3 ⟨rfl, hw3⟩; subst hw3)
    | (go_at_call 16; refine (HDC.out _ (Below.next HB0.out HB.out)).mono ?_; rintro e w4 ⟨rfl, hb4⟩; have HB4 := Lib.hid (Below.next HB.out hb4); clear hb4)
    | fail)
  go_ret2
  exact ⟨rfl, HB4.out⟩
set_option maxRecDepth 100000 in
set_option maxHeartbeats 2000000 in
theorem rd_no (s : ByteArray) (hv : rdO s.data.toList = none) (hs : s.size ≤ 1048576) (w0 w : World) (hp : Pow w0) (he : Errs w0) (hb : Below w0.heap.size w0 w) :
    Calls Tryd.prog 18 #[.string s] w fun e w' => e = .returned (.tuple #[.int .i64 0, .bool false]) ∧ Below w.heap.size w w' := by
  cases hpi : Lib.parseIntB 64 s.data.toList
  · rename_i v
    have hbd := Lib.parseIntB_bounds hpi
    have hbd0 : -9223372036854775808 ≤ v := by have := hbd.1; simpa using this
    have hbd1 : v ≤ 9223372036854775807 := by have := hbd.2; simp at this; omega
    have HPI := Lib.hid (fun W => Tryd.strconv_ParseInt_10_at64_ok s (by omega) v hpi W)
    have HB0 := Lib.hid hb
    clear hbd hpi
    cases hin : inVal v
    · have HIV := Lib.hid (fun W => isv_impl v W)
      rw [hin] at HIV
      clear hin hp he hb hv
      go_enter Tryd.func18, Tryd.ntmps18
      go_wp2_with (first
        | (go_at_call 65; refine (HPI.out _).mono ?_; rintro e w2 ⟨rfl, hw2⟩; have HB : Hid (Below w.heap.size w w2) := Lib.hid (by rcases hw2 with rfl | ⟨t, rfl⟩; exact Below.refl _ _; exact Lib.bytesWorld_below _ _ _); clear hw2)
        | (go_at_call 66; refine (HIV.out _).mono ?_; rintro e w3 ⟨rfl, hw3⟩; subst hw3)
        | fail)
      go_ret2
      exact ⟨rfl, HB.out⟩
    · have HIV := Lib.hid (fun W => isv_impl v W)
      rw [hin] at HIV
      have hvi := inVal_out hin
      have hne := rdO_none hv hvi.1 hvi.2
      have HDC := Lib.hid (fun W (h : Below w0.heap.size w0 W) => dec_impl v (by omega) (by omega) w0 W hp h)
      generalize Lib.itoa v = L at HDC hne
      have hs1 : ((txB L).toList == s.toList) = false := by
        rw [ByteArray.toList_eq, ByteArray.toList_eq, txB_list, beq_eq_false_iff_ne]; exact hne
      clear hin hp he hb hv hne hvi
      go_enter Tryd.func18, Tryd.ntmps18
      go_wp2_with (first
        | (go_at_call 65; refine (HPI.out _).mono ?_; rintro e w2 ⟨rfl, hw2⟩; have HB : Hid (Below w.heap.size w w2) := Lib.hid (by rcases hw2 with rfl | ⟨t, rfl⟩; exact Below.refl _ _; exact Lib.bytesWorld_below _ _ _); clear hw2)
        | (go_at_call 66; refine (HIV.out _).mono ?_; rintro e w3 ⟨rfl, hw3⟩; subst hw3)
        | (go_at_call 16; refine (HDC.out _ (Below.next HB0.out HB.out)).mono ?_; rintro e w4 ⟨rfl, hb4⟩; have HB4 := Lib.hid (Below.next HB.out hb4); clear hb4)
        | fail)
      go_ret2
      exact ⟨rfl, HB4.out⟩
  · obtain ⟨⟨tp, p, hvar⟩, _⟩ := he w hb
    have HPI := Lib.hid (Tryd.strconv_ParseInt_10_at64_syntax_var s (by omega) hpi tp p w hvar)
    clear hvar hpi hb hp hv he
    go_enter Tryd.func18, Tryd.ntmps18
    go_wp2_with (first
      | (go_at_call 65; refine HPI.out.mono ?_; rintro e w2 ⟨N, rfl, _, _, hb2⟩; have HB := Lib.hid hb2; clear hb2)
      | fail)
    go_ret2
    exact ⟨rfl, HB.out⟩
  · obtain ⟨_, ⟨tp, p, hvar⟩⟩ := he w hb
    have HPI := Lib.hid (Tryd.strconv_ParseInt_10_at64_range_var s (by omega) hpi tp p w hvar)
    clear hvar hpi hb hp hv he
    generalize Lib.intSat 64 s.data.toList = n9 at HPI
    go_enter Tryd.func18, Tryd.ntmps18
    go_wp2_with (first
      | (go_at_call 65; refine HPI.out.mono ?_; rintro e w2 ⟨N, rfl, _, _, hb2⟩; have HB := Lib.hid hb2; clear hb2)
      | fail)
    go_ret2
    exact ⟨rfl, HB.out⟩
/-- The digits of a text, step by step. -/
theorem vD_step (l : List UInt8) (k : Nat) (hk : k < l.length) : vD 0 (l.take (k + 1)) = if 48 ≤ (l[k]).toNat ∧ (l[k]).toNat ≤ 57 then 10 * vD 0 (l.take k) + ((l[k]).toNat - 48) else vD 0 (l.take k) := by
  rw [List.take_succ_eq_append_getElem hk, vD_app]
  rfl
theorem vD_b17 (l : List UInt8) (k : Nat) (hk : k ≤ 17) : vD 0 (l.take k) < 100000000000000000 := by
  have h := vD_lt (l.take k) 0
  have h2 : (l.take k).length ≤ 17 := by rw [List.length_take]; omega
  have h3 : 10 ^ (l.take k).length ≤ 10 ^ 17 := Nat.pow_le_pow_right (by omega) h2
  omega
def RdPost (s : ByteArray) (w : World) (e : Ending) (w' : World) : Prop := (∀ v, rdO s.data.toList = some v → e = .returned (.tuple #[.int .i64 v, .bool true])) ∧ (rdO s.data.toList = none → e = .returned (.tuple #[.int .i64 0, .bool false])) ∧ Below w.heap.size w w'
theorem RdPost.some {s : ByteArray} {w w' : World} {v : Int} (h : rdO s.data.toList = some v) (hb : Below w.heap.size w w') : RdPost s w (.returned (.tuple #[.int .i64 v, .bool true])) w' :=
  ⟨(fun u hu => by rw [h] at hu; injection hu with hu; rw [hu]), (fun hn => by rw [h] at hn; cases hn), hb⟩
theorem RdPost.none {s : ByteArray} {w w' : World} (h : rdO s.data.toList = none) (hb : Below w.heap.size w w') : RdPost s w (.returned (.tuple #[.int .i64 0, .bool false])) w' :=
  ⟨(fun u hu => by rw [h] at hu; cases hu), fun _ => rfl, hb⟩
set_option maxRecDepth 100000 in
set_option maxHeartbeats 4000000 in
theorem rv_spec (s : ByteArray) (hs : s.size ≤ 1048576) (w : World) :
    Calls Tryd.prog 64 #[.string s] w (RdPost s w) := by
  have hsz : s.data.toList.length = s.size := Array.length_toList
  by_cases hl : 1 ≤ s.size ∧ s.size ≤ 17
  · have d1 : decide ((s.size : Int) < 1) = false := decide_eq_false (by omega)
    have d2 : decide (17 < (s.size : Int)) = false := decide_eq_false (by omega)
    obtain ⟨hl1, hl2⟩ := hl
    have HSZ := Lib.hid hsz
    clear hsz
    go_enter Tryd.func64, Tryd.ntmps64
    go_wp2
    go_loop [4, 5] (fun nv iv => ∃ k : Nat, k ≤ s.size ∧ iv = .int .i64 k ∧ nv = .int .i64 (vD 0 (s.data.toList.take k) : Nat)) (fun _ iv => s.size - (intOf iv).toNat)
    case atStart => exact ⟨0, by omega, rfl, rfl⟩
    case round =>
      obtain ⟨k, hk, rfl, rfl⟩ := hrel
      have hb := vD_b17 s.data.toList k (by omega)
      by_cases hlt : k < s.size
      · have hst := vD_step s.data.toList k (by have := HSZ.out; omega)
        have hb2 := vD_b17 s.data.toList (k + 1) (by omega)
        have hgk : s.data.toList[k]'(by have := HSZ.out; omega) = s[k]'hlt := rfl
        rw [hgk] at hst
        obtain ⟨V, hV⟩ : ∃ V, V = vD 0 (s.data.toList.take k) := ⟨_, rfl⟩
        obtain ⟨V2, hV2⟩ : ∃ V2, V2 = vD 0 (s.data.toList.take (k + 1)) := ⟨_, rfl⟩
        rw [← hV] at hst hb ⊢
        rw [← hV2] at hst hb2
        have HV2 := Lib.hid hV2
        clear hV hV2 hgk
        obtain ⟨x, hx⟩ : ∃ x, (s[k]'hlt).toNat = x := ⟨_, rfl⟩
        rw [hx] at hst
        have hx9 : x ≤ 255 := by have := (s[k]'hlt).toNat_lt; omega
        by_cases h0 : 48 ≤ x
        · have e0 : decide (48 ≤ (x : Int)) = true := decide_eq_true (by omega)
          by_cases h1 : x ≤ 57
          · have e1 : decide ((x : Int) ≤ 57) = true := decide_eq_true (by omega)
            rw [if_pos ⟨h0, h1⟩] at hst
            have hw1 : IntKind.u8.wrap ((x : Int) - 48) = (x : Int) - 48 := by rw [IntKind.wrap_u8]; omega
            have HE : Hid ((V2 : Int) = 10 * (V : Int) + ((x : Int) - 48)) := Lib.hid (by omega)
            clear hst h0
            go_wp2
            go_round
            case rel => exact ⟨k + 1, by omega, by go_num, by rw [← HV2.out, HE.out]⟩
            case measure => simp [intOf]; omega
          · have e1 : decide ((x : Int) ≤ 57) = false := decide_eq_false (by omega)
            rw [if_neg (by omega)] at hst
            have HE := Lib.hid hst
            clear hst h0
            go_wp2
            go_round
            case rel => exact ⟨k + 1, by omega, by go_num, by rw [← HV2.out, HE.out]⟩
            case measure => simp [intOf]; omega
        · have e0 : decide (48 ≤ (x : Int)) = false := decide_eq_false (by omega)
          rw [if_neg (by omega)] at hst
          have HE := Lib.hid hst
          clear hst h0
          go_wp2
          go_round
          case rel => exact ⟨k + 1, by omega, by go_num, by rw [← HV2.out, HE.out]⟩
          case measure => simp [intOf]; omega
      · obtain rfl : k = s.size := by omega
        have hV0 : s.data.toList.take s.size = s.data.toList := List.take_of_length_le (by have := HSZ.out; omega)
        rw [hV0] at hb ⊢
        obtain ⟨V, hV⟩ : ∃ V, vD 0 s.data.toList = V := ⟨_, rfl⟩
        rw [hV] at hb ⊢
        clear hV0
        obtain ⟨r, hR⟩ : ∃ r, r = sgD s.data.toList := ⟨_, rfl⟩
        have h00 : s.data.toList[0]? = some (s[0]'(by omega)) := by
          rw [List.getElem?_eq_getElem (by have := HSZ.out; omega)]; rfl
        by_cases hh45 : s.data.toList.head? = some 45
        · have hc45 : ((s[0]'(by omega)).toNat : Int) = 45 := by
            rw [List.head?_eq_getElem?, h00] at hh45
            injection hh45 with hh45
            rw [hh45]; rfl
          clear h00
          have hr : r = -(V : Int) := by rw [hR]; unfold sgD; rw [if_pos hh45, hV]
          have HR := Lib.hid hR
          have hrl : -100000000000000000 ≤ r := by omega
          have hru : r ≤ 100000000000000000 := by omega
          have HDC := Lib.hid (fun W => dec_spec r (by omega) (by omega) W)
          have HIV := Lib.hid (fun W => isv_spec r W)
          have hm : IntKind.i64.wrap (-(V : Int)) = r := by rw [hr]; exact IntWalk.i64_in _ (by omega)
          clear hR hh45
          have hm2 : -(V : Int) = r := hr.symm
          clear hr
          by_cases hin : inVal r = true
          · rw [hin] at HIV
            by_cases heq : Lib.itoa r = s.data.toList
            · skip
              have HRD : Hid (rdO s.data.toList = some r) := Lib.hid (by unfold rdO; rw [← HR.out, if_pos ⟨hin, heq⟩])
              rw [show txB (Lib.itoa r) = s from txB_eq (by rw [txB_list]; exact heq)] at HDC
              clear hin heq
              go_wp2_with (first | (go_at_call 100; refine (HIV.out _).mono ?_; rintro e w3 ⟨rfl, hw3⟩; subst hw3) | (go_at_call 62; refine (HDC.out _).mono ?_; rintro e w4 ⟨rfl, hb4⟩; have HB4 := Lib.hid hb4; clear hb4) | fail)
              go_ret2
              exact RdPost.some HRD.out HB4.out
            · skip
              have HRD : Hid (rdO s.data.toList = none) := Lib.hid (by unfold rdO; rw [← HR.out, if_neg (fun h => heq h.2)])
              generalize Lib.itoa r = L at HDC heq
              have hs1 : ((txB L).toList == s.toList) = false := by
                rw [ByteArray.toList_eq, ByteArray.toList_eq, txB_list, beq_eq_false_iff_ne]; exact heq
              clear hin heq
              go_wp2_with (first | (go_at_call 100; refine (HIV.out _).mono ?_; rintro e w3 ⟨rfl, hw3⟩; subst hw3) | (go_at_call 62; refine (HDC.out _).mono ?_; rintro e w4 ⟨rfl, hb4⟩; have HB4 := Lib.hid hb4; clear hb4) | fail)
              go_ret2
              exact RdPost.none HRD.out HB4.out
          · have hin : inVal r = false := by cases h : inVal r <;> simp_all
            rw [hin] at HIV
            have HRD : Hid (rdO s.data.toList = none) := Lib.hid (by unfold rdO; rw [← HR.out, if_neg (by rw [hin]; intro h; exact absurd h.1 (by simp))])
            clear hin
            go_wp2_with (first | (go_at_call 100; refine (HIV.out _).mono ?_; rintro e w3 ⟨rfl, hw3⟩; subst hw3) | fail)
            go_ret2
            exact RdPost.none HRD.out (Below.refl _ _)
        · have hc45 : (((s[0]'(by omega)).toNat : Int) == 45) = false := by
            rw [List.head?_eq_getElem?, h00] at hh45
            rw [beq_eq_false_iff_ne]
            intro e
            refine hh45 (congrArg some (UInt8.toNat_inj.1 ?_))
            show _ = 45
            omega
          clear h00
          have hr : r = (V : Int) := by rw [hR]; unfold sgD; rw [if_neg hh45, hV]
          have HR := Lib.hid hR
          have hrl : -100000000000000000 ≤ r := by omega
          have hru : r ≤ 100000000000000000 := by omega
          have HDC := Lib.hid (fun W => dec_spec r (by omega) (by omega) W)
          have HIV := Lib.hid (fun W => isv_spec r W)
          have hm : (V : Int) = r := hr.symm
          clear hR hh45
          rw [hm]
          clear hr
          clear hm hV
          by_cases hin : inVal r = true
          · rw [hin] at HIV
            by_cases heq : Lib.itoa r = s.data.toList
            · skip
              have HRD : Hid (rdO s.data.toList = some r) := Lib.hid (by unfold rdO; rw [← HR.out, if_pos ⟨hin, heq⟩])
              rw [show txB (Lib.itoa r) = s from txB_eq (by rw [txB_list]; exact heq)] at HDC
              clear hin heq
              go_wp2_with (first | (go_at_call 100; refine (HIV.out _).mono ?_; rintro e w3 ⟨rfl, hw3⟩; subst hw3) | (go_at_call 62; refine (HDC.out _).mono ?_; rintro e w4 ⟨rfl, hb4⟩; have HB4 := Lib.hid hb4; clear hb4) | fail)
              go_ret2
              exact RdPost.some HRD.out HB4.out
            · skip
              have HRD : Hid (rdO s.data.toList = none) := Lib.hid (by unfold rdO; rw [← HR.out, if_neg (fun h => heq h.2)])
              generalize Lib.itoa r = L at HDC heq
              have hs1 : ((txB L).toList == s.toList) = false := by
                rw [ByteArray.toList_eq, ByteArray.toList_eq, txB_list, beq_eq_false_iff_ne]; exact heq
              clear hin heq
              go_wp2_with (first | (go_at_call 100; refine (HIV.out _).mono ?_; rintro e w3 ⟨rfl, hw3⟩; subst hw3) | (go_at_call 62; refine (HDC.out _).mono ?_; rintro e w4 ⟨rfl, hb4⟩; have HB4 := Lib.hid hb4; clear hb4) | fail)
              go_ret2
              exact RdPost.none HRD.out HB4.out
          · have hin : inVal r = false := by cases h : inVal r <;> simp_all
            rw [hin] at HIV
            have HRD : Hid (rdO s.data.toList = none) := Lib.hid (by unfold rdO; rw [← HR.out, if_neg (by rw [hin]; intro h; exact absurd h.1 (by simp))])
            clear hin
            go_wp2_with (first | (go_at_call 100; refine (HIV.out _).mono ?_; rintro e w3 ⟨rfl, hw3⟩; subst hw3) | fail)
            go_ret2
            exact RdPost.none HRD.out (Below.refl _ _)
  · have HRD : Hid (rdO s.data.toList = none) := Lib.hid (by
      cases h : rdO s.data.toList with
      | none => rfl
      | some v => exact absurd (rdO_len h) (by rw [hsz]; exact hl))
    have hx : s.size = 0 ∨ 17 < s.size := by omega
    clear hl hsz
    rcases hx with hx | hx
    · have d1 : decide ((s.size : Int) < 1) = true := decide_eq_true (by omega)
      clear hx
      go_enter Tryd.func64, Tryd.ntmps64
      go_wp2
      go_ret2
      exact RdPost.none HRD.out (Below.refl _ _)
    · have d1 : decide ((s.size : Int) < 1) = false := decide_eq_false (by omega)
      have d2 : decide (17 < (s.size : Int)) = true := decide_eq_true (by omega)
      clear hx
      go_enter Tryd.func64, Tryd.ntmps64
      go_wp2
      go_ret2
      exact RdPost.none HRD.out (Below.refl _ _)
end Go.Proofs.YthkabonnclfhmaaDoor
