/- Letters that are merged, undone: the program's parts. -/
import Derived.Test.YtbpmjgpfjlnlpaaUmv
import Derived.Test.YtbpmjgpfjlnlpaaItw
namespace Go.Proofs.Ytbpmjgpfjlnlpaa
open Go.Proofs.Ytbpmjgpfjlnlpaa.Flo Go.RowKit

/-- A row of ints that the call made, or one without numbers. -/
def RV (w0 w : World) (v : Value) (L : List Int) : Prop :=
  (L.length = 0 ∧ ∃ a cp, v = .slice a 0 cp) ∨ (L.length ≠ 0 ∧ ∃ g cp, v = .slice (some ⟨g, 0, none⟩) L.length cp ∧ New w0 w g (.il L.length L))
theorem RV.form {w0 w : World} {v : Value} {L : List Int} (h : RV w0 w v L) : ∃ a cp, v = .slice a L.length cp ∧ IRow w a L.length L := by
  rcases h with ⟨h0, a, cp, rfl⟩ | ⟨h0, g, cp, rfl, hn⟩
  · exact ⟨a, cp, by rw [h0], rfl, .inl h0⟩
  · exact ⟨_, cp, rfl, (ICl.of hn).row⟩
theorem RV.below {w0 w w' : World} {v : Value} {L : List Int} (h : RV w0 w v L) (hb : Below w.heap.size w w') : RV w0 w' v L := by
  rcases h with h | ⟨h0, g, cp, e, hn⟩
  · exact .inl h
  · exact .inr ⟨h0, g, cp, e, ICl.new ((ICl.of hn).below hb) hn.1 (Below.next hn.2.2.2 hb)⟩
theorem RV.base {w0 w1 w : World} {v : Value} {L : List Int} (h : RV w1 w v L) (hb : Below w0.heap.size w0 w1) : RV w0 w v L := by
  rcases h with h | ⟨h0, g, cp, e, hn⟩
  · exact .inl h
  · exact .inr ⟨h0, g, cp, e, Nat.le_trans hb.size hn.1, hn.2.1, hn.2.2.1, Below.next hb hn.2.2.2⟩
theorem RV.own {w0 w : World} {T : TypeId} {v : Value} {L : List Int} (h : w.ownsRow w0.heap.size T 1 v L.length (L.map (Value.int .i64))) (hb : Below w0.heap.size w0 w) : RV w0 w v L := by
  by_cases h0 : L.length = 0
  · refine .inl ⟨h0, ?_⟩
    rcases h.2 with ⟨e, _⟩ | ⟨g, cap, cur, e, _⟩
    · exact ⟨none, 0, e⟩
    · exact ⟨_, cap, by rw [e, h0]⟩
  · obtain ⟨g, cp, rfl, hg, hgl⟩ := World.ownsRow.form h (by omega)
    obtain ⟨hc, hg2⟩ := ICl.own h h0
    exact .inr ⟨h0, g, cp, rfl, hc.new hg2 hb⟩
theorem irow_part {w : World} {b o n i : Nat} {zs : List Int} (h : IRow w (some ⟨b, o, none⟩) n zs) (hi : i + 2 ≤ n) : IRow w (some ⟨b, o + i, none⟩) 2 [zs.getD i 0, zs.getD (i + 1) 0] := by
  rcases h.2 with h0 | ⟨b1, o1, e, hb, hc⟩
  · omega
  · injection e with e
    injection e with e1 e2
    subst e1; subst e2
    refine ⟨rfl, .inr ⟨b, o + i, rfl, hb, fun j hj => ?_⟩⟩
    have hj2 : j = 0 ∨ j = 1 := by omega
    rcases hj2 with rfl | rfl
    · exact hc i (by omega)
    · have := hc (i + 1) (by omega)
      rw [show o + (i + 1) = o + i + 1 by omega] at this
      exact this
theorem app_two (L : List Int) (x y : Int) : (L ++ [x, y]).map (Value.int .i64) = L.map (Value.int .i64) ++ [.int .i64 x, .int .i64 y] := by simp
theorem app_one (L : List Int) (x : Int) : (L ++ [x]).map (Value.int .i64) = L.map (Value.int .i64) ++ [.int .i64 x] := by simp
set_option maxRecDepth 100000 in
set_option maxHeartbeats 4000000 in
theorem un_impl (a : Option Addr) (n cap : Nat) (L : List Int) (pb po pc : Nat) (x y l : Int) (w : World) (h : IRow w a n L) (hp : IRow w (some ⟨pb, po, none⟩) 2 [x, y]) (hn : n ≤ 16384) :
    Calls Try.prog 92 #[.slice a n cap, .slice (some ⟨pb, po, none⟩) 2 pc, .int .i64 l] w fun e w' => ∃ v, e = .returned v ∧ RV w w' v (unP L x y l n) ∧ Below w.heap.size w w' := by
  obtain ⟨i0, hi, hz0, hz1, hz2⟩ := info_parts Try.info64
  have HA := Lib.hid h
  have HP := Lib.hid hp
  clear h hp
  go_enter Try.func92, Try.ntmps92
  go_wp2
  go_loopw [7, 12] (fun v0 iv wr0 => ∃ (k : Nat) (v : Value) (wr : World), k ≤ n ∧ v = v0 ∧ iv = .int .i64 k ∧ wr = wr0 ∧ Hid (wr.ownsRow w.heap.size 2 1 v (unP L x y l k).length ((unP L x y l k).map (Value.int .i64))) ∧ Hid (Below w.heap.size w wr)) (fun _ iv _ => n - (intOf iv).toNat)
  case atStart => exact ⟨0, _, _, by omega, rfl, rfl, rfl, Lib.hid (World.ownsRow_nil _ _ _ _), Lib.hid (Below.refl _ _)⟩
  case round =>
    obtain ⟨k, v, wr, hk, rfl, rfl, rfl, HO, HW⟩ := hrel
    by_cases hlt : k < n
    · obtain ⟨b1, o1, rfl, hblt, hck1⟩ := (HA.out.below HW.out).cell' hlt
      have HO1 := Lib.hid HO.out
      have HNE := Lib.hid (own_block HO.out)
      have hsz := HW.out.size
      have hln := unP_len L x y l k
      have HL : Hid (unP L x y l (k + 1) = unP L x y l k ++ (if L.getD k 0 = l then [x, y] else [L.getD k 0])) := Lib.hid rfl
      clear HO
      generalize unP L x y l k = R at HO1 hln HL
      obtain ⟨hl1, hl2⟩ := hln
      by_cases hc : L.getD k 0 = l
      · have HL2 : Hid (unP L x y l (k + 1) = R ++ [x, y]) := Lib.hid (by rw [HL.out, if_pos hc])
        have HN2 : Hid ((unP L x y l (k + 1)).length = R.length + 2) := Lib.hid (by rw [HL2.out]; simp)
        clear HL
        rw [hc] at hck1
        have hbb : (l == l) = true := by simp
        clear hc
        go_wp2_with (first | (at_builtin; refine wpList_append_lies _ rfl _ _ 38 rfl (w.heap.size) 2 i0 (.int .i64 0) 1 8 Try.underlying38 hi hz0 hz1 hz2 rfl (by omega) v R.length (R.map (Value.int .i64)) rfl HO1.out ⟨pb, po, none⟩ 2 pc ([x, y].map (Value.int .i64)) rfl rfl (irow_news (HP.out.below HW.out)) (one_cellsI [x, y]) (by omega) (by unfold maxLen; omega) (by omega) hsz (wr.heap.size) rfl ?_; intro gg cp w3 hown1 hgrow hat hlt2; have HO2 := Lib.hid hown1; have HG2 := Lib.hid hgrow; clear hown1 hgrow hat hlt2) | fail)
        exact ⟨⟨k + 1, _, _, by omega, rfl, by first | rfl | go_num | (congr 1), rfl, Lib.hid (by rw [HN2.out, HL2.out, app_two]; exact HO2.out), Lib.hid (Below.grown HW.out HG2.out hsz HNE.out)⟩, by show n - ((k : Int) + 1).toNat < n - (k : Int).toNat; omega⟩
      · have HL2 : Hid (unP L x y l (k + 1) = R ++ [L.getD k 0]) := Lib.hid (by rw [HL.out, if_neg hc])
        have HN2 : Hid ((unP L x y l (k + 1)).length = R.length + 1) := Lib.hid (by rw [HL2.out]; simp)
        clear HL
        generalize L.getD k 0 = c at hck1 hc HL2
        have hbb : (c == l) = false := by simpa using hc
        clear hc
        go_wp2_with (first | (at_builtin; refine wpList_append_lies _ rfl _ _ 38 rfl (w.heap.size) 2 i0 (.int .i64 0) 1 8 Try.underlying38 hi hz0 hz1 hz2 rfl (by omega) v R.length (R.map (Value.int .i64)) rfl (World.ownsRow.alloc HO1.out _) ⟨wr.heap.size, 0, none⟩ 1 1 [.int .i64 c] rfl rfl (World.news_of_block (cs := #[.int .i64 c]) (t := 2) (fr := (0, 0)) (heap_alloc_new _ _)) (by simp [Value.oneCell']) (by omega) (by unfold maxLen; omega) (by omega) (by simp; omega) (wr.heap.size + 1) (by simp) ?_; intro gg cp w3 hown1 hgrow hat hlt2; have HO2 := Lib.hid hown1; have HG2 := Lib.hid hgrow; clear hown1 hgrow hat hlt2) | fail)
        exact ⟨⟨k + 1, _, _, by omega, rfl, by first | rfl | go_num | (congr 1), rfl, Lib.hid (by rw [HN2.out, HL2.out, app_one]; exact HO2.out), Lib.hid (Below.grown (Below.alloc HW.out hsz _) HG2.out (by simp; omega) HNE.out)⟩, by show n - ((k : Int) + 1).toNat < n - (k : Int).toNat; omega⟩
    · obtain rfl : k = n := by omega
      go_wp2
      go_ret
      exact ⟨_, rfl, RV.own HO.out HW.out, HW.out⟩
set_option maxRecDepth 100000 in
set_option maxHeartbeats 4000000 in
theorem ru_impl (a : Option Addr) (q cap : Nat) (rs : List Int) (x : Int) (w : World) (h : IRow w a q rs) (hq : q ≤ 1048576) (hx : 2 ≤ x ∧ x ≤ 16) :
    Calls Try.prog 89 #[.slice a q cap, .int .i64 x] w fun e w' => e = .returned (.bool (ruB rs x q)) ∧ w = w' := by
  have HA := Lib.hid h
  obtain ⟨hx1, hx2⟩ := hx
  clear h
  by_cases h2 : q % 2 = 0
  · have hrm : ((q : Int)).tmod 2 = 0 := by rw [Int.tmod_eq_emod_of_nonneg (by omega)]; omega
    by_cases h16 : q ≤ 16
    · have hd : decide (16 < (q : Int)) = false := decide_eq_false (by omega)
      have HE : Hid (ruB rs x q = decide (ruP rs x q)) := Lib.hid (by unfold ruB; rw [decide_eq_true (⟨h2, h16⟩ : q % 2 = 0 ∧ q ≤ 16)]; simp)
      go_enter Try.func89, Try.ntmps89
      go_wp2
      go_loop [18] (fun iv => ∃ k : Nat, k ≤ q ∧ Hid (ruP rs x k) ∧ iv = .int .i64 k) (fun iv => q - (intOf iv).toNat)
      case atStart => exact ⟨0, by omega, Lib.hid (by intro j hj; omega), rfl⟩
      case round =>
        obtain ⟨k, hk, HL, rfl⟩ := hrel
        by_cases hlt : k < q
        · obtain ⟨b1, o1, rfl, _, hck1⟩ := HA.out.cell' hlt
          have hqd : ((k : Int)).tdiv 2 = ((k / 2 : Nat) : Int) := by rw [Int.tdiv_eq_ediv_of_nonneg (by omega)]; omega
          have hk2 : k / 2 ≤ 8 := by omega
          by_cases hc : 0 ≤ rs.getD k 0 ∧ rs.getD k 0 < x + ((k / 2 : Nat) : Int)
          · have HN : Hid (ruP rs x (k + 1)) := Lib.hid (fun j hj => by
              by_cases e : j < k
              · exact HL.out j e
              · obtain rfl : j = k := by omega
                exact hc)
            obtain ⟨hc0, hc1⟩ := hc
            generalize rs.getD k 0 = c at hck1 hc0 hc1
            generalize k / 2 = kh at hqd hk2 hc1
            have d1 : decide (c < 0) = false := decide_eq_false (by omega)
            have d2 : decide (x + (kh : Int) ≤ c) = false := decide_eq_false (by omega)
            go_wp2
            go_round
            case rel => exact ⟨k + 1, by omega, HN, by go_num⟩
            case measure => simp [intOf]; omega
          · have HF : Hid (ruB rs x q = false) := Lib.hid (by rw [HE.out]; exact decide_eq_false (fun e => hc (e k hlt)))
            generalize rs.getD k 0 = c at hck1 hc
            generalize k / 2 = kh at hqd hk2 hc
            by_cases hc0 : 0 ≤ c
            · have d1 : decide (c < 0) = false := decide_eq_false (by omega)
              have d2 : decide (x + (kh : Int) ≤ c) = true := decide_eq_true (by omega)
              clear hc
              go_wp2
              go_ret
              exact ⟨ret_bool2 HF.out.symm, rfl⟩
            · have d1 : decide (c < 0) = true := decide_eq_true (by omega)
              clear hc
              go_wp2
              go_ret
              exact ⟨ret_bool2 HF.out.symm, rfl⟩
        · obtain rfl : k = q := by omega
          have HF : Hid (ruB rs x k = true) := Lib.hid (by rw [HE.out]; exact decide_eq_true HL.out)
          go_wp2
          go_ret
          exact ⟨ret_bool2 HF.out.symm, rfl⟩
    · have hd : decide (16 < (q : Int)) = true := decide_eq_true (by omega)
      have HF : Hid (ruB rs x q = false) := Lib.hid (by unfold ruB; rw [decide_eq_false (fun e => h16 e.2)]; rfl)
      go_enter Try.func89, Try.ntmps89
      go_wp2
      go_ret
      exact ⟨ret_bool2 HF.out.symm, rfl⟩
  · have hrm : ((q : Int)).tmod 2 = 1 := by rw [Int.tmod_eq_emod_of_nonneg (by omega)]; omega
    have HF : Hid (ruB rs x q = false) := Lib.hid (by unfold ruB; rw [decide_eq_false (fun e => h2 e.1)]; rfl)
    go_enter Try.func89, Try.ntmps89
    go_wp2
    go_ret
    exact ⟨ret_bool2 HF.out.symm, rfl⟩
set_option maxHeartbeats 2000000 in
theorem tn_true (a : Option Addr) (m cap : Nat) (zs : List Int) (x : Int) (w : World) (h : IRow w a m zs) (hm : m ≤ 1048576) (hok : itB zs m x = true) :
    Calls Try.prog 87 #[.slice a m cap, .int .i64 x] w fun e w' => e = .returned (.tuple #[.slice a m cap, .bool true]) ∧ w = w' := by
  have HA := Lib.hid h
  have HOK := Lib.hid hok
  clear h hok
  go_enter Try.func87, Try.ntmps87
  go_wp2_with (first | (go_at_call 82; refine (itx_impl a m cap zs x _ HA.out hm).mono ?_; rw [HOK.out]; rintro e w' ⟨rfl, rfl⟩) | fail)
  go_ret2
  exact ⟨rfl, rfl⟩
set_option maxHeartbeats 2000000 in
theorem tn_false (a : Option Addr) (m cap : Nat) (zs : List Int) (x : Int) (w : World) (h : IRow w a m zs) (hm : m ≤ 1048576) (hok : itB zs m x = false) :
    Calls Try.prog 87 #[.slice a m cap, .int .i64 x] w fun e w' => e = .returned (.tuple #[.slice none 0 0, .bool false]) ∧ w = w' := by
  have HA := Lib.hid h
  have HOK := Lib.hid hok
  clear h hok
  go_enter Try.func87, Try.ntmps87
  go_wp2_with (first | (go_at_call 82; refine (itx_impl a m cap zs x _ HA.out hm).mono ?_; rw [HOK.out]; rintro e w' ⟨rfl, rfl⟩) | fail)
  go_ret2
  exact ⟨rfl, rfl⟩
end Go.Proofs.Ytbpmjgpfjlnlpaa
