/- FrontOf, BackOfFront: the functions. -/
import Derived.Test.YtaalddkpldbdkaaFrx
namespace Go.Proofs.Ytaalddkpldbdkaa
open Go.Proofs.Ytaalddkpldbdkaa.Flo Go.RowKit

set_option maxRecDepth 100000 in
set_option maxHeartbeats 8000000 in
theorem frS (a : Option Addr) (m cap : Nat) (zs : List Int) (n : Int) (w : World) (ha : IRow w a m zs) (hm : m ≤ 1048576) (_hn9 : -9223372036854775808 ≤ n ∧ n ≤ 9223372036854775807) (hok : okF zs m n = true) (h0 : 0 < m) :
    Calls Try.prog 20 #[.slice a m cap, .int .i64 n] w fun e w' => ∃ g cp, e = .returned (.tuple #[.slice (some ⟨g, 0, none⟩) m cp, .bool true]) ∧ New w w' g (.il m (frO zs n.toNat m)) := by
  obtain ⟨i0, hi, hz0, hz1, hz2⟩ := info_parts Try.info64
  obtain ⟨hn, hm5, hl⟩ := okF_out hok
  obtain ⟨N, rfl⟩ : ∃ N : Nat, n = (N : Int) := ⟨n.toNat, by omega⟩
  have hN1 : 1 ≤ N := by omega
  have hN2 : N ≤ 16 := by omega
  have HA := Lib.hid ha
  have HLP := Lib.hid hl
  clear ha hn hl
  go_enter Try.func20, Try.ntmps20
  go_wp2_with (first | (go_at_call 54; refine (bl_spec _ m _ zs _ _ HA.out hm ⟨by omega, by omega⟩).mono ?_; rintro e w' ⟨rfl, rfl⟩) | (go_at_call 55; refine (or_spec N _ hN1 hN2).mono ?_; rintro e w1 ⟨g, lc, rfl, ho, hb⟩; have HO := Lib.hid ho; have HB1 := Lib.hid hb; clear ho hb) | go_in)
  go_loopw [7, 8] (fun v0 iv wr0 => ∃ (k : Nat) (v : Value) (wr : World), k ≤ m ∧ v = v0 ∧ iv = .int .i64 k ∧ wr = wr0 ∧ Hid (wr.ownsRow (w.heap.size) 2 1 (.slice (some ⟨g, 0, none⟩) N lc) (N) ((frL zs N (k)).map (Value.int .i64))) ∧ Hid (wr.ownsRow (g + 1) 2 1 (v) (k) ((frO zs N (k)).map (Value.int .i64))) ∧ Hid (Below w.heap.size w wr)) (fun _ iv _ => m - (intOf iv).toNat)
  case atStart => exact ⟨0, _, _, by omega, rfl, rfl, rfl, Lib.hid (HO.out.alloc _), Lib.hid ((own_empty w1 2).mono (by have := (own_lt HO.out).2; omega)), Lib.hid (Below.alloc HB1.out HB1.out.size _)⟩
  case round =>
    clear HO
    obtain ⟨k, v, wr, hk, rfl, rfl, rfl, HLL, HO, HW⟩ := hrel
    by_cases hlt : k < m
    · skip
      obtain ⟨b1, o1, rfl, hb1, hck0⟩ := HA.out.cell' hlt
      have hck1 := (HW.out.cell (p := ⟨b1, o1 + k, none⟩) hb1).trans hck0
      have hz := HLP.out k hlt
      obtain ⟨hlen, hfm⟩ := frL_ok HLP.out k hk
      have hmem := hfm _ hz.1 hz.2
      have hI := idxF_lt hmem
      have HON := Lib.hid (frO_on zs N k)
      have HST : Hid (frL zs N (k + 1) = mvF (frL zs N k) (idxF (frL zs N k) (zs.getD k 0))) := Lib.hid rfl
      have HX := Lib.hid (idxF_get hmem)
      have HBF : Hid (∀ j, j < idxF (frL zs N k) (zs.getD k 0) → ¬ (frL zs N k).getD j 0 = zs.getD k 0) := Lib.hid (fun j hj => idxF_before hj (by omega))
      have HMEM := Lib.hid hmem
      have HIX : Hid (idxF (frL zs N k) (zs.getD k 0) = idxF (frL zs N k) (zs.getD k 0)) := Lib.hid rfl
      rw [hlen] at hI
      clear hck0 hfm hmem
      have HC1 := Lib.hid hck1
      generalize hZe : zs.getD k 0 = Z at hck1 HC1 HX HBF HMEM hI HON HST HIX hz
      generalize hIe : idxF (frL zs N k) Z = I at hI HX HBF HON HST HIX
      have HIE := Lib.hid hIe
      clear hZe hIe
      have HOv := Lib.hid HO.out
      have HGL := Lib.hid (own_lt HLL.out).2
      have HGB := Lib.hid (own_lt HLL.out).1
      have HNE : Hid (∀ b, v.ownBlock = some b → w.heap.size ≤ b) := Lib.hid (fun b hb => by have h1 := (HO.out.lt b hb).1; have h2 := (own_lt HLL.out).1; omega)
      have HNL : Hid ((Value.slice (some ⟨g, 0, none⟩) N lc).ownBlock ≠ v.ownBlock) := Lib.hid (fun e => by have := (HO.out.lt g e.symm).1; omega)
      have HB5 : Hid (b1 < wr.heap.size) := Lib.hid (Nat.lt_of_lt_of_le hb1 HW.out.size)
      have HN5 : Hid (some b1 ≠ v.ownBlock) := Lib.hid (fun e => by have := HNE.out b1 e.symm; omega)
      go_wp2
      go_loopw [9] (fun jv w' => ∃ j q : Nat, j ≤ I ∧ jv = .int .i64 j ∧ w' = wr.drewN q) (fun jv _ => I - (intOf jv).toNat)
      case atStart => exact ⟨0, 0, by omega, rfl, rfl⟩
      case round =>
        obtain ⟨j, q, hj, rfl, rfl⟩ := hrel
        have hckL := own_cell HLL.out (j := j) (by omega)
        by_cases he : j = I
        · have he := he.symm
          subst he
          rw [HX.out] at hckL
          go_wp2
          go_region_with fail
          all_goals
            go_wp2_with (first | (at_builtin; refine wpList_append_lies _ rfl _ _ 22 rfl (g + 1) 2 i0 (.int .i64 0) 1 8 Try.underlying22 hi hz0 hz1 hz2 rfl (by omega) v k ((frO zs N k).map (Value.int .i64)) rfl (World.ownsRow.alloc HOv.out _) ⟨wr.heap.size, 0, none⟩ 1 1 [.int .i64 ((I : Int))] rfl rfl (World.news_of_block (cs := #[.int .i64 ((I : Int))]) (t := 2) (fr := (0, 0)) (heap_alloc_new _ _)) (by simp [Value.oneCell']) (by omega) (by unfold maxLen; omega) (by omega) (by have := HGL.out; simp; omega) (wr.heap.size + 1) (by simp) ?_; intro gg cp w5 hown1 hgrow hat hlt2; have HO2 := Lib.hid hown1; have HG2 := Lib.hid hgrow; have hc5 : w5.cell? ⟨b1, o1 + k, none⟩ = some (.int .i64 Z) := (by first | exact HG2.out.cell (cell_alc HC1.out HB5.out _) HN5.out | exact HG2.out.cell (cell_alq HC1.out HB5.out _ _) HN5.out); have HL5 : Hid (w5.ownsRow (w.heap.size) 2 1 (.slice (some ⟨g, 0, none⟩) N lc) (N) ((frL zs N (k)).map (Value.int .i64))) := Lib.hid (by first | exact (World.ownsRow.alloc HLL.out _).kept HG2.out (.inr HNL.out) | exact (World.ownsRow.alloc (own_drewN HLL.out _) _).kept HG2.out (.inr HNL.out)); have HW5 : Hid (Below w.heap.size w w5) := Lib.hid (by first | exact Below.grown (Below.alloc HW.out HW.out.size _) HG2.out (by have := HW.out.size; simp; omega) HNE.out | exact Below.grown (Below.alloc (Below.drewN' HW.out _) HW.out.size _) HG2.out (by have := HW.out.size; simp; omega) HNE.out); have HNG : Hid (∀ b, Value.ownBlock (.slice (some ⟨gg, 0, none⟩) (k + 1) cp) = some b → b ≠ g) := Lib.hid (fun b hb e => by have := (HO2.out.lt b hb).1; omega); clear hown1 hgrow hat hlt2) | (go_at_call 56; refine (ft_spec w.heap.size g N lc I (frL zs N k) _ HL5.out hI hN2).mono ?_; rintro e w6 ⟨rfl, ho6, hg6⟩; have HL6 := Lib.hid ho6; have HG6 := Lib.hid hg6; clear ho6 hg6) | go_in)
            exact ⟨⟨k + 1, _, _, by omega, rfl, by first | rfl | go_num | (congr 1), rfl, Lib.hid (by rw [HST.out]; exact HL6.out), Lib.hid (by rw [HON.out]; exact HO2.out.kept HG6.out (.inr (fun e => HNG.out g e rfl))), Lib.hid (Below.grown HW5.out HG6.out HW5.out.size (fun b hb => by cases hb; exact HGB.out))⟩, by show m - ((k : Int) + 1).toNat < m - (k : Int).toNat; omega⟩
        · have hne : ((frL zs N k).getD j 0 == Z) = false := by
            have := HBF.out j (by omega)
            simpa using this
          generalize (frL zs N k).getD j 0 = y at hckL hne
          go_wp2
          go_region_with fail
          all_goals
            go_wp2
            exact ⟨⟨j + 1, _, by omega, by first | rfl | go_num | (congr 1), rfl⟩, by show I - ((j : Int) + 1).toNat < I - (j : Int).toNat; omega⟩
    · obtain rfl : k = m := by omega
      obtain ⟨g2, cp, rfl, hg, hgl, hr, hf⟩ := own_irowF HO.out (by omega)
      have HGB := Lib.hid (own_lt HLL.out).1
      have HN := Lib.hid ((⟨by have := HGB.out; omega, hgl, Ent.il_ok hr hf, HW.out⟩ : New w wr g2 (.il k (frO zs N k))))
      clear hg hgl hr hf
      go_wp2
      go_ret2
      exact ⟨g2, cp, rfl, HN.out⟩
set_option maxRecDepth 100000 in
set_option maxHeartbeats 8000000 in
theorem frS0 (a : Option Addr) (m cap : Nat) (zs : List Int) (n : Int) (w : World) (ha : IRow w a m zs) (hm : m ≤ 1048576) (_hn9 : -9223372036854775808 ≤ n ∧ n ≤ 9223372036854775807) (hok : okF zs m n = true) (h0 : m = 0) :
    Calls Try.prog 20 #[.slice a m cap, .int .i64 n] w fun e w' => ∃ b cp, e = .returned (.tuple #[.slice b 0 cp, .bool true]) ∧ Below w.heap.size w w' := by
  obtain ⟨i0, hi, hz0, hz1, hz2⟩ := info_parts Try.info64
  obtain ⟨hn, hm5, hl⟩ := okF_out hok
  obtain ⟨N, rfl⟩ : ∃ N : Nat, n = (N : Int) := ⟨n.toNat, by omega⟩
  have hN1 : 1 ≤ N := by omega
  have hN2 : N ≤ 16 := by omega
  have HA := Lib.hid ha
  have HLP := Lib.hid hl
  clear ha hn hl
  subst h0
  go_enter Try.func20, Try.ntmps20
  go_wp2_with (first | (go_at_call 54; refine (bl_spec _ 0 _ zs _ _ HA.out hm ⟨by omega, by omega⟩).mono ?_; rintro e w' ⟨rfl, rfl⟩) | (go_at_call 55; refine (or_spec N _ hN1 hN2).mono ?_; rintro e w1 ⟨g, lc, rfl, ho, hb⟩; have HO := Lib.hid ho; have HB1 := Lib.hid hb; clear ho hb) | go_in)
  refine wp_loop_rounds 1 ?_
  rw [rounds_succ]
  go_wp2
  go_ret2
  exact ⟨_, _, rfl, by first | exact Below.alloc HB1.out HB1.out.size _ | exact HB1.out⟩
set_option maxRecDepth 100000 in
set_option maxHeartbeats 8000000 in
theorem frS' (a : Option Addr) (m cap : Nat) (zs : List Int) (n : Int) (w : World) (ha : IRow w a m zs) (hm : m ≤ 1048576) (_hn9 : -9223372036854775808 ≤ n ∧ n ≤ 9223372036854775807) (hok : okF zs m n = false) :
    Calls Try.prog 20 #[.slice a m cap, .int .i64 n] w fun e w' => e = .returned (.tuple #[.slice none 0 0, .bool false]) ∧ Below w.heap.size w w' := by
  have HA := Lib.hid ha
  clear ha
  go_enter Try.func20, Try.ntmps20
  go_wp2_with (first | (go_at_call 54; refine (bl_spec _ m _ zs _ _ HA.out hm ⟨by omega, by omega⟩).mono ?_; rintro e w' ⟨rfl, rfl⟩) | go_in)
  go_ret2
  exact ⟨rfl, Below.refl _ _⟩
set_option maxRecDepth 100000 in
set_option maxHeartbeats 8000000 in
theorem frI (a : Option Addr) (m cap : Nat) (zs : List Int) (n : Int) (w : World) (ha : IRow w a m zs) (hm : m ≤ 1048576) (_hn9 : -9223372036854775808 ≤ n ∧ n ≤ 9223372036854775807) (hok : okF zs m n = true) (h0 : 0 < m) :
    Calls Try.prog 22 #[.slice a m cap, .int .i64 n] w fun e w' => ∃ g cp, e = .returned (.tuple #[.slice (some ⟨g, 0, none⟩) m cp, .bool true]) ∧ New w w' g (.il m (frO zs n.toNat m)) := by
  obtain ⟨i0, hi, hz0, hz1, hz2⟩ := info_parts Try.info64
  obtain ⟨hn, hm5, hl⟩ := okF_out hok
  obtain ⟨N, rfl⟩ : ∃ N : Nat, n = (N : Int) := ⟨n.toNat, by omega⟩
  have hN1 : 1 ≤ N := by omega
  have hN2 : N ≤ 16 := by omega
  have HA := Lib.hid ha
  have HLP := Lib.hid hl
  have hl1 : decide (1 ≤ (N : Int) ∧ (N : Int) ≤ 16) = true := decide_eq_true hn
  have hl2 : letB zs m (N : Int) = true := by unfold letB; rw [decide_eq_true hl, decide_eq_true hm5]; rfl
  clear ha hn hl hok
  go_enter Try.func22, Try.ntmps22
  go_wp2_with (first | (go_at_call 57; refine (ll_impl _ _).mono ?_; rintro e w' ⟨rfl, rfl⟩) | (go_at_call 58; refine (al_impl _ m _ zs _ _ HA.out hm).mono ?_; rintro e w' ⟨rfl, rfl⟩) | (go_at_call 59; refine (or_impl N _ hN1 hN2).mono ?_; rintro e w1 ⟨g, lc, rfl, ho, hb⟩; have HO := Lib.hid ho; have HB1 := Lib.hid hb; clear ho hb) | go_in)
  go_loopw [6, 24] (fun v0 iv wr0 => ∃ (k : Nat) (v : Value) (wr : World), k ≤ m ∧ v = v0 ∧ iv = .int .i64 k ∧ wr = wr0 ∧ Hid (wr.ownsRow (w.heap.size) 2 1 (.slice (some ⟨g, 0, none⟩) N lc) (N) ((frL zs N (k)).map (Value.int .i64))) ∧ Hid (wr.ownsRow (g + 1) 2 1 (v) (k) ((frO zs N (k)).map (Value.int .i64))) ∧ Hid (Below w.heap.size w wr)) (fun _ iv _ => m - (intOf iv).toNat)
  case atStart => exact ⟨0, _, _, by omega, rfl, rfl, rfl, Lib.hid HO.out, Lib.hid (World.ownsRow_nil _ _ _ _), Lib.hid HB1.out⟩
  case round =>
    clear HO
    obtain ⟨k, v, wr, hk, rfl, rfl, rfl, HLL, HO, HW⟩ := hrel
    by_cases hlt : k < m
    · skip
      obtain ⟨b1, o1, rfl, hb1, hck0⟩ := HA.out.cell' hlt
      have hck1 := (HW.out.cell (p := ⟨b1, o1 + k, none⟩) hb1).trans hck0
      have hz := HLP.out k hlt
      obtain ⟨hlen, hfm⟩ := frL_ok HLP.out k hk
      have hmem := hfm _ hz.1 hz.2
      have hI := idxF_lt hmem
      have HON := Lib.hid (frO_on zs N k)
      have HST : Hid (frL zs N (k + 1) = mvF (frL zs N k) (idxF (frL zs N k) (zs.getD k 0))) := Lib.hid rfl
      have HX := Lib.hid (idxF_get hmem)
      have HBF : Hid (∀ j, j < idxF (frL zs N k) (zs.getD k 0) → ¬ (frL zs N k).getD j 0 = zs.getD k 0) := Lib.hid (fun j hj => idxF_before hj (by omega))
      have HMEM := Lib.hid hmem
      have HIX : Hid (idxF (frL zs N k) (zs.getD k 0) = idxF (frL zs N k) (zs.getD k 0)) := Lib.hid rfl
      rw [hlen] at hI
      clear hck0 hfm hmem
      have HC1 := Lib.hid hck1
      generalize hZe : zs.getD k 0 = Z at hck1 HC1 HX HBF HMEM hI HON HST HIX hz
      generalize hIe : idxF (frL zs N k) Z = I at hI HX HBF HON HST HIX
      have HIE := Lib.hid hIe
      clear hZe hIe
      have HOv := Lib.hid HO.out
      have HGL := Lib.hid (own_lt HLL.out).2
      have HGB := Lib.hid (own_lt HLL.out).1
      have HNE : Hid (∀ b, v.ownBlock = some b → w.heap.size ≤ b) := Lib.hid (fun b hb => by have h1 := (HO.out.lt b hb).1; have h2 := (own_lt HLL.out).1; omega)
      have HNL : Hid ((Value.slice (some ⟨g, 0, none⟩) N lc).ownBlock ≠ v.ownBlock) := Lib.hid (fun e => by have := (HO.out.lt g e.symm).1; omega)
      have HB5 : Hid (b1 < wr.heap.size) := Lib.hid (Nat.lt_of_lt_of_le hb1 HW.out.size)
      have HN5 : Hid (some b1 ≠ v.ownBlock) := Lib.hid (fun e => by have := HNE.out b1 e.symm; omega)
      go_wp2_with (first | (go_at_call 60; refine (ix_impl _ N _ (frL zs N k) Z _ (own_rowF HLL.out) HMEM.out (by omega)).mono ?_; rintro e w' ⟨rfl, rfl⟩; rw [HIE.out]) | (at_builtin; refine wpList_append_lies _ rfl _ _ 22 rfl (g + 1) 2 i0 (.int .i64 0) 1 8 Try.underlying22 hi hz0 hz1 hz2 rfl (by omega) v k ((frO zs N k).map (Value.int .i64)) rfl (World.ownsRow.alloc HOv.out _) ⟨wr.heap.size, 0, none⟩ 1 1 [.int .i64 ((I : Int))] rfl rfl (World.news_of_block (cs := #[.int .i64 ((I : Int))]) (t := 2) (fr := (0, 0)) (heap_alloc_new _ _)) (by simp [Value.oneCell']) (by omega) (by unfold maxLen; omega) (by omega) (by have := HGL.out; simp; omega) (wr.heap.size + 1) (by simp) ?_; intro gg cp w5 hown1 hgrow hat hlt2; have HO2 := Lib.hid hown1; have HG2 := Lib.hid hgrow; have hc5 : w5.cell? ⟨b1, o1 + k, none⟩ = some (.int .i64 Z) := (by first | exact HG2.out.cell (cell_alc HC1.out HB5.out _) HN5.out | exact HG2.out.cell (cell_alq HC1.out HB5.out _ _) HN5.out); have HL5 : Hid (w5.ownsRow (w.heap.size) 2 1 (.slice (some ⟨g, 0, none⟩) N lc) (N) ((frL zs N (k)).map (Value.int .i64))) := Lib.hid (by first | exact (World.ownsRow.alloc HLL.out _).kept HG2.out (.inr HNL.out) | exact (World.ownsRow.alloc (own_drewN HLL.out _) _).kept HG2.out (.inr HNL.out)); have HW5 : Hid (Below w.heap.size w w5) := Lib.hid (by first | exact Below.grown (Below.alloc HW.out HW.out.size _) HG2.out (by have := HW.out.size; simp; omega) HNE.out | exact Below.grown (Below.alloc (Below.drewN' HW.out _) HW.out.size _) HG2.out (by have := HW.out.size; simp; omega) HNE.out); have HNG : Hid (∀ b, Value.ownBlock (.slice (some ⟨gg, 0, none⟩) (k + 1) cp) = some b → b ≠ g) := Lib.hid (fun b hb e => by have := (HO2.out.lt b hb).1; omega); clear hown1 hgrow hat hlt2) | (go_at_call 61; refine (ft_impl w.heap.size g N lc I (frL zs N k) _ HL5.out hI hN2).mono ?_; rintro e w6 ⟨rfl, ho6, hg6⟩; have HL6 := Lib.hid ho6; have HG6 := Lib.hid hg6; clear ho6 hg6) | go_in)
      exact ⟨⟨k + 1, _, _, by omega, rfl, by first | rfl | go_num | (congr 1), rfl, Lib.hid (by rw [HST.out]; exact HL6.out), Lib.hid (by rw [HON.out]; exact HO2.out.kept HG6.out (.inr (fun e => HNG.out g e rfl))), Lib.hid (Below.grown HW5.out HG6.out HW5.out.size (fun b hb => by cases hb; exact HGB.out))⟩, by show m - ((k : Int) + 1).toNat < m - (k : Int).toNat; omega⟩
    · obtain rfl : k = m := by omega
      obtain ⟨g2, cp, rfl, hg, hgl, hr, hf⟩ := own_irowF HO.out (by omega)
      have HGB := Lib.hid (own_lt HLL.out).1
      have HN := Lib.hid ((⟨by have := HGB.out; omega, hgl, Ent.il_ok hr hf, HW.out⟩ : New w wr g2 (.il k (frO zs N k))))
      clear hg hgl hr hf
      go_wp2
      go_ret2
      exact ⟨g2, cp, rfl, HN.out⟩
set_option maxRecDepth 100000 in
set_option maxHeartbeats 8000000 in
theorem frI0 (a : Option Addr) (m cap : Nat) (zs : List Int) (n : Int) (w : World) (ha : IRow w a m zs) (hm : m ≤ 1048576) (_hn9 : -9223372036854775808 ≤ n ∧ n ≤ 9223372036854775807) (hok : okF zs m n = true) (h0 : m = 0) :
    Calls Try.prog 22 #[.slice a m cap, .int .i64 n] w fun e w' => ∃ b cp, e = .returned (.tuple #[.slice b 0 cp, .bool true]) ∧ Below w.heap.size w w' := by
  obtain ⟨i0, hi, hz0, hz1, hz2⟩ := info_parts Try.info64
  obtain ⟨hn, hm5, hl⟩ := okF_out hok
  obtain ⟨N, rfl⟩ : ∃ N : Nat, n = (N : Int) := ⟨n.toNat, by omega⟩
  have hN1 : 1 ≤ N := by omega
  have hN2 : N ≤ 16 := by omega
  have HA := Lib.hid ha
  have HLP := Lib.hid hl
  have hl1 : decide (1 ≤ (N : Int) ∧ (N : Int) ≤ 16) = true := decide_eq_true hn
  have hl2 : letB zs m (N : Int) = true := by unfold letB; rw [decide_eq_true hl, decide_eq_true hm5]; rfl
  clear ha hn hl hok
  subst h0
  go_enter Try.func22, Try.ntmps22
  go_wp2_with (first | (go_at_call 57; refine (ll_impl _ _).mono ?_; rintro e w' ⟨rfl, rfl⟩) | (go_at_call 58; refine (al_impl _ 0 _ zs _ _ HA.out hm).mono ?_; rintro e w' ⟨rfl, rfl⟩) | (go_at_call 59; refine (or_impl N _ hN1 hN2).mono ?_; rintro e w1 ⟨g, lc, rfl, ho, hb⟩; have HO := Lib.hid ho; have HB1 := Lib.hid hb; clear ho hb) | go_in)
  refine wp_loop_rounds 1 ?_
  rw [rounds_succ]
  go_wp2
  go_ret2
  exact ⟨_, _, rfl, by first | exact Below.alloc HB1.out HB1.out.size _ | exact HB1.out⟩
set_option maxRecDepth 100000 in
set_option maxHeartbeats 8000000 in
theorem frI' (a : Option Addr) (m cap : Nat) (zs : List Int) (n : Int) (w : World) (ha : IRow w a m zs) (hm : m ≤ 1048576) (_hn9 : -9223372036854775808 ≤ n ∧ n ≤ 9223372036854775807) (hok : okF zs m n = false) :
    Calls Try.prog 22 #[.slice a m cap, .int .i64 n] w fun e w' => e = .returned (.tuple #[.slice none 0 0, .bool false]) ∧ Below w.heap.size w w' := by
  have HA := Lib.hid ha
  clear ha
  cases hl1 : decide (1 ≤ n ∧ n ≤ 16) with
  | false =>
    clear hok
    go_enter Try.func22, Try.ntmps22
    go_wp2_with (first | (go_at_call 57; refine (ll_impl _ _).mono ?_; rintro e w' ⟨rfl, rfl⟩) | (go_at_call 58; refine (al_impl _ m _ zs _ _ HA.out hm).mono ?_; rintro e w' ⟨rfl, rfl⟩) | go_in)
    go_ret2
    exact ⟨rfl, Below.refl _ _⟩
  | true =>
    have hl2 : letB zs m n = false := by rw [okF_eq, hl1] at hok; exact hok
    clear hok
    go_enter Try.func22, Try.ntmps22
    go_wp2_with (first | (go_at_call 57; refine (ll_impl _ _).mono ?_; rintro e w' ⟨rfl, rfl⟩) | (go_at_call 58; refine (al_impl _ m _ zs _ _ HA.out hm).mono ?_; rintro e w' ⟨rfl, rfl⟩) | go_in)
    go_ret2
    exact ⟨rfl, Below.refl _ _⟩
set_option maxRecDepth 100000 in
set_option maxHeartbeats 8000000 in
theorem bkS (a : Option Addr) (m cap : Nat) (zs : List Int) (n : Int) (w : World) (ha : IRow w a m zs) (hm : m ≤ 1048576) (_hn9 : -9223372036854775808 ≤ n ∧ n ≤ 9223372036854775807) (hok : okF zs m n = true) (h0 : 0 < m) :
    Calls Try.prog 23 #[.slice a m cap, .int .i64 n] w fun e w' => ∃ g cp, e = .returned (.tuple #[.slice (some ⟨g, 0, none⟩) m cp, .bool true]) ∧ New w w' g (.il m (bkO zs n.toNat m)) := by
  obtain ⟨i0, hi, hz0, hz1, hz2⟩ := info_parts Try.info64
  obtain ⟨hn, hm5, hl⟩ := okF_out hok
  obtain ⟨N, rfl⟩ : ∃ N : Nat, n = (N : Int) := ⟨n.toNat, by omega⟩
  have hN1 : 1 ≤ N := by omega
  have hN2 : N ≤ 16 := by omega
  have HA := Lib.hid ha
  have HLP := Lib.hid hl
  clear ha hn hl
  go_enter Try.func23, Try.ntmps23
  go_wp2_with (first | (go_at_call 54; refine (bl_spec _ m _ zs _ _ HA.out hm ⟨by omega, by omega⟩).mono ?_; rintro e w' ⟨rfl, rfl⟩) | (go_at_call 55; refine (or_spec N _ hN1 hN2).mono ?_; rintro e w1 ⟨g, lc, rfl, ho, hb⟩; have HO := Lib.hid ho; have HB1 := Lib.hid hb; clear ho hb) | go_in)
  go_loopw [7, 8] (fun v0 iv wr0 => ∃ (k : Nat) (v : Value) (wr : World), k ≤ m ∧ v = v0 ∧ iv = .int .i64 k ∧ wr = wr0 ∧ Hid (wr.ownsRow (w.heap.size) 2 1 (.slice (some ⟨g, 0, none⟩) N lc) (N) ((bkL zs N (k)).map (Value.int .i64))) ∧ Hid (wr.ownsRow (g + 1) 2 1 (v) (k) ((bkO zs N (k)).map (Value.int .i64))) ∧ Hid (Below w.heap.size w wr)) (fun _ iv _ => m - (intOf iv).toNat)
  case atStart => exact ⟨0, _, _, by omega, rfl, rfl, rfl, Lib.hid (HO.out.alloc _), Lib.hid ((own_empty w1 2).mono (by have := (own_lt HO.out).2; omega)), Lib.hid (Below.alloc HB1.out HB1.out.size _)⟩
  case round =>
    clear HO
    obtain ⟨k, v, wr, hk, rfl, rfl, rfl, HLL, HO, HW⟩ := hrel
    by_cases hlt : k < m
    · skip
      obtain ⟨b1, o1, rfl, hb1, hck0⟩ := HA.out.cell' hlt
      have hck1 := (HW.out.cell (p := ⟨b1, o1 + k, none⟩) hb1).trans hck0
      have hz := HLP.out k hlt
      obtain ⟨I, hzI, hI⟩ := bkL_in HLP.out hlt
      have hlen := bkL_len HLP.out k hk
      have HON : Hid ((bkO zs N (k + 1)).map (Value.int .i64) = (bkO zs N k).map (Value.int .i64) ++ [.int .i64 ((bkL zs N k).getD I 0)]) := Lib.hid (by rw [bkO_on, hzI]; rfl)
      have HST : Hid (bkL zs N (k + 1) = mvF (bkL zs N k) I) := Lib.hid (by show mvF (bkL zs N k) (zs.getD k 0).toNat = _; rw [hzI]; rfl)
      have hckL := own_cell HLL.out hI
      obtain ⟨Z, hZ⟩ : ∃ Z : Int, Z = (I : Int) := ⟨_, rfl⟩
      have HC1 : Hid (wr.cell? ⟨b1, o1 + k, none⟩ = some (.int .i64 Z)) := Lib.hid (by rw [hZ, ← hzI]; exact hck1)
      rw [hzI] at hck1
      clear hck0 hz hzI hlen
      generalize (bkL zs N k).getD I 0 = y at hckL HON
      have HOv := Lib.hid HO.out
      have HGL := Lib.hid (own_lt HLL.out).2
      have HGB := Lib.hid (own_lt HLL.out).1
      have HNE : Hid (∀ b, v.ownBlock = some b → w.heap.size ≤ b) := Lib.hid (fun b hb => by have h1 := (HO.out.lt b hb).1; have h2 := (own_lt HLL.out).1; omega)
      have HNL : Hid ((Value.slice (some ⟨g, 0, none⟩) N lc).ownBlock ≠ v.ownBlock) := Lib.hid (fun e => by have := (HO.out.lt g e.symm).1; omega)
      have HB5 : Hid (b1 < wr.heap.size) := Lib.hid (Nat.lt_of_lt_of_le hb1 HW.out.size)
      have HN5 : Hid (some b1 ≠ v.ownBlock) := Lib.hid (fun e => by have := HNE.out b1 e.symm; omega)
      go_wp2_with (first | (at_builtin; refine wpList_append_lies _ rfl _ _ 22 rfl (g + 1) 2 i0 (.int .i64 0) 1 8 Try.underlying22 hi hz0 hz1 hz2 rfl (by omega) v k ((bkO zs N k).map (Value.int .i64)) rfl (World.ownsRow.alloc HOv.out _) ⟨wr.heap.size, 0, none⟩ 1 1 [.int .i64 (y)] rfl rfl (World.news_of_block (cs := #[.int .i64 (y)]) (t := 2) (fr := (0, 0)) (heap_alloc_new _ _)) (by simp [Value.oneCell']) (by omega) (by unfold maxLen; omega) (by omega) (by have := HGL.out; simp; omega) (wr.heap.size + 1) (by simp) ?_; intro gg cp w5 hown1 hgrow hat hlt2; have HO2 := Lib.hid hown1; have HG2 := Lib.hid hgrow; have hc5 : w5.cell? ⟨b1, o1 + k, none⟩ = some (.int .i64 Z) := (by first | exact HG2.out.cell (cell_alc HC1.out HB5.out _) HN5.out | exact HG2.out.cell (cell_alq HC1.out HB5.out _ _) HN5.out); (try rw [hZ] at hc5); have HL5 : Hid (w5.ownsRow (w.heap.size) 2 1 (.slice (some ⟨g, 0, none⟩) N lc) (N) ((bkL zs N (k)).map (Value.int .i64))) := Lib.hid (by first | exact (World.ownsRow.alloc HLL.out _).kept HG2.out (.inr HNL.out) | exact (World.ownsRow.alloc (own_drewN HLL.out _) _).kept HG2.out (.inr HNL.out)); have HW5 : Hid (Below w.heap.size w w5) := Lib.hid (by first | exact Below.grown (Below.alloc HW.out HW.out.size _) HG2.out (by have := HW.out.size; simp; omega) HNE.out | exact Below.grown (Below.alloc (Below.drewN' HW.out _) HW.out.size _) HG2.out (by have := HW.out.size; simp; omega) HNE.out); have HNG : Hid (∀ b, Value.ownBlock (.slice (some ⟨gg, 0, none⟩) (k + 1) cp) = some b → b ≠ g) := Lib.hid (fun b hb e => by have := (HO2.out.lt b hb).1; omega); clear hown1 hgrow hat hlt2) | (go_at_call 56; refine (ft_spec w.heap.size g N lc I (bkL zs N k) _ HL5.out hI hN2).mono ?_; rintro e w6 ⟨rfl, ho6, hg6⟩; have HL6 := Lib.hid ho6; have HG6 := Lib.hid hg6; clear ho6 hg6) | go_in)
      exact ⟨⟨k + 1, _, _, by omega, rfl, by first | rfl | go_num | (congr 1), rfl, Lib.hid (by rw [HST.out]; exact HL6.out), Lib.hid (by rw [HON.out]; exact HO2.out.kept HG6.out (.inr (fun e => HNG.out g e rfl))), Lib.hid (Below.grown HW5.out HG6.out HW5.out.size (fun b hb => by cases hb; exact HGB.out))⟩, by show m - ((k : Int) + 1).toNat < m - (k : Int).toNat; omega⟩
    · obtain rfl : k = m := by omega
      obtain ⟨g2, cp, rfl, hg, hgl, hr, hf⟩ := own_irowF HO.out (by omega)
      have HGB := Lib.hid (own_lt HLL.out).1
      have HN := Lib.hid ((⟨by have := HGB.out; omega, hgl, Ent.il_ok hr hf, HW.out⟩ : New w wr g2 (.il k (bkO zs N k))))
      clear hg hgl hr hf
      go_wp2
      go_ret2
      exact ⟨g2, cp, rfl, HN.out⟩
set_option maxRecDepth 100000 in
set_option maxHeartbeats 8000000 in
theorem bkS0 (a : Option Addr) (m cap : Nat) (zs : List Int) (n : Int) (w : World) (ha : IRow w a m zs) (hm : m ≤ 1048576) (_hn9 : -9223372036854775808 ≤ n ∧ n ≤ 9223372036854775807) (hok : okF zs m n = true) (h0 : m = 0) :
    Calls Try.prog 23 #[.slice a m cap, .int .i64 n] w fun e w' => ∃ b cp, e = .returned (.tuple #[.slice b 0 cp, .bool true]) ∧ Below w.heap.size w w' := by
  obtain ⟨i0, hi, hz0, hz1, hz2⟩ := info_parts Try.info64
  obtain ⟨hn, hm5, hl⟩ := okF_out hok
  obtain ⟨N, rfl⟩ : ∃ N : Nat, n = (N : Int) := ⟨n.toNat, by omega⟩
  have hN1 : 1 ≤ N := by omega
  have hN2 : N ≤ 16 := by omega
  have HA := Lib.hid ha
  have HLP := Lib.hid hl
  clear ha hn hl
  subst h0
  go_enter Try.func23, Try.ntmps23
  go_wp2_with (first | (go_at_call 54; refine (bl_spec _ 0 _ zs _ _ HA.out hm ⟨by omega, by omega⟩).mono ?_; rintro e w' ⟨rfl, rfl⟩) | (go_at_call 55; refine (or_spec N _ hN1 hN2).mono ?_; rintro e w1 ⟨g, lc, rfl, ho, hb⟩; have HO := Lib.hid ho; have HB1 := Lib.hid hb; clear ho hb) | go_in)
  refine wp_loop_rounds 1 ?_
  rw [rounds_succ]
  go_wp2
  go_ret2
  exact ⟨_, _, rfl, by first | exact Below.alloc HB1.out HB1.out.size _ | exact HB1.out⟩
set_option maxRecDepth 100000 in
set_option maxHeartbeats 8000000 in
theorem bkS' (a : Option Addr) (m cap : Nat) (zs : List Int) (n : Int) (w : World) (ha : IRow w a m zs) (hm : m ≤ 1048576) (_hn9 : -9223372036854775808 ≤ n ∧ n ≤ 9223372036854775807) (hok : okF zs m n = false) :
    Calls Try.prog 23 #[.slice a m cap, .int .i64 n] w fun e w' => e = .returned (.tuple #[.slice none 0 0, .bool false]) ∧ Below w.heap.size w w' := by
  have HA := Lib.hid ha
  clear ha
  go_enter Try.func23, Try.ntmps23
  go_wp2_with (first | (go_at_call 54; refine (bl_spec _ m _ zs _ _ HA.out hm ⟨by omega, by omega⟩).mono ?_; rintro e w' ⟨rfl, rfl⟩) | go_in)
  go_ret2
  exact ⟨rfl, Below.refl _ _⟩
set_option maxRecDepth 100000 in
set_option maxHeartbeats 8000000 in
theorem bkI (a : Option Addr) (m cap : Nat) (zs : List Int) (n : Int) (w : World) (ha : IRow w a m zs) (hm : m ≤ 1048576) (_hn9 : -9223372036854775808 ≤ n ∧ n ≤ 9223372036854775807) (hok : okF zs m n = true) (h0 : 0 < m) :
    Calls Try.prog 24 #[.slice a m cap, .int .i64 n] w fun e w' => ∃ g cp, e = .returned (.tuple #[.slice (some ⟨g, 0, none⟩) m cp, .bool true]) ∧ New w w' g (.il m (bkO zs n.toNat m)) := by
  obtain ⟨i0, hi, hz0, hz1, hz2⟩ := info_parts Try.info64
  obtain ⟨hn, hm5, hl⟩ := okF_out hok
  obtain ⟨N, rfl⟩ : ∃ N : Nat, n = (N : Int) := ⟨n.toNat, by omega⟩
  have hN1 : 1 ≤ N := by omega
  have hN2 : N ≤ 16 := by omega
  have HA := Lib.hid ha
  have HLP := Lib.hid hl
  have hl1 : decide (1 ≤ (N : Int) ∧ (N : Int) ≤ 16) = true := decide_eq_true hn
  have hl2 : letB zs m (N : Int) = true := by unfold letB; rw [decide_eq_true hl, decide_eq_true hm5]; rfl
  clear ha hn hl hok
  go_enter Try.func24, Try.ntmps24
  go_wp2_with (first | (go_at_call 57; refine (ll_impl _ _).mono ?_; rintro e w' ⟨rfl, rfl⟩) | (go_at_call 58; refine (al_impl _ m _ zs _ _ HA.out hm).mono ?_; rintro e w' ⟨rfl, rfl⟩) | (go_at_call 59; refine (or_impl N _ hN1 hN2).mono ?_; rintro e w1 ⟨g, lc, rfl, ho, hb⟩; have HO := Lib.hid ho; have HB1 := Lib.hid hb; clear ho hb) | go_in)
  go_loopw [6, 23] (fun v0 iv wr0 => ∃ (k : Nat) (v : Value) (wr : World), k ≤ m ∧ v = v0 ∧ iv = .int .i64 k ∧ wr = wr0 ∧ Hid (wr.ownsRow (w.heap.size) 2 1 (.slice (some ⟨g, 0, none⟩) N lc) (N) ((bkL zs N (k)).map (Value.int .i64))) ∧ Hid (wr.ownsRow (g + 1) 2 1 (v) (k) ((bkO zs N (k)).map (Value.int .i64))) ∧ Hid (Below w.heap.size w wr)) (fun _ iv _ => m - (intOf iv).toNat)
  case atStart => exact ⟨0, _, _, by omega, rfl, rfl, rfl, Lib.hid HO.out, Lib.hid (World.ownsRow_nil _ _ _ _), Lib.hid HB1.out⟩
  case round =>
    clear HO
    obtain ⟨k, v, wr, hk, rfl, rfl, rfl, HLL, HO, HW⟩ := hrel
    by_cases hlt : k < m
    · skip
      obtain ⟨b1, o1, rfl, hb1, hck0⟩ := HA.out.cell' hlt
      have hck1 := (HW.out.cell (p := ⟨b1, o1 + k, none⟩) hb1).trans hck0
      have hz := HLP.out k hlt
      obtain ⟨I, hzI, hI⟩ := bkL_in HLP.out hlt
      have hlen := bkL_len HLP.out k hk
      have HON : Hid ((bkO zs N (k + 1)).map (Value.int .i64) = (bkO zs N k).map (Value.int .i64) ++ [.int .i64 ((bkL zs N k).getD I 0)]) := Lib.hid (by rw [bkO_on, hzI]; rfl)
      have HST : Hid (bkL zs N (k + 1) = mvF (bkL zs N k) I) := Lib.hid (by show mvF (bkL zs N k) (zs.getD k 0).toNat = _; rw [hzI]; rfl)
      have hckL := own_cell HLL.out hI
      obtain ⟨Z, hZ⟩ : ∃ Z : Int, Z = (I : Int) := ⟨_, rfl⟩
      have HC1 : Hid (wr.cell? ⟨b1, o1 + k, none⟩ = some (.int .i64 Z)) := Lib.hid (by rw [hZ, ← hzI]; exact hck1)
      rw [hzI] at hck1
      clear hck0 hz hzI hlen
      generalize (bkL zs N k).getD I 0 = y at hckL HON
      have HOv := Lib.hid HO.out
      have HGL := Lib.hid (own_lt HLL.out).2
      have HGB := Lib.hid (own_lt HLL.out).1
      have HNE : Hid (∀ b, v.ownBlock = some b → w.heap.size ≤ b) := Lib.hid (fun b hb => by have h1 := (HO.out.lt b hb).1; have h2 := (own_lt HLL.out).1; omega)
      have HNL : Hid ((Value.slice (some ⟨g, 0, none⟩) N lc).ownBlock ≠ v.ownBlock) := Lib.hid (fun e => by have := (HO.out.lt g e.symm).1; omega)
      have HB5 : Hid (b1 < wr.heap.size) := Lib.hid (Nat.lt_of_lt_of_le hb1 HW.out.size)
      have HN5 : Hid (some b1 ≠ v.ownBlock) := Lib.hid (fun e => by have := HNE.out b1 e.symm; omega)
      go_wp2_with (first | (at_builtin; refine wpList_append_lies _ rfl _ _ 22 rfl (g + 1) 2 i0 (.int .i64 0) 1 8 Try.underlying22 hi hz0 hz1 hz2 rfl (by omega) v k ((bkO zs N k).map (Value.int .i64)) rfl (World.ownsRow.alloc HOv.out _) ⟨wr.heap.size, 0, none⟩ 1 1 [.int .i64 (y)] rfl rfl (World.news_of_block (cs := #[.int .i64 (y)]) (t := 2) (fr := (0, 0)) (heap_alloc_new _ _)) (by simp [Value.oneCell']) (by omega) (by unfold maxLen; omega) (by omega) (by have := HGL.out; simp; omega) (wr.heap.size + 1) (by simp) ?_; intro gg cp w5 hown1 hgrow hat hlt2; have HO2 := Lib.hid hown1; have HG2 := Lib.hid hgrow; have hc5 : w5.cell? ⟨b1, o1 + k, none⟩ = some (.int .i64 Z) := (by first | exact HG2.out.cell (cell_alc HC1.out HB5.out _) HN5.out | exact HG2.out.cell (cell_alq HC1.out HB5.out _ _) HN5.out); (try rw [hZ] at hc5); have HL5 : Hid (w5.ownsRow (w.heap.size) 2 1 (.slice (some ⟨g, 0, none⟩) N lc) (N) ((bkL zs N (k)).map (Value.int .i64))) := Lib.hid (by first | exact (World.ownsRow.alloc HLL.out _).kept HG2.out (.inr HNL.out) | exact (World.ownsRow.alloc (own_drewN HLL.out _) _).kept HG2.out (.inr HNL.out)); have HW5 : Hid (Below w.heap.size w w5) := Lib.hid (by first | exact Below.grown (Below.alloc HW.out HW.out.size _) HG2.out (by have := HW.out.size; simp; omega) HNE.out | exact Below.grown (Below.alloc (Below.drewN' HW.out _) HW.out.size _) HG2.out (by have := HW.out.size; simp; omega) HNE.out); have HNG : Hid (∀ b, Value.ownBlock (.slice (some ⟨gg, 0, none⟩) (k + 1) cp) = some b → b ≠ g) := Lib.hid (fun b hb e => by have := (HO2.out.lt b hb).1; omega); clear hown1 hgrow hat hlt2) | (go_at_call 61; refine (ft_impl w.heap.size g N lc I (bkL zs N k) _ HL5.out hI hN2).mono ?_; rintro e w6 ⟨rfl, ho6, hg6⟩; have HL6 := Lib.hid ho6; have HG6 := Lib.hid hg6; clear ho6 hg6) | go_in)
      exact ⟨⟨k + 1, _, _, by omega, rfl, by first | rfl | go_num | (congr 1), rfl, Lib.hid (by rw [HST.out]; exact HL6.out), Lib.hid (by rw [HON.out]; exact HO2.out.kept HG6.out (.inr (fun e => HNG.out g e rfl))), Lib.hid (Below.grown HW5.out HG6.out HW5.out.size (fun b hb => by cases hb; exact HGB.out))⟩, by show m - ((k : Int) + 1).toNat < m - (k : Int).toNat; omega⟩
    · obtain rfl : k = m := by omega
      obtain ⟨g2, cp, rfl, hg, hgl, hr, hf⟩ := own_irowF HO.out (by omega)
      have HGB := Lib.hid (own_lt HLL.out).1
      have HN := Lib.hid ((⟨by have := HGB.out; omega, hgl, Ent.il_ok hr hf, HW.out⟩ : New w wr g2 (.il k (bkO zs N k))))
      clear hg hgl hr hf
      go_wp2
      go_ret2
      exact ⟨g2, cp, rfl, HN.out⟩
set_option maxRecDepth 100000 in
set_option maxHeartbeats 8000000 in
theorem bkI0 (a : Option Addr) (m cap : Nat) (zs : List Int) (n : Int) (w : World) (ha : IRow w a m zs) (hm : m ≤ 1048576) (_hn9 : -9223372036854775808 ≤ n ∧ n ≤ 9223372036854775807) (hok : okF zs m n = true) (h0 : m = 0) :
    Calls Try.prog 24 #[.slice a m cap, .int .i64 n] w fun e w' => ∃ b cp, e = .returned (.tuple #[.slice b 0 cp, .bool true]) ∧ Below w.heap.size w w' := by
  obtain ⟨i0, hi, hz0, hz1, hz2⟩ := info_parts Try.info64
  obtain ⟨hn, hm5, hl⟩ := okF_out hok
  obtain ⟨N, rfl⟩ : ∃ N : Nat, n = (N : Int) := ⟨n.toNat, by omega⟩
  have hN1 : 1 ≤ N := by omega
  have hN2 : N ≤ 16 := by omega
  have HA := Lib.hid ha
  have HLP := Lib.hid hl
  have hl1 : decide (1 ≤ (N : Int) ∧ (N : Int) ≤ 16) = true := decide_eq_true hn
  have hl2 : letB zs m (N : Int) = true := by unfold letB; rw [decide_eq_true hl, decide_eq_true hm5]; rfl
  clear ha hn hl hok
  subst h0
  go_enter Try.func24, Try.ntmps24
  go_wp2_with (first | (go_at_call 57; refine (ll_impl _ _).mono ?_; rintro e w' ⟨rfl, rfl⟩) | (go_at_call 58; refine (al_impl _ 0 _ zs _ _ HA.out hm).mono ?_; rintro e w' ⟨rfl, rfl⟩) | (go_at_call 59; refine (or_impl N _ hN1 hN2).mono ?_; rintro e w1 ⟨g, lc, rfl, ho, hb⟩; have HO := Lib.hid ho; have HB1 := Lib.hid hb; clear ho hb) | go_in)
  refine wp_loop_rounds 1 ?_
  rw [rounds_succ]
  go_wp2
  go_ret2
  exact ⟨_, _, rfl, by first | exact Below.alloc HB1.out HB1.out.size _ | exact HB1.out⟩
set_option maxRecDepth 100000 in
set_option maxHeartbeats 8000000 in
theorem bkI' (a : Option Addr) (m cap : Nat) (zs : List Int) (n : Int) (w : World) (ha : IRow w a m zs) (hm : m ≤ 1048576) (_hn9 : -9223372036854775808 ≤ n ∧ n ≤ 9223372036854775807) (hok : okF zs m n = false) :
    Calls Try.prog 24 #[.slice a m cap, .int .i64 n] w fun e w' => e = .returned (.tuple #[.slice none 0 0, .bool false]) ∧ Below w.heap.size w w' := by
  have HA := Lib.hid ha
  clear ha
  cases hl1 : decide (1 ≤ n ∧ n ≤ 16) with
  | false =>
    clear hok
    go_enter Try.func24, Try.ntmps24
    go_wp2_with (first | (go_at_call 57; refine (ll_impl _ _).mono ?_; rintro e w' ⟨rfl, rfl⟩) | (go_at_call 58; refine (al_impl _ m _ zs _ _ HA.out hm).mono ?_; rintro e w' ⟨rfl, rfl⟩) | go_in)
    go_ret2
    exact ⟨rfl, Below.refl _ _⟩
  | true =>
    have hl2 : letB zs m n = false := by rw [okF_eq, hl1] at hok; exact hok
    clear hok
    go_enter Try.func24, Try.ntmps24
    go_wp2_with (first | (go_at_call 57; refine (ll_impl _ _).mono ?_; rintro e w' ⟨rfl, rfl⟩) | (go_at_call 58; refine (al_impl _ m _ zs _ _ HA.out hm).mono ?_; rintro e w' ⟨rfl, rfl⟩) | go_in)
    go_ret2
    exact ⟨rfl, Below.refl _ _⟩
end Go.Proofs.Ytaalddkpldbdkaa
