
/- The near words of a code: the model. -/
import Derived.Test.YtjlifbnenngijaaDoorLwp
import Derived.Test.YtjlifbnenngijaaDoorFri
import Derived.BigQuiet
set_option linter.unusedVariables false
namespace Go.Proofs.YtjlifbnenngijaaDoor
open Go.Proofs.YtjlifbnenngijaaDoor.Flo Go.RowKit Go.Shelf Go.Proofs.YtjlifbnenngijaaDoor.Pr

theorem srt_nil : srt [] = [] := by simp [srt]
def lwB (r : Int) (zs : List Int) (n : Nat) (x far : Int) : Bool := paB r zs n && (woB x r.toNat && decide (0 ≤ far ∧ far ≤ 16))
def lwL (zs : List Int) (n : Nat) (x far : Int) : List Int := srt (nf (zN zs) n x.toNat far.toNat (2 ^ n))
def lwK (zs : List Int) (n : Nat) (x far : Int) : Nat := (lwL zs n x far).length
/-- What is answered where all is well. -/
def LwYes (K : Nat) (L : List Int) (w : World) (e : Ending) (w' : World) : Prop := ∃ v, e = .returned (.tuple #[v, .bool true]) ∧ w'.ownsRow w.heap.size 2 1 v K (L.map (Value.int .i64)) ∧ Below w.heap.size w w'
theorem icl_grown {w w' : World} {row : Option Nat} {g n : Nat} {L : List Int} (hg : w.grownBy w' row) (hne : some g ≠ row) (h : ICl w g n L) : ICl w' g n L := by
  have hb := hg.block g h.1 hne
  refine ⟨Nat.lt_of_lt_of_le h.1 hg.size, h.2.1, fun i hi => ?_⟩
  have h2 := h.2.2 i hi
  exact ⟨(World.cell?_of_block (a := ⟨g, i, none⟩) hb).trans h2.1, (World.frozen?_of_block (a := ⟨g, i, none⟩) hb).trans h2.2⟩
set_option maxRecDepth 100000 in
set_option maxHeartbeats 8000000 in
theorem lw_specA (r : Int) (a : Option Addr) (n cap : Nat) (zs : List Int) (x far : Int) (w : World) (h : IRow w a n zs) (hn : n ≤ 1048576) (hok : paB r zs n = false) : Calls Tryd.prog 25 #[.agg #[.int .i64 r, .slice a n cap], .int .i64 x, .int .i64 far] w fun e w' => e = .returned (.tuple #[.slice none 0 0, .bool false]) ∧ Below w.heap.size w w' := by
  have HC := Lib.hid (Kin.new (w := w) (x := .int .i64 r) (y := .slice a n cap) (T := 24))
  have HA := Lib.hid (h.alloc (.cells #[.int .i64 r, .slice a n cap] 24))
  have HIS : Hid (Calls Tryd.prog 55 #[.pointer (some ⟨w.heap.size, 0, none⟩), .int .i64 x] (w.alloc (.cells #[.int .i64 r, .slice a n cap] 24)) fun e w' => e = .returned (.bool false) ∧ Below (w.alloc (.cells #[.int .i64 r, .slice a n cap] 24)).heap.size (w.alloc (.cells #[.int .i64 r, .slice a n cap] 24)) w') := Lib.hid (by have := canF w.heap.size r a n cap zs x (w.alloc (.cells #[.int .i64 r, .slice a n cap] 24)) (h.alloc _) hn (by simp) HC.out.2.1 HC.out.2.2.1 hok; exact this)
  clear h hok
  go_enter Tryd.func25, Tryd.ntmps25
  go_wp2_with (first | (go_at_call 55; (with_reducible refine HIS.out.mono ?_); rintro e w2 ⟨rfl, hb⟩; have HB := Lib.hid (Below.next (below_alloc _ _ : Below w.heap.size w (w.alloc (.cells #[.int .i64 r, .slice a n cap] 24))) hb); have HA2 := Lib.hid (HA.out.below hb); have HK := Lib.hid (HC.out.below hb); have hp0 := HK.out.2.1; have hp1 := HK.out.2.2.1; have HP1 := Lib.hid hp1; clear hb) | fail)
  exact bodyPost_ret (v := .tuple #[.slice none 0 0, .bool false]) (by simp [results, Tryd.results25, go_sem]) rfl ⟨rfl, HB.out⟩
set_option maxRecDepth 100000 in
set_option maxHeartbeats 8000000 in
theorem lw_specN (r : Int) (a : Option Addr) (n cap : Nat) (zs : List Int) (x far : Int) (w : World) (h : IRow w a n zs) (hn : n ≤ 1048576) (hok : paB r zs n = true) (hwb : woB x r.toNat = false) : Calls Tryd.prog 25 #[.agg #[.int .i64 r, .slice a n cap], .int .i64 x, .int .i64 far] w fun e w' => e = .returned (.tuple #[.slice none 0 0, .bool false]) ∧ Below w.heap.size w w' := by
  have HC := Lib.hid (Kin.new (w := w) (x := .int .i64 r) (y := .slice a n cap) (T := 24))
  have HA := Lib.hid (h.alloc (.cells #[.int .i64 r, .slice a n cap] 24))
  have HIS : Hid (Calls Tryd.prog 55 #[.pointer (some ⟨w.heap.size, 0, none⟩), .int .i64 x] (w.alloc (.cells #[.int .i64 r, .slice a n cap] 24)) fun e w' => e = .returned (.bool false) ∧ Below (w.alloc (.cells #[.int .i64 r, .slice a n cap] 24)).heap.size (w.alloc (.cells #[.int .i64 r, .slice a n cap] 24)) w') := Lib.hid (by have := canT w.heap.size r a n cap zs x (w.alloc (.cells #[.int .i64 r, .slice a n cap] 24)) (h.alloc _) hn (by simp) HC.out.2.1 HC.out.2.2.1 hok; rw [hwb] at this; exact this)
  clear h hok hwb
  go_enter Tryd.func25, Tryd.ntmps25
  go_wp2_with (first | (go_at_call 55; (with_reducible refine HIS.out.mono ?_); rintro e w2 ⟨rfl, hb⟩; have HB := Lib.hid (Below.next (below_alloc _ _ : Below w.heap.size w (w.alloc (.cells #[.int .i64 r, .slice a n cap] 24))) hb); have HA2 := Lib.hid (HA.out.below hb); have HK := Lib.hid (HC.out.below hb); have hp0 := HK.out.2.1; have hp1 := HK.out.2.2.1; have HP1 := Lib.hid hp1; clear hb) | fail)
  exact bodyPost_ret (v := .tuple #[.slice none 0 0, .bool false]) (by simp [results, Tryd.results25, go_sem]) rfl ⟨rfl, HB.out⟩
set_option maxRecDepth 100000 in
set_option maxHeartbeats 8000000 in
theorem lw_specF (r : Int) (a : Option Addr) (n cap : Nat) (zs : List Int) (x far : Int) (w : World) (h : IRow w a n zs) (hn : n ≤ 1048576) (hok : paB r zs n = true) (hwb : woB x r.toNat = true) (hf : ¬ (0 ≤ far ∧ far ≤ 16)) : Calls Tryd.prog 25 #[.agg #[.int .i64 r, .slice a n cap], .int .i64 x, .int .i64 far] w fun e w' => e = .returned (.tuple #[.slice none 0 0, .bool false]) ∧ Below w.heap.size w w' := by
  have HC := Lib.hid (Kin.new (w := w) (x := .int .i64 r) (y := .slice a n cap) (T := 24))
  have HA := Lib.hid (h.alloc (.cells #[.int .i64 r, .slice a n cap] 24))
  have HIS : Hid (Calls Tryd.prog 55 #[.pointer (some ⟨w.heap.size, 0, none⟩), .int .i64 x] (w.alloc (.cells #[.int .i64 r, .slice a n cap] 24)) fun e w' => e = .returned (.bool true) ∧ Below (w.alloc (.cells #[.int .i64 r, .slice a n cap] 24)).heap.size (w.alloc (.cells #[.int .i64 r, .slice a n cap] 24)) w') := Lib.hid (by have := canT w.heap.size r a n cap zs x (w.alloc (.cells #[.int .i64 r, .slice a n cap] 24)) (h.alloc _) hn (by simp) HC.out.2.1 HC.out.2.2.1 hok; rw [hwb] at this; exact this)
  have HF := Lib.hid hf
  clear h hok hwb hf
  go_enter Tryd.func25, Tryd.ntmps25
  go_wp2_with (first | (go_at_call 55; (with_reducible refine HIS.out.mono ?_); rintro e w2 ⟨rfl, hb⟩; have HB := Lib.hid (Below.next (below_alloc _ _ : Below w.heap.size w (w.alloc (.cells #[.int .i64 r, .slice a n cap] 24))) hb); have HA2 := Lib.hid (HA.out.below hb); have HK := Lib.hid (HC.out.below hb); have hp0 := HK.out.2.1; have hp1 := HK.out.2.2.1; have HP1 := Lib.hid hp1; clear hb) | (go_at_call 58; (with_reducible refine (in_false far 0 16 _ HF.out).mono ?_); rintro e w' ⟨rfl, hw⟩; have hw := hw.symm; subst hw) | fail)
  exact bodyPost_ret (v := .tuple #[.slice none 0 0, .bool false]) (by simp [results, Tryd.results25, go_sem]) rfl ⟨rfl, HB.out⟩
set_option maxRecDepth 100000 in
set_option maxHeartbeats 8000000 in
theorem lw_specY (r : Int) (a : Option Addr) (n cap : Nat) (zs : List Int) (x far : Int) (w : World) (h : IRow w a n zs) (hn : n ≤ 1048576) (hok : paB r zs n = true) (hwb : woB x r.toNat = true) (hf : 0 ≤ far ∧ far ≤ 16) : Calls Tryd.prog 25 #[.agg #[.int .i64 r, .slice a n cap], .int .i64 x, .int .i64 far] w (LwYes (lwK zs n x far) (lwL zs n x far) w) := by
  obtain ⟨i0, hi, hz0, hz1, hz2⟩ := info_parts Tryd.info64
  obtain ⟨⟨hr1, hr2⟩, ⟨hn1, hn8⟩, hwz, _⟩ := pa_out hok
  obtain ⟨b1, o1, rfl⟩ := irow_some h hn1
  have HC := Lib.hid (Kin.new (w := w) (x := .int .i64 r) (y := .slice (some ⟨b1, o1, none⟩) n cap) (T := 24))
  have HA := Lib.hid (h.alloc (.cells #[.int .i64 r, .slice (some ⟨b1, o1, none⟩) n cap] 24))
  have HIS : Hid (Calls Tryd.prog 55 #[.pointer (some ⟨w.heap.size, 0, none⟩), .int .i64 x] (w.alloc (.cells #[.int .i64 r, .slice (some ⟨b1, o1, none⟩) n cap] 24)) fun e w' => e = .returned (.bool true) ∧ Below (w.alloc (.cells #[.int .i64 r, .slice (some ⟨b1, o1, none⟩) n cap] 24)).heap.size (w.alloc (.cells #[.int .i64 r, .slice (some ⟨b1, o1, none⟩) n cap] 24)) w') := Lib.hid (by have := canT w.heap.size r (some ⟨b1, o1, none⟩) n cap zs x (w.alloc (.cells #[.int .i64 r, .slice (some ⟨b1, o1, none⟩) n cap] 24)) (h.alloc _) hn (by simp) HC.out.2.1 HC.out.2.2.1 hok; rw [hwb] at this; exact this)
  obtain ⟨y, rfl, hy, hy16⟩ := wo_out hwb (show r.toNat ≤ 16 by omega)
  obtain ⟨f, rfl⟩ : ∃ f : Nat, far = (f : Int) := ⟨far.toNat, by omega⟩
  have HF := Lib.hid hf
  have HZ := Lib.hid (woP_wide hwz (show r.toNat ≤ 16 by omega))
  obtain ⟨N, hN⟩ : ∃ N, 2 ^ n = N := ⟨_, rfl⟩
  have hp8 : 2 ^ n ≤ 2 ^ 8 := Nat.pow_le_pow_right (by decide) hn8
  have hN8 : N ≤ 256 := by omega
  have HL : Hid (lwL zs n (y : Int) (f : Int) = srt (nf (zN zs) n y f N)) := Lib.hid (by rw [← hN]; rfl)
  have HLK : Hid (lwK zs n (y : Int) (f : Int) = (lwL zs n (y : Int) (f : Int)).length) := Lib.hid rfl
  generalize lwK zs n (y : Int) (f : Int) = K at HLK ⊢
  generalize lwL zs n (y : Int) (f : Int) = LL at HL HLK ⊢
  have HAL : Hid (∀ w3 : World, IRow w3 (some ⟨b1, o1, none⟩) n zs → w.heap.size < w3.heap.size → w3.cell? ⟨w.heap.size, 1, none⟩ = some (.slice (some ⟨b1, o1, none⟩) n cap) → Calls Tryd.prog 59 #[.pointer (some ⟨w.heap.size, 0, none⟩)] w3 fun e w' => ∃ g cp, e = .returned (.slice (some ⟨g, 0, none⟩) N cp) ∧ New w3 w' g (.il N (awL (zN zs) n N))) := Lib.hid (fun w3 h1 h2 h3 => all_spec w.heap.size b1 o1 n cap N zs w3 h1 h2 hn1 hn8 HZ.out h3 hN)
  have HE16 := Lib.hid (fun y => (ew_lt (z := zN zs) (n := n) (m := 16) (fun i hi => (zN_at HZ.out hi).2) y))
  have HY16 := Lib.hid hy16
  clear h hok hwb hwz hN hp8 hy hf hy16
  go_enter Tryd.func25, Tryd.ntmps25
  go_wp2_with (first | (go_at_call 55; (with_reducible refine HIS.out.mono ?_); rintro e w2 ⟨rfl, hb⟩; have HB := Lib.hid (Below.next (below_alloc _ _ : Below w.heap.size w (w.alloc (.cells #[.int .i64 r, .slice (some ⟨b1, o1, none⟩) n cap] 24))) hb); have HA2 := Lib.hid (HA.out.below hb); have HK := Lib.hid (HC.out.below hb); have hp0 := HK.out.2.1; have hp1 := HK.out.2.2.1; have HP1 := Lib.hid hp1; have HP1 := Lib.hid hp1; have HLT := Lib.hid HK.out.1; clear hb) | (go_at_call 58; (with_reducible refine (in_true (f : Int) 0 16 _ HF.out.1 HF.out.2).mono ?_); rintro e w' ⟨rfl, hw⟩; have hw := hw.symm; subst hw) | fail)
  have hw2 := HLT.out
  have hpe : (w2.alloc (.cells #[] 2)).cell? ⟨w.heap.size, 1, none⟩ = some (.slice (some ⟨b1, o1, none⟩) n cap) := ((below_alloc w2 (.cells #[] 2)).cell (p := ⟨w.heap.size, 1, none⟩) hw2).trans HP1.out
  have HOE := Lib.hid (own_empty w2 2)
  refine (HAL.out _ (HA2.out.alloc _) (by simp; omega) hpe).mono ?_
  rintro e w3 ⟨g, cp, rfl, hnw⟩
  have HO3 := Lib.hid (own_keep HOE.out hnw.2.2.2)
  have HI3 := Lib.hid (ICl.of hnw)
  have HB3 := Lib.hid (Below.next (Below.next HB.out (below_alloc w2 (.cells #[] 2))) hnw.2.2.2)
  have hg3 : w2.heap.size < g := by
    have h9 := hnw.1
    simp at h9
    omega
  have HNG : Hid ((Value.slice (some ⟨w2.heap.size, 0, none⟩) 0 0).ownBlock ≠ some g) := Lib.hid (fun e => by have e2 : some w2.heap.size = some g := e; injection e2 with e3; omega)
  have hBw : w.heap.size ≤ w2.heap.size := by omega
  clear hnw hpe
  generalize hBB : w2.heap.size = B0 at HO3 hg3 HNG hBw ⊢
  clear hBB HOE hw2 hp0 hp1 HP1 HLT HK HA2 HB
  go_wp2
  go_loopw [8, 10] (fun v0 kv w' => ∃ (k : Nat) (v : Value) (wr : World), k ≤ N ∧ v = v0 ∧ kv = .int .i64 (k : Int) ∧ wr = w' ∧ Hid (wr.ownsRow B0 2 1 v (srt (nf (zN zs) n y f k)).length ((srt (nf (zN zs) n y f k)).map (Value.int .i64))) ∧ Hid (ICl wr g N (awL (zN zs) n N)) ∧ Hid (Below w.heap.size w wr) ∧ Hid (v.ownBlock ≠ some g)) (fun _ kv _ => N - (intOf kv).toNat)
  case atStart => exact ⟨0, _, _, by omega, rfl, rfl, rfl, Lib.hid (by have e : srt (nf (zN zs) n y f 0) = [] := srt_nil; rw [e]; exact HO3.out), HI3, HB3, HNG⟩
  case round =>
    clear HO3 HI3 HB3 HNG
    obtain ⟨k, v, wr, hk, rfl, rfl, rfl, HO, HI, HW, HNG⟩ := hrel
    by_cases hlt : k < N
    · have hck := (HI.out.cell hlt).1
      rw [awL_get (zN zs) n N hlt] at hck
      have HE := Lib.hid (HE16.out k)
      have hxr := b_xor (ew (zN zs) n k) y (by have := HE.out; omega) (by have := HY16.out; omega)
      have hxl : ew (zN zs) n k ^^^ y < 65536 := Nat.xor_lt_two_pow (n := 16) HE.out HY16.out
      have HWO : Hid (Calls Tryd.prog 41 #[.int .i64 ((ew (zN zs) n k ^^^ y : Nat) : Int)] wr fun e w' => e = .returned (.int .i64 (wt (ew (zN zs) n k ^^^ y) : Int)) ∧ wr = w') := Lib.hid (wo_spec _ wr hxl)
      have hwk : IntKind.i64.wrap ((k : Int) + 1) = (k : Int) + 1 := IntWalk.i64_in _ (by omega)
      by_cases hnear : wt (ew (zN zs) n k ^^^ y) ≤ f
      · have HNF := Lib.hid (nf_yes (z := zN zs) (n := n) (x := y) (f := f) (k := k) hnear)
        have hd1 : decide (f < wt (ew (zN zs) n k ^^^ y)) = false := decide_eq_false (by omega)
        have hd2 : decide ((f : Int) < (wt (ew (zN zs) n k ^^^ y) : Int)) = false := decide_eq_false (by omega)
        have hls := srt_len (nf (zN zs) n y f k)
        have hln := nf_len (zN zs) n y f k
        generalize wt (ew (zN zs) n k ^^^ y) = q at HWO hnear hd1 hd2
        generalize ew (zN zs) n k ^^^ y = xx at hxr hxl HWO
        generalize ew (zN zs) n k = E at hck HE hxr HNF
        have HSN := Lib.hid (fun j h1 h2 h3 => srt_snoc (L := nf (zN zs) n y f k) (x := (E : Int)) (k := j) h1 h2 h3)
        rw [← HNF.out] at HSN
        have HM1 := Lib.hid (srt_len (nf (zN zs) n y f (k + 1)))
        generalize hM1E : srt (nf (zN zs) n y f (k + 1)) = M1 at HSN HM1
        have HM1E := Lib.hid hM1E
        clear hM1E
        generalize hMM : srt (nf (zN zs) n y f k) = M at HO hls HSN
        have HO1 := Lib.hid HO.out
        have HNE := Lib.hid (own_block HO.out)
        have HG1 := Lib.hid HI.out.1
        have hgw := HG1.out
        generalize hk2 : M.length = k2 at HO1 hls
        have hk2b : k2 ≤ 256 := by omega
        have HK2 := Lib.hid hk2
        clear hMM HNF hls hln hnear hk2 hxl
        go_wp2_with (first | (go_at_call 41; (with_reducible refine HWO.out.mono ?_); rintro e w' ⟨rfl, hw⟩; subst hw) | (at_builtin; refine wpList_append_lies _ rfl _ _ 22 rfl B0 2 i0 (.int .i64 0) 1 8 Tryd.underlying22 hi hz0 hz1 hz2 rfl (by omega) v k2 (M.map (Value.int .i64)) rfl (World.ownsRow.alloc HO1.out _) ⟨wr.heap.size, 0, none⟩ 1 1 [.int .i64 (E : Int)] rfl rfl (World.news_of_block (cs := #[.int .i64 (E : Int)]) (t := 2) (fr := (0, 0)) (heap_alloc_new _ _)) (by simp [Value.oneCell']) (by omega) (by unfold maxLen; omega) (by omega) (by have := HW.out.size; simp; omega) (wr.heap.size + 1) (by simp) ?_; intro gg cp2 w5 hown1 hgrow hat hlt9; have HO2 := Lib.hid hown1; have HG2 := Lib.hid hgrow; have HAT := Lib.hid hat; clear hown1 hgrow hat hlt9) | fail)
        have HI5 := Lib.hid (icl_grown HG2.out (fun e => HNG.out e.symm) (HI.out.below (below_alloc _ _)))
        have HW5 := Lib.hid (Below.grown (Below.alloc HW.out HW.out.size (.cells #[.int .i64 (E : Int)] 2)) HG2.out (by have := HW.out.size; simp; omega) (fun j hj => Nat.le_trans hBw (HNE.out j hj)))
        have hggB := (HO2.out.lt gg rfl).1
        have hggn : gg ≠ g := fun e => by
          rcases HAT.out with h9 | h9
          · exact HNG.out (by rw [h9, e])
          · omega
        have HNG5 : Hid ((Value.slice (some ⟨gg, 0, none⟩) (k2 + 1) cp2).ownBlock ≠ some g) := Lib.hid (fun e => by have e2 : some gg = some g := e; injection e2 with e3; exact hggn e3)
        have HST : Hid (w5.ownsRow B0 2 1 (.slice (some ⟨gg, 0, none⟩) (k2 + 1) cp2) (k2 + 1) ((insA M (E : Int) k2).map (Value.int .i64))) := Lib.hid (by
          have e : insA M (E : Int) k2 = M ++ [(E : Int)] := by rw [← HK2.out]; exact insA_end M _
          rw [e, List.map_append]; exact HO2.out)
        clear HO1 HO2 HG2 HAT HO HI HW HNG HWO hck hxr hd1 hd2 HNE HG1 hgw
        go_loopw [11, 12] (fun jv uv w' => ∃ (j : Nat) (u : Value) (wq : World), j ≤ k2 ∧ jv = .int .i64 (j : Int) ∧ u = uv ∧ wq = w' ∧ Hid (wq.ownsRow B0 2 1 (.slice (some ⟨gg, 0, none⟩) (k2 + 1) cp2) (k2 + 1) ((insA M (E : Int) j).map (Value.int .i64))) ∧ Hid (ICl wq g N (awL (zN zs) n N)) ∧ Hid (Below w.heap.size w wq) ∧ Hid (∀ i, j ≤ i → i < k2 → (E : Int) < M.getD i 0)) (fun jv _ _ => (intOf jv).toNat)
        case atStart => exact ⟨k2, _, _, Nat.le_refl _, rfl, rfl, rfl, HST, HI5, HW5, Lib.hid (fun i h1 h2 => absurd h1 (by omega))⟩
        case round =>
          clear HST HI5 HW5
          obtain ⟨j, u, wq, hj, rfl, rfl, rfl, HO, HI, HW, HJ⟩ := hrel
          have HFIN : Hid ((j = 0 ∨ M.getD (j - 1) 0 ≤ (E : Int)) → wq.ownsRow B0 2 1 (.slice (some ⟨gg, 0, none⟩) (k2 + 1) cp2) (srt (nf (zN zs) n y f (k + 1))).length ((srt (nf (zN zs) n y f (k + 1))).map (Value.int .i64))) := Lib.hid (fun hlo => by
            have e := HSN.out j (by rw [HK2.out]; exact hj) hlo (fun i h1 h2 => HJ.out i h1 (by rw [← HK2.out]; exact h2))
            have el : (insA M (E : Int) j).length = k2 + 1 := by rw [insA_len (by rw [HK2.out]; exact hj), HK2.out]
            rw [HM1E.out, ← e, el]
            exact HO.out)
          by_cases hj0 : j = 0
          · have HF := Lib.hid (HFIN.out (.inl hj0))
            subst hj0
            clear HFIN
            go_wp2
            go_quiet (fail)
            all_goals
              go_wp2
              exact ⟨⟨k + 1, _, _, hlt, rfl, by first | rfl | go_num | (congr 1), rfl, Lib.hid (by exact HF.out), Lib.hid (by exact HI.out), Lib.hid (by repeat (first | exact HW.out | refine Below.drew ?_ | refine Below.drewN' ?_ _)), HNG5⟩, by show N - ((k : Int) + 1).toNat < N - (k : Int).toNat; omega⟩
          · obtain ⟨p, rfl⟩ : ∃ p, j = p + 1 := ⟨j - 1, by omega⟩
            have hjl : p + 1 ≤ M.length := by rw [HK2.out]; exact hj
            have hc1 := own_cell HO.out (show p + 1 < k2 + 1 by omega)
            rw [insA_at hjl] at hc1
            have hc0 := own_cell HO.out (show p < k2 + 1 by omega)
            have he0 : (insA M (E : Int) (p + 1)).getD p 0 = M.getD p 0 := insA_pred (k := p + 1) (by omega) hjl
            rw [he0] at hc0
            have hsub : ((p + 1 : Nat) : Int) - 1 = (p : Int) := by omega
            have hsub2 : (p : Int) + 1 - 1 = (p : Int) := by omega
            have hpos : decide ((0 : Int) < ((p + 1 : Nat) : Int)) = true := decide_eq_true (by omega)
            have hpos2 : decide ((0 : Int) < (p : Int) + 1) = true := decide_eq_true (by omega)
            obtain ⟨j, hjp⟩ : ∃ j, p + 1 = j := ⟨_, rfl⟩
            have hjI : ((j : Nat) : Int) - 1 = (p : Int) := by omega
            have hjpos : decide ((0 : Int) < (j : Int)) = true := decide_eq_true (by omega)
            have hjpos2 : decide (0 < j) = true := decide_eq_true (by omega)
            have hwj : IntKind.i64.wrap ((j : Int) - 1) = (p : Int) := by rw [hjI]; exact IntWalk.i64_in _ (by omega)
            have hjk : j < k2 + 1 := by omega
            have hpk : p < k2 + 1 := by omega
            have hpj : p < j := by omega
            have hf1 := HO.out.frozenAt j
            have hf0 := HO.out.frozenAt p
            by_cases hlt2 : (E : Int) < M.getD p 0
            · have HJ2 : Hid (∀ i, p ≤ i → i < k2 → (E : Int) < M.getD i 0) := Lib.hid (fun i h1 h2 => by
                by_cases e : i = p
                · subst e; exact hlt2
                · exact HJ.out i (by omega) h2)
              have HSW := Lib.hid (insA_swap (M := M) (x := (E : Int)) (k := p + 1) (by omega) hjl)
              have hdl : decide ((E : Int) < M.getD p 0) = true := decide_eq_true hlt2
              have HO2 : Hid (((wq.setCell ⟨gg, p + 1, none⟩ (.int .i64 (M.getD p 0))).setCell ⟨gg, p, none⟩ (.int .i64 (E : Int))).ownsRow B0 2 1 (.slice (some ⟨gg, 0, none⟩) (k2 + 1) cp2) (k2 + 1) ((insA M (E : Int) p).map (Value.int .i64))) := Lib.hid (by
                have h9 := (own_set (own_set HO.out (p + 1) (M.getD p 0)).1 p (E : Int)).1
                have e := HSW.out
                rw [show p + 1 - 1 = p from rfl] at e
                rw [e] at h9
                exact h9)
              have HI2 : Hid (ICl ((wq.setCell ⟨gg, p + 1, none⟩ (.int .i64 (M.getD p 0))).setCell ⟨gg, p, none⟩ (.int .i64 (E : Int))) g N (awL (zN zs) n N)) := Lib.hid ((HI.out.far (a := ⟨gg, p + 1, none⟩) hggn _).far (a := ⟨gg, p, none⟩) hggn _)
              have HW2 : Hid (Below w.heap.size w ((wq.setCell ⟨gg, p + 1, none⟩ (.int .i64 (M.getD p 0))).setCell ⟨gg, p, none⟩ (.int .i64 (E : Int)))) := Lib.hid (Below.setCell (Below.setCell HW.out (by show w.heap.size ≤ gg; omega) _) (by show w.heap.size ≤ gg; omega) _)
              generalize M.getD p 0 = mq at hc0 hlt2 hdl HO2 HI2 HW2
              rw [hjp] at hc1 HO2 HI2 HW2 ⊢
              clear HFIN HSW hsub hsub2 hpos hpos2 he0 HJ hj0
              clear hjp hjl HO
              go_wp2
              go_quiet (fail)
              all_goals
                go_wp2
                exact ⟨⟨p, _, _, by omega, by first | rfl | go_num | (congr 1), rfl, rfl, Lib.hid (by exact HO2.out), Lib.hid (by exact HI2.out), Lib.hid (by first | exact HW2.out | (refine Below.setCell (Below.setCell ?_ (show w.heap.size ≤ gg by omega) _) (show w.heap.size ≤ gg by omega) _; repeat (first | exact HW.out | refine Below.drew ?_ | refine Below.drewN' ?_ _))), HJ2⟩, by show ((p : Int)).toNat < ((j : Int)).toNat; omega⟩
            · have HF := Lib.hid (HFIN.out (.inr (by show M.getD p 0 ≤ (E : Int); omega)))
              have hdl : decide ((E : Int) < M.getD p 0) = false := decide_eq_false hlt2
              generalize M.getD p 0 = mq at hc0 hlt2 hdl
              rw [hjp] at hc1 ⊢
              clear HFIN hsub hsub2 hpos hpos2 he0 hj0 HO HJ
              clear hjp hjl
              go_wp2
              go_quiet (fail)
              all_goals
                go_wp2
                exact ⟨⟨k + 1, _, _, hlt, rfl, by first | rfl | go_num | (congr 1), rfl, Lib.hid (by exact HF.out), Lib.hid (by exact HI.out), Lib.hid (by repeat (first | exact HW.out | refine Below.drew ?_ | refine Below.drewN' ?_ _)), HNG5⟩, by show N - ((k : Int) + 1).toNat < N - (k : Int).toNat; omega⟩
      · have HNF := Lib.hid (nf_no (z := zN zs) (n := n) (x := y) (f := f) (k := k) hnear)
        have hd1 : decide (f < wt (ew (zN zs) n k ^^^ y)) = true := decide_eq_true (by omega)
        have hd2 : decide ((f : Int) < (wt (ew (zN zs) n k ^^^ y) : Int)) = true := decide_eq_true (by omega)
        generalize wt (ew (zN zs) n k ^^^ y) = q at HWO hnear hd1 hd2
        generalize ew (zN zs) n k ^^^ y = xx at hxr hxl HWO
        generalize ew (zN zs) n k = E at hck HE hxr
        clear hnear hxl
        go_wp2_with (first | (go_at_call 41; (with_reducible refine HWO.out.mono ?_); rintro e w' ⟨rfl, hw⟩; subst hw) | fail)
        exact ⟨⟨k + 1, _, _, hlt, rfl, by first | rfl | go_num | (congr 1), rfl, Lib.hid (by rw [HNF.out]; exact HO.out), HI, HW, HNG⟩, by show N - ((k : Int) + 1).toNat < N - (k : Int).toNat; omega⟩
    · obtain rfl : k = N := by omega
      go_wp2
      exact bodyPost_ret (v := .tuple #[v, .bool true]) (by simp [results, Tryd.results25, go_sem]) rfl ⟨v, rfl, by rw [HLK.out, HL.out]; exact own_monoB HO.out hBw, HW.out⟩
end Go.Proofs.YtjlifbnenngijaaDoor
