/- WordsOf: the words of the model. -/
import Derived.Test.YtiajpmfdaooefaaOrv
import Derived.Test.YtiajpmfdaooefaaStr
import Derived.Test.YtiajpmfdaooefaaDgz
import Derived.Deep.QuietTactic
import Derived.BigQuiet
namespace Go.Proofs.Ytiajpmfdaooefaa
open Go.Proofs.Ytiajpmfdaooefaa.Flo Go.RowKit Go.Sort

theorem Try.infoI : (Try.prog.info? 3).map (fun i => (i.zero, i.size, i.bytes)) = some (some (.int .i64 0), 1, 8) := by kernel_rfl
theorem app_map2 (L : List Int) (x : Int) : (L ++ [x]).map (Value.int .i64) = L.map (Value.int .i64) ++ [.int .i64 x] := by simp
/-- A row of texts in the making. -/
def SCell (w : World) (p n : Nat) (f : Nat → ByteArray) : Prop := p < w.heap.size ∧ ∀ j, j < n → w.cell? ⟨p, j, none⟩ = some (.string (f j)) ∧ w.frozen? ⟨p, j, none⟩ = false
theorem SCell.put {w : World} {p n k : Nat} {s : ByteArray} {f : Nat → ByteArray} (h : SCell w p n f) (hk : k < n) : SCell (w.setCell ⟨p, k, none⟩ (.string s)) p n (fun j => if j = k then s else f j) := by
  refine ⟨by rw [World.size_setCell]; exact h.1, fun j hj => ⟨?_, by rw [World.frozen?_setCell]; exact (h.2 j hj).2⟩⟩
  by_cases e : j = k
  · subst e
    rw [World.cell?_setCell_same (h := (h.2 j hj).1)]; simp
  · rw [World.cell?_setCell_other (h := fun e2 => e (by injection e2 with _ e3 _; exact e3.symm)), (h.2 j hj).1]; simp [e]
theorem SCell.below {w w' : World} {p n : Nat} {f : Nat → ByteArray} (h : SCell w p n f) (hb : Below w.heap.size w w') : SCell w' p n f :=
  ⟨Nat.lt_of_lt_of_le h.1 hb.size, fun j hj => ⟨(hb.cell (p := ⟨p, j, none⟩) h.1).trans (h.2 j hj).1, (hb.frozen (p := ⟨p, j, none⟩) h.1).trans (h.2 j hj).2⟩⟩
theorem SCell.drewN {w : World} {p n : Nat} {f : Nat → ByteArray} (h : SCell w p n f) (q : Nat) : SCell (w.drewN q) p n f := h
theorem SCell.eq {w : World} {p n : Nat} {f f' : Nat → ByteArray} (h : SCell w p n f) (e : ∀ j, j < n → f j = f' j) : SCell w p n f' := ⟨h.1, fun j hj => by rw [← e j hj]; exact h.2 j hj⟩
theorem SCell.ent {w : World} {p n : Nat} {f : Nat → ByteArray} (h : SCell w p n f) : Ent.ok w p (.sl n f) := ⟨trivial, h.2⟩
theorem scell_new (w : World) (n : Nat) (T : TypeId) : SCell (w.alloc (.cells (madeCells #[Value.string ⟨#[]⟩] n) T)) w.heap.size n (fun _ => ⟨#[]⟩) := by
  refine ⟨by simp, fun j hj => ⟨?_, World.frozen?_alloc_at _ _ _ _ rfl⟩⟩
  rw [World.cell?_alloc_at _ _ _ _ rfl]
  have e : madeCells #[Value.string ⟨#[]⟩] n = Array.replicate n (Value.string ⟨#[]⟩) := by
    apply Array.ext
    · simp [madeCells]
    · intro i h1 h2
      simp [madeCells, Nat.mod_one]
  rw [e]
  simp [hj]
/-- How long the words are, in order. -/
def lzD (zs : List Int) (n k : Nat) : Int := zs.getD ((ordA zs n)[k]!).toNat 0
/-- The words' numbers. -/
def wX (zs : List Int) (n : Nat) : Nat → Int
  | 0 => 0
  | k + 1 => wrap64 (wrap64 (wX zs n k + 1) * 2 ^ (lzD zs n (k + 1) - lzD zs n k).toNat)
def xhI (zs : List Int) (n : Nat) : Nat → Int
  | 0 => 0
  | k + 1 => wX zs n k
def lhI (zs : List Int) (n : Nat) : Nat → Int
  | 0 => lzD zs n 0
  | k + 1 => lzD zs n k
/-- The words behind k rounds. -/
def wdF (zs : List Int) (n : Nat) : Nat → Nat → ByteArray
  | 0, _ => ⟨#[]⟩
  | k + 1, j => if j = ((ordA zs n)[k]!).toNat then txB (dgL (wX zs n k) (lzD zs n k).toNat) else wdF zs n k j
set_option maxRecDepth 100000 in
set_option maxHeartbeats 8000000 in
theorem wd_spec (p0 : Nat) (a : Option Addr) (n cap : Nat) (zs : List Int) (w : World) (h : IRow w a n zs) (hn1 : 1 ≤ n) (hn2 : n ≤ 16) (hl : lnP zs n) (hp : w.cell? ⟨p0, 0, none⟩ = some (.slice a n cap)) (hpl : p0 < w.heap.size) :
    Calls Try.prog 66 #[.pointer (some ⟨p0, 0, none⟩)] w fun e w' => ∃ g, e = .returned (.slice (some ⟨g, 0, none⟩) n n) ∧ New w w' g (.sl n (wdF zs n n)) := by
  obtain ⟨i0, hi, hz0, hz1, hz2⟩ := info_parts Try.infoI
  have hst : ∀ (a : Addr) (m : Mode) (x : Int) (w : World), (store a (.int .i64 x) m).run Try.prog w = stored Try.prog w a (.int .i64 x) m := fun a m x w => run_store Try.prog w a (.int .i64 x) m rfl
  have HA := Lib.hid h
  have HL := Lib.hid hl
  have HPC := Lib.hid hp
  obtain ⟨b1, o1, rfl, _, _⟩ := HA.out.cell' (k := 0) (by omega)
  clear h hl hp
  go_enter Try.func66, Try.ntmps66
  have hp00 := HPC.out
  go_wp2
  clear hp00
  go_loopw [4, 5] (fun v0 iv wr0 => ∃ (i : Nat) (v : Value) (wr : World), i ≤ n ∧ v = v0 ∧ iv = .int .i64 i ∧ wr = wr0 ∧ Hid (wr.ownsRow w.heap.size 3 1 (v) (i) ((ordT (ordP zs n i) i).map (Value.int .i64))) ∧ Hid (Below w.heap.size w wr)) (fun _ iv _ => n - (intOf iv).toNat)
  case atStart => exact ⟨0, _, _, by omega, rfl, rfl, rfl, Lib.hid (own_empty w 3), Lib.hid (Below.alloc (Below.refl _ _) (Nat.le_refl _) _)⟩
  case round =>
    obtain ⟨i, v, wr, hin, rfl, rfl, rfl, HO, HW⟩ := hrel
    obtain ⟨hs1, hs2, hs3⟩ := ordP_ok zs n i hin
    by_cases hlt : i < n
    · have HGL := Lib.hid HW.out.size
      have HNE0 : Hid (∀ b, v.ownBlock = some b → w.heap.size ≤ b) := Lib.hid (own_block HO.out)
      have HON : Hid (ordT (ordP zs n i) i ++ [(i : Int)] = ordT (ordP zs n i) (i + 1)) := Lib.hid (by
        have e := hs3 i (Nat.le_refl _) hlt
        rw [← e]; exact ordT_on (by rw [hs1]; exact hlt))
      have HOK : Hid (OrdOk n i (ordP zs n i)) := Lib.hid ⟨hs1, hs2, fun m h1 h2 => hs3 m (by omega) h2⟩
      obtain ⟨L, hL⟩ : ∃ L, L = ordT (ordP zs n i) i := ⟨_, rfl⟩
      rw [← hL] at HON
      have HOv : Hid (wr.ownsRow w.heap.size 3 1 (v) (i) ((L).map (Value.int .i64))) := Lib.hid (by rw [hL]; exact HO.out)
      clear hL hs1 hs2 hs3
      go_wp2_with (first | (at_builtin; refine wpList_append_lies _ rfl _ _ 83 rfl (w.heap.size) 3 i0 (.int .i64 0) 1 8 Try.underlying83 hi hz0 hz1 hz2 rfl (by omega) v i (L.map (Value.int .i64)) rfl (World.ownsRow.alloc HOv.out _) ⟨wr.heap.size, 0, none⟩ 1 1 [.int .i64 (i : Int)] rfl rfl (World.news_of_block (cs := #[.int .i64 (i : Int)]) (t := 3) (fr := (0, 0)) (heap_alloc_new _ _)) (by simp [Value.oneCell']) (by omega) (by unfold maxLen; omega) (by omega) (by have := HGL.out; simp; omega) (wr.heap.size + 1) (by simp) ?_; intro gg cp w5 hown1 hgrow hat hlt2; have HO2 := Lib.hid hown1; have HG2 := Lib.hid hgrow; clear hown1 hgrow hat hlt2) | go_in)
      have HO3 : Hid (w5.ownsRow w.heap.size 3 1 (.slice (some ⟨gg, 0, none⟩) (i + 1) cp) (i + 1) ((ordT (ordP zs n i) (i + 1)).map (Value.int .i64))) := Lib.hid (by rw [← HON.out, app_map2]; exact HO2.out)
      have HW5 : Hid (Below w.heap.size w w5) := Lib.hid (Below.grown (Below.alloc HW.out HW.out.size _) HG2.out (by have := HW.out.size; simp; omega) HNE0.out)
      clear HO2 HG2 HNE0
      go_loopw [6] (fun kv w0 => ∃ (j : Nat) (D : Array Int) (w2 : World), j ≤ i ∧ kv = .int .i64 j ∧ w2 = w0 ∧ Hid (OrdOk n i D) ∧ Hid (insInner (ltZ zs n) 0 j D = ordP zs n (i + 1)) ∧ Hid (w2.ownsRow w.heap.size 3 1 (.slice (some ⟨gg, 0, none⟩) (i + 1) cp) (i + 1) ((ordT D (i + 1)).map (Value.int .i64))) ∧ Hid (Below w.heap.size w w2)) (fun kv _ => (intOf kv).toNat)
      case atStart => exact ⟨i, _, _, by omega, rfl, rfl, HOK, Lib.hid rfl, HO3, HW5⟩
      case round =>
        obtain ⟨j, D, w2, hj, rfl, rfl, HOD, HIN, HR, HW2⟩ := hrel
        by_cases hj0 : j = 0
        · subst hj0
          have HF : Hid (D = ordP zs n (i + 1)) := Lib.hid HIN.out
          have hd : decide ((0 : Int) < 0) = false := by decide
          go_wp2
          go_quiet (fail)
          go_wp2
          exact ⟨⟨i + 1, _, _, by omega, rfl, by first | rfl | go_num | (congr 1), rfl, Lib.hid (by rw [← HF.out]; exact HR.out), Lib.hid (Below.drewN' HW2.out _)⟩, by show n - ((i : Int) + 1).toNat < n - (i : Int).toNat; omega⟩
        · obtain ⟨q, hq⟩ : ∃ q, j = q + 1 := ⟨j - 1, by omega⟩
          have hsz := HOD.out.size
          obtain ⟨x1, hx1⟩ : ∃ x1 : Nat, D[j]! = (x1 : Int) := ⟨(D[j]!).toNat, by have := (HOD.out.all j (by omega)).1; omega⟩
          obtain ⟨x2, hx2⟩ : ∃ x2 : Nat, D[q]! = (x2 : Int) := ⟨(D[q]!).toNat, by have := (HOD.out.all q (by omega)).1; omega⟩
          have hx1n : x1 < n := by have := (HOD.out.all j (by omega)).2; omega
          have hx2n : x2 < n := by have := (HOD.out.all q (by omega)).2; omega
          have hc1 : w2.cell? ⟨gg, j, none⟩ = some (.int .i64 (x1 : Int)) := (own_cell HR.out (j := j) (by omega)).trans (by rw [ordT_get (by omega) (by omega), hx1])
          have hc2 : w2.cell? ⟨gg, q, none⟩ = some (.int .i64 (x2 : Int)) := (own_cell HR.out (j := q) (by omega)).trans (by rw [ordT_get (by omega) (by omega), hx2])
          have hz1' : w2.cell? ⟨b1, o1 + x1, none⟩ = some (.int .i64 (zs.getD x1 0)) := by
            obtain ⟨b9, o9, e9, _, hck⟩ := (HA.out.below HW2.out).cell' hx1n
            injection e9 with e9; injection e9 with e8 e9; subst e8; subst e9; exact hck
          have hz2' : w2.cell? ⟨b1, o1 + x2, none⟩ = some (.int .i64 (zs.getD x2 0)) := by
            obtain ⟨b9, o9, e9, _, hck⟩ := (HA.out.below HW2.out).cell' hx2n
            injection e9 with e9; injection e9 with e8 e9; subst e8; subst e9; exact hck
          have hpc : w2.cell? ⟨p0, 0, none⟩ = some (.slice (some ⟨b1, o1, none⟩) n cap) := (HW2.out.cell (p := ⟨p0, 0, none⟩) hpl).trans HPC.out
          have hwq : IntKind.i64.wrap ((j : Int) - 1) = (q : Int) := by
            have e : (j : Int) - 1 = (q : Int) := by omega
            rw [e]; exact IntWalk.i64_in _ (by omega)
          have hjp : 0 < j := by omega
          have hj1 : decide (0 < j) = true := decide_eq_true hjp
          have hI : insInner (ltZ zs n) 0 j D = if decide (zs.getD x1 0 < zs.getD x2 0) = true then insInner (ltZ zs n) 0 q (swp D (q + 1) q) else D := by
            rw [hq]
            show (if (q + 1 > 0 && ltZ zs n D[q + 1]! D[q]!) = true then _ else _) = _
            rw [← hq, hx1, hx2, ltZ_in zs hx1n hx2n]
            simp [hjp]
          have HII := Lib.hid (hI.symm.trans HIN.out)
          have hq1 : q < i + 1 := by omega
          have hq2 : j < i + 1 := by omega
          have hz1b := hz1'
          have hz2b := hz2'
          by_cases hb : zs.getD x1 0 < zs.getD x2 0
          · have hbd : decide (zs.getD x1 0 < zs.getD x2 0) = true := decide_eq_true hb
            have HN : Hid (insInner (ltZ zs n) 0 q (swp D (q + 1) q) = ordP zs n (i + 1)) := Lib.hid (by rw [← HII.out, if_pos hbd])
            have HND := Lib.hid (HOD.out.swp (p := q) (by omega) hlt)
            have HS1 := Lib.hid (own_set HR.out j (x2 : Int))
            have HS2 := Lib.hid (own_set HS1.out.1 q (x1 : Int))
            have hf1 := HR.out.frozenAt j
            have hf2 := HR.out.frozenAt q
            have hqj : ¬ (q = j) := by omega
            have hqi : q ≤ i := by omega
            have hqlt : q < j := by omega
            have hjq : ¬ (j = q) := by omega
            have HE : Hid (((ordT D (i + 1)).set j (x2 : Int)).set q (x1 : Int) = ordT (swp D (q + 1) q) (i + 1)) := Lib.hid (by
              have := ordT_swp (D := D) (i := i + 1) (p := q) (by omega) (by omega)
              rw [← this, ← hq, ordT_get (by omega) (by omega), ordT_get (by omega) (by omega), hx1, hx2])
            have HGB := Lib.hid (own_lt HR.out)
            clear hb hI HII hx1 hx2 hq hj0 hsz hz1' hz2'
            generalize zs.getD x1 0 = c1 at hz1b hbd
            generalize zs.getD x2 0 = c2 at hz2b hbd
            go_wp2
            go_quiet (fail)
            go_wp2
            exact ⟨⟨q, _, _, by omega, rfl, rfl, HND, HN, Lib.hid (by rw [← HE.out]; exact HS2.out.1), Lib.hid (((Below.drewN' HW2.out _).setCell HGB.out.1 _).setCell HGB.out.1 _)⟩, by show (q : Int).toNat < (j : Int).toNat; omega⟩
          · have hbd : decide (zs.getD x1 0 < zs.getD x2 0) = false := decide_eq_false hb
            have HF : Hid (D = ordP zs n (i + 1)) := Lib.hid (by rw [← HII.out, if_neg (by rw [hbd]; decide)])
            clear hb hI HII hx1 hx2 hq hj0 hsz hz1' hz2'
            generalize zs.getD x1 0 = c1 at hz1b hbd
            generalize zs.getD x2 0 = c2 at hz2b hbd
            go_wp2
            go_quiet (fail)
            go_wp2
            exact ⟨⟨i + 1, _, _, by omega, rfl, by first | rfl | go_num | (congr 1), rfl, Lib.hid (by rw [← HF.out]; exact HR.out), Lib.hid (Below.drewN' HW2.out _)⟩, by show n - ((i : Int) + 1).toNat < n - (i : Int).toNat; omega⟩
    · obtain rfl : i = n := by omega
      obtain ⟨g, cp, rfl, hg, hgl⟩ := World.ownsRow.form HO.out (by omega)
      have hmk := fun w2 : World => run_make_row' (P := Try.prog) 47 9 (.string ⟨#[]⟩) 16 Try.underlying47 Try.infoS rfl .i64 .i64 i (by omega) (by omega) w2
      have HOR : Hid (ordA zs i = ordP zs i i) := Lib.hid rfl
      have HCELL : Hid (∀ (W : World) (k : Nat), Below wr.heap.size wr W → k < i → W.cell? ⟨g, k, none⟩ = some (.int .i64 ((ordA zs i)[k]!))) := Lib.hid (fun W k hb hk => by
        rw [hb.cell (p := ⟨g, k, none⟩) hgl, own_cell HO.out hk, ordT_get (by omega) hk, HOR.out])
      have HLONG : Hid (∀ (W : World) (x : Nat), Below wr.heap.size wr W → x < i → W.cell? ⟨b1, o1 + x, none⟩ = some (.int .i64 (zs.getD x 0))) := Lib.hid (fun W x hb hx => by
        obtain ⟨b9, o9, e9, _, hck⟩ := (HA.out.below (Below.next HW.out hb)).cell' hx
        injection e9 with e9; injection e9 with e8 e9; subst e8; subst e9; exact hck)
      have HPTR : Hid (∀ (W : World), Below wr.heap.size wr W → W.cell? ⟨p0, 0, none⟩ = some (.slice (some ⟨b1, o1, none⟩) i cap)) := Lib.hid (fun W hb => ((Below.next HW.out hb).cell (p := ⟨p0, 0, none⟩) hpl).trans HPC.out)
      have HOA : Hid (∀ k, k < i → ∃ x : Nat, x < i ∧ (ordA zs i)[k]! = (x : Int) ∧ lzD zs i k = zs.getD x 0) := Lib.hid (fun k hk => by
        have h2 := hs2 k hk
        refine ⟨((ordA zs i)[k]!).toNat, ?_, ?_, rfl⟩
        · rw [HOR.out]; omega
        · rw [HOR.out]; omega)
      have HGW : Hid (w.heap.size ≤ wr.heap.size) := Lib.hid HW.out.size
      clear hs1 hs2 hs3 hg hgl
      obtain ⟨x0, hx0, hxe, hlz⟩ := HOA.out 0 (by omega)
      have HNB : Hid (Below wr.heap.size wr (wr.alloc (.cells (madeCells #[Value.string ⟨#[]⟩] i) 9))) := Lib.hid (below_alloc _ _)
      have hc0 := HCELL.out _ 0 HNB.out (by omega)
      rw [hxe] at hc0
      have hc1 := HLONG.out _ x0 HNB.out hx0
      have hc2 := HPTR.out _ HNB.out
      have HZ0 : Hid (lhI zs i 0 = zs.getD x0 0) := Lib.hid hlz
      have HSN := Lib.hid (scell_new wr i 9)
      clear hxe hlz
      have hcp : 0 < i := by omega
      have hN1 : i ≤ cp := by
        obtain ⟨_, h2⟩ := HO.out
        rcases h2 with ⟨h2, _⟩ | ⟨g9, cap9, cur, hv, _, _, h9, _⟩
        · cases h2
        · injection hv with _ _ hv3; omega
      generalize zs.getD x0 0 = l0 at hc1 HZ0
      go_wp2
      go_quiet (fail)
      clear hc0 hc1 hc2 hmk
      go_wp2_with fail
      go_loopw [9, 10, 11] (fun xv lv kv w0 => ∃ (k : Nat) (w3 : World), k ≤ i ∧ xv = .int .i64 (xhI zs i k) ∧ lv = .int .i64 (lhI zs i k) ∧ kv = .int .i64 k ∧ w3 = w0 ∧ Hid (SCell w3 wr.heap.size i (wdF zs i k)) ∧ Hid (Below wr.heap.size wr w3)) (fun _ _ kv _ => i - (intOf kv).toNat)
      case atStart => exact ⟨0, _, by omega, rfl, by rw [HZ0.out], rfl, rfl, Lib.hid (HSN.out.drewN _), Lib.hid (Below.drewN' HNB.out _)⟩
      case round =>
        obtain ⟨k, w3, hk, rfl, rfl, rfl, rfl, HS, HB3⟩ := hrel
        by_cases hkl : k < i
        · obtain ⟨x, hx, hxe, hlz⟩ := HOA.out k hkl
          have hc0 := HCELL.out _ k HB3.out hkl
          rw [hxe] at hc0
          have hc1 := HLONG.out _ x HB3.out hx
          have hc2 := HPTR.out _ HB3.out
          have hl1 := HL.out x hx
          obtain ⟨M, hM⟩ : ∃ M : Nat, zs.getD x 0 = (M : Int) := ⟨(zs.getD x 0).toNat, by omega⟩
          have HLM : Hid (lzD zs i k = (M : Int)) := Lib.hid (hlz.trans hM)
          have HWD : Hid (∀ j, wdF zs i (k + 1) j = if j = x then txB (dgL (wX zs i k) M) else wdF zs i k j) := Lib.hid (fun j => by
            show (if j = ((ordA zs i)[k]!).toNat then txB (dgL (wX zs i k) (lzD zs i k).toNat) else wdF zs i k j) = _
            rw [hxe, HLM.out]; rfl)
          rw [hM] at hc1 hl1
          have hM32 : M ≤ 32 := by omega
          have hcs := (HS.out.2 x hx).1
          have hfs := (HS.out.2 x hx).2
          have hps := HS.out.1
          generalize wdF zs i k x = old at hcs
          clear hxe hlz hM
          by_cases hk0 : k = 0
          · subst hk0
            have HX0 : Hid (xhI zs i 0 = wX zs i 0) := Lib.hid rfl
            have HL1 : Hid (lhI zs i (0 + 1) = (M : Int)) := Lib.hid HLM.out
            have HX1 : Hid (xhI zs i (0 + 1) = wX zs i 0) := Lib.hid rfl
            rw [HX0.out]
            generalize wX zs i 0 = X at HWD HX1
            generalize lhI zs i 0 = l9
            have hd0 : decide ((0 : Int) < 0) = false := by decide
            go_wp2_with (first | (go_at_call 102; refine (dg_spec X M _ (by omega)).mono ?_; rintro e w' ⟨rfl, rfl⟩) | go_in)
            exact ⟨⟨0 + 1, _, by omega, by rw [HX1.out], by rw [HL1.out], by first | rfl | go_num | (congr 1), rfl, Lib.hid ((HS.out.put (s := txB (dgL X M)) hx).eq (fun j _ => (HWD.out j).symm)), Lib.hid (HB3.out.setCell (Nat.le_refl _) _)⟩, by show i - ((0 : Int) + 1).toNat < i - (0 : Int).toNat; omega⟩
          · obtain ⟨m, hm⟩ : ∃ m, k = m + 1 := ⟨k - 1, by omega⟩
            have hso := ordA_sorted zs (n := i) (i := m) (by omega)
            have HXH : Hid (xhI zs i k = wX zs i m) := Lib.hid (by rw [hm]; rfl)
            have HLH : Hid (lhI zs i k = lzD zs i m) := Lib.hid (by rw [hm]; rfl)
            obtain ⟨x9, hx9, _, hlz9⟩ := HOA.out m (by omega)
            have hl9 := HL.out x9 hx9
            obtain ⟨M9, hM9⟩ : ∃ M9 : Nat, lzD zs i m = (M9 : Int) := ⟨(lzD zs i m).toNat, by omega⟩
            have hle : M9 ≤ M := by
              have e1 : lzD zs i (m + 1) = (M : Int) := by rw [← hm]; exact HLM.out
              have e2 : lzD zs i m ≤ lzD zs i (m + 1) := hso
              omega
            obtain ⟨D, hD⟩ : ∃ D, M = M9 + D := ⟨M - M9, by omega⟩
            have HXK : Hid (wX zs i k = wrap64 (wrap64 (wX zs i m + 1) * 2 ^ D)) := Lib.hid (by
              rw [hm]
              show wrap64 (wrap64 (wX zs i m + 1) * 2 ^ (lzD zs i (m + 1) - lzD zs i m).toNat) = _
              rw [← hm, HLM.out, hM9]
              have : ((M : Int) - (M9 : Int)).toNat = D := by omega
              rw [this])
            have HL1 : Hid (lhI zs i (k + 1) = (M : Int)) := Lib.hid HLM.out
            have HX1 : Hid (xhI zs i (k + 1) = wX zs i k) := Lib.hid rfl
            have hws : IntKind.i64.wrap ((M : Int) - (M9 : Int)) = (D : Int) := by rw [IntWalk.i64_in _ (by omega)]; omega
            have hD32 : D ≤ 32 := by omega
            have hkp : 0 < k := by omega
            have hkd : decide (0 < k) = true := decide_eq_true hkp
            rw [HXH.out, HLH.out, hM9]
            obtain ⟨Y, hY⟩ : ∃ Y, Y = wrap64 (wrap64 (wX zs i m + 1) * 2 ^ D) := ⟨_, rfl⟩
            rw [← hY] at HXK
            have hmin : min D 64 = D := by omega
            rw [HXK.out] at HWD HX1
            clear hso hlz9 hl9 hD hm hM9 hk0 HXK
            generalize wX zs i m = X at hY
            have hY2 := hY.symm
            clear hY
            go_wp2_with (first | (go_at_call 102; refine (dg_spec Y M _ (by omega)).mono ?_; rintro e w' ⟨rfl, rfl⟩) | go_in)
            exact ⟨⟨k + 1, _, by omega, by rw [HX1.out], by rw [HL1.out], by first | rfl | go_num | (congr 1), rfl, Lib.hid ((HS.out.put (s := txB (dgL Y M)) hx).eq (fun j _ => (HWD.out j).symm)), Lib.hid (HB3.out.setCell (Nat.le_refl _) _)⟩, by show i - ((k : Int) + 1).toNat < i - (k : Int).toNat; omega⟩
        · obtain rfl : k = i := by omega
          go_wp2
          go_ret
          exact ⟨_, rfl, HGW.out, HS.out.1, HS.out.ent, Below.next HW.out HB3.out⟩
end Go.Proofs.Ytiajpmfdaooefaa
