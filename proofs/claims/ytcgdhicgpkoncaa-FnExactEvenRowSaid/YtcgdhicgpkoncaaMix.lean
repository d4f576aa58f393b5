/- Mixtures: the model's and the program's. -/
import Derived.Test.YtcgdhicgpkoncaaFrw
import Derived.Deep.RegionHeld3
import Derived.Deep.AppendLies
namespace Go.Proofs.Ytcgdhicgpkoncaa
open Go.Proofs.Ytcgdhicgpkoncaa.Flo Go.RowKit

/-- A number of a mixture. -/
def mixN (sh x y : Nat) : Nat := (vop .add .f32 (vop .mul .f32 (vop .sub .f32 (some one32) (cls .f32 sh)) (cls .f32 x)) (vop .mul .f32 (cls .f32 sh) (cls .f32 y))).getD 0
def mixL (sh : Nat) (za zb : List Nat) (n : Nat) : List Nat := (List.range n).map fun k => mixN sh (za.getD k 0) (zb.getD k 0)
theorem mixL_len (sh : Nat) (za zb : List Nat) (n : Nat) : (mixL sh za zb n).length = n := by simp [mixL]
theorem mixL_get (sh : Nat) (za zb : List Nat) {n k : Nat} (h : k < n) : (mixL sh za zb n).getD k 0 = mixN sh (za.getD k 0) (zb.getD k 0) := by
  simp [mixL, List.getD_eq_getElem?_getD, h]
theorem vle_some {E : Int} {a : Option Nat} (h : VLe .f32 E a) (hc : ∀ b, a = some b → cls .f32 b = some b) : ∃ b, a = some b ∧ cls .f32 b = some b := by
  obtain ⟨b, rfl, _⟩ := h
  exact ⟨b, rfl, hc b rfl⟩
theorem vop_some' {op : BinOp} {k : FloatKind} {a c : Option Nat} {b : Nat} (h : vop op k a c = some b) : cls k b = some b := by
  cases a with
  | none => cases h
  | some x => cases c with
    | none => cases h
    | some y => exact cls_of_not (floatBits_notNaN (op := op) (x := x) (y := y) h)
theorem cls_self {x : Nat} {E : Int} (h : VLe .f32 E (cls .f32 x)) : cls .f32 x = some x := by
  obtain ⟨b, hb, _⟩ := h
  obtain ⟨rfl, _⟩ := cls_some hb
  exact hb
/-- The operations of a mixture give numbers. -/
theorem mix_ops {sh x y : Nat} (hs : VLe .f32 0 (cls .f32 sh)) (hx : VLe .f32 1 (cls .f32 x)) (hy : VLe .f32 1 (cls .f32 y)) :
    ∃ p1 p2 p3, floatBits .sub .f32 1065353216 sh = some p1 ∧ floatBits .mul .f32 p1 x = some p2 ∧ floatBits .mul .f32 sh y = some p3 ∧ floatBits .add .f32 p2 p3 = some (mixN sh x y) ∧ VLe .f32 4 (cls .f32 (mixN sh x y)) := by
  have hone : VLe .f32 0 (cls .f32 one32) := by
    rw [cls_one32]
    exact ⟨_, rfl, by rw [dec_one32]; exact leN_of 23 (by decide) (by decide) (by decide)⟩
  have cs := cls_self hs
  have cx := cls_self hx
  have cy := cls_self hy
  have h1 := vsub_le hone hs (show Norm .f32 (max 0 0 + 1) from ⟨by decide, by decide⟩)
  have h2 := vmul_le h1 hx (show Norm .f32 (max 0 0 + 1 + 1) from ⟨by decide, by decide⟩)
  have h3 := vmul_le hs hy (show Norm .f32 (0 + 1) from ⟨by decide, by decide⟩)
  have h4 := vadd_le h2 h3 (show Norm .f32 (max (max 0 0 + 1 + 1) (0 + 1) + 1) from ⟨by decide, by decide⟩)
  obtain ⟨p1, e1, _⟩ := h1
  obtain ⟨p2, e2, _⟩ := h2
  obtain ⟨p3, e3, _⟩ := h3
  have h4' := h4
  obtain ⟨p4, e4, _⟩ := h4
  have hm : mixN sh x y = p4 := by
    unfold mixN
    rw [← cls_one32, e4]; rfl
  refine ⟨p1, p2, p3, ?_, ?_, ?_, ?_, ?_⟩
  · rw [cls_one32, cs] at e1; exact e1
  · rw [e1, cx] at e2; exact e2
  · rw [cs, cy] at e3; exact e3
  · rw [hm]; rw [e2, e3] at e4; exact e4
  · rw [hm, vop_some' e4]; rw [e4] at h4'; exact h4'.mono (by decide)

/-- What a row of the call's own is, as cells. -/
theorem own_row {w : World} {base : Nat} {e : TypeId} {v : Value} {n : Nat} {zs : List Nat} (h : w.ownsRow base e 1 v n (zs.map (Value.float .f32))) (hn : n ≠ 0) :
    ∃ g cap, v = .slice (some ⟨g, 0, none⟩) n cap ∧ base ≤ g ∧ g < w.heap.size ∧ FRow w (some ⟨g, 0, none⟩) n zs ∧ ∀ j, j < n → w.frozen? ⟨g, j, none⟩ = false := by
  obtain ⟨hl, h⟩ := h
  rcases h with ⟨_, h0⟩ | ⟨g, cap, cur, rfl, hg, hh, hnc, _, hcs, ht⟩
  · exact absurd h0 hn
  · have hlen : zs.length = n := by simpa using hl
    rw [Nat.mul_one] at ht hcs
    have hgl : g < w.heap.size := (Array.getElem?_eq_some_iff.1 hh).1
    have hcell : ∀ i, i < n → w.cell? ⟨g, i, none⟩ = cur[i]? := fun i hi => by
      unfold World.cell?
      rw [Array.getElem?_eq_getElem hgl] at hh
      injection hh with hh
      simp [hgl, hh]
    refine ⟨g, cap, rfl, hg, hgl, ⟨hlen, .inr ⟨g, 0, rfl, hgl, fun i hi => ?_⟩⟩, fun j hj => ?_⟩
    · rw [Nat.zero_add, hcell i hi]
      have h1 : cur[i]? = cur.toList[i]? := by simp
      rw [h1]
      have h2 : (cur.toList.take n)[i]? = cur.toList[i]? := by rw [List.getElem?_take]; simp [hi]
      rw [← h2, ht]
      rw [List.getElem?_map, List.getD_eq_getElem?_getD, List.getElem?_eq_getElem (by omega)]; rfl
    · unfold World.frozen?
      rw [Array.getElem?_eq_getElem hgl] at hh
      injection hh with hh
      simp [hgl, hh]
theorem mix_take (sh : Nat) (za zb : List Nat) {n k : Nat} (h : k < n) : ((mixL sh za zb n).take (k + 1)).map (Value.float .f32) = ((mixL sh za zb n).take k).map (Value.float .f32) ++ [.float .f32 (mixN sh (za.getD k 0) (zb.getD k 0))] := by
  have hl := mixL_len sh za zb n
  rw [List.take_succ_eq_append_getElem (by omega), List.map_append]
  have : (mixL sh za zb n)[k]'(by omega) = mixN sh (za.getD k 0) (zb.getD k 0) := by
    have := mixL_get sh za zb h
    rw [List.getD_eq_getElem?_getD, List.getElem?_eq_getElem (by omega)] at this
    exact this
  rw [← this]; rfl
theorem own_empty (w : World) (T : TypeId) : (w.alloc (.cells #[] T)).ownsRow w.heap.size T 1 (.slice (some ⟨w.heap.size, 0, none⟩) 0 0) 0 [] :=
  ⟨rfl, .inr ⟨w.heap.size, 0, #[], rfl, Nat.le_refl _, heap_alloc_new w _, Nat.le_refl _, Nat.zero_le _, rfl, rfl⟩⟩
theorem own_block {w : World} {base : Nat} {e : TypeId} {v : Value} {n : Nat} {xs : List Value} (h : w.ownsRow base e 1 v n xs) : ∀ k, v.ownBlock = some k → base ≤ k := by
  intro k hk
  rcases h.2 with ⟨rfl, _⟩ | ⟨g, cap, cur, rfl, hg, _⟩
  · cases hk
  · injection hk with hk
    subst hk; exact hg
set_option maxRecDepth 100000 in
set_option maxHeartbeats 4000000 in
theorem mixS (a b : Option Addr) (n cap capb : Nat) (za zb : List Nat) (sh : Nat) (w : World) (ha : FRow w a n za) (hb : FRow w b n zb) (hca : chS za n = true) (hcb : chS zb n = true) (hs : VLe .f32 0 (cls .f32 sh)) (hn : n ≤ 32) :
    Calls Try.prog 55 #[.slice a n cap, .slice b n capb, .float .f32 sh] w fun e w' => ∃ v, e = .returned v ∧ w'.ownsRow w.heap.size 23 1 v n ((mixL sh za zb n).map (Value.float .f32)) ∧ Below w.heap.size w w' := by
  obtain ⟨i0, hi, hz0, hz1, hz2⟩ := info_parts Try.info32
  have HA := Lib.hid ha
  have HB := Lib.hid hb
  have HCA := Lib.hid hca
  have HCB := Lib.hid hcb
  have HS := Lib.hid hs
  have HE := Lib.hid (own_empty w 23)
  clear ha hb hca hcb hs
  go_enter Try.func55, Try.ntmps55
  go_wp2
  go_loopw [7, 8] (fun v0 iv wr0 => ∃ (k : Nat) (v : Value) (wr : World), k ≤ n ∧ v = v0 ∧ iv = .int .i64 k ∧ wr = wr0 ∧ Hid (wr.ownsRow w.heap.size 23 1 v k (((mixL sh za zb n).take k).map (Value.float .f32))) ∧ Hid (Below w.heap.size w wr)) (fun _ iv _ => n - (intOf iv).toNat)
  case atStart => exact ⟨0, _, _, by omega, rfl, rfl, rfl, Lib.hid HE.out, Lib.hid ((Below.refl _ _).alloc (Nat.le_refl _) _)⟩
  case round =>
    obtain ⟨k, v, wr, hk, rfl, rfl, rfl, HO, HW⟩ := hrel
    by_cases hlt : k < n
    · rcases HA.out.2 with h0 | ⟨b1, o1, rfl, hbb1, hc1⟩
      · omega
      rcases HB.out.2 with h0 | ⟨b2, o2, rfl, hbb2, hc2⟩
      · omega
      obtain ⟨p1, p2, p3, e1, e2, e3, e4, _⟩ := mix_ops HS.out (ch_le HCA.out hlt) (ch_le HCB.out hlt)
      have HT := Lib.hid (mix_take sh za zb hlt)
      have hr1 := fun w2 => fres_some e1 w2
      have hr2 := fun w2 => fres_some e2 w2
      have hr3 := fun w2 => fres_some e3 w2
      have hr4 := fun w2 => fres_some e4 w2
      have hdz : ∀ w2 : World, w2.drewN 0 = w2 := World.drewN_zero
      have hf1 := fcnt_some e1
      have hf2 := fcnt_some e2
      have hf3 := fcnt_some e3
      have hf4 := fcnt_some e4
      have hck1 : wr.cell? ⟨b1, o1 + k, none⟩ = some (.float .f32 (za.getD k 0)) := (HW.out.cell (p := ⟨b1, o1 + k, none⟩) hbb1).trans (hc1 k hlt)
      have hck2 : wr.cell? ⟨b2, o2 + k, none⟩ = some (.float .f32 (zb.getD k 0)) := (HW.out.cell (p := ⟨b2, o2 + k, none⟩) hbb2).trans (hc2 k hlt)
      have hwz := HW.out.size
      have hne1 : some b1 ≠ v.ownBlock := fun e => by have := own_block HO.out b1 e.symm; omega
      have hne2 : some b2 ≠ v.ownBlock := fun e => by have := own_block HO.out b2 e.symm; omega
      have HNE := Lib.hid (own_block HO.out)
      clear e1 e2 e3 e4 hc1 hc2
      generalize mixN sh (za.getD k 0) (zb.getD k 0) = z at HT hr4
      generalize za.getD k 0 = x at hck1 hr2 hf2
      generalize zb.getD k 0 = y at hck2 hr3 hf3
      go_wp2
      go_region_held3 (fun w' => w'.cell? ⟨b1, o1 + k, none⟩ = some (.float .f32 x) ∧ w'.cell? ⟨b2, o2 + k, none⟩ = some (.float .f32 y))
        (first
          | go_keep
          | (go_split_ands
             refine ⟨?_, ?_⟩
             · (rw [hgrow.cell_far _ (by simp; omega) hne1]; assumption)
             · (rw [hgrow.cell_far _ (by simp; omega) hne2]; assumption)))
        ((refine step_append_lies _ (by rfl) _ _ _ (by rfl) w.heap.size 23 i0 (.float .f32 0) 1 4 Try.underlying22 hi hz0 hz1 hz2 rfl (by omega) v k (((mixL sh za zb n).take k).map (Value.float .f32)) (by rfl) ((HO.out.alloc _).drew) ⟨wr.heap.size, 0, none⟩ 1 1 [.float .f32 z] (by rfl) (by rfl) (World.news_of_block (cs := #[.float .f32 z]) (t := 23) (fr := (0, 0)) (heap_alloc_new wr _)) (by simp [Value.oneCell']) (by omega) (by unfold maxLen; omega) (by omega) (by simp; omega) (wr.heap.size + 1) (by simp) ?_; intro gg cp w1 hown1 hgrow hat hlt2))
      have HO1 := Lib.hid hown1
      have HG := Lib.hid hgrow
      clear hown1 hgrow
      go_wp2
      exact ⟨⟨k + 1, _, _, by omega, rfl, by first | rfl | go_num | (congr 1), rfl, Lib.hid (by rw [HT.out]; exact HO1.out), Lib.hid (Below.grown ((HW.out.alloc HW.out.size _).drew) HG.out (by have := HW.out.size; simp; omega) HNE.out)⟩, by show n - ((k : Int) + 1).toNat < n - (k : Int).toNat; omega⟩
    · obtain rfl : k = n := by omega
      have HL : Hid ((mixL sh za zb k).take k = mixL sh za zb k) := Lib.hid (List.take_of_length_le (by rw [mixL_len]; exact Nat.le_refl _))
      go_wp2
      go_ret
      exact ⟨_, rfl, by have := HO.out; rw [HL.out] at this; exact this, HW.out⟩
set_option maxRecDepth 100000 in
set_option maxHeartbeats 4000000 in
theorem mixI' (a b : Option Addr) (n cap capb : Nat) (za zb : List Nat) (sh : Nat) (w : World) (ha : FRow w a n za) (hb : FRow w b n zb) (hca : chS za n = true) (hcb : chS zb n = true) (hs : VLe .f32 0 (cls .f32 sh)) (hn : n ≤ 32) :
    Calls Try.prog 58 #[.slice a n cap, .slice b n capb, .float .f32 sh] w fun e w' => e = .returned (.slice (some ⟨w.heap.size, 0, none⟩) n n) ∧ ∃ q, w' = (w.alloc (.cells (fl (mixL sh za zb n)) 23)).drewN q := by
  have HA := Lib.hid ha
  have HB := Lib.hid hb
  have HCA := Lib.hid hca
  have HCB := Lib.hid hcb
  have HS := Lib.hid hs
  have hmk := fun w2 : World => run_make_row' (P := Try.prog) 22 23 (.float .f32 0) 4 Try.underlying22 Try.info32 rfl .i64 .i64 n (by omega) (by omega) w2
  have Hlen := Lib.hid (mixL_len sh za zb n)
  clear ha hb hca hcb hs
  go_enter Try.func58, Try.ntmps58
  go_wp2
  go_loopw [15] (fun iv w' => ∃ k : Nat, k ≤ n ∧ iv = .int .i64 k ∧ ∃ q : Nat, w' = (w.alloc (.cells (mix (mixL sh za zb n) k n) 23)).drewN q) (fun iv _ => n - (intOf iv).toNat)
  case atStart => exact ⟨0, by omega, rfl, 0, by rw [mix_zero]; rfl⟩
  case round =>
    obtain ⟨k, hk, rfl, q, rfl⟩ := hrel
    clear hmk
    by_cases hlt : k < n
    · rcases HA.out.2 with h0 | ⟨b1, o1, rfl, hbb1, hc1⟩
      · omega
      rcases HB.out.2 with h0 | ⟨b2, o2, rfl, hbb2, hc2⟩
      · omega
      obtain ⟨p1, p2, p3, e1, e2, e3, e4, _⟩ := mix_ops HS.out (ch_le HCA.out hlt) (ch_le HCB.out hlt)
      have hr1 := fun w2 => fres_some e1 w2
      have hr2 := fun w2 => fres_some e2 w2
      have hr3 := fun w2 => fres_some e3 w2
      have hr4 := fun w2 => fres_some e4 w2
      have hdz : ∀ w2 : World, w2.drewN 0 = w2 := World.drewN_zero
      have hf1 := fcnt_some e1
      have hf2 := fcnt_some e2
      have hf3 := fcnt_some e3
      have hf4 := fcnt_some e4
      have hck1 : (w.alloc (.cells (mix (mixL sh za zb n) k n) 23)).cell? ⟨b1, o1 + k, none⟩ = some (.float .f32 (za.getD k 0)) := (World.cell?_alloc_past _ _ _ hbb1).trans (hc1 k hlt)
      have hck2 : (w.alloc (.cells (mix (mixL sh za zb n) k n) 23)).cell? ⟨b2, o2 + k, none⟩ = some (.float .f32 (zb.getD k 0)) := (World.cell?_alloc_past _ _ _ hbb2).trans (hc2 k hlt)
      have hset := mix_set (mixL sh za zb n) k n hlt Hlen.out
      rw [mixL_get sh za zb hlt] at hset
      have hsz := mix_size (mixL sh za zb n) k n hk Hlen.out
      have hold2 : k < (mix (mixL sh za zb n) k n).size := by omega
      have hst : ∀ (m : Mode) (Q : Nat), (store ⟨w.heap.size, k, none⟩ (.float .f32 (mixN sh (za.getD k 0) (zb.getD k 0))) m).run Try.prog ((w.alloc (.cells (mix (mixL sh za zb n) k n) 23)).drewN Q) = .ok () ((w.alloc (.cells (mix (mixL sh za zb n) (k + 1) n) 23)).drewN Q) := fun m Q => by
        rw [store_at Try.prog w _ _ w.heap.size k _ Q m rfl hold2, hset]
      clear hold2 hsz hset e1 e2 e3 e4 hc1 hc2
      generalize mixN sh (za.getD k 0) (zb.getD k 0) = z at hst hr4
      generalize za.getD k 0 = x at hck1 hr2 hf2
      generalize zb.getD k 0 = y at hck2 hr3 hf3
      go_wp2
      exact ⟨⟨k + 1, by omega, by first | rfl | go_num | (congr 1), _, rfl⟩, by show n - ((k : Int) + 1).toNat < n - (k : Int).toNat; omega⟩
    · obtain rfl : k = n := by omega
      have HALL := Lib.hid (mix_all (mixL sh za zb k) k Hlen.out)
      rw [HALL.out]
      go_wp2
      go_ret
      exact ⟨rfl, _, rfl⟩
end Go.Proofs.Ytcgdhicgpkoncaa
