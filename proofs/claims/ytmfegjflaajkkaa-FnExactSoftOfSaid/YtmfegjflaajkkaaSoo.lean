
/- SoftOf: the functions. -/
import Derived.Test.YtmfegjflaajkkaaSof
namespace Go.Proofs.Ytmfegjflaajkkaa
open Go.Proofs.Ytmfegjflaajkkaa.Flo Go.RowKit

/-- A number for true, its opposite for false. -/
def sgB (b : Bool) (x : Nat) : Nat := if b then x else Op.negFloat .f32 x
def soB (n x : Nat) : Bool := decide (n ≤ 160) && finB x
theorem sg_true (x : Nat) (w : World) : Calls Try.prog 67 #[.bool true, .float .f32 x] w fun e w' => e = .returned (.float .f32 x) ∧ w = w' := by
  go_enter Try.func67, Try.ntmps67
  go_wp2
  go_ret
  exact ⟨rfl, rfl⟩
theorem sg_false (x : Nat) (w : World) : Calls Try.prog 67 #[.bool false, .float .f32 x] w fun e w' => e = .returned (.float .f32 (Op.negFloat .f32 x)) ∧ w = w' := by
  go_enter Try.func67, Try.ntmps67
  go_wp2
  go_ret
  exact ⟨rfl, rfl⟩
set_option maxRecDepth 100000 in
set_option maxHeartbeats 4000000 in
theorem so_impl (a : Option Addr) (n cap : Nat) (f : Nat → Bool) (x : Nat) (w : World) (ha : BRow w a n f) (hn : n ≤ 1048576) :
    Calls Try.prog 28 #[.slice a n cap, .float .f32 x] w (GPost (soB n x) 37 n (fun i => .float .f32 (sgB (f i) x)) w) := by
  obtain ⟨i0, hi, hz0, hz1, hz2⟩ := info_parts Try.info32
  have HA := Lib.hid ha
  obtain ⟨F, hF⟩ : ∃ F : Nat → Value, F = fun i => .float .f32 (sgB (f i) x) := ⟨_, rfl⟩
  have HFE := Lib.hid hF
  rw [← hF]
  have HX : Hid (∀ W, Calls Try.prog 66 #[.float .f32 x] W fun e w' => e = .returned (.bool (finB x)) ∧ Drew W w') := Lib.hid (fun W => finite_walk _ W)
  clear ha hF
  by_cases h1 : n ≤ 160
  · have d1 : decide (160 < (n : Int)) = false := decide_eq_false (by omega)
    cases hf : finB x with
    | true =>
      have HOK : Hid (soB n x = true) := Lib.hid (by unfold soB; rw [decide_eq_true h1, hf]; rfl)
      rw [hf] at HX
      clear hf
      go_enter Try.func28, Try.ntmps28
      go_wp2_with (first | (go_at_call 66; refine (HX.out _).mono ?_; rintro e w2 ⟨rfl, hd⟩; have HD2 := Lib.hid hd; clear hd) | fail)
      clear HX
      go_loopw [6, 19] (fun sv iv w' => ∃ (k : Nat) (wr : World), k ≤ n ∧ iv = .int .i64 k ∧ wr = w' ∧ Hid (Gat wr w.heap.size 37 sv k F) ∧ Hid (Below w.heap.size w wr)) (fun _ iv _ => n - (intOf iv).toNat)
      case atStart => exact ⟨0, _, by omega, rfl, rfl, Lib.hid (Gat.nil _ _ _ _), Lib.hid (HD2.out.below)⟩
      case round =>
        obtain ⟨k, wr, hk, rfl, rfl, HG, HW⟩ := hrel
        by_cases hlt : k < n
        · obtain ⟨b1, o1, rfl, hck⟩ := (HA.out.below HW.out).cell hlt
          have HK : Hid (F k = .float .f32 (sgB (f k) x)) := Lib.hid (by rw [HFE.out])
          have hsz := HW.out.size
          have HNE := Lib.hid (Gat.block HG.out)
          generalize f k = bit at hck HK
          clear HA
          cases bit with
          | true =>
            have HK2 : Hid (F k = .float .f32 x) := Lib.hid (HK.out.trans (by rfl))
            have HSG : Hid (∀ W, Calls Try.prog 67 #[.bool true, .float .f32 x] W fun e w' => e = .returned (.float .f32 x) ∧ W = w') := Lib.hid (fun W => sg_true x W)
            go_wp2_with (first | (go_at_call 67; refine (HSG.out _).mono ?_; rintro e w2 ⟨rfl, rfl⟩) | (at_builtin; refine wpList_append_lies _ rfl _ _ 22 rfl w.heap.size 37 i0 (.float .f32 0) 1 4 Try.underlying22 hi hz0 hz1 hz2 rfl (by omega) u6 k ((List.range k).map F) rfl (World.ownsRow.alloc HG.out _) ⟨wr.heap.size, 0, none⟩ 1 1 [.float .f32 x] rfl rfl (World.news_of_block (cs := #[.float .f32 x]) (t := 37) (fr := (0, 0)) (heap_alloc_new _ _)) (by simp [Value.oneCell']) (by omega) (by unfold maxLen; omega) (by omega) (by simp; omega) (wr.heap.size + 1) (by simp) ?_; intro gg cp w1 hown1 hgrow hat hlt3; have HO2 := Lib.hid hown1; have HG2 := Lib.hid hgrow; clear hown1 hgrow hat hlt3) | fail)
            exact ⟨⟨k + 1, _, by omega, by first | rfl | go_num | (congr 1), rfl, Lib.hid (Gat.step HO2.out HK2.out.symm), Lib.hid (Below.grown (Below.alloc HW.out HW.out.size _) HG2.out (by simp; omega) (fun j hj => Nat.le_trans (by omega) (HNE.out j hj)))⟩, by show n - ((k : Int) + 1).toNat < n - (k : Int).toNat; omega⟩
          | false =>
            have HK2 : Hid (F k = .float .f32 (Op.negFloat .f32 x)) := Lib.hid (HK.out.trans (by rfl))
            have HSG : Hid (∀ W, Calls Try.prog 67 #[.bool false, .float .f32 x] W fun e w' => e = .returned (.float .f32 (Op.negFloat .f32 x)) ∧ W = w') := Lib.hid (fun W => sg_false x W)
            go_wp2_with (first | (go_at_call 67; refine (HSG.out _).mono ?_; rintro e w2 ⟨rfl, rfl⟩) | (at_builtin; refine wpList_append_lies _ rfl _ _ 22 rfl w.heap.size 37 i0 (.float .f32 0) 1 4 Try.underlying22 hi hz0 hz1 hz2 rfl (by omega) u6 k ((List.range k).map F) rfl (World.ownsRow.alloc HG.out _) ⟨wr.heap.size, 0, none⟩ 1 1 [.float .f32 (Op.negFloat .f32 x)] rfl rfl (World.news_of_block (cs := #[.float .f32 (Op.negFloat .f32 x)]) (t := 37) (fr := (0, 0)) (heap_alloc_new _ _)) (by simp [Value.oneCell']) (by omega) (by unfold maxLen; omega) (by omega) (by simp; omega) (wr.heap.size + 1) (by simp) ?_; intro gg cp w1 hown1 hgrow hat hlt3; have HO2 := Lib.hid hown1; have HG2 := Lib.hid hgrow; clear hown1 hgrow hat hlt3) | fail)
            exact ⟨⟨k + 1, _, by omega, by first | rfl | go_num | (congr 1), rfl, Lib.hid (Gat.step HO2.out HK2.out.symm), Lib.hid (Below.grown (Below.alloc HW.out HW.out.size _) HG2.out (by simp; omega) (fun j hj => Nat.le_trans (by omega) (HNE.out j hj)))⟩, by show n - ((k : Int) + 1).toNat < n - (k : Int).toNat; omega⟩
        · obtain rfl : k = n := by omega
          go_wp2
          exact bodyPost_ret (v := .tuple #[u6, .bool true]) (by simp [results, Try.results28, go_sem]) rfl (.inl ⟨HOK.out, ⟨_, rfl, HG.out⟩, HW.out⟩)
    | false =>
      have HOK : Hid (soB n x = false) := Lib.hid (by unfold soB; rw [decide_eq_true h1, hf]; rfl)
      rw [hf] at HX
      clear hf
      go_enter Try.func28, Try.ntmps28
      go_wp2_with (first | (go_at_call 66; refine (HX.out _).mono ?_; rintro e w2 ⟨rfl, hd⟩; have HD2 := Lib.hid hd; clear hd) | fail)
      exact bodyPost_ret (v := .tuple #[.slice none 0 0, .bool false]) (by simp [results, Try.results28, go_sem]) rfl (.inr ⟨HOK.out, rfl, HD2.out.below⟩)
  · have d1 : decide (160 < (n : Int)) = true := decide_eq_true (by omega)
    have HOK : Hid (soB n x = false) := Lib.hid (by unfold soB; rw [decide_eq_false h1]; rfl)
    go_enter Try.func28, Try.ntmps28
    go_wp2
    exact bodyPost_ret (v := .tuple #[.slice none 0 0, .bool false]) (by simp [results, Try.results28, go_sem]) rfl (.inr ⟨HOK.out, rfl, Below.refl _ _⟩)
set_option maxRecDepth 100000 in
set_option maxHeartbeats 4000000 in
theorem so_spec (a : Option Addr) (n cap : Nat) (f : Nat → Bool) (x : Nat) (w : World) (ha : BRow w a n f) (hn : n ≤ 1048576) :
    Calls Try.prog 26 #[.slice a n cap, .float .f32 x] w (GPost (soB n x) 37 n (fun i => .float .f32 (sgB (f i) x)) w) := by
  obtain ⟨i0, hi, hz0, hz1, hz2⟩ := info_parts Try.info32
  have HA := Lib.hid ha
  obtain ⟨F, hF⟩ : ∃ F : Nat → Value, F = fun i => .float .f32 (sgB (f i) x) := ⟨_, rfl⟩
  have HFE := Lib.hid hF
  rw [← hF]
  have HX : Hid (∀ W, Calls Try.prog 65 #[.float .f32 x] W fun e w' => e = .returned (.bool (finB x)) ∧ Drew W w') := Lib.hid (fun W => finite_spec _ W)
  clear ha hF
  by_cases h1 : n ≤ 160
  · have d1 : decide (160 < (n : Int)) = false := decide_eq_false (by omega)
    cases hf : finB x with
    | true =>
      have HOK : Hid (soB n x = true) := Lib.hid (by unfold soB; rw [decide_eq_true h1, hf]; rfl)
      rw [hf] at HX
      clear hf
      go_enter Try.func26, Try.ntmps26
      go_wp2_with (first | (go_at_call 65; refine (HX.out _).mono ?_; rintro e w2 ⟨rfl, hd⟩; have HD2 := Lib.hid hd; clear hd) | fail)
      clear HX
      go_loopw [6, 20] (fun sv iv w' => ∃ (k : Nat) (wr : World), k ≤ n ∧ iv = .int .i64 k ∧ wr = w' ∧ Hid (Gat wr w.heap.size 37 sv k F) ∧ Hid (Below w.heap.size w wr)) (fun _ iv _ => n - (intOf iv).toNat)
      case atStart => exact ⟨0, _, by omega, rfl, rfl, Lib.hid (by first | exact Gat.empty _ _ _ | exact (Gat.empty _ _ _).mono HD2.out.below.size), Lib.hid (Below.next HD2.out.below ((Below.refl _ _).alloc (Nat.le_refl _) _))⟩
      case round =>
        obtain ⟨k, wr, hk, rfl, rfl, HG, HW⟩ := hrel
        by_cases hlt : k < n
        · obtain ⟨b1, o1, rfl, hck⟩ := (HA.out.below HW.out).cell hlt
          have HK : Hid (F k = .float .f32 (sgB (f k) x)) := Lib.hid (by rw [HFE.out])
          have hsz := HW.out.size
          have HNE := Lib.hid (Gat.block HG.out)
          generalize f k = bit at hck HK
          clear HA
          cases bit with
          | true =>
            have HK2 : Hid (F k = .float .f32 x) := Lib.hid (HK.out.trans (by rfl))
            have HSG : Hid (∀ W, Calls Try.prog 67 #[.bool true, .float .f32 x] W fun e w' => e = .returned (.float .f32 x) ∧ W = w') := Lib.hid (fun W => sg_true x W)
            go_wp2_with (first | (at_builtin; refine wpList_append_lies _ rfl _ _ 22 rfl w.heap.size 37 i0 (.float .f32 0) 1 4 Try.underlying22 hi hz0 hz1 hz2 rfl (by omega) u6 k ((List.range k).map F) rfl (World.ownsRow.alloc HG.out _) ⟨wr.heap.size, 0, none⟩ 1 1 [.float .f32 x] rfl rfl (World.news_of_block (cs := #[.float .f32 x]) (t := 37) (fr := (0, 0)) (heap_alloc_new _ _)) (by simp [Value.oneCell']) (by omega) (by unfold maxLen; omega) (by omega) (by simp; omega) (wr.heap.size + 1) (by simp) ?_; intro gg cp w1 hown1 hgrow hat hlt3; have HO2 := Lib.hid hown1; have HG2 := Lib.hid hgrow; clear hown1 hgrow hat hlt3) | fail)
            exact ⟨⟨k + 1, _, by omega, by first | rfl | go_num | (congr 1), rfl, Lib.hid (Gat.step HO2.out HK2.out.symm), Lib.hid (Below.grown (Below.alloc HW.out HW.out.size _) HG2.out (by simp; omega) (fun j hj => Nat.le_trans (by omega) (HNE.out j hj)))⟩, by show n - ((k : Int) + 1).toNat < n - (k : Int).toNat; omega⟩
          | false =>
            have HK2 : Hid (F k = .float .f32 (Op.negFloat .f32 x)) := Lib.hid (HK.out.trans (by rfl))
            have HSG : Hid (∀ W, Calls Try.prog 67 #[.bool false, .float .f32 x] W fun e w' => e = .returned (.float .f32 (Op.negFloat .f32 x)) ∧ W = w') := Lib.hid (fun W => sg_false x W)
            go_wp2_with (first | (at_builtin; refine wpList_append_lies _ rfl _ _ 22 rfl w.heap.size 37 i0 (.float .f32 0) 1 4 Try.underlying22 hi hz0 hz1 hz2 rfl (by omega) u6 k ((List.range k).map F) rfl (World.ownsRow.alloc HG.out _) ⟨wr.heap.size, 0, none⟩ 1 1 [.float .f32 (Op.negFloat .f32 x)] rfl rfl (World.news_of_block (cs := #[.float .f32 (Op.negFloat .f32 x)]) (t := 37) (fr := (0, 0)) (heap_alloc_new _ _)) (by simp [Value.oneCell']) (by omega) (by unfold maxLen; omega) (by omega) (by simp; omega) (wr.heap.size + 1) (by simp) ?_; intro gg cp w1 hown1 hgrow hat hlt3; have HO2 := Lib.hid hown1; have HG2 := Lib.hid hgrow; clear hown1 hgrow hat hlt3) | fail)
            exact ⟨⟨k + 1, _, by omega, by first | rfl | go_num | (congr 1), rfl, Lib.hid (Gat.step HO2.out HK2.out.symm), Lib.hid (Below.grown (Below.alloc HW.out HW.out.size _) HG2.out (by simp; omega) (fun j hj => Nat.le_trans (by omega) (HNE.out j hj)))⟩, by show n - ((k : Int) + 1).toNat < n - (k : Int).toNat; omega⟩
        · obtain rfl : k = n := by omega
          go_wp2
          exact bodyPost_ret (v := .tuple #[u6, .bool true]) (by simp [results, Try.results26, go_sem]) rfl (.inl ⟨HOK.out, ⟨_, rfl, HG.out⟩, HW.out⟩)
    | false =>
      have HOK : Hid (soB n x = false) := Lib.hid (by unfold soB; rw [decide_eq_true h1, hf]; rfl)
      rw [hf] at HX
      clear hf
      go_enter Try.func26, Try.ntmps26
      go_wp2_with (first | (go_at_call 65; refine (HX.out _).mono ?_; rintro e w2 ⟨rfl, hd⟩; have HD2 := Lib.hid hd; clear hd) | fail)
      exact bodyPost_ret (v := .tuple #[.slice none 0 0, .bool false]) (by simp [results, Try.results26, go_sem]) rfl (.inr ⟨HOK.out, rfl, HD2.out.below⟩)
  · have d1 : decide (160 < (n : Int)) = true := decide_eq_true (by omega)
    have HOK : Hid (soB n x = false) := Lib.hid (by unfold soB; rw [decide_eq_false h1]; rfl)
    go_enter Try.func26, Try.ntmps26
    go_wp2
    exact bodyPost_ret (v := .tuple #[.slice none 0 0, .bool false]) (by simp [results, Try.results26, go_sem]) rfl (.inr ⟨HOK.out, rfl, Below.refl _ _⟩)
end Go.Proofs.Ytmfegjflaajkkaa
