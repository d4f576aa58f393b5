
/- FibonacciOf: the model whole; the program's numbers. -/
import Derived.Test.YtaefmffmjbabcaaFbs
import Derived.Test.YtaefmffmjbabcaaShu
set_option linter.unusedVariables false
namespace Go.Proofs.Ytaefmffmjbabcaa
open Go.Proofs.Ytaefmffmjbabcaa.Flo Go.RowKit

def FbOk (x : Int) (K : Nat) : Prop := ∃ n : Nat, x = (n : Int) ∧ n ≤ 1000000 ∧ 1 ≤ n ∧ (1 ≤ K ∧ K ≤ 29) ∧ (∀ k, k < K → Fb.fb k ≤ n) ∧ n < Fb.fb K
def fbT (x : Int) (K : Nat) : ByteArray := txB (Fb.dgL x.toNat K K ++ [49])
def fbB (x : Int) : Bool := decide (1 ≤ x ∧ x ≤ 1000000)
theorem fb_ex {x : Int} (h : fbB x = true) : ∃ K, FbOk x K := by
  have h := of_decide_eq_true h
  obtain ⟨n, rfl⟩ : ∃ n : Nat, x = (n : Int) := ⟨x.toNat, by omega⟩
  obtain ⟨K, h1, h2, h3, h4⟩ := Fb.k_ex (n := n) (by omega) (by omega)
  exact ⟨K, n, rfl, by omega, by omega, ⟨h1, h2⟩, h3, h4⟩
theorem fbT_size (n K : Nat) : (txB (Fb.dgL n K K ++ [49])).size = K + 1 := by rw [txB_size, List.length_append, Fb.dgL_len]; rfl
set_option maxRecDepth 100000 in
set_option maxHeartbeats 4000000 in
theorem nb_spec (n K : Nat) (w : World) (hn1 : n ≤ 1000000) (hK : 1 ≤ K ∧ K ≤ 29) (hk : ∀ k, k < K → Fb.fb k ≤ n) (hnK : n < Fb.fb K) :
    Calls Try.prog 137 #[.int .i64 3, .int .i64 0, .int .i64 (n : Int)] w fun e w' => e = .returned (.tuple #[.string (txB (Fb.dgL n K K ++ [49])), .bool true]) ∧ Below w.heap.size w w' := by
  have HF : Hid (∀ w2, Calls Try.prog 166 #[.int .i64 (n : Int)] w2 fun e w' => e = .returned (.string (txB (Fb.dgL n K K ++ [49]))) ∧ Below w2.heap.size w2 w') := Lib.hid (fun w2 => fs_spec n K w2 hn1 hK hk hnK)
  have hs := fbT_size n K
  obtain ⟨hK1, hK2⟩ := hK
  have hd : decide (((K + 1 : Nat) : Int) ≤ 512) = true := decide_eq_true (by omega)
  have hd2 : decide (K + 1 ≤ 512) = true := decide_eq_true (by omega)
  clear hk hnK
  generalize hT : txB (Fb.dgL n K K ++ [49]) = T at HF hs ⊢
  clear hT
  go_enter Try.func137, Try.ntmps137
  go_wp2_with (first | (go_at_call 166; (with_reducible refine (HF.out _).mono ?_); rintro e w2 ⟨rfl, hb⟩; have HW := Lib.hid hb; clear hb) | fail)
  refine bodyPost_ret (v := .tuple #[.string T, .bool true]) ?_ rfl ⟨rfl, HW.out⟩
  simp [results, Try.results137, go_sem]
  try omega
set_option maxHeartbeats 4000000 in
theorem fbSY (x : Int) (K : Nat) (w : World) (hk : FbOk x K) : Calls Try.prog 43 #[.int .i64 x] w fun e w' => e = .returned (.tuple #[.string (fbT x K), .bool true]) ∧ Below w.heap.size w w' := by
  obtain ⟨n, rfl, hn1, hn0, hK, hk, hnK⟩ := hk
  have HF : Hid (∀ w2, Calls Try.prog 137 #[.int .i64 3, .int .i64 0, .int .i64 (n : Int)] w2 fun e w' => e = .returned (.tuple #[.string (fbT (n : Int) K), .bool true]) ∧ Below w2.heap.size w2 w') := Lib.hid (fun w2 => nb_spec n K w2 hn1 hK hk hnK)
  generalize fbT (n : Int) K = T at HF ⊢
  have H1 : Hid (1 ≤ (n : Int) ∧ (n : Int) ≤ 1000000) := Lib.hid (by omega)
  have HNM : Hid (∀ w2, Calls Try.prog 96 #[.int .i64 3, .int .i64 0, .int .i64 (n : Int)] w2 fun e w' => e = .returned (.tuple #[.string T, .bool true]) ∧ Below w2.heap.size w2 w') := Lib.hid (fun w2 => by
    go_enter Try.func96, Try.ntmps96
    go_wp2_with (first | (go_at_call 67; (first | (with_reducible refine (in_true (n : Int) 1 1000000 _ H1.out.1 H1.out.2).mono ?_) | (with_reducible refine (in_true 0 0 20 _ (by decide) (by decide)).mono ?_)); rintro e w' ⟨rfl, hw⟩; have hw := hw.symm; subst hw) | (go_at_call 137; (with_reducible refine (HF.out _).mono ?_); rintro e w3 ⟨rfl, hb⟩; have HW := Lib.hid hb; clear hb) | fail)
    exact bodyPost_ret (v := .tuple #[.string T, .bool true]) (by simp [results, Try.results96, go_sem]) rfl ⟨rfl, HW.out⟩)
  clear HF
  go_enter Try.func43, Try.ntmps43
  go_wp2_with (first | (go_at_call 96; (with_reducible refine (HNM.out _).mono ?_); rintro e w3 ⟨rfl, hb⟩; have HW := Lib.hid hb; clear hb) | fail)
  exact bodyPost_ret (v := .tuple #[.string T, .bool true]) (by simp [results, Try.results43, go_sem]) rfl ⟨rfl, HW.out⟩
set_option maxHeartbeats 4000000 in
theorem fbSN (x : Int) (w : World) (hok : fbB x = false) : Calls Try.prog 43 #[.int .i64 x] w fun e w' => e = .returned (.tuple #[.string ⟨#[]⟩, .bool false]) ∧ Below w.heap.size w w' := by
  have H1 := Lib.hid (of_decide_eq_false hok)
  have HNM : Hid (∀ w2, Calls Try.prog 96 #[.int .i64 3, .int .i64 0, .int .i64 x] w2 fun e w' => e = .returned (.tuple #[.string ⟨#[]⟩, .bool false]) ∧ w2 = w') := Lib.hid (fun w2 => by
    go_enter Try.func96, Try.ntmps96
    go_wp2_with (first | (go_at_call 67; (with_reducible refine (in_false x 1 1000000 _ H1.out).mono ?_); rintro e w' ⟨rfl, hw⟩; have hw := hw.symm; subst hw) | fail)
    exact bodyPost_ret (v := .tuple #[.string ⟨#[]⟩, .bool false]) (by simp [results, Try.results96, go_sem]) rfl ⟨rfl, rfl⟩)
  go_enter Try.func43, Try.ntmps43
  go_wp2_with (first | (go_at_call 96; (with_reducible refine (HNM.out _).mono ?_); rintro e w' ⟨rfl, hw⟩; subst hw) | fail)
  exact bodyPost_ret (v := .tuple #[.string ⟨#[]⟩, .bool false]) (by simp [results, Try.results43, go_sem]) rfl ⟨rfl, Below.refl _ _⟩
set_option maxRecDepth 100000 in
set_option maxHeartbeats 4000000 in
theorem fn_impl (n K : Nat) (w : World) (hn1 : n ≤ 1000000) (hK : 1 ≤ K ∧ K ≤ 29) (hk : ∀ k, k < K → Fb.fb k ≤ n) (hnK : n < Fb.fb K) :
    Calls Try.prog 98 #[.int .i64 (n : Int)] w fun e w' => ∃ g cp, e = .returned (.slice (some ⟨g, 0, none⟩) K cp) ∧ New w w' g (.il K (Fb.fbL K)) := by
  obtain ⟨i0, hi, hz0, hz1, hz2⟩ := info_parts Try.info64
  obtain ⟨hK1, hK2⟩ := hK
  have HK := Lib.hid hk
  have HN := Lib.hid hnK
  clear hk hnK
  go_enter Try.func98, Try.ntmps98
  go_wp2
  go_loopw [3, 4, 5] (fun v0 nv xv wr0 => ∃ (k : Nat) (v : Value) (wr : World), k ≤ K ∧ v = v0 ∧ nv = .int .i64 (Fb.fb k : Int) ∧ xv = .int .i64 (Fb.fb (k + 1) : Int) ∧ wr = wr0 ∧ Hid (wr.ownsRow w.heap.size 2 1 v k ((Fb.fbL k).map (Value.int .i64))) ∧ Hid (Below w.heap.size w wr)) (fun _ nv _ _ => n + 1 - (intOf nv).toNat)
  case atStart => exact ⟨0, _, _, by omega, rfl, rfl, rfl, rfl, Lib.hid (World.ownsRow_nil _ _ _ _), Lib.hid (Below.refl _ _)⟩
  case round =>
    obtain ⟨k, v, wr, hk, rfl, rfl, rfl, rfl, HO, HW⟩ := hrel
    by_cases hlt : k < K
    · have hle := HK.out k hlt
      have hd : decide ((Fb.fb k : Int) ≤ (n : Int)) = true := decide_eq_true (by omega)
      have hd2 : decide (Fb.fb k ≤ n) = true := decide_eq_true hle
      have hb1 := Fb.fb_31 (show k ≤ 31 by omega)
      have hb2 := Fb.fb_31 (show k + 1 ≤ 31 by omega)
      have HFL := Lib.hid (Fb.fb_lt k)
      have HSM : Hid (Fb.fb (k + 2) = Fb.fb k + Fb.fb (k + 1)) := Lib.hid rfl
      have HL := Lib.hid (Fb.fbL_on k)
      have HNE := Lib.hid (own_block HO.out)
      have hsz := HW.out.size
      generalize hf : Fb.fb k = f at hle hd hd2 hb1 HFL HSM HL ⊢
      generalize hg : Fb.fb (k + 1) = f1 at hb2 HFL HSM ⊢
      have HG1 := Lib.hid hg
      clear hf hg
      have hws : IntKind.i64.wrap ((f : Int) + (f1 : Int)) = (f : Int) + (f1 : Int) := IntWalk.i64_in _ (by omega)
      go_wp2_with (first | (at_builtin; refine wpList_append_lies _ rfl _ _ 22 rfl (w.heap.size) 2 i0 (.int .i64 0) 1 8 Try.underlying22 hi hz0 hz1 hz2 rfl (by omega) v k ((Fb.fbL k).map (Value.int .i64)) rfl (World.ownsRow.alloc HO.out _) ⟨wr.heap.size, 0, none⟩ 1 1 [.int .i64 (f : Int)] rfl rfl (World.news_of_block (cs := #[.int .i64 (f : Int)]) (t := 2) (fr := (0, 0)) (heap_alloc_new _ _)) (by simp [Value.oneCell']) (by omega) (by unfold maxLen; omega) (by omega) (by simp; omega) (wr.heap.size + 1) (by simp) ?_; intro gg cp w3 hown1 hgrow hat hlt2; have HO2 := Lib.hid hown1; have HG2 := Lib.hid hgrow; clear hown1 hgrow hat hlt2) | fail)
      exact ⟨⟨k + 1, _, _, by omega, rfl, by rw [HG1.out], by rw [show k + 1 + 1 = k + 2 by omega, HSM.out]; first | rfl | (congr 1; omega) | simp, rfl, Lib.hid (by rw [HL.out, List.map_append]; exact HO2.out), Lib.hid (Below.grown (Below.alloc HW.out HW.out.size _) HG2.out (by simp; omega) HNE.out)⟩, by show n + 1 - ((f1 : Int)).toNat < n + 1 - ((f : Int)).toNat; have := HFL.out; omega⟩
    · obtain rfl : k = K := by omega
      have hgt := HN.out
      have hd : decide ((Fb.fb k : Int) ≤ (n : Int)) = false := decide_eq_false (by omega)
      have hd2 : decide (Fb.fb k ≤ n) = false := decide_eq_false (by omega)
      have hd3 : ¬ Fb.fb k ≤ n := by omega
      obtain ⟨g3, cp3, e, hnew⟩ := il_new HO.out HW.out (by omega)
      subst e
      have HNW := Lib.hid hnew
      clear hnew HO
      go_wp2
      go_ret
      exact ⟨_, _, rfl, HNW.out⟩
end Go.Proofs.Ytaefmffmjbabcaa
