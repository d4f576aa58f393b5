/- FlipChannel, LoseChannel, NextChannel: the functions of the program. -/
import Derived.Test.YtffamppflelflaaFcv
namespace Go.Proofs.Ytffamppflelflaa
open Go.Proofs.Ytffamppflelflaa.Flo Go.RowKit

set_option maxRecDepth 100000 in
set_option maxHeartbeats 4000000 in
theorem fcI_FlipChannel_yes (l : Int) (x : Nat) (w : World) (hok : okFlip l x = true) :
    Calls Try.prog 23 #[.int .i64 l, .float .f32 x] w fun e w' => ∃ g cp, e = .returned (.tuple #[.agg #[.int .i64 l, .int .i64 (l), .slice (some ⟨g, 0, none⟩) (l.toNat * l.toNat) cp], .bool true]) ∧ New w w' g (.cl (l.toNat * l.toNat) (flipV x l.toNat)) := by
  unfold okFlip at hok
  rw [Bool.and_eq_true, Bool.and_eq_true] at hok
  obtain ⟨h1, h2, h3⟩ := hok
  have h1 := of_decide_eq_true h1
  obtain ⟨L, rfl⟩ : ∃ L : Nat, l = L := ⟨l.toNat, by omega⟩
  have HOK : Hid (chanVB (flipV x L) L L = true) := Lib.hid h3
  obtain ⟨hla, hlb⟩ := h1
  clear h3
  have hm1 : (w.alloc (.cells #[.int .i64 (L : Int)] 2)).heap.size = w.heap.size + 1 := by simp
  have hmf : ∀ (fn : Fn) (first cap : Array Value) (w : World), (Instr.makeFunc fn first cap).run Try.prog w = .ok (.func fn first cap) w := fun _ _ _ _ => rfl
  have hcl2 : (((w.alloc (.cells #[.int .i64 (L : Int)] 2)).alloc (.cells #[.float .f32 x] 32)).alloc (.cells #[.int .i64 0, .int .i64 0, .slice none 0 0] 27)).cell? ⟨w.heap.size, 0, none⟩ = some (.int .i64 (L : Int)) := by
    rw [World.cell?_alloc_past _ _ _ (by first | (simp; done) | (simp; omega)), World.cell?_alloc_past _ _ _ (by first | (simp; done) | (simp; omega)), World.cell?_alloc_at _ _ _ _ rfl]; rfl
  have hcl1 : (((w.alloc (.cells #[.int .i64 (L : Int)] 2)).alloc (.cells #[.float .f32 x] 32)).alloc (.cells #[.int .i64 0, .int .i64 0, .slice none 0 0] 27)).cell? ⟨w.heap.size + 1, 0, none⟩ = some (.float .f32 x) := by
    rw [World.cell?_alloc_past _ _ _ (by first | (simp; done) | (simp; omega)), World.cell?_alloc_at _ _ _ _ (by simp)]; rfl
  have HCL := Lib.hid (And.intro hcl1 hcl2)
  have HR0 : Hid (Tin (((w.alloc (.cells #[.int .i64 (L : Int)] 2)).alloc (.cells #[.float .f32 x] 32)).alloc (.cells #[.int .i64 0, .int .i64 0, .slice none 0 0] 27)) (w.heap.size + 2) 0 0 (.slice none 0 0)) := Lib.hid (Tin.new' (w := (w.alloc (.cells #[.int .i64 (L : Int)] 2)).alloc (.cells #[.float .f32 x] 32)) (T := 27) (by simp))
  have HB0 : Hid (Below w.heap.size w (((w.alloc (.cells #[.int .i64 (L : Int)] 2)).alloc (.cells #[.float .f32 x] 32)).alloc (.cells #[.int .i64 0, .int .i64 0, .slice none 0 0] 27))) := Lib.hid (by repeat (first | exact Below.refl _ _ | refine Below.drew ?_ | refine Below.drewN' ?_ _ | refine Below.alloc ?_ (by first | (simp; done) | (simp; omega)) _ | refine Below.setCell ?_ (by first | (simp; done) | (simp; omega)) _))
  have HSA : Hid (w.heap.size + 1 < (((w.alloc (.cells #[.int .i64 (L : Int)] 2)).alloc (.cells #[.float .f32 x] 32)).alloc (.cells #[.int .i64 0, .int .i64 0, .slice none 0 0] 27)).heap.size ∧ w.heap.size < (((w.alloc (.cells #[.int .i64 (L : Int)] 2)).alloc (.cells #[.float .f32 x] 32)).alloc (.cells #[.int .i64 0, .int .i64 0, .slice none 0 0] 27)).heap.size) := Lib.hid (by constructor <;> first | (simp; done) | (simp; omega))
  go_enter Try.func23, Try.ntmps23
  go_wp2_with (first | (go_at_call 68; refine (shH_impl x _).mono ?_; rintro e w' ⟨rfl, rfl⟩) | (go_at_call 69; refine (co_FlipChannel_yes L L (flipV x L) (w.heap.size + 1) w.heap.size _ ?_ ?_ ?_ HOK.out).mono ?_; (next => omega); (next => omega); (next => (intro w2 i k hb hi hk; refine cl_FlipChannel _ _ i k L x w2 ?_ ?_ hi hk (by omega); (next => exact (hb.cell (p := ⟨w.heap.size + 1, 0, none⟩) HSA.out.1).trans HCL.out.1); (next => exact (hb.cell (p := ⟨w.heap.size, 0, none⟩) HSA.out.2).trans HCL.out.2))); rintro e w3 ⟨g, cp, rfl, _, hg1, hg2, hg3, hb⟩; (try have hb := Below.ofDrewN hb); have HG1 := Lib.hid hg1; have HG2 := Lib.hid hg2; have HG3 := Lib.hid hg3; clear hg1 hg2 hg3; have HR := Lib.hid (HR0.out.below hb); have HB2 := Lib.hid (Below.next HB0.out hb); obtain ⟨_, hd0, hd1, hd2, hf0, hf1, hf2⟩ := HR.out; have HP3 := Lib.hid (HR.out.put3 (.int .i64 (L : Int)) (.int .i64 (L : Int)) (.slice (some ⟨g, 0, none⟩) (L * L) cp)); clear hb) | go_in)
  obtain ⟨hr0, hr1, hr2⟩ := HP3.out
  have hgne : w.heap.size + 2 ≠ g := by have := HG1.out; simp at this; omega
  exact bodyPost_ret (v := .tuple #[.agg #[.int .i64 (L : Int), .int .i64 (L : Int), .slice (some ⟨g, 0, none⟩) (L * L) cp], .bool true]) (by simp [results, Try.results23, go_sem, hr0, hr1, hr2]) rfl
    ⟨g, cp, rfl, by have := HG1.out; simp at this; omega, by simpa using HG2.out, Ent.ok.set (Ent.ok.set (Ent.ok.set HG3.out hgne _) hgne _) hgne _, by repeat (first | exact HB2.out | refine Below.setCell ?_ (by first | (simp; done) | (simp; omega)) _)⟩
set_option maxRecDepth 100000 in
set_option maxHeartbeats 4000000 in
theorem fcI_FlipChannel_no (l : Int) (x : Nat) (w : World) (hok : okFlip l x = false) :
    Calls Try.prog 23 #[.int .i64 l, .float .f32 x] w fun e w' => e = .returned (.tuple #[.agg #[.int .i64 0, .int .i64 0, .slice none 0 0], .bool false]) ∧ Below w.heap.size w w' := by
  unfold okFlip at hok
  by_cases h1 : 2 ≤ l ∧ l ≤ 8
  · obtain ⟨L, rfl⟩ : ∃ L : Nat, l = L := ⟨l.toNat, by omega⟩
    have hlt1 : decide ((L : Int) < 2) = false := decide_eq_false (by omega)
    have hlt2 : decide (8 < (L : Int)) = false := decide_eq_false (by omega)
    cases h2 : shareH x with
    | false =>
      clear hok
      go_enter Try.func23, Try.ntmps23
      go_wp2_with (first | (go_at_call 68; refine (shH_impl x _).mono ?_; rintro e w' ⟨rfl, rfl⟩) | go_in)
      exact bodyPost_ret (v := .tuple #[.agg #[.int .i64 0, .int .i64 0, .slice none 0 0], .bool false]) (by simp [results, Try.results23, go_sem]) rfl
        ⟨rfl, (by repeat (first | exact Below.refl _ _ | refine Below.drew ?_ | refine Below.drewN' ?_ _ | refine Below.alloc ?_ (by first | (simp; done) | (simp; omega)) _ | refine Below.setCell ?_ (by first | (simp; done) | (simp; omega)) _))⟩
    | true =>
      have h3 : chanVB (flipV x L) L L = false := by rw [decide_eq_true h1, h2] at hok; exact hok
      have HOK := Lib.hid h3
      obtain ⟨hla, hlb⟩ := h1
      clear hok
      clear h3
      have hm1 : (w.alloc (.cells #[.int .i64 (L : Int)] 2)).heap.size = w.heap.size + 1 := by simp
      have hmf : ∀ (fn : Fn) (first cap : Array Value) (w : World), (Instr.makeFunc fn first cap).run Try.prog w = .ok (.func fn first cap) w := fun _ _ _ _ => rfl
      have hcl2 : (((w.alloc (.cells #[.int .i64 (L : Int)] 2)).alloc (.cells #[.float .f32 x] 32)).alloc (.cells #[.int .i64 0, .int .i64 0, .slice none 0 0] 27)).cell? ⟨w.heap.size, 0, none⟩ = some (.int .i64 (L : Int)) := by
        rw [World.cell?_alloc_past _ _ _ (by first | (simp; done) | (simp; omega)), World.cell?_alloc_past _ _ _ (by first | (simp; done) | (simp; omega)), World.cell?_alloc_at _ _ _ _ rfl]; rfl
      have hcl1 : (((w.alloc (.cells #[.int .i64 (L : Int)] 2)).alloc (.cells #[.float .f32 x] 32)).alloc (.cells #[.int .i64 0, .int .i64 0, .slice none 0 0] 27)).cell? ⟨w.heap.size + 1, 0, none⟩ = some (.float .f32 x) := by
        rw [World.cell?_alloc_past _ _ _ (by first | (simp; done) | (simp; omega)), World.cell?_alloc_at _ _ _ _ (by simp)]; rfl
      have HCL := Lib.hid (And.intro hcl1 hcl2)
      have HR0 : Hid (Tin (((w.alloc (.cells #[.int .i64 (L : Int)] 2)).alloc (.cells #[.float .f32 x] 32)).alloc (.cells #[.int .i64 0, .int .i64 0, .slice none 0 0] 27)) (w.heap.size + 2) 0 0 (.slice none 0 0)) := Lib.hid (Tin.new' (w := (w.alloc (.cells #[.int .i64 (L : Int)] 2)).alloc (.cells #[.float .f32 x] 32)) (T := 27) (by simp))
      have HB0 : Hid (Below w.heap.size w (((w.alloc (.cells #[.int .i64 (L : Int)] 2)).alloc (.cells #[.float .f32 x] 32)).alloc (.cells #[.int .i64 0, .int .i64 0, .slice none 0 0] 27))) := Lib.hid (by repeat (first | exact Below.refl _ _ | refine Below.drew ?_ | refine Below.drewN' ?_ _ | refine Below.alloc ?_ (by first | (simp; done) | (simp; omega)) _ | refine Below.setCell ?_ (by first | (simp; done) | (simp; omega)) _))
      have HSA : Hid (w.heap.size + 1 < (((w.alloc (.cells #[.int .i64 (L : Int)] 2)).alloc (.cells #[.float .f32 x] 32)).alloc (.cells #[.int .i64 0, .int .i64 0, .slice none 0 0] 27)).heap.size ∧ w.heap.size < (((w.alloc (.cells #[.int .i64 (L : Int)] 2)).alloc (.cells #[.float .f32 x] 32)).alloc (.cells #[.int .i64 0, .int .i64 0, .slice none 0 0] 27)).heap.size) := Lib.hid (by constructor <;> first | (simp; done) | (simp; omega))
      go_enter Try.func23, Try.ntmps23
      go_wp2_with (first | (go_at_call 68; refine (shH_impl x _).mono ?_; rintro e w' ⟨rfl, rfl⟩) | (go_at_call 69; refine (co_FlipChannel_no L L (flipV x L) (w.heap.size + 1) w.heap.size _ ?_ ?_ ?_ HOK.out).mono ?_; (next => omega); (next => omega); (next => (intro w2 i k hb hi hk; refine cl_FlipChannel _ _ i k L x w2 ?_ ?_ hi hk (by omega); (next => exact (hb.cell (p := ⟨w.heap.size + 1, 0, none⟩) HSA.out.1).trans HCL.out.1); (next => exact (hb.cell (p := ⟨w.heap.size, 0, none⟩) HSA.out.2).trans HCL.out.2))); rintro e w3 ⟨rfl, hb⟩; (try have hb := Below.ofDrewN hb); have HR := Lib.hid (HR0.out.below hb); have HB2 := Lib.hid (Below.next HB0.out hb); obtain ⟨_, hd0, hd1, hd2, hf0, hf1, hf2⟩ := HR.out; have HP3 := Lib.hid (HR.out.put3 (.int .i64 0) (.int .i64 0) (.slice none 0 0)); clear hb) | go_in)
      obtain ⟨hr0, hr1, hr2⟩ := HP3.out
      exact bodyPost_ret (v := .tuple #[.agg #[.int .i64 0, .int .i64 0, .slice none 0 0], .bool false]) (by simp [results, Try.results23, go_sem, hr0, hr1, hr2]) rfl
        ⟨rfl, by repeat (first | exact HB2.out | refine Below.setCell ?_ (by first | (simp; done) | (simp; omega)) _)⟩
  · by_cases hl : 2 ≤ l
    · have hlt1 : decide (l < 2) = false := decide_eq_false (by omega)
      have hlt2 : decide (8 < l) = true := decide_eq_true (by omega)
      clear hok h1
      go_enter Try.func23, Try.ntmps23
      go_wp2_with (first | (go_at_call 68; refine (shH_impl x _).mono ?_; rintro e w' ⟨rfl, rfl⟩) | go_in)
      exact bodyPost_ret (v := .tuple #[.agg #[.int .i64 0, .int .i64 0, .slice none 0 0], .bool false]) (by simp [results, Try.results23, go_sem]) rfl
        ⟨rfl, (by repeat (first | exact Below.refl _ _ | refine Below.drew ?_ | refine Below.drewN' ?_ _ | refine Below.alloc ?_ (by first | (simp; done) | (simp; omega)) _ | refine Below.setCell ?_ (by first | (simp; done) | (simp; omega)) _))⟩
    · have hlt1 : decide (l < 2) = true := decide_eq_true (by omega)
      clear hok h1
      go_enter Try.func23, Try.ntmps23
      go_wp2_with (first | (go_at_call 68; refine (shH_impl x _).mono ?_; rintro e w' ⟨rfl, rfl⟩) | go_in)
      exact bodyPost_ret (v := .tuple #[.agg #[.int .i64 0, .int .i64 0, .slice none 0 0], .bool false]) (by simp [results, Try.results23, go_sem]) rfl
        ⟨rfl, (by repeat (first | exact Below.refl _ _ | refine Below.drew ?_ | refine Below.drewN' ?_ _ | refine Below.alloc ?_ (by first | (simp; done) | (simp; omega)) _ | refine Below.setCell ?_ (by first | (simp; done) | (simp; omega)) _))⟩
set_option maxRecDepth 100000 in
set_option maxHeartbeats 4000000 in
theorem fcI_LoseChannel_yes (l : Int) (x : Nat) (w : World) (hok : okLose l x = true) :
    Calls Try.prog 27 #[.int .i64 l, .float .f32 x] w fun e w' => ∃ g cp, e = .returned (.tuple #[.agg #[.int .i64 l, .int .i64 (l + 1), .slice (some ⟨g, 0, none⟩) (l.toNat * (l.toNat + 1)) cp], .bool true]) ∧ New w w' g (.cl (l.toNat * (l.toNat + 1)) (loseV x l.toNat)) := by
  unfold okLose at hok
  rw [Bool.and_eq_true, Bool.and_eq_true] at hok
  obtain ⟨h1, h2, h3⟩ := hok
  have h1 := of_decide_eq_true h1
  obtain ⟨L, rfl⟩ : ∃ L : Nat, l = L := ⟨l.toNat, by omega⟩
  have HOK : Hid (chanVB (loseV x L) L (L + 1) = true) := Lib.hid h3
  obtain ⟨hla, hlb⟩ := h1
  clear h3
  have hm1 : (w.alloc (.cells #[.int .i64 (L : Int)] 2)).heap.size = w.heap.size + 1 := by simp
  have hmf : ∀ (fn : Fn) (first cap : Array Value) (w : World), (Instr.makeFunc fn first cap).run Try.prog w = .ok (.func fn first cap) w := fun _ _ _ _ => rfl
  have hcl2 : (((w.alloc (.cells #[.int .i64 (L : Int)] 2)).alloc (.cells #[.float .f32 x] 32)).alloc (.cells #[.int .i64 0, .int .i64 0, .slice none 0 0] 27)).cell? ⟨w.heap.size, 0, none⟩ = some (.int .i64 (L : Int)) := by
    rw [World.cell?_alloc_past _ _ _ (by first | (simp; done) | (simp; omega)), World.cell?_alloc_past _ _ _ (by first | (simp; done) | (simp; omega)), World.cell?_alloc_at _ _ _ _ rfl]; rfl
  have hcl1 : (((w.alloc (.cells #[.int .i64 (L : Int)] 2)).alloc (.cells #[.float .f32 x] 32)).alloc (.cells #[.int .i64 0, .int .i64 0, .slice none 0 0] 27)).cell? ⟨w.heap.size + 1, 0, none⟩ = some (.float .f32 x) := by
    rw [World.cell?_alloc_past _ _ _ (by first | (simp; done) | (simp; omega)), World.cell?_alloc_at _ _ _ _ (by simp)]; rfl
  have HCL := Lib.hid (And.intro hcl1 hcl2)
  have HR0 : Hid (Tin (((w.alloc (.cells #[.int .i64 (L : Int)] 2)).alloc (.cells #[.float .f32 x] 32)).alloc (.cells #[.int .i64 0, .int .i64 0, .slice none 0 0] 27)) (w.heap.size + 2) 0 0 (.slice none 0 0)) := Lib.hid (Tin.new' (w := (w.alloc (.cells #[.int .i64 (L : Int)] 2)).alloc (.cells #[.float .f32 x] 32)) (T := 27) (by simp))
  have HB0 : Hid (Below w.heap.size w (((w.alloc (.cells #[.int .i64 (L : Int)] 2)).alloc (.cells #[.float .f32 x] 32)).alloc (.cells #[.int .i64 0, .int .i64 0, .slice none 0 0] 27))) := Lib.hid (by repeat (first | exact Below.refl _ _ | refine Below.drew ?_ | refine Below.drewN' ?_ _ | refine Below.alloc ?_ (by first | (simp; done) | (simp; omega)) _ | refine Below.setCell ?_ (by first | (simp; done) | (simp; omega)) _))
  have HSA : Hid (w.heap.size + 1 < (((w.alloc (.cells #[.int .i64 (L : Int)] 2)).alloc (.cells #[.float .f32 x] 32)).alloc (.cells #[.int .i64 0, .int .i64 0, .slice none 0 0] 27)).heap.size ∧ w.heap.size < (((w.alloc (.cells #[.int .i64 (L : Int)] 2)).alloc (.cells #[.float .f32 x] 32)).alloc (.cells #[.int .i64 0, .int .i64 0, .slice none 0 0] 27)).heap.size) := Lib.hid (by constructor <;> first | (simp; done) | (simp; omega))
  go_enter Try.func27, Try.ntmps27
  go_wp2_with (first | (go_at_call 68; refine (shH_impl x _).mono ?_; rintro e w' ⟨rfl, rfl⟩) | (go_at_call 69; refine (co_LoseChannel_yes L (L + 1) (loseV x L) (w.heap.size + 1) w.heap.size _ ?_ ?_ ?_ HOK.out).mono ?_; (next => omega); (next => omega); (next => (intro w2 i k hb hi hk; refine cl_LoseChannel _ _ i k L x w2 ?_ ?_ hi hk (by omega); (next => exact (hb.cell (p := ⟨w.heap.size + 1, 0, none⟩) HSA.out.1).trans HCL.out.1); (next => exact (hb.cell (p := ⟨w.heap.size, 0, none⟩) HSA.out.2).trans HCL.out.2))); rintro e w3 ⟨g, cp, rfl, _, hg1, hg2, hg3, hb⟩; (try have hb := Below.ofDrewN hb); have HG1 := Lib.hid hg1; have HG2 := Lib.hid hg2; have HG3 := Lib.hid hg3; clear hg1 hg2 hg3; have HR := Lib.hid (HR0.out.below hb); have HB2 := Lib.hid (Below.next HB0.out hb); obtain ⟨_, hd0, hd1, hd2, hf0, hf1, hf2⟩ := HR.out; have HP3 := Lib.hid (HR.out.put3 (.int .i64 (L : Int)) (.int .i64 (L + 1 : Int)) (.slice (some ⟨g, 0, none⟩) (L * (L + 1)) cp)); clear hb) | go_in)
  obtain ⟨hr0, hr1, hr2⟩ := HP3.out
  have hgne : w.heap.size + 2 ≠ g := by have := HG1.out; simp at this; omega
  exact bodyPost_ret (v := .tuple #[.agg #[.int .i64 (L : Int), .int .i64 (L + 1 : Int), .slice (some ⟨g, 0, none⟩) (L * (L + 1)) cp], .bool true]) (by simp [results, Try.results27, go_sem, hr0, hr1, hr2]) rfl
    ⟨g, cp, rfl, by have := HG1.out; simp at this; omega, by simpa using HG2.out, Ent.ok.set (Ent.ok.set (Ent.ok.set HG3.out hgne _) hgne _) hgne _, by repeat (first | exact HB2.out | refine Below.setCell ?_ (by first | (simp; done) | (simp; omega)) _)⟩
set_option maxRecDepth 100000 in
set_option maxHeartbeats 4000000 in
theorem fcI_LoseChannel_no (l : Int) (x : Nat) (w : World) (hok : okLose l x = false) :
    Calls Try.prog 27 #[.int .i64 l, .float .f32 x] w fun e w' => e = .returned (.tuple #[.agg #[.int .i64 0, .int .i64 0, .slice none 0 0], .bool false]) ∧ Below w.heap.size w w' := by
  unfold okLose at hok
  by_cases h1 : 1 ≤ l ∧ l ≤ 7
  · obtain ⟨L, rfl⟩ : ∃ L : Nat, l = L := ⟨l.toNat, by omega⟩
    have hlt1 : decide ((L : Int) < 1) = false := decide_eq_false (by omega)
    have hlt2 : decide (7 < (L : Int)) = false := decide_eq_false (by omega)
    cases h2 : shareH x with
    | false =>
      clear hok
      go_enter Try.func27, Try.ntmps27
      go_wp2_with (first | (go_at_call 68; refine (shH_impl x _).mono ?_; rintro e w' ⟨rfl, rfl⟩) | go_in)
      exact bodyPost_ret (v := .tuple #[.agg #[.int .i64 0, .int .i64 0, .slice none 0 0], .bool false]) (by simp [results, Try.results27, go_sem]) rfl
        ⟨rfl, (by repeat (first | exact Below.refl _ _ | refine Below.drew ?_ | refine Below.drewN' ?_ _ | refine Below.alloc ?_ (by first | (simp; done) | (simp; omega)) _ | refine Below.setCell ?_ (by first | (simp; done) | (simp; omega)) _))⟩
    | true =>
      have h3 : chanVB (loseV x L) L (L + 1) = false := by rw [decide_eq_true h1, h2] at hok; exact hok
      have HOK := Lib.hid h3
      obtain ⟨hla, hlb⟩ := h1
      clear hok
      clear h3
      have hm1 : (w.alloc (.cells #[.int .i64 (L : Int)] 2)).heap.size = w.heap.size + 1 := by simp
      have hmf : ∀ (fn : Fn) (first cap : Array Value) (w : World), (Instr.makeFunc fn first cap).run Try.prog w = .ok (.func fn first cap) w := fun _ _ _ _ => rfl
      have hcl2 : (((w.alloc (.cells #[.int .i64 (L : Int)] 2)).alloc (.cells #[.float .f32 x] 32)).alloc (.cells #[.int .i64 0, .int .i64 0, .slice none 0 0] 27)).cell? ⟨w.heap.size, 0, none⟩ = some (.int .i64 (L : Int)) := by
        rw [World.cell?_alloc_past _ _ _ (by first | (simp; done) | (simp; omega)), World.cell?_alloc_past _ _ _ (by first | (simp; done) | (simp; omega)), World.cell?_alloc_at _ _ _ _ rfl]; rfl
      have hcl1 : (((w.alloc (.cells #[.int .i64 (L : Int)] 2)).alloc (.cells #[.float .f32 x] 32)).alloc (.cells #[.int .i64 0, .int .i64 0, .slice none 0 0] 27)).cell? ⟨w.heap.size + 1, 0, none⟩ = some (.float .f32 x) := by
        rw [World.cell?_alloc_past _ _ _ (by first | (simp; done) | (simp; omega)), World.cell?_alloc_at _ _ _ _ (by simp)]; rfl
      have HCL := Lib.hid (And.intro hcl1 hcl2)
      have HR0 : Hid (Tin (((w.alloc (.cells #[.int .i64 (L : Int)] 2)).alloc (.cells #[.float .f32 x] 32)).alloc (.cells #[.int .i64 0, .int .i64 0, .slice none 0 0] 27)) (w.heap.size + 2) 0 0 (.slice none 0 0)) := Lib.hid (Tin.new' (w := (w.alloc (.cells #[.int .i64 (L : Int)] 2)).alloc (.cells #[.float .f32 x] 32)) (T := 27) (by simp))
      have HB0 : Hid (Below w.heap.size w (((w.alloc (.cells #[.int .i64 (L : Int)] 2)).alloc (.cells #[.float .f32 x] 32)).alloc (.cells #[.int .i64 0, .int .i64 0, .slice none 0 0] 27))) := Lib.hid (by repeat (first | exact Below.refl _ _ | refine Below.drew ?_ | refine Below.drewN' ?_ _ | refine Below.alloc ?_ (by first | (simp; done) | (simp; omega)) _ | refine Below.setCell ?_ (by first | (simp; done) | (simp; omega)) _))
      have HSA : Hid (w.heap.size + 1 < (((w.alloc (.cells #[.int .i64 (L : Int)] 2)).alloc (.cells #[.float .f32 x] 32)).alloc (.cells #[.int .i64 0, .int .i64 0, .slice none 0 0] 27)).heap.size ∧ w.heap.size < (((w.alloc (.cells #[.int .i64 (L : Int)] 2)).alloc (.cells #[.float .f32 x] 32)).alloc (.cells #[.int .i64 0, .int .i64 0, .slice none 0 0] 27)).heap.size) := Lib.hid (by constructor <;> first | (simp; done) | (simp; omega))
      go_enter Try.func27, Try.ntmps27
      go_wp2_with (first | (go_at_call 68; refine (shH_impl x _).mono ?_; rintro e w' ⟨rfl, rfl⟩) | (go_at_call 69; refine (co_LoseChannel_no L (L + 1) (loseV x L) (w.heap.size + 1) w.heap.size _ ?_ ?_ ?_ HOK.out).mono ?_; (next => omega); (next => omega); (next => (intro w2 i k hb hi hk; refine cl_LoseChannel _ _ i k L x w2 ?_ ?_ hi hk (by omega); (next => exact (hb.cell (p := ⟨w.heap.size + 1, 0, none⟩) HSA.out.1).trans HCL.out.1); (next => exact (hb.cell (p := ⟨w.heap.size, 0, none⟩) HSA.out.2).trans HCL.out.2))); rintro e w3 ⟨rfl, hb⟩; (try have hb := Below.ofDrewN hb); have HR := Lib.hid (HR0.out.below hb); have HB2 := Lib.hid (Below.next HB0.out hb); obtain ⟨_, hd0, hd1, hd2, hf0, hf1, hf2⟩ := HR.out; have HP3 := Lib.hid (HR.out.put3 (.int .i64 0) (.int .i64 0) (.slice none 0 0)); clear hb) | go_in)
      obtain ⟨hr0, hr1, hr2⟩ := HP3.out
      exact bodyPost_ret (v := .tuple #[.agg #[.int .i64 0, .int .i64 0, .slice none 0 0], .bool false]) (by simp [results, Try.results27, go_sem, hr0, hr1, hr2]) rfl
        ⟨rfl, by repeat (first | exact HB2.out | refine Below.setCell ?_ (by first | (simp; done) | (simp; omega)) _)⟩
  · by_cases hl : 1 ≤ l
    · have hlt1 : decide (l < 1) = false := decide_eq_false (by omega)
      have hlt2 : decide (7 < l) = true := decide_eq_true (by omega)
      clear hok h1
      go_enter Try.func27, Try.ntmps27
      go_wp2_with (first | (go_at_call 68; refine (shH_impl x _).mono ?_; rintro e w' ⟨rfl, rfl⟩) | go_in)
      exact bodyPost_ret (v := .tuple #[.agg #[.int .i64 0, .int .i64 0, .slice none 0 0], .bool false]) (by simp [results, Try.results27, go_sem]) rfl
        ⟨rfl, (by repeat (first | exact Below.refl _ _ | refine Below.drew ?_ | refine Below.drewN' ?_ _ | refine Below.alloc ?_ (by first | (simp; done) | (simp; omega)) _ | refine Below.setCell ?_ (by first | (simp; done) | (simp; omega)) _))⟩
    · have hlt1 : decide (l < 1) = true := decide_eq_true (by omega)
      clear hok h1
      go_enter Try.func27, Try.ntmps27
      go_wp2_with (first | (go_at_call 68; refine (shH_impl x _).mono ?_; rintro e w' ⟨rfl, rfl⟩) | go_in)
      exact bodyPost_ret (v := .tuple #[.agg #[.int .i64 0, .int .i64 0, .slice none 0 0], .bool false]) (by simp [results, Try.results27, go_sem]) rfl
        ⟨rfl, (by repeat (first | exact Below.refl _ _ | refine Below.drew ?_ | refine Below.drewN' ?_ _ | refine Below.alloc ?_ (by first | (simp; done) | (simp; omega)) _ | refine Below.setCell ?_ (by first | (simp; done) | (simp; omega)) _))⟩
set_option maxRecDepth 100000 in
set_option maxHeartbeats 4000000 in
theorem fcI_NextChannel_yes (l : Int) (x : Nat) (w : World) (hok : okNext l x = true) :
    Calls Try.prog 29 #[.int .i64 l, .float .f32 x] w fun e w' => ∃ g cp, e = .returned (.tuple #[.agg #[.int .i64 l, .int .i64 (l), .slice (some ⟨g, 0, none⟩) (l.toNat * l.toNat) cp], .bool true]) ∧ New w w' g (.cl (l.toNat * l.toNat) (nextV x l.toNat)) := by
  unfold okNext at hok
  rw [Bool.and_eq_true, Bool.and_eq_true] at hok
  obtain ⟨h1, h2, h3⟩ := hok
  have h1 := of_decide_eq_true h1
  obtain ⟨L, rfl⟩ : ∃ L : Nat, l = L := ⟨l.toNat, by omega⟩
  have HOK : Hid (chanVB (nextV x L) L L = true) := Lib.hid h3
  obtain ⟨hla, hlb⟩ := h1
  clear h3
  have hm1 : (w.alloc (.cells #[.int .i64 (L : Int)] 2)).heap.size = w.heap.size + 1 := by simp
  have hmf : ∀ (fn : Fn) (first cap : Array Value) (w : World), (Instr.makeFunc fn first cap).run Try.prog w = .ok (.func fn first cap) w := fun _ _ _ _ => rfl
  have hcl2 : (((w.alloc (.cells #[.int .i64 (L : Int)] 2)).alloc (.cells #[.float .f32 x] 32)).alloc (.cells #[.int .i64 0, .int .i64 0, .slice none 0 0] 27)).cell? ⟨w.heap.size, 0, none⟩ = some (.int .i64 (L : Int)) := by
    rw [World.cell?_alloc_past _ _ _ (by first | (simp; done) | (simp; omega)), World.cell?_alloc_past _ _ _ (by first | (simp; done) | (simp; omega)), World.cell?_alloc_at _ _ _ _ rfl]; rfl
  have hcl1 : (((w.alloc (.cells #[.int .i64 (L : Int)] 2)).alloc (.cells #[.float .f32 x] 32)).alloc (.cells #[.int .i64 0, .int .i64 0, .slice none 0 0] 27)).cell? ⟨w.heap.size + 1, 0, none⟩ = some (.float .f32 x) := by
    rw [World.cell?_alloc_past _ _ _ (by first | (simp; done) | (simp; omega)), World.cell?_alloc_at _ _ _ _ (by simp)]; rfl
  have HCL := Lib.hid (And.intro hcl1 hcl2)
  have HR0 : Hid (Tin (((w.alloc (.cells #[.int .i64 (L : Int)] 2)).alloc (.cells #[.float .f32 x] 32)).alloc (.cells #[.int .i64 0, .int .i64 0, .slice none 0 0] 27)) (w.heap.size + 2) 0 0 (.slice none 0 0)) := Lib.hid (Tin.new' (w := (w.alloc (.cells #[.int .i64 (L : Int)] 2)).alloc (.cells #[.float .f32 x] 32)) (T := 27) (by simp))
  have HB0 : Hid (Below w.heap.size w (((w.alloc (.cells #[.int .i64 (L : Int)] 2)).alloc (.cells #[.float .f32 x] 32)).alloc (.cells #[.int .i64 0, .int .i64 0, .slice none 0 0] 27))) := Lib.hid (by repeat (first | exact Below.refl _ _ | refine Below.drew ?_ | refine Below.drewN' ?_ _ | refine Below.alloc ?_ (by first | (simp; done) | (simp; omega)) _ | refine Below.setCell ?_ (by first | (simp; done) | (simp; omega)) _))
  have HSA : Hid (w.heap.size + 1 < (((w.alloc (.cells #[.int .i64 (L : Int)] 2)).alloc (.cells #[.float .f32 x] 32)).alloc (.cells #[.int .i64 0, .int .i64 0, .slice none 0 0] 27)).heap.size ∧ w.heap.size < (((w.alloc (.cells #[.int .i64 (L : Int)] 2)).alloc (.cells #[.float .f32 x] 32)).alloc (.cells #[.int .i64 0, .int .i64 0, .slice none 0 0] 27)).heap.size) := Lib.hid (by constructor <;> first | (simp; done) | (simp; omega))
  go_enter Try.func29, Try.ntmps29
  go_wp2_with (first | (go_at_call 68; refine (shH_impl x _).mono ?_; rintro e w' ⟨rfl, rfl⟩) | (go_at_call 69; refine (co_NextChannel_yes L L (nextV x L) (w.heap.size + 1) w.heap.size _ ?_ ?_ ?_ HOK.out).mono ?_; (next => omega); (next => omega); (next => (intro w2 i k hb hi hk; refine cl_NextChannel _ _ i k L x w2 ?_ ?_ hi hk (by omega); (next => exact (hb.cell (p := ⟨w.heap.size + 1, 0, none⟩) HSA.out.1).trans HCL.out.1); (next => exact (hb.cell (p := ⟨w.heap.size, 0, none⟩) HSA.out.2).trans HCL.out.2))); rintro e w3 ⟨g, cp, rfl, _, hg1, hg2, hg3, hb⟩; (try have hb := Below.ofDrewN hb); have HG1 := Lib.hid hg1; have HG2 := Lib.hid hg2; have HG3 := Lib.hid hg3; clear hg1 hg2 hg3; have HR := Lib.hid (HR0.out.below hb); have HB2 := Lib.hid (Below.next HB0.out hb); obtain ⟨_, hd0, hd1, hd2, hf0, hf1, hf2⟩ := HR.out; have HP3 := Lib.hid (HR.out.put3 (.int .i64 (L : Int)) (.int .i64 (L : Int)) (.slice (some ⟨g, 0, none⟩) (L * L) cp)); clear hb) | go_in)
  obtain ⟨hr0, hr1, hr2⟩ := HP3.out
  have hgne : w.heap.size + 2 ≠ g := by have := HG1.out; simp at this; omega
  exact bodyPost_ret (v := .tuple #[.agg #[.int .i64 (L : Int), .int .i64 (L : Int), .slice (some ⟨g, 0, none⟩) (L * L) cp], .bool true]) (by simp [results, Try.results29, go_sem, hr0, hr1, hr2]) rfl
    ⟨g, cp, rfl, by have := HG1.out; simp at this; omega, by simpa using HG2.out, Ent.ok.set (Ent.ok.set (Ent.ok.set HG3.out hgne _) hgne _) hgne _, by repeat (first | exact HB2.out | refine Below.setCell ?_ (by first | (simp; done) | (simp; omega)) _)⟩
set_option maxRecDepth 100000 in
set_option maxHeartbeats 4000000 in
theorem fcI_NextChannel_no (l : Int) (x : Nat) (w : World) (hok : okNext l x = false) :
    Calls Try.prog 29 #[.int .i64 l, .float .f32 x] w fun e w' => e = .returned (.tuple #[.agg #[.int .i64 0, .int .i64 0, .slice none 0 0], .bool false]) ∧ Below w.heap.size w w' := by
  unfold okNext at hok
  by_cases h1 : 2 ≤ l ∧ l ≤ 8
  · obtain ⟨L, rfl⟩ : ∃ L : Nat, l = L := ⟨l.toNat, by omega⟩
    have hlt1 : decide ((L : Int) < 2) = false := decide_eq_false (by omega)
    have hlt2 : decide (8 < (L : Int)) = false := decide_eq_false (by omega)
    cases h2 : shareH x with
    | false =>
      clear hok
      go_enter Try.func29, Try.ntmps29
      go_wp2_with (first | (go_at_call 68; refine (shH_impl x _).mono ?_; rintro e w' ⟨rfl, rfl⟩) | go_in)
      exact bodyPost_ret (v := .tuple #[.agg #[.int .i64 0, .int .i64 0, .slice none 0 0], .bool false]) (by simp [results, Try.results29, go_sem]) rfl
        ⟨rfl, (by repeat (first | exact Below.refl _ _ | refine Below.drew ?_ | refine Below.drewN' ?_ _ | refine Below.alloc ?_ (by first | (simp; done) | (simp; omega)) _ | refine Below.setCell ?_ (by first | (simp; done) | (simp; omega)) _))⟩
    | true =>
      have h3 : chanVB (nextV x L) L L = false := by rw [decide_eq_true h1, h2] at hok; exact hok
      have HOK := Lib.hid h3
      obtain ⟨hla, hlb⟩ := h1
      clear hok
      clear h3
      have hm1 : (w.alloc (.cells #[.int .i64 (L : Int)] 2)).heap.size = w.heap.size + 1 := by simp
      have hmf : ∀ (fn : Fn) (first cap : Array Value) (w : World), (Instr.makeFunc fn first cap).run Try.prog w = .ok (.func fn first cap) w := fun _ _ _ _ => rfl
      have hcl2 : (((w.alloc (.cells #[.int .i64 (L : Int)] 2)).alloc (.cells #[.float .f32 x] 32)).alloc (.cells #[.int .i64 0, .int .i64 0, .slice none 0 0] 27)).cell? ⟨w.heap.size, 0, none⟩ = some (.int .i64 (L : Int)) := by
        rw [World.cell?_alloc_past _ _ _ (by first | (simp; done) | (simp; omega)), World.cell?_alloc_past _ _ _ (by first | (simp; done) | (simp; omega)), World.cell?_alloc_at _ _ _ _ rfl]; rfl
      have hcl1 : (((w.alloc (.cells #[.int .i64 (L : Int)] 2)).alloc (.cells #[.float .f32 x] 32)).alloc (.cells #[.int .i64 0, .int .i64 0, .slice none 0 0] 27)).cell? ⟨w.heap.size + 1, 0, none⟩ = some (.float .f32 x) := by
        rw [World.cell?_alloc_past _ _ _ (by first | (simp; done) | (simp; omega)), World.cell?_alloc_at _ _ _ _ (by simp)]; rfl
      have HCL := Lib.hid (And.intro hcl1 hcl2)
      have HR0 : Hid (Tin (((w.alloc (.cells #[.int .i64 (L : Int)] 2)).alloc (.cells #[.float .f32 x] 32)).alloc (.cells #[.int .i64 0, .int .i64 0, .slice none 0 0] 27)) (w.heap.size + 2) 0 0 (.slice none 0 0)) := Lib.hid (Tin.new' (w := (w.alloc (.cells #[.int .i64 (L : Int)] 2)).alloc (.cells #[.float .f32 x] 32)) (T := 27) (by simp))
      have HB0 : Hid (Below w.heap.size w (((w.alloc (.cells #[.int .i64 (L : Int)] 2)).alloc (.cells #[.float .f32 x] 32)).alloc (.cells #[.int .i64 0, .int .i64 0, .slice none 0 0] 27))) := Lib.hid (by repeat (first | exact Below.refl _ _ | refine Below.drew ?_ | refine Below.drewN' ?_ _ | refine Below.alloc ?_ (by first | (simp; done) | (simp; omega)) _ | refine Below.setCell ?_ (by first | (simp; done) | (simp; omega)) _))
      have HSA : Hid (w.heap.size + 1 < (((w.alloc (.cells #[.int .i64 (L : Int)] 2)).alloc (.cells #[.float .f32 x] 32)).alloc (.cells #[.int .i64 0, .int .i64 0, .slice none 0 0] 27)).heap.size ∧ w.heap.size < (((w.alloc (.cells #[.int .i64 (L : Int)] 2)).alloc (.cells #[.float .f32 x] 32)).alloc (.cells #[.int .i64 0, .int .i64 0, .slice none 0 0] 27)).heap.size) := Lib.hid (by constructor <;> first | (simp; done) | (simp; omega))
      go_enter Try.func29, Try.ntmps29
      go_wp2_with (first | (go_at_call 68; refine (shH_impl x _).mono ?_; rintro e w' ⟨rfl, rfl⟩) | (go_at_call 69; refine (co_NextChannel_no L L (nextV x L) (w.heap.size + 1) w.heap.size _ ?_ ?_ ?_ HOK.out).mono ?_; (next => omega); (next => omega); (next => (intro w2 i k hb hi hk; refine cl_NextChannel _ _ i k L x w2 ?_ ?_ hi hk (by omega); (next => exact (hb.cell (p := ⟨w.heap.size + 1, 0, none⟩) HSA.out.1).trans HCL.out.1); (next => exact (hb.cell (p := ⟨w.heap.size, 0, none⟩) HSA.out.2).trans HCL.out.2))); rintro e w3 ⟨rfl, hb⟩; (try have hb := Below.ofDrewN hb); have HR := Lib.hid (HR0.out.below hb); have HB2 := Lib.hid (Below.next HB0.out hb); obtain ⟨_, hd0, hd1, hd2, hf0, hf1, hf2⟩ := HR.out; have HP3 := Lib.hid (HR.out.put3 (.int .i64 0) (.int .i64 0) (.slice none 0 0)); clear hb) | go_in)
      obtain ⟨hr0, hr1, hr2⟩ := HP3.out
      exact bodyPost_ret (v := .tuple #[.agg #[.int .i64 0, .int .i64 0, .slice none 0 0], .bool false]) (by simp [results, Try.results29, go_sem, hr0, hr1, hr2]) rfl
        ⟨rfl, by repeat (first | exact HB2.out | refine Below.setCell ?_ (by first | (simp; done) | (simp; omega)) _)⟩
  · by_cases hl : 2 ≤ l
    · have hlt1 : decide (l < 2) = false := decide_eq_false (by omega)
      have hlt2 : decide (8 < l) = true := decide_eq_true (by omega)
      clear hok h1
      go_enter Try.func29, Try.ntmps29
      go_wp2_with (first | (go_at_call 68; refine (shH_impl x _).mono ?_; rintro e w' ⟨rfl, rfl⟩) | go_in)
      exact bodyPost_ret (v := .tuple #[.agg #[.int .i64 0, .int .i64 0, .slice none 0 0], .bool false]) (by simp [results, Try.results29, go_sem]) rfl
        ⟨rfl, (by repeat (first | exact Below.refl _ _ | refine Below.drew ?_ | refine Below.drewN' ?_ _ | refine Below.alloc ?_ (by first | (simp; done) | (simp; omega)) _ | refine Below.setCell ?_ (by first | (simp; done) | (simp; omega)) _))⟩
    · have hlt1 : decide (l < 2) = true := decide_eq_true (by omega)
      clear hok h1
      go_enter Try.func29, Try.ntmps29
      go_wp2_with (first | (go_at_call 68; refine (shH_impl x _).mono ?_; rintro e w' ⟨rfl, rfl⟩) | go_in)
      exact bodyPost_ret (v := .tuple #[.agg #[.int .i64 0, .int .i64 0, .slice none 0 0], .bool false]) (by simp [results, Try.results29, go_sem]) rfl
        ⟨rfl, (by repeat (first | exact Below.refl _ _ | refine Below.drew ?_ | refine Below.drewN' ?_ _ | refine Below.alloc ?_ (by first | (simp; done) | (simp; omega)) _ | refine Below.setCell ?_ (by first | (simp; done) | (simp; omega)) _))⟩
end Go.Proofs.Ytffamppflelflaa
