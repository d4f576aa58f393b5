
/- IsMember: the program's functions. -/
import Derived.Test.YtmfegjflaajkkaaImn
namespace Go.Proofs.Ytmfegjflaajkkaa
open Go.Proofs.Ytmfegjflaajkkaa.Flo Go.RowKit Go.Proofs.Ytmfegjflaajkkaa.Pr

theorem un_congr {f g : Nat → Bool} {zs : List Int} {m : Nat} (e : ∀ i, i < m → f i = g i) : ∀ k, (∀ j, j < k → 0 ≤ zs.getD j 0 ∧ zs.getD j 0 < (m : Int)) → unB f zs k = unB g zs k
  | 0, _ => rfl
  | k + 1, h => by
    have h1 := h k (by omega)
    show (unB f zs k != f (zs.getD k 0).toNat) = (unB g zs k != g (zs.getD k 0).toNat)
    rw [un_congr e k (fun j hj => h j (by omega)), e _ (by omega)]
theorem me_congr {f g : Nat → Bool} {n m : Nat} {Ln : Nat → Nat} {Z : Nat → List Int} (e : ∀ i, i < m → f i = g i) (h : ∀ k, k < n → ∀ j, j < Ln k → 0 ≤ (Z k).getD j 0 ∧ (Z k).getD j 0 < (m : Int)) : meB f n Ln Z = meB g n Ln Z := by
  unfold meB
  refine decide_eq_decide.2 ⟨fun q k hk => ?_, fun q k hk => ?_⟩
  · rw [← un_congr e (Ln k) (h k hk)]; exact q k hk
  · rw [un_congr e (Ln k) (h k hk)]; exact q k hk
theorem od_me {f : Nat → Bool} {n : Nat} {Ln : Nat → Nat} {Z : Nat → List Int} (hn : n ≤ 32) : ((List.range 32).all fun i => !odF f Ln Z n 0 i) = meB f n Ln Z := by
  rw [Bool.eq_iff_iff, List.all_eq_true]
  unfold meB
  rw [decide_eq_true_iff]
  constructor
  · intro h k hk
    have := h k (List.mem_range.2 (by omega))
    unfold odF at this
    rw [if_pos hk] at this
    simpa using this
  · intro h i hi
    unfold odF
    by_cases e : i < n
    · rw [if_pos e, h i e]; rfl
    · rw [if_neg e]; split <;> rfl
theorem plainB : Try.prog.plainKey 4 = true := by simp [Program.plainKey, Try.underlying4]
theorem cellsBb : Try.prog.cellsOf 4 = 1 := by kernel_rfl
theorem eq_items (g : Nat → Bool) (d : Nat) (w : World) : ∀ is : List Nat, (∀ i ∈ is, i < 32) → (Op.eqItems (d + 1) 4 1 (ab g) (ab fun _ => false) is).run Try.prog w = .ok (is.all fun i => !g i) w
  | [], _ => by simp [Op.eqItems]
  | i :: is, h => by
    have hi : i < 32 := h i (.head _)
    have ih := eq_items g d w is (fun j hj => h j (.tail _ hj))
    have p1 := run_part_plain (P := Try.prog) w plainB (ab_get g hi)
    have p2 := run_part_plain (P := Try.prog) w plainB (ab_get (fun _ => false) hi)
    have p3 := run_equalIn_bool (P := Try.prog) w d 4 (g i) false Try.underlying4
    simp only [Op.eqItems, Nat.mul_one, Sem.run_bind, p1, p2, p3, Result.andThen_ok, List.all_cons]
    cases g i
    · simpa using ih
    · simp
theorem eq_ab (g : Nat → Bool) (w : World) : (Op.equalIn 10000 94 (.agg (ab g)) (.agg (ab fun _ => false))).run Try.prog w = .ok ((List.range 32).all fun i => !g i) w := by
  obtain ⟨i0, hi, _⟩ := info_parts Try.infoB
  show (Op.equalIn (9999 + 1) 94 (.agg (ab g)) (.agg (ab fun _ => false))).run Try.prog w = _
  rw [run_equalIn_array w 9999 (ab g) (ab fun _ => false) Try.underlying94 hi, cellsBb]
  exact eq_items g 9998 w _ (fun i hi => List.mem_range.1 hi)
/-- Is none true? -/
def noB (g : Nat → Bool) : Bool := (List.range 32).all fun i => !g i
set_option maxRecDepth 100000 in
set_option maxHeartbeats 4000000 in
theorem am_impl (r : Int) (a : Option Addr) (n cap : Nat) (A : Nat → Option Addr) (Ln Cp : Nat → Nat) (Z : Nat → List Int) (f : Nat → Bool) (w : World) (h : GRow w a n A Ln Cp Z) (hn : n ≤ 32) (hl : ∀ k, k < n → Ln k ≤ 1048576) (hv : ∀ k, k < n → ∀ j, j < Ln k → 0 ≤ (Z k).getD j 0 ∧ (Z k).getD j 0 < 32) :
    Calls Try.prog 80 #[.agg #[.int .i64 r, .slice a n cap], .agg (ab f)] w fun e w' => e = .returned (.bool (meB f n Ln Z)) ∧ Below w.heap.size w w' := by
  have HB := Lib.hid (Below.alloc (belowA w (.cells #[.int .i64 r, .slice a n cap] 55)) (by simp) (.cells (ab f) 94))
  have HO := Lib.hid (or_impl r a n cap A Ln Cp Z f ((w.alloc (.cells #[.int .i64 r, .slice a n cap] 55)).alloc (.cells (ab f) 94)) (h.below HB.out) hn hl hv)
  have hc := (AB.new (w.alloc (.cells #[.int .i64 r, .slice a n cap] 55)) f 94).range
  rw [World.size_alloc] at hc
  have HF : Hid (noB (odF f Ln Z n 0) = meB f n Ln Z) := Lib.hid (od_me hn)
  have heq : ∀ W, (Op.equalIn 10000 94 (.agg (ab (odF f Ln Z n 0))) (.agg (ab fun _ => false))).run Try.prog W = .ok (noB (odF f Ln Z n 0)) W := fun W => eq_ab (odF f Ln Z n 0) W
  rw [ab_zero] at heq
  clear h hl hv
  generalize odF f Ln Z n 0 = G at HO HF heq
  go_enter Try.func80, Try.ntmps80
  go_wp2_with (first | (refine load_ab rfl _ rfl (w.heap.size + 1) (by rfl) f hc ?_) | (go_at_call 98; refine HO.out.mono ?_; rintro e w3 ⟨rfl, hb⟩; have HB3 := Lib.hid (Below.next HB.out hb); clear hb) | fail)
  go_ret
  exact ⟨ret_bool2 HF.out, HB3.out⟩
set_option maxRecDepth 100000 in
set_option maxHeartbeats 4000000 in
theorem im_impl (r : Int) (a : Option Addr) (n cap : Nat) (A : Nat → Option Addr) (Ln Cp : Nat → Nat) (Z : Nat → List Int) (b : Option Addr) (m capb : Nat) (f : Nat → Bool) (w : World) (h : GRow w a n A Ln Cp Z) (hb : BRow w b m f) (hn : n + gtot Ln n ≤ 1048576) :
    Calls Try.prog 47 #[.agg #[.int .i64 r, .slice a n cap], .slice b m capb] w fun e w' => e = .returned (.tuple #[.bool (imB r n Ln Z m f).1, .bool (imB r n Ln Z m f).2]) ∧ Below w.heap.size w w' := by
  have HC := Lib.hid (two_cellsG w (.int .i64 r) (.slice a n cap) 55)
  have HG := Lib.hid (vg_impl r a n cap A Ln Cp Z (w.alloc (.cells #[.int .i64 r, .slice a n cap] 55)) (h.alloc _) hn)
  have hcw : ∀ w2, Below (w.alloc (.cells #[.int .i64 r, .slice a n cap] 55)).heap.size (w.alloc (.cells #[.int .i64 r, .slice a n cap] 55)) w2 → w2.cell? ⟨w.heap.size, 0, none⟩ = some (.int .i64 r) ∧ w2.cell? ⟨w.heap.size, 1, none⟩ = some (.slice a n cap) := fun w2 hb => ⟨by rw [hb.cell (p := ⟨w.heap.size, 0, none⟩) (by simp)]; exact HC.out.1, by rw [hb.cell (p := ⟨w.heap.size, 1, none⟩) (by simp)]; exact HC.out.2⟩
  have HCW := Lib.hid hcw
  clear hcw
  cases hg : gvB r n Ln Z with
  | true =>
    rw [hg] at HG
    by_cases hmr : (m : Int) = r
    · obtain ⟨⟨hr1, hr2⟩, ⟨hn1, hn2⟩, _⟩ := gv_out hg
      have hm32 : m ≤ 32 := by omega
      have hvr := im_vals hg
      have hI := im_yes (m := m) (f := f) hg hmr
      have HL := Lib.hid (fun k (hk : k < n) => (by have := gtot_each Ln hk; omega : Ln k ≤ 1048576))
      have HV := Lib.hid (fun k (hk : k < n) j (hj : j < Ln k) => (by have := hvr k hk j hj; omega : 0 ≤ (Z k).getD j 0 ∧ (Z k).getD j 0 < 32))
      have HI : Hid (imB r n Ln Z m f = (meB (ccF f m fun _ => false) n Ln Z, true)) := Lib.hid (by
        rw [hI, me_congr (m := m) (f := f) (g := ccF f m fun _ => false) (fun i hi => by unfold ccF; rw [if_pos hi]) (fun k hk j hj => by have := hvr k hk j hj; omega)])
      have HAR := Lib.hid (fun W hW => h.below (Below.next (belowA w (.cells #[.int .i64 r, .slice a n cap] 55)) hW : Below w.heap.size w W))
      have HBR := Lib.hid (fun W hW => hb.below (Below.next (belowA w (.cells #[.int .i64 r, .slice a n cap] 55)) hW : Below w.heap.size w W))
      have heq : ((m : Int) == r) = true := by simp [hmr]
      clear h hb hg hvr hI
      subst hmr
      go_enter Try.func47, Try.ntmps47
      go_wp2_with (first | (go_at_call 42; refine HG.out.mono ?_; rintro e w2 ⟨rfl, hb2⟩; obtain ⟨hc0, hc1⟩ := HCW.out _ hb2; have HBA := Lib.hid hb2; clear hb2) | fail)
      go_region_with (first | (go_at_call 81; refine (nd_impl b m capb f _ (HBR.out _ (by repeat (first | exact HBA.out | refine Below.drewN' ?_ _ | refine Below.drew ?_))) hm32).mono ?_; rintro e w3 ⟨rfl, hb3⟩; have HBN : Hid (Below (w.alloc (.cells #[.int .i64 (m : Int), .slice a n cap] 55)).heap.size (w.alloc (.cells #[.int .i64 (m : Int), .slice a n cap] 55)) w3) := Lib.hid (Below.next (by repeat (first | exact HBA.out | refine Below.drewN' ?_ _ | refine Below.drew ?_)) hb3); clear HBA; have HBA := HBN; clear HBN hb3; have hcc := HCW.out _ HBA.out; have hd0 := hcc.1; have hd1 := hcc.2; clear hcc) | (go_at_call 80; refine (am_impl (m : Int) a n cap A Ln Cp Z (ccF f m fun _ => false) _ (HAR.out _ (by repeat (first | exact HBA.out | refine Below.drewN' ?_ _ | refine Below.drew ?_))) hn2 HL.out HV.out).mono ?_; rintro e w4 ⟨rfl, hb4⟩; have HBN : Hid (Below (w.alloc (.cells #[.int .i64 (m : Int), .slice a n cap] 55)).heap.size (w.alloc (.cells #[.int .i64 (m : Int), .slice a n cap] 55)) w4) := Lib.hid (Below.next (by repeat (first | exact HBA.out | refine Below.drewN' ?_ _ | refine Below.drew ?_)) hb4); clear HBA; have HBA := HBN; clear HBN hb4) | fail)
      all_goals
        go_wp2
        go_ret2
        rw [HI.out]
        exact ⟨rfl, Below.next (belowA w (.cells #[.int .i64 (m : Int), .slice a n cap] 55)) (by repeat (first | exact HBA.out | refine Below.drewN' ?_ _ | refine Below.drew ?_))⟩
    · have HI := Lib.hid (im_no (f := f) (fun e => hmr e.2 : ¬ (gvB r n Ln Z = true ∧ (m : Int) = r)))
      have hne : ((m : Int) == r) = false := by simp [hmr]
      clear h hb hg
      go_enter Try.func47, Try.ntmps47
      go_wp2_with (first | (go_at_call 42; refine HG.out.mono ?_; rintro e w2 ⟨rfl, hb2⟩; obtain ⟨hc0, hc1⟩ := HCW.out _ hb2; have HB2 := Lib.hid (Below.next (belowA _ _) hb2); clear hb2) | fail)
      go_ret2
      rw [HI.out]
      exact ⟨rfl, HB2.out⟩
  | false =>
    rw [hg] at HG
    have HI := Lib.hid (im_no (f := f) (fun e => by rw [hg] at e; cases e.1 : ¬ (gvB r n Ln Z = true ∧ (m : Int) = r)))
    clear h hb hg
    go_enter Try.func47, Try.ntmps47
    go_wp2_with (first | (go_at_call 42; refine HG.out.mono ?_; rintro e w2 ⟨rfl, hb2⟩; have HB2 := Lib.hid (Below.next (belowA _ _) hb2); clear hb2) | fail)
    go_ret2
    rw [HI.out]
    exact ⟨rfl, HB2.out⟩
end Go.Proofs.Ytmfegjflaajkkaa
