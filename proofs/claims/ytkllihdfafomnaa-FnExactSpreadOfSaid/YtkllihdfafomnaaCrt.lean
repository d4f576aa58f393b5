/- CrossEntropy: its terms, the walks, the law. -/
import Derived.Test.YtkllihdfafomnaaCrs
namespace Go.Proofs.Ytkllihdfafomnaa
open Go.Proofs.Ytkllihdfafomnaa.Flo Go.RowKit

theorem cov_at {za zb : List Nat} {n : Nat} (h : covB za zb n = true) {k : Nat} (hk : k < n) (hz : zeroB (za.getD k 0) = false) : zeroB (zb.getD k 0) = false := by
  unfold covB at h
  have := of_decide_eq_true h k hk
  rw [hz, Bool.false_or] at this
  simpa using this
/-- A chance that is not 0: its bits are a number. -/
theorem ch_bits {zs : List Nat} {n : Nat} (h : chS zs n = true) {k : Nat} (hk : k < n) (hz : zeroB (zs.getD k 0) = false) : VLe .f32 44 (bitsV (zs.getD k 0)) := by
  obtain ⟨s, m, i, hd, hs, _⟩ := ch_each h hk
  rcases num_order _ hd hs with ⟨_, h1⟩ | ⟨rfl, h0, _⟩
  · unfold zeroB at hz; rw [h1] at hz; cases hz
  · exact bitsV_le hd h0
theorem ch_inf {zs : List Nat} {n : Nat} (h : chS zs n = true) {k : Nat} (hk : k < n) : (FloatKind.f32).decode (zs.getD k 0) = .infinity false → zs.getD k 0 = 2139095040 := by
  obtain ⟨s, m, i, hd, _⟩ := ch_each h hk
  rw [hd]; intro e; cases e
theorem ch_le {zs : List Nat} {n : Nat} (h : chS zs n = true) {k : Nat} (hk : k < n) : VLe .f32 1 (cls .f32 (zs.getD k 0)) := by
  obtain ⟨_, _, _, _, _, h⟩ := ch_each h hk; exact h
/-- What is returned: 0 where it fails. -/
def ansV (b : Bool) (v : Option Nat) : Option Nat := if b then v else cls .f32 0
theorem ret_fb {r : Nat} {b c : Bool} (h : b = c) : Ending.returned (.tuple #[.float .f32 r, .bool b]) = .returned (.tuple #[.float .f32 r, .bool c]) := by rw [h]
theorem le_032 : VLe .f32 0 (cls .f32 0) := ⟨0, cls_032, by rw [dec_032]; exact leN_of_log (.inl rfl)⟩

/-- A term of a cross entropy. -/
def crossT (za zb : List Nat) (k : Nat) : Option Nat := vop .mul .f32 (cls .f32 (za.getD k 0)) (bitsV (zb.getD k 0))
def crossV (za zb : List Nat) (n : Nat) : Option Nat := vop .sub .f32 (cls .f32 0) (vterms za (crossT za zb) n)
theorem crossV_le {za zb : List Nat} {n : Nat} (hca : chS za n = true) (hcb : chS zb n = true) (hcv : covB za zb n = true) (hn : n ≤ 32) : VLe .f32 127 (crossV za zb n) := by
  have hT : ∀ k, k < n → zeroB (za.getD k 0) = false → VLe .f32 45 (crossT za zb k) := fun k hk hz =>
    vmul_le (ch_le hca hk) (ch_bits hcb hk (cov_at hcv hk hz)) ⟨by decide, by decide⟩
  have hS := vterms_le (zs := za) (n := n) (by decide : (0:Int) ≤ 45) (by omega) hT n (Nat.le_refl _)
  exact (vsub_le le_032 hS ⟨by omega, by omega⟩).mono (by omega)
def okX (za zb : List Nat) (n m : Nat) : Bool := twoB za zb n m && covB za zb n
set_option maxHeartbeats 2000000 in
theorem can_impl (a b : Option Addr) (n m cap capb : Nat) (za zb : List Nat) (w : World) (ha : FRow w a n za) (hb : FRow w b m zb) (hn : n ≤ 1048576) (hm : m ≤ 1048576) :
    Calls Try.prog 67 #[.slice a n cap, .slice b m capb] w fun e w' => e = .returned (.bool (okX za zb n m)) ∧ Drew w w' := by
  have HA := Lib.hid ha
  have HB := Lib.hid hb
  clear ha hb
  cases h1 : twoB za zb n m with
  | false =>
    have HR : Hid (okX za zb n m = false) := Lib.hid (by unfold okX; rw [h1]; rfl)
    go_enter Try.func67, Try.ntmps67
    go_wp2_with (first | (go_at_call 73; refine (two_impl _ _ _ _ _ _ za zb _ HA.out HB.out hn hm).mono ?_; rintro e w' ⟨rfl, q1, rfl⟩) | go_in)
    go_ret
    exact ⟨ret_bool2 HR.out.symm, Drew.mk _ _⟩
  | true =>
    have HT := Lib.hid h1
    obtain ⟨rfl, hn32, hca, hcb, _, _⟩ := two_out h1
    have HC := Lib.hid hca
    have HCB := Lib.hid hcb
    have HR : Hid (okX za zb n n = covB za zb n) := Lib.hid (by unfold okX; rw [h1]; rfl)
    clear hca hcb
    go_enter Try.func67, Try.ntmps67
    go_wp2_with (first | (go_at_call 73; refine (two_impl _ _ _ _ _ _ za zb _ HA.out HB.out hn hm).mono ?_; rintro e w' ⟨rfl, q1, rfl⟩) | go_in)
    go_loopw [13] (fun iv w' => ∃ k q : Nat, k ≤ n ∧ Hid (∀ j, j < k → (zeroB (za.getD j 0) || !zeroB (zb.getD j 0)) = true) ∧ iv = .int .i64 k ∧ w' = w.drewN q) (fun iv _ => n - (intOf iv).toNat)
    case atStart => exact ⟨0, _, by omega, Lib.hid (by intro j hj; omega), rfl, rfl⟩
    case round =>
      obtain ⟨k, q, hk, HL, rfl, rfl⟩ := hrel
      by_cases hlt : k < n
      · obtain ⟨b1, o1, rfl, hck1⟩ := HA.out.cell hlt
        obtain ⟨b2, o2, rfl, hck2⟩ := HB.out.cell hlt
        obtain ⟨s, mm, i, hd, hs, _⟩ := ch_each HC.out hlt
        obtain ⟨s2, mm2, i2, hd2, hs2, _⟩ := ch_each HCB.out hlt
        rcases num_order _ hd hs with ⟨_, ho⟩ | ⟨_, _, ho⟩
        · have HZ : Hid ((zeroB (za.getD k 0) || !zeroB (zb.getD k 0)) = true) := Lib.hid (by unfold zeroB; rw [ho]; rfl)
          clear h1 hd hs hd2 hs2
          generalize hx : za.getD k 0 = x at hck1 ho
          generalize hy : zb.getD k 0 = y at hck2
          go_wp2
          exact ⟨⟨k + 1, _, by omega, Lib.hid (fun j hj => by by_cases e : j = k; exact e ▸ HZ.out; exact HL.out j (by omega)), by first | rfl | go_num | (congr 1), rfl⟩, by show n - ((k : Int) + 1).toNat < n - (k : Int).toNat; omega⟩
        · rcases num_order _ hd2 hs2 with ⟨_, hz⟩ | ⟨_, _, hz⟩
          · have HZ : Hid ((zeroB (za.getD k 0) || !zeroB (zb.getD k 0)) = false) := Lib.hid (by unfold zeroB; rw [ho, hz]; rfl)
            clear h1 hd hs hd2 hs2
            generalize hx : za.getD k 0 = x at hck1 ho
            generalize hy : zb.getD k 0 = y at hck2 hz
            go_wp2
            go_ret
            exact ⟨ret_bool2 (HR.out.trans (notAll hlt HZ.out)).symm, Drew.mk _ _⟩
          · have HZ : Hid ((zeroB (za.getD k 0) || !zeroB (zb.getD k 0)) = true) := Lib.hid (by unfold zeroB; rw [hz]; simp)
            clear h1 hd hs hd2 hs2
            generalize hx : za.getD k 0 = x at hck1 ho
            generalize hy : zb.getD k 0 = y at hck2 hz
            go_wp2
            exact ⟨⟨k + 1, _, by omega, Lib.hid (fun j hj => by by_cases e : j = k; exact e ▸ HZ.out; exact HL.out j (by omega)), by first | rfl | go_num | (congr 1), rfl⟩, by show n - ((k : Int) + 1).toNat < n - (k : Int).toNat; omega⟩
      · obtain rfl : k = n := by omega
        go_wp2
        go_ret
        exact ⟨ret_bool2 (HR.out.trans (isAll HL.out)).symm, Drew.mk _ _⟩
end Go.Proofs.Ytkllihdfafomnaa
