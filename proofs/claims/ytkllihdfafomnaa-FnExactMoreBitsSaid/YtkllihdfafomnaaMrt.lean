/- MoreBits: its terms, the walks, the law. -/
import Derived.Test.YtkllihdfafomnaaCrt
namespace Go.Proofs.Ytkllihdfafomnaa
open Go.Proofs.Ytkllihdfafomnaa.Flo Go.RowKit

/-- A term of MoreBits. -/
def moreT (za zb : List Nat) (k : Nat) : Option Nat := vop .mul .f32 (cls .f32 (za.getD k 0)) (vop .sub .f32 (bitsV (za.getD k 0)) (bitsV (zb.getD k 0)))
def moreV (za zb : List Nat) (n : Nat) : Option Nat := vterms za (moreT za zb) n
theorem moreV_le {za zb : List Nat} {n : Nat} (hca : chS za n = true) (hcb : chS zb n = true) (hcv : covB za zb n = true) (hn : n ≤ 32) : VLe .f32 127 (moreV za zb n) := by
  have hT : ∀ k, k < n → zeroB (za.getD k 0) = false → VLe .f32 46 (moreT za zb k) := fun k hk hz =>
    (vmul_le (ch_le hca hk) (vsub_le (ch_bits hca hk hz) (ch_bits hcb hk (cov_at hcv hk hz)) ⟨by decide, by decide⟩) ⟨by decide, by decide⟩).mono (by decide)
  exact (vterms_le (zs := za) (n := n) (by decide : (0:Int) ≤ 46) (by omega) hT n (Nat.le_refl _)).mono (by omega)
set_option maxRecDepth 100000 in
set_option maxHeartbeats 2000000 in
theorem moreS (a b : Option Addr) (n m cap capb : Nat) (za zb : List Nat) (w : World) (ha : FRow w a n za) (hb : FRow w b m zb) (hn : n ≤ 1048576) (hm : m ≤ 1048576) :
    Calls Try.prog 25 #[.slice a n cap, .slice b m capb] w fun e w' => ∃ r, e = .returned (.tuple #[.float .f32 r, .bool (okX za zb n m)]) ∧ cls .f32 r = ansV (okX za zb n m) (moreV za zb n) ∧ Drew w w' := by
  have HA := Lib.hid ha
  have HB := Lib.hid hb
  clear ha hb
  cases h1 : twoB za zb n m with
  | false =>
    have HR : Hid (okX za zb n m = false) := Lib.hid (by unfold okX; rw [h1]; rfl)
    go_enter Try.func25, Try.ntmps25
    go_wp2_with (first | (go_at_call 63; refine (two_spec _ _ _ _ _ _ za zb _ HA.out HB.out hn hm).mono ?_; rintro e w' ⟨rfl, q1, rfl⟩) | go_in)
    go_ret2
    exact ⟨0, ret_fb HR.out.symm, by rw [HR.out]; rfl, Drew.mk _ _⟩
  | true =>
    obtain ⟨rfl, hn32, hca, hcb, _, _⟩ := two_out h1
    have HCA := Lib.hid hca
    have HCB := Lib.hid hcb
    clear hca hcb
    cases h2 : covB za zb n with
    | false =>
      have HR : Hid (okX za zb n n = false) := Lib.hid (by unfold okX; rw [h1, h2]; rfl)
      go_enter Try.func25, Try.ntmps25
      go_wp2_with (first | (go_at_call 63; refine (two_spec _ _ _ _ _ _ za zb _ HA.out HB.out hn hm).mono ?_; rintro e w' ⟨rfl, q1, rfl⟩) | (go_at_call 64; refine (cov_spec _ _ _ _ _ za zb _ (HA.out.drewN _) (HB.out.drewN _) HCA.out hn32).mono ?_; rintro e w' ⟨rfl, q2, rfl⟩) | go_in)
      go_ret2
      exact ⟨0, ret_fb HR.out.symm, by rw [HR.out]; rfl, Drew.mk _ _⟩
    | true =>
      have HR : Hid (okX za zb n n = true) := Lib.hid (by unfold okX; rw [h1, h2]; rfl)
      have HCV := Lib.hid h2
      have HLE := Lib.hid (moreV_le HCA.out HCB.out h2 hn32)
      go_enter Try.func25, Try.ntmps25
      go_wp2_with (first | (go_at_call 63; refine (two_spec _ _ _ _ _ _ za zb _ HA.out HB.out hn hm).mono ?_; rintro e w' ⟨rfl, q1, rfl⟩) | (go_at_call 64; refine (cov_spec _ _ _ _ _ za zb _ (HA.out.drewN _) (HB.out.drewN _) HCA.out hn32).mono ?_; rintro e w' ⟨rfl, q2, rfl⟩) | go_in)
      clear h1 h2
      go_loopw [6, 7] (fun sv iv w' => ∃ k q r : Nat, k ≤ n ∧ sv = .float .f32 r ∧ Hid (cls .f32 r = vterms za (moreT za zb) k) ∧ iv = .int .i64 k ∧ w' = w.drewN q) (fun _ iv _ => n - (intOf iv).toNat)
      case atStart => exact ⟨0, _, 0, by omega, rfl, Lib.hid rfl, rfl, rfl⟩
      case round =>
        obtain ⟨k, q, r, hk, rfl, HS0, rfl, rfl⟩ := hrel
        by_cases hlt : k < n
        · obtain ⟨b1, o1, rfl, hck1⟩ := HA.out.cell hlt
          obtain ⟨b2, o2, rfl, hck2⟩ := HB.out.cell hlt
          obtain ⟨s, mm, i, hd, hs, _⟩ := ch_each HCA.out hlt
          rcases num_order _ hd hs with ⟨_, ho⟩ | ⟨_, _, ho⟩
          · have HS : Hid (vterms za (moreT za zb) (k + 1) = vterms za (moreT za zb) k) := Lib.hid (by show (if _ then _ else _) = _; rw [if_pos (by unfold zeroB; rw [ho]; rfl)])
            have hg : ((FloatKind.f32).format.order (za.getD k 0) 0 == some .gt) = false := by rw [ho]; rfl
            clear hd hs ho
            generalize za.getD k 0 = x at hck1 hg
            generalize zb.getD k 0 = y at hck2
            clear HA HB
            go_wp2
            exact ⟨⟨k + 1, _, _, by omega, rfl, Lib.hid (HS0.out.trans HS.out.symm), by first | rfl | go_num | (congr 1), rfl⟩, by show n - ((k : Int) + 1).toNat < n - (k : Int).toNat; omega⟩
          · have HS : Hid (∀ {l l2 : Nat} {w1 w2 w3 : World}, cls .f32 l2 = bitsV (za.getD k 0) → cls .f32 l = bitsV (zb.getD k 0) → cls .f32 (fres .add .f32 r (fres .mul .f32 (za.getD k 0) (fres .sub .f32 l2 l w1) w2) w3) = vterms za (moreT za zb) (k + 1)) := Lib.hid (fun hl2 hl => by
              show _ = (if _ then _ else _)
              rw [if_neg (by unfold zeroB; rw [ho]; decide), fres_cls, fres_cls, fres_cls, HS0.out, hl, hl2]; rfl)
            have hg : ((FloatKind.f32).format.order (za.getD k 0) 0 == some .gt) = true := by rw [ho]; rfl
            clear hd hs ho
            generalize za.getD k 0 = x at hck1 hg HS
            generalize zb.getD k 0 = y at hck2 HS
            clear HA HB
            go_wp2
            go_region_with (first | (go_at_call 65; ((with_reducible refine (bits_spec x _).mono ?_); rintro e w' ⟨l2, rfl, hl, n2, rfl⟩; have HL2 := Lib.hid hl; clear hl)) | (go_at_call 65; ((with_reducible refine (bits_spec y _).mono ?_); rintro e w' ⟨l, rfl, hl, n2, rfl⟩; have HL := Lib.hid hl; clear hl)))
            all_goals
              go_wp2
              exact ⟨⟨k + 1, _, _, by omega, rfl, Lib.hid (HS.out HL2.out HL.out), by first | rfl | go_num | (congr 1), rfl⟩, by show n - ((k : Int) + 1).toNat < n - (k : Int).toNat; omega⟩
        · obtain rfl : k = n := by omega
          have HF : Hid (cls .f32 r = moreV za zb k) := Lib.hid HS0.out
          go_wp2_with (first | (go_at_call 66; refine (number_spec _ (le_fin HLE.out HF.out) _).mono ?_; rintro e w' ⟨rfl, q3, rfl⟩) | go_in)
          go_ret2
          exact ⟨_, ret_fb HR.out.symm, by rw [HR.out]; exact HF.out, Drew.mk _ _⟩
set_option maxRecDepth 100000 in
set_option maxHeartbeats 1000000 in
theorem tmore1 (k x : Nat) (b : Option Addr) (n capb : Nat) (za zb : List Nat) (p : Nat) (w : World) (hx : x = za.getD k 0) (_hz : zeroB (za.getD k 0) = false) (hk : k < n) (hb : FRow w b n zb) (hp : w.cell? ⟨p, 0, none⟩ = some (.slice b n capb)) (hca : chS za n = true) (hcb : chS zb n = true) (_hn : n ≤ 32) :
    Calls Try.prog 69 #[.int .i64 k, .float .f32 x, .pointer (some ⟨p, 0, none⟩)] w fun e w' => ∃ r, e = .returned (.float .f32 r) ∧ cls .f32 r = moreT za zb k ∧ Drew w w' := by
  have HX := Lib.hid (ch_inf hcb hk)
  have HX2 : Hid ((FloatKind.f32).decode x = .infinity false → x = 2139095040) := Lib.hid (by rw [hx]; exact ch_inf hca hk)
  have HT : Hid (moreT za zb k = vop .mul .f32 (cls .f32 x) (vop .sub .f32 (bitsV x) (bitsV (zb.getD k 0)))) := Lib.hid (by rw [hx]; rfl)
  obtain ⟨b2, o2, rfl, hck2⟩ := hb.cell hk
  clear hx hca hcb hb
  generalize zb.getD k 0 = y at hck2 HX HT
  go_enter Try.func69, Try.ntmps69
  go_wp2
  go_region_with (first | (go_at_call 70; ((with_reducible refine (bits_impl x HX2.out _).mono ?_); rintro e w' ⟨r2, rfl, hr, n2, rfl⟩; have Hr2 := Lib.hid hr; clear hr)) | (go_at_call 70; ((with_reducible refine (bits_impl y HX.out _).mono ?_); rintro e w' ⟨r, rfl, hr, n2, rfl⟩; have Hr := Lib.hid hr; clear hr)))
  all_goals
    go_wp2
    go_ret
    exact ⟨_, rfl, by rw [fres_cls, fres_cls, Hr.out, Hr2.out, HT.out], Drew.mk _ _⟩
set_option maxRecDepth 100000 in
set_option maxHeartbeats 2000000 in
theorem tmore (a b : Option Addr) (n cap capb : Nat) (za zb : List Nat) (p : Nat) (w : World) (ha : FRow w a n za) (hb : FRow w b n zb) (hp : w.cell? ⟨p, 0, none⟩ = some (.slice b n capb)) (hca : chS za n = true) (hcb : chS zb n = true) (hn : n ≤ 32) :
    Calls Try.prog 68 #[.slice a n cap, .func (.func 69) #[] #[.pointer (some ⟨p, 0, none⟩)]] w fun e w' => ∃ r, e = .returned (.float .f32 r) ∧ cls .f32 r = vterms za (moreT za zb) n ∧ Drew w w' := by
  have HA := Lib.hid ha
  have HB := Lib.hid hb
  have HCA := Lib.hid hca
  have HCB := Lib.hid hcb
  clear ha hb hca hcb
  go_enter Try.func68, Try.ntmps68
  go_wp2
  go_loopw [5, 10] (fun sv iv w' => ∃ k q r : Nat, k ≤ n ∧ sv = .float .f32 r ∧ Hid (cls .f32 r = vterms za (moreT za zb) k) ∧ iv = .int .i64 k ∧ w' = w.drewN q) (fun _ iv _ => n - (intOf iv).toNat)
  case atStart => exact ⟨0, 0, 0, by omega, rfl, Lib.hid rfl, rfl, rfl⟩
  case round =>
    obtain ⟨k, q, r, hk, rfl, HR, rfl, rfl⟩ := hrel
    by_cases hlt : k < n
    · obtain ⟨b1, o1, rfl, hck1⟩ := HA.out.cell hlt
      obtain ⟨s, mm, i, hd, hs, _⟩ := ch_each HCA.out hlt
      rcases num_order _ hd hs with ⟨_, ho⟩ | ⟨_, _, ho⟩
      · have HS : Hid (vterms za (moreT za zb) (k + 1) = vterms za (moreT za zb) k) := Lib.hid (by show (if _ then _ else _) = _; rw [if_pos (by unfold zeroB; rw [ho]; rfl)])
        clear hd hs
        generalize za.getD k 0 = x at hck1 ho
        clear HA
        go_wp2
        exact ⟨⟨k + 1, _, _, by omega, rfl, Lib.hid (HR.out.trans HS.out.symm), by first | rfl | go_num | (congr 1), rfl⟩, by show n - ((k : Int) + 1).toNat < n - (k : Int).toNat; omega⟩
      · have HZ : Hid (zeroB (za.getD k 0) = false) := Lib.hid (by unfold zeroB; rw [ho]; rfl)
        have HS : Hid (∀ {l : Nat} {w3 : World}, cls .f32 l = moreT za zb k → cls .f32 (fres .add .f32 r l w3) = vterms za (moreT za zb) (k + 1)) := Lib.hid (fun hl => by
          show _ = (if _ then _ else _)
          rw [if_neg (by unfold zeroB; rw [ho]; decide), fres_cls, HR.out, hl])
        clear hd hs
        have HX := Lib.hid (rfl : za.getD k 0 = za.getD k 0)
        generalize hxx : za.getD k 0 = x at hck1 ho
        have HXX := Lib.hid hxx
        clear hxx
        go_wp2_with (first | (go_at_call 69; refine (tmore1 k x b n capb za zb p _ HXX.out.symm HZ.out hlt (HB.out.drewN _) hp HCA.out HCB.out hn).mono ?_; rintro e w' ⟨l, rfl, hl, n2, rfl⟩; have HL := Lib.hid hl; clear hl) | go_in)
        exact ⟨⟨k + 1, _, _, by omega, rfl, Lib.hid (HS.out HL.out), by first | rfl | go_num | (congr 1), rfl⟩, by show n - ((k : Int) + 1).toNat < n - (k : Int).toNat; omega⟩
    · obtain rfl : k = n := by omega
      go_wp2
      go_ret
      exact ⟨_, rfl, HR.out, Drew.mk _ _⟩
set_option maxRecDepth 100000 in
set_option maxHeartbeats 2000000 in
theorem moreI (a b : Option Addr) (n m cap capb : Nat) (za zb : List Nat) (w : World) (ha : FRow w a n za) (hb : FRow w b m zb) (hn : n ≤ 1048576) (hm : m ≤ 1048576) :
    Calls Try.prog 27 #[.slice a n cap, .slice b m capb] w fun e w' => ∃ r, e = .returned (.tuple #[.float .f32 r, .bool (okX za zb n m)]) ∧ cls .f32 r = ansV (okX za zb n m) (moreV za zb n) ∧ Below w.heap.size w w' := by
  have HA := Lib.hid (ha.alloc (.cells #[.slice b m capb] 23))
  have HB := Lib.hid (hb.alloc (.cells #[.slice b m capb] 23))
  have HW : Hid (Below w.heap.size w (w.alloc (.cells #[.slice b m capb] 23))) := Lib.hid ((Below.refl _ _).alloc (Nat.le_refl _) _)
  have hmf : ∀ (fn : Fn) (first cap : Array Value) (w : World), (Instr.makeFunc fn first cap).run Try.prog w = .ok (.func fn first cap) w := fun _ _ _ _ => rfl
  have hcl : (w.alloc (.cells #[.slice b m capb] 23)).cell? ⟨w.heap.size, 0, none⟩ = some (.slice b m capb) := by
    rw [World.cell?_alloc_at _ _ _ _ rfl]; rfl
  clear ha hb
  cases h1 : okX za zb n m with
  | false =>
    have HR := Lib.hid h1
    go_enter Try.func27, Try.ntmps27
    go_wp2_with (first | (go_at_call 67; refine (can_impl _ _ _ _ _ _ za zb _ HA.out HB.out hn hm).mono ?_; rintro e w' ⟨rfl, q1, rfl⟩) | go_in)
    go_ret2
    exact ⟨0, rfl, rfl, Below.drewN' HW.out _⟩
  | true =>
    have HR := Lib.hid h1
    have h2 := h1
    unfold okX at h2
    rw [Bool.and_eq_true] at h2
    obtain ⟨rfl, hn32, hca, hcb, _, _⟩ := two_out h2.1
    have HCA := Lib.hid hca
    have HCB := Lib.hid hcb
    have HCV := Lib.hid h2.2
    clear hca hcb h2
    go_enter Try.func27, Try.ntmps27
    go_wp2_with (first | (go_at_call 67; refine (can_impl _ _ _ _ _ _ za zb _ HA.out HB.out hn hm).mono ?_; rintro e w' ⟨rfl, q1, rfl⟩) | (go_at_call 68; refine (tmore _ b n _ capb za zb _ _ (HA.out.drewN _) (HB.out.drewN _) hcl HCA.out HCB.out hn32).mono ?_; rintro e w' ⟨r, rfl, hr, n2, rfl⟩; have Hr := Lib.hid hr; clear hr) | go_in)
    go_ret2
    exact ⟨_, rfl, by rw [Hr.out]; rfl, Below.drewN' HW.out _⟩
end Go.Proofs.Ytkllihdfafomnaa
