/- CrossEntropy: its terms, the walks, the law. -/
import Derived.Test.YtmklgnjacbcfeaaCrs
namespace Go.Proofs.Ytmklgnjacbcfeaa
open Go.Proofs.Ytmklgnjacbcfeaa.Flo Go.RowKit

theorem cov_at {za zb : List Nat} {n : Nat} (h : covB za zb n = true) {k : Nat} (hk : k < n) (hz : zeroB (za.getD k 0) = false) : zeroB (zb.getD k 0) = false := by
  unfold covB at h
  have := of_decide_eq_true h k hk
  rw [hz, Bool.false_or] at this
  simpa using this
/-- A chance that is not 0: its bits are a number. -/
theorem ch_bits {zs : List Nat} {n : Nat} (h : chS zs n = true) {k : Nat} (hk : k < n) (hz : zeroB (zs.getD k 0) = false) : VLe .f32 44 (bitsV (zs.getD k 0)) := by
  obtain ⟨s, m, i, hd, hs, _⟩ := ch_each h hk
  rcases num_order _ hd hs with ⟨_, h1⟩ | ⟨rfl, h0, _⟩
  · unfold zeroB at hz; rw [h1] at hz; cases hz
  · exact bitsV_le hd h0
theorem ch_inf {zs : List Nat} {n : Nat} (h : chS zs n = true) {k : Nat} (hk : k < n) : (FloatKind.f32).decode (zs.getD k 0) = .infinity false → zs.getD k 0 = 2139095040 := by
  obtain ⟨s, m, i, hd, _⟩ := ch_each h hk
  rw [hd]; intro e; cases e
theorem ch_le {zs : List Nat} {n : Nat} (h : chS zs n = true) {k : Nat} (hk : k < n) : VLe .f32 1 (cls .f32 (zs.getD k 0)) := by
  obtain ⟨_, _, _, _, _, h⟩ := ch_each h hk; exact h
/-- What is returned: 0 where it fails. -/
def ansV (b : Bool) (v : Option Nat) : Option Nat := if b then v else cls .f32 0
theorem ret_fb {r : Nat} {b c : Bool} (h : b = c) : Ending.returned (.tuple #[.float .f32 r, .bool b]) = .returned (.tuple #[.float .f32 r, .bool c]) := by rw [h]
theorem le_032 : VLe .f32 0 (cls .f32 0) := ⟨0, cls_032, by rw [dec_032]; exact leN_of_log (.inl rfl)⟩

/-- A term of a cross entropy. -/
def crossT (za zb : List Nat) (k : Nat) : Option Nat := vop .mul .f32 (cls .f32 (za.getD k 0)) (bitsV (zb.getD k 0))
def crossV (za zb : List Nat) (n : Nat) : Option Nat := vop .sub .f32 (cls .f32 0) (vterms za (crossT za zb) n)
theorem crossV_le {za zb : List Nat} {n : Nat} (hca : chS za n = true) (hcb : chS zb n = true) (hcv : covB za zb n = true) (hn : n ≤ 32) : VLe .f32 127 (crossV za zb n) := by
  have hT : ∀ k, k < n → zeroB (za.getD k 0) = false → VLe .f32 45 (crossT za zb k) := fun k hk hz =>
    vmul_le (ch_le hca hk) (ch_bits hcb hk (cov_at hcv hk hz)) ⟨by decide, by decide⟩
  have hS := vterms_le (zs := za) (n := n) (by decide : (0:Int) ≤ 45) (by omega) hT n (Nat.le_refl _)
  exact (vsub_le le_032 hS ⟨by omega, by omega⟩).mono (by omega)
def okX (za zb : List Nat) (n m : Nat) : Bool := twoB za zb n m && covB za zb n
set_option maxHeartbeats 2000000 in
theorem can_impl (a b : Option Addr) (n m cap capb : Nat) (za zb : List Nat) (w : World) (ha : FRow w a n za) (hb : FRow w b m zb) (hn : n ≤ 1048576) (hm : m ≤ 1048576) :
    Calls Try.prog 80 #[.slice a n cap, .slice b m capb] w fun e w' => e = .returned (.bool (okX za zb n m)) ∧ Drew w w' := by
  have HA := Lib.hid ha
  have HB := Lib.hid hb
  clear ha hb
  cases h1 : twoB za zb n m with
  | false =>
    have HR : Hid (okX za zb n m = false) := Lib.hid (by unfold okX; rw [h1]; rfl)
    go_enter Try.func80, Try.ntmps80
    go_wp2_with (first | (go_at_call 75; refine (two_impl _ _ _ _ _ _ za zb _ HA.out HB.out hn hm).mono ?_; rintro e w' ⟨rfl, q1, rfl⟩) | go_in)
    go_ret
    exact ⟨ret_bool2 HR.out.symm, Drew.mk _ _⟩
  | true =>
    have HT := Lib.hid h1
    obtain ⟨rfl, hn32, hca, hcb, _, _⟩ := two_out h1
    have HC := Lib.hid hca
    have HCB := Lib.hid hcb
    have HR : Hid (okX za zb n n = covB za zb n) := Lib.hid (by unfold okX; rw [h1]; rfl)
    clear hca hcb
    go_enter Try.func80, Try.ntmps80
    go_wp2_with (first | (go_at_call 75; refine (two_impl _ _ _ _ _ _ za zb _ HA.out HB.out hn hm).mono ?_; rintro e w' ⟨rfl, q1, rfl⟩) | go_in)
    go_loopw [13] (fun iv w' => ∃ k q : Nat, k ≤ n ∧ Hid (∀ j, j < k → (zeroB (za.getD j 0) || !zeroB (zb.getD j 0)) = true) ∧ iv = .int .i64 k ∧ w' = w.drewN q) (fun iv _ => n - (intOf iv).toNat)
    case atStart => exact ⟨0, _, by omega, Lib.hid (by intro j hj; omega), rfl, rfl⟩
    case round =>
      obtain ⟨k, q, hk, HL, rfl, rfl⟩ := hrel
      by_cases hlt : k < n
      · obtain ⟨b1, o1, rfl, hck1⟩ := HA.out.cell hlt
        obtain ⟨b2, o2, rfl, hck2⟩ := HB.out.cell hlt
        obtain ⟨s, mm, i, hd, hs, _⟩ := ch_each HC.out hlt
        obtain ⟨s2, mm2, i2, hd2, hs2, _⟩ := ch_each HCB.out hlt
        rcases num_order _ hd hs with ⟨_, ho⟩ | ⟨_, _, ho⟩
        · have HZ : Hid ((zeroB (za.getD k 0) || !zeroB (zb.getD k 0)) = true) := Lib.hid (by unfold zeroB; rw [ho]; rfl)
          clear h1 hd hs hd2 hs2
          generalize hx : za.getD k 0 = x at hck1 ho
          generalize hy : zb.getD k 0 = y at hck2
          go_wp2
          exact ⟨⟨k + 1, _, by omega, Lib.hid (fun j hj => by by_cases e : j = k; exact e ▸ HZ.out; exact HL.out j (by omega)), by first | rfl | go_num | (congr 1), rfl⟩, by show n - ((k : Int) + 1).toNat < n - (k : Int).toNat; omega⟩
        · rcases num_order _ hd2 hs2 with ⟨_, hz⟩ | ⟨_, _, hz⟩
          · have HZ : Hid ((zeroB (za.getD k 0) || !zeroB (zb.getD k 0)) = false) := Lib.hid (by unfold zeroB; rw [ho, hz]; rfl)
            clear h1 hd hs hd2 hs2
            generalize hx : za.getD k 0 = x at hck1 ho
            generalize hy : zb.getD k 0 = y at hck2 hz
            go_wp2
            go_ret
            exact ⟨ret_bool2 (HR.out.trans (notAll hlt HZ.out)).symm, Drew.mk _ _⟩
          · have HZ : Hid ((zeroB (za.getD k 0) || !zeroB (zb.getD k 0)) = true) := Lib.hid (by unfold zeroB; rw [hz]; simp)
            clear h1 hd hs hd2 hs2
            generalize hx : za.getD k 0 = x at hck1 ho
            generalize hy : zb.getD k 0 = y at hck2 hz
            go_wp2
            exact ⟨⟨k + 1, _, by omega, Lib.hid (fun j hj => by by_cases e : j = k; exact e ▸ HZ.out; exact HL.out j (by omega)), by first | rfl | go_num | (congr 1), rfl⟩, by show n - ((k : Int) + 1).toNat < n - (k : Int).toNat; omega⟩
      · obtain rfl : k = n := by omega
        go_wp2
        go_ret
        exact ⟨ret_bool2 (HR.out.trans (isAll HL.out)).symm, Drew.mk _ _⟩
set_option maxRecDepth 100000 in
set_option maxHeartbeats 2000000 in
theorem crossS (a b : Option Addr) (n m cap capb : Nat) (za zb : List Nat) (w : World) (ha : FRow w a n za) (hb : FRow w b m zb) (hn : n ≤ 1048576) (hm : m ≤ 1048576) :
    Calls Try.prog 47 #[.slice a n cap, .slice b m capb] w fun e w' => ∃ r, e = .returned (.tuple #[.float .f32 r, .bool (okX za zb n m)]) ∧ cls .f32 r = ansV (okX za zb n m) (crossV za zb n) ∧ Drew w w' := by
  have HA := Lib.hid ha
  have HB := Lib.hid hb
  clear ha hb
  cases h1 : twoB za zb n m with
  | false =>
    have HR : Hid (okX za zb n m = false) := Lib.hid (by unfold okX; rw [h1]; rfl)
    go_enter Try.func47, Try.ntmps47
    go_wp2_with (first | (go_at_call 73; refine (two_spec _ _ _ _ _ _ za zb _ HA.out HB.out hn hm).mono ?_; rintro e w' ⟨rfl, q1, rfl⟩) | go_in)
    go_ret2
    exact ⟨0, ret_fb HR.out.symm, by rw [HR.out]; rfl, Drew.mk _ _⟩
  | true =>
    obtain ⟨rfl, hn32, hca, hcb, _, _⟩ := two_out h1
    have HCA := Lib.hid hca
    have HCB := Lib.hid hcb
    clear hca hcb
    cases h2 : covB za zb n with
    | false =>
      have HR : Hid (okX za zb n n = false) := Lib.hid (by unfold okX; rw [h1, h2]; rfl)
      go_enter Try.func47, Try.ntmps47
      go_wp2_with (first | (go_at_call 73; refine (two_spec _ _ _ _ _ _ za zb _ HA.out HB.out hn hm).mono ?_; rintro e w' ⟨rfl, q1, rfl⟩) | (go_at_call 79; refine (cov_spec _ _ _ _ _ za zb _ (HA.out.drewN _) (HB.out.drewN _) HCA.out hn32).mono ?_; rintro e w' ⟨rfl, q2, rfl⟩) | go_in)
      go_ret2
      exact ⟨0, ret_fb HR.out.symm, by rw [HR.out]; rfl, Drew.mk _ _⟩
    | true =>
      have HR : Hid (okX za zb n n = true) := Lib.hid (by unfold okX; rw [h1, h2]; rfl)
      have HCV := Lib.hid h2
      have HLE := Lib.hid (crossV_le HCA.out HCB.out h2 hn32)
      go_enter Try.func47, Try.ntmps47
      go_wp2_with (first | (go_at_call 73; refine (two_spec _ _ _ _ _ _ za zb _ HA.out HB.out hn hm).mono ?_; rintro e w' ⟨rfl, q1, rfl⟩) | (go_at_call 79; refine (cov_spec _ _ _ _ _ za zb _ (HA.out.drewN _) (HB.out.drewN _) HCA.out hn32).mono ?_; rintro e w' ⟨rfl, q2, rfl⟩) | go_in)
      clear h1 h2
      go_loopw [6, 7] (fun sv iv w' => ∃ k q r : Nat, k ≤ n ∧ sv = .float .f32 r ∧ Hid (cls .f32 r = vterms za (crossT za zb) k) ∧ iv = .int .i64 k ∧ w' = w.drewN q) (fun _ iv _ => n - (intOf iv).toNat)
      case atStart => exact ⟨0, _, 0, by omega, rfl, Lib.hid rfl, rfl, rfl⟩
      case round =>
        obtain ⟨k, q, r, hk, rfl, HS0, rfl, rfl⟩ := hrel
        by_cases hlt : k < n
        · obtain ⟨b1, o1, rfl, hck1⟩ := HA.out.cell hlt
          obtain ⟨b2, o2, rfl, hck2⟩ := HB.out.cell hlt
          obtain ⟨s, mm, i, hd, hs, _⟩ := ch_each HCA.out hlt
          rcases num_order _ hd hs with ⟨_, ho⟩ | ⟨_, _, ho⟩
          · have HS : Hid (vterms za (crossT za zb) (k + 1) = vterms za (crossT za zb) k) := Lib.hid (by show (if _ then _ else _) = _; rw [if_pos (by unfold zeroB; rw [ho]; rfl)])
            have hg : ((FloatKind.f32).format.order (za.getD k 0) 0 == some .gt) = false := by rw [ho]; rfl
            clear hd hs ho
            generalize za.getD k 0 = x at hck1 hg
            generalize zb.getD k 0 = y at hck2
            clear HA HB
            go_wp2
            exact ⟨⟨k + 1, _, _, by omega, rfl, Lib.hid (HS0.out.trans HS.out.symm), by first | rfl | go_num | (congr 1), rfl⟩, by show n - ((k : Int) + 1).toNat < n - (k : Int).toNat; omega⟩
          · have HS : Hid (∀ {l : Nat} {w2 w3 : World}, cls .f32 l = bitsV (zb.getD k 0) → cls .f32 (fres .add .f32 r (fres .mul .f32 (za.getD k 0) l w2) w3) = vterms za (crossT za zb) (k + 1)) := Lib.hid (fun hl => by
              show _ = (if _ then _ else _)
              rw [if_neg (by unfold zeroB; rw [ho]; decide), fres_cls, fres_cls, HS0.out, hl]; rfl)
            have hg : ((FloatKind.f32).format.order (za.getD k 0) 0 == some .gt) = true := by rw [ho]; rfl
            clear hd hs ho
            generalize za.getD k 0 = x at hck1 hg HS
            generalize zb.getD k 0 = y at hck2 HS
            clear HA HB
            go_wp2
            go_region_with (go_at_call 65; refine (bits_spec y _).mono ?_; rintro e w' ⟨l, rfl, hl, n2, rfl⟩; have HL := Lib.hid hl; clear hl)
            all_goals
              go_wp2
              exact ⟨⟨k + 1, _, _, by omega, rfl, Lib.hid (HS.out HL.out), by first | rfl | go_num | (congr 1), rfl⟩, by show n - ((k : Int) + 1).toNat < n - (k : Int).toNat; omega⟩
        · obtain rfl : k = n := by omega
          have HF : Hid (∀ w, cls .f32 (fres .sub .f32 0 r w) = crossV za zb k) := Lib.hid (fun w => by rw [fres_cls, HS0.out]; rfl)
          go_wp2_with (first | (go_at_call 64; refine (number_spec _ (le_fin HLE.out (HF.out _)) _).mono ?_; rintro e w' ⟨rfl, q3, rfl⟩) | go_in)
          go_ret2
          exact ⟨_, ret_fb HR.out.symm, by rw [HR.out]; exact HF.out _, Drew.mk _ _⟩
set_option maxRecDepth 100000 in
set_option maxHeartbeats 1000000 in
theorem tcross1 (k x : Nat) (b : Option Addr) (n capb : Nat) (za zb : List Nat) (p : Nat) (w : World) (hx : x = za.getD k 0) (_hz : zeroB (za.getD k 0) = false) (hk : k < n) (hb : FRow w b n zb) (hp : w.cell? ⟨p, 0, none⟩ = some (.slice b n capb)) (_hca : chS za n = true) (hcb : chS zb n = true) (_hn : n ≤ 32) :
    Calls Try.prog 82 #[.int .i64 k, .float .f32 x, .pointer (some ⟨p, 0, none⟩)] w fun e w' => ∃ r, e = .returned (.float .f32 r) ∧ cls .f32 r = crossT za zb k ∧ Drew w w' := by
  have HX := Lib.hid (ch_inf hcb hk)
  have HT : Hid (crossT za zb k = vop .mul .f32 (cls .f32 x) (bitsV (zb.getD k 0))) := Lib.hid (by rw [hx]; rfl)
  obtain ⟨b2, o2, rfl, hck2⟩ := hb.cell hk
  clear hx hcb hb
  generalize zb.getD k 0 = y at hck2 HX HT
  go_enter Try.func82, Try.ntmps82
  go_wp2_with (first | (go_at_call 66; refine (bits_impl y HX.out _).mono ?_; rintro e w' ⟨r, rfl, hr, n2, rfl⟩; have Hr := Lib.hid hr; clear hr) | go_in)
  go_ret
  exact ⟨_, rfl, by rw [fres_cls, Hr.out, HT.out], Drew.mk _ _⟩
set_option maxRecDepth 100000 in
set_option maxHeartbeats 2000000 in
theorem tcross (a b : Option Addr) (n cap capb : Nat) (za zb : List Nat) (p : Nat) (w : World) (ha : FRow w a n za) (hb : FRow w b n zb) (hp : w.cell? ⟨p, 0, none⟩ = some (.slice b n capb)) (hca : chS za n = true) (hcb : chS zb n = true) (hn : n ≤ 32) :
    Calls Try.prog 81 #[.slice a n cap, .func (.func 82) #[] #[.pointer (some ⟨p, 0, none⟩)]] w fun e w' => ∃ r, e = .returned (.float .f32 r) ∧ cls .f32 r = vterms za (crossT za zb) n ∧ Drew w w' := by
  have HA := Lib.hid ha
  have HB := Lib.hid hb
  have HCA := Lib.hid hca
  have HCB := Lib.hid hcb
  clear ha hb hca hcb
  go_enter Try.func81, Try.ntmps81
  go_wp2
  go_loopw [5, 10] (fun sv iv w' => ∃ k q r : Nat, k ≤ n ∧ sv = .float .f32 r ∧ Hid (cls .f32 r = vterms za (crossT za zb) k) ∧ iv = .int .i64 k ∧ w' = w.drewN q) (fun _ iv _ => n - (intOf iv).toNat)
  case atStart => exact ⟨0, 0, 0, by omega, rfl, Lib.hid rfl, rfl, rfl⟩
  case round =>
    obtain ⟨k, q, r, hk, rfl, HR, rfl, rfl⟩ := hrel
    by_cases hlt : k < n
    · obtain ⟨b1, o1, rfl, hck1⟩ := HA.out.cell hlt
      obtain ⟨s, mm, i, hd, hs, _⟩ := ch_each HCA.out hlt
      rcases num_order _ hd hs with ⟨_, ho⟩ | ⟨_, _, ho⟩
      · have HS : Hid (vterms za (crossT za zb) (k + 1) = vterms za (crossT za zb) k) := Lib.hid (by show (if _ then _ else _) = _; rw [if_pos (by unfold zeroB; rw [ho]; rfl)])
        clear hd hs
        generalize za.getD k 0 = x at hck1 ho
        clear HA
        go_wp2
        exact ⟨⟨k + 1, _, _, by omega, rfl, Lib.hid (HR.out.trans HS.out.symm), by first | rfl | go_num | (congr 1), rfl⟩, by show n - ((k : Int) + 1).toNat < n - (k : Int).toNat; omega⟩
      · have HZ : Hid (zeroB (za.getD k 0) = false) := Lib.hid (by unfold zeroB; rw [ho]; rfl)
        have HS : Hid (∀ {l : Nat} {w3 : World}, cls .f32 l = crossT za zb k → cls .f32 (fres .add .f32 r l w3) = vterms za (crossT za zb) (k + 1)) := Lib.hid (fun hl => by
          show _ = (if _ then _ else _)
          rw [if_neg (by unfold zeroB; rw [ho]; decide), fres_cls, HR.out, hl])
        clear hd hs
        have HX := Lib.hid (rfl : za.getD k 0 = za.getD k 0)
        generalize hxx : za.getD k 0 = x at hck1 ho
        have HXX := Lib.hid hxx
        clear hxx
        go_wp2_with (first | (go_at_call 82; refine (tcross1 k x b n capb za zb p _ HXX.out.symm HZ.out hlt (HB.out.drewN _) hp HCA.out HCB.out hn).mono ?_; rintro e w' ⟨l, rfl, hl, n2, rfl⟩; have HL := Lib.hid hl; clear hl) | go_in)
        exact ⟨⟨k + 1, _, _, by omega, rfl, Lib.hid (HS.out HL.out), by first | rfl | go_num | (congr 1), rfl⟩, by show n - ((k : Int) + 1).toNat < n - (k : Int).toNat; omega⟩
    · obtain rfl : k = n := by omega
      go_wp2
      go_ret
      exact ⟨_, rfl, HR.out, Drew.mk _ _⟩
set_option maxRecDepth 100000 in
set_option maxHeartbeats 2000000 in
theorem crossI (a b : Option Addr) (n m cap capb : Nat) (za zb : List Nat) (w : World) (ha : FRow w a n za) (hb : FRow w b m zb) (hn : n ≤ 1048576) (hm : m ≤ 1048576) :
    Calls Try.prog 48 #[.slice a n cap, .slice b m capb] w fun e w' => ∃ r, e = .returned (.tuple #[.float .f32 r, .bool (okX za zb n m)]) ∧ cls .f32 r = ansV (okX za zb n m) (crossV za zb n) ∧ Below w.heap.size w w' := by
  have HA := Lib.hid (ha.alloc (.cells #[.slice b m capb] 22))
  have HB := Lib.hid (hb.alloc (.cells #[.slice b m capb] 22))
  have HW : Hid (Below w.heap.size w (w.alloc (.cells #[.slice b m capb] 22))) := Lib.hid ((Below.refl _ _).alloc (Nat.le_refl _) _)
  have hmf : ∀ (fn : Fn) (first cap : Array Value) (w : World), (Instr.makeFunc fn first cap).run Try.prog w = .ok (.func fn first cap) w := fun _ _ _ _ => rfl
  have hcl : (w.alloc (.cells #[.slice b m capb] 22)).cell? ⟨w.heap.size, 0, none⟩ = some (.slice b m capb) := by
    rw [World.cell?_alloc_at _ _ _ _ rfl]; rfl
  clear ha hb
  cases h1 : okX za zb n m with
  | false =>
    have HR := Lib.hid h1
    go_enter Try.func48, Try.ntmps48
    go_wp2_with (first | (go_at_call 80; refine (can_impl _ _ _ _ _ _ za zb _ HA.out HB.out hn hm).mono ?_; rintro e w' ⟨rfl, q1, rfl⟩) | go_in)
    go_ret2
    exact ⟨0, rfl, rfl, Below.drewN' HW.out _⟩
  | true =>
    have HR := Lib.hid h1
    have h2 := h1
    unfold okX at h2
    rw [Bool.and_eq_true] at h2
    obtain ⟨rfl, hn32, hca, hcb, _, _⟩ := two_out h2.1
    have HCA := Lib.hid hca
    have HCB := Lib.hid hcb
    have HCV := Lib.hid h2.2
    clear hca hcb h2
    go_enter Try.func48, Try.ntmps48
    go_wp2_with (first | (go_at_call 80; refine (can_impl _ _ _ _ _ _ za zb _ HA.out HB.out hn hm).mono ?_; rintro e w' ⟨rfl, q1, rfl⟩) | (go_at_call 81; refine (tcross _ b n _ capb za zb _ _ (HA.out.drewN _) (HB.out.drewN _) hcl HCA.out HCB.out hn32).mono ?_; rintro e w' ⟨r, rfl, hr, n2, rfl⟩; have Hr := Lib.hid hr; clear hr) | go_in)
    go_ret2
    exact ⟨_, rfl, by rw [fres_cls, Hr.out]; rfl, Below.drewN' HW.out _⟩
end Go.Proofs.Ytmklgnjacbcfeaa
