/- Entropies of lists that need not be rows; SpreadOf. -/
import Derived.Test.YtkllihdfafomnaaMix
namespace Go.Proofs.Ytkllihdfafomnaa
open Go.Proofs.Ytkllihdfafomnaa.Flo Go.RowKit

/-- Numbers of at least 0, at most 16. -/
def Nice (zs : List Nat) (n : Nat) : Prop := ∀ k, k < n → ∃ s m i, (FloatKind.f32).decode (zs.getD k 0) = .number s m i ∧ (s = false ∨ m = 0) ∧ VLe .f32 4 (cls .f32 (zs.getD k 0))
theorem nice_ch {zs : List Nat} {n : Nat} (h : chS zs n = true) : Nice zs n := fun k hk => by
  obtain ⟨s, m, i, hd, hs, hl⟩ := ch_each h hk
  exact ⟨s, m, i, hd, hs, hl.mono (by decide)⟩
theorem entV_leN {zs : List Nat} {n : Nat} (h : Nice zs n) (hn : n ≤ 32) : VLe .f32 82 (entV zs n) := by
  have hT : ∀ k, k < n → zeroB (zs.getD k 0) = false → VLe .f32 48 (entT zs k) := fun k hk hz => by
    obtain ⟨s, m, i, hd, hs, hle⟩ := h k hk
    rcases num_order _ hd hs with ⟨_, h1⟩ | ⟨rfl, h0, _⟩
    · unfold zeroB at hz; rw [h1] at hz; cases hz
    · exact vmul_le hle (bitsV_le hd h0) ⟨by decide, by decide⟩
  have hS := vterms_le (zs := zs) (n := n) (by decide : (0:Int) ≤ 48) (by omega) hT n (Nat.le_refl _)
  exact (vsub_le le_032 hS ⟨by omega, by omega⟩).mono (by omega)
theorem half_le : VLe .f32 0 (cls .f32 1056964608) := by
  rw [show cls .f32 1056964608 = some 1056964608 by decide +kernel]
  exact ⟨_, rfl, by rw [show (FloatKind.f32).decode 1056964608 = .number false (2 ^ 23) (-24) by decide +kernel]; exact leN_of 24 (by decide) (by decide) (by decide)⟩
/-- The mixture of two rows with one half. -/
theorem mix_nice {za zb : List Nat} {n : Nat} (hca : chS za n = true) (hcb : chS zb n = true) : Nice (mixL 1056964608 za zb n) n := by
  intro k hk
  obtain ⟨s1, m1, i1, hd1, hs1, hl1⟩ := ch_each hca hk
  obtain ⟨s2, m2, i2, hd2, hs2, hl2⟩ := ch_each hcb hk
  obtain ⟨p1, p2, p3, e1, e2, e3, e4, hl⟩ := mix_ops half_le hl1 hl2
  rw [mixL_get _ _ _ hk]
  have hp1 : p1 = 1056964608 := by
    have : floatBits .sub .f32 1065353216 1056964608 = some 1056964608 := by decide +kernel
    rw [this] at e1; injection e1 with e1; exact e1.symm
  subst hp1
  have dh : (FloatKind.f32).decode 1056964608 = .number false (2 ^ 23) (-24) := by decide +kernel
  have pos : ∀ {x p : Nat} {s : Bool} {m : Nat} {i : Int}, (FloatKind.f32).decode x = .number s m i → (s = false ∨ m = 0) → floatBits .mul .f32 1056964608 x = some p → PosD ((FloatKind.f32).decode p) := by
    intro x p s m i hd hs he
    have : floatBits .mul .f32 1056964608 x = some ((FloatKind.f32).format.write (.number (false ^^ s) (2 ^ 23 * m) (-24 + i))) := by
      show ((((FloatKind.f32).decode 1056964608).product ((FloatKind.f32).decode x)).map (FloatKind.f32).format.write) = _
      rw [dh, hd]; rfl
    rw [this] at he
    injection he with he
    rw [← he]
    refine write_pos .f32 (r := .number _ _ _) ?_
    rcases hs with rfl | rfl
    · exact .inl rfl
    · exact .inr (Nat.mul_zero _)
  have q2 := pos hd1 hs1 e2
  have q3 := pos hd2 hs2 e3
  obtain ⟨r, hr, hrp⟩ := sum_pos q2 q3
  have e4' : floatBits .add .f32 p2 p3 = some ((FloatKind.f32).format.write r) := by
    show ((((FloatKind.f32).decode p2).sum ((FloatKind.f32).decode p3)).map (FloatKind.f32).format.write) = _
    rw [hr]; rfl
  rw [e4'] at e4
  injection e4 with e4
  have hp := write_pos .f32 hrp
  rw [e4] at hp
  obtain ⟨b, hb, hbl⟩ := hl
  obtain ⟨rfl, _⟩ := cls_some hb
  cases hd : (FloatKind.f32).decode (mixN 1056964608 (za.getD k 0) (zb.getD k 0)) with
  | nan => rw [hd] at hp; exact hp.elim
  | infinity => rw [hd] at hbl; exact hbl.elim
  | number s m i =>
    rw [hd] at hp
    exact ⟨s, m, i, rfl, hp, ⟨_, hb, hbl⟩⟩
set_option maxRecDepth 100000 in
set_option maxHeartbeats 2000000 in
theorem ent_specN (a : Option Addr) (n cap : Nat) (zs : List Nat) (w : World) (ha : FRow w a n zs) (hc : Nice zs n) (hn : n ≤ 64) :
    Calls Try.prog 71 #[.slice a n cap] w fun e w' => ∃ r, e = .returned (.float .f32 r) ∧ cls .f32 r = entV zs n ∧ Drew w w' := by
  have HA := Lib.hid ha
  have HC := Lib.hid hc
  clear ha hc
  go_enter Try.func71, Try.ntmps71
  go_wp2
  go_loopw [3, 4] (fun sv iv w' => ∃ k q r : Nat, k ≤ n ∧ sv = .float .f32 r ∧ Hid (cls .f32 r = vterms zs (entT zs) k) ∧ iv = .int .i64 k ∧ w' = w.drewN q) (fun _ iv _ => n - (intOf iv).toNat)
  case atStart => exact ⟨0, 0, 0, by omega, rfl, Lib.hid rfl, rfl, rfl⟩
  case round =>
    obtain ⟨k, q, r, hk, rfl, HR, rfl, rfl⟩ := hrel
    by_cases hlt : k < n
    · obtain ⟨b1, o1, rfl, hck1⟩ := HA.out.cell hlt
      obtain ⟨s, m, i, hd, hs, _⟩ := HC.out k hlt
      rcases num_order _ hd hs with ⟨_, ho⟩ | ⟨_, _, ho⟩
      · have HS : Hid (vterms zs (entT zs) (k + 1) = vterms zs (entT zs) k) := Lib.hid (by show (if _ then _ else _) = _; rw [if_pos (by unfold zeroB; rw [ho]; rfl)])
        have hg : ((FloatKind.f32).format.order (zs.getD k 0) 0 == some .gt) = false := by rw [ho]; rfl
        clear hd hs ho
        generalize zs.getD k 0 = x at hck1 hg
        clear HA
        go_wp2
        exact ⟨⟨k + 1, _, _, by omega, rfl, Lib.hid (HR.out.trans HS.out.symm), by first | rfl | go_num | (congr 1), rfl⟩, by show n - ((k : Int) + 1).toNat < n - (k : Int).toNat; omega⟩
      · have HS : Hid (∀ {l : Nat} {w2 w3 : World}, cls .f32 l = bitsV (zs.getD k 0) → cls .f32 (fres .add .f32 r (fres .mul .f32 (zs.getD k 0) l w2) w3) = vterms zs (entT zs) (k + 1)) := Lib.hid (fun hl => by
          show _ = (if _ then _ else _)
          rw [if_neg (by unfold zeroB; rw [ho]; decide), fres_cls, fres_cls, HR.out, hl]; rfl)
        have hg : ((FloatKind.f32).format.order (zs.getD k 0) 0 == some .gt) = true := by rw [ho]; rfl
        clear hd hs ho
        generalize zs.getD k 0 = x at hck1 hg HS
        clear HA
        go_wp2
        go_region_with (go_at_call 65; refine (bits_spec x _).mono ?_; rintro e w' ⟨l, rfl, hl, n2, rfl⟩; have HL := Lib.hid hl; clear hl)
        all_goals
          go_wp2
          exact ⟨⟨k + 1, _, _, by omega, rfl, Lib.hid (HS.out HL.out), by first | rfl | go_num | (congr 1), rfl⟩, by show n - ((k : Int) + 1).toNat < n - (k : Int).toNat; omega⟩
    · obtain rfl : k = n := by omega
      go_wp2
      go_ret
      exact ⟨_, rfl, by rw [fres_cls, HR.out]; rfl, Drew.mk _ _⟩
set_option maxHeartbeats 1000000 in
theorem terms_entN (a : Option Addr) (n cap : Nat) (zs : List Nat) (w : World) (ha : FRow w a n zs) (hc : Nice zs n) (hn : n ≤ 64) :
    Calls Try.prog 68 #[.slice a n cap, .func (.func 107) #[] #[]] w fun e w' => ∃ r, e = .returned (.float .f32 r) ∧ cls .f32 r = vterms zs (entT zs) n ∧ Drew w w' := by
  have HA := Lib.hid ha
  have HC := Lib.hid hc
  clear ha hc
  go_enter Try.func68, Try.ntmps68
  go_wp2
  go_loopw [5, 10] (fun sv iv w' => ∃ k q r : Nat, k ≤ n ∧ sv = .float .f32 r ∧ Hid (cls .f32 r = vterms zs (entT zs) k) ∧ iv = .int .i64 k ∧ w' = w.drewN q) (fun _ iv _ => n - (intOf iv).toNat)
  case atStart => exact ⟨0, 0, 0, by omega, rfl, Lib.hid rfl, rfl, rfl⟩
  case round =>
    obtain ⟨k, q, r, hk, rfl, HR, rfl, rfl⟩ := hrel
    by_cases hlt : k < n
    · obtain ⟨b1, o1, rfl, hck1⟩ := HA.out.cell hlt
      obtain ⟨s, m, i, hd, hs, _⟩ := HC.out k hlt
      have HX : Hid ((FloatKind.f32).decode (zs.getD k 0) = .infinity false → zs.getD k 0 = 2139095040) := Lib.hid (by rw [hd]; intro h; cases h)
      rcases num_order _ hd hs with ⟨_, ho⟩ | ⟨_, _, ho⟩
      · have HS : Hid (vterms zs (entT zs) (k + 1) = vterms zs (entT zs) k) := Lib.hid (by show (if _ then _ else _) = _; rw [if_pos (by unfold zeroB; rw [ho]; rfl)])
        clear hd hs
        generalize zs.getD k 0 = x at hck1 ho HX
        clear HA
        go_wp2
        exact ⟨⟨k + 1, _, _, by omega, rfl, Lib.hid (HR.out.trans HS.out.symm), by first | rfl | go_num | (congr 1), rfl⟩, by show n - ((k : Int) + 1).toNat < n - (k : Int).toNat; omega⟩
      · have HS : Hid (∀ {l : Nat} {w3 : World}, cls .f32 l = vop .mul .f32 (cls .f32 (zs.getD k 0)) (bitsV (zs.getD k 0)) → cls .f32 (fres .add .f32 r l w3) = vterms zs (entT zs) (k + 1)) := Lib.hid (fun hl => by
          show _ = (if _ then _ else _)
          rw [if_neg (by unfold zeroB; rw [ho]; decide), fres_cls, HR.out, hl]; rfl)
        clear hd hs
        generalize zs.getD k 0 = x at hck1 ho HS HX
        clear HA
        go_wp2_with (first | (go_at_call 107; refine (ent1_impl _ x HX.out _).mono ?_; rintro e w' ⟨l, rfl, hl, n2, rfl⟩; have HL := Lib.hid hl; clear hl) | go_in)
        exact ⟨⟨k + 1, _, _, by omega, rfl, Lib.hid (HS.out HL.out), by first | rfl | go_num | (congr 1), rfl⟩, by show n - ((k : Int) + 1).toNat < n - (k : Int).toNat; omega⟩
    · obtain rfl : k = n := by omega
      go_wp2
      go_ret
      exact ⟨_, rfl, HR.out, Drew.mk _ _⟩
set_option maxHeartbeats 1000000 in
theorem ent_implN (a : Option Addr) (n cap : Nat) (zs : List Nat) (w : World) (ha : FRow w a n zs) (hc : Nice zs n) (hn : n ≤ 64) :
    Calls Try.prog 74 #[.slice a n cap] w fun e w' => ∃ r, e = .returned (.float .f32 r) ∧ cls .f32 r = entV zs n ∧ Drew w w' := by
  have HA := Lib.hid ha
  have HC := Lib.hid hc
  have hmf : ∀ (fn : Fn) (first cap : Array Value) (w : World), (Instr.makeFunc fn first cap).run Try.prog w = .ok (.func fn first cap) w := fun _ _ _ _ => rfl
  clear ha hc
  go_enter Try.func74, Try.ntmps74
  go_wp2_with (first | (go_at_call 68; refine (terms_entN _ _ _ zs _ HA.out HC.out hn).mono ?_; rintro e w' ⟨r, rfl, hr, n2, rfl⟩; have HR := Lib.hid hr; clear hr) | go_in)
  go_ret
  exact ⟨_, rfl, by rw [fres_cls, HR.out]; rfl, Drew.mk _ _⟩
/-- What SpreadOf tells. -/
def spreadV (za zb : List Nat) (n : Nat) : Option Nat := vop .sub .f32 (entV (mixL 1056964608 za zb n) n) (vop .mul .f32 (some 1056964608) (vop .add .f32 (entV za n) (entV zb n)))
theorem spread_le {za zb : List Nat} {n : Nat} (hca : chS za n = true) (hcb : chS zb n = true) (hn : n ≤ 32) : VLe .f32 127 (spreadV za zb n) := by
  have h1 := entV_leN (mix_nice hca hcb) hn
  have h2 := entV_leN (nice_ch hca) hn
  have h3 := entV_leN (nice_ch hcb) hn
  have h4 := vadd_le h2 h3 (show Norm .f32 (max 82 82 + 1) from ⟨by decide, by decide⟩)
  have hh : VLe .f32 0 (some 1056964608) := by have := half_le; rw [show cls .f32 1056964608 = some 1056964608 by decide +kernel] at this; exact this
  have h5 := vmul_le hh h4 (show Norm .f32 (0 + (max 82 82 + 1)) from ⟨by decide, by decide⟩)
  exact (vsub_le h1 h5 ⟨by decide, by decide⟩).mono (by decide)
theorem add_cls {x y : Nat} {a b : Option Nat} (hx : cls .f32 x = a) (hy : cls .f32 y = b) (w : World) : cls .f32 (fres .add .f32 x y w) = vop .add .f32 a b := by rw [fres_cls, hx, hy]
theorem sub_cls {x y : Nat} {a b : Option Nat} (hx : cls .f32 x = a) (hy : cls .f32 y = b) (w : World) : cls .f32 (fres .sub .f32 x y w) = vop .sub .f32 a b := by rw [fres_cls, hx, hy]
end Go.Proofs.Ytkllihdfafomnaa
