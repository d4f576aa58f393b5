/- Logarithms of chances, and entropies: plain facts and walks. -/
import Derived.Test.YtmklgnjacbcfeaaRww
import Derived.Test.YtmklgnjacbcfeaaFlp
namespace Go.Proofs.Ytmklgnjacbcfeaa
open Go.Proofs.Ytmklgnjacbcfeaa.Flo Go.RowKit
attribute [local go_sem] call_from64 call_bits64
attribute [local go_sem] call_from32
attribute [local go_sem] call_bits32

theorem vnarrow_le {E : Int} {a : Option Nat} (h : VLe .f64 E a) (hE : Norm .f32 E) : VLe .f32 E (vnarrow a) := by
  obtain ⟨b, rfl, hb⟩ := h
  unfold vnarrow floatToFloatBits
  simp only [Option.bind_some]
  rw [if_neg (by decide)]
  cases hd : (FloatKind.f64).decode b with
  | nan => rw [hd] at hb; exact hb.elim
  | infinity s => rw [hd] at hb; exact hb.elim
  | number s m e =>
    rw [hd] at hb
    have hw := write_le (k := .f32) (d := .number s m e) hb hE
    have hni : ((FloatKind.f32).decode ((FloatKind.f32).encode (.number s m e))).isInfinity = false := by
      unfold FloatKind.encode
      cases hx : (FloatKind.f32).decode ((FloatKind.f32).format.write (.number s m e)) with
      | number => rfl
      | infinity => rw [hx] at hw; exact hw.elim
      | nan => rfl
    simp only [hni, Bool.false_eq_true, if_false]
    exact ⟨_, rfl, hw⟩

theorem logR_le {x m : Nat} {i : Int} (h : (FloatKind.f32).decode x = .number false m i) (h0 : m ≠ 0) : VLe .f32 42 (logR x) := by
  obtain ⟨y, X, hy, hp, hlo, hhi⟩ := pos_wide h h0
  rw [logR_pos h h0 hy]
  exact vnarrow_le (logW_le hp hlo hhi) ⟨by decide, by decide⟩

def cln232 : Nat := 1060205080
theorem cls_cln232 : cls .f32 cln232 = some cln232 := by decide +kernel
theorem lo_cln232 : VL .f32 (-1) (some cln232) := ⟨_, rfl, by
  rw [show (FloatKind.f32).decode cln232 = .number false 11629080 (-24) by decide +kernel]; exact ⟨by decide, by decide⟩⟩
/-- The bits of a number. -/
def bitsV (x : Nat) : Option Nat := vop .quo .f32 (logR x) (some cln232)
theorem bitsV_le {x m : Nat} {i : Int} (h : (FloatKind.f32).decode x = .number false m i) (h0 : m ≠ 0) : VLe .f32 44 (bitsV x) :=
  (vquo_le (logR_le h h0) lo_cln232 ⟨by decide, by decide⟩).mono (by decide)
theorem bits_cls {l x : Nat} (h : cls .f32 l = logR x) (w : World) : cls .f32 (fres .quo .f32 l 1060205080 w) = bitsV x := by
  rw [fres_cls, h]
  exact congrArg _ cls_cln232

theorem le_fin {E : Int} {r : Nat} {a : Option Nat} (h : VLe .f32 E a) (hr : cls .f32 r = a) : finD ((FloatKind.f32).decode r) = true := by
  obtain ⟨b, rfl, hb⟩ := h
  obtain ⟨rfl, _⟩ := cls_some hr
  cases hd : (FloatKind.f32).decode r with
  | number => rfl
  | infinity => rw [hd] at hb; exact hb.elim
  | nan => rw [hd] at hb; exact hb.elim

/-- Equal to 0. -/
def zeroB (z : Nat) : Bool := (FloatKind.f32).format.order z 0 == some .eq
theorem num_order (z : Nat) {s : Bool} {m : Nat} {i : Int} (hd : (FloatKind.f32).decode z = .number s m i) (hs : s = false ∨ m = 0) :
    (m = 0 ∧ (FloatKind.f32).format.order z 0 = some .eq) ∨ (s = false ∧ m ≠ 0 ∧ (FloatKind.f32).format.order z 0 = some .gt) := by
  have e : (FloatKind.f32).format.order z 0 = ((FloatKind.f32).decode z).order ((FloatKind.f32).decode 0) := rfl
  by_cases h0 : m = 0
  · left
    refine ⟨h0, ?_⟩
    rw [e, hd, dec_032, order_0, h0, signed_zero]; rfl
  · right
    have hs := hs.resolve_right h0
    subst hs
    refine ⟨rfl, h0, ?_⟩
    rw [e, hd, dec_032, order_0, signed_false']
    have : 0 < m * 2 ^ (i - min i (-149)).toNat := Nat.mul_pos (by omega) (Nat.two_pow_pos _)
    generalize m * 2 ^ (i - min i (-149)).toNat = p at this
    show some (compareOfLessAndEq _ _) = _
    unfold compareOfLessAndEq
    rw [if_neg (by omega), if_neg (by omega)]

/-- The class of the sum of the first k terms: those of chances of 0 are left out. -/
def vterms (zs : List Nat) (T : Nat → Option Nat) : Nat → Option Nat
  | 0 => cls .f32 0
  | k + 1 => if zeroB (zs.getD k 0) then vterms zs T k else vop .add .f32 (vterms zs T k) (T k)
theorem vterms_le {zs : List Nat} {T : Nat → Option Nat} {E : Int} {n : Nat} (hE : 0 ≤ E) (hE2 : E + n ≤ 127) (h : ∀ k, k < n → zeroB (zs.getD k 0) = false → VLe .f32 E (T k)) : ∀ k, k ≤ n → VLe .f32 (E + k) (vterms zs T k) := by
  intro k
  induction k with
  | zero => intro _; exact ⟨0, cls_032, by rw [dec_032]; exact leN_of_log (.inl rfl)⟩
  | succ k ih =>
    intro hk
    have hi := ih (by omega)
    unfold vterms
    by_cases hz : zeroB (zs.getD k 0) = true
    · rw [if_pos hz]; exact hi.mono (by omega)
    · rw [if_neg hz]
      exact (vadd_le hi (h k (by omega) (by simpa using hz)) ⟨by omega, by omega⟩).mono (by omega)
/-- A term of an entropy. -/
def entT (zs : List Nat) (k : Nat) : Option Nat := vop .mul .f32 (cls .f32 (zs.getD k 0)) (bitsV (zs.getD k 0))
def entV (zs : List Nat) (n : Nat) : Option Nat := vop .sub .f32 (cls .f32 0) (vterms zs (entT zs) n)
theorem entV_le {zs : List Nat} {n : Nat} (h : chS zs n = true) (hn : n ≤ 64) : VLe .f32 127 (entV zs n) := by
  have hT : ∀ k, k < n → zeroB (zs.getD k 0) = false → VLe .f32 45 (entT zs k) := fun k hk hz => by
    obtain ⟨s, m, i, hd, hs, hle⟩ := ch_each h hk
    rcases num_order _ hd hs with ⟨_, h1⟩ | ⟨rfl, h0, _⟩
    · unfold zeroB at hz; rw [h1] at hz; cases hz
    · exact vmul_le hle (bitsV_le hd h0) ⟨by decide, by decide⟩
  have hS := vterms_le (zs := zs) (n := n) (by decide : (0:Int) ≤ 45) (by omega) hT n (Nat.le_refl _)
  have h0 : VLe .f32 0 (cls .f32 0) := ⟨0, cls_032, by rw [dec_032]; exact leN_of_log (.inl rfl)⟩
  exact (vsub_le h0 hS ⟨by omega, by omega⟩).mono (by omega)

set_option maxHeartbeats 1000000 in
theorem log32_spec (x : Nat) (w : World) : Calls Try.prog 88 #[.float .f32 x] w fun e w' => ∃ r, e = .returned (.float .f32 r) ∧ cls .f32 r = logR x ∧ Drew w w' := by
  have hz := fun w2 : World => (order_zero .f64 (cres .f32 x .f64 w2)).trans (wide_sgn x w2)
  cases hd : (FloatKind.f32).decode x with
  | nan s t =>
    have H := Lib.hid (logR_nan hd)
    have ho := fun w2 w3 : World => order_nan (k := .f64) (x := cres .f32 x .f64 w2) (y := cres .f32 x .f64 w3) (cls_none ((cres_wide x w2).trans (wide_nan (by rw [hd]; rfl))))
    clear hz hd
    go_enter Try.func88, Try.ntmps88
    go_wp2
    go_ret
    exact ⟨_, rfl, (narrow_eq cls_nan64' (.inl rfl) _).trans H.out.symm, Drew.mk _ _⟩
  | infinity s =>
    have hc := cres_of (wide_inf hd)
    cases s with
    | true =>
      have H := Lib.hid (logR_inf hd)
      have ho := order_self (k := .f64) (x := (FloatKind.f64).encode (.infinity true)) (by decide +kernel)
      have hz : (FloatKind.f64).format.order ((FloatKind.f64).encode (.infinity true)) 0 = some .lt := by decide +kernel
      clear hd
      generalize (FloatKind.f64).encode (.infinity true) = y at *
      go_enter Try.func88, Try.ntmps88
      go_wp2
      go_ret
      exact ⟨_, rfl, (narrow_eq cls_nan64' (.inl rfl) _).trans H.out.symm, Drew.mk _ _⟩
    | false =>
      have H := Lib.hid (logR_inf hd)
      have ho := order_self (k := .f64) (x := (FloatKind.f64).encode (.infinity false)) (by decide +kernel)
      have hz : (FloatKind.f64).format.order ((FloatKind.f64).encode (.infinity false)) 0 = some .gt := by decide +kernel
      have hm := inf_wide_max
      have hn : Hid (∀ w2 : World, cls .f32 (cres .f64 ((FloatKind.f64).encode (.infinity false)) .f32 w2) = some 2139095040) := Lib.hid fun w2 => by
        rw [show (FloatKind.f64).encode (.infinity false) = 9218868437227405312 by decide +kernel, inf32]; decide +kernel
      clear hd
      generalize (FloatKind.f64).encode (.infinity false) = y at *
      go_enter Try.func88, Try.ntmps88
      go_wp2
      go_ret
      exact ⟨_, rfl, (hn.out _).trans H.out.symm, Drew.mk _ _⟩
  | number s m i =>
    by_cases h0 : m = 0
    · subst h0
      have H := Lib.hid (logR_zero hd)
      have hc := cres_of (wide_zero hd)
      have ho := order_self (k := .f64) (x := (FloatKind.f64).format.word s 0) (by cases s <;> decide +kernel)
      have hz : (FloatKind.f64).format.order ((FloatKind.f64).format.word s 0) 0 = some .eq := by cases s <;> decide +kernel
      have hn := ninf32
      clear hd
      generalize (FloatKind.f64).format.word s 0 = y at *
      go_enter Try.func88, Try.ntmps88
      go_wp2
      go_ret
      exact ⟨_, rfl, (show cls .f32 4286578688 = some 4286578688 by decide +kernel).trans H.out.symm, Drew.mk _ _⟩
    · cases s with
      | true =>
        have H := Lib.hid (logR_neg hd h0)
        obtain ⟨y, hy, hdy⟩ := wide_num hd h0
        have hc := cres_of hy
        have ho := order_self (k := .f64) (x := y) (by rw [hdy]; rfl)
        have hz2 : (FloatKind.f64).format.order y 0 = some .lt := by
          have := hz default; rw [hc, hd, sgn_num h0] at this; exact this
        clear hd hz hy hdy
        go_enter Try.func88, Try.ntmps88
        go_wp2
        go_ret
        exact ⟨_, rfl, (narrow_eq cls_nan64' (.inl rfl) _).trans H.out.symm, Drew.mk _ _⟩
      | false =>
        obtain ⟨y, X, hy, hp, hlo, hhi⟩ := pos_wide hd h0
        have H := Lib.hid (logR_pos hd h0 hy)
        have hc := cres_of hy
        have Hp := Lib.hid hp
        have HK := Lib.hid ((logW_le hp hlo hhi).okn (by decide))
        clear hd hz hy hp
        go_enter Try.func88, Try.ntmps88
        go_wp2_with (first | (go_at_call 99; refine (log_spec' y X Hp.out hlo hhi _).mono ?_; rintro e w' ⟨r, rfl, hr, n, rfl⟩; have Hr := Lib.hid hr; clear hr) | go_in)
        go_ret
        exact ⟨_, rfl, (narrow_eq Hr.out HK.out _).trans H.out.symm, Drew.mk _ _⟩
set_option maxHeartbeats 1000000 in
theorem bits_spec (x : Nat) (w : World) : Calls Try.prog 65 #[.float .f32 x] w fun e w' => ∃ r, e = .returned (.float .f32 r) ∧ cls .f32 r = bitsV x ∧ Drew w w' := by
  go_enter Try.func65, Try.ntmps65
  go_wp2_with (first | (go_at_call 88; refine (log32_spec x _).mono ?_; rintro e w' ⟨r, rfl, hr, n, rfl⟩; have Hr := Lib.hid hr; clear hr) | go_in)
  go_ret
  exact ⟨_, rfl, bits_cls Hr.out _, Drew.mk _ _⟩
set_option maxHeartbeats 1000000 in
theorem bits_impl (x : Nat) (hx : (FloatKind.f32).decode x = .infinity false → x = 2139095040) (w : World) : Calls Try.prog 66 #[.float .f32 x] w fun e w' => ∃ r, e = .returned (.float .f32 r) ∧ cls .f32 r = bitsV x ∧ Drew w w' := by
  have HX := Lib.hid hx
  clear hx
  go_enter Try.func66, Try.ntmps66
  go_wp2_with (first | (go_at_call 89; refine (logN_impl x HX.out _).mono ?_; rintro e w' ⟨r, rfl, hr, n, rfl⟩; have Hr := Lib.hid hr; clear hr) | go_in)
  go_ret
  exact ⟨_, rfl, bits_cls Hr.out _, Drew.mk _ _⟩
set_option maxHeartbeats 1000000 in
theorem number_spec (x : Nat) (hf : finD ((FloatKind.f32).decode x) = true) (w : World) : Calls Try.prog 64 #[.float .f32 x] w fun e w' => e = .returned (.tuple #[.float .f32 x, .bool true]) ∧ Drew w w' := by
  go_enter Try.func64, Try.ntmps64
  go_wp2_with (first | (go_at_call 87; refine (finite_spec x _).mono ?_; rintro e w2 ⟨rfl, q, rfl⟩) | go_in)
  go_ret2
  exact ⟨rfl, Drew.mk _ _⟩
set_option maxRecDepth 100000 in
set_option maxHeartbeats 2000000 in
theorem ent_spec (a : Option Addr) (n cap : Nat) (zs : List Nat) (w : World) (ha : FRow w a n zs) (hc : chS zs n = true) (hn : n ≤ 64) :
    Calls Try.prog 67 #[.slice a n cap] w fun e w' => ∃ r, e = .returned (.float .f32 r) ∧ cls .f32 r = entV zs n ∧ Drew w w' := by
  have HA := Lib.hid ha
  have HC := Lib.hid hc
  clear ha hc
  go_enter Try.func67, Try.ntmps67
  go_wp2
  go_loopw [3, 4] (fun sv iv w' => ∃ k q r : Nat, k ≤ n ∧ sv = .float .f32 r ∧ Hid (cls .f32 r = vterms zs (entT zs) k) ∧ iv = .int .i64 k ∧ w' = w.drewN q) (fun _ iv _ => n - (intOf iv).toNat)
  case atStart => exact ⟨0, 0, 0, by omega, rfl, Lib.hid rfl, rfl, rfl⟩
  case round =>
    obtain ⟨k, q, r, hk, rfl, HR, rfl, rfl⟩ := hrel
    by_cases hlt : k < n
    · obtain ⟨b1, o1, rfl, hck1⟩ := HA.out.cell hlt
      obtain ⟨s, m, i, hd, hs, _⟩ := ch_each HC.out hlt
      rcases num_order _ hd hs with ⟨_, ho⟩ | ⟨_, _, ho⟩
      · have HS : Hid (vterms zs (entT zs) (k + 1) = vterms zs (entT zs) k) := Lib.hid (by show (if _ then _ else _) = _; rw [if_pos (by unfold zeroB; rw [ho]; rfl)])
        have hg : ((FloatKind.f32).format.order (zs.getD k 0) 0 == some .gt) = false := by rw [ho]; rfl
        clear hd hs ho
        generalize zs.getD k 0 = x at hck1 hg
        clear HA
        go_wp2
        exact ⟨⟨k + 1, _, _, by omega, rfl, Lib.hid (HR.out.trans HS.out.symm), by first | rfl | go_num | (congr 1), rfl⟩, by show n - ((k : Int) + 1).toNat < n - (k : Int).toNat; omega⟩
      · have HS : Hid (∀ {l : Nat} {w2 w3 : World}, cls .f32 l = bitsV (zs.getD k 0) → cls .f32 (fres .add .f32 r (fres .mul .f32 (zs.getD k 0) l w2) w3) = vterms zs (entT zs) (k + 1)) := Lib.hid (fun hl => by
          show _ = (if _ then _ else _)
          rw [if_neg (by unfold zeroB; rw [ho]; decide), fres_cls, fres_cls, HR.out, hl]; rfl)
        have hg : ((FloatKind.f32).format.order (zs.getD k 0) 0 == some .gt) = true := by rw [ho]; rfl
        clear hd hs ho
        generalize zs.getD k 0 = x at hck1 hg HS
        clear HA
        go_wp2
        go_region_with (go_at_call 65; refine (bits_spec x _).mono ?_; rintro e w' ⟨l, rfl, hl, n2, rfl⟩; have HL := Lib.hid hl; clear hl)
        all_goals
          go_wp2
          exact ⟨⟨k + 1, _, _, by omega, rfl, Lib.hid (HS.out HL.out), by first | rfl | go_num | (congr 1), rfl⟩, by show n - ((k : Int) + 1).toNat < n - (k : Int).toNat; omega⟩
    · obtain rfl : k = n := by omega
      go_wp2
      go_ret
      exact ⟨_, rfl, by rw [fres_cls, HR.out]; rfl, Drew.mk _ _⟩
set_option maxHeartbeats 1000000 in
theorem ent1_impl (k : Int) (x : Nat) (hx : (FloatKind.f32).decode x = .infinity false → x = 2139095040) (w : World) : Calls Try.prog 90 #[.int .i64 k, .float .f32 x] w fun e w' => ∃ r, e = .returned (.float .f32 r) ∧ cls .f32 r = vop .mul .f32 (cls .f32 x) (bitsV x) ∧ Drew w w' := by
  have HX := Lib.hid hx
  clear hx
  go_enter Try.func90, Try.ntmps90
  go_wp2_with (first | (go_at_call 66; refine (bits_impl x HX.out _).mono ?_; rintro e w' ⟨r, rfl, hr, n, rfl⟩; have Hr := Lib.hid hr; clear hr) | go_in)
  go_ret
  exact ⟨_, rfl, by rw [fres_cls, Hr.out], Drew.mk _ _⟩
set_option maxHeartbeats 1000000 in
theorem terms_ent (a : Option Addr) (n cap : Nat) (zs : List Nat) (w : World) (ha : FRow w a n zs) (hc : chS zs n = true) (hn : n ≤ 64) :
    Calls Try.prog 81 #[.slice a n cap, .func (.func 90) #[] #[]] w fun e w' => ∃ r, e = .returned (.float .f32 r) ∧ cls .f32 r = vterms zs (entT zs) n ∧ Drew w w' := by
  have HA := Lib.hid ha
  have HC := Lib.hid hc
  clear ha hc
  go_enter Try.func81, Try.ntmps81
  go_wp2
  go_loopw [5, 10] (fun sv iv w' => ∃ k q r : Nat, k ≤ n ∧ sv = .float .f32 r ∧ Hid (cls .f32 r = vterms zs (entT zs) k) ∧ iv = .int .i64 k ∧ w' = w.drewN q) (fun _ iv _ => n - (intOf iv).toNat)
  case atStart => exact ⟨0, 0, 0, by omega, rfl, Lib.hid rfl, rfl, rfl⟩
  case round =>
    obtain ⟨k, q, r, hk, rfl, HR, rfl, rfl⟩ := hrel
    by_cases hlt : k < n
    · obtain ⟨b1, o1, rfl, hck1⟩ := HA.out.cell hlt
      obtain ⟨s, m, i, hd, hs, _⟩ := ch_each HC.out hlt
      have HX : Hid ((FloatKind.f32).decode (zs.getD k 0) = .infinity false → zs.getD k 0 = 2139095040) := Lib.hid (by rw [hd]; intro h; cases h)
      rcases num_order _ hd hs with ⟨_, ho⟩ | ⟨_, _, ho⟩
      · have HS : Hid (vterms zs (entT zs) (k + 1) = vterms zs (entT zs) k) := Lib.hid (by show (if _ then _ else _) = _; rw [if_pos (by unfold zeroB; rw [ho]; rfl)])
        clear hd hs
        generalize zs.getD k 0 = x at hck1 ho HX
        clear HA
        go_wp2
        exact ⟨⟨k + 1, _, _, by omega, rfl, Lib.hid (HR.out.trans HS.out.symm), by first | rfl | go_num | (congr 1), rfl⟩, by show n - ((k : Int) + 1).toNat < n - (k : Int).toNat; omega⟩
      · have HS : Hid (∀ {l : Nat} {w3 : World}, cls .f32 l = vop .mul .f32 (cls .f32 (zs.getD k 0)) (bitsV (zs.getD k 0)) → cls .f32 (fres .add .f32 r l w3) = vterms zs (entT zs) (k + 1)) := Lib.hid (fun hl => by
          show _ = (if _ then _ else _)
          rw [if_neg (by unfold zeroB; rw [ho]; decide), fres_cls, HR.out, hl]; rfl)
        clear hd hs
        generalize zs.getD k 0 = x at hck1 ho HS HX
        clear HA
        go_wp2_with (first | (go_at_call 90; refine (ent1_impl _ x HX.out _).mono ?_; rintro e w' ⟨l, rfl, hl, n2, rfl⟩; have HL := Lib.hid hl; clear hl) | go_in)
        exact ⟨⟨k + 1, _, _, by omega, rfl, Lib.hid (HS.out HL.out), by first | rfl | go_num | (congr 1), rfl⟩, by show n - ((k : Int) + 1).toNat < n - (k : Int).toNat; omega⟩
    · obtain rfl : k = n := by omega
      go_wp2
      go_ret
      exact ⟨_, rfl, HR.out, Drew.mk _ _⟩
set_option maxHeartbeats 1000000 in
theorem ent_impl (a : Option Addr) (n cap : Nat) (zs : List Nat) (w : World) (ha : FRow w a n zs) (hc : chS zs n = true) (hn : n ≤ 64) :
    Calls Try.prog 68 #[.slice a n cap] w fun e w' => ∃ r, e = .returned (.float .f32 r) ∧ cls .f32 r = entV zs n ∧ Drew w w' := by
  have HA := Lib.hid ha
  have HC := Lib.hid hc
  have hmf : ∀ (fn : Fn) (first cap : Array Value) (w : World), (Instr.makeFunc fn first cap).run Try.prog w = .ok (.func fn first cap) w := fun _ _ _ _ => rfl
  clear ha hc
  go_enter Try.func68, Try.ntmps68
  go_wp2_with (first | (go_at_call 81; refine (terms_ent _ _ _ zs _ HA.out HC.out hn).mono ?_; rintro e w' ⟨r, rfl, hr, n2, rfl⟩; have HR := Lib.hid hr; clear hr) | go_in)
  go_ret
  exact ⟨_, rfl, by rw [fres_cls, HR.out]; rfl, Drew.mk _ _⟩
end Go.Proofs.Ytmklgnjacbcfeaa
