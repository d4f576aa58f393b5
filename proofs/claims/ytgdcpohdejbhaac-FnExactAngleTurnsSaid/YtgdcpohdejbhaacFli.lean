/- Angles: the program's walk, and the law. -/
import Derived.Test.YtgdcpohdejbhaacFlh
namespace Go.Proofs.Ytgdcpohdejbhaac
open Go.Proofs.Ytgdcpohdejbhaac.Flo Go.RowKit
attribute [local go_sem] call_from64 call_bits64
attribute [local go_sem] call_from32

theorem abs_dec {x : Nat} (h : finD ((FloatKind.f64).decode x) = true) : ∃ m i, (FloatKind.f64).decode (x % 2 ^ 63) = .number false m i := by
  rw [decode_abs]
  cases hd : (FloatKind.f64).decode x with
  | number s m i => exact ⟨m, i, rfl⟩
  | infinity s => rw [hd] at h; cases h
  | nan s t => rw [hd] at h; cases h
theorem abs_cls {x : Nat} (h : finD ((FloatKind.f64).decode x) = true) : cls .f64 (x % 2 ^ 63) = some (x % 2 ^ 63) := by
  obtain ⟨m, i, hd⟩ := abs_dec h
  exact cls_of_not (by rw [hd]; rfl)
theorem abs_zero {x : Nat} {m : Nat} {i : Int} (h : finD ((FloatKind.f64).decode x) = true) (hd : (FloatKind.f64).decode (x % 2 ^ 63) = .number false m i) (hz : sgn ((FloatKind.f64).decode x) ≠ some .eq) : m ≠ 0 := by
  rw [decode_abs] at hd
  cases hx : (FloatKind.f64).decode x with
  | number s m' i' =>
    rw [hx] at hd hz
    cases hd
    intro h0; subst h0; exact hz rfl
  | infinity s => rw [hx] at h; cases h
  | nan s t => rw [hx] at h; cases h

/-- Numbers of no sign that are equal are the same data. -/
theorem eq_dec {a b : Nat} {m n : Nat} {i j : Int} (ha : (FloatKind.f64).decode a = .number false m i) (hb : (FloatKind.f64).decode b = .number false n j) (h : m * 2 ^ (i + 1074).toNat = n * 2 ^ (j + 1074).toNat) : (FloatKind.f64).decode a = (FloatKind.f64).decode b := by
  have h1 := num64 ha
  have h2 := num64 hb
  have h3 := num64n ha
  have h4 := num64n hb
  have key : ∀ (m n : Nat) (i j : Int), m < 2 ^ 53 → 2 ^ 52 ≤ n → -1074 ≤ i → i < j → m * 2 ^ (i + 1074).toNat < n * 2 ^ (j + 1074).toNat := by
    intro m n i j hm hn hi hij
    have e : (j + 1074).toNat = (j - i - 1).toNat + 1 + (i + 1074).toNat := by omega
    rw [e, Nat.pow_add, Nat.pow_succ, ← Nat.mul_assoc]
    refine Nat.mul_lt_mul_of_pos_right ?_ (Nat.two_pow_pos _)
    have := Nat.two_pow_pos (j - i - 1).toNat
    calc m < 2 ^ 52 * (1 * 2) := by omega
      _ ≤ n * (2 ^ (j - i - 1).toNat * 2) := Nat.mul_le_mul hn (Nat.mul_le_mul_right _ this)
  have hij : i = j := by
    rcases Int.lt_trichotomy i j with hlt | he | hgt
    · have hn : 2 ^ 52 ≤ n := h4.resolve_left (by omega)
      have := key m n i j h1.1 hn h1.2.1 hlt
      omega
    · exact he
    · have hm : 2 ^ 52 ≤ m := h3.resolve_left (by omega)
      have := key n m j i h2.1 hm h2.2.1 hgt
      omega
  subst hij
  have := Nat.eq_of_mul_eq_mul_right (Nat.two_pow_pos _) h
  rw [ha, hb, this]

/-- How two numbers of no sign stand: what the order says, in one unit. -/
theorem ord_abs {a b : Nat} {m n : Nat} {i j : Int} (ha : (FloatKind.f64).decode a = .number false m i) (hb : (FloatKind.f64).decode b = .number false n j) :
    (FloatKind.f64).format.order a b = some (compare (m * 2 ^ (i + 1074).toNat) (n * 2 ^ (j + 1074).toNat)) := by
  have h1 := num64 ha
  have h2 := num64 hb
  rw [order_num ha hb, signed_false, signed_false]
  have hs1 := scale (m := m) (n := n) (i := i) (j := j) (b := min i j) (by omega) (by omega) (by omega)
  have hs2 := scale (m := n) (n := m) (i := j) (j := i) (b := min i j) (by omega) (by omega) (by omega)
  generalize m * 2 ^ (i - min i j).toNat = p at *
  generalize n * 2 ^ (j - min i j).toNat = q at *
  generalize m * 2 ^ (i + 1074).toNat = P at *
  generalize n * 2 ^ (j + 1074).toNat = Q at *
  congr 1
  rcases Nat.lt_trichotomy p q with h | h | h
  · rw [Int.compare_eq_lt.2 (by omega), Nat.compare_eq_lt.2 (by omega)]
  · rw [Int.compare_eq_eq.2 (by omega), Nat.compare_eq_eq.2 (by omega)]
  · rw [Int.compare_eq_gt.2 (by omega), Nat.compare_eq_gt.2 (by omega)]

theorem quoV_le {A B : Nat} {m n : Nat} {i j : Int} (hA : (FloatKind.f64).decode A = .number false m i) (hB : (FloatKind.f64).decode B = .number false n j) (hne : m ≠ 0 ∨ n ≠ 0) {over : Bool} (ho : ((FloatKind.f64).format.order A B == some .gt) = over) :
    VLe .f64 1 (quoV over A B) := by
  rw [ord_abs hA hB] at ho
  have hc := @Nat.compare_eq_gt (m * 2 ^ (i + 1074).toNat) (n * 2 ^ (j + 1074).toNat)
  cases over with
  | true =>
    have hgt : n * 2 ^ (j + 1074).toNat < m * 2 ^ (i + 1074).toNat := by
      have : compare (m * 2 ^ (i + 1074).toNat) (n * 2 ^ (j + 1074).toNat) = .gt := by simpa using ho
      exact hc.1 this
    have hm : m ≠ 0 := by rintro rfl; rw [Nat.zero_mul] at hgt; omega
    exact quo_le1 hB hA hm (Nat.le_of_lt hgt)
  | false =>
    have hle : m * 2 ^ (i + 1074).toNat ≤ n * 2 ^ (j + 1074).toNat := by
      by_cases h : n * 2 ^ (j + 1074).toNat < m * 2 ^ (i + 1074).toNat
      · rw [hc.2 h] at ho; exact absurd ho (by decide)
      · omega
    have hn : n ≠ 0 := by
      rintro rfl
      rw [Nat.zero_mul] at hle
      have := hne.resolve_right (by simp)
      have hp : 0 < m * 2 ^ (i + 1074).toNat := Nat.mul_pos (by omega) (Nat.two_pow_pos _)
      omega
    exact quo_le1 hA hB hn hle

/-- min and max of the two, and their quotient. -/
theorem min_max (P : Program) {A B : Nat} {m n : Nat} {i j : Int} (hA : (FloatKind.f64).decode A = .number false m i) (hB : (FloatKind.f64).decode B = .number false n j) {over : Bool} (ho : ((FloatKind.f64).format.order A B == some .gt) = over) :
    ∃ mn mx, (∀ ts t w, (Builtin.min_ ts t #[.float .f64 A, .float .f64 B]).run P w = .ok (.float .f64 mn) w) ∧ (∀ ts t w, (Builtin.max_ ts t #[.float .f64 A, .float .f64 B]).run P w = .ok (.float .f64 mx) w) ∧
      cls .f64 mn = some mn ∧ cls .f64 mx = some mx ∧ vop .quo .f64 (some mn) (some mx) = quoV over A B := by
  have hcA : cls .f64 A = some A := cls_of_not (by rw [hA]; rfl)
  have hcB : cls .f64 B = some B := cls_of_not (by rw [hB]; rfl)
  have hord := ord_abs hA hB
  have hneg : ((FloatKind.f64).decode A).neg = false := by rw [hA]; rfl
  generalize hcmp : compare (m * 2 ^ (i + 1074).toNat) (n * 2 ^ (j + 1074).toNat) = c at hord
  cases c with
  | gt =>
    rw [hord] at ho
    subst ho
    exact ⟨B, A, fun ts t w => by simp [Builtin.min_, Builtin.min2, hord], fun ts t w => by simp [Builtin.max_, Builtin.max2, hord], hcB, hcA, rfl⟩
  | lt =>
    rw [hord] at ho
    subst ho
    exact ⟨A, B, fun ts t w => by simp [Builtin.min_, Builtin.min2, hord], fun ts t w => by simp [Builtin.max_, Builtin.max2, hord], hcA, hcB, rfl⟩
  | eq =>
    rw [hord] at ho
    subst ho
    refine ⟨B, A, fun ts t w => by simp [Builtin.min_, Builtin.min2, hord, hneg], fun ts t w => by simp [Builtin.max_, Builtin.max2, hord, hneg], hcB, hcA, ?_⟩
    have hd := eq_dec hA hB (Nat.compare_eq_eq.1 hcmp)
    show ((((FloatKind.f64).decode B).quotient _ ((FloatKind.f64).decode A)).map (FloatKind.f64).format.write) = ((((FloatKind.f64).decode A).quotient _ ((FloatKind.f64).decode B)).map (FloatKind.f64).format.write)
    rw [hd]

set_option maxHeartbeats 4000000 in
theorem ang_impl (y x Y X : Nat) (sx sy : Ordering) (over : Bool) (T : Option Nat) (hY : Y < 2 ^ 64) (hX : X < 2 ^ 64) (hcy : ∀ w, cres .f32 y .f64 w = Y) (hcx : ∀ w, cres .f32 x .f64 w = X)
    (hfy : finD ((FloatKind.f32).decode y) = true) (hfx : finD ((FloatKind.f32).decode x) = true)
    (hx : (FloatKind.f32).format.order x 0 = some sx) (hy : (FloatKind.f32).format.order y 0 = some sy) (hne : ¬ (sx = .eq ∧ sy = .eq)) (ho : ((FloatKind.f64).format.order (Y % 2 ^ 63) (X % 2 ^ 63) == some .gt) = over)
    (hT : ∃ mn mx, (∀ ts t w, (Builtin.min_ ts t #[.float .f64 (Y % 2 ^ 63), .float .f64 (X % 2 ^ 63)]).run Try.prog w = .ok (.float .f64 mn) w) ∧ (∀ ts t w, (Builtin.max_ ts t #[.float .f64 (Y % 2 ^ 63), .float .f64 (X % 2 ^ 63)]).run Try.prog w = .ok (.float .f64 mx) w) ∧
      cls .f64 mn = some mn ∧ cls .f64 mx = some mx ∧ vop .quo .f64 (some mn) (some mx) = T) (hK : Okn (angV over (sx == .lt) (sy == .lt) T)) (w : World) :
    Calls Try.prog 23 #[.float .f32 y, .float .f32 x] w fun e w' => ∃ r, e = .returned (.float .f32 r) ∧ cls .f32 r = vnarrow (angV over (sx == .lt) (sy == .lt) T) ∧ Drew w w' := by
  obtain ⟨mn, mx, hmin, hmax, hcn, hcm, hq⟩ := hT
  have HT := fun w2 : World => Lib.hid ((tq_cls hcn hcm w2).trans hq)
  have HK := Lib.hid hK
  clear hcn hcm hq hK
  cases over <;> cases sx <;> cases sy
  all_goals first
    | exact absurd ⟨rfl, rfl⟩ hne
    | (clear hne
       go_enter Try.func23, Try.ntmps23
       go_wp2_with (first | (go_at_call 51; ((with_reducible refine (finite_walk x _).mono ?_); rintro e w' ⟨rfl, n1, rfl⟩)) | (go_at_call 51; ((with_reducible refine (finite_walk y _).mono ?_); rintro e w' ⟨rfl, n2, rfl⟩)) | (go_at_call 45; ((with_reducible refine (abs_walk Y hY _).mono ?_); rintro e w' ⟨rfl, rfl⟩)) | (go_at_call 45; ((with_reducible refine (abs_walk X hX _).mono ?_); rintro e w' ⟨rfl, rfl⟩)) | (go_at_call 57; refine (steep_impl _ T (HT _) _).mono ?_; rintro e w' ⟨r, rfl, hr, n3, rfl⟩; have Hr := Lib.hid hr; clear hr) | go_in)
       go_ret
       refine ⟨_, rfl, narrow_eq ?_ HK.out _, Drew.mk _ _⟩
       first
         | exact Hr.out
         | exact neg_of Hr.out
         | exact from05_cls Hr.out _
         | exact neg_of (from05_cls Hr.out _)
         | exact c025s_cls Hr.out _
         | exact neg_of (c025s_cls Hr.out _)
         | exact from05_cls (c025s_cls Hr.out _) _
         | exact neg_of (from05_cls (c025s_cls Hr.out _) _))
end Go.Proofs.Ytgdcpohdejbhaac
