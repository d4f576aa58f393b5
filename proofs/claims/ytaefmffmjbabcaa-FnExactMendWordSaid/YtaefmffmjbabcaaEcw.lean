
/- EchelonOf: the program's parts. -/
import Derived.Test.YtaefmffmjbabcaaRpy
namespace Go.Proofs.Ytaefmffmjbabcaa
open Go.Proofs.Ytaefmffmjbabcaa.Flo Go.RowKit Go.Proofs.Ytaefmffmjbabcaa.Pr

theorem b_dig (x i : Nat) (hx : x < 65536) (hi : i < 16) : bits .and .i64 (x : Int) ((2 ^ i : Nat) : Int) = if x.testBit i then ((2 ^ i : Nat) : Int) else 0 := by
  have hp : 2 ^ i ≤ 2 ^ 15 := Nat.pow_le_pow_right (by decide) (by omega)
  rw [b_and x (2 ^ i) (by omega) (by omega)]
  have e : x &&& 2 ^ i = if x.testBit i then 2 ^ i else 0 := by
    apply Nat.eq_of_testBit_eq
    intro j
    rw [Nat.testBit_and, Nat.testBit_two_pow]
    by_cases h : i = j
    · subst h
      cases ht : x.testBit i
      · simp
      · simp
    · rw [decide_eq_false h]
      cases x.testBit i
      · simp
      · simp [h]
  rw [e]
  cases x.testBit i <;> rfl
set_option maxHeartbeats 1000000 in
theorem cl_ech (x i d : Nat) (w : World) (hx : x < 65536) (hi : i < 16) (hd : w.cell? ⟨d, 0, none⟩ = some (.int .i64 ((2 ^ i : Nat) : Int))) :
    Calls Try.prog 152 #[.int .i64 (x : Int), .pointer (some ⟨d, 0, none⟩)] w fun e w' => e = .returned (.bool (x.testBit i)) ∧ w = w' := by
  have hb := b_dig x i hx hi
  have hpos : 0 < 2 ^ i := Nat.two_pow_pos i
  cases ht : x.testBit i with
  | true =>
    rw [ht] at hb
    simp only [if_true] at hb
    generalize 2 ^ i = P at hb hd hpos
    have hne : ((P : Int) == 0) = false := by simp; omega
    have HF : Hid (((P : Int) != 0) = true) := Lib.hid (by rw [bne, hne]; rfl)
    clear ht
    go_enter Try.func152, Try.ntmps152
    go_wp2
    go_ret
    exact ⟨ret_bool2 HF.out, rfl⟩
  | false =>
    rw [ht] at hb
    simp only [Bool.false_eq_true, if_false] at hb
    generalize 2 ^ i = P at hb hd hpos
    clear ht
    go_enter Try.func152, Try.ntmps152
    go_wp2
    go_ret
    exact ⟨rfl, rfl⟩
theorem irow_drop {w : World} {g n k : Nat} {L : List Int} (h : ICl w g n L) (hk : k ≤ n) : IRow w (some ⟨g, k, none⟩) (n - k) (L.drop k) := by
  have hl := h.len
  refine ⟨by rw [List.length_drop, hl], .inr ⟨g, k, rfl, h.1, fun j hj => ?_⟩⟩
  rw [(h.cell (j := k + j) (by omega)).1, List.getD_eq_getElem?_getD, List.getD_eq_getElem?_getD, List.getElem?_drop]
theorem rI_drop {n k j : Nat} (f : Nat → Nat) (h : k + j < n) : ((rI n f).drop k).getD j 0 = ((f (k + j) : Nat) : Int) := by
  rw [← rI_get f h, List.getD_eq_getElem?_getD, List.getD_eq_getElem?_getD, List.getElem?_drop]
set_option maxRecDepth 100000 in
set_option maxHeartbeats 2000000 in
theorem ix_ech (k n cap i d : Nat) (a : Option Addr) (f : Nat → Nat) (w : World) (hI : IRow w a (n - k) ((rI n f).drop k)) (hk : k ≤ n) (hn : n ≤ 8) (hf : ∀ j, j < n → f j < 65536) (hi : i < 16) (hd : w.cell? ⟨d, 0, none⟩ = some (.int .i64 ((2 ^ i : Nat) : Int))) :
    Calls Try.prog 151 #[.slice a (n - k) cap, .func (.func 152) #[] #[.pointer (some ⟨d, 0, none⟩)]] w fun e w' => (∃ q, fnd f i n (n - k) = k + q ∧ k + q < n ∧ e = .returned (.int .i64 (q : Int)) ∧ w = w') ∨ (fnd f i n (n - k) = n ∧ e = .returned (.int .i64 (-1)) ∧ w = w') := by
  have HI := Lib.hid hI
  have HFF := Lib.hid hf
  have HD := Lib.hid hd
  obtain ⟨N, hN⟩ : ∃ N, N = n - k := ⟨_, rfl⟩
  rw [← hN] at HI ⊢
  have hnk : n = k + N := by omega
  subst hnk
  have hNs : k + N - k = N := by omega
  clear hI hf hd hN
  go_enter Try.func151, Try.ntmps151
  go_wp2
  go_loop [8] (fun jv => ∃ j : Nat, j ≤ N ∧ jv = .int .i64 j ∧ Hid (fnd f i (k + N) N = fnd f i (k + N) (k + N - (k + j)))) (fun jv => N - (intOf jv).toNat)
  case atStart => exact ⟨0, by omega, rfl, Lib.hid (by rw [Nat.add_zero, hNs])⟩
  case round =>
    obtain ⟨j, hj, rfl, HJ⟩ := hrel
    by_cases hlt : j < N
    · obtain ⟨b1, o1, rfl, hblt, hck⟩ := HI.out.cell' hlt
      rw [rI_drop f (by omega)] at hck
      have HFV : Hid (f (k + j) < 65536) := Lib.hid (HFF.out (k + j) (by omega))
      cases ht : (f (k + j)).testBit i with
      | true =>
        have HR : Hid (fnd f i (k + N) N = k + j) := Lib.hid (HJ.out.trans (fnd_on (by omega) ht))
        have HT := Lib.hid ht
        generalize f (k + j) = x at hck HFV HT
        clear ht HJ
        go_wp2_with (first | (go_at_call 152; refine (cl_ech x i d _ HFV.out hi HD.out).mono ?_; rw [HT.out]; rintro e w' ⟨rfl, hw⟩; subst hw) | fail)
        go_ret
        exact .inl ⟨j, HR.out, by omega, rfl, rfl⟩
      | false =>
        have HR := Lib.hid (HJ.out.trans (fnd_off (by omega) ht))
        have HT := Lib.hid ht
        generalize f (k + j) = x at hck HFV HT
        clear ht HJ
        go_wp2_with (first | (go_at_call 152; refine (cl_ech x i d _ HFV.out hi HD.out).mono ?_; rw [HT.out]; rintro e w' ⟨rfl, hw⟩; subst hw) | fail)
        go_round
        case rel => exact ⟨j + 1, by omega, by go_num, HR⟩
        case measure => simp [intOf]; omega
    · obtain rfl : j = N := by omega
      have HR : Hid (fnd f i (k + j) j = k + j) := Lib.hid (HJ.out.trans (by rw [Nat.sub_self]; rfl))
      go_wp2
      go_ret
      exact .inr ⟨HR.out, rfl, rfl⟩
theorem ix_hit (k n cap i d q : Nat) (a : Option Addr) (f : Nat → Nat) (w : World) (hI : IRow w a (n - k) ((rI n f).drop k)) (hk : k ≤ n) (hn : n ≤ 8) (hf : ∀ j, j < n → f j < 65536) (hi : i < 16) (hd : w.cell? ⟨d, 0, none⟩ = some (.int .i64 ((2 ^ i : Nat) : Int))) (hq : fnd f i n (n - k) = k + q) (hlt : k + q < n) :
    Calls Try.prog 151 #[.slice a (n - k) cap, .func (.func 152) #[] #[.pointer (some ⟨d, 0, none⟩)]] w fun e w' => e = .returned (.int .i64 (q : Int)) ∧ w = w' :=
  (ix_ech k n cap i d a f w hI hk hn hf hi hd).mono fun e w' h => by
    rcases h with ⟨q2, h1, _, h3, h4⟩ | ⟨h1, _, _⟩
    · obtain rfl : q2 = q := by omega
      exact ⟨h3, h4⟩
    · omega
theorem ix_miss (k n cap i d : Nat) (a : Option Addr) (f : Nat → Nat) (w : World) (hI : IRow w a (n - k) ((rI n f).drop k)) (hk : k ≤ n) (hn : n ≤ 8) (hf : ∀ j, j < n → f j < 65536) (hi : i < 16) (hd : w.cell? ⟨d, 0, none⟩ = some (.int .i64 ((2 ^ i : Nat) : Int))) (hq : fnd f i n (n - k) = n) :
    Calls Try.prog 151 #[.slice a (n - k) cap, .func (.func 152) #[] #[.pointer (some ⟨d, 0, none⟩)]] w fun e w' => e = .returned (.int .i64 (-1)) ∧ w = w' :=
  (ix_ech k n cap i d a f w hI hk hn hf hi hd).mono fun e w' h => by
    rcases h with ⟨q2, h1, h2, _, _⟩ | ⟨_, h3, h4⟩
    · omega
    · exact ⟨h3, h4⟩
theorem swp_put2 {n a k : Nat} (f : Nat → Nat) (ha : a < n) (hk : k < n) : ((rI n f).set k ((f a : Nat) : Int)).set a ((f k : Nat) : Int) = rI n (swp f k a) := by
  rw [rI_set f (f a) hk, rI_set _ (f k) ha]
  refine rI_congr (fun i _ => ?_)
  unfold swp
  by_cases e : i = a
  · subst e
    rw [upd_at]
    by_cases e2 : i = k
    · subst e2; rw [upd_at]
    · rw [upd_ne _ _ e2, upd_at]
  · rw [upd_ne _ _ e]
    by_cases e2 : i = k
    · subst e2; rw [upd_at, upd_at]
    · rw [upd_ne _ _ e2, upd_ne _ _ e2, upd_ne _ _ e]
set_option maxRecDepth 100000 in
set_option maxHeartbeats 4000000 in
theorem clone_cap (b o n cap : Nat) (zs : List Int) (w : World) (h : IRow w (some ⟨b, o, none⟩) n zs) (h1 : 1 ≤ n) (h2 : n ≤ 1048576) :
    Calls Try.prog 150 #[.slice (some ⟨b, o, none⟩) n cap] w fun e w' => ∃ g cp, n ≤ cp ∧ e = .returned (.slice (some ⟨g, 0, none⟩) n cp) ∧ New w w' g (.il n zs) := by
  obtain ⟨i0, hi, hz0, hz1, hz2⟩ := info_parts Try.info64
  have HA := Lib.hid (h.alloc (.cells #[] 2))
  have HL : Hid ((zs.map (Value.int .i64)).length = n * 1) := Lib.hid (by rw [List.length_map, h.1, Nat.mul_one])
  have HE := Lib.hid (own_empty w 2)
  have he : ∀ w : World, (binOp .eql 22 (.slice (some ⟨b, o, none⟩) n cap) (.slice none 0 0)).run Try.prog w = .ok (.bool false) w := fun _ => rfl
  clear h
  go_enter Try.func150, Try.ntmps150
  go_wp2_with (first | (at_builtin; refine wpList_append_lies _ rfl _ _ 22 rfl (w.heap.size) 2 i0 (.int .i64 0) 1 8 Try.underlying22 hi hz0 hz1 hz2 rfl (by omega) (.slice (some ⟨w.heap.size, 0, none⟩) 0 0) 0 [] rfl HE.out ⟨b, o, none⟩ n cap (zs.map (Value.int .i64)) rfl HL.out (irow_news HA.out) (one_cellsI zs) (by omega) (by unfold maxLen; omega) (by omega) (by simp) (w.heap.size + 1) (by simp) ?_; intro gg cp w1 hown1 hgrow hat hlt2; (have HO := Lib.hid (by rw [Nat.zero_add] at hown1; simpa using hown1 : w1.ownsRow w.heap.size 2 1 (.slice (some ⟨gg, 0, none⟩) n cp) n (zs.map (Value.int .i64)))); have HG := Lib.hid hgrow; clear hown1 hgrow hat hlt2) | go_in)
  go_ret
  obtain ⟨hc, hg⟩ := ICl.own HO.out (by omega)
  have hcp : n ≤ cp := by
    rcases HO.out.2 with ⟨e, _⟩ | ⟨g2, cap2, cur, e, _, _, h3, _⟩
    · cases e
    · injection e with _ _ e3; omega
  exact ⟨gg, cp, hcp, rfl, hc.new hg (Below.grown (belowA _ _) HG.out (by simp) (own_block HE.out))⟩
/-- A cell with a number, and what the loop counts by. -/
def Dig (w : World) (d x : Nat) : Prop := d < w.heap.size ∧ w.cell? ⟨d, 0, none⟩ = some (.int .i64 (x : Int)) ∧ w.frozen? ⟨d, 0, none⟩ = false
theorem Dig.far {w : World} {d x : Nat} (h : Dig w d x) {a : Addr} (ha : a.block ≠ d) (v : Value) : Dig (w.setCell a v) d x := by
  obtain ⟨h0, h1, h2⟩ := h
  refine ⟨by rw [World.size_setCell]; exact h0, ?_, ?_⟩
  · rw [World.cell?_setCell_other (h := fun e => ha (by rw [e]))]; exact h1
  · rw [World.frozen?_setCell]; exact h2
theorem Dig.below {w w' : World} {d x : Nat} (h : Dig w d x) (hb : Below w.heap.size w w') : Dig w' d x :=
  ⟨Nat.lt_of_lt_of_le h.1 hb.size, (hb.cell (p := ⟨d, 0, none⟩) h.1).trans h.2.1, (hb.frozen (p := ⟨d, 0, none⟩) h.1).trans h.2.2⟩
theorem Dig.new {w : World} {x : Nat} {T : TypeId} : Dig (w.alloc (.cells #[.int .i64 (x : Int)] T)) w.heap.size x :=
  ⟨by simp, by rw [World.cell?_alloc_at _ _ _ _ rfl]; rfl, World.frozen?_alloc_at _ _ _ _ rfl⟩
def dgOf (v : Value) (w : World) : Nat := match v with
  | .pointer (some a) => (match w.cell? a with
    | some u => (intOf u).toNat
    | none => 0)
  | _ => 0
theorem dgOf_at {w : World} {d x : Nat} (h : Dig w d x) : dgOf (.pointer (some ⟨d, 0, none⟩)) w = x := by
  unfold dgOf
  simp only [h.2.1, intOf, Int.toNat_natCast]
def dg (m b : Nat) : Nat := if b < m then 2 ^ (m - 1 - b) else 0
theorem dg_half {m b : Nat} (h : b < m) : 2 ^ (m - 1 - b) / 2 = dg m (b + 1) := by
  unfold dg
  by_cases e : b + 1 < m
  · rw [if_pos e, show m - 1 - b = (m - 1 - (b + 1)) + 1 by omega, Nat.pow_succ]; omega
  · rw [if_neg e, show m - 1 - b = 0 by omega]
set_option maxRecDepth 100000 in
set_option maxHeartbeats 8000000 in
theorem ech_impl (r : Int) (a0 : Option Addr) (n cap : Nat) (zs : List Int) (w : World) (h : IRow w a0 n zs) (hn : n ≤ 1048576) (hok : paB r zs n = true) : Calls Try.prog 111 #[.agg #[.int .i64 r, .slice a0 n cap]] w (YPost r n (rI n (ech (zN zs) r.toNat n r.toNat).f) w) := by
  obtain ⟨⟨hr1, hr2⟩, ⟨hn1, hn2⟩, hwo, _⟩ := pa_out hok
  obtain ⟨m, rfl⟩ : ∃ m : Nat, r = (m : Int) := ⟨r.toNat, by omega⟩
  rw [Int.toNat_natCast] at *
  have hm1 : 1 ≤ m := by omega
  have hm2 : m ≤ 16 := by omega
  obtain ⟨b1, o1, rfl, _, _⟩ := h.cell' (k := 0) (by omega)
  have HZR := Lib.hid (rI_zN h.1 hwo)
  have HZ : Hid (∀ b, b ≤ m → (ech (zN zs) m n b).k ≤ n ∧ ∀ j, j < n → (ech (zN zs) m n b).f j < 2 ^ 16) := Lib.hid (fun b hb => ech_at (fun j hj => (zN_at hwo hj).2) hm2 hb)
  have HA := Lib.hid h
  have HC := Lib.hid ((Kin.new (w := w) (x := .int .i64 (m : Int)) (y := .slice (some ⟨b1, o1, none⟩) n cap) (T := 28)).below (below_alloc _ (.cells #[.int .i64 0, .slice none 0 0] 28)))
  have HR : Hid (Kin ((w.alloc (.cells #[.int .i64 (m : Int), .slice (some ⟨b1, o1, none⟩) n cap] 28)).alloc (.cells #[.int .i64 0, .slice none 0 0] 28)) (w.heap.size + 1) (.int .i64 0) (.slice none 0 0)) := Lib.hid (Kin.new' (by simp))
  have HA2 : Hid (IRow ((w.alloc (.cells #[.int .i64 (m : Int), .slice (some ⟨b1, o1, none⟩) n cap] 28)).alloc (.cells #[.int .i64 0, .slice none 0 0] 28)) (some ⟨b1, o1, none⟩) n zs) := Lib.hid ((h.alloc _).alloc _)
  have HOK := Lib.hid hok
  have hwm : IntKind.i64.wrap ((m : Int) - 1) = ((m - 1 : Nat) : Int) := by rw [IntWalk.i64_in _ (by omega)]; omega
  have hp15 : 2 ^ (m - 1) ≤ 2 ^ 15 := Nat.pow_le_pow_right (by decide) (by omega)
  have hcast : (2 : Int) ^ (m - 1) = ((2 ^ (m - 1) : Nat) : Int) := by rw [Int.natCast_pow]; rfl
  have hmin : min (m - 1) 64 = m - 1 := by omega
  have HDG : Hid (dg m 0 = 2 ^ (m - 1)) := Lib.hid (by unfold dg; rw [if_pos (by omega), Nat.sub_zero])
  generalize 2 ^ (m - 1) = P0 at HDG hp15 hcast
  have hwp : IntKind.i64.wrap ((2 : Int) ^ (m - 1)) = (P0 : Int) := by rw [hcast]; exact IntWalk.i64_in _ (by omega)
  clear h hok hwo hcast
  go_enter Try.func111, Try.ntmps111
  go_wp2_with (first | (go_at_call 149; refine (vp_impl (m : Int) _ n cap zs _ HA2.out hn).mono ?_; rw [HOK.out]; rintro e w2 ⟨rfl, hd⟩; have HC2 := Lib.hid (HC.out.below hd); have HR2 := Lib.hid (HR.out.below hd); have HB := Lib.hid (Below.next (Below.alloc (below_alloc _ _) (by simp) _) hd : Below w.heap.size w w2); obtain ⟨hP, hp0, hp1, hpf0, hpf1⟩ := HC2.out; obtain ⟨hQ, hq0, hq1, hqf0, hqf1⟩ := HR2.out; clear hd) | (go_at_call 150; refine (clone_cap b1 o1 n cap zs _ (HA.out.below HB.out) (by omega) hn).mono ?_; rintro e w3 ⟨g, cp, hcpn, rfl, hnw⟩; have HB3 := Lib.hid (Below.next HB.out hnw.2.2.2); have hgs := hnw.1; have HC3 := Lib.hid (HC2.out.below hnw.2.2.2); have HR3 := Lib.hid (HR2.out.below hnw.2.2.2); have hw2s : w.heap.size + 1 + 1 ≤ w2.heap.size := (by have := HR2.out.1; omega); have hic : ICl w3 g n zs := ICl.of hnw; rw [HZR.out] at hic; have HIC := Lib.hid hic; obtain ⟨hP4, hp40, hp41, hpf40, hpf41⟩ := HC3.out; clear hnw hic) | fail)
  have hsz3 : w2.heap.size ≤ w3.heap.size := by have := HR3.out.1; have := HB3.out.size; have := HIC.out.1; omega
  go_loopw [5, 6] (fun kv pv w' => ∃ (b' d : Nat) (wr : World), b' ≤ m ∧ kv = .int .i64 ((ech (zN zs) m n b').k : Int) ∧ pv = .pointer (some ⟨d, 0, none⟩) ∧ wr = w' ∧ Hid (ICl wr g n (rI n (ech (zN zs) m n b').f)) ∧ Hid (Kin wr w.heap.size (.int .i64 (m : Int)) (.slice (some ⟨b1, o1, none⟩) n cap)) ∧ Hid (Kin wr (w.heap.size + 1) (.int .i64 0) (.slice none 0 0)) ∧ Hid (Below w.heap.size w wr) ∧ Hid (Dig wr d (dg m b')) ∧ d ≠ g ∧ w.heap.size + 2 ≤ d) (fun _ pv w' => dgOf pv w')
  case atStart =>
    have hb9 := below_alloc w3 (.cells #[.int .i64 (P0 : Int)] 2)
    have hgl := HIC.out.1
    exact ⟨0, w3.heap.size, _, by omega, rfl, rfl, rfl, Lib.hid (by rw [HZR.out] at *; exact HIC.out.below hb9), Lib.hid (HC3.out.below hb9), Lib.hid (HR3.out.below hb9), Lib.hid (Below.next HB3.out hb9), Lib.hid (by rw [HDG.out]; exact Dig.new), by omega, by omega⟩
  case round =>
    clear hP hp0 hp1 hpf0 hpf1 hQ hq0 hq1 hqf0 hqf1 hP4 hp40 hp41 hpf40 hpf41
    obtain ⟨b', d, wr, hb', rfl, rfl, rfl, HI, HCw, HRw, HW, HDw, hdg, hds⟩ := hrel
    obtain ⟨hd0, hd1, hd2⟩ := HDw.out
    by_cases hlt : b' < m
    · obtain ⟨i, hii⟩ : ∃ i, i = m - 1 - b' := ⟨_, rfl⟩
      have HS : Hid (ech (zN zs) m n (b' + 1) = stp n i (ech (zN zs) m n b')) := Lib.hid (by rw [hii]; rfl)
      have HDN := Lib.hid (dg_half hlt)
      have hdv : dg m b' = 2 ^ i := by unfold dg; rw [if_pos hlt, hii]
      have HMS : Hid (dgOf (.pointer (some ⟨d, 0, none⟩)) wr = 2 ^ i) := Lib.hid (by rw [dgOf_at HDw.out, hdv])
      rw [← hii] at HDN
      rw [hdv] at hd1 HDw
      have HDI : Hid (∀ w9 : World, Dig w9 d (2 ^ i) → w9.cell? ⟨d, 0, none⟩ = some (.int .i64 ((2 ^ i : Nat) : Int))) := Lib.hid (fun w9 h => h.2.1)
      have hppos : 0 < 2 ^ i := Nat.two_pow_pos i
      have hp15' : 2 ^ i ≤ 2 ^ 15 := Nat.pow_le_pow_right (by decide) (by omega)
      obtain ⟨hkn, hfl⟩ := HZ.out b' hb'
      have HFL : Hid (∀ j, j < n → (ech (zN zs) m n b').f j < 65536) := Lib.hid hfl
      have hi16 : i < 16 := by omega
      have HCL : Hid (∀ (x : Nat) (w9 : World), x < 65536 → Dig w9 d (2 ^ i) → bits .and .i64 (x : Int) ((2 ^ i : Nat) : Int) = if x.testBit i then ((2 ^ i : Nat) : Int) else 0) := Lib.hid (fun x _ hx _ => b_dig x i hx hi16)
      have hgl := HI.out.1
      have hsW := HW.out.size
      clear hii hfl hdv
      generalize ech (zN zs) m n b' = s at HI HS hkn HFL
      obtain ⟨f, k⟩ := s
      simp only at HI hkn HFL
      have HIXR := Lib.hid (irow_drop HI.out hkn)
      have hfle := fnd_le f i n (n - k) (by omega)
      rcases Nat.lt_or_ge (fnd f i n (n - k)) n with hfn | hfn
      · obtain ⟨q, hq⟩ : ∃ q, fnd f i n (n - k) = k + q := ⟨fnd f i n (n - k) - k, by omega⟩
        have hkq : k + q < n := by omega
        have hkn2 : k < n := by omega
        have hbit := fnd_hit f i n (n - k) (by omega) hfn
        rw [hq] at hbit
        have HS2 := Lib.hid (HS.out.trans (stp_hit hq hkq))
        have HIX : Hid (∀ cap9 : Nat, Calls Try.prog 151 #[.slice (some ⟨g, k, none⟩) (n - k) cap9, .func (.func 152) #[] #[.pointer (some ⟨d, 0, none⟩)]] wr fun e w' => e = .returned (.int .i64 (q : Int)) ∧ wr = w') := Lib.hid (fun cap9 => ix_hit k n cap9 i d q _ f wr HIXR.out hkn hn2 HFL.out hi16 hd1 hq hkq)
        generalize 2 ^ i = P at hd1 HDw HMS HDN hppos hp15' HCL HIX
        have hdt : (P : Int).tdiv 2 = ((P / 2 : Nat) : Int) := by rw [Int.tdiv_eq_ediv_of_nonneg (by omega)]; omega
        have hmsr : P / 2 < P := by omega
        generalize P / 2 = P2 at HDN hdt hmsr
        have hwp2 : IntKind.i64.wrap (P2 : Int) = (P2 : Int) := IntWalk.i64_in _ (by omega)
        have hpp : decide (0 < (P : Int)) = true := decide_eq_true (by omega)
        have HT := Lib.hid hbit
        have hq0 : decide ((q : Int) < 0) = false := decide_eq_false (by omega)
        obtain ⟨a, ha⟩ : ∃ a, a = k + q := ⟨_, rfl⟩
        rw [← ha] at hkq HT HS2
        have hwkq : IntKind.i64.wrap ((k : Int) + (q : Int)) = (a : Int) := by rw [IntWalk.i64_in _ (by omega)]; omega
        have hwk : IntKind.i64.wrap ((k : Int) + 1) = (k : Int) + 1 := IntWalk.i64_in _ (by omega)
        have hck := (HI.out.cell hkq).1
        have hckk := (HI.out.cell hkn2).1
        have hfa := (HI.out.cell hkq).2
        have hfk := (HI.out.cell hkn2).2
        rw [rI_get f hkq] at hck
        rw [rI_get f hkn2] at hckk
        have HP1 := Lib.hid (HI.out.put hkn2 ((f a : Nat) : Int))
        have HP2 : Hid (ICl ((wr.setCell ⟨g, k, none⟩ (.int .i64 ((f a : Nat) : Int))).setCell ⟨g, a, none⟩ (.int .i64 ((f k : Nat) : Int))) g n (rI n (swp f k a))) := Lib.hid (by rw [← swp_put2 f hkq hkn2]; exact HP1.out.put hkq _)
        have HSL : Hid (∀ j, j < n → swp f k a j < 65536) := Lib.hid (swp_lt hkq hkn2 HFL.out)
        obtain ⟨hp1c, hp1k⟩ := HP1.out.cell hkq
        generalize ((rI n f).set k ((f a : Nat) : Int)).getD a 0 = X at hp1c
        generalize swp f k a = h at HP2 HSL HS2
        generalize f a = fa at hck HT HP1 HP2 hp1c hp1k
        generalize f k = fk at hckk HP2
        have hag : (⟨g, a, none⟩ : Addr).block = g := rfl
        clear hfn hfle hq HS ha HP1 hbit
        go_wp2_with (first | (go_at_call 151; (with_reducible refine (HIX.out _).mono ?_); rintro e w9 ⟨rfl, hw⟩; subst hw) | fail)
        go_region_with fail
        all_goals
          have HW2 : Hid (Below w.heap.size w ((wr.setCell ⟨g, k, none⟩ (.int .i64 (fa : Int))).setCell ⟨g, a, none⟩ (.int .i64 (fk : Int)))) := Lib.hid (Below.setCell (Below.setCell HW.out (show w.heap.size ≤ g by omega) _) (show w.heap.size ≤ g by omega) _)
          have HC2w : Hid (Kin ((wr.setCell ⟨g, k, none⟩ (.int .i64 (fa : Int))).setCell ⟨g, a, none⟩ (.int .i64 (fk : Int))) w.heap.size (.int .i64 (m : Int)) (.slice (some ⟨b1, o1, none⟩) n cap)) := Lib.hid ((HCw.out.far (by simp; omega) _).far (by simp; omega) _)
          have HR2w : Hid (Kin ((wr.setCell ⟨g, k, none⟩ (.int .i64 (fa : Int))).setCell ⟨g, a, none⟩ (.int .i64 (fk : Int))) (w.heap.size + 1) (.int .i64 0) (.slice none 0 0)) := Lib.hid ((HRw.out.far (by simp; omega) _).far (by simp; omega) _)
          have HD2w : Hid (Dig ((wr.setCell ⟨g, k, none⟩ (.int .i64 (fa : Int))).setCell ⟨g, a, none⟩ (.int .i64 (fk : Int))) d P) := Lib.hid ((HDw.out.far (by simp; omega) _).far (by simp; omega) _)
          go_wp2
          go_loopw [52] (fun jv w' => ∃ (j : Nat) (wq : World), j ≤ n ∧ jv = .int .i64 j ∧ wq = w' ∧ Hid (ICl wq g n (rI n (clr h k i j))) ∧ Hid (Kin wq w.heap.size (.int .i64 (m : Int)) (.slice (some ⟨b1, o1, none⟩) n cap)) ∧ Hid (Kin wq (w.heap.size + 1) (.int .i64 0) (.slice none 0 0)) ∧ Hid (Below w.heap.size w wq) ∧ Hid (Dig wq d P)) (fun jv _ => n - (intOf jv).toNat)
          case atStart => exact ⟨0, _, by omega, rfl, rfl, by rw [clr_zero]; exact HP2, HC2w, HR2w, Lib.hid (by repeat (first | exact HW2.out | refine Below.drew ?_ | refine Below.drewN' ?_ _)), HD2w⟩
          case round =>
            clear HI HCw HRw HW HP2 HC2w HR2w HW2 HD2w hck hckk hfa hfk hp1k hp1c HDw hd0 hd1 hd2 HIXR HFL
            obtain ⟨j, wq, hj, rfl, rfl, HI, HCw, HRw, HW, HDw⟩ := hrel
            obtain ⟨hd0, hd1, hd2⟩ := HDw.out
            by_cases hlt3 : j < n
            · obtain ⟨hcj, hfj⟩ := HI.out.cell hlt3
              obtain ⟨hcc, _⟩ := HI.out.cell hkn2
              rw [rI_get _ hlt3, clr_same] at hcj
              rw [rI_get _ hkn2, clr_k] at hcc
              have HFV : Hid (h j < 65536) := Lib.hid (HSL.out j hlt3)
              have HFK : Hid (h k < 65536) := Lib.hid (HSL.out k hkn2)
              by_cases hjk : j = k
              · have HC := Lib.hid (clr_stay (n := n) (h := h) (k := k) (i := i) (j := j) (.inl hjk))
                subst hjk
                go_wp2
                exact ⟨⟨j + 1, _, by omega, by first | rfl | go_num | (congr 1), rfl, by rw [HC.out]; exact HI, HCw, HRw, HW, HDw⟩, by show n - ((j : Int) + 1).toNat < n - (j : Int).toNat; omega⟩
              · have hne : ((j : Int) == (k : Int)) = false := by simp; omega
                have hne2 : ((j : Int) != (k : Int)) = true := by rw [bne, hne]; rfl
                have hbd := HCL.out (h j) wq HFV.out HDw.out
                cases ht : (h j).testBit i with
                | false =>
                  have HC := Lib.hid (clr_stay (n := n) (h := h) (k := k) (i := i) (j := j) (.inr ht))
                  rw [ht] at hbd
                  simp only [Bool.false_eq_true, if_false] at hbd
                  generalize h j = hh at hcj HFV hbd
                  clear ht hjk
                  go_wp2
                  exact ⟨⟨j + 1, _, by omega, by first | rfl | go_num | (congr 1), rfl, by rw [HC.out]; exact HI, HCw, HRw, HW, HDw⟩, by show n - ((j : Int) + 1).toNat < n - (j : Int).toNat; omega⟩
                | true =>
                  have HC := Lib.hid (clr_put (n := n) hlt3 hjk ht)
                  rw [ht] at hbd
                  simp only [if_true] at hbd
                  have hbx := b_xor (h j) (h k) (by have := HFV.out; omega) (by have := HFK.out; omega)
                  generalize hhx : h j ^^^ h k = xx at hbx HC
                  have HP := Lib.hid (HI.out.put hlt3 ((xx : Nat) : Int))
                  rw [HC.out] at HP
                  generalize h j = hh at hcj HFV hbd hbx hhx
                  generalize h k = hk2 at hcc HFK hbx hhx
                  have hPn : ((P : Int) == 0) = false := by simp; omega
                  have hPn2 : ((P : Int) != 0) = true := by rw [bne, hPn]; rfl
                  clear ht hhx hjk
                  go_wp2
                  exact ⟨⟨j + 1, _, by omega, by first | rfl | go_num | (congr 1), rfl, HP, Lib.hid (HCw.out.far (by simp; omega) _), Lib.hid (HRw.out.far (by simp; omega) _), Lib.hid (by repeat (first | exact HW.out | refine Below.drew ?_ | refine Below.drewN' ?_ _ | refine Below.setCell ?_ (show w.heap.size ≤ g by omega) _)), Lib.hid (HDw.out.far (by simp; omega) _)⟩, by show n - ((j : Int) + 1).toNat < n - (j : Int).toNat; omega⟩
            · obtain rfl : j = n := by omega
              go_wp2
              have hb9 := below_alloc wq (.cells #[.int .i64 (P2 : Int)] 2)
              have hgl2 := HI.out.1
              have hsW2 := HW.out.size
              exact ⟨⟨b' + 1, wq.heap.size, _, by omega, by rw [HS2.out]; first | rfl | go_num | (congr 1), rfl, rfl, Lib.hid (by rw [HS2.out]; exact HI.out.below hb9), Lib.hid (HCw.out.below hb9), Lib.hid (HRw.out.below hb9), Lib.hid (Below.next HW.out hb9), Lib.hid (by rw [← HDN.out]; exact Dig.new), by omega, by have := HRw.out.1; omega⟩, by rw [HMS.out, dgOf_at (Dig.new (x := P2))]; exact hmsr⟩
      · have hq : fnd f i n (n - k) = n := by omega
        have HS2 := Lib.hid (HS.out.trans (stp_miss hq))
        have HIX : Hid (∀ o9 cap9 : Nat, (o9 = k ∨ n = k) → Calls Try.prog 151 #[.slice (some ⟨g, o9, none⟩) (n - k) cap9, .func (.func 152) #[] #[.pointer (some ⟨d, 0, none⟩)]] wr fun e w' => e = .returned (.int .i64 (-1)) ∧ wr = w') := Lib.hid (fun o9 cap9 ho => ix_miss k n cap9 i d _ f wr (by
          rcases ho with rfl | ho
          · exact HIXR.out
          · exact ⟨HIXR.out.1, .inl (by omega)⟩) hkn hn2 HFL.out hi16 hd1 hq)
        generalize 2 ^ i = P at hd1 HDw HMS HDN hppos hp15' HCL HIX
        have hdt : (P : Int).tdiv 2 = ((P / 2 : Nat) : Int) := by rw [Int.tdiv_eq_ediv_of_nonneg (by omega)]; omega
        have hmsr : P / 2 < P := by omega
        generalize P / 2 = P2 at HDN hdt hmsr
        have hwp2 : IntKind.i64.wrap (P2 : Int) = (P2 : Int) := IntWalk.i64_in _ (by omega)
        have hpp : decide (0 < (P : Int)) = true := decide_eq_true (by omega)
        clear hfn hfle hq HS
        by_cases hck9 : cp = k
        · subst hck9
          have HIX0 : Hid (∀ cap9 : Nat, Calls Try.prog 151 #[.slice (some ⟨g, 0, none⟩) 0 cap9, .func (.func 152) #[] #[.pointer (some ⟨d, 0, none⟩)]] wr fun e w' => e = .returned (.int .i64 (-1)) ∧ wr = w') := Lib.hid (fun c => by have := HIX.out 0 c (.inr (by omega)); rw [show n - cp = 0 by omega] at this; exact this)
          go_wp2_with (first | (go_at_call 151; (with_reducible refine (HIX0.out _).mono ?_); rintro e w9 ⟨rfl, hw⟩; subst hw) | (go_at_call 151; (with_reducible refine (HIX.out 0 _ (.inr (by omega))).mono ?_); rintro e w9 ⟨rfl, hw⟩; subst hw) | fail)
          have hb9 := below_alloc wr (.cells #[.int .i64 (P2 : Int)] 2)
          exact ⟨⟨b' + 1, wr.heap.size, _, by omega, by rw [HS2.out], rfl, rfl, Lib.hid (by rw [HS2.out]; exact HI.out.below hb9), Lib.hid (HCw.out.below hb9), Lib.hid (HRw.out.below hb9), Lib.hid (Below.next HW.out hb9), Lib.hid (by rw [← HDN.out]; exact Dig.new), by omega, by omega⟩, by rw [HMS.out, dgOf_at (Dig.new (x := P2))]; exact hmsr⟩
        · go_wp2_with (first | (go_at_call 151; (with_reducible refine (HIX.out k _ (.inl rfl)).mono ?_); rintro e w9 ⟨rfl, hw⟩; subst hw) | fail)
          have hb9 := below_alloc wr (.cells #[.int .i64 (P2 : Int)] 2)
          exact ⟨⟨b' + 1, wr.heap.size, _, by omega, by rw [HS2.out], rfl, rfl, Lib.hid (by rw [HS2.out]; exact HI.out.below hb9), Lib.hid (HCw.out.below hb9), Lib.hid (HRw.out.below hb9), Lib.hid (Below.next HW.out hb9), Lib.hid (by rw [← HDN.out]; exact Dig.new), by omega, by omega⟩, by rw [HMS.out, dgOf_at (Dig.new (x := P2))]; exact hmsr⟩
    · obtain rfl : b' = m := by omega
      have hz : dg b' b' = 0 := by unfold dg; rw [if_neg (by omega)]
      rw [hz] at hd1
      obtain ⟨hP, hp0, hp1, hpf0, hpf1⟩ := HCw.out
      obtain ⟨hQ, hq0, hq1, hqf0, hqf1⟩ := HRw.out
      go_wp2
      obtain ⟨_, hr1, hr2⟩ := HRw.out.res (.int .i64 (b' : Int)) (.slice (some ⟨g, 0, none⟩) n cp)
      exact bodyPost_ret (v := .tuple #[.agg #[.int .i64 (b' : Int), .slice (some ⟨g, 0, none⟩) n cp], .bool true]) (by simp [results, Try.results111, go_sem, hr1, hr2]) rfl
        ⟨g, cp, rfl, ICl.new ((HI.out.far (by simp; omega) _).far (by simp; omega) _) (by omega) (Below.setCell (Below.setCell HW.out (by simp) _) (by simp) _)⟩
end Go.Proofs.Ytaefmffmjbabcaa
