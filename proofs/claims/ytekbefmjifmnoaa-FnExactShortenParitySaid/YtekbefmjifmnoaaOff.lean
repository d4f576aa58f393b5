
/- Results whose slice begins behind the block's first cells: the laws' helpers. -/
import Derived.Test.YtekbefmjifmnoaaCoy
import Derived.Test.YtekbefmjifmnoaaEch
namespace Go.Proofs.Ytekbefmjifmnoaa
open Go.Proofs.Ytekbefmjifmnoaa.Flo Go.RowKit Go.Proofs.Ytekbefmjifmnoaa.Pr

def offL (o : Nat) (k0 : Int) (n : Nat) (zs : List Int) : List Int := zs.take o ++ marksI k0 (n - o)
theorem offL_len {o n : Nat} {k0 : Int} {zs : List Int} (hl : zs.length = n) (ho : o ≤ n) : (offL o k0 n zs).length = n := by
  unfold offL; rw [List.length_append, List.length_take, marksI_len]; omega
theorem offL_lt {o n j : Nat} {k0 : Int} {zs : List Int} (hl : zs.length = n) (ho : o ≤ n) (h : j < o) : (offL o k0 n zs).getD j 0 = zs.getD j 0 := by
  unfold offL
  rw [List.getD_eq_getElem?_getD, List.getD_eq_getElem?_getD, List.getElem?_append_left (by rw [List.length_take]; omega), List.getElem?_take_of_lt h]
theorem offL_ge {o n k : Nat} {k0 : Int} {zs : List Int} (hl : zs.length = n) (ho : o ≤ n) (h : o + k < n) : (offL o k0 n zs).getD (o + k) 0 = k0 + (k : Int) := by
  unfold offL
  rw [List.getD_eq_getElem?_getD, List.getElem?_append_right (by rw [List.length_take]; omega), List.length_take, show o + k - min o zs.length = k by omega, ← List.getD_eq_getElem?_getD, marksI_get k0 (by omega)]
theorem irow_off {w : World} {p o n : Nat} {zs : List Int} (h : IRow w (some ⟨p, 0, none⟩) n zs) (ho : o ≤ n) : IRow w (some ⟨p, o, none⟩) (n - o) (zs.drop o) := by
  refine ⟨by rw [List.length_drop, h.1], ?_⟩
  rcases h.2 with h0 | ⟨b, off, e, hb, hc⟩
  · exact .inl (by omega)
  · injection e with e
    injection e with e1 e2
    subst e1; subst e2
    refine .inr ⟨p, o, rfl, hb, fun j hj => ?_⟩
    have := hc (o + j) (by omega)
    rw [Nat.zero_add] at this
    rw [this, List.getD_eq_getElem?_getD, List.getD_eq_getElem?_getD, List.getElem?_drop]
set_option maxRecDepth 100000 in
set_option maxHeartbeats 2000000 in
theorem markMIo (o p n cap : Nat) (zs : List Int) (k0 : Int) (w w0 : World) (L : List (Nat × Ent)) (i : Nat) (h : Mine w0 w L) (hi : L[i]? = some (p, .il n zs)) (ho : o ≤ n) (hn : n ≤ 1048576) (hk0 : 0 ≤ k0 ∧ k0 ≤ 4194304) :
    Calls Try.prog 20 #[.slice (some ⟨p, o, none⟩) (n - o) cap, .int .i64 k0] w fun e w' => e = .returned (.int .i64 (k0 + ((n - o : Nat) : Int))) ∧ Mine w0 w' (L.set i (p, .il n (offL o k0 n zs))) := by
  have HS := Lib.hid h
  have HI := Lib.hid hi
  have hok := (h.2.1 _ (List.mem_of_getElem? hi)).2.2
  have hlen : zs.length = n := hok.1
  have HP : Hid (PM w p (.il n zs) (.il n (offL o k0 n zs)) (o + 0) w) := Lib.hid ⟨rfl, fun a _ => ⟨rfl, rfl⟩, fun j hj => by
    have h2 := hok.2 j hj
    refine ⟨?_, h2.2⟩
    rw [h2.1]
    by_cases e : j < o + 0
    · rw [if_pos e]
      show some (Value.int .i64 (zs.getD j 0)) = some (Value.int .i64 ((offL o k0 n zs).getD j 0))
      rw [offL_lt hlen ho (by omega)]
    · rw [if_neg e], fun B _ => Below.refl _ _⟩
  obtain ⟨K, rfl⟩ : ∃ K, n = o + K := ⟨n - o, by omega⟩
  rw [Nat.add_sub_cancel_left]
  have HG : Hid (∀ k, k < K → (offL o k0 (o + K) zs).getD (o + k) 0 = k0 + (k : Int)) := Lib.hid (fun k hk => offL_ge hlen ho (by omega))
  have HLN := Lib.hid (offL_len (k0 := k0) hlen ho)
  obtain ⟨hk1, hk2⟩ := hk0
  generalize offL o k0 (o + K) zs = M at HP HG HLN ⊢
  clear h hi hok hlen
  go_enter Try.func20, Try.ntmps20
  go_wp2
  go_loopw [1, 5] (fun kv iv w' => ∃ (k : Nat) (wr : World), k ≤ K ∧ kv = .int .i64 (k0 + (k : Int)) ∧ iv = .int .i64 k ∧ wr = w' ∧ Hid (PM w p (.il (o + K) zs) (.il (o + K) M) (o + k) wr)) (fun _ iv _ => K - (intOf iv).toNat)
  case atStart => exact ⟨0, _, by omega, by simp, rfl, rfl, HP⟩
  case round =>
    obtain ⟨k, wr, hk, rfl, rfl, rfl, HM⟩ := hrel
    by_cases hlt : k < K
    · have hck := (HM.out.2.2.1 (o + k) (by show o + k < o + K; omega)).1
      have hfz := (HM.out.2.2.1 (o + k) (by show o + k < o + K; omega)).2
      have HN := Lib.hid (HM.out.step (by show o + k < o + K; omega) (.int .i64 (k0 + (k : Int))) (by show _ = Value.int .i64 (M.getD (o + k) 0); rw [HG.out k hlt]))
      generalize (if o + k < o + k then (Ent.il (o + K) M).cell (o + k) else (Ent.il (o + K) zs).cell (o + k)) = old at hck
      go_wp2
      all_goals
        exact ⟨⟨k + 1, _, by omega, by first | rfl | go_num | (congr 1), by first | rfl | go_num | (congr 1), rfl, HN⟩, by show K - ((k : Int) + 1).toNat < K - (k : Int).toNat; omega⟩
    · obtain rfl : k = K := by omega
      have HR := Lib.hid (HS.out.mark (old := .il (o + k) zs) (new := .il (o + k) M) HI.out rfl rfl HLN.out (fun _ _ h => h) HM.out)
      go_wp2
      go_ret
      exact ⟨ret_i rfl, HR.out⟩
set_option maxRecDepth 100000 in
set_option maxHeartbeats 2000000 in
theorem heldMIo (o p n cap : Nat) (zs : List Int) (k0 : Int) (w w0 : World) (L : List (Nat × Ent)) (h : Mine w0 w L) (hm : (p, .il n (offL o k0 n zs)) ∈ L) (hl : zs.length = n) (ho : o ≤ n) (hn : n ≤ 1048576) (hk0 : 0 ≤ k0 ∧ k0 ≤ 4194304) :
    Calls Try.prog 21 #[.slice (some ⟨p, o, none⟩) (n - o) cap, .int .i64 k0] w fun e w' => e = .returned (.int .i64 (k0 + ((n - o : Nat) : Int))) ∧ Mine w0 w' L := by
  have HR := Lib.hid (h.irow hm)
  have HS := Lib.hid h
  obtain ⟨K, rfl⟩ : ∃ K, n = o + K := ⟨n - o, by omega⟩
  rw [Nat.add_sub_cancel_left]
  have HG : Hid (∀ k, k < K → (offL o k0 (o + K) zs).getD (o + k) 0 = k0 + (k : Int)) := Lib.hid (fun k hk => offL_ge hl ho (by omega))
  obtain ⟨hk1, hk2⟩ := hk0
  generalize offL o k0 (o + K) zs = M at HR HG hm
  clear h hm hl
  go_enter Try.func21, Try.ntmps21
  go_wp2
  go_loopw [1, 5] (fun kv iv w' => ∃ k q : Nat, k ≤ K ∧ kv = .int .i64 (k0 + (k : Int)) ∧ iv = .int .i64 k ∧ w' = w.drewN q) (fun _ iv _ => K - (intOf iv).toNat)
  case atStart => exact ⟨0, 0, by omega, by simp, rfl, rfl⟩
  case round =>
    obtain ⟨k, q, hk, rfl, rfl, rfl⟩ := hrel
    by_cases hlt : k < K
    · have hck : w.cell? ⟨p, o + k, none⟩ = some (.int .i64 (k0 + (k : Int))) := by
        rcases HR.out.2 with h0 | ⟨b, off, e, _, hc⟩
        · omega
        · injection e with e
          injection e with e1 e2
          subst e1; subst e2
          have := hc (o + k) (by omega)
          rw [Nat.zero_add, HG.out k hlt] at this
          exact this
      go_wp2
      all_goals
        exact ⟨⟨k + 1, _, by omega, by first | rfl | go_num | (congr 1), by first | rfl | go_num | (congr 1), rfl⟩, by show K - ((k : Int) + 1).toNat < K - (k : Int).toNat; omega⟩
    · obtain rfl : k = K := by omega
      go_wp2
      go_ret
      exact ⟨ret_i rfl, HS.out.drewN _⟩
set_option maxHeartbeats 2000000 in
theorem eqYMo (o : Nat) (r : Int) (p q n cap capb : Nat) (zs : List Int) (w w0 : World) (L : List (Nat × Ent)) (h : Mine w0 w L) (ha : (p, .il n zs) ∈ L) (hb : (q, .il n zs) ∈ L) (ho : o ≤ n) (hn : n ≤ 1048576) :
    Calls Try.prog 15 #[.agg #[.int .i64 r, .slice (some ⟨p, o, none⟩) (n - o) cap], .agg #[.int .i64 r, .slice (some ⟨q, o, none⟩) (n - o) capb]] w fun e w' => e = .returned (.bool true) ∧ Mine w0 w' L := by
  have HA := Lib.hid (irow_off (h.irow ha) ho)
  have HB := Lib.hid (irow_off (h.irow hb) ho)
  have HS := Lib.hid h
  have hK : n - o ≤ 1048576 := by omega
  generalize n - o = K at HA HB hK ⊢
  clear ha hb h
  go_enter Try.func15, Try.ntmps15
  go_wp2_with (first | (go_at_call 18; refine (eqI _ _ _ _ _ (zs.drop o) _ ((HA.out.alloc _).alloc _) ((HB.out.alloc _).alloc _) hK).mono ?_; rintro e w2 ⟨rfl, q, rfl⟩) | go_in)
  go_ret
  exact ⟨rfl, HS.out.below (by repeat (first | exact Below.refl _ _ | refine Below.drewN' ?_ _ | refine Below.alloc ?_ (by simp <;> omega) _))⟩
set_option maxHeartbeats 2000000 in
theorem markYMo (o : Nat) (r : Int) (p n cap : Nat) (zs : List Int) (k0 : Int) (w w0 : World) (L : List (Nat × Ent)) (i : Nat) (h : Mine w0 w L) (hi : L[i]? = some (p, .il n zs)) (ho : o ≤ n) (hn : n ≤ 1048576) (hk0 : 0 ≤ k0 ∧ k0 ≤ 4194304) :
    Calls Try.prog 19 #[.agg #[.int .i64 r, .slice (some ⟨p, o, none⟩) (n - o) cap], .int .i64 k0] w fun e w' => e = .returned (.int .i64 (k0 + ((n - o : Nat) : Int))) ∧ Mine w0 w' (L.set i (p, .il n (offL o k0 n zs))) := by
  have HS := Lib.hid (h.below (belowA w (.cells #[.int .i64 r, .slice (some ⟨p, o, none⟩) (n - o) cap] 28)))
  have HI := Lib.hid hi
  have HM : Hid (∀ w2 : World, Mine w0 w2 L → Calls Try.prog 20 #[.slice (some ⟨p, o, none⟩) (n - o) cap, .int .i64 k0] w2 fun e w' => e = .returned (.int .i64 (k0 + ((n - o : Nat) : Int))) ∧ Mine w0 w' (L.set i (p, .il n (offL o k0 n zs)))) := Lib.hid (fun w2 h2 => markMIo o p n cap zs k0 w2 w0 L i h2 hi ho hn hk0)
  generalize n - o = K at HM HS ⊢
  obtain ⟨hk1, hk2⟩ := hk0
  clear h hi
  go_enter Try.func19, Try.ntmps19
  go_wp2_with (first | (go_at_call 20; (with_reducible refine (HM.out _ HS.out).mono ?_); rintro e w2 ⟨rfl, hs⟩; have HS := Lib.hid hs; clear hs) | go_in)
  go_ret
  exact ⟨rfl, HS.out⟩
set_option maxHeartbeats 2000000 in
theorem heldYMo (o : Nat) (r : Int) (p n cap : Nat) (zs : List Int) (k0 : Int) (w w0 : World) (L : List (Nat × Ent)) (h : Mine w0 w L) (hm : (p, .il n (offL o k0 n zs)) ∈ L) (hl : zs.length = n) (ho : o ≤ n) (hn : n ≤ 1048576) (hk0 : 0 ≤ k0 ∧ k0 ≤ 4194304) :
    Calls Try.prog 26 #[.agg #[.int .i64 r, .slice (some ⟨p, o, none⟩) (n - o) cap], .int .i64 k0] w fun e w' => e = .returned (.int .i64 (k0 + ((n - o : Nat) : Int))) ∧ Mine w0 w' L := by
  have HS := Lib.hid (h.below (belowA w (.cells #[.int .i64 r, .slice (some ⟨p, o, none⟩) (n - o) cap] 28)))
  have HM : Hid (∀ w2 : World, Mine w0 w2 L → Calls Try.prog 21 #[.slice (some ⟨p, o, none⟩) (n - o) cap, .int .i64 k0] w2 fun e w' => e = .returned (.int .i64 (k0 + ((n - o : Nat) : Int))) ∧ Mine w0 w' L) := Lib.hid (fun w2 h2 => heldMIo o p n cap zs k0 w2 w0 L h2 hm hl ho hn hk0)
  generalize n - o = K at HM HS ⊢
  obtain ⟨hk1, hk2⟩ := hk0
  clear h hm
  go_enter Try.func26, Try.ntmps26
  go_wp2_with (first | (go_at_call 21; (with_reducible refine (HM.out _ HS.out).mono ?_); rintro e w2 ⟨rfl, hs⟩; have HS := Lib.hid hs; clear hs) | go_in)
  go_ret
  exact ⟨rfl, HS.out⟩
end Go.Proofs.Ytekbefmjifmnoaa
