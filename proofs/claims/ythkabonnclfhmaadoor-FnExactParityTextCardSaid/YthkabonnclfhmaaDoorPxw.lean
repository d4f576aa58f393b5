
/- ParityText: the functions. -/
import Derived.Test.YthkabonnclfhmaaDoorCxw
import Derived.Deep.RegionHeld3
namespace Go.Proofs.YthkabonnclfhmaaDoor
open Go.Proofs.YthkabonnclfhmaaDoor.Flo Go.RowKit Go.Proofs.YthkabonnclfhmaaDoor.Dcn

theorem inVal_par {r : Int} {zs : List Int} {n : Nat} (h : paB r zs n = true) : ∀ j, j < n → inVal (zs.getD j 0) = true := fun j hj => by
  obtain ⟨⟨h1, h2⟩, h3, h4, _⟩ := pa_out h
  have h5 := h4 j hj
  have h6 : r.toNat ≤ 16 := by omega
  have h7 : 2 ^ r.toNat ≤ 2 ^ 16 := Nat.pow_le_pow_right (by omega) h6
  have e16 : (2 : Nat) ^ 16 = 65536 := rfl
  have h8 : (2 : Int) ^ r.toNat ≤ 65536 := by
    have e : (2 : Int) ^ r.toNat = ((2 ^ r.toNat : Nat) : Int) := by rw [Int.natCast_pow]; rfl
    rw [e]; omega
  exact inVal_in (by omega) (by omega)
theorem ltA_par {r : Int} {zs : List Int} {n : Nat} (h : paB r zs n = true) : ltA zs n = .tuple #[.string (txB (ltx zs)), .bool true] :=
  ltA_yes (by have := (pa_out h).2.1; omega) (inVal_par h)
theorem ltx_len {zs : List Int} {n : Nat} (hl : zs.length = n) (hn : n ≤ 64) (h : ∀ j, j < n → inVal (zs.getD j 0) = true) : (ltx zs).length ≤ 70000 := by
  unfold ltx ctx
  split
  · simp
  · have h1 := join_bd 1000 (zs.map Lib.itoa) (itoa_in zs n hl h)
    have h2 : 1001 * (zs.map Lib.itoa).length ≤ 1001 * 64 := Nat.mul_le_mul_left _ (by rw [List.length_map]; omega)
    omega
/-- The text of a parity. -/
def ptx (r : Int) (zs : List Int) : List UInt8 := Lib.itoa r ++ 59 :: ltx zs
/-- What ParityText answers. -/
def ptA (r : Int) (zs : List Int) (n : Nat) : Value := if paB r zs n then .tuple #[.string (txB (ptx r zs)), .bool true] else .tuple #[.string ⟨#[]⟩, .bool false]
theorem ptA_yes {r : Int} {zs : List Int} {n : Nat} (h : paB r zs n = true) : ptA r zs n = .tuple #[.string (txB (ptx r zs)), .bool true] := by unfold ptA; rw [h]; rfl
theorem ptA_no {r : Int} {zs : List Int} {n : Nat} (h : paB r zs n = false) : ptA r zs n = .tuple #[.string ⟨#[]⟩, .bool false] := by unfold ptA; rw [h]; rfl
set_option maxRecDepth 100000 in
set_option maxHeartbeats 4000000 in
theorem pp_spec (p : Nat) (r : Int) (a : Option Addr) (n cap : Nat) (zs : List Int) (w : World) (h : IRow w a n zs) (hps : p < w.heap.size) (h0 : w.cell? ⟨p, 0, none⟩ = some (.int .i64 r)) (hp : w.cell? ⟨p, 1, none⟩ = some (.slice a n cap)) (hok : paB r zs n = true) :
    Calls Tryd.prog 85 #[.pointer (some ⟨p, 0, none⟩)] w fun e w' => e = .returned (.string (txB (ptx r zs))) ∧ Below w.heap.size w w' := by
  have hpo := pa_out hok
  have hr17 := (itoa_len17 r (by omega) (by omega)).2
  have hlt := ltx_len h.1 (by omega) (inVal_par hok)
  have HD := Lib.hid (fun W => dec_spec r (by omega) (by omega) W)
  have HT := Lib.hid (fun W (hb : Below w.heap.size w W) => ltt_spec a n cap zs W (h.below hb) (by omega) (inVal_par hok))
  have HPX : Hid (ptx r zs = Lib.itoa r ++ 59 :: ltx zs) := Lib.hid rfl
  have H0 := Lib.hid h0
  have H1 := Lib.hid hp
  have HPS := Lib.hid hps
  generalize Lib.itoa r = R at HD HPX hr17
  generalize ltx zs = T at HT HPX hlt
  generalize ptx r zs = X at HPX
  have hr1 : ∀ w : World, (Op.stringOp .add (txB R) ⟨#[59]⟩).run Tryd.prog w = .ok (.string (txB (R ++ [59]))) w := fun w => run_tx Tryd.prog R [59] (by simp; omega) w
  have hr2 : ∀ w : World, (Op.stringOp .add (txB (R ++ [59])) (txB T)).run Tryd.prog w = .ok (.string (txB X)) w := fun w => by rw [HPX.out]; have := run_tx Tryd.prog (R ++ [59]) T (by simp; omega) w; simpa using this
  have hbr : Below w.heap.size w w := Below.refl _ _
  clear h hok hpo hps hr17 hlt
  go_enter Tryd.func85, Tryd.ntmps85
  go_wp2
  go_region_held3 (fun w' => w'.cell? ⟨p, 0, none⟩ = some (.int .i64 r) ∧ w'.cell? ⟨p, 1, none⟩ = some (.slice a n cap))
    (first | exact ⟨by assumption, by assumption⟩ | go_keep)
    (first
      | (go_at_call 62; refine (HD.out _).mono ?_; rintro e w2 ⟨rfl, hb⟩; have hbn : Below w.heap.size w w2 := Below.next (by first | assumption | exact Below.refl _ _ | exact Below.drew (Below.refl _ _) | exact Below.drewN' (Below.refl _ _) _ | (refine Below.drew ?_; assumption) | (refine Below.drewN' ?_ _; assumption)) hb; have hc0 : w2.cell? ⟨p, 0, none⟩ = some (.int .i64 r) := (by rw [hbn.cell (p := ⟨p, 0, none⟩) HPS.out]; exact H0.out); have hc1 : w2.cell? ⟨p, 1, none⟩ = some (.slice a n cap) := (by rw [hbn.cell (p := ⟨p, 1, none⟩) HPS.out]; exact H1.out))
      | (go_at_call 68; refine (HT.out _ (by first | assumption | exact Below.refl _ _ | exact Below.drew (Below.refl _ _) | exact Below.drewN' (Below.refl _ _) _ | (refine Below.drew ?_; assumption) | (refine Below.drewN' ?_ _; assumption))).mono ?_; rintro e w2 ⟨rfl, hb⟩; have hbn : Below w.heap.size w w2 := Below.next (by first | assumption | exact Below.refl _ _ | exact Below.drew (Below.refl _ _) | exact Below.drewN' (Below.refl _ _) _ | (refine Below.drew ?_; assumption) | (refine Below.drewN' ?_ _; assumption)) hb; have hc0 : w2.cell? ⟨p, 0, none⟩ = some (.int .i64 r) := (by rw [hbn.cell (p := ⟨p, 0, none⟩) HPS.out]; exact H0.out); have hc1 : w2.cell? ⟨p, 1, none⟩ = some (.slice a n cap) := (by rw [hbn.cell (p := ⟨p, 1, none⟩) HPS.out]; exact H1.out))
      | fail)
  all_goals
    go_wp2
    go_ret
    exact ⟨rfl, (by first | assumption | exact Below.refl _ _ | exact Below.drew (Below.refl _ _) | exact Below.drewN' (Below.refl _ _) _ | (refine Below.drew ?_; assumption) | (refine Below.drewN' ?_ _; assumption))⟩
set_option maxRecDepth 100000 in
set_option maxHeartbeats 2000000 in
theorem pxt_spec (r : Int) (a : Option Addr) (n cap : Nat) (zs : List Int) (w : World) (h : IRow w a n zs) (hn : n ≤ 1048576) :
    Calls Tryd.prog 45 #[.agg #[.int .i64 r, .slice a n cap]] w fun e w' => e = .returned (ptA r zs n) ∧ Below w.heap.size w w' := by
  have HC : ∀ k v, (#[.int .i64 r, .slice a n cap] : Array Value)[k]? = some v → (w.alloc (.cells #[.int .i64 r, .slice a n cap] 59)).cell? ⟨w.heap.size, k, none⟩ = some v := fun k v e => by rw [World.cell?_alloc_at _ _ _ _ rfl]; exact e
  have HI := Lib.hid (pi_spec w.heap.size r a n cap zs (w.alloc (.cells #[.int .i64 r, .slice a n cap] 59)) (h.alloc _) hn (by simp) (HC 0 _ rfl) (HC 1 _ rfl))
  cases hok : paB r zs n
  · have HE := Lib.hid (ptA_no hok)
    rw [hok] at HI
    clear h hok HC
    go_enter Tryd.func45, Tryd.ntmps45
    go_wp2_with (first | (go_at_call 84; refine HI.out.mono ?_; rintro e w2 ⟨rfl, hb2⟩; have HB := Lib.hid (Below.next (belowD _ _) hb2); clear hb2) | fail)
    go_ret2
    exact ⟨by rw [HE.out]; rfl, HB.out⟩
  · have HE := Lib.hid (ptA_yes hok)
    rw [hok] at HI
    have HT := Lib.hid (fun W (hb : Below (w.alloc (.cells #[.int .i64 r, .slice a n cap] 59)).heap.size (w.alloc (.cells #[.int .i64 r, .slice a n cap] 59)) W) =>
      pp_spec w.heap.size r a n cap zs W ((h.alloc _).below hb) (Nat.lt_of_lt_of_le (by simp) hb.size) (by rw [hb.cell (p := ⟨w.heap.size, 0, none⟩) (by simp)]; exact HC 0 _ rfl) (by rw [hb.cell (p := ⟨w.heap.size, 1, none⟩) (by simp)]; exact HC 1 _ rfl) hok)
    clear h hok HC
    generalize ptx r zs = T at HE HT
    go_enter Tryd.func45, Tryd.ntmps45
    go_wp2_with (first | (go_at_call 84; refine HI.out.mono ?_; rintro e w2 ⟨rfl, hb2⟩; have HB := Lib.hid hb2; clear hb2) | (go_at_call 85; refine (HT.out _ HB.out).mono ?_; rintro e w3 ⟨rfl, hb3⟩; have HB3 := Lib.hid (Below.next (Below.next (belowD _ _) HB.out) hb3); clear hb3) | fail)
    go_ret2
    exact ⟨by rw [HE.out]; rfl, HB3.out⟩
set_option maxRecDepth 100000 in
set_option maxHeartbeats 2000000 in
theorem pxt_impl (r : Int) (a : Option Addr) (n cap : Nat) (zs : List Int) (w0 w : World) (h : IRow w a n zs) (hn : n ≤ 1048576) (hp : Pow w0) (hb : Below w0.heap.size w0 w) :
    Calls Tryd.prog 47 #[.agg #[.int .i64 r, .slice a n cap]] w fun e w' => e = .returned (ptA r zs n) ∧ Below w.heap.size w w' := by
  have HC : ∀ k v, (#[.int .i64 r, .slice a n cap] : Array Value)[k]? = some v → (w.alloc (.cells #[.int .i64 r, .slice a n cap] 59)).cell? ⟨w.heap.size, k, none⟩ = some v := fun k v e => by rw [World.cell?_alloc_at _ _ _ _ rfl]; exact e
  have H0 := Lib.hid (HC 0 _ rfl)
  have H1 := Lib.hid (HC 1 _ rfl)
  have HI := Lib.hid (vp_impl r a n cap zs (w.alloc (.cells #[.int .i64 r, .slice a n cap] 59)) (h.alloc _) hn)
  clear HC
  cases hok : paB r zs n
  · have HE := Lib.hid (ptA_no hok)
    rw [hok] at HI
    clear h hok hp hb
    go_enter Tryd.func47, Tryd.ntmps47
    go_wp2_with (first | (go_at_call 86; refine HI.out.mono ?_; rintro e w2 ⟨rfl, hb2⟩; have HB := Lib.hid (Below.next (belowD _ _) hb2); clear hb2) | fail)
    go_ret2
    exact ⟨by rw [HE.out]; rfl, HB.out⟩
  · have HE := Lib.hid (ptA_yes hok)
    rw [hok] at HI
    have hpo := pa_out hok
    have hr17 := (itoa_len17 r (by omega) (by omega)).2
    have hlt := ltx_len h.1 (by omega) (inVal_par hok)
    have HT := Lib.hid (fun W (h1 : Below w.heap.size w W) => lt_impl a n cap zs w0 W (h.below h1) hn hp (Below.next hb h1))
    rw [ltA_par hok] at HT
    have HD := Lib.hid (fun W (h1 : Below w.heap.size w W) => dec_impl r (by omega) (by omega) w0 W hp (Below.next hb h1))
    have HPX : Hid (ptx r zs = Lib.itoa r ++ 59 :: ltx zs) := Lib.hid rfl
    generalize Lib.itoa r = R at HD HPX hr17
    generalize ltx zs = T at HT HPX hlt
    generalize ptx r zs = X at HPX HE
    have hr1 : ∀ w : World, (Op.stringOp .add (txB R) ⟨#[59]⟩).run Tryd.prog w = .ok (.string (txB (R ++ [59]))) w := fun w => run_tx Tryd.prog R [59] (by simp; omega) w
    have hr2 : ∀ w : World, (Op.stringOp .add (txB (R ++ [59])) (txB T)).run Tryd.prog w = .ok (.string (txB X)) w := fun w => by rw [HPX.out]; have := run_tx Tryd.prog (R ++ [59]) T (by simp; omega) w; simpa using this
    clear h hok hp hb hpo hr17 hlt
    go_enter Tryd.func47, Tryd.ntmps47
    go_wp2_with (first
      | (go_at_call 86; refine HI.out.mono ?_; rintro e w2 ⟨rfl, hb2⟩; have hc1 : w2.cell? ⟨w.heap.size, 1, none⟩ = some (.slice a n cap) := (by rw [hb2.cell (p := ⟨w.heap.size, 1, none⟩) (by simp)]; exact H1.out); have hc0 : w2.cell? ⟨w.heap.size, 0, none⟩ = some (.int .i64 r) := (by rw [hb2.cell (p := ⟨w.heap.size, 0, none⟩) (by simp)]; exact H0.out); have HB1 := Lib.hid hb2; have HB := Lib.hid (Below.next (belowD _ _) hb2); clear hb2)
      | (go_at_call 21; refine (HT.out _ HB.out).mono ?_; rintro e w3 ⟨rfl, hb3⟩; have hd0 : w3.cell? ⟨w.heap.size, 0, none⟩ = some (.int .i64 r) := (by rw [hb3.cell (p := ⟨w.heap.size, 0, none⟩) (Nat.lt_of_lt_of_le (by simp) HB1.out.size)]; exact hc0); have HB3 := Lib.hid (Below.next HB.out hb3); clear hb3)
      | (go_at_call 16; refine (HD.out _ HB3.out).mono ?_; rintro e w4 ⟨rfl, hb4⟩; have HB4 := Lib.hid (Below.next HB3.out hb4); clear hb4)
      | fail)
    go_ret2
    exact ⟨by rw [HE.out]; rfl, HB4.out⟩
end Go.Proofs.YthkabonnclfhmaaDoor
