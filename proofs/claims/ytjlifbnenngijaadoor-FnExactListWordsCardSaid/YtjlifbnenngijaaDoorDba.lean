
/- DecodeBits, InCode: what both answer. -/
import Derived.Test.YtjlifbnenngijaaDoorDbi
set_option linter.unusedVariables false
namespace Go.Proofs.YtjlifbnenngijaaDoor
open Go.Proofs.YtjlifbnenngijaaDoor.Flo Go.RowKit Go.Shelf Go.Proofs.YtjlifbnenngijaaDoor.Pr
theorem dcV_no {r : Int} {zs : List Int} {n : Nat} {x : Int} (h : dcB r zs n x = false) : dcV r zs n x = 0 := by
  unfold dcB at h
  unfold dcV
  cases hd : dcO r zs n x with
  | none => rfl
  | some m => rw [hd] at h; cases h
theorem ic_f {r : Int} {zs : List Int} {n : Nat} {x : Int} (h : icB r zs n x = false) : dcB r zs n x = false := by
  unfold dcB
  rcases icB_no h with h1 | ⟨h1, h2⟩
  · rw [dc_f h1]; rfl
  · rw [dc_w h1 h2]; rfl
theorem db_impl (r : Int) (a : Option Addr) (n cap : Nat) (zs : List Int) (x : Int) (w0 w : World) (hp : Db w0) (hb0 : Below w0.heap.size w0 w) (h : IRow w a n zs) (hn : n ≤ 1048576) : Calls Tryd.prog 24 #[.agg #[.int .i64 r, .slice a n cap], .int .i64 x] w fun e w' => e = .returned (.tuple #[.int .i64 (dcV r zs n x), .bool (dcB r zs n x)]) ∧ Below w.heap.size w w' := by
  unfold dcV dcB
  cases hok : paB r zs n with
  | false => rw [dc_f hok]; exact db_implF r a n cap zs x w h hn hok
  | true =>
    rw [dc_t hok]
    obtain ⟨hn1, hn8⟩ := (pa_out hok).2.1
    obtain ⟨b1, o1, rfl⟩ := irow_some h hn1
    exact db_implT r b1 o1 n cap zs x w0 w hp hb0 h hn8 hok
set_option maxRecDepth 100000 in
set_option maxHeartbeats 4000000 in
theorem ic_implA (r : Int) (a : Option Addr) (n cap : Nat) (zs : List Int) (x : Int) (w0 w : World) (hp : Db w0) (hb0 : Below w0.heap.size w0 w) (h : IRow w a n zs) (hn : n ≤ 1048576) (hok : paB r zs n = false) : Calls Tryd.prog 22 #[.agg #[.int .i64 r, .slice a n cap], .int .i64 x] w fun e w' => e = .returned (.tuple #[.bool false, .bool false]) ∧ Below w.heap.size w w' := by
  have HC := Lib.hid (Kin.new (w := w) (x := .int .i64 r) (y := .slice a n cap) (T := 24))
  have HA := Lib.hid (h.alloc (.cells #[.int .i64 r, .slice a n cap] 24))
  have HIS : Hid (Calls Tryd.prog 52 #[.agg #[.int .i64 r, .slice a n cap]] (w.alloc (.cells #[.int .i64 r, .slice a n cap] 24)) fun e w' => e = .returned (.bool false) ∧ Below (w.alloc (.cells #[.int .i64 r, .slice a n cap] 24)).heap.size (w.alloc (.cells #[.int .i64 r, .slice a n cap] 24)) w') := Lib.hid (by have := vp_impl r a n cap zs (w.alloc (.cells #[.int .i64 r, .slice a n cap] 24)) (h.alloc _) hn; rw [hok] at this; exact this)
  clear h hok
  go_enter Tryd.func22, Tryd.ntmps22
  go_wp2_with (first | (go_at_call 52; (with_reducible refine HIS.out.mono ?_); rintro e w2 ⟨rfl, hb⟩; have HB := Lib.hid (Below.next (below_alloc _ _ : Below w.heap.size w (w.alloc (.cells #[.int .i64 r, .slice a n cap] 24))) hb); have HA2 := Lib.hid (HA.out.below hb); have HK := Lib.hid (HC.out.below hb); have hp0 := HK.out.2.1; have hp1 := HK.out.2.2.1; have HP1 := Lib.hid hp1; clear hb) | fail)
  exact bodyPost_ret (v := .tuple #[.bool false, .bool false]) (by simp [results, Tryd.results22, go_sem]) rfl ⟨rfl, HB.out⟩
set_option maxRecDepth 100000 in
set_option maxHeartbeats 4000000 in
theorem ic_implN (r : Int) (a : Option Addr) (n cap : Nat) (zs : List Int) (x : Int) (w0 w : World) (hp : Db w0) (hb0 : Below w0.heap.size w0 w) (h : IRow w a n zs) (hn : n ≤ 1048576) (hok : paB r zs n = true) (hwb : woB x r.toNat = false) : Calls Tryd.prog 22 #[.agg #[.int .i64 r, .slice a n cap], .int .i64 x] w fun e w' => e = .returned (.tuple #[.bool false, .bool false]) ∧ Below w.heap.size w w' := by
  obtain ⟨m, rfl⟩ : ∃ m : Nat, r = (m : Int) := ⟨r.toNat, by have := (pa_out hok).1; omega⟩
  have hm16 : m ≤ 16 := by have := (pa_out hok).1.2; omega
  rw [Int.toNat_natCast] at hwb
  have HWO : Hid (∀ w3 : World, Calls Tryd.prog 53 #[.int .i64 x, .int .i64 (m : Int)] w3 fun e w' => e = .returned (.bool false) ∧ w3 = w') := Lib.hid (fun w3 => by have := word_impl x m w3 hm16; rw [hwb] at this; exact this)
  have HC := Lib.hid (Kin.new (w := w) (x := .int .i64 (m : Int)) (y := .slice a n cap) (T := 24))
  have HA := Lib.hid (h.alloc (.cells #[.int .i64 (m : Int), .slice a n cap] 24))
  have HIS : Hid (Calls Tryd.prog 52 #[.agg #[.int .i64 (m : Int), .slice a n cap]] (w.alloc (.cells #[.int .i64 (m : Int), .slice a n cap] 24)) fun e w' => e = .returned (.bool true) ∧ Below (w.alloc (.cells #[.int .i64 (m : Int), .slice a n cap] 24)).heap.size (w.alloc (.cells #[.int .i64 (m : Int), .slice a n cap] 24)) w') := Lib.hid (by have := vp_impl (m : Int) a n cap zs (w.alloc (.cells #[.int .i64 (m : Int), .slice a n cap] 24)) (h.alloc _) hn; rw [hok] at this; exact this)
  clear h hok hwb
  go_enter Tryd.func22, Tryd.ntmps22
  go_wp2_with (first | (go_at_call 52; (with_reducible refine HIS.out.mono ?_); rintro e w2 ⟨rfl, hb⟩; have HB := Lib.hid (Below.next (below_alloc _ _ : Below w.heap.size w (w.alloc (.cells #[.int .i64 (m : Int), .slice a n cap] 24))) hb); have HA2 := Lib.hid (HA.out.below hb); have HK := Lib.hid (HC.out.below hb); have hp0 := HK.out.2.1; have hp1 := HK.out.2.2.1; have HP1 := Lib.hid hp1; clear hb) | (go_at_call 53; (with_reducible refine (HWO.out _).mono ?_); rintro e w' ⟨rfl, hw⟩; subst hw) | fail)
  exact bodyPost_ret (v := .tuple #[.bool false, .bool false]) (by simp [results, Tryd.results22, go_sem]) rfl ⟨rfl, HB.out⟩
set_option maxRecDepth 100000 in
set_option maxHeartbeats 4000000 in
theorem ic_implY (r : Int) (a : Option Addr) (n cap : Nat) (zs : List Int) (x : Int) (w0 w : World) (hp : Db w0) (hb0 : Below w0.heap.size w0 w) (h : IRow w a n zs) (hn : n ≤ 1048576) (hok : paB r zs n = true) (hwb : woB x r.toNat = true) : Calls Tryd.prog 22 #[.agg #[.int .i64 r, .slice a n cap], .int .i64 x] w fun e w' => e = .returned (.tuple #[.bool (dcB r zs n x), .bool true]) ∧ Below w.heap.size w w' := by
  obtain ⟨m, rfl⟩ : ∃ m : Nat, r = (m : Int) := ⟨r.toNat, by have := (pa_out hok).1; omega⟩
  have hm16 : m ≤ 16 := by have := (pa_out hok).1.2; omega
  rw [Int.toNat_natCast] at hwb
  have HWO : Hid (∀ w3 : World, Calls Tryd.prog 53 #[.int .i64 x, .int .i64 (m : Int)] w3 fun e w' => e = .returned (.bool true) ∧ w3 = w') := Lib.hid (fun w3 => by have := word_impl x m w3 hm16; rw [hwb] at this; exact this)
  have HC := Lib.hid (Kin.new (w := w) (x := .int .i64 (m : Int)) (y := .slice a n cap) (T := 24))
  have HA := Lib.hid (h.alloc (.cells #[.int .i64 (m : Int), .slice a n cap] 24))
  have HIS : Hid (Calls Tryd.prog 52 #[.agg #[.int .i64 (m : Int), .slice a n cap]] (w.alloc (.cells #[.int .i64 (m : Int), .slice a n cap] 24)) fun e w' => e = .returned (.bool true) ∧ Below (w.alloc (.cells #[.int .i64 (m : Int), .slice a n cap] 24)).heap.size (w.alloc (.cells #[.int .i64 (m : Int), .slice a n cap] 24)) w') := Lib.hid (by have := vp_impl (m : Int) a n cap zs (w.alloc (.cells #[.int .i64 (m : Int), .slice a n cap] 24)) (h.alloc _) hn; rw [hok] at this; exact this)
  have HDB : Hid (∀ w2 : World, IRow w2 a n zs → Below w0.heap.size w0 w2 → Calls Tryd.prog 24 #[.agg #[.int .i64 (m : Int), .slice a n cap], .int .i64 x] w2 fun e w' => e = .returned (.tuple #[.int .i64 (dcV (m : Int) zs n x), .bool (dcB (m : Int) zs n x)]) ∧ Below w2.heap.size w2 w') := Lib.hid (fun w2 h1 h2 => db_impl (m : Int) a n cap zs x w0 w2 hp h2 h1 hn)
  have HB0 := Lib.hid hb0
  generalize dcV (m : Int) zs n x = V at HDB
  generalize dcB (m : Int) zs n x = B at HDB ⊢
  clear h hok hwb hb0
  go_enter Tryd.func22, Tryd.ntmps22
  go_wp2_with (first | (go_at_call 52; (with_reducible refine HIS.out.mono ?_); rintro e w2 ⟨rfl, hb⟩; have HB := Lib.hid (Below.next (below_alloc _ _ : Below w.heap.size w (w.alloc (.cells #[.int .i64 (m : Int), .slice a n cap] 24))) hb); have HA2 := Lib.hid (HA.out.below hb); have HK := Lib.hid (HC.out.below hb); have hp0 := HK.out.2.1; have hp1 := HK.out.2.2.1; have HP1 := Lib.hid hp1; clear hb) | (go_at_call 53; (with_reducible refine (HWO.out _).mono ?_); rintro e w' ⟨rfl, hw⟩; subst hw) | (go_at_call 24; (with_reducible refine (HDB.out _ HA2.out (Below.trans HB0.out (HB.out.mono HB0.out.size))).mono ?_); rintro e w3 ⟨rfl, hb⟩; have HB3 := Lib.hid (Below.next HB.out hb); clear hb) | fail)
  exact bodyPost_ret (v := .tuple #[.bool B, .bool true]) (by simp [results, Tryd.results22, go_sem]) rfl ⟨rfl, HB3.out⟩
theorem ic_impl (r : Int) (a : Option Addr) (n cap : Nat) (zs : List Int) (x : Int) (w0 w : World) (hp : Db w0) (hb0 : Below w0.heap.size w0 w) (h : IRow w a n zs) (hn : n ≤ 1048576) : Calls Tryd.prog 22 #[.agg #[.int .i64 r, .slice a n cap], .int .i64 x] w fun e w' => e = .returned (.tuple #[.bool (dcB r zs n x), .bool (icB r zs n x)]) ∧ Below w.heap.size w w' := by
  cases hok : paB r zs n with
  | false =>
    have h1 : icB r zs n x = false := by unfold icB; rw [hok]; rfl
    rw [ic_f h1, h1]; exact ic_implA r a n cap zs x w0 w hp hb0 h hn hok
  | true =>
    cases hwb : woB x r.toNat with
    | false =>
      have h1 : icB r zs n x = false := by unfold icB; rw [hok, hwb]; rfl
      rw [ic_f h1, h1]; exact ic_implN r a n cap zs x w0 w hp hb0 h hn hok hwb
    | true =>
      have h1 : icB r zs n x = true := by unfold icB; rw [hok, hwb]; rfl
      rw [h1]; exact ic_implY r a n cap zs x w0 w hp hb0 h hn hok hwb
theorem db_specYes (r : Int) (a : Option Addr) (n cap : Nat) (zs : List Int) (x : Int) (w : World) (h : IRow w a n zs) (hn : n ≤ 1048576) (hok : dcB r zs n x = true) : Calls Tryd.prog 23 #[.agg #[.int .i64 r, .slice a n cap], .int .i64 x] w fun e w' => e = .returned (.tuple #[.int .i64 (dcV r zs n x), .bool true]) ∧ Below w.heap.size w w' := by
  have := db_spec r a n cap zs x w h hn
  rw [hok] at this
  exact this
theorem db_specNo (r : Int) (a : Option Addr) (n cap : Nat) (zs : List Int) (x : Int) (w : World) (h : IRow w a n zs) (hn : n ≤ 1048576) (hok : dcB r zs n x = false) : Calls Tryd.prog 23 #[.agg #[.int .i64 r, .slice a n cap], .int .i64 x] w fun e w' => e = .returned (.tuple #[.int .i64 0, .bool false]) ∧ Below w.heap.size w w' := by
  have := db_spec r a n cap zs x w h hn
  rw [hok, dcV_no hok] at this
  exact this
theorem ic_specYes (r : Int) (a : Option Addr) (n cap : Nat) (zs : List Int) (x : Int) (w : World) (h : IRow w a n zs) (hn : n ≤ 1048576) (hok : icB r zs n x = true) : Calls Tryd.prog 21 #[.agg #[.int .i64 r, .slice a n cap], .int .i64 x] w fun e w' => e = .returned (.tuple #[.bool (dcB r zs n x), .bool true]) ∧ Below w.heap.size w w' := by
  have := ic_spec r a n cap zs x w h hn
  rw [hok] at this
  exact this
theorem ic_specNo (r : Int) (a : Option Addr) (n cap : Nat) (zs : List Int) (x : Int) (w : World) (h : IRow w a n zs) (hn : n ≤ 1048576) (hok : icB r zs n x = false) : Calls Tryd.prog 21 #[.agg #[.int .i64 r, .slice a n cap], .int .i64 x] w fun e w' => e = .returned (.tuple #[.bool false, .bool false]) ∧ Below w.heap.size w w' := by
  have := ic_spec r a n cap zs x w h hn
  rw [ic_f hok, hok] at this
  exact this
theorem db_implYes (r : Int) (a : Option Addr) (n cap : Nat) (zs : List Int) (x : Int) (w0 w : World) (hp : Db w0) (hb0 : Below w0.heap.size w0 w) (h : IRow w a n zs) (hn : n ≤ 1048576) (hok : dcB r zs n x = true) : Calls Tryd.prog 24 #[.agg #[.int .i64 r, .slice a n cap], .int .i64 x] w fun e w' => e = .returned (.tuple #[.int .i64 (dcV r zs n x), .bool true]) ∧ Below w.heap.size w w' := by
  have := db_impl r a n cap zs x w0 w hp hb0 h hn
  rw [hok] at this
  exact this
theorem db_implNo (r : Int) (a : Option Addr) (n cap : Nat) (zs : List Int) (x : Int) (w0 w : World) (hp : Db w0) (hb0 : Below w0.heap.size w0 w) (h : IRow w a n zs) (hn : n ≤ 1048576) (hok : dcB r zs n x = false) : Calls Tryd.prog 24 #[.agg #[.int .i64 r, .slice a n cap], .int .i64 x] w fun e w' => e = .returned (.tuple #[.int .i64 0, .bool false]) ∧ Below w.heap.size w w' := by
  have := db_impl r a n cap zs x w0 w hp hb0 h hn
  rw [hok, dcV_no hok] at this
  exact this
theorem ic_implYes (r : Int) (a : Option Addr) (n cap : Nat) (zs : List Int) (x : Int) (w0 w : World) (hp : Db w0) (hb0 : Below w0.heap.size w0 w) (h : IRow w a n zs) (hn : n ≤ 1048576) (hok : icB r zs n x = true) : Calls Tryd.prog 22 #[.agg #[.int .i64 r, .slice a n cap], .int .i64 x] w fun e w' => e = .returned (.tuple #[.bool (dcB r zs n x), .bool true]) ∧ Below w.heap.size w w' := by
  have := ic_impl r a n cap zs x w0 w hp hb0 h hn
  rw [hok] at this
  exact this
theorem ic_implNo (r : Int) (a : Option Addr) (n cap : Nat) (zs : List Int) (x : Int) (w0 w : World) (hp : Db w0) (hb0 : Below w0.heap.size w0 w) (h : IRow w a n zs) (hn : n ≤ 1048576) (hok : icB r zs n x = false) : Calls Tryd.prog 22 #[.agg #[.int .i64 r, .slice a n cap], .int .i64 x] w fun e w' => e = .returned (.tuple #[.bool false, .bool false]) ∧ Below w.heap.size w w' := by
  have := ic_impl r a n cap zs x w0 w hp hb0 h hn
  rw [ic_f hok, hok] at this
  exact this
end Go.Proofs.YtjlifbnenngijaaDoor
