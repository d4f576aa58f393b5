
/- Codes: the laws' helpers. -/
import Derived.Test.YtdmdgkjmecgpeaaMgb
import Derived.Deep.Strs
import Derived.ChangeSame
namespace Go.Proofs.Ytdmdgkjmecgpeaa
open Go.Proofs.Ytdmdgkjmecgpeaa.Flo Go.RowKit

theorem Mine.alloc1 {w0 w : World} {L : List (Nat × Ent)} (h : Mine w0 w L) (x : Value) (T : TypeId) : Mine w0 (w.alloc (.cells #[x] T)) ((w.heap.size, .vs [x]) :: L) :=
  h.push ((Below.refl _ _).alloc (Nat.le_refl _) _) (Nat.le_refl _) (by simp) (Ent.vs_new w [x] T)
theorem belowA (w : World) (o : Obj) : Below w.heap.size w (w.alloc o) := (Below.refl _ _).alloc (Nat.le_refl _) o
/-- The cells of the structs of one field, here and behind one block more. -/
def Facts1 (w : World) : List (Nat × Ent) → Prop
  | [] => True
  | (p, .vs [x]) :: L => (w.cell? ⟨p, 0, none⟩ = some x ∧ (∀ o, (w.alloc o).cell? ⟨p, 0, none⟩ = some x) ∧ w.frozen? ⟨p, 0, none⟩ = false) ∧ Facts1 w L
  | (_, .vs _) :: L => Facts1 w L
  | (_, .fl _ _) :: L => Facts1 w L
  | (_, .il _ _) :: L => Facts1 w L
  | (_, .cl _ _) :: L => Facts1 w L
  | (_, .gv _ _) :: L => Facts1 w L
theorem facts1_of {w : World} : ∀ {L : List (Nat × Ent)}, (∀ r ∈ L, r.1 < w.heap.size ∧ r.2.ok w r.1) → Facts1 w L
  | [], _ => trivial
  | (p, e) :: L, h => by
    have ih := facts1_of (fun r hr => h r (.tail _ hr))
    have h0 := h (p, e) (.head _)
    cases e with
    | fl n zs => exact ih
    | il n zs => exact ih
    | cl n V => exact ih
    | gv n f => exact ih
    | vs l =>
      match l with
      | [x] =>
        obtain ⟨hp, _, h4⟩ := h0
        have k0 := h4 0 (by decide : (0 : Nat) < 1)
        exact ⟨⟨k0.1, fun o => (World.cell?_alloc_past _ _ _ hp).trans k0.1, k0.2⟩, ih⟩
      | [] => exact ih
      | _ :: _ :: _ => exact ih
theorem Mine.facts1 {w0 w : World} {L : List (Nat × Ent)} (h : Mine w0 w L) : Facts1 w L := facts1_of fun r hr => (h.2.1 r hr).2
theorem IRow.setCell {w : World} {a : Option Addr} {n : Nat} {zs : List Int} (h : IRow w a n zs) {p : Addr} (v : Value) (hp : ∀ b, a = some b → b.block ≠ p.block) : IRow (w.setCell p v) a n zs := by
  obtain ⟨hl, h⟩ := h
  refine ⟨hl, ?_⟩
  rcases h with h | ⟨b, off, ha, hb, hc⟩
  · exact .inl h
  · refine .inr ⟨b, off, ha, by rw [World.size_setCell]; exact hb, fun i hi => ?_⟩
    rw [World.cell?_setCell_other (h := fun e => hp _ ha (by first | exact congrArg Addr.block e | exact (congrArg Addr.block e).symm))]; exact hc i hi
theorem IRow.new' {w : World} {zs : List Int} {n p : Nat} (h : zs.length = n) (hp : p = w.heap.size) (e : TypeId) : IRow (w.alloc (.cells (il zs) e)) (some ⟨p, 0, none⟩) n zs := by
  subst hp; exact IRow.new h e
set_option maxHeartbeats 2000000 in
theorem toCM (a : Option Addr) (n cap : Nat) (zs : List Int) (w w0 : World) (L : List (Nat × Ent)) (h : Mine w0 w L) (ha : IRow w0 a n zs) (hn : n ≤ 1048576) :
    Calls Try.prog 69 #[.agg #[.slice a n cap]] w fun e w' => ∃ p, e = .returned (.agg #[.slice (some ⟨p, 0, none⟩) n n]) ∧ Mine w0 w' ((p, .il n zs) :: L) := by
  have HA := Lib.hid (ha.below h.1)
  have HS := Lib.hid h
  clear h ha
  go_enter Try.func69, Try.ntmps69
  go_wp2_with (first | (go_at_call 102; refine (toI _ _ _ zs _ (by repeat (first | exact HA.out | refine IRow.setCell ?_ _ ?_ | refine IRow.alloc ?_ _)) hn).mono ?_; rintro e w2 ⟨rfl, rfl⟩) | go_in)
  exact bodyPost_ret (v := .agg #[.slice (some ⟨w.heap.size + 1 + 1 + 1, 0, none⟩) n n]) (by simp [results, Try.results69, go_sem]) rfl
    ⟨_, rfl, HS.out.push (by repeat (first | exact Below.refl _ _ | refine Below.alloc ?_ (by simp <;> omega) _)) (by first | omega | (simp; done) | (simp; omega)) (by first | (simp; done) | (simp; omega)) (Ent.il_ok (IRow.new' HA.out.1 (by simp) _) (fun j _ => World.frozen?_alloc_at _ _ _ _ (by simp)))⟩
set_option maxHeartbeats 2000000 in
theorem eqCM (p q n cap capb : Nat) (zs : List Int) (w w0 : World) (L : List (Nat × Ent)) (h : Mine w0 w L) (ha : (p, .il n zs) ∈ L) (hb : (q, .il n zs) ∈ L) (hn : n ≤ 1048576) :
    Calls Try.prog 74 #[.agg #[.slice (some ⟨p, 0, none⟩) n cap], .agg #[.slice (some ⟨q, 0, none⟩) n capb]] w fun e w' => e = .returned (.bool true) ∧ Mine w0 w' L := by
  have HA := Lib.hid (h.irow ha)
  have HB := Lib.hid (h.irow hb)
  have HS := Lib.hid h
  clear ha hb h
  go_enter Try.func74, Try.ntmps74
  go_wp2_with (first | (go_at_call 45; refine (eqI _ _ _ _ _ zs _ ((HA.out.alloc _).alloc _) ((HB.out.alloc _).alloc _) hn).mono ?_; rintro e w2 ⟨rfl, q, rfl⟩) | go_in)
  go_ret
  exact ⟨rfl, HS.out.below (by repeat (first | exact Below.refl _ _ | refine Below.drewN' ?_ _ | refine Below.alloc ?_ (by simp <;> omega) _))⟩
set_option maxHeartbeats 2000000 in
theorem eqCM0 (w w0 : World) (L : List (Nat × Ent)) (h : Mine w0 w L) :
    Calls Try.prog 74 #[.agg #[.slice none 0 0], .agg #[.slice none 0 0]] w fun e w' => e = .returned (.bool true) ∧ Mine w0 w' L := by
  have HS := Lib.hid h
  clear h
  go_enter Try.func74, Try.ntmps74
  go_wp2_with (first | (go_at_call 45; refine (eqI none none 0 0 0 [] _ (IRow.nil _) (IRow.nil _) (Nat.zero_le _)).mono ?_; rintro e w2 ⟨rfl, q, rfl⟩) | go_in)
  go_ret
  exact ⟨rfl, HS.out.below (by repeat (first | exact Below.refl _ _ | refine Below.drewN' ?_ _ | refine Below.alloc ?_ (by simp <;> omega) _))⟩
theorem cellsSC : Try.prog.cellsOf 23 = 1 := by kernel_rfl
theorem cellsIC : Try.prog.cellsOf 2 = 1 := by kernel_rfl
theorem cellsCC : Try.prog.cellsOf 25 = 1 := by kernel_rfl
section
open Go.ChangeShapes Go.WideShapes Go.Deep
variable {H : Type} {enc : TypeId × Value → H} {w : World} {base : Nat} {spare : Nat → Bool} {held : Bool}
set_option maxRecDepth 100000 in
theorem open_code {fuel : Nat} {cs : List Value} {x : DataW H × List MemPlace} (h : DataW.trod enc Try.prog w base spare held fuel 25 cs = some x) (hs : cs.length = 1) :
    ∃ a n cap zs, cs = [.slice a n cap] ∧ IRow w a n zs ∧ n ≤ 9223372036854775807 := by
  obtain ⟨y0, m, -, -, h0⟩ := trod_struct1 Try.underlying25 h
  match cs, hs with
  | [v0], _ =>
    simp only [cellsSC, List.drop, List.take] at h0
    rcases open_slice1 Try.underlying23 cellsIC h0 with ⟨e2, _⟩ | ⟨y, l, k, mm, q, V, D, Pl, e2, _, hl, hk, _⟩
    · simp at e2
      subst e2
      obtain ⟨zs, hz⟩ := open_irow Try.underlying23 Try.underlying2 cellsIC h0
      exact ⟨none, 0, 0, zs, rfl, hz, by omega⟩
    · simp at e2
      subst e2
      obtain ⟨zs, hz⟩ := open_irow Try.underlying23 Try.underlying2 cellsIC h0
      unfold maxLen at hk
      exact ⟨some y, l, k, zs, rfl, hz, by omega⟩
end
set_option maxHeartbeats 1000000 in
theorem szCL (a : Option Addr) (n cap : Nat) (w : World) (L : Int) (hn : (n : Int) ≤ L) (hL : L ≤ 1048576) :
    Calls Try.prog 67 #[.agg #[.slice a n cap], .int .i64 L] w fun e w' => e = .returned (.int .i64 (L - n)) ∧ Below w.heap.size w w' := by
  have hd : decide (L - (n : Int) < 0) = false := decide_eq_false (by omega)
  go_enter Try.func67, Try.ntmps67
  go_wp2
  go_ret
  exact ⟨rfl, by repeat (first | exact Below.refl _ _ | refine Below.alloc ?_ (by simp <;> omega) _)⟩
set_option maxHeartbeats 1000000 in
theorem szCL' (a : Option Addr) (n cap : Nat) (w : World) (L : Int) (hn : L < (n : Int)) (h0 : 0 ≤ L) (hL : L ≤ 1048576) (hm : n ≤ 9223372036854775807) :
    Calls Try.prog 67 #[.agg #[.slice a n cap], .int .i64 L] w fun e w' => e = .returned (.int .i64 (-1)) ∧ Below w.heap.size w w' := by
  have hd : decide (L - (n : Int) < 0) = true := decide_eq_true (by omega)
  go_enter Try.func67, Try.ntmps67
  go_wp2
  go_ret
  exact ⟨rfl, by repeat (first | exact Below.refl _ _ | refine Below.alloc ?_ (by simp <;> omega) _)⟩
end Go.Proofs.Ytdmdgkjmecgpeaa
