
/- Codes: the laws' helpers. -/
import Derived.Test.YtjlifbnenngijaaDoorMgb
import Derived.Deep.Strs
import Derived.ChangeSame
namespace Go.Proofs.YtjlifbnenngijaaDoor
open Go.Proofs.YtjlifbnenngijaaDoor.Flo Go.RowKit

theorem Mine.alloc1 {w0 w : World} {L : List (Nat × Ent)} (h : Mine w0 w L) (x : Value) (T : TypeId) : Mine w0 (w.alloc (.cells #[x] T)) ((w.heap.size, .vs [x]) :: L) :=
  h.push ((Below.refl _ _).alloc (Nat.le_refl _) _) (Nat.le_refl _) (by simp) (Ent.vs_new w [x] T)
theorem belowA (w : World) (o : Obj) : Below w.heap.size w (w.alloc o) := (Below.refl _ _).alloc (Nat.le_refl _) o
/-- The cells of the structs of one field, here and behind one block more. -/
def Facts1 (w : World) : List (Nat × Ent) → Prop
  | [] => True
  | (p, .vs [x]) :: L => (w.cell? ⟨p, 0, none⟩ = some x ∧ (∀ o, (w.alloc o).cell? ⟨p, 0, none⟩ = some x) ∧ w.frozen? ⟨p, 0, none⟩ = false) ∧ Facts1 w L
  | (_, .vs _) :: L => Facts1 w L
  | (_, .fl _ _) :: L => Facts1 w L
  | (_, .il _ _) :: L => Facts1 w L
  | (_, .cl _ _) :: L => Facts1 w L
  | (_, .gv _ _) :: L => Facts1 w L
theorem facts1_of {w : World} : ∀ {L : List (Nat × Ent)}, (∀ r ∈ L, r.1 < w.heap.size ∧ r.2.ok w r.1) → Facts1 w L
  | [], _ => trivial
  | (p, e) :: L, h => by
    have ih := facts1_of (fun r hr => h r (.tail _ hr))
    have h0 := h (p, e) (.head _)
    cases e with
    | fl n zs => exact ih
    | il n zs => exact ih
    | cl n V => exact ih
    | gv n f => exact ih
    | vs l =>
      match l with
      | [x] =>
        obtain ⟨hp, _, h4⟩ := h0
        have k0 := h4 0 (by decide : (0 : Nat) < 1)
        exact ⟨⟨k0.1, fun o => (World.cell?_alloc_past _ _ _ hp).trans k0.1, k0.2⟩, ih⟩
      | [] => exact ih
      | _ :: _ :: _ => exact ih
theorem Mine.facts1 {w0 w : World} {L : List (Nat × Ent)} (h : Mine w0 w L) : Facts1 w L := facts1_of fun r hr => (h.2.1 r hr).2
theorem IRow.setCell {w : World} {a : Option Addr} {n : Nat} {zs : List Int} (h : IRow w a n zs) {p : Addr} (v : Value) (hp : ∀ b, a = some b → b.block ≠ p.block) : IRow (w.setCell p v) a n zs := by
  obtain ⟨hl, h⟩ := h
  refine ⟨hl, ?_⟩
  rcases h with h | ⟨b, off, ha, hb, hc⟩
  · exact .inl h
  · refine .inr ⟨b, off, ha, by rw [World.size_setCell]; exact hb, fun i hi => ?_⟩
    rw [World.cell?_setCell_other (h := fun e => hp _ ha (by first | exact congrArg Addr.block e | exact (congrArg Addr.block e).symm))]; exact hc i hi
theorem IRow.new' {w : World} {zs : List Int} {n p : Nat} (h : zs.length = n) (hp : p = w.heap.size) (e : TypeId) : IRow (w.alloc (.cells (il zs) e)) (some ⟨p, 0, none⟩) n zs := by
  subst hp; exact IRow.new h e
set_option maxHeartbeats 2000000 in
theorem eqCM (p q n cap capb : Nat) (zs : List Int) (w w0 : World) (L : List (Nat × Ent)) (h : Mine w0 w L) (ha : (p, .il n zs) ∈ L) (hb : (q, .il n zs) ∈ L) (hn : n ≤ 1048576) :
    Calls Tryd.prog 67 #[.agg #[.slice (some ⟨p, 0, none⟩) n cap], .agg #[.slice (some ⟨q, 0, none⟩) n capb]] w fun e w' => e = .returned (.bool true) ∧ Mine w0 w' L := by
  have HA := Lib.hid (h.irow ha)
  have HB := Lib.hid (h.irow hb)
  have HS := Lib.hid h
  clear ha hb h
  go_enter Tryd.func67, Tryd.ntmps67
  go_wp2_with (first | (go_at_call 27; refine (eqI _ _ _ _ _ zs _ ((HA.out.alloc _).alloc _) ((HB.out.alloc _).alloc _) hn).mono ?_; rintro e w2 ⟨rfl, q, rfl⟩) | go_in)
  go_ret
  exact ⟨rfl, HS.out.below (by repeat (first | exact Below.refl _ _ | refine Below.drewN' ?_ _ | refine Below.alloc ?_ (by simp <;> omega) _))⟩
set_option maxHeartbeats 2000000 in
theorem eqCM0 (w w0 : World) (L : List (Nat × Ent)) (h : Mine w0 w L) :
    Calls Tryd.prog 67 #[.agg #[.slice none 0 0], .agg #[.slice none 0 0]] w fun e w' => e = .returned (.bool true) ∧ Mine w0 w' L := by
  have HS := Lib.hid h
  clear h
  go_enter Tryd.func67, Tryd.ntmps67
  go_wp2_with (first | (go_at_call 27; refine (eqI none none 0 0 0 [] _ (IRow.nil _) (IRow.nil _) (Nat.zero_le _)).mono ?_; rintro e w2 ⟨rfl, q, rfl⟩) | go_in)
  go_ret
  exact ⟨rfl, HS.out.below (by repeat (first | exact Below.refl _ _ | refine Below.drewN' ?_ _ | refine Below.alloc ?_ (by simp <;> omega) _))⟩
set_option maxHeartbeats 2000000 in
theorem markCM (p n cap : Nat) (zs : List Int) (k0 : Int) (w w0 : World) (L : List (Nat × Ent)) (i : Nat) (h : Mine w0 w L) (hi : L[i]? = some (p, .il n zs)) (hn : n ≤ 1048576) (hk0 : 0 ≤ k0 ∧ k0 ≤ 4194304) :
    Calls Tryd.prog 69 #[.agg #[.slice (some ⟨p, 0, none⟩) n cap], .int .i64 k0] w fun e w' => e = .returned (.int .i64 (k0 + (n : Int))) ∧ Mine w0 w' (L.set i (p, .il n (marksI k0 n))) := by
  have HS := Lib.hid (h.below (belowA w (.cells #[.slice (some ⟨p, 0, none⟩) n cap] 49)))
  have HI := Lib.hid hi
  obtain ⟨hk1, hk2⟩ := hk0
  clear h hi
  go_enter Tryd.func69, Tryd.ntmps69
  go_wp2_with (first | (go_at_call 28; refine (markMI p n cap zs k0 _ w0 L i HS.out HI.out hn ⟨hk1, hk2⟩).mono ?_; rintro e w2 ⟨rfl, hs⟩; have HS := Lib.hid hs; clear hs) | go_in)
  go_ret
  exact ⟨rfl, HS.out⟩
set_option maxHeartbeats 2000000 in
theorem markC0 (k0 : Int) (w w0 : World) (L : List (Nat × Ent)) (h : Mine w0 w L) :
    Calls Tryd.prog 69 #[.agg #[.slice none 0 0], .int .i64 k0] w fun e w' => e = .returned (.int .i64 k0) ∧ Mine w0 w' L := by
  have HS := Lib.hid (h.below (belowA w (.cells #[.slice none 0 0] 49)))
  clear h
  go_enter Tryd.func69, Tryd.ntmps69
  go_wp2_with (first | (go_at_call 28; refine (markNilI k0 _).mono ?_; rintro e w2 ⟨rfl, rfl⟩) | go_in)
  go_ret
  exact ⟨rfl, HS.out⟩
set_option maxHeartbeats 2000000 in
theorem heldCM (p n cap : Nat) (k0 : Int) (w w0 : World) (L : List (Nat × Ent)) (h : Mine w0 w L) (hm : (p, .il n (marksI k0 n)) ∈ L) (hn : n ≤ 1048576) (hk0 : 0 ≤ k0 ∧ k0 ≤ 4194304) :
    Calls Tryd.prog 71 #[.agg #[.slice (some ⟨p, 0, none⟩) n cap], .int .i64 k0] w fun e w' => e = .returned (.int .i64 (k0 + (n : Int))) ∧ Mine w0 w' L := by
  have HS := Lib.hid (h.below (belowA w (.cells #[.slice (some ⟨p, 0, none⟩) n cap] 49)))
  have HI := Lib.hid hm
  obtain ⟨hk1, hk2⟩ := hk0
  clear h hm
  go_enter Tryd.func71, Tryd.ntmps71
  go_wp2_with (first | (go_at_call 29; refine (heldMI p n cap k0 _ w0 L HS.out HI.out hn ⟨hk1, hk2⟩).mono ?_; rintro e w2 ⟨rfl, hs⟩; have HS := Lib.hid hs; clear hs) | go_in)
  go_ret
  exact ⟨rfl, HS.out⟩
set_option maxHeartbeats 2000000 in
theorem heldC0 (k0 : Int) (w w0 : World) (L : List (Nat × Ent)) (h : Mine w0 w L) (hk0 : 0 ≤ k0) :
    Calls Tryd.prog 71 #[.agg #[.slice none 0 0], .int .i64 k0] w fun e w' => e = .returned (.int .i64 k0) ∧ Mine w0 w' L := by
  have HS := Lib.hid (h.below (belowA w (.cells #[.slice none 0 0] 49)))
  clear h
  go_enter Tryd.func71, Tryd.ntmps71
  go_wp2_with (first | (go_at_call 29; refine (heldNilI k0 _).mono ?_; rintro e w2 ⟨rfl, rfl⟩) | go_in)
  go_ret
  exact ⟨rfl, HS.out⟩
end Go.Proofs.YtjlifbnenngijaaDoor
