
/- CodeText and ParityText: the functions. -/
import Derived.Test.YthkabonnclfhmaaDoorLtw
import Derived.Test.YthkabonnclfhmaaDoorCdv
import Derived.Test.YthkabonnclfhmaaDoorPva
import Derived.Test.YthkabonnclfhmaaDoorPis
import Derived.Deep.RegionHeld3
namespace Go.Proofs.YthkabonnclfhmaaDoor
open Go.Proofs.YthkabonnclfhmaaDoor.Flo Go.RowKit Go.Proofs.YthkabonnclfhmaaDoor.Dcn

theorem ltA_code {zs : List Int} {n : Nat} (h : codeB zs n = true) : ltA zs n = .tuple #[.string (txB (ltx zs)), .bool true] := by
  obtain ⟨⟨h1, h2⟩, h3, _⟩ := code_out h
  exact ltA_yes (by omega) (fun j hj => inVal_in (by have := h3 j hj; omega) (by have := h3 j hj; omega))
theorem inVal_code {zs : List Int} {n : Nat} (h : codeB zs n = true) : ∀ j, j < n → inVal (zs.getD j 0) = true := fun j hj => inVal_in (by have := (code_out h).2.1 j hj; omega) (by have := (code_out h).2.1 j hj; omega)
/-- What CodeText answers. -/
def ctA (zs : List Int) (n : Nat) : Value := if codeB zs n then .tuple #[.string (txB (ltx zs)), .bool true] else .tuple #[.string ⟨#[]⟩, .bool false]
theorem ctA_yes {zs : List Int} {n : Nat} (h : codeB zs n = true) : ctA zs n = .tuple #[.string (txB (ltx zs)), .bool true] := by unfold ctA; rw [h]; rfl
theorem ctA_no {zs : List Int} {n : Nat} (h : codeB zs n = false) : ctA zs n = .tuple #[.string ⟨#[]⟩, .bool false] := by unfold ctA; rw [h]; rfl
theorem cell_boxC (w : World) (v : Value) (T : TypeId) : (w.alloc (.cells #[v] T)).cell? ⟨w.heap.size, 0, none⟩ = some v := by rw [World.cell?_alloc_at _ _ _ _ rfl]; rfl
set_option maxRecDepth 100000 in
set_option maxHeartbeats 2000000 in
theorem cxt_spec (a : Option Addr) (n cap : Nat) (zs : List Int) (w : World) (h : IRow w a n zs) (hn : n ≤ 1048576) :
    Calls Tryd.prog 36 #[.agg #[.slice a n cap]] w fun e w' => e = .returned (ctA zs n) ∧ Below w.heap.size w w' := by
  have HI := Lib.hid (cdis_spec w.heap.size a n cap zs (w.alloc (.cells #[.slice a n cap] 48)) (h.alloc _) hn (cell_boxC _ _ _))
  cases hok : codeB zs n
  · have HE := Lib.hid (ctA_no hok)
    rw [hok] at HI
    clear h hok
    go_enter Tryd.func36, Tryd.ntmps36
    go_wp2_with (first | (go_at_call 80; refine HI.out.mono ?_; rintro e w' ⟨rfl, rfl⟩) | fail)
    go_ret2
    exact ⟨by rw [HE.out]; rfl, belowD _ _⟩
  · have HE := Lib.hid (ctA_yes hok)
    rw [hok] at HI
    have HT := Lib.hid (ltt_spec a n cap zs (w.alloc (.cells #[.slice a n cap] 48)) (h.alloc _) (by have := (code_out hok).1; omega) (inVal_code hok))
    have hc := cell_boxC w (.slice a n cap) 48
    clear h hok
    generalize ltx zs = T at HE HT
    go_enter Tryd.func36, Tryd.ntmps36
    go_wp2_with (first | (go_at_call 80; refine HI.out.mono ?_; rintro e w' ⟨rfl, rfl⟩) | (go_at_call 68; refine HT.out.mono ?_; rintro e w3 ⟨rfl, hb3⟩; have HB3 := Lib.hid (Below.next (belowD _ _) hb3); clear hb3) | fail)
    go_ret2
    exact ⟨by rw [HE.out]; rfl, HB3.out⟩
set_option maxRecDepth 100000 in
set_option maxHeartbeats 2000000 in
theorem cxt_impl (a : Option Addr) (n cap : Nat) (zs : List Int) (w0 w : World) (h : IRow w a n zs) (hn : n ≤ 1048576) (hp : Pow w0) (hb : Below w0.heap.size w0 w) :
    Calls Tryd.prog 38 #[.agg #[.slice a n cap]] w fun e w' => e = .returned (ctA zs n) ∧ Below w.heap.size w w' := by
  have HI := Lib.hid (vc_impl a n cap zs (w.alloc (.cells #[.slice a n cap] 48)) (h.alloc _) hn)
  cases hok : codeB zs n
  · have HE := Lib.hid (ctA_no hok)
    rw [hok] at HI
    clear h hok
    go_enter Tryd.func38, Tryd.ntmps38
    go_wp2_with (first | (go_at_call 81; refine HI.out.mono ?_; rintro e w' ⟨rfl, hb2⟩; have HB := Lib.hid (Below.next (belowD _ _) hb2); clear hb2) | fail)
    go_ret2
    exact ⟨by rw [HE.out]; rfl, HB.out⟩
  · have HE := Lib.hid (ctA_yes hok)
    rw [hok] at HI
    have HT := Lib.hid (fun W (h1 : Below w.heap.size w W) => lt_impl a n cap zs w0 W (h.below h1) hn hp (Below.next hb h1))
    rw [ltA_code hok] at HT
    have HC := Lib.hid (cell_boxC w (.slice a n cap) 48)
    clear h hok hp hb
    generalize ltx zs = T at HE HT
    go_enter Tryd.func38, Tryd.ntmps38
    go_wp2_with (first | (go_at_call 81; refine HI.out.mono ?_; rintro e w2 ⟨rfl, hb2⟩; have hc : w2.cell? ⟨w.heap.size, 0, none⟩ = some (.slice a n cap) := (by rw [hb2.cell (p := ⟨w.heap.size, 0, none⟩) (by simp)]; exact HC.out); have HB := Lib.hid (Below.next (belowD _ _) hb2); clear hb2) | (go_at_call 21; refine (HT.out _ HB.out).mono ?_; rintro e w3 ⟨rfl, hb3⟩; have HB3 := Lib.hid (Below.next HB.out hb3); clear hb3) | fail)
    go_ret2
    exact ⟨by rw [HE.out]; rfl, HB3.out⟩
end Go.Proofs.YthkabonnclfhmaaDoor
