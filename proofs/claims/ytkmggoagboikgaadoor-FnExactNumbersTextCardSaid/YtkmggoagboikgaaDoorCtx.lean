
/- Texts of lists: items with commas between them; the program's function that joins them. -/
import Derived.Test.YtkmggoagboikgaaDoorDcf
import Derived.Test.YtkmggoagboikgaaDoorGat
import Derived.Lib.Join
namespace Go.Proofs.YtkmggoagboikgaaDoor
open Go.Proofs.YtkmggoagboikgaaDoor.Flo Go.RowKit Go.Proofs.YtkmggoagboikgaaDoor.Dcn

/-- The text of a list whose items have the texts X. -/
def ctx (X : List (List UInt8)) : List UInt8 := if X = [] then [110, 111, 110, 101] else Lib.join X [44]
theorem ctx_nil {X : List (List UInt8)} (h : X = []) : ctx X = [110, 111, 110, 101] := if_pos h
theorem ctx_ne {X : List (List UInt8)} (h : X ≠ []) : ctx X = Lib.join X [44] := if_neg h
theorem lens_bd (b : Nat) : ∀ X : List (List UInt8), (∀ l ∈ X, l.length ≤ b) → Lib.lens X ≤ b * X.length
  | [], _ => by simp [Lib.lens]
  | x :: X, h => by
    have h1 := h x (List.mem_cons_self ..)
    have h2 := lens_bd b X (fun l hl => h l (List.mem_cons_of_mem _ hl))
    simp only [Lib.lens, List.map_cons, List.sum_cons, List.length_cons] at h2 ⊢
    rw [Nat.mul_succ]; omega
theorem join_bd (b : Nat) (X : List (List UInt8)) (h : ∀ l ∈ X, l.length ≤ b) : (Lib.join X [44]).length ≤ (b + 1) * X.length := by
  cases X with
  | nil => simp [Lib.join_nil]
  | cons x X =>
    have h2 := lens_bd b (x :: X) h
    rw [Lib.join_length]
    simp only [List.length_cons, List.length_nil, Nat.zero_add, Nat.one_mul] at h2 ⊢
    have e : (b + 1) * (X.length + 1) = b * (X.length + 1) + (X.length + 1) := by rw [Nat.add_mul, Nat.one_mul]
    omega
theorem join_snoc (X : List (List UInt8)) (k : Nat) (h1 : 1 ≤ k) (hk : k < X.length) : Lib.join (X.take (k + 1)) [44] = Lib.join (X.take k) [44] ++ (44 :: X[k]) := by
  cases X with
  | nil => simp at hk
  | cons x X =>
    obtain ⟨k, rfl⟩ : ∃ j, k = j + 1 := ⟨k - 1, by omega⟩
    have hk2 : k < X.length := by simpa using hk
    rw [List.take_succ_cons, List.take_succ_cons, Lib.join_cons, Lib.join_cons, Lib.joinTail_take_succ _ _ _ X[k] (List.getElem?_eq_getElem hk2)]
    simp
set_option maxRecDepth 100000 in
set_option maxHeartbeats 2000000 in
theorem ti_impl (v : Value) (X : List (List UInt8)) (n : Nat) (base : Nat) (w : World) (hX : X.length = n) (h : Gat w base 9 v n (fun i => .string (txB (X.getD i [])))) (hn : n ≤ 1000) (hb : ∀ l ∈ X, l.length ≤ 1000) :
    Calls Tryd.prog 16 #[v] w fun e w' => e = .returned (.string (txB (ctx X))) ∧ Below w.heap.size w w' := by
  obtain ⟨a, cap, rfl, hh⟩ := h.form
  by_cases h0 : n = 0
  · have hx : X = [] := List.eq_nil_of_length_eq_zero (by omega)
    have HC := Lib.hid (ctx_nil hx)
    have hd : ((n : Int) == 0) = true := by simp; omega
    clear hh h hX hb h0
    go_enter Tryd.func16, Tryd.ntmps16
    go_wp2
    go_ret
    exact ⟨ret_str1 (by rw [HC.out]; rfl), Below.refl _ _⟩
  · obtain ⟨g, rfl, hg, hgl, hc⟩ := hh.resolve_left h0
    have hne : X ≠ [] := by intro e; rw [e] at hX; exact h0 (by simpa using hX.symm)
    have hcap : n ≤ cap := by
      rcases h.2 with ⟨e, _⟩ | ⟨g2, cap2, cur, e, _, _, h4, _⟩
      · cases e
      · injection e with _ _ e3; omega
    have hmap : (X.map txB).map (·.data.toList) = X := by
      rw [List.map_map]
      have : ((fun b : ByteArray => b.data.toList) ∘ txB) = id := by funext l; exact (by unfold txB; simp)
      rw [this, List.map_id]
    have hbd := join_bd 1000 X hb
    have hbd2 : (Lib.join X [44]).length ≤ 140737488355328 := by
      have : 1001 * X.length ≤ 1001 * 1000 := Nat.mul_le_mul_left _ (by omega)
      omega
    have hj := Tryd.strings_Join g 0 cap (X.map txB) ⟨#[44]⟩ w (fun j x hx => by
        have hj : j < X.length := by have := (List.getElem?_eq_some_iff.1 hx).1; simpa using this
        rw [List.getElem?_map, List.getElem?_eq_getElem hj] at hx
        injection hx with hx
        rw [hc j (by omega), ← hx, List.getD_eq_getElem?_getD, List.getElem?_eq_getElem hj]; rfl) hgl (by rw [List.length_map]; omega) (by rw [List.length_map]; omega) (by rw [hmap]; exact hbd2)
    rw [hmap, List.length_map, hX] at hj
    have HJ := Lib.hid hj
    have HC := Lib.hid (ctx_ne hne)
    have hd : ((n : Int) == 0) = false := by simp; omega
    have hN := Lib.hid h0
    clear hj hc h hX hb hmap hbd hbd2 hne hh h0
    go_enter Tryd.func16, Tryd.ntmps16
    go_wp2_with (first | (go_at_call 25; refine HJ.out.mono ?_; rintro e w2 ⟨rfl, hb2⟩; have HB := Lib.hid hb2; clear hb2) | fail)
    go_ret
    exact ⟨ret_str1 (by rw [HC.out]; rfl), HB.out⟩
end Go.Proofs.YtkmggoagboikgaaDoor
