
/- A region that draws its order: a condition on the world that every operation keeps but those of a list, each of which waits, by a chain of others, for all the loads. -/
import Derived.OrdersHeld
import Derived.Deep.RegionHeldLaw
set_option linter.unusedVariables false
namespace Go.Proofs.Ytaefmffmjbabcaa.Anc
open Go

section
variable {P : Program} {ops : Array Oper} {Q : Exit → Act → World → Prop} {md : Region.Mode} {S : World → Prop} {T : List Nat}

/-- Every order from here on; S holds behind each operation but those of T. -/
def AnyC (P : Program) (md : Region.Mode) (ops : Array Oper) (Q : Exit → Act → World → Prop) (S : World → Prop) (T : List Nat) : Nat → Array Bool → Act → World → Prop
  | 0, l, a, w => Region.ready md ops l = [] ∧ Q .normal a w
  | m + 1, l, a, w => (Region.ready md ops l = [] → Q .normal a w) ∧ ∀ i ∈ Region.ready md ops l, wpOp P ops Q i (fun a' w' => (T.contains i = false → S w') ∧ AnyC P md ops Q S T m (l.setIfInBounds i true) a' w') a w
theorem AnyC.any : ∀ (m : Nat) (l : Array Bool) (a : Act) (w : World), AnyC P md ops Q S T m l a w → wpAny P md ops Q m l a w
  | 0, _, _, _, h => h
  | m + 1, _, _, _, h => ⟨h.1, fun i hi => wpOp_mono (fun _ _ h' => AnyC.any m _ _ _ h'.2) (h.2 i hi)⟩
/-- Operation b waits for operation a. -/
def waits (md : Region.Mode) (ops : Array Oper) (a b : Nat) : Bool := match ops[b]? with
  | some o => o.after.any fun e => Region.binds md e && (e.on == a)
  | none => false
/-- Each waits for the one ahead of it. -/
def links (md : Region.Mode) (ops : Array Oper) : Nat → List Nat → Bool
  | _, [] => true
  | a, b :: r => waits md ops a b && links md ops b r
theorem done_not {l : Array Bool} {i : Nat} {d : Bool} (h : l.getD i true = false) (h1 : l.getD i d = true) (hd : d = true → False) : False := by
  by_cases hlt : i < l.size
  · simp [hlt] at h h1; rw [h] at h1; cases h1
  · simp [Array.getElem?_eq_none (Nat.le_of_not_lt hlt)] at h1; exact hd h1
theorem links_not {l : Array Bool} : ∀ (C : List Nat) (i : Nat), links md ops i C = true → l.getD i true = false → (∀ c ∈ C, l.getD c true = false) → ∀ j ∈ Region.ready md ops l, j ∉ C
  | [], _, _, _, _, _, _ => List.not_mem_nil
  | b :: r, i, hl, hi, hC, j, hj => by
    unfold links at hl
    rw [Bool.and_eq_true] at hl
    intro hm
    rcases List.mem_cons.1 hm with rfl | hm
    · obtain ⟨_, oj, hoj, hall⟩ := mem_ready.1 hj
      have hw := hl.1
      unfold waits at hw
      rw [hoj] at hw
      obtain ⟨k, hk, hb⟩ := Array.any_eq_true.1 hw
      rw [Bool.and_eq_true, beq_iff_eq] at hb
      have h1 := hall _ (Array.getElem_mem hk) hb.1
      rw [hb.2] at h1
      exact done_not hi h1 (by intro h; first | cases h | simp at h)
    · exact links_not r b hl.2 (hC b (List.mem_cons_self ..)) (fun c hc => hC c (List.mem_cons_of_mem _ hc)) j hj hm
/-- What yields wherever S holds comes first, where the operations that need not keep S wait for it. -/
theorem AnyC.first {i : Nat} {oi : Oper} {v : Value} (hi : ops[i]? = some oi) (C : List Nat) (hC : links md ops i C = true) (hT : ∀ t, T.contains t = true → t ∈ C)
    (hsel : ∀ (j : Nat) (o : Oper) cs b, ops[j]? = some o → o.op ≠ .select cs b) (hQ : ∀ c a w, Q (.panic c) (a.put oi.dst v) w → Q (.panic c) a w) (m : Nat) :
    ∀ (l : Array Bool) (a : Act) (w : World),
      (∀ j oj, ops[j]? = some oj → j ≠ i → l.getD j true = false → (∀ e ∈ oj.after, Region.binds md e = true → e.on ≠ i) → oi.apart ops oj = true) →
      (∀ c ∈ C, l.getD c true = false) →
      i ∈ Region.ready md ops l → YieldsIf P ops S oi v a → S w → AnyC P md ops Q S T m (l.setIfInBounds i true) (a.put oi.dst v) w → AnyC P md ops Q S T (m + 1) l a w := by
  induction m with
  | zero =>
    intro l a w _ _ hr hy hS H
    refine ⟨fun h => absurd hr (by rw [h]; exact List.not_mem_nil), fun j hj => ?_⟩
    rcases Nat.decEq j i with hji | rfl
    · exact absurd (ready_mono hj hji) (by rw [H.1]; exact List.not_mem_nil)
    · exact hy.wpOp hi hS ⟨fun _ => hS, H⟩
  | succ m ih =>
    intro l a w hfree hcl hr hy hS H
    refine ⟨fun h => absurd hr (by rw [h]; exact List.not_mem_nil), fun j hj => ?_⟩
    rcases Nat.decEq j i with hji | rfl
    · obtain ⟨hjl, oj, hoj, hall⟩ := mem_ready.1 hj
      have hil := (mem_ready.1 hr).1
      have hno : ∀ e ∈ oj.after, Region.binds md e = true → e.on ≠ i := fun e he hb heq => by
        have h1 := hall e he hb
        rw [heq] at h1
        by_cases hlt : i < l.size
        · simp [hlt] at hil h1; rw [hil] at h1; cases h1
        · simp [Array.getElem?_eq_none (Nat.le_of_not_lt hlt)] at h1
      have hjC : j ∉ C := links_not C i hC hil hcl j hj
      have hjs : T.contains j = false := by
        cases h : T.contains j with
        | false => rfl
        | true => exact absurd (hT j h) hjC
      refine wpOp_mono (fun a' w' h3 => ⟨fun _ => h3.2.1 hjs, ih _ a' w' (fun k ok hk hki hkl hkn => hfree k ok hk hki ?_ hkn) (fun c hc => ?_) (ready_mono hr (Ne.symm hji)) h3.1 (h3.2.1 hjs) ?_⟩) (wpOp_putIf hoj (hfree j oj hoj hji hjl hno) (fun cs b => hsel i oi cs b hi) (fun cs b => hsel j oj cs b hoj) hQ hy (H.2 j (ready_mono hj hji)))
      · rcases Nat.decEq j k with hjk | rfl
        · rw [getD_set_ne true hjk] at hkl; exact hkl
        · exact hjl
      · rw [getD_set_ne true (fun e => hjC (by rw [e]; exact hc))]; exact hcl c hc
      · rw [Array.setIfInBounds_comm _ _ hji]; exact h3.2.2
    · exact hy.wpOp hi hS ⟨fun _ => hS, H⟩
theorem AnyC.take {i : Nat} {oi : Oper} {v : Value} {m : Nat} {l : Array Bool} {a : Act} {w : World} (C : List Nat) (hi : ops[i]? = some oi)
    (hC : links md ops i C = true) (hT : (T.all fun t => C.contains t) = true) (hcl : (C.all fun c => !(l.getD c true)) = true) (hs : Region.noSelect ops = true) (hf : Region.free md ops l i = true) (hr : (Region.ready md ops l).contains i = true)
    (hQ : ∀ c a w, Q (.panic c) (a.put oi.dst v) w → Q (.panic c) a w) (hy : YieldsIf P ops S oi v a) (hS : S w)
    (h : AnyC P md ops Q S T m (l.setIfInBounds i true) (a.put oi.dst v) w) : AnyC P md ops Q S T (m + 1) l a w := by
  refine AnyC.first hi C hC (fun t ht => ?_) (Region.noSelect_spec hs) hQ m l a w (Region.free_spec hi hf) (fun c hc => ?_) (by simpa using hr) hy hS h
  · have := List.all_eq_true.1 hT t (by simpa using ht)
    simpa using this
  · have := List.all_eq_true.1 hcl c hc
    simpa using this
/-- One operation alone may come up. -/
theorem AnyC.one {i : Nat} {o : Oper} {m : Nat} {l : Array Bool} {a : Act} {w : World} (hr : Region.ready md ops l = [i]) (ho : ops[i]? = some o)
    (h : ∀ K : Act → World → Prop, Shut (∀ a w, (T.contains i = false → S w) → AnyC P md ops Q S T m (l.setIfInBounds i true) a w → K a w) → if Region.wanted o (yielded ops a.tmps) = true then Oper.wp P o a w K Q else K (a.put o.dst undef) w) :
    AnyC P md ops Q S T (m + 1) l a w :=
  ⟨fun h0 => (by rw [hr] at h0; cases h0), fun j hj => by
    rw [hr, List.mem_singleton] at hj
    subst hj
    exact wpOp_step ho fun K hK => h K fun a w h1 h2 => hK a w ⟨h1, h2⟩⟩
theorem AnyC.done {l : Array Bool} {a : Act} {w : World} (hr : Region.ready md ops l = []) (h : Q .normal a w) : ∀ m, AnyC P md ops Q S T m l a w
  | 0 => ⟨hr, h⟩
  | _ + 1 => ⟨fun _ => h, by rw [hr]; intro i hi; cases hi⟩
theorem AnyC.region {id : Nat} {a : Act} {w : World} (S : World → Prop) (T : List Nat) (hm : P.follows .mixedOrders = true) (h : AnyC P .any ops Q S T ops.size (Array.replicate ops.size false) a w.drew) : (Code.region id ops true).wp P Q a w :=
  wp_region_any hm (AnyC.any _ _ _ _ h)
end
end Go.Proofs.Ytaefmffmjbabcaa.Anc
