
/- Letters that come to the front: lists; rows of the call's own that are stored into. -/
import Derived.Test.YtaefmffmjbabcaaCdv
import Derived.Laws.CopyOwn
import Derived.Laws.OwnMore
import Derived.Deep.Onto
import Derived.Deep.AppendLies
namespace Go.Proofs.Ytaefmffmjbabcaa
open Go.Proofs.Ytaefmffmjbabcaa.Flo Go.RowKit

/-- The letters 0 to n - 1. -/
def rngI (n : Nat) : List Int := (List.range n).map fun (i : Nat) => (i : Int)
/-- Those before a place one place up. -/
def dnF : Nat → List Int → List Int
  | 0, S => S
  | j + 1, S => dnF j (S.set (j + 1) (S.getD j 0))
def mvF (L : List Int) (i : Nat) : List Int := L.getD i 0 :: (L.take i ++ L.drop (i + 1))
theorem dnF_eq : ∀ (i : Nat) (L : List Int), i < L.length → dnF i L = L.take 1 ++ (L.take i ++ L.drop (i + 1)) := by
  intro i
  induction i with
  | zero =>
    intro L h
    show L = _
    match L, h with
    | x :: L, _ => rfl
  | succ j ih =>
    intro L h
    have hl : j < (L.set (j + 1) (L.getD j 0)).length := by rw [List.length_set]; omega
    show dnF j (L.set (j + 1) (L.getD j 0)) = _
    rw [ih _ hl, List.take_set, List.take_set, List.drop_set]
    have h1 : ¬ (j + 1 < j + 1) := by omega
    rw [if_neg h1, Nat.sub_self]
    have e1 : (L.take 1).set (j + 1) (L.getD j 0) = L.take 1 := List.set_eq_of_length_le (by simp; omega)
    have e2 : (L.take j).set (j + 1) (L.getD j 0) = L.take j := List.set_eq_of_length_le (by simp; omega)
    rw [e1, e2]
    have h3 : L.drop (j + 1) = L[j + 1] :: L.drop (j + 1 + 1) := List.drop_eq_getElem_cons (by omega)
    rw [h3, List.set_cons_zero]
    have h4 : L.take (j + 1) = L.take j ++ [L[j]'(by omega)] := List.take_succ_eq_append_getElem (by omega)
    have h5 : L.getD j 0 = L[j]'(by omega) := by rw [List.getD_eq_getElem?_getD, List.getElem?_eq_getElem (by omega)]; rfl
    rw [h4, h5, List.append_assoc]
    rfl
theorem mvF_of (L : List Int) (i : Nat) (h : i < L.length) : (dnF i L).set 0 (L.getD i 0) = mvF L i := by
  rw [dnF_eq i L h]
  match L, h with
  | x :: L, h => rfl
theorem mvF_len {L : List Int} {i : Nat} (h : i < L.length) : (mvF L i).length = L.length := by
  simp [mvF]; omega
theorem mvF_mem {L : List Int} {i : Nat} {x : Int} (h : i < L.length) (hx : x ∈ L) : x ∈ mvF L i := by
  have e : L = L.take i ++ (L[i] :: L.drop (i + 1)) := by rw [← List.drop_eq_getElem_cons h, List.take_append_drop]
  have e2 : L.getD i 0 = L[i] := by rw [List.getD_eq_getElem?_getD, List.getElem?_eq_getElem h]; rfl
  unfold mvF
  rw [e2]
  rw [e, List.mem_append, List.mem_cons] at hx
  rw [List.mem_cons, List.mem_append]
  rcases hx with hx | hx | hx
  · exact .inr (.inl hx)
  · exact .inl hx
  · exact .inr (.inr hx)
theorem dnF_len : ∀ (i : Nat) (L : List Int), (dnF i L).length = L.length
  | 0, _ => rfl
  | i + 1, L => by show (dnF i _).length = _; rw [dnF_len i, List.length_set]
/-- Where a letter is. -/
def idxF (L : List Int) (x : Int) : Nat := L.findIdx (fun y => y == x)
theorem idxF_lt {L : List Int} {x : Int} (h : x ∈ L) : idxF L x < L.length := List.findIdx_lt_length_of_exists ⟨x, h, by simp⟩
theorem idxF_get {L : List Int} {x : Int} (h : x ∈ L) : L.getD (idxF L x) 0 = x := by
  have hl := idxF_lt h
  rw [List.getD_eq_getElem?_getD, List.getElem?_eq_getElem hl]
  have := List.findIdx_getElem (w := hl)
  exact eq_of_beq this
theorem idxF_before {L : List Int} {x : Int} {j : Nat} (h : j < idxF L x) (hl : j < L.length) : ¬ L.getD j 0 = x := by
  have := List.not_of_lt_findIdx h
  rw [List.getD_eq_getElem?_getD, List.getElem?_eq_getElem hl]
  simpa using this
/-- The list after k letters, by their letters and by their places; and what is told. -/
def frL (zs : List Int) (n : Nat) : Nat → List Int
  | 0 => rngI n
  | k + 1 => mvF (frL zs n k) (idxF (frL zs n k) (zs.getD k 0))
def bkL (zs : List Int) (n : Nat) : Nat → List Int
  | 0 => rngI n
  | k + 1 => mvF (bkL zs n k) (zs.getD k 0).toNat
def frO (zs : List Int) (n k : Nat) : List Int := (List.range k).map fun (j : Nat) => ((idxF (frL zs n j) (zs.getD j 0) : Nat) : Int)
def bkO (zs : List Int) (n k : Nat) : List Int := (List.range k).map fun (j : Nat) => (bkL zs n j).getD (zs.getD j 0).toNat 0
theorem frO_on (zs : List Int) (n k : Nat) : (frO zs n (k + 1)).map (Value.int .i64) = (frO zs n k).map (Value.int .i64) ++ [.int .i64 ((idxF (frL zs n k) (zs.getD k 0) : Nat) : Int)] := by
  simp [frO, List.range_succ]
theorem bkO_on (zs : List Int) (n k : Nat) : (bkO zs n (k + 1)).map (Value.int .i64) = (bkO zs n k).map (Value.int .i64) ++ [.int .i64 ((bkL zs n k).getD (zs.getD k 0).toNat 0)] := by
  simp [bkO, List.range_succ]
def letP (zs : List Int) (n : Int) (k : Nat) : Prop := ∀ j, j < k → 0 ≤ zs.getD j 0 ∧ zs.getD j 0 < n
instance (zs : List Int) (n : Int) (k : Nat) : Decidable (letP zs n k) := inferInstanceAs (Decidable (∀ j, j < k → 0 ≤ zs.getD j 0 ∧ zs.getD j 0 < n))
def okF (zs : List Int) (m : Nat) (n : Int) : Bool := decide (1 ≤ n ∧ n ≤ 16) && (decide (m ≤ 512) && decide (letP zs n m))
theorem okF_out {zs : List Int} {m : Nat} {n : Int} (h : okF zs m n = true) : (1 ≤ n ∧ n ≤ 16) ∧ m ≤ 512 ∧ letP zs n m := by
  unfold okF at h
  rw [Bool.and_eq_true, Bool.and_eq_true] at h
  exact ⟨of_decide_eq_true h.1, of_decide_eq_true h.2.1, of_decide_eq_true h.2.2⟩
theorem okF_n {zs : List Int} {m : Nat} {n : Int} (h : okF zs m n = true) : m ≤ 1048576 := by
  have := (okF_out h).2.1
  omega
theorem rngI_len (n : Nat) : (rngI n).length = n := by simp [rngI]
theorem rngI_mem {n : Nat} {x : Int} (h : 0 ≤ x ∧ x < (n : Int)) : x ∈ rngI n := by
  unfold rngI
  rw [List.mem_map]
  exact ⟨x.toNat, List.mem_range.2 (by omega), by omega⟩
theorem rngI_on (k : Nat) : (rngI (k + 1)).map (Value.int .i64) = (rngI k).map (Value.int .i64) ++ [.int .i64 (k : Int)] := by
  simp [rngI, List.range_succ]
theorem frL_ok {zs : List Int} {n m : Nat} (h : letP zs (n : Int) m) : ∀ k, k ≤ m → (frL zs n k).length = n ∧ ∀ x : Int, 0 ≤ x → x < (n : Int) → x ∈ frL zs n k := by
  intro k
  induction k with
  | zero => intro _; exact ⟨rngI_len n, fun x h1 h2 => rngI_mem ⟨h1, h2⟩⟩
  | succ k ih =>
    intro hk
    obtain ⟨h1, h2⟩ := ih (by omega)
    have hz := h k (by omega)
    have hm := h2 _ hz.1 hz.2
    have hl := idxF_lt hm
    exact ⟨(mvF_len hl).trans h1, fun x hx0 hx1 => mvF_mem hl (h2 x hx0 hx1)⟩
theorem bkL_len {zs : List Int} {n m : Nat} (h : letP zs (n : Int) m) : ∀ k, k ≤ m → (bkL zs n k).length = n := by
  intro k
  induction k with
  | zero => intro _; exact rngI_len n
  | succ k ih =>
    intro hk
    have h1 := ih (by omega)
    have hz := h k (by omega)
    exact (mvF_len (by omega)).trans h1
theorem bkL_in {zs : List Int} {n m : Nat} (h : letP zs (n : Int) m) {k : Nat} (hk : k < m) : ∃ p : Nat, zs.getD k 0 = (p : Int) ∧ p < n := by
  have hz := h k hk
  exact ⟨(zs.getD k 0).toNat, by omega, by omega⟩
/-- Rows of the call's own: what a store and a copy within one leave. -/
theorem own_cell {w : World} {base : Nat} {e : TypeId} {g n cap j : Nat} {S : List Int} (h : w.ownsRow base e 1 (.slice (some ⟨g, 0, none⟩) n cap) n (S.map (Value.int .i64))) (hj : j < n) : w.cell? ⟨g, j, none⟩ = some (.int .i64 (S.getD j 0)) := by
  have hl : S.length = n := by simpa using h.1
  rw [h.cellAt j (by omega), List.getElem?_map, List.getD_eq_getElem?_getD, List.getElem?_eq_getElem (by omega)]; rfl
theorem own_set {w : World} {base : Nat} {e : TypeId} {g n cap : Nat} {S : List Int} (h : w.ownsRow base e 1 (.slice (some ⟨g, 0, none⟩) n cap) n (S.map (Value.int .i64))) (j : Nat) (x : Int) :
    (w.setCell ⟨g, j, none⟩ (.int .i64 x)).ownsRow base e 1 (.slice (some ⟨g, 0, none⟩) n cap) n ((S.set j x).map (Value.int .i64)) ∧ w.grownBy (w.setCell ⟨g, j, none⟩ (.int .i64 x)) (some g) := by
  have := h.stored j (.int .i64 x)
  rw [List.map_set]
  exact this
theorem own_lt {w : World} {base : Nat} {e : TypeId} {g n cap : Nat} {xs : List Value} (h : w.ownsRow base e 1 (.slice (some ⟨g, 0, none⟩) n cap) n xs) : base ≤ g ∧ g < w.heap.size := h.lt g rfl
theorem take_splice {cur cs : List Value} {off n : Nat} (hn : n ≤ cur.length) (h : off + cs.length ≤ n) : (splice cur off cs).take n = splice (cur.take n) off cs := by
  unfold splice
  have h1 : off ≤ n := by omega
  rw [List.take_append, List.length_take, Nat.min_eq_left (by omega), List.take_append, List.take_of_length_le (l := List.take off cur) (by simp; omega), List.take_of_length_le (l := cs) (by omega)]
  rw [List.take_take, Nat.min_eq_left h1]
  congr 2
  rw [List.take_drop]
  congr 1
  congr 1
  omega
theorem own_copied {w : World} {base : Nat} {e : TypeId} {g n cap : Nat} {xs : List Value} (h : w.ownsRow base e 1 (.slice (some ⟨g, 0, none⟩) n cap) n xs) :
    ∃ cur : List Value, n ≤ cur.length ∧ w.heap[g]? = some (.cells cur.toArray e (0, 0)) ∧ cur.take n = xs ∧
      ∀ (w' : World) (off : Nat) (cs : List Value), off + cs.length ≤ n → w'.heap[g]? = some (.cells (splice cur off cs).toArray e (0, 0)) → w'.ownsRow base e 1 (.slice (some ⟨g, 0, none⟩) n cap) n (splice xs off cs) := by
  obtain ⟨hl, h⟩ := h
  rcases h with ⟨h', _⟩ | ⟨g', cap', cur, h', hb, hg, hnc, hcm, hcs, ht⟩
  · simp at h'
  · simp only [Value.slice.injEq, Option.some.injEq, Addr.mk.injEq, and_true, true_and] at h'
    obtain ⟨rfl, rfl⟩ := h'
    rw [Nat.mul_one] at ht hcs hl
    have hcl : cur.toList.length = cap := by simpa using hcs
    refine ⟨cur.toList, by omega, by simpa using hg, ht, fun w' off cs hf hw => ⟨?_, .inr ⟨g, cap, (splice cur.toList off cs).toArray, rfl, hb, hw, hnc, hcm, ?_, ?_⟩⟩⟩
    · rw [length_splice _ _ _ (by omega), Nat.mul_one]; exact hl
    · rw [Nat.mul_one]
      show (splice cur.toList off cs).toArray.size = cap
      rw [List.size_toArray, length_splice _ _ _ (by omega)]; exact hcl
    · rw [Nat.mul_one]
      show (splice cur.toList off cs).take n = _
      rw [take_splice (by omega) hf, ht]
theorem step_copy_grown {P : Program} {ops : Array Oper} {o : Oper} {a : Act} {w : World} {K : Act → World → Prop} {Q : Exit → Act → World → Prop} {E : Prop} (hgd : o.guard = none) (d s : Operand) (dT sT : TypeId)
    (ho : o.op = .call { callee := .builtin .copy, args := #[d, s], argTypes := #[dT, sT] }) (elem : TypeId) (hu : P.underlying dT = some (.slice elem)) (hsz : (P.info? elem).map (·.size) = some 1)
    (dp sp : Option Addr) (dLen dCap sLen sCap : Nat) (hd : a.eval d = .slice dp dLen dCap) (hs : a.eval s = .slice sp sLen sCap)
    (g off : Nat) (cur : List Value) (t : TypeId) (hg : w.heap[g]? = some (.cells cur.toArray t (0, 0))) (cs : List Value) (hn : cs.length = Nat.min sLen dLen)
    (hpos : 0 < cs.length → dp = some ⟨g, off, none⟩ ∧ ∃ ad, sp = some ad ∧ ∀ j v, cs[j]? = some v → w.cell? (ad.add j) = some v)
    (hfit : off + cs.length ≤ cur.length) (h1 : ∀ v ∈ cs, v.oneCell' = true)
    (h : ∀ w', Hid (w'.heap[g]? = some (.cells (splice cur off cs).toArray t (0, 0))) → w.grownBy w' (some g) → K (a.put o.dst (goInt cs.length)) w') :
    if Region.wanted o (yielded ops a.tmps) = true then Oper.wp P o a w K Q else E := by
  have hw : Region.wanted o (yielded ops a.tmps) = true := by simp [Region.wanted, hgd]
  rw [if_pos hw]
  by_cases h0 : cs.length = 0
  · obtain rfl : cs = [] := List.eq_nil_of_length_eq_zero h0
    have hrun := run_copy_none (P := P) w dT sT o.type elem dp sp dLen dCap sLen sCap hu hsz (by simpa using hn.symm)
    unfold Oper.wp
    simp [execOp, ho, resolve, invoke, builtin, hd, hs, hrun, Result.andThen]
    exact h w (show _ = _ by simpa [splice] using hg) ⟨rfl, rfl, rfl, Nat.le_refl _, fun _ _ _ => rfl⟩
  · obtain ⟨rfl, ad, rfl, hsrc⟩ := hpos (by omega)
    have hrun := run_copy_row (P := P) w dT sT o.type elem g off dLen dCap ad sLen sCap cur.toArray t cs hu hsz hg hn hsrc (by simpa using hfit) h1
    unfold Oper.wp
    simp [execOp, ho, resolve, invoke, builtin, hd, hs, hrun, Result.andThen]
    exact h _ (show _ = _ by simpa [splice] using setRow_heap w g _ _ t _ hg) ⟨rfl, rfl, rfl, by simp [World.setRow], fun k _ hk => setRow_other w g k _ (fun e => hk (by rw [e]))⟩
theorem own_irowF {w : World} {base : Nat} {e : TypeId} {v : Value} {n : Nat} {zs : List Int} (h : w.ownsRow base e 1 v n (zs.map (Value.int .i64))) (hn : n ≠ 0) :
    ∃ g cap, v = .slice (some ⟨g, 0, none⟩) n cap ∧ base ≤ g ∧ g < w.heap.size ∧ IRow w (some ⟨g, 0, none⟩) n zs ∧ ∀ j, j < n → w.frozen? ⟨g, j, none⟩ = false := by
  obtain ⟨g, cap, rfl, hg, hgl⟩ := World.ownsRow.form h (by omega)
  have hl : zs.length = n := by simpa using h.1
  exact ⟨g, cap, rfl, hg, hgl, ⟨hl, .inr ⟨g, 0, rfl, hgl, fun i hi => by rw [Nat.zero_add]; exact own_cell h hi⟩⟩, fun j _ => h.frozenAt j⟩
theorem grown_trans {a b c : World} {row : Option Nat} (h1 : a.grownBy b row) (h2 : b.grownBy c row) : a.grownBy c row :=
  ⟨h2.os.trans h1.os, h2.tape.trans h1.tape, h2.output.trans h1.output, Nat.le_trans h1.size h2.size, fun k hk hr => (h2.block k (Nat.lt_of_lt_of_le hk h1.size) hr).trans (h1.block k hk hr)⟩
theorem grown_refl (a : World) (row : Option Nat) : a.grownBy a row := ⟨rfl, rfl, rfl, Nat.le_refl _, fun _ _ _ => rfl⟩
end Go.Proofs.Ytaefmffmjbabcaa
