
/- StoreSaved: what both answer. -/
import Derived.Test.YtnljabgkaelplaaZsd
import Derived.Test.YtnljabgkaelplaaSvo
set_option linter.unusedVariables false
set_option linter.unusedSimpArgs false
namespace Go.Proofs.Ytnljabgkaelplaa
open Go.Proofs.Ytnljabgkaelplaa.Flo Go.RowKit Go.Shelf

def stT (s : ByteArray) (f : Nat → Bool) (n : Nat) (zs : List Nat) (m : Nat) : ByteArray := if svB s n zs m = true then txB (stA s.data.toList f n zs m) else ⟨#[]⟩
theorem stT_yes {s : ByteArray} {f : Nat → Bool} {n : Nat} {zs : List Nat} {m : Nat} (h : svB s n zs m = true) : stT s f n zs m = txB (stA s.data.toList f n zs m) := if_pos h
theorem stT_no {s : ByteArray} {f : Nat → Bool} {n : Nat} {zs : List Nat} {m : Nat} (h : svB s n zs m = false) : stT s f n zs m = ⟨#[]⟩ := if_neg (by rw [h]; decide)
theorem name_pos {s : ByteArray} {n : Nat} {zs : List Nat} {m : Nat} (h : svB s n zs m = true) : 1 ≤ s.data.toList.length := by
  unfold svB nameB at h
  simp only [Bool.and_eq_true, decide_eq_true_eq] at h
  exact h.1.2.1
set_option maxRecDepth 100000 in
set_option maxHeartbeats 4000000 in
theorem sti_all (s : ByteArray) (a : Option Addr) (n cap : Nat) (f : Nat → Bool) (b : Option Addr) (m capb : Nat) (zs : List Nat) (w : World) (ha : BRow w a n f) (hb : FRow w b m zs) (hz : Wf zs m) (hs : s.size ≤ 1048576) (hn : n ≤ 1048576) (hm : m ≤ 1048576) : Calls Try.prog 11 #[.agg #[.string s, .slice a n cap, .slice b m capb]] w fun e w' => e = .returned (.tuple #[.string (stT s f n zs m), .bool (svB s n zs m)]) ∧ Below w.heap.size w w' := by
  cases hok : svB s n zs m with
  | true =>
    rw [stT_yes hok]
    exact stiY s a n cap f b m capb zs w ha hb hz hok
  | false =>
    rw [stT_no hok]
    have HVS := Lib.hid (fun (w3 : World) (h3 : FRow w3 b m zs) => by have := vs_impl s a n cap b m capb zs w3 hs h3 hn hm; rw [hok] at this; exact this)
    have HBX := Lib.hid (belowA w (.cells #[.string s, .slice a n cap, .slice b m capb] 29))
    have HF := Lib.hid hb
    have H30 := Lib.hid (Sv3.new w (.string s) (.slice a n cap) (.slice b m capb) 29)
    clear ha hb hz hok
    go_enter Try.func11, Try.ntmps11
    go_wp2_with (first | (go_at_call 45; refine (HVS.out _ (HF.out.below HBX.out)).mono ?_; rintro e w2 ⟨rfl, hbv⟩; have HBV := Lib.hid hbv; clear hbv) | fail)
    go_ret2
    exact ⟨rfl, Below.next HBX.out HBV.out⟩
set_option maxRecDepth 100000 in
set_option maxHeartbeats 4000000 in
theorem sts_all (s : ByteArray) (a : Option Addr) (n cap : Nat) (f : Nat → Bool) (b : Option Addr) (m capb : Nat) (zs : List Nat) (w : World) (ha : BRow w a n f) (hb : FRow w b m zs) (hz : Wf zs m) (hs : s.size ≤ 1048576) (hn : n ≤ 1048576) (hm : m ≤ 1048576) : Calls Try.prog 9 #[.agg #[.string s, .slice a n cap, .slice b m capb]] w fun e w' => e = .returned (.tuple #[.string (stT s f n zs m), .bool (svB s n zs m)]) ∧ Below w.heap.size w w' := by
  have HC : ∀ k v, (#[.string s, .slice a n cap, .slice b m capb] : Array Value)[k]? = some v → (w.alloc (.cells #[.string s, .slice a n cap, .slice b m capb] 29)).cell? ⟨w.heap.size, k, none⟩ = some v := fun k v e => by rw [World.cell?_alloc_at _ _ _ _ rfl]; exact e
  have HVS := Lib.hid (vs_spec0 w.heap.size s a n cap b m capb zs (w.alloc (.cells #[.string s, .slice a n cap, .slice b m capb] 29)) hs (hb.below (belowA _ _)) hn hm (HC 0 _ rfl) (HC 1 _ rfl) (HC 2 _ rfl))
  have HBX := Lib.hid (belowA w (.cells #[.string s, .slice a n cap, .slice b m capb] 29))
  have H30 := Lib.hid (Sv3.new w (.string s) (.slice a n cap) (.slice b m capb) 29)
  have HA := Lib.hid ha
  have HF := Lib.hid hb
  have HZ := Lib.hid hz
  clear ha hb hz HC
  cases hok : svB s n zs m with
  | true =>
    rw [hok] at HVS
    rw [stT_yes hok]
    have HOK := Lib.hid hok
    have HY : Hid (∀ w2 : World, Below (w.alloc (.cells #[.string s, .slice a n cap, .slice b m capb] 29)).heap.size (w.alloc (.cells #[.string s, .slice a n cap, .slice b m capb] 29)) w2 → Calls Try.prog 44 #[.pointer (some ⟨w.heap.size, 0, none⟩)] w2 fun e w' => e = .returned (.string (txB (stA s.data.toList f n zs m))) ∧ Below w2.heap.size w2 w') := Lib.hid (fun (w2 : World) (h2 : Below (w.alloc (.cells #[.string s, .slice a n cap, .slice b m capb] 29)).heap.size (w.alloc (.cells #[.string s, .slice a n cap, .slice b m capb] 29)) w2) => by
      obtain ⟨nm, hnm⟩ := txB_of s
      have h8 := sv_yes HOK.out
      have h1 := name_pos HOK.out
      have hb2 := Below.next HBX.out h2
      have := sts_spec w.heap.size nm a n cap f b m capb zs w2 (HA.out.below hb2) (HF.out.below hb2) HZ.out (by rw [hnm, txB_toList] at h8 h1; exact ⟨h1, h8.1⟩) h8.2.1 h8.2.2 (by rw [← hnm]; exact H30.out.below h2 H30.out.1)
      rw [hnm, txB_toList]
      exact this)
    clear hok
    go_enter Try.func9, Try.ntmps9
    go_wp2_with (first | (go_at_call 43; refine HVS.out.mono ?_; rintro e w2 ⟨rfl, hbv⟩; have HBV := Lib.hid hbv; clear hbv) | (go_at_call 44; refine (HY.out _ HBV.out).mono ?_; rintro e w3 ⟨rfl, hb3⟩; have HB3 := Lib.hid hb3; clear hb3) | fail)
    go_ret2
    exact ⟨rfl, Below.next (Below.next HBX.out HBV.out) HB3.out⟩
  | false =>
    rw [hok] at HVS
    rw [stT_no hok]
    clear hok
    go_enter Try.func9, Try.ntmps9
    go_wp2_with (first | (go_at_call 43; refine HVS.out.mono ?_; rintro e w2 ⟨rfl, hbv⟩; have HBV := Lib.hid hbv; clear hbv) | fail)
    go_ret2
    exact ⟨rfl, Below.next HBX.out HBV.out⟩
theorem stO_spec (s : ByteArray) (p q n m cap capb : Nat) (f : Nat → Bool) (zs : List Nat) (w w0 : World) (L : List SE) (h : Owv w0 w L) (h1 : SE.sv p q n m f zs ∈ L) (hz : Wf zs m) (hs : s.size ≤ 1048576) (hn : n ≤ 1048576) (hm : m ≤ 1048576) :
    Calls Try.prog 9 #[.agg #[.string s, .slice (some ⟨p, 0, none⟩) n cap, .slice (some ⟨q, 0, none⟩) m capb]] w fun e w' => e = .returned (.tuple #[.string (stT s f n zs m), .bool (svB s n zs m)]) ∧ Owv w0 w' L :=
  (sts_all s _ n cap f _ m capb zs w (h.2 _ h1).1 (h.2 _ h1).2 hz hs hn hm).mono fun _ _ q => ⟨q.1, h.below q.2⟩
theorem stO_impl (s : ByteArray) (p q n m cap capb : Nat) (f : Nat → Bool) (zs : List Nat) (w w0 : World) (L : List SE) (h : Owv w0 w L) (h1 : SE.sv p q n m f zs ∈ L) (hz : Wf zs m) (hs : s.size ≤ 1048576) (hn : n ≤ 1048576) (hm : m ≤ 1048576) :
    Calls Try.prog 11 #[.agg #[.string s, .slice (some ⟨p, 0, none⟩) n cap, .slice (some ⟨q, 0, none⟩) m capb]] w fun e w' => e = .returned (.tuple #[.string (stT s f n zs m), .bool (svB s n zs m)]) ∧ Owv w0 w' L :=
  (sti_all s _ n cap f _ m capb zs w (h.2 _ h1).1 (h.2 _ h1).2 hz hs hn hm).mono fun _ _ q => ⟨q.1, h.below q.2⟩
section
open Go.ChangeShapes Go.WideShapes Go.Deep
variable {H : Type} {enc : TypeId × Value → H} {w : World} {base : Nat} {held : Bool}
set_option maxRecDepth 100000 in
theorem open_VF {fuel : Nat} {cs : List Value} {x : DataW H × List MemPlace} (h : DataW.trod enc Try.prog w base (fun _ => true) held fuel 25 cs = some x) (hs : cs.length = 3) :
    ∃ s a n cap f b m capb zs, cs = [.string s, .slice a n cap, .slice b m capb] ∧ BRow w a n f ∧ FRow w b m zs ∧ Wf zs m ∧ s.size ≤ 9223372036854775807 ∧ n ≤ 9223372036854775807 ∧ m ≤ 9223372036854775807 := by
  obtain ⟨y0, y1, y2, k, -, -, h0, h1, h2⟩ := trod_struct3 Try.underlying25 h
  match cs, hs with
  | [v0, v1, v2], _ =>
    simp only [cellsTV, cellsBV, cellsFV, List.drop, List.take] at h0 h1 h2
    obtain ⟨s, e0, hs0⟩ := trod_str Try.underlying9 h0
    obtain ⟨a, n, cap, e1, hn⟩ := open_sl Try.underlying22 cellsbV h1
    obtain ⟨b, m, capb, e2, hm⟩ := open_sl Try.underlying23 cellsfV h2
    simp at e0
    subst e0; subst e1; subst e2
    obtain ⟨f, hf⟩ := open_brow Try.underlying22 Try.underlying4 cellsbV h1
    obtain ⟨zs, hz, hwf⟩ := open_frow2 Try.underlying23 Try.underlying87 cellsfV h2
    exact ⟨s, a, n, cap, f, b, m, capb, zs, rfl, hf, hz, hwf, hs0, hn, hm⟩
end
end Go.Proofs.Ytnljabgkaelplaa
