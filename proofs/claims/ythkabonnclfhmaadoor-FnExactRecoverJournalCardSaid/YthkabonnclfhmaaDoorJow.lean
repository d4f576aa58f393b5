
/- JournalOf: the functions. -/
import Derived.Test.YthkabonnclfhmaaDoorStr
import Derived.Test.YthkabonnclfhmaaDoorTxw
import Derived.Test.YthkabonnclfhmaaDoorBld
import Derived.Test.YthkabonnclfhmaaDoorRdw
import Derived.Test.YthkabonnclfhmaaDoorCpt
namespace Go.Proofs.YthkabonnclfhmaaDoor
open Go.Proofs.YthkabonnclfhmaaDoor.Flo Go.RowKit Go.Proofs.YthkabonnclfhmaaDoor.Dcn

theorem cell_ltJ {w : World} {b o : Nat} {v : Value} (h : w.cell? ⟨b, o, none⟩ = some v) : b < w.heap.size := by
  unfold World.cell? at h
  cases hx : w.heap[b]? with
  | none => simp [hx] at h
  | some o => exact (Array.getElem?_eq_some_iff.1 hx).1
/-- A line of a journal. -/
def jE (c : Int) (l : List UInt8) : List UInt8 := Lib.itoa c ++ 32 :: (l ++ [10])
def jC (f : Nat → ByteArray) : Nat → Int
  | 0 => 0
  | k + 1 => chk (jC f k) (f k).data.toList
def jS (f : Nat → ByteArray) : Nat → List UInt8
  | 0 => []
  | k + 1 => jS f k ++ jE (jC f (k + 1)) (f k).data.toList
def jT (f : Nat → ByteArray) : Nat → Nat
  | 0 => 0
  | k + 1 => jT f k + (f k).size + 3
theorem jC_bd (f : Nat → ByteArray) : ∀ k, 0 ≤ jC f k ∧ jC f k < 65003
  | 0 => by simp [jC]
  | k + 1 => chk_bd _ (jC_bd f k).1 (jC_bd f k).2 _
theorem jC_step (f : Nat → ByteArray) (k : Nat) : chk (jC f k) (f k).data.toList = jC f (k + 1) := rfl
theorem jS_step (f : Nat → ByteArray) (k : Nat) : jS f k ++ jE (jC f (k + 1)) (f k).data.toList = jS f (k + 1) := rfl
theorem jE_len (c : Int) (l : List UInt8) : l.length + 3 ≤ (jE c l).length := by
  have := List.length_pos_iff.2 (itoa_ne c)
  unfold jE
  simp; omega
theorem jE_max {c : Int} (h0 : 0 ≤ c) (h1 : c < 65003) (l : List UInt8) : (jE c l).length ≤ l.length + 19 := by
  have := (itoa_len17 c (by omega) (by omega)).2
  unfold jE
  simp; omega
theorem jS_len (f : Nat → ByteArray) (k : Nat) : (jS f (k + 1)).length = (jS f k).length + (jE (jC f (k + 1)) (f k).data.toList).length := by rw [← jS_step, List.length_append]
theorem jS_mono (f : Nat → ByteArray) {k n : Nat} (h : k ≤ n) : (jS f k).length ≤ (jS f n).length := by
  induction n with
  | zero => obtain rfl : k = 0 := by omega
            exact Nat.le_refl _
  | succ n ih =>
    by_cases e : k = n + 1
    · subst e; exact Nat.le_refl _
    · have := ih (by omega)
      rw [jS_len]; omega
theorem jT_le (f : Nat → ByteArray) : ∀ k, jT f k ≤ (jS f k).length
  | 0 => Nat.le_refl _
  | k + 1 => by
    have h1 := jT_le f k
    have h2 := jE_len (jC f (k + 1)) (f k).data.toList
    have h3 : (f k).data.toList.length = (f k).size := Array.length_toList
    rw [jS_len]
    show jT f k + (f k).size + 3 ≤ _
    omega
def jOk (f : Nat → ByteArray) (n : Nat) : Bool := decide ((∀ i, i < n → (10 : UInt8) ∉ (f i).data.toList) ∧ (jS f n).length ≤ 16000)
theorem jno_nl {f : Nat → ByteArray} {n k : Nat} (hk : k < n) (h : (10 : UInt8) ∈ (f k).data.toList) : jOk f n = false := decide_eq_false (fun q => q.1 k hk h)
theorem jno_len {f : Nat → ByteArray} {n k : Nat} (hk : k ≤ n) (h : 16000 < (jS f k).length) : jOk f n = false := decide_eq_false (fun q => by have := q.2; have := jS_mono f hk; omega)
theorem jno_tot {f : Nat → ByteArray} {n k : Nat} (hk : k ≤ n) (h : 16000 < jT f k) : jOk f n = false := jno_len hk (Nat.lt_of_lt_of_le h (jT_le f k))
theorem jok_all {f : Nat → ByteArray} {n : Nat} (h : ∀ i, i < n → (10 : UInt8) ∉ (f i).data.toList) (h2 : (jS f n).length ≤ 16000) : jOk f n = true := decide_eq_true ⟨h, h2⟩
theorem jE_tx (c : Int) (s : ByteArray) : txB (Lib.itoa c) ++ ⟨#[32]⟩ ++ s ++ ⟨#[10]⟩ = txB (jE c s.data.toList) := by
  refine txB_eq ?_
  rw [txB_list]
  unfold jE
  simp [ByteArray.data_append, txB]
theorem jS_tx (f : Nat → ByteArray) (k : Nat) : txB (jS f k) ++ txB (jE (jC f (k + 1)) (f k).data.toList) = txB (jS f (k + 1)) := by
  rw [txB_app, jS_step]
def JPost (ok : Bool) (t : ByteArray) (w : World) (e : Ending) (w' : World) : Prop := ((ok = true ∧ e = .returned (.tuple #[.string t, .bool true])) ∨ (ok = false ∧ e = .returned (.tuple #[.string ⟨#[]⟩, .bool false]))) ∧ Below w.heap.size w w'
set_option maxRecDepth 100000 in
set_option maxHeartbeats 2000000 in
theorem ent_impl (c : Int) (s : ByteArray) (h0 : 0 ≤ c) (h1 : c < 65003) (hs : s.size ≤ 1048576) (w0 w : World) (hp : Pow w0) (hb : Below w0.heap.size w0 w) :
    Calls Tryd.prog 91 #[.int .i64 c, .string s] w fun e w' => e = .returned (.tuple #[.string (txB (jE (chk c s.data.toList) s.data.toList)), .int .i64 (chk c s.data.toList)]) ∧ Below w.heap.size w w' := by
  have hcb := chk_bd c h0 h1 s.data.toList
  have HCK := Lib.hid (fun W => check_impl c s W h0 h1 (by unfold maxLen; omega))
  have HD := Lib.hid (fun W (h : Below w.heap.size w W) => dec_impl (chk c s.data.toList) (by omega) (by omega) w0 W hp (Below.next hb h))
  have HT := Lib.hid (jE_tx (chk c s.data.toList) s)
  have hl : (txB (Lib.itoa (chk c s.data.toList))).size ≤ 17 := by rw [txB_size]; exact (itoa_len17 _ (by omega) (by omega)).2
  generalize chk c s.data.toList = d at HCK HD HT hl hcb ⊢
  generalize jE d s.data.toList = E at HT ⊢
  generalize txB (Lib.itoa d) = D at HD HT hl
  clear hp hb
  go_enter Tryd.func91, Tryd.ntmps91
  go_wp2_with (first | (go_at_call 125; refine (HCK.out _).mono ?_; rintro e w2 ⟨rfl, rfl⟩) | (go_at_call 16; refine (HD.out _ (by first | exact Below.refl _ _ | (repeat (first | exact Below.refl _ _ | refine Below.alloc ?_ (by first | (simp; done) | (simp; omega)) _)))).mono ?_; rintro e w4 ⟨rfl, hb4⟩; have HB4 := Lib.hid hb4; clear hb4) | fail)
  go_ret2
  exact ⟨by rw [HT.out]; rfl, HB4.out⟩

theorem jT_three (f : Nat → ByteArray) : ∀ k, 3 * k ≤ jT f k
  | 0 => Nat.le_refl _
  | k + 1 => by
    have := jT_three f k
    show 3 * (k + 1) ≤ jT f k + (f k).size + 3
    omega
theorem jS_max (f : Nat → ByteArray) : ∀ k, (jS f k).length ≤ jT f k + 16 * k
  | 0 => Nat.le_refl _
  | k + 1 => by
    have h1 := jS_max f k
    have h2 := jE_max (jC_bd f (k + 1)).1 (jC_bd f (k + 1)).2 (f k).data.toList
    have h3 : (f k).data.toList.length = (f k).size := Array.length_toList
    rw [jS_len]
    show _ ≤ jT f k + (f k).size + 3 + 16 * (k + 1)
    omega
theorem jT_mono (f : Nat → ByteArray) {k n : Nat} (h : k ≤ n) : jT f k ≤ jT f n := by
  induction n with
  | zero => obtain rfl : k = 0 := by omega
            exact Nat.le_refl _
  | succ n ih =>
    by_cases e : k = n + 1
    · subst e; exact Nat.le_refl _
    · have := ih (by omega)
      show _ ≤ jT f n + (f n).size + 3
      omega
set_option maxRecDepth 100000 in
set_option maxHeartbeats 4000000 in
theorem lj_spec (a : Option Addr) (n cap : Nat) (f : Nat → ByteArray) (w : World) (h : SRow w a n f) (hn : n ≤ 1048576) (hT : jT f n ≤ 16000) :
    Calls Tryd.prog 90 #[.slice a n cap] w fun e w' => e = .returned (.string (txB (jS f n))) ∧ Below w.heap.size w w' := by
  have HA := Lib.hid h
  have HTT := Lib.hid hT
  clear h hT
  go_enter Tryd.func90, Tryd.ntmps90
  go_wp2
  go_loopw [3, 4, 5] (fun ov cv iv w' => ∃ (k : Nat) (wr : World), k ≤ n ∧ ov = .string (txB (jS f k)) ∧ cv = .int .i64 (jC f k) ∧ iv = .int .i64 k ∧ wr = w' ∧ Hid (Below w.heap.size w wr)) (fun _ _ iv _ => n - (intOf iv).toNat)
  case atStart => exact ⟨0, _, by omega, rfl, rfl, rfl, rfl, Lib.hid (Below.refl _ _)⟩
  case round =>
    obtain ⟨k, wr, hk, rfl, rfl, rfl, rfl, HW⟩ := hrel
    by_cases hlt : k < n
    · have hx1 := jT_mono f (show k + 1 ≤ n by omega)
      have hx2 := jS_max f (k + 1)
      have hx3 := jT_three f (k + 1)
      have hx4 := HTT.out
      have hx5 := jS_len f k
      have hcb := jC_bd f k
      have hcd := jC_bd f (k + 1)
      have hsz : (f k).data.toList.length = (f k).size := Array.length_toList
      have hxT : jT f (k + 1) = jT f k + (f k).size + 3 := rfl
      have HCK := Lib.hid (fun W => check_spec (jC f k) (f k) W hcb.1 hcb.2 (by unfold maxLen; omega))
      rw [jC_step] at HCK
      have HD := Lib.hid (fun W => dec_spec (jC f (k + 1)) (by omega) (by omega) W)
      have hr17 := (itoa_len17 (jC f (k + 1)) (by omega) (by omega)).2
      have HE : Hid (jE (jC f (k + 1)) (f k).data.toList = Lib.itoa (jC f (k + 1)) ++ 32 :: ((f k).data.toList ++ [10])) := Lib.hid rfl
      have HS2 : Hid (jS f k ++ jE (jC f (k + 1)) (f k).data.toList = jS f (k + 1)) := Lib.hid rfl
      obtain ⟨b, o, rfl, hck⟩ := (HA.out.below HW.out).cell hlt
      have HWB : Hid (b < wr.heap.size) := Lib.hid (cell_ltJ hck)
      have hfk : txB (f k).data.toList = f k := txB_back _
      have HCB := Lib.hid hck
      rw [← hfk] at HCK hck HCB
      generalize (f k).data.toList = l at HCK hck HCB HE HS2 hx5 hsz
      generalize jE (jC f (k + 1)) l = E at HE HS2 hx5
      generalize Lib.itoa (jC f (k + 1)) = R at HD HE hr17
      obtain ⟨S2, hS2⟩ : ∃ x, jS f (k + 1) = x := ⟨_, rfl⟩
      obtain ⟨d, hdd⟩ : ∃ x, jC f (k + 1) = x := ⟨_, rfl⟩
      rw [hS2] at HS2 hx2 hx5
      rw [hdd] at HCK HD hcd
      have HQ1 := Lib.hid hS2
      have HQ2 := Lib.hid hdd
      generalize jS f k = S1 at HS2 hx5 ⊢
      generalize jC f k = c at HCK hcb ⊢
      clear hS2 hdd
      have hr1 : ∀ w : World, (Op.stringOp .add (txB R) ⟨#[32]⟩).run Tryd.prog w = .ok (.string (txB (R ++ [32]))) w := fun w => run_tx Tryd.prog R [32] (by simp; omega) w
      have hr2 : ∀ w : World, (Op.stringOp .add (txB (R ++ [32])) (txB l)).run Tryd.prog w = .ok (.string (txB (R ++ 32 :: l))) w := fun w => by have := run_tx Tryd.prog (R ++ [32]) l (by simp; omega) w; rw [show R ++ [32] ++ l = R ++ 32 :: l by simp] at this; exact this
      have hr3 : ∀ w : World, (Op.stringOp .add (txB (R ++ 32 :: l)) ⟨#[10]⟩).run Tryd.prog w = .ok (.string (txB E)) w := fun w => by rw [HE.out]; have := run_tx Tryd.prog (R ++ 32 :: l) [10] (by simp; omega) w; rw [show R ++ 32 :: l ++ [10] = R ++ 32 :: (l ++ [10]) by simp] at this; exact this
      have hr4 : ∀ w : World, (Op.stringOp .add (txB S1) (txB E)).run Tryd.prog w = .ok (.string (txB S2)) w := fun w => by have := run_tx Tryd.prog S1 E (by omega) w; rw [HS2.out] at this; exact this
      have hbr : Below wr.heap.size wr wr := Below.refl _ _
      clear hx1 hx2 hx3 hx4 hx5 hsz hxT hr17 hfk
      go_wp2_with (first | (go_at_call 124; refine (HCK.out _).mono ?_; rintro e w2 ⟨rfl, rfl⟩) | fail)
      go_region_held3 (fun w' => w'.cell? ⟨b, o + k, none⟩ = some (.string (txB l)))
        (first | assumption | go_keep)
        (first
          | (go_at_call 62; refine (HD.out _).mono ?_; rintro e w2 ⟨rfl, hb⟩; have hbn : Below wr.heap.size wr w2 := Below.next (by first | assumption | exact Below.refl _ _ | exact Below.drew (Below.refl _ _) | exact Below.drewN' (Below.refl _ _) _ | (refine Below.drew ?_; assumption) | (refine Below.drewN' ?_ _; assumption)) hb; have hck : w2.cell? ⟨b, o + k, none⟩ = some (.string (txB l)) := (by rw [hbn.cell (p := ⟨b, o + k, none⟩) HWB.out]; exact HCB.out))
          | fail)
      all_goals
        go_wp2
        exact ⟨⟨k + 1, _, by omega, by rw [HQ1.out], by rw [HQ2.out], by first | rfl | go_num | (congr 1), rfl, Lib.hid (Below.next HW.out (by first | assumption | exact Below.refl _ _ | exact Below.drew (Below.refl _ _) | exact Below.drewN' (Below.refl _ _) _ | (refine Below.drew ?_; assumption) | (refine Below.drewN' ?_ _; assumption)))⟩, by show n - ((k : Int) + 1).toNat < n - (k : Int).toNat; omega⟩
    · obtain rfl : k = n := by omega
      go_wp2
      go_ret
      exact ⟨rfl, HW.out⟩

theorem ib_mem {c : UInt8} {l : List UInt8} (h : c ∈ l) : decide (0 ≤ Lib.indexByte l c) = true := by
  rw [← Lib.index_one]
  rcases split_first c l with h2 | ⟨a, b, rfl, ha⟩
  · exact absurd rfl (h2 c h)
  · rw [index_at c b a ha]; simp
theorem ib_free {c : UInt8} {l : List UInt8} (h : c ∉ l) : decide (0 ≤ Lib.indexByte l c) = false := by
  rw [← Lib.index_one, index_free c l (fun x hx e => h (e ▸ hx))]; rfl
theorem JPost.no {ok : Bool} {t : ByteArray} {w w' : World} (h : ok = false) (hb : Below w.heap.size w w') : JPost ok t w (.returned (.tuple #[.string ⟨#[]⟩, .bool false])) w' := ⟨.inr ⟨h, rfl⟩, hb⟩
theorem JPost.yes {ok : Bool} {t : ByteArray} {w w' : World} (h : ok = true) (hb : Below w.heap.size w w') : JPost ok t w (.returned (.tuple #[.string t, .bool true])) w' := ⟨.inl ⟨h, rfl⟩, hb⟩
theorem mem_take_snoc {s : ByteArray} {j : Nat} (h : j < s.size) (c : UInt8) (h1 : c ∉ s.data.toList.take j) (h2 : s[j] ≠ c) : c ∉ s.data.toList.take (j + 1) := by
  rw [take_snoc s j h]
  intro h3
  rcases List.mem_append.1 h3 with h3 | h3
  · exact h1 h3
  · rw [List.mem_singleton] at h3; exact h2 h3.symm
set_option maxRecDepth 100000 in
set_option maxHeartbeats 4000000 in
theorem jo_spec (a : Option Addr) (n cap : Nat) (f : Nat → ByteArray) (w : World) (h : SRow w a n f) (hn : n ≤ 1048576) (hf : ∀ k, k < n → (f k).size ≤ 1048576) :
    Calls Tryd.prog 54 #[.slice a n cap] w (JPost (jOk f n) (txB (jS f n)) w) := by
  have HA := Lib.hid h
  have HF := Lib.hid hf
  clear h hf
  go_enter Tryd.func54, Tryd.ntmps54
  go_wp2
  go_loopw [4, 5] (fun tv iv w' => ∃ (k : Nat) (wr : World), k ≤ n ∧ tv = .int .i64 (jT f k) ∧ iv = .int .i64 k ∧ wr = w' ∧ jT f k ≤ 16000 ∧ Hid (∀ i, i < k → (10 : UInt8) ∉ (f i).data.toList) ∧ Hid (Below w.heap.size w wr)) (fun _ iv _ => n - (intOf iv).toNat)
  case atStart => exact ⟨0, _, by omega, rfl, rfl, rfl, Nat.zero_le _, Lib.hid (by intro i hi; omega), Lib.hid (Below.refl _ _)⟩
  case round =>
    obtain ⟨k, wr, hk, rfl, rfl, rfl, hjt, HALL, HW⟩ := hrel
    by_cases hlt : k < n
    · obtain ⟨b, o, rfl, hck⟩ := (HA.out.below HW.out).cell hlt
      have hfk := HF.out k hlt
      have hxT : jT f (k + 1) = jT f k + (f k).size + 3 := rfl
      have HXT : Hid (jT f (k + 1) = jT f k + (f k).size + 3) := Lib.hid hxT
      obtain ⟨T, hTT⟩ : ∃ T, jT f k = T := ⟨_, rfl⟩
      rw [hTT] at hxT hjt HXT ⊢
      by_cases h16 : jT f (k + 1) ≤ 16000
      · have hd : decide ((16000 : Int) < (T : Int) + ((f k).size + 3)) = false := decide_eq_false (by omega)
        obtain ⟨s, hs⟩ : ∃ s, f k = s := ⟨_, rfl⟩
        have HSE := Lib.hid hs
        rw [hs] at hck hfk hxT hd HXT
        clear hs hTT
        go_wp2
        go_loopw [6] (fun jv w' => ∃ (j : Nat) (wq : World), j ≤ s.size ∧ jv = .int .i64 j ∧ wq = w' ∧ Hid ((10 : UInt8) ∉ s.data.toList.take j) ∧ Hid (Below wr.heap.size wr wq)) (fun jv _ => s.size - (intOf jv).toNat)
        case atStart => exact ⟨0, _, by omega, rfl, rfl, Lib.hid (by simp), Lib.hid (Below.refl _ _)⟩
        case round =>
          obtain ⟨j, wq, hj, rfl, rfl, HN, HWQ⟩ := hrel
          have hcq : wq.cell? ⟨b, o + k, none⟩ = some (.string s) := (HWQ.out.cell (p := ⟨b, o + k, none⟩) (cell_ltJ hck)).trans hck
          by_cases hjl : j < s.size
          · by_cases h10 : s[j] = 10
            · have HNO := Lib.hid (jno_nl (f := f) hlt (by rw [HSE.out, ← h10]; exact List.getElem_mem (l := s.data.toList) (n := j) (by simpa using hjl)))
              have hx : ((s[j]).toNat : Int) == 10 := by rw [h10]; rfl
              go_wp2
              go_ret2
              exact JPost.no HNO.out (Below.next HW.out HWQ.out)
            · have HN2 := Lib.hid (mem_take_snoc hjl 10 HN.out h10)
              have hx : (((s[j]).toNat : Int) == 10) = false := by
                rw [beq_eq_false_iff_ne]; intro e
                exact h10 (UInt8.toNat_inj.1 (by show (s[j]).toNat = 10; omega))
              go_wp2
              exact ⟨⟨j + 1, _, by omega, by first | rfl | go_num | (congr 1), rfl, HN2, HWQ⟩, by show s.size - ((j : Int) + 1).toNat < s.size - (j : Int).toNat; omega⟩
          · have HA2 : Hid (∀ i, i < k + 1 → (10 : UInt8) ∉ (f i).data.toList) := Lib.hid (fun i hi => by
              by_cases e : i < k
              · exact HALL.out i e
              · obtain rfl : i = k := by omega
                rw [HSE.out]
                have := HN.out
                rwa [take_all s j hjl] at this)
            have HB2 := Lib.hid (Below.next HW.out HWQ.out)
            go_wp2
            exact ⟨⟨k + 1, _, by omega, by rw [HXT.out] <;> first | rfl | (congr 1; omega), by first | rfl | go_num | (congr 1), rfl, h16, HA2, HB2⟩, by show n - ((k : Int) + 1).toNat < n - (k : Int).toNat; omega⟩
      · have HNO := Lib.hid (jno_tot (f := f) (show k + 1 ≤ n by omega) (by omega))
        have hd : decide ((16000 : Int) < (T : Int) + ((f k).size + 3)) = true := decide_eq_true (by omega)
        obtain ⟨s, hs⟩ : ∃ s, f k = s := ⟨_, rfl⟩
        rw [hs] at hck hfk hxT hd
        clear hs hTT h16
        go_wp2
        go_ret2
        exact JPost.no HNO.out HW.out
    · obtain rfl : k = n := by omega
      have HLJ := Lib.hid (fun W (hb : Below w.heap.size w W) => lj_spec a k cap f W (HA.out.below hb) hn hjt)
      obtain ⟨X, hX⟩ : ∃ X, txB (jS f k) = X := ⟨_, rfl⟩
      have hXs : X.size = (jS f k).length := by rw [← hX, txB_size]
      have HXE := Lib.hid hX
      rw [hX] at HLJ
      by_cases h16 : (jS f k).length ≤ 16000
      · have HOK := Lib.hid (jok_all (n := k) HALL.out h16)
        have hd : decide ((16000 : Int) < (X.size : Int)) = false := decide_eq_false (by omega)
        clear hX
        go_wp2_with (first | (go_at_call 90; refine (HLJ.out _ HW.out).mono ?_; rintro e w2 ⟨rfl, hb2⟩; have HB2 := Lib.hid (Below.next HW.out hb2); clear hb2) | fail)
        go_ret2
        rw [HXE.out]
        exact JPost.yes HOK.out HB2.out
      · have HNO := Lib.hid (jno_len (f := f) (Nat.le_refl k) (by omega))
        have hd : decide ((16000 : Int) < (X.size : Int)) = true := decide_eq_true (by omega)
        clear hX
        go_wp2_with (first | (go_at_call 90; refine (HLJ.out _ HW.out).mono ?_; rintro e w2 ⟨rfl, hb2⟩; have HB2 := Lib.hid (Below.next HW.out hb2); clear hb2) | fail)
        go_ret2
        exact JPost.no HNO.out HB2.out
set_option maxRecDepth 100000 in
set_option maxHeartbeats 4000000 in
theorem jo_impl (a : Option Addr) (n cap : Nat) (f : Nat → ByteArray) (w0 w : World) (h : SRow w a n f) (hn : n ≤ 1048576) (hf : ∀ k, k < n → (f k).size ≤ 1048576) (hp : Pow w0) (hb : Below w0.heap.size w0 w) :
    Calls Tryd.prog 56 #[.slice a n cap] w (JPost (jOk f n) (txB (jS f n)) w) := by
  have HA := Lib.hid h
  have HF := Lib.hid hf
  have HEN := Lib.hid (fun W (h1 : Below w.heap.size w W) c s h2 h3 h4 => ent_impl c s h2 h3 h4 w0 W hp (Below.next hb h1))
  have HB0 : Hid (Bld 103 5 w.heap.size [] (w.alloc (.cells #[.pointer none, .slice none 0 0] 103))) := Lib.hid (Bld.fresh _ _ w)
  have W0 : Hid (Below w.heap.size w (w.alloc (.cells #[.pointer none, .slice none 0 0] 103))) := Lib.hid ((Below.refl _ _).alloc (Nat.le_refl _) _)
  clear h hf hp hb
  go_enter Tryd.func56, Tryd.ntmps56
  go_wp2
  go_loopw [5, 12] (fun cv iv w' => ∃ (k : Nat) (wr : World), k ≤ n ∧ cv = .int .i64 (jC f k) ∧ iv = .int .i64 k ∧ wr = w' ∧ (jS f k).length ≤ 16000 ∧ Hid (∀ i, i < k → (10 : UInt8) ∉ (f i).data.toList) ∧ Hid (Below w.heap.size w wr) ∧ Hid (Bld 103 5 w.heap.size (jS f k) wr)) (fun _ iv _ => n - (intOf iv).toNat)
  case atStart => exact ⟨0, _, by omega, rfl, rfl, rfl, Nat.zero_le _, Lib.hid (by intro i hi; omega), W0, HB0⟩
  case round =>
    obtain ⟨k, wr, hk, rfl, rfl, rfl, hjs, HALL, HW, HBL⟩ := hrel
    by_cases hlt : k < n
    · obtain ⟨b, o, rfl, hck⟩ := (HA.out.below HW.out).cell hlt
      have hfk := HF.out k hlt
      have hcb := jC_bd f k
      have hcd := jC_bd f (k + 1)
      have HE1 := Lib.hid (HEN.out wr HW.out (jC f k) (f k) hcb.1 hcb.2 hfk)
      rw [jC_step] at HE1
      have hxl := jS_len f k
      have HJS : Hid (jS f k ++ jE (jC f (k + 1)) (f k).data.toList = jS f (k + 1)) := Lib.hid rfl
      by_cases h10 : (10 : UInt8) ∈ (f k).data.toList
      · have HNO := Lib.hid (jno_nl (f := f) hlt h10)
        have HCN := Lib.hid (fun W => Tryd.strings_Contains_one (f k) 10 W)
        rw [ib_mem h10] at HCN
        generalize txB (jE (jC f (k + 1)) (f k).data.toList) = E at HE1
        generalize jC f (k + 1) = d at HE1 hcd
        generalize f k = s at hck HE1 HCN
        clear h10 hxl HJS
        go_wp2_with (first | (go_at_call 91; refine HE1.out.mono ?_; rintro e w2 ⟨rfl, hb2⟩; have HB2 := Lib.hid (Below.next HW.out hb2); clear hb2) | (go_at_call 92; refine (HCN.out _).mono ?_; rintro e w3 ⟨rfl, rfl⟩) | fail)
        go_ret2
        exact JPost.no HNO.out HB2.out
      · have HCN := Lib.hid (fun W => Tryd.strings_Contains_one (f k) 10 W)
        rw [ib_free h10] at HCN
        have HA2 : Hid (∀ i, i < k + 1 → (10 : UInt8) ∉ (f i).data.toList) := Lib.hid (fun i hi => by
          by_cases e : i < k
          · exact HALL.out i e
          · obtain rfl : i = k := by omega
            exact h10)
        obtain ⟨L, hL⟩ : ∃ L, (jS f k).length = L := ⟨_, rfl⟩
        have HLN := Lib.hid (fun W (hb : Bld 103 5 w.heap.size (jS f k) W) => bld_len w.heap.size L (jS f k) W hb hL)
        obtain ⟨M, hM⟩ : ∃ M, (jE (jC f (k + 1)) (f k).data.toList).length = M := ⟨_, rfl⟩
        rw [hM, hL] at hxl
        have hem := jE_max hcd.1 hcd.2 (f k).data.toList
        have hsz : (f k).data.toList.length = (f k).size := Array.length_toList
        rw [hL] at hjs
        by_cases h16 : L + M ≤ 16000
        · have HWR := Lib.hid (fun W (hb : Bld 103 5 w.heap.size (jS f k) W) => bld_write w.heap.size (jS f k) (jE (jC f (k + 1)) (f k).data.toList) W hb (by omega))
          rw [HJS.out] at HWR
          have hE : (txB (jE (jC f (k + 1)) (f k).data.toList)).size = M := by rw [txB_size, hM]
          obtain ⟨d, hd⟩ : ∃ d, jC f (k + 1) = d := ⟨_, rfl⟩
          have HDE := Lib.hid hd
          have HJ2 : Hid ((jS f (k + 1)).length ≤ 16000) := Lib.hid (by omega)
          rw [hd] at HE1 HWR hE hcd
          generalize txB (jE d (f k).data.toList) = E at HE1 HWR hE
          generalize f k = s at hck HE1 HCN
          have hq : decide ((16000 : Int) - (L : Int) < (M : Int)) = false := decide_eq_false (by omega)
          clear h10 hxl HJS hL hM hem hsz hd
          go_wp2_with (first | (go_at_call 91; refine HE1.out.mono ?_; rintro e w2 ⟨rfl, hb2⟩; have HB2 := Lib.hid (Below.next HW.out hb2); have HBL2 := Lib.hid (HBL.out.below hb2); clear hb2) | (go_at_call 92; refine (HCN.out _).mono ?_; rintro e w3 ⟨rfl, rfl⟩) | (go_at_call 93; refine (HLN.out _ HBL2.out).mono ?_; rintro e w3 ⟨rfl, rfl⟩) | (go_at_call 94; refine (HWR.out _ HBL2.out).mono ?_; rintro e w5 ⟨v5, rfl, hbl, hb5⟩; have HB5 := Lib.hid (Below.trans HB2.out hb5); have HBL5 := Lib.hid hbl; clear hbl hb5) | fail)
          exact ⟨⟨k + 1, _, by omega, by rw [HDE.out], by first | rfl | go_num | (congr 1), rfl, HJ2.out, HA2, HB5, HBL5⟩, by show n - ((k : Int) + 1).toNat < n - (k : Int).toNat; omega⟩
        · have HNO := Lib.hid (jno_len (f := f) (show k + 1 ≤ n by omega) (by omega))
          have hE : (txB (jE (jC f (k + 1)) (f k).data.toList)).size = M := by rw [txB_size, hM]
          generalize jC f (k + 1) = d at HE1 hE hcd
          generalize txB (jE d (f k).data.toList) = E at HE1 hE
          generalize f k = s at hck HE1 HCN
          have hq : decide ((16000 : Int) - (L : Int) < (M : Int)) = true := decide_eq_true (by omega)
          clear h10 hxl HJS hL hM hem hsz h16
          go_wp2_with (first | (go_at_call 91; refine HE1.out.mono ?_; rintro e w2 ⟨rfl, hb2⟩; have HB2 := Lib.hid (Below.next HW.out hb2); have HBL2 := Lib.hid (HBL.out.below hb2); clear hb2) | (go_at_call 92; refine (HCN.out _).mono ?_; rintro e w3 ⟨rfl, rfl⟩) | (go_at_call 93; refine (HLN.out _ HBL2.out).mono ?_; rintro e w3 ⟨rfl, rfl⟩) | fail)
          go_ret2
          exact JPost.no HNO.out HB2.out
    · obtain rfl : k = n := by omega
      have HOK := Lib.hid (jok_all (n := k) HALL.out hjs)
      have HST := Lib.hid (bld_string w.heap.size (jS f k) wr HBL.out)
      go_wp2_with (first | (go_at_call 95; refine HST.out.mono ?_; rintro e w2 ⟨rfl, hb2⟩; have HB2 := Lib.hid (Below.trans HW.out hb2); clear hb2) | fail)
      go_ret2
      exact JPost.yes HOK.out HB2.out
theorem jo_iy (a : Option Addr) (n cap : Nat) (f : Nat → ByteArray) (w0 w : World) (h : SRow w a n f) (hn : n ≤ 1048576) (hf : ∀ k, k < n → (f k).size ≤ 1048576) (hp : Pow w0) (hb : Below w0.heap.size w0 w) (hok : jOk f n = true) :
    Calls Tryd.prog 56 #[.slice a n cap] w fun e w' => e = .returned (.tuple #[.string (txB (jS f n)), .bool true]) ∧ Below w.heap.size w w' :=
  (jo_impl a n cap f w0 w h hn hf hp hb).mono fun e w' q => by
    rcases q with ⟨⟨_, q⟩ | ⟨q, _⟩, h2⟩
    · exact ⟨q, h2⟩
    · rw [hok] at q; cases q
theorem jo_in (a : Option Addr) (n cap : Nat) (f : Nat → ByteArray) (w0 w : World) (h : SRow w a n f) (hn : n ≤ 1048576) (hf : ∀ k, k < n → (f k).size ≤ 1048576) (hp : Pow w0) (hb : Below w0.heap.size w0 w) (hok : jOk f n = false) :
    Calls Tryd.prog 56 #[.slice a n cap] w fun e w' => e = .returned (.tuple #[.string ⟨#[]⟩, .bool false]) ∧ Below w.heap.size w w' :=
  (jo_impl a n cap f w0 w h hn hf hp hb).mono fun e w' q => by
    rcases q with ⟨⟨q, _⟩ | ⟨_, q⟩, h2⟩
    · rw [hok] at q; cases q
    · exact ⟨q, h2⟩
theorem jo_sy (a : Option Addr) (n cap : Nat) (f : Nat → ByteArray) (w : World) (h : SRow w a n f) (hn : n ≤ 1048576) (hf : ∀ k, k < n → (f k).size ≤ 1048576) (hok : jOk f n = true) :
    Calls Tryd.prog 54 #[.slice a n cap] w fun e w' => e = .returned (.tuple #[.string (txB (jS f n)), .bool true]) ∧ Below w.heap.size w w' :=
  (jo_spec a n cap f w h hn hf).mono fun e w' q => by
    rcases q with ⟨⟨_, q⟩ | ⟨q, _⟩, h2⟩
    · exact ⟨q, h2⟩
    · rw [hok] at q; cases q
theorem jo_sn (a : Option Addr) (n cap : Nat) (f : Nat → ByteArray) (w : World) (h : SRow w a n f) (hn : n ≤ 1048576) (hf : ∀ k, k < n → (f k).size ≤ 1048576) (hok : jOk f n = false) :
    Calls Tryd.prog 54 #[.slice a n cap] w fun e w' => e = .returned (.tuple #[.string ⟨#[]⟩, .bool false]) ∧ Below w.heap.size w w' :=
  (jo_spec a n cap f w h hn hf).mono fun e w' q => by
    rcases q with ⟨⟨q, _⟩ | ⟨_, q⟩, h2⟩
    · rw [hok] at q; cases q
    · exact ⟨q, h2⟩
end Go.Proofs.YthkabonnclfhmaaDoor
