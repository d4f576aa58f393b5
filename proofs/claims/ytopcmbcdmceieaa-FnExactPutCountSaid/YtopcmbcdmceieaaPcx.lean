/- PutCount: the functions. -/
import Derived.Test.YtopcmbcdmceieaaPci
import Derived.Test.YtopcmbcdmceieaaPcj
import Derived.Test.YtopcmbcdmceieaaPck
import Derived.Test.YtopcmbcdmceieaaPcm
namespace Go.Proofs.Ytopcmbcdmceieaa
open Go.Proofs.Ytopcmbcdmceieaa.Flo Go.RowKit

theorem pcSY (r : Int) (a : Option Addr) (n cap : Nat) (zs : List Int) (l b : Int) (w : World) (h : IRow w a n zs) (hn : n ≤ 1048576) (hok : pcB r zs n l b = true) : Calls Try.prog 33 #[.agg #[.int .i64 r, .slice a n cap], .int .i64 l, .int .i64 b] w (KPost r n (pcL zs l b) w) := pc_spec_yes r a n cap zs l b w h hn (pc_out hok).1 (pc_out hok).2
theorem pcIY (r : Int) (a : Option Addr) (n cap : Nat) (zs : List Int) (l b : Int) (w : World) (h : IRow w a n zs) (hn : n ≤ 1048576) (hok : pcB r zs n l b = true) : Calls Try.prog 34 #[.agg #[.int .i64 r, .slice a n cap], .int .i64 l, .int .i64 b] w (KPost r n (pcL zs l b) w) := pc_impl_yes r a n cap zs l b w h hn (pc_out hok).1 (pc_out hok).2
theorem pcB_no {r : Int} {zs : List Int} {n : Nat} {l b : Int} (h : pcB r zs n l b = false) (hA : pcA r zs n l b = true) : coB r (pcL zs l b) n = false := by
  unfold pcB at h
  rw [hA, Bool.true_and] at h
  exact h
theorem pcA_no {r : Int} {zs : List Int} {n : Nat} {l b : Int} (h : pcA r zs n l b = false) (hc : coB r zs n = true) : ¬ ((0 ≤ l ∧ l < r) ∧ (0 ≤ b ∧ b ≤ 16384)) := by
  intro e
  unfold pcA at h
  rw [hc, decide_eq_true e.1, decide_eq_true e.2] at h
  cases h
theorem pcSN (r : Int) (a : Option Addr) (n cap : Nat) (zs : List Int) (l b : Int) (w : World) (h : IRow w a n zs) (hn : n ≤ 1048576) (hok : pcB r zs n l b = false) : Calls Try.prog 33 #[.agg #[.int .i64 r, .slice a n cap], .int .i64 l, .int .i64 b] w (KNone w) := by
  cases hA : pcA r zs n l b with
  | true => exact pc_spec_no r a n cap zs l b w h hn hA (pcB_no hok hA)
  | false =>
    cases hc : coB r zs n with
    | false => exact pc_spec_a r a n cap zs l b w h hn hc
    | true =>
      have hno := pcA_no hA hc
      by_cases hl : 0 ≤ l ∧ l ≤ r - 1
      · exact pc_spec_b1 r a n cap zs l b w h hn hc hl (fun e => hno ⟨by omega, e⟩)
      · exact pc_spec_b0 r a n cap zs l b w h hn hc hl
theorem pcIN (r : Int) (a : Option Addr) (n cap : Nat) (zs : List Int) (l b : Int) (w : World) (h : IRow w a n zs) (hn : n ≤ 1048576) (hok : pcB r zs n l b = false) : Calls Try.prog 34 #[.agg #[.int .i64 r, .slice a n cap], .int .i64 l, .int .i64 b] w (KNone w) := by
  cases hA : pcA r zs n l b with
  | true => exact pc_impl_no r a n cap zs l b w h hn hA (pcB_no hok hA)
  | false =>
    cases hc : coB r zs n with
    | false => exact pc_impl_a r a n cap zs l b w h hn hc
    | true =>
      have hno := pcA_no hA hc
      by_cases h1 : l < 0
      · exact pc_impl_b0 r a n cap zs l b w h hn hc h1
      by_cases h2 : r ≤ l
      · exact pc_impl_b1 r a n cap zs l b w h hn hc (by omega) h2
      by_cases h3 : b < 0
      · exact pc_impl_b2 r a n cap zs l b w h hn hc (by omega) (by omega) h3
      · exact pc_impl_b3 r a n cap zs l b w h hn hc (by omega) (by omega) (by omega)
end Go.Proofs.Ytopcmbcdmceieaa
