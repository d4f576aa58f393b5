
/- Logarithms: the program's walk, and the laws. -/
import Derived.Test.YthkabonnclfhmaaDoorFln
namespace Go.Proofs.YthkabonnclfhmaaDoor
open Go.Proofs.YthkabonnclfhmaaDoor.Flo Go.RowKit
attribute [local go_sem] call_from32
attribute [local go_sem] call_bits32

theorem order_inf32 {x : Nat} {s : Bool} {m : Nat} {i : Int} (h : (FloatKind.f32).decode x = .number s m i) : (FloatKind.f32).format.order x 2139095040 = some .lt := by
  have h0 : (FloatKind.f32).format.read 2139095040 = .infinity false := by decide +kernel
  unfold FloatKind.decode at h
  unfold Ieee.Format.order
  rw [h, h0]; rfl

theorem inf_bits {x : Nat} (hx : x < 2 ^ 32) (h : (FloatKind.f32).decode x = .infinity false) : x = 2139095040 := by
  unfold FloatKind.decode FloatKind.format Ieee.Format.read at h
  dsimp only at h
  have h1 : Ieee.single.binade = 2 ^ 23 := rfl
  have h2 : Ieee.single.infRung = 2139095040 := rfl
  have h3 : Ieee.single.signWeight = 2 ^ 31 := rfl
  rw [h1, h2, h3] at h
  split at h
  · cases h
  · split at h
    · cases h
    · split at h
      · rename_i hr
        injection h with hs
        have : ¬ x / 2 ^ 31 % 2 = 1 := by simpa using hs
        omega
      · cases h

end Go.Proofs.YthkabonnclfhmaaDoor
