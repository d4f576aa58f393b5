
/- Logarithms: the walks. -/
import Derived.Test.YthkabonnclfhmaaDoorFll
import Derived.Test.YthkabonnclfhmaaDoorFlu
namespace Go.Proofs.YthkabonnclfhmaaDoor
open Go.Proofs.YthkabonnclfhmaaDoor.Flo Go.RowKit

def exV : Value → Int
  | .float _ b => match (FloatKind.f64).decode b with | .number _ m i => (m.log2 : Int) + i | _ => 0
  | _ => 0
theorem exV_of {x : Nat} {E : Int} (h : PosE x E) : exV (.float .f64 x) = E := by
  obtain ⟨m, i, hd, _, _, hE⟩ := h
  show (match (FloatKind.f64).decode x with | .number _ m i => (m.log2 : Int) + i | _ => 0) = E
  rw [hd]; exact hE
theorem fres_of {op : BinOp} {x c x' : Nat} (h : vop op .f64 (some x) (some c) = some x') (w : World) : fres op .f64 x c w = x' := by
  have h2 : floatBits op .f64 x c = some x' := h
  unfold fres; rw [h2]
theorem s_cls {x : Nat} {a : Option Nat} (h : cls .f64 x = a) (w1 w2 w3 : World) : cls .f64 (fres .quo .f64 (fres .sub .f64 x 4607182418800017408 w1) (fres .add .f64 x 4607182418800017408 w2) w3) = sV a := by
  rw [fres_cls, fres_cls, fres_cls, h, show cls .f64 4607182418800017408 = some c1 from cls_c1]; rfl
theorem stL_cls {ub qb : Nat} {U Q : Option Nat} (hu : cls .f64 ub = U) (hq : cls .f64 qb = Q) {k : Int} {j : Nat} (hk : k = 25 - 2 * (j : Int)) (w1 w2 w3 : World) :
    cls .f64 (fres .add .f64 (fres .quo .f64 4607182418800017408 (floatOfInt .f64 k) w1) (fres .mul .f64 ub qb w2) w3) = stL U (25 - 2 * (j : Int)) Q := by
  rw [fres_cls, fres_cls, fres_cls, hu, hq, cls_int, show cls .f64 4607182418800017408 = some c1 from cls_c1, hk]; rfl
theorem log_end {s q : Nat} {a : Option Nat} {e : Int} (hs : cls .f64 s = sV a) (hq : cls .f64 q = serL (vop .mul .f64 (sV a) (sV a)) 13) (w1 w2 w3 w4 : World) :
    cls .f64 (fres .add .f64 (fres .mul .f64 4611686018427387904 (fres .mul .f64 s q w1) w2) (fres .mul .f64 (floatOfInt .f64 e) 4604418534313441775 w3) w4) = logV (a, e).1 (a, e).2 := by
  rw [fres_cls, fres_cls, fres_cls, fres_cls, hs, hq, cls_int, show cls .f64 4611686018427387904 = some c2 from cls_c2, show cls .f64 4604418534313441775 = some cln2 from cls_cln2]; rfl

end Go.Proofs.YthkabonnclfhmaaDoor
