/-
  Several texts in one: SpecAdd, SpecSub, SpecMul, SpecDiv.
-/
import Derived.Test.YtlfghhmphgidjaaDoorSumMulQ
import Derived.Test.YtlfghhmphgidjaaDoorLawComps
import Derived.Test.YtlfghhmphgidjaaDoorM2
/-
  The model's AddRat, SubRat, MulRat, DivRat, from what their operation on fractions comes to.
-/
namespace Go.Proofs.YtlfghhmphgidjaaDoor
open Go.RowKit Num

/-- What an operation on fractions owes. -/
structure LowQ (sg : Bool) (N D : Nat) : Prop where
  pos : 0 < D
  gcd : Nat.gcd N D = 1
  sign : sg = true → 0 < N
  lnN : ln 10000 N ≤ 549755813888
  lnD : ln 10000 D ≤ 549755813888

end Go.Proofs.YtlfghhmphgidjaaDoor
/-
  The model's SubRat, from what its operation on fractions comes to.
-/
namespace Go.Proofs.YtlfghhmphgidjaaDoor
open Go.RowKit Num

end Go.Proofs.YtlfghhmphgidjaaDoor
/-
  The model's MulRat, from what its operation on fractions comes to.
-/
namespace Go.Proofs.YtlfghhmphgidjaaDoor
open Go.RowKit Num

end Go.Proofs.YtlfghhmphgidjaaDoor
/-
  The model's DivRat, from what its operation on fractions comes to.
-/
namespace Go.Proofs.YtlfghhmphgidjaaDoor
open Go.RowKit Num

end Go.Proofs.YtlfghhmphgidjaaDoor
