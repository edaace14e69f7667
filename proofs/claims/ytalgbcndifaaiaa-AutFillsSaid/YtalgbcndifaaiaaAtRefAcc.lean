/-
  Marks, has and Accepted of the reference.
-/
import Derived.Test.YtalgbcndifaaiaaAtAcc
namespace Go.Proofs.Ytalgbcndifaaiaa.Wd
open Go.RowKit
set_option linter.unusedVariables false

end Go.Proofs.Ytalgbcndifaaiaa.Wd
