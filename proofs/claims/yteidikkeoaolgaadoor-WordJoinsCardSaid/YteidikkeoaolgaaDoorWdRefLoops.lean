/-
  Loops of the reference.
-/
import Derived.Test.YteidikkeoaolgaaDoorWdLoops
namespace Go.Proofs.YteidikkeoaolgaaDoor.Wd
open Go.RowKit
set_option linter.unusedVariables false

end Go.Proofs.YteidikkeoaolgaaDoor.Wd
