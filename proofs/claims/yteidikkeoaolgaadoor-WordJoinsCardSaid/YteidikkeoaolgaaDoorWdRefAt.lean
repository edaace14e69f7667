/-
  At of the reference.
-/
import Derived.Test.YteidikkeoaolgaaDoorWdRefValid
namespace Go.Proofs.YteidikkeoaolgaaDoor.Wd
open Go.RowKit
set_option linter.unusedVariables false

end Go.Proofs.YteidikkeoaolgaaDoor.Wd
