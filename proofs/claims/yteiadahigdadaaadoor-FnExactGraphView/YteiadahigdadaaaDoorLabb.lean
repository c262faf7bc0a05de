/-
  Contracts of the label functions, second part: join, meet, many.
-/
import Derived.Test.YteiadahigdadaaaDoorLab
namespace Go.Proofs.YteiadahigdadaaaDoor.Lab
open Go.RowKit
set_option linter.unusedVariables false

end Go.Proofs.YteiadahigdadaaaDoor.Lab
