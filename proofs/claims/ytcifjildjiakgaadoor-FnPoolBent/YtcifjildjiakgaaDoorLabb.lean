/-
  Contracts of the label functions, second part: join, meet, many.
-/
import Derived.Test.YtcifjildjiakgaaDoorLab
namespace Go.Proofs.YtcifjildjiakgaaDoor.Lab
open Go.RowKit
set_option linter.unusedVariables false

end Go.Proofs.YtcifjildjiakgaaDoor.Lab
