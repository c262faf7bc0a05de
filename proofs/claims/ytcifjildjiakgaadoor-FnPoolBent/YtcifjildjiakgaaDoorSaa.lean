/-
  spec.PoolAll.
-/
import Derived.Test.YtcifjildjiakgaaDoorSal
namespace Go.Proofs.YtcifjildjiakgaaDoor.Lab
open Go.RowKit Go.ChangeMaps
set_option linter.unusedVariables false
end Go.Proofs.YtcifjildjiakgaaDoor.Lab
