/-
  impl.PoolAll.
-/
import Derived.Test.YtcifjildjiakgaaDoorHal
namespace Go.Proofs.YtcifjildjiakgaaDoor.Lab
open Go.RowKit Go.ChangeMaps
set_option linter.unusedVariables false
attribute [local go_sem ↓] Go.wp_at_zero Go.wp_at_succ
end Go.Proofs.YtcifjildjiakgaaDoor.Lab
