/-
  Contracts of the label functions, second part: join, meet, many.
-/
import Derived.Test.YtfnmalcjhblhhaaDoorLab
namespace Go.Proofs.YtfnmalcjhblhhaaDoor.Lab
open Go.RowKit
set_option linter.unusedVariables false

end Go.Proofs.YtfnmalcjhblhhaaDoor.Lab
