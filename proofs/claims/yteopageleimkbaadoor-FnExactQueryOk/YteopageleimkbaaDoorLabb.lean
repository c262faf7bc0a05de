/-
  Contracts of the label functions, second part: join, meet, many.
-/
import Derived.Test.YteopageleimkbaaDoorLab
namespace Go.Proofs.YteopageleimkbaaDoor.Lab
open Go.RowKit
set_option linter.unusedVariables false

end Go.Proofs.YteopageleimkbaaDoor.Lab
