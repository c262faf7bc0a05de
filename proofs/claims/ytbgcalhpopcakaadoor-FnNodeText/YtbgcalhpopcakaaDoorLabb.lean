/-
  Contracts of the label functions, second part: join, meet, many.
-/
import Derived.Test.YtbgcalhpopcakaaDoorLab
namespace Go.Proofs.YtbgcalhpopcakaaDoor.Lab
open Go.RowKit
set_option linter.unusedVariables false

end Go.Proofs.YtbgcalhpopcakaaDoor.Lab
