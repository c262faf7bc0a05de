/-
  Contracts of the label functions, second part: join, meet, many.
-/
import Derived.Test.YtifbohdkigmjhabDoorLab
namespace Go.Proofs.YtifbohdkigmjhabDoor.Lab
open Go.RowKit
set_option linter.unusedVariables false

end Go.Proofs.YtifbohdkigmjhabDoor.Lab
