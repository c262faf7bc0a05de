/-
  Contracts of the label functions, second part: join, meet, many.
-/
import Derived.Test.YtlnpbfeihjfnjabDoorLab
namespace Go.Proofs.YtlnpbfeihjfnjabDoor.Lab
open Go.RowKit
set_option linter.unusedVariables false

end Go.Proofs.YtlnpbfeihjfnjabDoor.Lab
