/-
  Contracts of the label functions, second part: join, meet, many.
-/
import Derived.Test.YtlnpbfeihjfnjabGreatDoorLab
namespace Go.Proofs.YtlnpbfeihjfnjabGreatDoor.Lab
open Go.RowKit
set_option linter.unusedVariables false

end Go.Proofs.YtlnpbfeihjfnjabGreatDoor.Lab
