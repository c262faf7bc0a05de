/-
  Contracts of the label functions, second part: join, meet, many.
-/
import Derived.Test.YtgahbfojajlhnacDoorLab
namespace Go.Proofs.YtgahbfojajlhnacDoor.Lab
open Go.RowKit
set_option linter.unusedVariables false

end Go.Proofs.YtgahbfojajlhnacDoor.Lab
