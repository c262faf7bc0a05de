/-
  Contracts of the label functions, second part: join, meet, many.
-/
import Derived.Test.YtlfgcchnboaflabDoorLab
namespace Go.Proofs.YtlfgcchnboaflabDoor.Lab
open Go.RowKit
set_option linter.unusedVariables false

end Go.Proofs.YtlfgcchnboaflabDoor.Lab
