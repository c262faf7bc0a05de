/-
  Contracts of the label functions, second part: join, meet, many.
-/
import Derived.Test.YtladmjhokdgipabDoorLab
namespace Go.Proofs.YtladmjhokdgipabDoor.Lab
open Go.RowKit
set_option linter.unusedVariables false

end Go.Proofs.YtladmjhokdgipabDoor.Lab
