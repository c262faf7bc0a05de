/-
  Contracts of the label functions, second part: join, meet, many.
-/
import Derived.Test.YtladmjhokdgipaaDoorLab
namespace Go.Proofs.YtladmjhokdgipaaDoor.Lab
open Go.RowKit
set_option linter.unusedVariables false

end Go.Proofs.YtladmjhokdgipaaDoor.Lab
