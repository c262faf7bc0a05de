/-
  Contracts of the label functions, second part: join, meet, many.
-/
import Derived.Test.YtlfgcchnboaflaaDoorLab
namespace Go.Proofs.YtlfgcchnboaflaaDoor.Lab
open Go.RowKit
set_option linter.unusedVariables false

end Go.Proofs.YtlfgcchnboaflaaDoor.Lab
