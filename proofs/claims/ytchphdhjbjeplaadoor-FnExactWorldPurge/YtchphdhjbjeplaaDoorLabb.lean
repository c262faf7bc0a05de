/-
  Contracts of the label functions, second part: join, meet, many.
-/
import Derived.Test.YtchphdhjbjeplaaDoorLab
namespace Go.Proofs.YtchphdhjbjeplaaDoor.Lab
open Go.RowKit
set_option linter.unusedVariables false

end Go.Proofs.YtchphdhjbjeplaaDoor.Lab
