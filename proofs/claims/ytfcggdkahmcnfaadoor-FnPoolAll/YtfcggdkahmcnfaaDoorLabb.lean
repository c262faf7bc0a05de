/-
  Contracts of the label functions, second part: join, meet, many.
-/
import Derived.Test.YtfcggdkahmcnfaaDoorLab
namespace Go.Proofs.YtfcggdkahmcnfaaDoor.Lab
open Go.RowKit
set_option linter.unusedVariables false

end Go.Proofs.YtfcggdkahmcnfaaDoor.Lab
