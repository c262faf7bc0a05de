/-
  Contracts of the label functions, second part: join, meet, many.
-/
import Derived.Test.YtppaanjijffjdaaDoorLab
namespace Go.Proofs.YtppaanjijffjdaaDoor.Lab
open Go.RowKit
set_option linter.unusedVariables false

end Go.Proofs.YtppaanjijffjdaaDoor.Lab
