/-
  Contracts of the label functions, second part: join, meet, many.
-/
import Derived.Test.YtnhacflknkgfgaaLab
namespace Go.Proofs.Ytnhacflknkgfgaa.Lab
open Go.RowKit
set_option linter.unusedVariables false

end Go.Proofs.Ytnhacflknkgfgaa.Lab
