/-
  Contracts of the label functions, second part: join, meet, many.
-/
import Derived.Test.YtpmmfkjpikpdhaaLab
namespace Go.Proofs.Ytpmmfkjpikpdhaa.Lab
open Go.RowKit
set_option linter.unusedVariables false

end Go.Proofs.Ytpmmfkjpikpdhaa.Lab
