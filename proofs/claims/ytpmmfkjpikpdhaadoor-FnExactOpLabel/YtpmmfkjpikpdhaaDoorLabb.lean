/-
  Contracts of the label functions, second part: join, meet, many.
-/
import Derived.Test.YtpmmfkjpikpdhaaDoorLab
namespace Go.Proofs.YtpmmfkjpikpdhaaDoor.Lab
open Go.RowKit
set_option linter.unusedVariables false

end Go.Proofs.YtpmmfkjpikpdhaaDoor.Lab
