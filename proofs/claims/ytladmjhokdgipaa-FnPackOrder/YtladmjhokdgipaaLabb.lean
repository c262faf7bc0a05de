/-
  Contracts of the label functions, second part: join, meet, many.
-/
import Derived.Test.YtladmjhokdgipaaLab
namespace Go.Proofs.Ytladmjhokdgipaa.Lab
open Go.RowKit
set_option linter.unusedVariables false

end Go.Proofs.Ytladmjhokdgipaa.Lab
