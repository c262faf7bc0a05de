/-
  Contracts of the label functions, second part: join, meet, many.
-/
import Derived.Test.YtladmjhokdgipabLab
namespace Go.Proofs.Ytladmjhokdgipab.Lab
open Go.RowKit
set_option linter.unusedVariables false

end Go.Proofs.Ytladmjhokdgipab.Lab
