/-
  Contracts of the label functions, second part: join, meet, many.
-/
import Derived.Test.YthilpjgjoaaboaaDoorLab
namespace Go.Proofs.YthilpjgjoaaboaaDoor.Lab
open Go.RowKit
set_option linter.unusedVariables false

end Go.Proofs.YthilpjgjoaaboaaDoor.Lab
