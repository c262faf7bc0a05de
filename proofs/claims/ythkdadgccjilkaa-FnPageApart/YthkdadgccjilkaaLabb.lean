/-
  Contracts of the label functions, second part: join, meet, many.
-/
import Derived.Test.YthkdadgccjilkaaLab
namespace Go.Proofs.Ythkdadgccjilkaa.Lab
open Go.RowKit
set_option linter.unusedVariables false

end Go.Proofs.Ythkdadgccjilkaa.Lab
