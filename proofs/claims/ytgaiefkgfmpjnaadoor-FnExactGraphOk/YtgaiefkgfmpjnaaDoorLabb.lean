/-
  Contracts of the label functions, second part: join, meet, many.
-/
import Derived.Test.YtgaiefkgfmpjnaaDoorLab
namespace Go.Proofs.YtgaiefkgfmpjnaaDoor.Lab
open Go.RowKit
set_option linter.unusedVariables false

end Go.Proofs.YtgaiefkgfmpjnaaDoor.Lab
