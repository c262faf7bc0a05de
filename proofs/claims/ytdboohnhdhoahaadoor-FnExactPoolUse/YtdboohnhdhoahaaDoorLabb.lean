/-
  Contracts of the label functions, second part: join, meet, many.
-/
import Derived.Test.YtdboohnhdhoahaaDoorLab
namespace Go.Proofs.YtdboohnhdhoahaaDoor.Lab
open Go.RowKit
set_option linter.unusedVariables false

end Go.Proofs.YtdboohnhdhoahaaDoor.Lab
