/-
  Graphs by value: the laws' own functions on them, and GraphSame. (Written by tools/mkgra.py.)
-/
import Derived.Test.YtgjpnhdahigodaaGro
namespace Go.Proofs.Ytgjpnhdahigodaa.Lab
open Go.RowKit
set_option linter.unusedVariables false
end Go.Proofs.Ytgjpnhdahigodaa.Lab
