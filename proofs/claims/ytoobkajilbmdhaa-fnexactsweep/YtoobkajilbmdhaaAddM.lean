/- The model's pools: a node is put in. -/
import Derived.Test.YtoobkajilbmdhaaPoolS
import Derived.Test.YtoobkajilbmdhaaHeightM
import Derived.Deep.RegionWith
import Derived.Deep.RegionHeld3
namespace Go.Proofs.Ytoobkajilbmdhaa
open Go.RowKit
set_option linter.unusedVariables false

end Go.Proofs.Ytoobkajilbmdhaa
