/- The model's pools: a node is put in. -/
import Derived.Test.YtphkceiafehidaaPoolS
import Derived.Test.YtphkceiafehidaaHeightM
import Derived.Deep.RegionWith
import Derived.Deep.RegionHeld3
namespace Go.Proofs.Ytphkceiafehidaa
open Go.RowKit
set_option linter.unusedVariables false

end Go.Proofs.Ytphkceiafehidaa
