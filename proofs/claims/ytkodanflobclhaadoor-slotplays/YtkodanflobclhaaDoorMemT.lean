/- The document's memory: what Clear, Copy, Same and Words answer and do, for every argument. -/
import Derived.Test.YtkodanflobclhaaDoorMemS
namespace Go.Proofs.YtkodanflobclhaaDoor.Pmem
open Go.Proofs.YtkodanflobclhaaDoor.Pbase
open Go.RowKit
set_option linter.unusedVariables false

/-! ### Same -/
end Go.Proofs.YtkodanflobclhaaDoor.Pmem
