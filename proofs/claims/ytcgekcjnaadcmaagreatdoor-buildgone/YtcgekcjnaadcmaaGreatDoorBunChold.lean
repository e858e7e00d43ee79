/- Texts on finished packages, joined. -/
import Derived.Test.YtcgekcjnaadcmaaGreatDoorBunBase
import Derived.WalkKit
import Derived.Below
import Derived.OwnWalk
import Derived.Laws.Rows

/- The frame that a capability needs: the program's Holds and the document's (out of cap's texts). -/
namespace Go.Proofs.YtcgekcjnaadcmaaGreatDoor.Pchold
open Go.Proofs.YtcgekcjnaadcmaaGreatDoor.Pbase
open Go.RowKit
set_option linter.unusedVariables false

end Go.Proofs.YtcgekcjnaadcmaaGreatDoor.Pchold
