/- Texts on finished packages, joined. -/
import Derived.Test.YtiapfapmgjngpaaGreatDoorBunBase
import Derived.WalkKit
import Derived.Below
import Derived.OwnWalk
import Derived.Laws.Rows

/- The frame that a capability needs: the program's Holds and the document's (out of cap's texts). -/
namespace Go.Proofs.YtiapfapmgjngpaaGreatDoor.Pchold
open Go.Proofs.YtiapfapmgjngpaaGreatDoor.Pbase
open Go.RowKit
set_option linter.unusedVariables false

def holB (k : Int) : Bool := decide (3 ≤ k) && decide (k ≤ 10)
def holI (k t : Int) : Int := if holB k = true then t else 0
end Go.Proofs.YtiapfapmgjngpaaGreatDoor.Pchold
