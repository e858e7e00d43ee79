/- Texts on finished packages, joined. -/
import Derived.Test.YtcgekcjnaadcmaaGreatDoorBunLay
import Derived.Test.YtcgekcjnaadcmaaGreatDoorBunField

/- Plain words on events and rings: which are right, their words, what is answered and done. No program is named here. -/
namespace Go.Proofs.YtcgekcjnaadcmaaGreatDoor.Pring
open Go.Proofs.YtcgekcjnaadcmaaGreatDoor.Pbase Go.Proofs.YtcgekcjnaadcmaaGreatDoor.Pfield Go.Proofs.YtcgekcjnaadcmaaGreatDoor.Play Go.Proofs.YtcgekcjnaadcmaaGreatDoor.Pmem
open Go.RowKit M
set_option linter.unusedVariables false

/-! ### events -/
/-! ### words -/
/-! ### a ring -/
/-! ### small facts -/
theorem isE_ok {N : Nat} {M : Nat → Nat → Int} {f : Int} {q : Int} (h : Phead.isE N M f q = 0) : okF N f = true := by
  cases hf : okF N f
  · exact absurd h (is_bad hf q)
  · rfl
end Go.Proofs.YtcgekcjnaadcmaaGreatDoor.Pring

/- A ring told by the list of its events: what Put, Take and All make of it (RingOrder in plain words). No program is named here. -/
namespace Go.Proofs.YtcgekcjnaadcmaaGreatDoor.Pring
open Go.Proofs.YtcgekcjnaadcmaaGreatDoor.Pbase Go.Proofs.YtcgekcjnaadcmaaGreatDoor.Pfield Go.Proofs.YtcgekcjnaadcmaaGreatDoor.Play Go.Proofs.YtcgekcjnaadcmaaGreatDoor.Pmem
open Go.RowKit M
set_option linter.unusedVariables false

end Go.Proofs.YtcgekcjnaadcmaaGreatDoor.Pring
