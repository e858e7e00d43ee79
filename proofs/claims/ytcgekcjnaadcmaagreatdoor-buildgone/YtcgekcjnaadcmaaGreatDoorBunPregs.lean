/- Texts on finished packages, joined. -/
import Derived.Test.YtcgekcjnaadcmaaGreatDoorBunBase
import Derived.Laws.CopyRow
import Derived.Deep.MidRow
import Derived.ChangeKeysEq
import Derived.Below
import Derived.Laws.CopyOwn
import Derived.WalkKit
import Derived.ChangeOld
import Derived.BigQuiet
import Derived.Test.YtcgekcjnaadcmaaGreatDoorRows
import Derived.ProofKit
import Derived.OpenShut
import Derived.Outline
import Derived.Deep.QuietTactic
import Derived.Deep.WholeRow

/- Registers that lie in one block, and what the calls of a file make of them: plain definitions and lemmas; no function of the program is named. -/
namespace Go.Proofs.YtcgekcjnaadcmaaGreatDoor.Pregs
open Go.Proofs.YtcgekcjnaadcmaaGreatDoor.Pbase
open Go.RowKit
set_option linter.unusedVariables false

/-- The cells of eight registers, told by place; of a file that New made. -/
def regL (L : Nat → Int) : List Value := (List.range 8).map fun i => .int .u64 (L i)
def cellsF (L : Nat → Int) : Array Value := (regL L ++ [Value.bool true]).toArray
/-- A file that New made lies in block p, with the registers L. -/
def FileIs (w : World) (p : Nat) (L : Nat → Int) : Prop := w.heap[p]? = some (.cells (cellsF L) 235 (0, 0))
/-! ### A slice of integers that came in -/
end Go.Proofs.YtcgekcjnaadcmaaGreatDoor.Pregs

/- What isMade, register, New, Get and Set of package regs answer, and what they do to the registers, for every argument that their types allow. -/
namespace Go.Proofs.YtcgekcjnaadcmaaGreatDoor.Pregs
open Go.Proofs.YtcgekcjnaadcmaaGreatDoor.Pbase
open Go.RowKit
set_option linter.unusedVariables false

/-! ### Get, Set -/
/-! ### New -/
theorem cells_zero : cellsF (fun _ => 0) = #[.int .u64 0, .int .u64 0, .int .u64 0, .int .u64 0, .int .u64 0, .int .u64 0, .int .u64 0, .int .u64 0, .bool true] := rfl
/-- The world behind New. -/
def newW (w : World) : World := w.alloc (.cells (cellsF fun _ => 0) 235)
theorem newW_is (w : World) : FileIs (newW w) w.heap.size fun _ => 0 := heap_alloc_new _ _
theorem newW_below (w : World) : Below w.heap.size w (newW w) := (Below.refl _ w).alloc (Nat.le_refl _) _
set_option maxRecDepth 100000 in
theorem new_any (w : World) :
    Calls Tryz.prog 68 #[] w fun e w' => e = .returned (.pointer (some ⟨w.heap.size, 0, none⟩)) ∧ w' = newW w := by
  unfold newW
  rw [cells_zero]
  go_enter Tryz.func68, Tryz.ntmps68
  go_wp2
  go_ret
  exact ⟨rfl, rfl⟩

end Go.Proofs.YtcgekcjnaadcmaaGreatDoor.Pregs

/- What All and Load of package regs answer, and what they do to the registers, for every argument that their types allow; and that the program computes at all. -/
namespace Go.Proofs.YtcgekcjnaadcmaaGreatDoor.Pregs
open Go.Proofs.YtcgekcjnaadcmaaGreatDoor.Pbase
open Go.RowKit
set_option linter.unusedVariables false

/-! ### Load -/
/-! ### awake -/
end Go.Proofs.YtcgekcjnaadcmaaGreatDoor.Pregs
