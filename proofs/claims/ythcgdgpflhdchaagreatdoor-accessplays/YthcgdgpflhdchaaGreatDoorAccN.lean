/- The table of rights, out of what a row's condition says of it. -/
import Derived.Test.YthcgdgpflhdchaaGreatDoorAccA
import Derived.Test.YthcgdgpflhdchaaGreatDoorBunBase
import Derived.Test.YthcgdgpflhdchaaGreatDoorRows
import Derived.ProofKit
import Derived.OpenShut
import Derived.Carry
import Derived.LaidMore
namespace Go.Proofs.YthcgdgpflhdchaaGreatDoor.Paccess
open Go.Proofs.YthcgdgpflhdchaaGreatDoor.Pbase Go.Proofs.YthcgdgpflhdchaaGreatDoor.Pmem
open Go.RowKit Go.ChangeShapes Go.WideShapes
set_option linter.unusedVariables false

def n2 : List Int := [1, 2]
theorem gTn : (Tryz.prog.globals[(0 : Nat)]?).map (·.type) = some 106 := by kernel_rfl
theorem cellsTwo : Tryz.prog.cellsOf 106 = 2 := by kernel_rfl
theorem n_datum : /- 0 -/ (Rows.laid_palanquin_access_needs : DataW Unit) = .agg (n2.map fun z => .lit (.int .i64 z)) := rfl
theorem tabN_of {W : World} {g : Nat} {t : TypeId} {cs : Array Value} {fuel : Nat} {p : List MemPlace} {n : String} (hn : Tryz.prog.globalNamed n = some 0) (hg : Tryz.prog.globalNamed n = some g) (ht : (Tryz.prog.globals[g]?).map (·.type) = some t) (hv : W.var? Tryz.prog n = some cs)
    (hd : DataW.trod (fun _ => ()) Tryz.prog W 0 (fun _ => true) false fuel t cs.toList = some (Rows.laid_palanquin_access_needs, p)) : Nd W := by
  obtain rfl := Option.some.inj (hn.symm.trans hg)
  obtain rfl := Option.some.inj (gTn.symm.trans ht)
  obtain ⟨t1, fr, hb⟩ := var_block hg hv
  refine ⟨block_lt hb, t1, fr, ?_⟩
  rw [n_datum] at hd
  obtain ⟨_, hl, hc⟩ := array_ints Tryz.underlying106 cellsTwo hd
  obtain ⟨cl⟩ := cs
  simp only at hl hc hb
  match cl, hl with
  | [v0, v1], _ =>
    have g0 := hc 0 (by omega)
    have g1 := hc 1 (by omega)
    simp [n2] at g0 g1
    rw [hb, g0, g1]
end Go.Proofs.YthcgdgpflhdchaaGreatDoor.Paccess
