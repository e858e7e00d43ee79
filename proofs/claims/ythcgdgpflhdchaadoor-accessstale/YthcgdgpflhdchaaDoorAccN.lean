/- The table of rights, out of what a row's condition says of it. -/
import Derived.Test.YthcgdgpflhdchaaDoorAccA
import Derived.Test.YthcgdgpflhdchaaDoorBunBase
import Derived.Test.YthcgdgpflhdchaaDoorRows
import Derived.ProofKit
import Derived.OpenShut
import Derived.Carry
import Derived.LaidMore
namespace Go.Proofs.YthcgdgpflhdchaaDoor.Paccess
open Go.Proofs.YthcgdgpflhdchaaDoor.Pbase Go.Proofs.YthcgdgpflhdchaaDoor.Pmem
open Go.RowKit Go.ChangeShapes Go.WideShapes
set_option linter.unusedVariables false

def n2 : List Int := [1, 2]
theorem gTn : (Tryd.prog.globals[(0 : Nat)]?).map (·.type) = some 80 := by kernel_rfl
theorem cellsTwo : Tryd.prog.cellsOf 80 = 2 := by kernel_rfl
theorem n_datum : /- 0 -/ (Rows.laid_palanquin_access_needs : DataW Unit) = .agg (n2.map fun z => .lit (.int .i64 z)) := rfl
theorem tabN_of {W : World} {g : Nat} {t : TypeId} {cs : Array Value} {fuel : Nat} {p : List MemPlace} {n : String} (hn : Tryd.prog.globalNamed n = some 0) (hg : Tryd.prog.globalNamed n = some g) (ht : (Tryd.prog.globals[g]?).map (·.type) = some t) (hv : W.var? Tryd.prog n = some cs)
    (hd : DataW.trod (fun _ => ()) Tryd.prog W 0 (fun _ => true) false fuel t cs.toList = some (Rows.laid_palanquin_access_needs, p)) : Nd W := by
  obtain rfl := Option.some.inj (hn.symm.trans hg)
  obtain rfl := Option.some.inj (gTn.symm.trans ht)
  obtain ⟨t1, fr, hb⟩ := var_block hg hv
  refine ⟨block_lt hb, t1, fr, ?_⟩
  rw [n_datum] at hd
  obtain ⟨_, hl, hc⟩ := array_ints Tryd.underlying80 cellsTwo hd
  obtain ⟨cl⟩ := cs
  simp only at hl hc hb
  match cl, hl with
  | [v0, v1], _ =>
    have g0 := hc 0 (by omega)
    have g1 := hc 1 (by omega)
    simp [n2] at g0 g1
    rw [hb, g0, g1]
end Go.Proofs.YthcgdgpflhdchaaDoor.Paccess
