/- The table of widths, out of what a row's condition says of it. -/
import Derived.Test.YtoipfcmjphlmfaaDoorStkF
import Derived.Test.YtoipfcmjphlmfaaDoorBunHead
import Derived.Test.YtoipfcmjphlmfaaDoorBunBase
import Derived.Test.YtoipfcmjphlmfaaDoorRows
import Derived.ProofKit
import Derived.OpenShut
import Derived.Carry
import Derived.LaidMore
namespace Go.Proofs.YtoipfcmjphlmfaaDoor.Pstack
open Go.Proofs.YtoipfcmjphlmfaaDoor.Pbase Go.Proofs.YtoipfcmjphlmfaaDoor.Pfield Go.Proofs.YtoipfcmjphlmfaaDoor.Play Go.Proofs.YtoipfcmjphlmfaaDoor.Pmem Go.Proofs.YtoipfcmjphlmfaaDoor.Pthd
open Go.RowKit Go.ChangeShapes Go.WideShapes
set_option linter.unusedVariables false

theorem gTr : (Tryd.prog.globals[(0 : Nat)]?).map (·.type) = some 76 := by kernel_rfl
theorem cellsWideR : Tryd.prog.cellsOf 76 = 5 := by kernel_rfl
theorem r_datum : /- 0 -/ (Rows.laid_palanquin_stack_widths : DataW Unit) = .agg (rws.map fun z => .lit (.int .i64 z)) := rfl
theorem tabR_of {W : World} {g : Nat} {t : TypeId} {cs : Array Value} {fuel : Nat} {p : List MemPlace} {n : String} (hn : Tryd.prog.globalNamed n = some 0) (hg : Tryd.prog.globalNamed n = some g) (ht : (Tryd.prog.globals[g]?).map (·.type) = some t) (hv : W.var? Tryd.prog n = some cs)
    (hd : DataW.trod (fun _ => ()) Tryd.prog W 0 (fun _ => true) false fuel t cs.toList = some (Rows.laid_palanquin_stack_widths, p)) : TabR W := by
  obtain rfl := Option.some.inj (hn.symm.trans hg)
  obtain rfl := Option.some.inj (gTr.symm.trans ht)
  obtain ⟨t1, fr, hb⟩ := var_block hg hv
  refine ⟨block_lt hb, t1, fr, ?_⟩
  rw [r_datum] at hd
  obtain ⟨_, hl, hc⟩ := array_ints Tryd.underlying76 cellsWideR hd
  obtain ⟨cl⟩ := cs
  simp only at hl hc hb
  match cl, hl with
  | [v0, v1, v2, v3, v4], _ =>
    have g0 := hc 0 (by omega)
    have g1 := hc 1 (by omega)
    have g2 := hc 2 (by omega)
    have g3 := hc 3 (by omega)
    have g4 := hc 4 (by omega)
    simp [rws] at g0 g1 g2 g3 g4
    rw [hb, g0, g1, g2, g3, g4]
end Go.Proofs.YtoipfcmjphlmfaaDoor.Pstack
