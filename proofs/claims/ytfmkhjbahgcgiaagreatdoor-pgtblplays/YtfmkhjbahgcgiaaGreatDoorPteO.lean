/- The table of widths, out of what a row's condition says of it. -/
import Derived.Test.YtfmkhjbahgcgiaaGreatDoorBunPte
import Derived.Test.YtfmkhjbahgcgiaaGreatDoorBunBase
import Derived.Test.YtfmkhjbahgcgiaaGreatDoorRows
import Derived.ProofKit
import Derived.OpenShut
import Derived.Carry
import Derived.LaidMore
namespace Go.Proofs.YtfmkhjbahgcgiaaGreatDoor.Ppte
open Go.Proofs.YtfmkhjbahgcgiaaGreatDoor.Pbase Go.Proofs.YtfmkhjbahgcgiaaGreatDoor.Pfield
open Go.RowKit Go.ChangeShapes Go.WideShapes
set_option linter.unusedVariables false

theorem gTw : (Tryz.prog.globals[(0 : Nat)]?).map (·.type) = some 139 := by kernel_rfl
theorem cellsWide : Tryz.prog.cellsOf 139 = 4 := by kernel_rfl
theorem w_datum : /- 0 -/ (Rows.laid_palanquin_pte_widths : DataW Unit) = .agg (ws.map fun z => .lit (.int .i64 z)) := rfl
theorem tabW_of {W : World} {g : Nat} {t : TypeId} {cs : Array Value} {fuel : Nat} {p : List MemPlace} {n : String} (hn : Tryz.prog.globalNamed n = some 0) (hg : Tryz.prog.globalNamed n = some g) (ht : (Tryz.prog.globals[g]?).map (·.type) = some t) (hv : W.var? Tryz.prog n = some cs)
    (hd : DataW.trod (fun _ => ()) Tryz.prog W 0 (fun _ => true) false fuel t cs.toList = some (Rows.laid_palanquin_pte_widths, p)) : TabW W := by
  obtain rfl := Option.some.inj (hn.symm.trans hg)
  obtain rfl := Option.some.inj (gTw.symm.trans ht)
  obtain ⟨t1, fr, hb⟩ := var_block hg hv
  refine ⟨block_lt hb, t1, fr, ?_⟩
  rw [w_datum] at hd
  obtain ⟨_, hl, hc⟩ := array_ints Tryz.underlying139 cellsWide hd
  obtain ⟨cl⟩ := cs
  simp only at hl hc hb
  match cl, hl with
  | [v0, v1, v2, v3], _ =>
    have g0 := hc 0 (by omega)
    have g1 := hc 1 (by omega)
    have g2 := hc 2 (by omega)
    have g3 := hc 3 (by omega)
    simp [ws] at g0 g1 g2 g3
    rw [hb, g0, g1, g2, g3]
end Go.Proofs.YtfmkhjbahgcgiaaGreatDoor.Ppte
