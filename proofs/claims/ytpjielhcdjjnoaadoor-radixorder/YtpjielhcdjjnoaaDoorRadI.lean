/- The two tables of widths, out of what a row's condition says of them. -/
import Derived.Test.YtpjielhcdjjnoaaDoorRadB
import Derived.Test.YtpjielhcdjjnoaaDoorBunBase
import Derived.Test.YtpjielhcdjjnoaaDoorRows
import Derived.ProofKit
import Derived.OpenShut
import Derived.Carry
import Derived.LaidMore
namespace Go.Proofs.YtpjielhcdjjnoaaDoor.Pradix
open Go.Proofs.YtpjielhcdjjnoaaDoor.Pbase Go.Proofs.YtpjielhcdjjnoaaDoor.Pfield
open Go.RowKit Go.ChangeShapes Go.WideShapes
set_option linter.unusedVariables false

theorem gTs : (Tryd.prog.globals[(0 : Nat)]?).map (·.type) = some 42 := by kernel_rfl
theorem gTp : (Tryd.prog.globals[(1 : Nat)]?).map (·.type) = some 47 := by kernel_rfl
theorem cellsTwo : Tryd.prog.cellsOf 42 = 2 := by kernel_rfl
theorem cellsThree : Tryd.prog.cellsOf 47 = 3 := by kernel_rfl
theorem s_datum : (Rows.laid_palanquin_radix_slotWidths : DataW Unit) = .agg (s2.map fun z => .lit (.int .i64 z)) := rfl
theorem p_datum : (Rows.laid_palanquin_radix_pageWidths : DataW Unit) = .agg (p3.map fun z => .lit (.int .i64 z)) := rfl
theorem tabS_of {W : World} {g : Nat} {t : TypeId} {cs : Array Value} {fuel : Nat} {p : List MemPlace} {n : String} (hn : Tryd.prog.globalNamed n = some 0) (hg : Tryd.prog.globalNamed n = some g) (ht : (Tryd.prog.globals[g]?).map (·.type) = some t) (hv : W.var? Tryd.prog n = some cs)
    (hd : DataW.trod (fun _ => ()) Tryd.prog W 0 (fun _ => true) false fuel t cs.toList = some (Rows.laid_palanquin_radix_slotWidths, p)) : 0 < W.heap.size ∧ ∃ t fr, W.heap[(0 : Nat)]? = some (.cells #[.int .i64 4, .int .i64 4] t fr) := by
  obtain rfl := Option.some.inj (hn.symm.trans hg)
  obtain rfl := Option.some.inj (gTs.symm.trans ht)
  obtain ⟨t1, fr, hb⟩ := var_block hg hv
  refine ⟨block_lt hb, t1, fr, ?_⟩
  rw [s_datum] at hd
  obtain ⟨_, hl, hc⟩ := array_ints Tryd.underlying42 cellsTwo hd
  obtain ⟨cl⟩ := cs
  simp only at hl hc hb
  match cl, hl with
  | [v0, v1], _ =>
    have g0 := hc 0 (by omega)
    have g1 := hc 1 (by omega)
    simp [s2] at g0 g1
    rw [hb, g0, g1]
theorem tabP_of {W : World} {g : Nat} {t : TypeId} {cs : Array Value} {fuel : Nat} {p : List MemPlace} {n : String} (hn : Tryd.prog.globalNamed n = some 1) (hg : Tryd.prog.globalNamed n = some g) (ht : (Tryd.prog.globals[g]?).map (·.type) = some t) (hv : W.var? Tryd.prog n = some cs)
    (hd : DataW.trod (fun _ => ()) Tryd.prog W 0 (fun _ => true) false fuel t cs.toList = some (Rows.laid_palanquin_radix_pageWidths, p)) : 1 < W.heap.size ∧ ∃ t fr, W.heap[(1 : Nat)]? = some (.cells #[.int .i64 5, .int .i64 5, .int .i64 5] t fr) := by
  obtain rfl := Option.some.inj (hn.symm.trans hg)
  obtain rfl := Option.some.inj (gTp.symm.trans ht)
  obtain ⟨t1, fr, hb⟩ := var_block hg hv
  refine ⟨block_lt hb, t1, fr, ?_⟩
  rw [p_datum] at hd
  obtain ⟨_, hl, hc⟩ := array_ints Tryd.underlying47 cellsThree hd
  obtain ⟨cl⟩ := cs
  simp only at hl hc hb
  match cl, hl with
  | [v0, v1, v2], _ =>
    have g0 := hc 0 (by omega)
    have g1 := hc 1 (by omega)
    have g2 := hc 2 (by omega)
    simp [p3] at g0 g1 g2
    rw [hb, g0, g1, g2]
end Go.Proofs.YtpjielhcdjjnoaaDoor.Pradix
