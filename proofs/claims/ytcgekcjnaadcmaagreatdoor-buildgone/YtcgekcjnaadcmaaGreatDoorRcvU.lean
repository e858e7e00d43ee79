/- The table of package rcv out of what a row's condition says of it; all three tables; integers that fit. -/
import Derived.Test.YtcgekcjnaadcmaaGreatDoorBunQrcv
import Derived.Test.YtcgekcjnaadcmaaGreatDoorBunBase
import Derived.Test.YtcgekcjnaadcmaaGreatDoorBunHead
import Derived.Test.YtcgekcjnaadcmaaGreatDoorRows
import Derived.ProofKit
import Derived.OpenShut
import Derived.Carry
import Derived.LaidMore
import Derived.Deep.SlicePairs
namespace Go.Proofs.YtcgekcjnaadcmaaGreatDoor.Pqrcv
open Go.Proofs.YtcgekcjnaadcmaaGreatDoor.Pbase Go.Proofs.YtcgekcjnaadcmaaGreatDoor.Pfield Go.Proofs.YtcgekcjnaadcmaaGreatDoor.Play Go.Proofs.YtcgekcjnaadcmaaGreatDoor.Pmem
open Go.RowKit Go.ChangeShapes Go.WideShapes Go.Deep
set_option linter.unusedVariables false

theorem cellsU64 : Tryz.prog.cellsOf 104 = 1 := by kernel_rfl
/-- The cells of an array of words are what its datum says. -/
theorem array_words {w : World} {fuel n : Nat} {t : TypeId} {cs : List Value} {zs : List Int} {p : List MemPlace} (ht : Tryz.prog.underlying t = some (.array n 104)) (hn : Tryz.prog.cellsOf t = n)
    (h : DataW.trod (fun _ => ()) Tryz.prog w 0 (fun _ => true) false fuel t cs = some (.agg (zs.map fun z => .lit (.int .u64 z)), p)) : zs.length = n ∧ cs.length = n ∧ ∀ j, j < n → cs[j]? = some (.int .u64 (zs[j]?.getD 0)) := by
  obtain ⟨xs, m, _, hx, hl, hxl, hel⟩ := DataW.trod_array ht h
  simp only [Prod.mk.injEq, DataW.agg.injEq] at hx
  have hz : zs.length = n := by have := congrArg List.length hx.1; simpa [hxl] using this
  refine ⟨hz, hl.trans hn, fun j hj => ?_⟩
  have hj' := hel j hj
  have hxj : j < xs.length := by omega
  rw [List.getElem?_eq_getElem hxj, cellsU64, Nat.mul_one] at hj'
  obtain ⟨k, e1, e2, _⟩ := DataW.trod_int Tryz.underlying104 hj'
  have hjc : j < cs.length := by omega
  rw [List.drop_eq_getElem_cons hjc, List.take_succ_cons, List.take_zero, List.cons.injEq] at e1
  rw [List.getElem?_eq_getElem hjc, e1.1]
  have hh := congrArg (fun l => l[j]?) hx.1
  simp [hxj, show j < zs.length by omega] at hh
  rw [e2] at hh
  simp at hh
  simp [show j < zs.length by omega, hh]
def mostL : List Int := [63, 64, 255, 1, 255, 0, 0, 0]
theorem gTmost : (Tryz.prog.globals[(0 : Nat)]?).map (·.type) = some 106 := by kernel_rfl
theorem cellsWords : Tryz.prog.cellsOf 106 = 8 := by kernel_rfl
theorem most_datum : /- 0 -/ (Rows.laid_palanquin_rcv_most : DataW Unit) = .agg (mostL.map fun z => .lit (.int .u64 z)) := rfl
theorem tabV_of {W : World} {g : Nat} {t : TypeId} {cs : Array Value} {fuel : Nat} {p : List MemPlace} {n : String} (hn : Tryz.prog.globalNamed n = some 0) (hg : Tryz.prog.globalNamed n = some g) (ht : (Tryz.prog.globals[g]?).map (·.type) = some t) (hv : W.var? Tryz.prog n = some cs)
    (hd : DataW.trod (fun _ => ()) Tryz.prog W 0 (fun _ => true) false fuel t cs.toList = some (Rows.laid_palanquin_rcv_most, p)) : TabV W := by
  obtain rfl := Option.some.inj (hn.symm.trans hg)
  obtain rfl := Option.some.inj (gTmost.symm.trans ht)
  obtain ⟨t1, fr, hb⟩ := var_block hg hv
  refine ⟨block_lt hb, t1, fr, ?_⟩
  rw [most_datum] at hd
  obtain ⟨_, hl, hc⟩ := array_words Tryz.underlying106 cellsWords hd
  obtain ⟨cl⟩ := cs
  simp only at hl hc hb
  match cl, hl with
  | [v0, v1, v2, v3, v4, v5, v6, v7], _ =>
    have g0 := hc 0 (by omega)
    have g1 := hc 1 (by omega)
    have g2 := hc 2 (by omega)
    have g3 := hc 3 (by omega)
    have g4 := hc 4 (by omega)
    have g5 := hc 5 (by omega)
    have g6 := hc 6 (by omega)
    have g7 := hc 7 (by omega)
    simp [mostL] at g0 g1 g2 g3 g4 g5 g6 g7
    rw [hb, g0, g1, g2, g3, g4, g5, g6, g7]
end Go.Proofs.YtcgekcjnaadcmaaGreatDoor.Pqrcv
