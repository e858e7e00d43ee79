/- Both memories side by side, as the statement 'Plays' of layer 11 asks them. -/
import Derived.Test.YtkodanflobclhaaDoorSltS
import Derived.Deep.RegionHeld3
import Derived.Deep.CutBlock
namespace Go.Proofs.YtkodanflobclhaaDoor.Pslot
open Go.Proofs.YtkodanflobclhaaDoor.Pbase Go.Proofs.YtkodanflobclhaaDoor.Pcap Go.Proofs.YtkodanflobclhaaDoor.Pfield Go.Proofs.YtkodanflobclhaaDoor.Pmem
open Go.RowKit M
set_option linter.unusedVariables false

theorem mt_both {w wx : World} {N : Nat} {M : Nat → Nat → Int} (h : Both w wx N M) (hT : TabM w) (hW : TabW w) (hF : Fit M) (h1 : 1 ≤ N) (h2 : N ≤ 64) : Mt wx (w.heap.size + 1) w.heap.size N M :=
  ⟨h.mem, hT.on h.below, hW.on h.below, hF, h1, h2⟩
/-- A capability is stored over one, number by number. -/
theorem box6_put {w : World} {B : Nat} {k r t l e a : Int} (h : Box6 w B k r t l e a) (k' r' t' l' e' a' : Int) :
    Box6 ((((((w.setCell ⟨B, 0, none⟩ (.int .i64 k')).setCell ⟨B, 1, none⟩ (.int .i64 r')).setCell ⟨B, 2, none⟩ (.int .i64 t')).setCell ⟨B, 3, none⟩ (.int .i64 l')).setCell ⟨B, 4, none⟩ (.int .i64 e')).setCell ⟨B, 5, none⟩ (.int .i64 a')) B k' r' t' l' e' a' := by
  have ne : ∀ {i j : Nat}, i ≠ j → (⟨B, i, none⟩ : Addr) ≠ ⟨B, j, none⟩ := fun h e => h (by cases e; rfl)
  refine ⟨by simpa using h.lt, ?_, ?_, ?_, ?_, ?_, ?_, fun j => by simpa using h.fz j⟩
  · rw [World.cell?_setCell_other _ _ _ _ (ne (by omega)), World.cell?_setCell_other _ _ _ _ (ne (by omega)), World.cell?_setCell_other _ _ _ _ (ne (by omega)), World.cell?_setCell_other _ _ _ _ (ne (by omega)), World.cell?_setCell_other _ _ _ _ (ne (by omega))]
    exact World.cell?_setCell_same _ _ _ h.c0
  · rw [World.cell?_setCell_other _ _ _ _ (ne (by omega)), World.cell?_setCell_other _ _ _ _ (ne (by omega)), World.cell?_setCell_other _ _ _ _ (ne (by omega)), World.cell?_setCell_other _ _ _ _ (ne (by omega))]
    refine World.cell?_setCell_same _ _ _ (u := .int .i64 r) ?_
    rw [World.cell?_setCell_other _ _ _ _ (ne (by omega))]
    exact h.c1
  · rw [World.cell?_setCell_other _ _ _ _ (ne (by omega)), World.cell?_setCell_other _ _ _ _ (ne (by omega)), World.cell?_setCell_other _ _ _ _ (ne (by omega))]
    refine World.cell?_setCell_same _ _ _ (u := .int .i64 t) ?_
    rw [World.cell?_setCell_other _ _ _ _ (ne (by omega)), World.cell?_setCell_other _ _ _ _ (ne (by omega))]
    exact h.c2
  · rw [World.cell?_setCell_other _ _ _ _ (ne (by omega)), World.cell?_setCell_other _ _ _ _ (ne (by omega))]
    refine World.cell?_setCell_same _ _ _ (u := .int .i64 l) ?_
    rw [World.cell?_setCell_other _ _ _ _ (ne (by omega)), World.cell?_setCell_other _ _ _ _ (ne (by omega)), World.cell?_setCell_other _ _ _ _ (ne (by omega))]
    exact h.c3
  · rw [World.cell?_setCell_other _ _ _ _ (ne (by omega))]
    refine World.cell?_setCell_same _ _ _ (u := .int .i64 e) ?_
    rw [World.cell?_setCell_other _ _ _ _ (ne (by omega)), World.cell?_setCell_other _ _ _ _ (ne (by omega)), World.cell?_setCell_other _ _ _ _ (ne (by omega)), World.cell?_setCell_other _ _ _ _ (ne (by omega))]
    exact h.c4
  · refine World.cell?_setCell_same _ _ _ (u := .int .i64 a) ?_
    rw [World.cell?_setCell_other _ _ _ _ (ne (by omega)), World.cell?_setCell_other _ _ _ _ (ne (by omega)), World.cell?_setCell_other _ _ _ _ (ne (by omega)), World.cell?_setCell_other _ _ _ _ (ne (by omega)), World.cell?_setCell_other _ _ _ _ (ne (by omega))]
    exact h.c5
/-- The empty capability's block, laid ahead of a call. -/
def zeroB : Obj := .cells #[.int .i64 0, .int .i64 0, .int .i64 0, .int .i64 0, .int .i64 0, .int .i64 0] 32
theorem laid_ahead {f : Nat} {args : Array Value} {w : World} {R : Ending → Prop} (h : ∀ wx, Below w.heap.size w wx → Calls Tryd.prog f args wx fun e w' => R e ∧ Below wx.heap.size wx w') :
    Calls Tryd.prog f args (laidB w (.cells #[.int .i64 0, .int .i64 0, .int .i64 0, .int .i64 0, .int .i64 0, .int .i64 0] 32)).drew fun e w' => R e ∧ Below w.heap.size w w' ∧ Box6 w' w.heap.size 0 0 0 0 0 0 := by
  have hb := (bal (Below.refl w.heap.size w) (.cells #[.int .i64 0, .int .i64 0, .int .i64 0, .int .i64 0, .int .i64 0, .int .i64 0] 32)).drew
  refine (h _ hb).mono fun e w' ⟨h1, h2⟩ => ⟨h1, hb.trans (h2.mono ?_), ((box6_new w 0 0 0 0 0 0 32).on (Below.refl _ _).drew).on h2⟩
  show w.heap.size ≤ (w.alloc (.cells #[.int .i64 0, .int .i64 0, .int .i64 0, .int .i64 0, .int .i64 0, .int .i64 0] 32)).heap.size
  simp
end Go.Proofs.YtkodanflobclhaaDoor.Pslot
