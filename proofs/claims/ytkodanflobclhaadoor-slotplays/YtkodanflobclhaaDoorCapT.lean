/- The two tables of package cap, as a walk asks them: their cells, in every world that leaves them. -/
import Derived.Test.YtkodanflobclhaaDoorCapG
import Derived.Below
import Derived.OwnWalk
import Derived.Laws.Rows
namespace Go.Proofs.YtkodanflobclhaaDoor.Pcap
open Go.Proofs.YtkodanflobclhaaDoor.Pbase Go.Proofs.YtkodanflobclhaaDoor.Pfield
open Go.RowKit M
set_option linter.unusedVariables false

/-- The table of what is allowed. -/
structure TabM (w : World) : Prop where
  lt : 1 < w.heap.size
  cell : ∀ K j : Nat, K < 12 → j < 6 → w.cell? ⟨1, K * 6 + j, none⟩ = some (.int .i64 (mostAt K j))
theorem TabM.below {w w' : World} {B : Nat} (h : TabM w) (hB : Below B w w') (hle : w.heap.size ≤ B) : TabM w' :=
  ⟨Nat.lt_of_lt_of_le h.lt hB.size, fun K j hK hj => (hB.cell (p := ⟨1, K * 6 + j, none⟩) (Nat.lt_of_lt_of_le h.lt hle)).trans (h.cell K j hK hj)⟩
theorem TabM.on {w w' : World} (h : TabM w) (hB : Below w.heap.size w w') : TabM w' := h.below hB (Nat.le_refl _)
/-- The table of widths. -/
structure TabW (w : World) : Prop where
  lt : 0 < w.heap.size
  row : ∃ t fr, w.heap[(0 : Nat)]? = some (.cells #[.int .i64 4, .int .i64 5, .int .i64 6, .int .i64 6, .int .i64 16] t fr)
theorem TabW.on {w w' : World} (h : TabW w) (hB : Below w.heap.size w w') : TabW w' :=
  ⟨Nat.lt_of_lt_of_le h.lt hB.size, by obtain ⟨t, fr, hr⟩ := h.row; exact ⟨t, fr, (hB.block 0 h.lt).trans hr⟩⟩
/-! ### Lives, Holds, end, numbersOf, Weaken -/
def livB (k : Int) : Bool := decide (k = 5) || decide (k = 7)
def holB (k : Int) : Bool := decide (3 ≤ k) && decide (k ≤ 10)
def holI (k t : Int) : Int := if holB k = true then t else 0
theorem end_any (k r t l e a : Int) (w : World) :
    Calls Tryd.prog 48 #[.agg #[.int .i64 k, .int .i64 r, .int .i64 t, .int .i64 l, .int .i64 e, .int .i64 a]] w fun x w' => x = .returned (.int .i64 (wrap64 (t + a))) ∧ Below w.heap.size w w' := by
  go_enter Tryd.func48, Tryd.ntmps48
  go_wp2
  go_ret
  exact ⟨by first | rfl | simp, bal (Below.refl _ _) _⟩
theorem numbers_any (k r t l e a : Int) (w : World) :
    Calls Tryd.prog 39 #[.agg #[.int .i64 k, .int .i64 r, .int .i64 t, .int .i64 l, .int .i64 e, .int .i64 a]] w fun x w' => x = .returned (.agg #[.int .i64 k, .int .i64 r, .int .i64 t, .int .i64 l, .int .i64 e, .int .i64 a]) ∧ Below w.heap.size w w' := by
  go_enter Tryd.func39, Tryd.ntmps39
  go_wp2
  refine bodyPost_ret (v := .agg #[.int .i64 k, .int .i64 r, .int .i64 t, .int .i64 l, .int .i64 e, .int .i64 a]) (by simp [results, Tryd.results39, go_sem]) rfl ⟨rfl, bal (bal (Below.refl _ _) _) _⟩
end Go.Proofs.YtkodanflobclhaaDoor.Pcap
