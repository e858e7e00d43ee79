/- The two tables of package cap, as a walk asks them: their cells, in every world that leaves them. -/
import Derived.Test.YtdednjeofolleaaDoorCapG
import Derived.Below
import Derived.OwnWalk
import Derived.Laws.Rows
namespace Go.Proofs.YtdednjeofolleaaDoor
open Go.RowKit M
set_option linter.unusedVariables false

/-- The table of what is allowed. -/
structure TabM (w : World) : Prop where
  lt : 1 < w.heap.size
  cell : ∀ K j : Nat, K < 12 → j < 6 → w.cell? ⟨1, K * 6 + j, none⟩ = some (.int .i64 (mostAt K j))
theorem TabM.below {w w' : World} {B : Nat} (h : TabM w) (hB : Below B w w') (hle : w.heap.size ≤ B) : TabM w' :=
  ⟨Nat.lt_of_lt_of_le h.lt hB.size, fun K j hK hj => (hB.cell (p := ⟨1, K * 6 + j, none⟩) (Nat.lt_of_lt_of_le h.lt hle)).trans (h.cell K j hK hj)⟩
theorem TabM.on {w w' : World} (h : TabM w) (hB : Below w.heap.size w w') : TabM w' := h.below hB (Nat.le_refl _)
/-- The table of widths. -/
structure TabW (w : World) : Prop where
  lt : 0 < w.heap.size
  row : ∃ t fr, w.heap[(0 : Nat)]? = some (.cells #[.int .i64 4, .int .i64 5, .int .i64 6, .int .i64 6, .int .i64 16] t fr)
theorem TabW.on {w w' : World} (h : TabW w) (hB : Below w.heap.size w w') : TabW w' :=
  ⟨Nat.lt_of_lt_of_le h.lt hB.size, by obtain ⟨t, fr, hr⟩ := h.row; exact ⟨t, fr, (hB.block 0 h.lt).trans hr⟩⟩
theorem below_drew' (B : Nat) (w : World) (n : Nat) : Below B w (w.drewN n) := ⟨rfl, rfl, rfl, Nat.le_refl _, fun _ _ => rfl⟩
theorem bal {w x : World} (h : Below w.heap.size w x) (o : Obj) : Below w.heap.size w (x.alloc o) := h.alloc h.size o
theorem bst {w x : World} (h : Below w.heap.size w x) {b : Nat} (hp : w.heap.size ≤ b) (j : Nat) (v : Value) : Below w.heap.size w (x.setCell ⟨b, j, none⟩ v) := h.setCell (p := ⟨b, j, none⟩) hp v

/-! ### Lives, Holds, end, numbersOf, Weaken -/
def livB (k : Int) : Bool := decide (k = 5) || decide (k = 7)
theorem lives_any (k r t l e a : Int) (w : World) :
    Calls Tryd.prog 18 #[.agg #[.int .i64 k, .int .i64 r, .int .i64 t, .int .i64 l, .int .i64 e, .int .i64 a]] w fun x w' => x = .returned (.bool (livB k)) ∧ Below w.heap.size w w' := by
  by_cases h5 : k = 5
  · subst h5
    go_enter Tryd.func18, Tryd.ntmps18
    go_wp2
    go_ret
    exact ⟨rfl, bal (Below.refl _ _) _⟩
  by_cases h7 : k = 7
  · subst h7
    go_enter Tryd.func18, Tryd.ntmps18
    go_wp2
    go_ret
    exact ⟨rfl, bal (Below.refl _ _) _⟩
  have b5 : (k == 5) = false := by simp [h5]
  have b7 : (k == 7) = false := by simp [h7]
  go_enter Tryd.func18, Tryd.ntmps18
  go_wp2
  go_ret
  exact ⟨by simp [livB, h5, h7], bal (Below.refl _ _) _⟩
def holB (k : Int) : Bool := decide (3 ≤ k) && decide (k ≤ 10)
def holI (k t : Int) : Int := if holB k = true then t else 0
theorem holds_any (k r t l e a : Int) (w : World) :
    Calls Tryd.prog 10 #[.agg #[.int .i64 k, .int .i64 r, .int .i64 t, .int .i64 l, .int .i64 e, .int .i64 a]] w fun x w' => x = .returned (.tuple #[.int .i64 (holI k t), .bool (holB k)]) ∧ Below w.heap.size w w' := by
  by_cases h3 : k < 3
  · have hb : holB k = false := by simp [holB]; omega
    have hi : holI k t = 0 := by simp [holI, hb]
    rw [hb, hi]
    clear hb hi
    go_enter Tryd.func10, Tryd.ntmps10
    go_wp2
    go_ret2
    exact ⟨rfl, bal (Below.refl _ _) _⟩
  by_cases h10 : 10 < k
  · have hb : holB k = false := by simp [holB]; omega
    have hi : holI k t = 0 := by simp [holI, hb]
    rw [hb, hi]
    clear hb hi
    go_enter Tryd.func10, Tryd.ntmps10
    go_wp2
    go_ret2
    exact ⟨rfl, bal (Below.refl _ _) _⟩
  have hb : holB k = true := by simp [holB]; omega
  have hi : holI k t = t := by simp [holI, hb]
  rw [hb, hi]
  clear hb hi
  go_enter Tryd.func10, Tryd.ntmps10
  go_wp2
  go_ret2
  exact ⟨rfl, bal (Below.refl _ _) _⟩
theorem end_any (k r t l e a : Int) (w : World) :
    Calls Tryd.prog 28 #[.agg #[.int .i64 k, .int .i64 r, .int .i64 t, .int .i64 l, .int .i64 e, .int .i64 a]] w fun x w' => x = .returned (.int .i64 (wrap64 (t + a))) ∧ Below w.heap.size w w' := by
  go_enter Tryd.func28, Tryd.ntmps28
  go_wp2
  go_ret
  exact ⟨by first | rfl | simp, bal (Below.refl _ _) _⟩
theorem numbers_any (k r t l e a : Int) (w : World) :
    Calls Tryd.prog 21 #[.agg #[.int .i64 k, .int .i64 r, .int .i64 t, .int .i64 l, .int .i64 e, .int .i64 a]] w fun x w' => x = .returned (.agg #[.int .i64 k, .int .i64 r, .int .i64 t, .int .i64 l, .int .i64 e, .int .i64 a]) ∧ Below w.heap.size w w' := by
  go_enter Tryd.func21, Tryd.ntmps21
  go_wp2
  refine bodyPost_ret (v := .agg #[.int .i64 k, .int .i64 r, .int .i64 t, .int .i64 l, .int .i64 e, .int .i64 a]) (by simp [results, Tryd.results21, go_sem]) rfl ⟨rfl, bal (bal (Below.refl _ _) _) _⟩
theorem weaken_any (k r t l e a x : Int) (w : World) :
    Calls Tryd.prog 14 #[.agg #[.int .i64 k, .int .i64 r, .int .i64 t, .int .i64 l, .int .i64 e, .int .i64 a], .int .i64 x] w fun y w' => y = .returned (.agg #[.int .i64 k, .int .i64 (bits .and .i64 r x), .int .i64 t, .int .i64 l, .int .i64 e, .int .i64 a]) ∧ Below w.heap.size w w' := by
  go_enter Tryd.func14, Tryd.ntmps14
  go_wp2
  refine bodyPost_ret (v := .agg #[.int .i64 k, .int .i64 (bits .and .i64 r x), .int .i64 t, .int .i64 l, .int .i64 e, .int .i64 a]) (by simp [results, Tryd.results14, go_sem]) rfl ⟨rfl, bal (bal (Below.refl _ _) _) _⟩
end Go.Proofs.YtdednjeofolleaaDoor
