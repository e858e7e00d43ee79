/- Mappings that came in, as a walk asks them; awake. -/
import Derived.Test.YthmbipcfmciolaaDoorPteA
import Derived.ProofKit
import Derived.OpenShut
import Derived.Carry
import Derived.LaidMore
namespace Go.Proofs.YthmbipcfmciolaaDoor.Ppte
open Go.Proofs.YthmbipcfmciolaaDoor.Pbase
open Go.RowKit Go.ChangeShapes Go.WideShapes
set_option linter.unusedVariables false

/-- A mapping's four parts. -/
abbrev Pt := Bool × Int × Int × Int
section
variable {H : Type} {enc : TypeId × Value → H} {w : World} {base : Nat} {spare : Nat → Bool} {held : Bool}
set_option maxRecDepth 100000 in
theorem pte_cells {fuel : Nat} {cs : List Value} {x : DataW H × List MemPlace} (h : DataW.trod enc Tryd.prog w base spare held fuel 23 cs = some x) : ∃ p : Pt, cs = [.bool p.1, .int .i64 p.2.1, .int .i64 p.2.2.1, .int .i64 p.2.2.2] := by
  obtain ⟨xs, n, _, _, hl, hx, hf⟩ := DataW.trod_struct Tryd.underlying23 h
  have hc : Tryd.prog.cellsOf 23 = 4 := by kernel_rfl
  have hi : Tryd.prog.cellsOf 3 = 1 := by kernel_rfl
  have hb : Tryd.prog.cellsOf 4 = 1 := by kernel_rfl
  rw [hc] at hl
  match cs, hl, xs, hx with
  | [v0, v1, v2, v3], _, [y0, y1, y2, y3], _ =>
    have g0 := hf 0 _ rfl
    have g1 := hf 1 _ rfl
    have g2 := hf 2 _ rfl
    have g3 := hf 3 _ rfl
    simp [hi, hb] at g0 g1 g2 g3
    obtain ⟨a, e0, _⟩ := DataW.trod_bool Tryd.underlying4 g0
    obtain ⟨b, e1, _⟩ := DataW.trod_int Tryd.underlying3 g1
    obtain ⟨c, e2, _⟩ := DataW.trod_int Tryd.underlying3 g2
    obtain ⟨d, e3, _⟩ := DataW.trod_int Tryd.underlying3 g3
    simp at e0 e1 e2 e3
    exact ⟨(a, b, c, d), by rw [e0, e1, e2, e3]⟩
theorem pte_val {r : Reach} {b0 : Nat} {v : Value} {d : DataW H} {p : List MemPlace} (hv : Value.okWide Tryd.prog w r b0 23 v) (h : DataW.Trod enc Tryd.prog w base spare held 23 v d p) : ∃ p : Pt, v = .agg #[.bool p.1, .int .i64 p.2.1, .int .i64 p.2.2.1, .int .i64 p.2.2.2] := by
  obtain ⟨cs, rfl, _⟩ := WideShapes.okWide_struct Tryd.underlying23 hv
  obtain ⟨fuel, hf⟩ := h
  obtain ⟨k, hk⟩ := pte_cells hf
  exact ⟨k, by simp only [Value.cells] at hk; rw [← Array.toArray_toList (xs := cs), hk]⟩
end
theorem al11 : alB true 0 1 0 1 = true := by decide
set_option maxRecDepth 100000 in
theorem awake_any (w : World) : Calls Tryd.prog 17 #[] w fun e w' => e = .returned (.bool true) ∧ Below w.heap.size w w' := by
  go_enter Tryd.func17, Tryd.ntmps17
  go_wp2_with (first
    | (go_at_call 13; refine (allows_any true 0 1 0 1 _ (by omega)).mono ?_; rintro e1 w1 ⟨rfl, hb1⟩; rw [al11]; have H1 : Hid (Below w.heap.size w w1) := hb1; clear hb1)
    | fail)
  go_ret
  exact ⟨rfl, H1.out⟩
end Go.Proofs.YthmbipcfmciolaaDoor.Ppte
