/- The table of widths of package ring, out of what a row's condition says of it; lists of bools that came in. -/
import Derived.Test.YtdplailaolfpkaaDoorRngF
import Derived.Test.YtdplailaolfpkaaDoorBunHead
import Derived.Test.YtdplailaolfpkaaDoorBunBase
import Derived.Test.YtdplailaolfpkaaDoorRows
import Derived.ProofKit
import Derived.Deep.SlicePairs
import Derived.OpenShut
import Derived.Carry
import Derived.LaidMore
namespace Go.Proofs.YtdplailaolfpkaaDoor.Pring
open Go.Proofs.YtdplailaolfpkaaDoor.Pbase Go.Proofs.YtdplailaolfpkaaDoor.Pfield Go.Proofs.YtdplailaolfpkaaDoor.Play Go.Proofs.YtdplailaolfpkaaDoor.Pmem
open Go.RowKit Go.ChangeShapes Go.WideShapes Go.Deep
set_option linter.unusedVariables false

theorem gTr : (Tryd.prog.globals[(0 : Nat)]?).map (·.type) = some 70 := by kernel_rfl
theorem cellsWideR : Tryd.prog.cellsOf 70 = 2 := by kernel_rfl
theorem r_datum : /- 0 -/ (Rows.laid_palanquin_ring_widths : DataW Unit) = .agg (ews.map fun z => .lit (.int .i64 z)) := rfl
theorem tabR_of {W : World} {g : Nat} {t : TypeId} {cs : Array Value} {fuel : Nat} {p : List MemPlace} {n : String} (hn : Tryd.prog.globalNamed n = some 0) (hg : Tryd.prog.globalNamed n = some g) (ht : (Tryd.prog.globals[g]?).map (·.type) = some t) (hv : W.var? Tryd.prog n = some cs)
    (hd : DataW.trod (fun _ => ()) Tryd.prog W 0 (fun _ => true) false fuel t cs.toList = some (Rows.laid_palanquin_ring_widths, p)) : TabR W := by
  obtain rfl := Option.some.inj (hn.symm.trans hg)
  obtain rfl := Option.some.inj (gTr.symm.trans ht)
  obtain ⟨t1, fr, hb⟩ := var_block hg hv
  refine ⟨block_lt hb, t1, fr, ?_⟩
  rw [r_datum] at hd
  obtain ⟨_, hl, hc⟩ := array_ints Tryd.underlying70 cellsWideR hd
  obtain ⟨cl⟩ := cs
  simp only at hl hc hb
  match cl, hl with
  | [v0, v1], _ =>
    have g0 := hc 0 (by omega)
    have g1 := hc 1 (by omega)
    simp [ews] at g0 g1
    rw [hb, g0, g1]
/-- The slice of len bools at a lies in blocks below n₀ of W. -/
def CameO (n₀ : Nat) (W : World) (a : Option Addr) (len : Nat) : Prop :=
  len = 0 ∨ ∃ b off, a = some ⟨b, off, none⟩ ∧ b < n₀ ∧ ∀ j, j < len → ∃ z : Bool, W.cell? ⟨b, off + j, none⟩ = some (.bool z)
theorem CameO.at {n₀ : Nat} {W : World} {a : Option Addr} {len : Nat} (h : CameO n₀ W a len) {j : Nat} (hj : j < len) :
    ∃ b off z, a = some ⟨b, off, none⟩ ∧ Hid (∀ W', Below n₀ W W' → W'.cell? ⟨b, off + j, none⟩ = some (.bool z)) := by
  rcases h with h | ⟨b, off, e, hb, hc⟩
  · omega
  · obtain ⟨z, h1⟩ := hc j hj
    exact ⟨b, off, z, e, fun W' hB => (hB.cell (p := ⟨b, off + j, none⟩) hb).trans h1⟩
set_option maxRecDepth 100000 in
theorem cameO_of {H : Type} {enc : TypeId × Value → H} {W : World} {spare : Nat → Bool} {held : Bool} {fuel len cap : Nat} {a : Option Addr} {x : DataW H × List MemPlace}
    (h : DataW.trod enc Tryd.prog W 0 spare held fuel 61 [.slice a len cap] = some x) : CameO W.heap.size W a len ∧ len ≤ 9223372036854775807 := by
  rcases open_slice Tryd.underlying61 h with ⟨hcs, _⟩ | ⟨a', len', cap', m, n, D, Pl, hcs, hb, hl, hm, hmm, _, hx⟩
  · simp at hcs
    obtain ⟨rfl, rfl, rfl⟩ := hcs
    exact ⟨.inl rfl, by omega⟩
  · simp at hcs
    obtain ⟨rfl, rfl, rfl⟩ := hcs
    refine ⟨?_, by unfold maxLen at hm; omega⟩
    by_cases h0 : len = 0
    · exact .inl h0
    have hlm : len ≤ m := by rw [hmm]; split <;> omega
    have hc : Tryd.prog.cellsOf 4 = 1 := by kernel_rfl
    have each : ∀ j, j < len → ∃ k : Bool, W.cell? (a'.add j) = some (.bool k) := by
      intro j hj
      obtain ⟨cs', h1, h2⟩ := hx j (by omega)
      rw [hc] at h1
      obtain ⟨_, hlen, hcell⟩ := World.cells?_some h1
      obtain ⟨k, rfl, _⟩ := DataW.trod_bool Tryd.underlying4 h2
      have e0 := hcell 0 (by omega)
      rw [add_add] at e0
      exact ⟨k, by simpa using e0⟩
    obtain ⟨k0, e0⟩ := each 0 (by omega)
    rw [Addr.add_zero'] at e0
    obtain ⟨b, off, rfl⟩ := addr_plain e0
    refine .inr ⟨b, off, rfl, World.block_lt_of_cell? W _ e0, fun j hj => ?_⟩
    obtain ⟨k, h1⟩ := each j hj
    rw [Addr.add_lit] at h1
    exact ⟨k, h1⟩
end Go.Proofs.YtdplailaolfpkaaDoor.Pring
