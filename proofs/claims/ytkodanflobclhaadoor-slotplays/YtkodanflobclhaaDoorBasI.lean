/- Slices of integers and of bools that came in, as a walk asks them: their cells, by index. No program is named. -/
import Derived.Test.YtkodanflobclhaaDoorBasG
import Derived.WalkKit
import Derived.Below
import Derived.ChangeOld
namespace Go.Proofs.YtkodanflobclhaaDoor.Pbase
open Go.RowKit
set_option linter.unusedVariables false

/-- The slice of len integers at a lies in blocks below n₀ of W, each integer fitting its kind. -/
def Came (q : IntKind) (n₀ : Nat) (W : World) (a : Option Addr) (len : Nat) : Prop :=
  len = 0 ∨ ∃ b off, a = some ⟨b, off, none⟩ ∧ b < n₀ ∧ ∀ j, j < len → ∃ z, W.cell? ⟨b, off + j, none⟩ = some (.int q z) ∧ (Lit.int q z).wf = true
theorem Came.at {q : IntKind} {n₀ : Nat} {W W' : World} {a : Option Addr} {len : Nat} (h : Came q n₀ W a len) (hB : Below n₀ W W') {j : Nat} (hj : j < len) :
    ∃ b off z, a = some ⟨b, off, none⟩ ∧ W'.cell? ⟨b, off + j, none⟩ = some (.int q z) ∧ Hid ((Lit.int q z).wf = true) := by
  rcases h with h | ⟨b, off, e, hb, hc⟩
  · omega
  · obtain ⟨z, h1, h2⟩ := hc j hj
    exact ⟨b, off, z, e, (hB.cell (p := ⟨b, off + j, none⟩) hb).trans h1, h2⟩
theorem Came.at2 {q : IntKind} {n₀ : Nat} {W W' : World} {a : Option Addr} {len : Nat} (h : Came q n₀ W a len) (hB : Below n₀ W W') {j : Nat} (hj : j < len) :
    ∃ b off z, a = some ⟨b, off, none⟩ ∧ b < n₀ ∧ W'.cell? ⟨b, off + j, none⟩ = some (.int q z) := by
  rcases h with h | ⟨b, off, e, hb, hc⟩
  · omega
  · obtain ⟨z, h1, _⟩ := hc j hj
    exact ⟨b, off, z, e, hb, (hB.cell (p := ⟨b, off + j, none⟩) hb).trans h1⟩
theorem came_addr {W : World} {zs : List Int} {k : IntKind} {x : Addr} (hc : ∀ i, i < zs.length → W.cell? (x.add i) = some (.int k (zs.getD i 0))) (h1 : 0 < zs.length) :
    ∃ b off, x = ⟨b, off, none⟩ ∧ ∀ j, j < zs.length → W.cell? ⟨b, off + j, none⟩ = some (.int k (zs.getD j 0)) := by
  obtain ⟨b, off, s⟩ := x
  cases s with
  | none => exact ⟨b, off, rfl, fun j hj => by have := hc j hj; rwa [Addr.add_lit] at this⟩
  | some s =>
    have := hc 0 h1
    rw [Addr.add_zero'] at this
    unfold World.cell? at this
    split at this <;> simp at this
theorem came_of_row {q : IntKind} {W : World} {a : Option Addr} {len cap : Nat} {zs : List Int}
    (h : (a = none ∧ len = 0 ∧ cap = 0 ∧ zs = []) ∨ ∃ x, a = some x ∧ len ≤ cap ∧ cap ≤ maxLen ∧ zs.length = cap ∧ (∀ i, i < zs.length → W.cell? (x.add i) = some (.int q (zs.getD i 0))) ∧ ∀ n ∈ zs, (Lit.int q n).wf = true) :
    Came q W.heap.size W a len ∧ len ≤ 9223372036854775807 := by
  rcases h with ⟨rfl, rfl, rfl, rfl⟩ | ⟨x, rfl, h1, h2, h3, h4, h5⟩
  · exact ⟨.inl rfl, by omega⟩
  · refine ⟨?_, by unfold maxLen at h2; omega⟩
    by_cases h0 : len = 0
    · exact .inl h0
    · obtain ⟨b, off, rfl, hc⟩ := came_addr h4 (by omega)
      have hb : b < W.heap.size := by
        have := hc 0 (by omega)
        exact World.block_lt_of_cell? W _ this
      refine .inr ⟨b, off, rfl, hb, fun j hj => ⟨_, hc j (by omega), ?_⟩⟩
      have hj' : j < zs.length := by omega
      rw [List.getD_eq_getElem?_getD, List.getElem?_eq_getElem hj', Option.getD_some]
      exact h5 _ (List.getElem_mem hj')

theorem addr_plain {W : World} {x : Addr} {v : Value} (h : W.cell? x = some v) : ∃ b off, x = ⟨b, off, none⟩ := by
  obtain ⟨b, off, s⟩ := x
  cases s with
  | none => exact ⟨b, off, rfl⟩
  | some s =>
    unfold World.cell? at h
    split at h <;> simp at h
/-- The integer at j, as any later world has it. -/
theorem Came.any {q : IntKind} {n₀ : Nat} {W : World} {a : Option Addr} {len : Nat} (h : Came q n₀ W a len) {j : Nat} (hj : j < len) :
    ∃ b off z, a = some ⟨b, off, none⟩ ∧ Hid ((Lit.int q z).wf = true) ∧ Hid (∀ W', Below n₀ W W' → W'.cell? ⟨b, off + j, none⟩ = some (.int q z)) := by
  rcases h with h | ⟨b, off, e, hb, hc⟩
  · omega
  · obtain ⟨z, h1, h2⟩ := hc j hj
    exact ⟨b, off, z, e, h2, fun W' hB => (hB.cell (p := ⟨b, off + j, none⟩) hb).trans h1⟩

/-- A list that came in is read behind the first block as ahead of it. -/
theorem Came.on {q : IntKind} {w w' : World} {a : Option Addr} {len : Nat} (h : Came q w.heap.size w a len) (hB : Below w.heap.size w w') : Came q w'.heap.size w' a len := by
  rcases h with h | ⟨b, off, e, hb, hc⟩
  · exact .inl h
  · refine .inr ⟨b, off, e, Nat.lt_of_lt_of_le hb hB.size, fun j hj => ?_⟩
    obtain ⟨z, h1, h2⟩ := hc j hj
    exact ⟨z, (hB.cell (p := ⟨b, off + j, none⟩) hb).trans h1, h2⟩
end Go.Proofs.YtkodanflobclhaaDoor.Pbase
