/- Lists of integers and of bools that came in, as a walk asks them: their cells, by index, in any later world. -/
import Derived.Test.YtppbldhahddopaaLivG
import Derived.Test.YtppbldhahddopaaRows
import Derived.ProofKit
import Derived.Deep.SlicePairs
import Derived.OpenShut
import Derived.Carry
namespace Go.Proofs.Ytppbldhahddopaa
open Go.RowKit Go.Deep
set_option linter.unusedVariables false

/-- The slice of len integers at a lies in blocks below n₀ of W, each integer fitting its kind. -/
def Came (q : IntKind) (n₀ : Nat) (W : World) (a : Option Addr) (len : Nat) : Prop :=
  len = 0 ∨ ∃ b off, a = some ⟨b, off, none⟩ ∧ b < n₀ ∧ ∀ j, j < len → ∃ z, W.cell? ⟨b, off + j, none⟩ = some (.int q z) ∧ (Lit.int q z).wf = true
/-- The integer at j, as any later world has it. -/
theorem Came.at {q : IntKind} {n₀ : Nat} {W : World} {a : Option Addr} {len : Nat} (h : Came q n₀ W a len) {j : Nat} (hj : j < len) :
    ∃ b off z, a = some ⟨b, off, none⟩ ∧ Hid ((Lit.int q z).wf = true) ∧ Hid (∀ W', Below n₀ W W' → W'.cell? ⟨b, off + j, none⟩ = some (.int q z)) := by
  rcases h with h | ⟨b, off, e, hb, hc⟩
  · omega
  · obtain ⟨z, h1, h2⟩ := hc j hj
    exact ⟨b, off, z, e, h2, fun W' hB => (hB.cell (p := ⟨b, off + j, none⟩) hb).trans h1⟩
theorem came_addr {W : World} {zs : List Int} {k : IntKind} {x : Addr} (hc : ∀ i, i < zs.length → W.cell? (x.add i) = some (.int k (zs.getD i 0))) (h1 : 0 < zs.length) :
    ∃ b off, x = ⟨b, off, none⟩ ∧ ∀ j, j < zs.length → W.cell? ⟨b, off + j, none⟩ = some (.int k (zs.getD j 0)) := by
  obtain ⟨b, off, s⟩ := x
  cases s with
  | none => exact ⟨b, off, rfl, fun j hj => by have := hc j hj; rwa [Addr.add_lit] at this⟩
  | some s =>
    have := hc 0 h1
    rw [Addr.add_zero'] at this
    unfold World.cell? at this
    split at this <;> simp at this
theorem came_of_row {q : IntKind} {W : World} {a : Option Addr} {len cap : Nat} {zs : List Int}
    (h : (a = none ∧ len = 0 ∧ cap = 0 ∧ zs = []) ∨ ∃ x, a = some x ∧ len ≤ cap ∧ cap ≤ maxLen ∧ zs.length = cap ∧ (∀ i, i < zs.length → W.cell? (x.add i) = some (.int q (zs.getD i 0))) ∧ ∀ n ∈ zs, (Lit.int q n).wf = true) :
    Came q W.heap.size W a len ∧ len ≤ 9223372036854775807 := by
  rcases h with ⟨rfl, rfl, rfl, rfl⟩ | ⟨x, rfl, h1, h2, h3, h4, h5⟩
  · exact ⟨.inl rfl, by omega⟩
  · refine ⟨?_, by unfold maxLen at h2; omega⟩
    by_cases h0 : len = 0
    · exact .inl h0
    · obtain ⟨b, off, rfl, hc⟩ := came_addr h4 (by omega)
      have hb : b < W.heap.size := by
        have := hc 0 (by omega)
        exact World.block_lt_of_cell? W _ this
      refine .inr ⟨b, off, rfl, hb, fun j hj => ⟨_, hc j (by omega), ?_⟩⟩
      have hj' : j < zs.length := by omega
      rw [List.getD_eq_getElem?_getD, List.getElem?_eq_getElem hj', Option.getD_some]
      exact h5 _ (List.getElem_mem hj')

/-- The slice of len bools at a lies in blocks below n₀ of W. -/
def CameB (n₀ : Nat) (W : World) (a : Option Addr) (len : Nat) : Prop :=
  len = 0 ∨ ∃ b off, a = some ⟨b, off, none⟩ ∧ b < n₀ ∧ ∀ j, j < len → ∃ z : Bool, W.cell? ⟨b, off + j, none⟩ = some (.bool z)
theorem CameB.at {n₀ : Nat} {W : World} {a : Option Addr} {len : Nat} (h : CameB n₀ W a len) {j : Nat} (hj : j < len) :
    ∃ b off z, a = some ⟨b, off, none⟩ ∧ Hid (∀ W', Below n₀ W W' → W'.cell? ⟨b, off + j, none⟩ = some (.bool z)) := by
  rcases h with h | ⟨b, off, e, hb, hc⟩
  · omega
  · obtain ⟨z, h1⟩ := hc j hj
    exact ⟨b, off, z, e, fun W' hB => (hB.cell (p := ⟨b, off + j, none⟩) hb).trans h1⟩
theorem addr_plain {W : World} {x : Addr} {v : Value} (h : W.cell? x = some v) : ∃ b off, x = ⟨b, off, none⟩ := by
  obtain ⟨b, off, s⟩ := x
  cases s with
  | none => exact ⟨b, off, rfl⟩
  | some s =>
    unfold World.cell? at h
    split at h <;> simp at h
theorem cameB_of {H : Type} {enc : TypeId × Value → H} {W : World} {spare : Nat → Bool} {held : Bool} {fuel len cap : Nat} {a : Option Addr} {x : DataW H × List MemPlace}
    (h : DataW.trod enc Try.prog W 0 spare held fuel 39 [.slice a len cap] = some x) : CameB W.heap.size W a len ∧ len ≤ 9223372036854775807 := by
  rcases open_slice Try.underlying39 h with ⟨hcs, _⟩ | ⟨a', len', cap', m, n, D, Pl, hcs, hb, hl, hm, hmm, _, hx⟩
  · simp at hcs
    obtain ⟨rfl, rfl, rfl⟩ := hcs
    exact ⟨.inl rfl, by omega⟩
  · simp at hcs
    obtain ⟨rfl, rfl, rfl⟩ := hcs
    refine ⟨?_, by unfold maxLen at hm; omega⟩
    by_cases h0 : len = 0
    · exact .inl h0
    have hlm : len ≤ m := by rw [hmm]; split <;> omega
    have hc : Try.prog.cellsOf 4 = 1 := by kernel_rfl
    have each : ∀ j, j < len → ∃ k : Bool, W.cell? (a'.add j) = some (.bool k) := by
      intro j hj
      obtain ⟨cs', h1, h2⟩ := hx j (by omega)
      rw [hc] at h1
      obtain ⟨_, hlen, hcell⟩ := World.cells?_some h1
      obtain ⟨k, rfl, _⟩ := DataW.trod_bool Try.underlying4 h2
      have e0 := hcell 0 (by omega)
      rw [add_add] at e0
      exact ⟨k, by simpa using e0⟩
    obtain ⟨k0, e0⟩ := each 0 (by omega)
    rw [Addr.add_zero'] at e0
    obtain ⟨b, off, rfl⟩ := addr_plain e0
    refine .inr ⟨b, off, rfl, World.block_lt_of_cell? W _ e0, fun j hj => ?_⟩
    obtain ⟨k, h1⟩ := each j hj
    rw [Addr.add_lit] at h1
    exact ⟨k, h1⟩
theorem bounds_u8 {z : Int} (h : (Lit.int .u8 z).wf = true) : 0 ≤ z ∧ z ≤ 255 := by
  have h' : (decide (IntKind.u8.min ≤ z) && decide (z ≤ IntKind.u8.max)) = true := h
  have e1 : IntKind.u8.min = 0 := by decide
  have e2 : IntKind.u8.max = 255 := by decide
  rw [e1, e2] at h'
  simpa using h'
theorem rem_u8 {z : Int} (h : (Lit.int .u8 z).wf = true) (n : Nat) (hn : 1 ≤ n) : ∃ r : Nat, z.tmod n = r ∧ r < n := by
  have hz := bounds_u8 h
  have h1 := Int.emod_nonneg z (show (n : Int) ≠ 0 by omega)
  have h2 := Int.emod_lt_of_pos z (show (0 : Int) < n by omega)
  exact ⟨(z.tmod n).toNat, by rw [Int.tmod_eq_emod_of_nonneg hz.1]; omega, by rw [Int.tmod_eq_emod_of_nonneg hz.1]; omega⟩

end Go.Proofs.Ytppbldhahddopaa
