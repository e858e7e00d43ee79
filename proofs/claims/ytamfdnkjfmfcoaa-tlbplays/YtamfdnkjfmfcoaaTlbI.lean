/- Keys, mappings, and lists of them that came in, as a walk asks them: their cells, by index. -/
import Derived.Test.YtamfdnkjfmfcoaaTlbG
import Derived.ProofKit
import Derived.Deep.SlicePairs
import Derived.OpenShut
import Derived.Carry
namespace Go.Proofs.Ytamfdnkjfmfcoaa
open Go.RowKit Go.Deep
set_option linter.unusedVariables false

section
variable {H : Type} {enc : TypeId × Value → H} {w : World} {base : Nat} {spare : Nat → Bool} {held : Bool}
theorem key_cells {fuel : Nat} {cs : List Value} {x : DataW H × List MemPlace} (h : DataW.trod enc Try.prog w base spare held fuel 36 cs = some x) : ∃ k : Ky, cs = [.int .i64 k.1, .int .i64 k.2] := by
  obtain ⟨xs, n, _, _, hl, hx, hf⟩ := DataW.trod_struct Try.underlying36 h
  have hc : Try.prog.cellsOf 36 = 2 := by kernel_rfl
  have hi : Try.prog.cellsOf 3 = 1 := by kernel_rfl
  rw [hc] at hl
  match cs, hl, xs, hx with
  | [v0, v1], _, [y0, y1], _ =>
    have g0 := hf 0 _ rfl
    have g1 := hf 1 _ rfl
    simp [hi] at g0 g1
    obtain ⟨a, e0, _⟩ := DataW.trod_int Try.underlying3 g0
    obtain ⟨b, e1, _⟩ := DataW.trod_int Try.underlying3 g1
    simp at e0 e1
    exact ⟨(a, b), by rw [e0, e1]⟩
theorem pte_cells {fuel : Nat} {cs : List Value} {x : DataW H × List MemPlace} (h : DataW.trod enc Try.prog w base spare held fuel 38 cs = some x) : ∃ p : Pt, cs = [.bool p.1, .int .i64 p.2.1, .int .i64 p.2.2.1, .int .i64 p.2.2.2] := by
  obtain ⟨xs, n, _, _, hl, hx, hf⟩ := DataW.trod_struct Try.underlying38 h
  have hc : Try.prog.cellsOf 38 = 4 := by kernel_rfl
  have hi : Try.prog.cellsOf 3 = 1 := by kernel_rfl
  have hb : Try.prog.cellsOf 4 = 1 := by kernel_rfl
  rw [hc] at hl
  match cs, hl, xs, hx with
  | [v0, v1, v2, v3], _, [y0, y1, y2, y3], _ =>
    have g0 := hf 0 _ rfl
    have g1 := hf 1 _ rfl
    have g2 := hf 2 _ rfl
    have g3 := hf 3 _ rfl
    simp [hi, hb] at g0 g1 g2 g3
    obtain ⟨a, e0, _⟩ := DataW.trod_bool Try.underlying4 g0
    obtain ⟨b, e1, _⟩ := DataW.trod_int Try.underlying3 g1
    obtain ⟨c, e2, _⟩ := DataW.trod_int Try.underlying3 g2
    obtain ⟨d, e3, _⟩ := DataW.trod_int Try.underlying3 g3
    simp at e0 e1 e2 e3
    exact ⟨(a, b, c, d), by rw [e0, e1, e2, e3]⟩
theorem key_val {r : Reach} {b0 : Nat} {v : Value} {d : DataW H} {p : List MemPlace} (hv : Value.okWide Try.prog w r b0 36 v) (h : DataW.Trod enc Try.prog w base spare held 36 v d p) : ∃ k : Ky, v = .agg #[.int .i64 k.1, .int .i64 k.2] := by
  obtain ⟨cs, rfl, _⟩ := WideShapes.okWide_struct Try.underlying36 hv
  obtain ⟨fuel, hf⟩ := h
  obtain ⟨k, hk⟩ := key_cells hf
  exact ⟨k, by simp only [Value.cells] at hk; rw [← Array.toArray_toList (xs := cs), hk]⟩
theorem pte_val {r : Reach} {b0 : Nat} {v : Value} {d : DataW H} {p : List MemPlace} (hv : Value.okWide Try.prog w r b0 38 v) (h : DataW.Trod enc Try.prog w base spare held 38 v d p) : ∃ p : Pt, v = .agg #[.bool p.1, .int .i64 p.2.1, .int .i64 p.2.2.1, .int .i64 p.2.2.2] := by
  obtain ⟨cs, rfl, _⟩ := WideShapes.okWide_struct Try.underlying38 hv
  obtain ⟨fuel, hf⟩ := h
  obtain ⟨k, hk⟩ := pte_cells hf
  exact ⟨k, by simp only [Value.cells] at hk; rw [← Array.toArray_toList (xs := cs), hk]⟩
end

/-- A slice of len keys, of len mappings lies at a, in blocks below n₀ of W. -/
def CameK (n₀ : Nat) (W : World) (a : Option Addr) (len : Nat) : Prop :=
  len = 0 ∨ ∃ b off, a = some ⟨b, off, none⟩ ∧ b < n₀ ∧ ∀ j, j < len → ∃ k : Ky, W.cell? ⟨b, off + j * 2, none⟩ = some (.int .i64 k.1) ∧ W.cell? ⟨b, off + j * 2 + 1, none⟩ = some (.int .i64 k.2)
def CameP (n₀ : Nat) (W : World) (a : Option Addr) (len : Nat) : Prop :=
  len = 0 ∨ ∃ b off, a = some ⟨b, off, none⟩ ∧ b < n₀ ∧ ∀ j, j < len → ∃ p : Pt, W.cell? ⟨b, off + j * 4, none⟩ = some (.bool p.1) ∧ W.cell? ⟨b, off + j * 4 + 1, none⟩ = some (.int .i64 p.2.1) ∧ W.cell? ⟨b, off + j * 4 + 2, none⟩ = some (.int .i64 p.2.2.1) ∧ W.cell? ⟨b, off + j * 4 + 3, none⟩ = some (.int .i64 p.2.2.2)
theorem addr_plain {W : World} {x : Addr} {v : Value} (h : W.cell? x = some v) : ∃ b off, x = ⟨b, off, none⟩ := by
  obtain ⟨b, off, s⟩ := x
  cases s with
  | none => exact ⟨b, off, rfl⟩
  | some s =>
    unfold World.cell? at h
    split at h <;> simp at h
theorem cameK_of {H : Type} {enc : TypeId × Value → H} {W : World} {spare : Nat → Bool} {held : Bool} {fuel len cap : Nat} {a : Option Addr} {x : DataW H × List MemPlace}
    (h : DataW.trod enc Try.prog W 0 spare held fuel 23 [.slice a len cap] = some x) : CameK W.heap.size W a len ∧ len ≤ 9223372036854775807 := by
  rcases open_slice Try.underlying23 h with ⟨hcs, _⟩ | ⟨a', len', cap', m, n, D, Pl, hcs, hb, hl, hm, hmm, _, hx⟩
  · simp at hcs
    obtain ⟨rfl, rfl, rfl⟩ := hcs
    exact ⟨.inl rfl, by omega⟩
  · simp at hcs
    obtain ⟨rfl, rfl, rfl⟩ := hcs
    refine ⟨?_, by unfold maxLen at hm; omega⟩
    by_cases h0 : len = 0
    · exact .inl h0
    have hlm : len ≤ m := by rw [hmm]; split <;> omega
    have hc : Try.prog.cellsOf 36 = 2 := by kernel_rfl
    have each : ∀ j, j < len → ∃ k : Ky, W.cell? (a'.add (j * 2)) = some (.int .i64 k.1) ∧ W.cell? (a'.add (j * 2 + 1)) = some (.int .i64 k.2) := by
      intro j hj
      obtain ⟨cs', h1, h2⟩ := hx j (by omega)
      rw [hc] at h1
      obtain ⟨_, hlen, hcell⟩ := World.cells?_some h1
      obtain ⟨k, rfl⟩ := key_cells h2
      have e0 := hcell 0 (by omega)
      have e1 := hcell 1 (by omega)
      rw [add_add] at e0 e1
      exact ⟨k, by simpa using e0, by simpa using e1⟩
    obtain ⟨k0, e0, _⟩ := each 0 (by omega)
    rw [Nat.zero_mul, Addr.add_zero'] at e0
    obtain ⟨b, off, rfl⟩ := addr_plain e0
    refine .inr ⟨b, off, rfl, World.block_lt_of_cell? W _ e0, fun j hj => ?_⟩
    obtain ⟨k, h1, h2⟩ := each j hj
    rw [Addr.add_lit] at h1 h2
    exact ⟨k, h1, h2⟩
theorem cameP_of {H : Type} {enc : TypeId × Value → H} {W : World} {spare : Nat → Bool} {held : Bool} {fuel len cap : Nat} {a : Option Addr} {x : DataW H × List MemPlace}
    (h : DataW.trod enc Try.prog W 0 spare held fuel 24 [.slice a len cap] = some x) : CameP W.heap.size W a len ∧ len ≤ 9223372036854775807 := by
  rcases open_slice Try.underlying24 h with ⟨hcs, _⟩ | ⟨a', len', cap', m, n, D, Pl, hcs, hb, hl, hm, hmm, _, hx⟩
  · simp at hcs
    obtain ⟨rfl, rfl, rfl⟩ := hcs
    exact ⟨.inl rfl, by omega⟩
  · simp at hcs
    obtain ⟨rfl, rfl, rfl⟩ := hcs
    refine ⟨?_, by unfold maxLen at hm; omega⟩
    by_cases h0 : len = 0
    · exact .inl h0
    have hlm : len ≤ m := by rw [hmm]; split <;> omega
    have hc : Try.prog.cellsOf 38 = 4 := by kernel_rfl
    have each : ∀ j, j < len → ∃ p : Pt, W.cell? (a'.add (j * 4)) = some (.bool p.1) ∧ W.cell? (a'.add (j * 4 + 1)) = some (.int .i64 p.2.1) ∧ W.cell? (a'.add (j * 4 + 2)) = some (.int .i64 p.2.2.1) ∧ W.cell? (a'.add (j * 4 + 3)) = some (.int .i64 p.2.2.2) := by
      intro j hj
      obtain ⟨cs', h1, h2⟩ := hx j (by omega)
      rw [hc] at h1
      obtain ⟨_, hlen, hcell⟩ := World.cells?_some h1
      obtain ⟨k, rfl⟩ := pte_cells h2
      have e0 := hcell 0 (by omega)
      have e1 := hcell 1 (by omega)
      have e2 := hcell 2 (by omega)
      have e3 := hcell 3 (by omega)
      rw [add_add] at e0 e1 e2 e3
      exact ⟨k, by simpa using e0, by simpa using e1, by simpa using e2, by simpa using e3⟩
    obtain ⟨k0, e0, _⟩ := each 0 (by omega)
    rw [Nat.zero_mul, Addr.add_zero'] at e0
    obtain ⟨b, off, rfl⟩ := addr_plain e0
    refine .inr ⟨b, off, rfl, World.block_lt_of_cell? W _ e0, fun j hj => ?_⟩
    obtain ⟨k, h1, h2, h3, h4⟩ := each j hj
    rw [Addr.add_lit] at h1 h2 h3 h4
    exact ⟨k, h1, h2, h3, h4⟩
/-- The key, the mapping at j, as any later world has it. -/
theorem CameK.at {n₀ : Nat} {W : World} {a : Option Addr} {len : Nat} (h : CameK n₀ W a len) {j : Nat} (hj : j < len) :
    ∃ b off k1 k2, a = some ⟨b, off, none⟩ ∧ Hid (∀ W', Below n₀ W W' → W'.cell? ⟨b, off + j * 2, none⟩ = some (.int .i64 k1) ∧ W'.cell? ⟨b, off + j * 2 + 1, none⟩ = some (.int .i64 k2)) := by
  rcases h with h | ⟨b, off, e, hb, hc⟩
  · omega
  · obtain ⟨⟨k1, k2⟩, h1, h2⟩ := hc j hj
    exact ⟨b, off, k1, k2, e, fun W' hB => ⟨(hB.cell (p := ⟨b, _, none⟩) hb).trans h1, (hB.cell (p := ⟨b, _, none⟩) hb).trans h2⟩⟩
theorem CameP.at {n₀ : Nat} {W : World} {a : Option Addr} {len : Nat} (h : CameP n₀ W a len) {j : Nat} (hj : j < len) :
    ∃ b off q0 q1 q2 q3, a = some ⟨b, off, none⟩ ∧ Hid (∀ W', Below n₀ W W' → W'.cell? ⟨b, off + j * 4, none⟩ = some (.bool q0) ∧ W'.cell? ⟨b, off + j * 4 + 1, none⟩ = some (.int .i64 q1) ∧ W'.cell? ⟨b, off + j * 4 + 2, none⟩ = some (.int .i64 q2) ∧ W'.cell? ⟨b, off + j * 4 + 3, none⟩ = some (.int .i64 q3)) := by
  rcases h with h | ⟨b, off, e, hb, hc⟩
  · omega
  · obtain ⟨⟨q0, q1, q2, q3⟩, h1, h2, h3, h4⟩ := hc j hj
    exact ⟨b, off, q0, q1, q2, q3, e, fun W' hB => ⟨(hB.cell (p := ⟨b, _, none⟩) hb).trans h1, (hB.cell (p := ⟨b, _, none⟩) hb).trans h2, (hB.cell (p := ⟨b, _, none⟩) hb).trans h3, (hB.cell (p := ⟨b, _, none⟩) hb).trans h4⟩⟩
end Go.Proofs.Ytamfdnkjfmfcoaa
