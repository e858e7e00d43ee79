/- Events that came in, and lists of them: as a walk asks them. (written by mk_came.py) -/
import Derived.Test.YtdplailaolfpkaaDoorRngG
import Derived.Test.YtdplailaolfpkaaDoorBunBase
import Derived.Test.YtdplailaolfpkaaDoorRows
import Derived.ProofKit
import Derived.OpenShut
import Derived.Carry
import Derived.LaidMore
import Derived.Deep.SlicePairs
namespace Go.Proofs.YtdplailaolfpkaaDoor.Pring
open Go.Proofs.YtdplailaolfpkaaDoor.Pbase Go.Proofs.YtdplailaolfpkaaDoor.Play Go.Proofs.YtdplailaolfpkaaDoor.Pmem
open Go.RowKit Go.ChangeShapes Go.WideShapes Go.Deep
set_option linter.unusedVariables false

section
variable {H : Type} {enc : TypeId × Value → H} {w : World} {base : Nat} {spare : Nat → Bool} {held : Bool}
set_option maxRecDepth 100000 in
theorem ev_cells {fuel : Nat} {cs : List Value} {x : DataW H × List MemPlace} (h : DataW.trod enc Tryd.prog w base spare held fuel 32 cs = some x) : ∃ x : Ev, cs = [.int .i64 x.k, .int .i64 x.t] ∧ Fe x := by
  obtain ⟨xs, n, _, _, hl, hx, hf⟩ := DataW.trod_struct Tryd.underlying32 h
  have hc : Tryd.prog.cellsOf 32 = 2 := by kernel_rfl
  have hi : Tryd.prog.cellsOf 3 = 1 := by kernel_rfl
  rw [hc] at hl
  match cs, hl, xs, hx with
  | [v0, v1], _, [y0, y1], _ =>
    have g0 := hf 0 _ rfl
    have g1 := hf 1 _ rfl
    simp [hi] at g0 g1
    obtain ⟨a0, e0, _, f0⟩ := DataW.trod_int Tryd.underlying3 g0
    obtain ⟨a1, e1, _, f1⟩ := DataW.trod_int Tryd.underlying3 g1
    simp at e0 e1
    exact ⟨⟨a0, a1⟩, by rw [e0, e1], in64_wf f0, in64_wf f1⟩
set_option maxRecDepth 100000 in
theorem ev_val {r : Reach} {b0 : Nat} {v : Value} {d : DataW H} {p : List MemPlace} (hv : Value.okWide Tryd.prog w r b0 32 v) (h : DataW.Trod enc Tryd.prog w base spare held 32 v d p) : ∃ x : Ev, v = .agg #[.int .i64 x.k, .int .i64 x.t] ∧ Fe x := by
  obtain ⟨cs, rfl, _⟩ := WideShapes.okWide_struct Tryd.underlying32 hv
  obtain ⟨fuel, hf⟩ := h
  obtain ⟨x, hk, hf⟩ := ev_cells hf
  exact ⟨x, by simp only [Value.cells] at hk; rw [← Array.toArray_toList (xs := cs), hk], hf⟩
end

/-- The cells from off on of block b are those numbers. -/
def AtE (W : World) (b off : Nat) (p : Ev) : Prop :=
  W.cell? ⟨b, off, none⟩ = some (.int .i64 p.k) ∧ W.cell? ⟨b, off + 1, none⟩ = some (.int .i64 p.t)
/-- A slice of len of them lies at a, in blocks below n₀ of W. -/
def CameE (n₀ : Nat) (W : World) (a : Option Addr) (len : Nat) : Prop :=
  len = 0 ∨ ∃ b off, a = some ⟨b, off, none⟩ ∧ b < n₀ ∧ ∀ j, j < len → ∃ p : Ev, Fe p ∧ AtE W b (off + j * 2) p
set_option maxRecDepth 100000 in
theorem cameE_of {H : Type} {enc : TypeId × Value → H} {W : World} {spare : Nat → Bool} {held : Bool} {fuel len cap : Nat} {a : Option Addr} {x : DataW H × List MemPlace}
    (h : DataW.trod enc Tryd.prog W 0 spare held fuel 25 [.slice a len cap] = some x) : CameE W.heap.size W a len ∧ len ≤ 9223372036854775807 := by
  rcases open_slice Tryd.underlying25 h with ⟨hcs, _⟩ | ⟨a', len', cap', m, n, D, Pl, hcs, hb, hl, hm, hmm, _, hx⟩
  · simp at hcs
    obtain ⟨rfl, rfl, rfl⟩ := hcs
    exact ⟨.inl rfl, by omega⟩
  · simp at hcs
    obtain ⟨rfl, rfl, rfl⟩ := hcs
    refine ⟨?_, by unfold maxLen at hm; omega⟩
    by_cases h0 : len = 0
    · exact .inl h0
    have hlm : len ≤ m := by rw [hmm]; split <;> omega
    have hc : Tryd.prog.cellsOf 32 = 2 := by kernel_rfl
    have each : ∀ j, j < len → ∃ p : Ev, Fe p ∧ W.cell? (a'.add (j * 2)) = some (.int .i64 p.k) ∧ W.cell? (a'.add (j * 2 + 1)) = some (.int .i64 p.t) := by
      intro j hj
      obtain ⟨cs', h1, h2⟩ := hx j (by omega)
      rw [hc] at h1
      obtain ⟨_, hlen, hcell⟩ := World.cells?_some h1
      obtain ⟨k, rfl, hk⟩ := ev_cells h2
      have e0 := hcell 0 (by omega)
      have e1 := hcell 1 (by omega)
      rw [add_add] at e0 e1
      exact ⟨k, hk, by simpa using e0, by simpa using e1⟩
    obtain ⟨k0, _, e0, _⟩ := each 0 (by omega)
    rw [Nat.zero_mul, Addr.add_zero'] at e0
    obtain ⟨b, off, rfl⟩ := addr_plain e0
    refine .inr ⟨b, off, rfl, World.block_lt_of_cell? W _ e0, fun j hj => ?_⟩
    obtain ⟨k, hk, h1, h2⟩ := each j hj
    rw [Addr.add_lit] at h1 h2
    exact ⟨k, hk, h1, h2⟩
/-- The one at j, as any later world has it. -/
theorem CameE.at {n₀ : Nat} {W : World} {a : Option Addr} {len : Nat} (h : CameE n₀ W a len) {j : Nat} (hj : j < len) :
    ∃ (b off : Nat) (k : Ev), a = some ⟨b, off, none⟩ ∧ Fe k ∧ Hid (∀ W', Below n₀ W W' → AtE W' b (off + j * 2) k) := by
  rcases h with h | ⟨b, off, e, hb, hc⟩
  · omega
  · obtain ⟨q, hq, h1, h2⟩ := hc j hj
    exact ⟨b, off, q, e, hq, fun W' hB => ⟨(hB.cell (p := ⟨b, _, none⟩) hb).trans h1, (hB.cell (p := ⟨b, _, none⟩) hb).trans h2⟩⟩
theorem CameE.on {w w' : World} {a : Option Addr} {len : Nat} (h : CameE w.heap.size w a len) (hB : Below w.heap.size w w') : CameE w'.heap.size w' a len := by
  rcases h with h | ⟨b, off, e, hb, hc⟩
  · exact .inl h
  · refine .inr ⟨b, off, e, Nat.lt_of_lt_of_le hb hB.size, fun j hj => ?_⟩
    obtain ⟨q, hq, h1, h2⟩ := hc j hj
    exact ⟨q, hq, (hB.cell (p := ⟨b, _, none⟩) hb).trans h1, (hB.cell (p := ⟨b, _, none⟩) hb).trans h2⟩
/-- One held against itself. -/
theorem eqE (x : Ev) (w : World) : (Op.equalIn 10000 32 (.agg #[.int .i64 x.k, .int .i64 x.t]) (.agg #[.int .i64 x.k, .int .i64 x.t])).run Tryd.prog w = .ok true w := by
  show (Op.equalIn (9998 + 1 + 1) 32 (.agg #[.int .i64 x.k, .int .i64 x.t]) (.agg #[.int .i64 x.k, .int .i64 x.t])).run _ _ = _
  rw [run_equalIn_agg (P := Tryd.prog) w _ _ _ _ (by kernel_rfl) (by kernel_rfl)]
  have hf : (Tryd.prog.fieldsOf 32).toList = [⟨ "K", 3, 0, false, "", "", 0⟩, ⟨ "T", 3, 1, false, "", "", 8⟩] := by kernel_rfl
  rw [hf]
  have p0 : (part 3 #[.int .i64 x.k, .int .i64 x.t] 0).run Tryd.prog w = .ok (.int .i64 x.k) w := by kernel_rfl
  have p1 : (part 3 #[.int .i64 x.k, .int .i64 x.t] 1).run Tryd.prog w = .ok (.int .i64 x.t) w := by kernel_rfl
  have q : ∀ (x : Int), (Op.equalIn (9998 + 1) 3 (.int .i64 x) (.int .i64 x)).run Tryd.prog w = .ok true w := fun x => by
    rw [run_equalIn_int w 9998 3 .i64 .i64 x x Tryd.underlying3]
    simp
  simp only [Op.eqFields, Sem.run_bind, Sem.run_ite, p0, p1, q, Result.andThen_ok, Sem.run_pure]
  simp
theorem eqlE (x : Ev) (w : World) : (binOp .eql 32 (.agg #[.int .i64 x.k, .int .i64 x.t]) (.agg #[.int .i64 x.k, .int .i64 x.t])).run Tryd.prog w = .ok (.bool true) w := by
  rw [run_eql_struct, eqE]
  simp
theorem neqE (x : Ev) (w : World) : (binOp .neq 32 (.agg #[.int .i64 x.k, .int .i64 x.t]) (.agg #[.int .i64 x.k, .int .i64 x.t])).run Tryd.prog w = .ok (.bool false) w := by
  rw [run_neq_struct, eqE]
  simp
end Go.Proofs.YtdplailaolfpkaaDoor.Pring
