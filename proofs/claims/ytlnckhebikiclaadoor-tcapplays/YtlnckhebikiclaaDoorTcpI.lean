/- Budgets that came in, and lists of them: as a walk asks them. (written by mk_came.py) -/
import Derived.Test.YtlnckhebikiclaaDoorTcpG
import Derived.Test.YtlnckhebikiclaaDoorBunBase
import Derived.Test.YtlnckhebikiclaaDoorRows
import Derived.ProofKit
import Derived.OpenShut
import Derived.Carry
import Derived.LaidMore
import Derived.Deep.SlicePairs
namespace Go.Proofs.YtlnckhebikiclaaDoor.Ptcap
open Go.Proofs.YtlnckhebikiclaaDoor.Pbase Go.Proofs.YtlnckhebikiclaaDoor.Play Go.Proofs.YtlnckhebikiclaaDoor.Pmem
open Go.RowKit Go.ChangeShapes Go.WideShapes Go.Deep
set_option linter.unusedVariables false

section
variable {H : Type} {enc : TypeId × Value → H} {w : World} {base : Nat} {spare : Nat → Bool} {held : Bool}
set_option maxRecDepth 100000 in
theorem bud_cells {fuel : Nat} {cs : List Value} {x : DataW H × List MemPlace} (h : DataW.trod enc Tryd.prog w base spare held fuel 33 cs = some x) : ∃ x : Bd, cs = [.bool x.inf, .int .i64 x.lf, .int .i64 x.pr] ∧ Fb x := by
  obtain ⟨xs, n, _, _, hl, hx, hf⟩ := DataW.trod_struct Tryd.underlying33 h
  have hc : Tryd.prog.cellsOf 33 = 3 := by kernel_rfl
  have hi : Tryd.prog.cellsOf 3 = 1 := by kernel_rfl
  have hb : Tryd.prog.cellsOf 4 = 1 := by kernel_rfl
  rw [hc] at hl
  match cs, hl, xs, hx with
  | [v0, v1, v2], _, [y0, y1, y2], _ =>
    have g0 := hf 0 _ rfl
    have g1 := hf 1 _ rfl
    have g2 := hf 2 _ rfl
    simp [hi, hb] at g0 g1 g2
    obtain ⟨a0, e0, _⟩ := DataW.trod_bool Tryd.underlying4 g0
    obtain ⟨a1, e1, _, f1⟩ := DataW.trod_int Tryd.underlying3 g1
    obtain ⟨a2, e2, _, f2⟩ := DataW.trod_int Tryd.underlying3 g2
    simp at e0 e1 e2
    exact ⟨⟨a0, a1, a2⟩, by rw [e0, e1, e2], in64_wf f1, in64_wf f2⟩
set_option maxRecDepth 100000 in
theorem bud_val {r : Reach} {b0 : Nat} {v : Value} {d : DataW H} {p : List MemPlace} (hv : Value.okWide Tryd.prog w r b0 33 v) (h : DataW.Trod enc Tryd.prog w base spare held 33 v d p) : ∃ x : Bd, v = .agg #[.bool x.inf, .int .i64 x.lf, .int .i64 x.pr] ∧ Fb x := by
  obtain ⟨cs, rfl, _⟩ := WideShapes.okWide_struct Tryd.underlying33 hv
  obtain ⟨fuel, hf⟩ := h
  obtain ⟨x, hk, hf⟩ := bud_cells hf
  exact ⟨x, by simp only [Value.cells] at hk; rw [← Array.toArray_toList (xs := cs), hk], hf⟩
end

/-- The cells from off on of block b are those numbers. -/
def AtB (W : World) (b off : Nat) (p : Bd) : Prop :=
  W.cell? ⟨b, off, none⟩ = some (.bool p.inf) ∧ W.cell? ⟨b, off + 1, none⟩ = some (.int .i64 p.lf) ∧ W.cell? ⟨b, off + 2, none⟩ = some (.int .i64 p.pr)
/-- A slice of len of them lies at a, in blocks below n₀ of W. -/
def CameB (n₀ : Nat) (W : World) (a : Option Addr) (len : Nat) : Prop :=
  len = 0 ∨ ∃ b off, a = some ⟨b, off, none⟩ ∧ b < n₀ ∧ ∀ j, j < len → ∃ p : Bd, Fb p ∧ AtB W b (off + j * 3) p
set_option maxRecDepth 100000 in
theorem cameB_of {H : Type} {enc : TypeId × Value → H} {W : World} {spare : Nat → Bool} {held : Bool} {fuel len cap : Nat} {a : Option Addr} {x : DataW H × List MemPlace}
    (h : DataW.trod enc Tryd.prog W 0 spare held fuel 25 [.slice a len cap] = some x) : CameB W.heap.size W a len ∧ len ≤ 9223372036854775807 := by
  rcases open_slice Tryd.underlying25 h with ⟨hcs, _⟩ | ⟨a', len', cap', m, n, D, Pl, hcs, hb, hl, hm, hmm, _, hx⟩
  · simp at hcs
    obtain ⟨rfl, rfl, rfl⟩ := hcs
    exact ⟨.inl rfl, by omega⟩
  · simp at hcs
    obtain ⟨rfl, rfl, rfl⟩ := hcs
    refine ⟨?_, by unfold maxLen at hm; omega⟩
    by_cases h0 : len = 0
    · exact .inl h0
    have hlm : len ≤ m := by rw [hmm]; split <;> omega
    have hc : Tryd.prog.cellsOf 33 = 3 := by kernel_rfl
    have each : ∀ j, j < len → ∃ p : Bd, Fb p ∧ W.cell? (a'.add (j * 3)) = some (.bool p.inf) ∧ W.cell? (a'.add (j * 3 + 1)) = some (.int .i64 p.lf) ∧ W.cell? (a'.add (j * 3 + 2)) = some (.int .i64 p.pr) := by
      intro j hj
      obtain ⟨cs', h1, h2⟩ := hx j (by omega)
      rw [hc] at h1
      obtain ⟨_, hlen, hcell⟩ := World.cells?_some h1
      obtain ⟨k, rfl, hk⟩ := bud_cells h2
      have e0 := hcell 0 (by omega)
      have e1 := hcell 1 (by omega)
      have e2 := hcell 2 (by omega)
      rw [add_add] at e0 e1 e2
      exact ⟨k, hk, by simpa using e0, by simpa using e1, by simpa using e2⟩
    obtain ⟨k0, _, e0, _⟩ := each 0 (by omega)
    rw [Nat.zero_mul, Addr.add_zero'] at e0
    obtain ⟨b, off, rfl⟩ := addr_plain e0
    refine .inr ⟨b, off, rfl, World.block_lt_of_cell? W _ e0, fun j hj => ?_⟩
    obtain ⟨k, hk, h1, h2, h3⟩ := each j hj
    rw [Addr.add_lit] at h1 h2 h3
    exact ⟨k, hk, h1, h2, h3⟩
/-- The one at j, as any later world has it. -/
theorem CameB.at {n₀ : Nat} {W : World} {a : Option Addr} {len : Nat} (h : CameB n₀ W a len) {j : Nat} (hj : j < len) :
    ∃ (b off : Nat) (k : Bd), a = some ⟨b, off, none⟩ ∧ Fb k ∧ Hid (∀ W', Below n₀ W W' → AtB W' b (off + j * 3) k) := by
  rcases h with h | ⟨b, off, e, hb, hc⟩
  · omega
  · obtain ⟨q, hq, h1, h2, h3⟩ := hc j hj
    exact ⟨b, off, q, e, hq, fun W' hB => ⟨(hB.cell (p := ⟨b, _, none⟩) hb).trans h1, (hB.cell (p := ⟨b, _, none⟩) hb).trans h2, (hB.cell (p := ⟨b, _, none⟩) hb).trans h3⟩⟩
theorem CameB.on {w w' : World} {a : Option Addr} {len : Nat} (h : CameB w.heap.size w a len) (hB : Below w.heap.size w w') : CameB w'.heap.size w' a len := by
  rcases h with h | ⟨b, off, e, hb, hc⟩
  · exact .inl h
  · refine .inr ⟨b, off, e, Nat.lt_of_lt_of_le hb hB.size, fun j hj => ?_⟩
    obtain ⟨q, hq, h1, h2, h3⟩ := hc j hj
    exact ⟨q, hq, (hB.cell (p := ⟨b, _, none⟩) hb).trans h1, (hB.cell (p := ⟨b, _, none⟩) hb).trans h2, (hB.cell (p := ⟨b, _, none⟩) hb).trans h3⟩
/-- One held against itself. -/
theorem eqB (x : Bd) (w : World) : (Op.equalIn 10000 33 (.agg #[.bool x.inf, .int .i64 x.lf, .int .i64 x.pr]) (.agg #[.bool x.inf, .int .i64 x.lf, .int .i64 x.pr])).run Tryd.prog w = .ok true w := by
  show (Op.equalIn (9998 + 1 + 1) 33 (.agg #[.bool x.inf, .int .i64 x.lf, .int .i64 x.pr]) (.agg #[.bool x.inf, .int .i64 x.lf, .int .i64 x.pr])).run _ _ = _
  rw [run_equalIn_agg (P := Tryd.prog) w _ _ _ _ (by kernel_rfl) (by kernel_rfl)]
  have hf : (Tryd.prog.fieldsOf 33).toList = [⟨ "Inf", 4, 0, false, "", "", 0⟩, ⟨ "Left", 3, 1, false, "", "", 8⟩, ⟨ "Prio", 3, 2, false, "", "", 16⟩] := by kernel_rfl
  rw [hf]
  have p0 : (part 4 #[.bool x.inf, .int .i64 x.lf, .int .i64 x.pr] 0).run Tryd.prog w = .ok (.bool x.inf) w := by kernel_rfl
  have p1 : (part 3 #[.bool x.inf, .int .i64 x.lf, .int .i64 x.pr] 1).run Tryd.prog w = .ok (.int .i64 x.lf) w := by kernel_rfl
  have p2 : (part 3 #[.bool x.inf, .int .i64 x.lf, .int .i64 x.pr] 2).run Tryd.prog w = .ok (.int .i64 x.pr) w := by kernel_rfl
  have q : ∀ (x : Int), (Op.equalIn (9998 + 1) 3 (.int .i64 x) (.int .i64 x)).run Tryd.prog w = .ok true w := fun x => by
    rw [run_equalIn_int w 9998 3 .i64 .i64 x x Tryd.underlying3]
    simp
  have qb : ∀ (x : Bool), (Op.equalIn (9998 + 1) 4 (.bool x) (.bool x)).run Tryd.prog w = .ok true w := fun x => by
    rw [run_equalIn_bool w 9998 4 x x Tryd.underlying4]
    simp
  simp only [Op.eqFields, Sem.run_bind, Sem.run_ite, p0, p1, p2, q, qb, Result.andThen_ok, Sem.run_pure]
  simp
theorem eqlB (x : Bd) (w : World) : (binOp .eql 33 (.agg #[.bool x.inf, .int .i64 x.lf, .int .i64 x.pr]) (.agg #[.bool x.inf, .int .i64 x.lf, .int .i64 x.pr])).run Tryd.prog w = .ok (.bool true) w := by
  rw [run_eql_struct, eqB]
  simp
theorem neqB (x : Bd) (w : World) : (binOp .neq 33 (.agg #[.bool x.inf, .int .i64 x.lf, .int .i64 x.pr]) (.agg #[.bool x.inf, .int .i64 x.lf, .int .i64 x.pr])).run Tryd.prog w = .ok (.bool false) w := by
  rw [run_neq_struct, eqB]
  simp
end Go.Proofs.YtlnckhebikiclaaDoor.Ptcap
