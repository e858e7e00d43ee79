/- Endpoints that came in, and lists of them: as a walk asks them. (written by mk_came.py) -/
import Derived.Test.YtcoggdnpjpiacaaDoorRcvG
import Derived.Test.YtcoggdnpjpiacaaDoorBunBase
import Derived.Test.YtcoggdnpjpiacaaDoorRows
import Derived.ProofKit
import Derived.OpenShut
import Derived.Carry
import Derived.LaidMore
import Derived.Deep.SlicePairs
namespace Go.Proofs.YtcoggdnpjpiacaaDoor.Prcv
open Go.Proofs.YtcoggdnpjpiacaaDoor.Pbase Go.Proofs.YtcoggdnpjpiacaaDoor.Pfield Go.Proofs.YtcoggdnpjpiacaaDoor.Play Go.Proofs.YtcoggdnpjpiacaaDoor.Pmem Go.Proofs.YtcoggdnpjpiacaaDoor.Pring
open Go.RowKit Go.ChangeShapes Go.WideShapes Go.Deep
set_option linter.unusedVariables false

section
variable {H : Type} {enc : TypeId × Value → H} {w : World} {base : Nat} {spare : Nat → Bool} {held : Bool}
set_option maxRecDepth 100000 in
theorem rv_cells {fuel : Nat} {cs : List Value} {x : DataW H × List MemPlace} (h : DataW.trod enc Tryd.prog w base spare held fuel 31 cs = some x) : ∃ x : Rv, cs = [.int .i64 x.th, .int .i64 x.pa, .int .i64 x.co, .bool x.wa, .int .i64 x.lo] ∧ Fv x := by
  obtain ⟨xs, n, _, _, hl, hx, hf⟩ := DataW.trod_struct Tryd.underlying31 h
  have hc : Tryd.prog.cellsOf 31 = 5 := by kernel_rfl
  have hi : Tryd.prog.cellsOf 3 = 1 := by kernel_rfl
  have hb : Tryd.prog.cellsOf 4 = 1 := by kernel_rfl
  rw [hc] at hl
  match cs, hl, xs, hx with
  | [v0, v1, v2, v3, v4], _, [y0, y1, y2, y3, y4], _ =>
    have g0 := hf 0 _ rfl
    have g1 := hf 1 _ rfl
    have g2 := hf 2 _ rfl
    have g3 := hf 3 _ rfl
    have g4 := hf 4 _ rfl
    simp [hi, hb] at g0 g1 g2 g3 g4
    obtain ⟨a0, e0, _, f0⟩ := DataW.trod_int Tryd.underlying3 g0
    obtain ⟨a1, e1, _, f1⟩ := DataW.trod_int Tryd.underlying3 g1
    obtain ⟨a2, e2, _, f2⟩ := DataW.trod_int Tryd.underlying3 g2
    obtain ⟨a3, e3, _⟩ := DataW.trod_bool Tryd.underlying4 g3
    obtain ⟨a4, e4, _, f4⟩ := DataW.trod_int Tryd.underlying3 g4
    simp at e0 e1 e2 e3 e4
    exact ⟨⟨a0, a1, a2, a3, a4⟩, by rw [e0, e1, e2, e3, e4], in64_wf f0, in64_wf f1, in64_wf f2, in64_wf f4⟩
set_option maxRecDepth 100000 in
theorem rv_val {r : Reach} {b0 : Nat} {v : Value} {d : DataW H} {p : List MemPlace} (hv : Value.okWide Tryd.prog w r b0 31 v) (h : DataW.Trod enc Tryd.prog w base spare held 31 v d p) : ∃ x : Rv, v = .agg #[.int .i64 x.th, .int .i64 x.pa, .int .i64 x.co, .bool x.wa, .int .i64 x.lo] ∧ Fv x := by
  obtain ⟨cs, rfl, _⟩ := WideShapes.okWide_struct Tryd.underlying31 hv
  obtain ⟨fuel, hf⟩ := h
  obtain ⟨x, hk, hf⟩ := rv_cells hf
  exact ⟨x, by simp only [Value.cells] at hk; rw [← Array.toArray_toList (xs := cs), hk], hf⟩
end

/-- The cells from off on of block b are those numbers. -/
def AtW (W : World) (b off : Nat) (p : Rv) : Prop :=
  W.cell? ⟨b, off, none⟩ = some (.int .i64 p.th) ∧ W.cell? ⟨b, off + 1, none⟩ = some (.int .i64 p.pa) ∧ W.cell? ⟨b, off + 2, none⟩ = some (.int .i64 p.co) ∧ W.cell? ⟨b, off + 3, none⟩ = some (.bool p.wa) ∧ W.cell? ⟨b, off + 4, none⟩ = some (.int .i64 p.lo)
/-- A slice of len of them lies at a, in blocks below n₀ of W. -/
def CameW (n₀ : Nat) (W : World) (a : Option Addr) (len : Nat) : Prop :=
  len = 0 ∨ ∃ b off, a = some ⟨b, off, none⟩ ∧ b < n₀ ∧ ∀ j, j < len → ∃ p : Rv, Fv p ∧ AtW W b (off + j * 5) p
/-- The one at j, as any later world has it. -/
theorem CameW.at {n₀ : Nat} {W : World} {a : Option Addr} {len : Nat} (h : CameW n₀ W a len) {j : Nat} (hj : j < len) :
    ∃ (b off : Nat) (k : Rv), a = some ⟨b, off, none⟩ ∧ Fv k ∧ Hid (∀ W', Below n₀ W W' → AtW W' b (off + j * 5) k) := by
  rcases h with h | ⟨b, off, e, hb, hc⟩
  · omega
  · obtain ⟨q, hq, h1, h2, h3, h4, h5⟩ := hc j hj
    exact ⟨b, off, q, e, hq, fun W' hB => ⟨(hB.cell (p := ⟨b, _, none⟩) hb).trans h1, (hB.cell (p := ⟨b, _, none⟩) hb).trans h2, (hB.cell (p := ⟨b, _, none⟩) hb).trans h3, (hB.cell (p := ⟨b, _, none⟩) hb).trans h4, (hB.cell (p := ⟨b, _, none⟩) hb).trans h5⟩⟩
theorem CameW.on {w w' : World} {a : Option Addr} {len : Nat} (h : CameW w.heap.size w a len) (hB : Below w.heap.size w w') : CameW w'.heap.size w' a len := by
  rcases h with h | ⟨b, off, e, hb, hc⟩
  · exact .inl h
  · refine .inr ⟨b, off, e, Nat.lt_of_lt_of_le hb hB.size, fun j hj => ?_⟩
    obtain ⟨q, hq, h1, h2, h3, h4, h5⟩ := hc j hj
    exact ⟨q, hq, (hB.cell (p := ⟨b, _, none⟩) hb).trans h1, (hB.cell (p := ⟨b, _, none⟩) hb).trans h2, (hB.cell (p := ⟨b, _, none⟩) hb).trans h3, (hB.cell (p := ⟨b, _, none⟩) hb).trans h4, (hB.cell (p := ⟨b, _, none⟩) hb).trans h5⟩
/-- One held against itself. -/
theorem eqW (x : Rv) (w : World) : (Op.equalIn 10000 31 (.agg #[.int .i64 x.th, .int .i64 x.pa, .int .i64 x.co, .bool x.wa, .int .i64 x.lo]) (.agg #[.int .i64 x.th, .int .i64 x.pa, .int .i64 x.co, .bool x.wa, .int .i64 x.lo])).run Tryd.prog w = .ok true w := by
  show (Op.equalIn (9998 + 1 + 1) 31 (.agg #[.int .i64 x.th, .int .i64 x.pa, .int .i64 x.co, .bool x.wa, .int .i64 x.lo]) (.agg #[.int .i64 x.th, .int .i64 x.pa, .int .i64 x.co, .bool x.wa, .int .i64 x.lo])).run _ _ = _
  rw [run_equalIn_agg (P := Tryd.prog) w _ _ _ _ (by kernel_rfl) (by kernel_rfl)]
  have hf : (Tryd.prog.fieldsOf 31).toList = [⟨ "Thd", 3, 0, false, "", "", 0⟩, ⟨ "Parent", 3, 1, false, "", "", 8⟩, ⟨ "Count", 3, 2, false, "", "", 16⟩, ⟨ "Waits", 4, 3, false, "", "", 24⟩, ⟨ "Lost", 3, 4, false, "", "", 32⟩] := by kernel_rfl
  rw [hf]
  have p0 : (part 3 #[.int .i64 x.th, .int .i64 x.pa, .int .i64 x.co, .bool x.wa, .int .i64 x.lo] 0).run Tryd.prog w = .ok (.int .i64 x.th) w := by kernel_rfl
  have p1 : (part 3 #[.int .i64 x.th, .int .i64 x.pa, .int .i64 x.co, .bool x.wa, .int .i64 x.lo] 1).run Tryd.prog w = .ok (.int .i64 x.pa) w := by kernel_rfl
  have p2 : (part 3 #[.int .i64 x.th, .int .i64 x.pa, .int .i64 x.co, .bool x.wa, .int .i64 x.lo] 2).run Tryd.prog w = .ok (.int .i64 x.co) w := by kernel_rfl
  have p3 : (part 4 #[.int .i64 x.th, .int .i64 x.pa, .int .i64 x.co, .bool x.wa, .int .i64 x.lo] 3).run Tryd.prog w = .ok (.bool x.wa) w := by kernel_rfl
  have p4 : (part 3 #[.int .i64 x.th, .int .i64 x.pa, .int .i64 x.co, .bool x.wa, .int .i64 x.lo] 4).run Tryd.prog w = .ok (.int .i64 x.lo) w := by kernel_rfl
  have q : ∀ (x : Int), (Op.equalIn (9998 + 1) 3 (.int .i64 x) (.int .i64 x)).run Tryd.prog w = .ok true w := fun x => by
    rw [run_equalIn_int w 9998 3 .i64 .i64 x x Tryd.underlying3]
    simp
  have qb : ∀ (x : Bool), (Op.equalIn (9998 + 1) 4 (.bool x) (.bool x)).run Tryd.prog w = .ok true w := fun x => by
    rw [run_equalIn_bool w 9998 4 x x Tryd.underlying4]
    simp
  simp only [Op.eqFields, Sem.run_bind, Sem.run_ite, p0, p1, p2, p3, p4, q, qb, Result.andThen_ok, Sem.run_pure]
  simp
theorem eqlW (x : Rv) (w : World) : (binOp .eql 31 (.agg #[.int .i64 x.th, .int .i64 x.pa, .int .i64 x.co, .bool x.wa, .int .i64 x.lo]) (.agg #[.int .i64 x.th, .int .i64 x.pa, .int .i64 x.co, .bool x.wa, .int .i64 x.lo])).run Tryd.prog w = .ok (.bool true) w := by
  rw [run_eql_struct, eqW]
  simp
theorem neqW (x : Rv) (w : World) : (binOp .neq 31 (.agg #[.int .i64 x.th, .int .i64 x.pa, .int .i64 x.co, .bool x.wa, .int .i64 x.lo]) (.agg #[.int .i64 x.th, .int .i64 x.pa, .int .i64 x.co, .bool x.wa, .int .i64 x.lo])).run Tryd.prog w = .ok (.bool false) w := by
  rw [run_neq_struct, eqW]
  simp
end Go.Proofs.YtcoggdnpjpiacaaDoor.Prcv
