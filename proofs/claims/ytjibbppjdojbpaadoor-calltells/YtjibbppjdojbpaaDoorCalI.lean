/- Calls that came in, and two calls held against each other (written by mk_i.py). -/
import Derived.Test.YtjibbppjdojbpaaDoorCalF
import Derived.ProofKit
import Derived.OpenShut
import Derived.Carry
import Derived.LaidMore
import Derived.Deep.SlicePairs
namespace Go.Proofs.YtjibbppjdojbpaaDoor.Pcall
open Go.Proofs.YtjibbppjdojbpaaDoor.Pbase Go.Proofs.YtjibbppjdojbpaaDoor.Pfield
open Go.RowKit Go.ChangeShapes Go.WideShapes Go.Deep
set_option linter.unusedVariables false

theorem i64_wf {z : Int} (h : (Lit.int .i64 z).wf = true) : I64 z := by
  have h' : (decide (IntKind.i64.min ≤ z) && decide (z ≤ IntKind.i64.max)) = true := h
  have e1 : IntKind.i64.min = -9223372036854775808 := by decide
  have e2 : IntKind.i64.max = 9223372036854775807 := by decide
  rw [e1, e2] at h'
  simp at h'
  exact h'
theorem u64_wf {z : Int} (h : (Lit.int .u64 z).wf = true) : 0 ≤ z ∧ z ≤ 18446744073709551615 := by
  have h' : (decide (IntKind.u64.min ≤ z) && decide (z ≤ IntKind.u64.max)) = true := h
  have e1 : IntKind.u64.min = 0 := by decide
  have e2 : IntKind.u64.max = 18446744073709551615 := by decide
  rw [e1, e2] at h'
  simp at h'
  exact h'
theorem u8_wf {z : Int} (h : (Lit.int .u8 z).wf = true) : 0 ≤ z ∧ z ≤ 255 := by
  have h' : (decide (IntKind.u8.min ≤ z) && decide (z ≤ IntKind.u8.max)) = true := h
  have e1 : IntKind.u8.min = 0 := by decide
  have e2 : IntKind.u8.max = 255 := by decide
  rw [e1, e2] at h'
  simp at h'
  exact h'
section
variable {H : Type} {enc : TypeId × Value → H} {w : World} {base : Nat} {spare : Nat → Bool} {held : Bool}
set_option maxRecDepth 100000 in
theorem call_cells {fuel : Nat} {cs : List Value} {x : DataW H × List MemPlace} (h : DataW.trod enc Tryd.prog w base spare held fuel 24 cs = some x) : ∃ x : Cl, cs = [.int .i64 x.n, .int .i64 x.a, .int .i64 x.b, .int .i64 x.c, .int .i64 x.d, .int .i64 x.e] ∧ Fc x := by
  obtain ⟨xs, n, _, _, hl, hx, hf⟩ := DataW.trod_struct Tryd.underlying24 h
  have hc : Tryd.prog.cellsOf 24 = 6 := by kernel_rfl
  have hi : Tryd.prog.cellsOf 3 = 1 := by kernel_rfl
  have ha : Tryd.prog.cellsOf 22 = 5 := by kernel_rfl
  rw [hc] at hl
  match cs, hl, xs, hx with
  | [v0, v1, v2, v3, v4, v5], _, [y0, y1], _ =>
    have g0 := hf 0 _ rfl
    have g1 := hf 1 _ rfl
    simp [hi] at g0
    simp [ha] at g1
    obtain ⟨a0, e0, _, f0⟩ := DataW.trod_int Tryd.underlying3 g0
    obtain ⟨zs, m, _, _, _, hzl, hel⟩ := DataW.trod_array Tryd.underlying22 g1
    have k1 := hel 0 (by omega)
    have k2 := hel 1 (by omega)
    have k3 := hel 2 (by omega)
    have k4 := hel 3 (by omega)
    have k5 := hel 4 (by omega)
    rw [List.getElem?_eq_getElem (by omega)] at k1 k2 k3 k4 k5
    simp [hi] at k1 k2 k3 k4 k5
    obtain ⟨a1, e1, _, f1⟩ := DataW.trod_int Tryd.underlying3 k1
    obtain ⟨a2, e2, _, f2⟩ := DataW.trod_int Tryd.underlying3 k2
    obtain ⟨a3, e3, _, f3⟩ := DataW.trod_int Tryd.underlying3 k3
    obtain ⟨a4, e4, _, f4⟩ := DataW.trod_int Tryd.underlying3 k4
    obtain ⟨a5, e5, _, f5⟩ := DataW.trod_int Tryd.underlying3 k5
    simp at e0 e1 e2 e3 e4 e5
    exact ⟨⟨a0, a1, a2, a3, a4, a5⟩, by rw [e0, e1, e2, e3, e4, e5], i64_wf f0, i64_wf f1, i64_wf f2, i64_wf f3, i64_wf f4, i64_wf f5⟩
set_option maxRecDepth 100000 in
theorem call_val {r : Reach} {b0 : Nat} {v : Value} {d : DataW H} {p : List MemPlace} (hv : Value.okWide Tryd.prog w r b0 24 v) (h : DataW.Trod enc Tryd.prog w base spare held 24 v d p) : ∃ x : Cl, v = .agg #[.int .i64 x.n, .int .i64 x.a, .int .i64 x.b, .int .i64 x.c, .int .i64 x.d, .int .i64 x.e] ∧ Fc x := by
  obtain ⟨cs, rfl, _⟩ := WideShapes.okWide_struct Tryd.underlying24 hv
  obtain ⟨fuel, hf⟩ := h
  obtain ⟨x, hk, hf⟩ := call_cells hf
  exact ⟨x, by simp only [Value.cells] at hk; rw [← Array.toArray_toList (xs := cs), hk], hf⟩
end
theorem infoIntC : (Tryd.prog.info? 3).map (fun i => (i.zero, i.size, i.bytes)) = some (some (.int .i64 0), 1, 8) := by kernel_rfl
/-- One held against itself. -/
theorem eqC (x : Cl) (w : World) : (Op.equalIn 10000 24 (.agg #[.int .i64 x.n, .int .i64 x.a, .int .i64 x.b, .int .i64 x.c, .int .i64 x.d, .int .i64 x.e]) (.agg #[.int .i64 x.n, .int .i64 x.a, .int .i64 x.b, .int .i64 x.c, .int .i64 x.d, .int .i64 x.e])).run Tryd.prog w = .ok true w := by
  show (Op.equalIn (9997 + 1 + 1 + 1) 24 (.agg #[.int .i64 x.n, .int .i64 x.a, .int .i64 x.b, .int .i64 x.c, .int .i64 x.d, .int .i64 x.e]) (.agg #[.int .i64 x.n, .int .i64 x.a, .int .i64 x.b, .int .i64 x.c, .int .i64 x.d, .int .i64 x.e])).run _ _ = _
  rw [run_equalIn_agg (P := Tryd.prog) w _ _ _ _ (by kernel_rfl) (by kernel_rfl)]
  have hf : (Tryd.prog.fieldsOf 24).toList = [⟨ "N", 3, 0, false, "", "", 0⟩, ⟨ "A", 22, 1, false, "", "", 8⟩] := by kernel_rfl
  rw [hf]
  have p0 : (part 3 #[.int .i64 x.n, .int .i64 x.a, .int .i64 x.b, .int .i64 x.c, .int .i64 x.d, .int .i64 x.e] 0).run Tryd.prog w = .ok (.int .i64 x.n) w := by kernel_rfl
  have p1 : (part 22 #[.int .i64 x.n, .int .i64 x.a, .int .i64 x.b, .int .i64 x.c, .int .i64 x.d, .int .i64 x.e] 1).run Tryd.prog w = .ok (.agg #[.int .i64 x.a, .int .i64 x.b, .int .i64 x.c, .int .i64 x.d, .int .i64 x.e]) w := by kernel_rfl
  have q : ∀ (d : Nat) (x : Int), (Op.equalIn (d + 1) 3 (.int .i64 x) (.int .i64 x)).run Tryd.prog w = .ok true w := fun d x => by
    rw [run_equalIn_int w d 3 .i64 .i64 x x Tryd.underlying3]
    simp
  have q1 : (Op.equalIn (9997 + 1 + 1) 22 (.agg #[.int .i64 x.a, .int .i64 x.b, .int .i64 x.c, .int .i64 x.d, .int .i64 x.e]) (.agg #[.int .i64 x.a, .int .i64 x.b, .int .i64 x.c, .int .i64 x.d, .int .i64 x.e])).run Tryd.prog w = .ok true w := by
    obtain ⟨i, hi, _⟩ := info_parts infoIntC
    have hc : Tryd.prog.cellsOf 3 = 1 := by kernel_rfl
    rw [run_equalIn_array w (9997 + 1) _ _ Tryd.underlying22 hi, hc]
    have s0 : (part 3 #[.int .i64 x.a, .int .i64 x.b, .int .i64 x.c, .int .i64 x.d, .int .i64 x.e] 0).run Tryd.prog w = .ok (.int .i64 x.a) w := by kernel_rfl
    have s1 : (part 3 #[.int .i64 x.a, .int .i64 x.b, .int .i64 x.c, .int .i64 x.d, .int .i64 x.e] 1).run Tryd.prog w = .ok (.int .i64 x.b) w := by kernel_rfl
    have s2 : (part 3 #[.int .i64 x.a, .int .i64 x.b, .int .i64 x.c, .int .i64 x.d, .int .i64 x.e] 2).run Tryd.prog w = .ok (.int .i64 x.c) w := by kernel_rfl
    have s3 : (part 3 #[.int .i64 x.a, .int .i64 x.b, .int .i64 x.c, .int .i64 x.d, .int .i64 x.e] 3).run Tryd.prog w = .ok (.int .i64 x.d) w := by kernel_rfl
    have s4 : (part 3 #[.int .i64 x.a, .int .i64 x.b, .int .i64 x.c, .int .i64 x.d, .int .i64 x.e] 4).run Tryd.prog w = .ok (.int .i64 x.e) w := by kernel_rfl
    have r5 : List.range 5 = [0, 1, 2, 3, 4] := rfl
    rw [r5]
    simp only [Op.eqItems, Nat.mul_one, Sem.run_bind, Sem.run_ite, s0, s1, s2, s3, s4, q, Result.andThen_ok, Sem.run_pure]
    simp
  simp only [Op.eqFields, Sem.run_bind, Sem.run_ite, p0, p1, q, q1, Result.andThen_ok, Sem.run_pure]
  simp
theorem eqlC (x : Cl) (w : World) : (binOp .eql 24 (.agg #[.int .i64 x.n, .int .i64 x.a, .int .i64 x.b, .int .i64 x.c, .int .i64 x.d, .int .i64 x.e]) (.agg #[.int .i64 x.n, .int .i64 x.a, .int .i64 x.b, .int .i64 x.c, .int .i64 x.d, .int .i64 x.e])).run Tryd.prog w = .ok (.bool true) w := by
  rw [run_eql_struct, eqC]
  simp
theorem neqC (x : Cl) (w : World) : (binOp .neq 24 (.agg #[.int .i64 x.n, .int .i64 x.a, .int .i64 x.b, .int .i64 x.c, .int .i64 x.d, .int .i64 x.e]) (.agg #[.int .i64 x.n, .int .i64 x.a, .int .i64 x.b, .int .i64 x.c, .int .i64 x.d, .int .i64 x.e])).run Tryd.prog w = .ok (.bool false) w := by
  rw [run_neq_struct, eqC]
  simp
end Go.Proofs.YtjibbppjdojbpaaDoor.Pcall
