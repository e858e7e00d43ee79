/- Records that came in, and lists of them: as a walk asks them. (written by mk_came.py) -/
import Derived.Test.YtoipfcmjphlmfaaDoorStkG
import Derived.Test.YtoipfcmjphlmfaaDoorBunBase
import Derived.Test.YtoipfcmjphlmfaaDoorRows
import Derived.ProofKit
import Derived.OpenShut
import Derived.Carry
import Derived.LaidMore
import Derived.Deep.SlicePairs
namespace Go.Proofs.YtoipfcmjphlmfaaDoor.Pstack
open Go.Proofs.YtoipfcmjphlmfaaDoor.Pbase Go.Proofs.YtoipfcmjphlmfaaDoor.Play Go.Proofs.YtoipfcmjphlmfaaDoor.Pmem
open Go.RowKit Go.ChangeShapes Go.WideShapes Go.Deep
set_option linter.unusedVariables false

section
variable {H : Type} {enc : TypeId × Value → H} {w : World} {base : Nat} {spare : Nat → Bool} {held : Bool}
set_option maxRecDepth 100000 in
theorem rec_cells {fuel : Nat} {cs : List Value} {x : DataW H × List MemPlace} (h : DataW.trod enc Tryd.prog w base spare held fuel 32 cs = some x) : ∃ x : Rc, cs = [.int .i64 x.co, .int .i64 x.tb, .int .i64 x.pg, .int .i64 x.l, .int .i64 x.e, .int .i64 x.ip] ∧ Fr x := by
  obtain ⟨xs, n, _, _, hl, hx, hf⟩ := DataW.trod_struct Tryd.underlying32 h
  have hc : Tryd.prog.cellsOf 32 = 6 := by kernel_rfl
  have hi : Tryd.prog.cellsOf 3 = 1 := by kernel_rfl
  rw [hc] at hl
  match cs, hl, xs, hx with
  | [v0, v1, v2, v3, v4, v5], _, [y0, y1, y2, y3, y4, y5], _ =>
    have g0 := hf 0 _ rfl
    have g1 := hf 1 _ rfl
    have g2 := hf 2 _ rfl
    have g3 := hf 3 _ rfl
    have g4 := hf 4 _ rfl
    have g5 := hf 5 _ rfl
    simp [hi] at g0 g1 g2 g3 g4 g5
    obtain ⟨a0, e0, _, f0⟩ := DataW.trod_int Tryd.underlying3 g0
    obtain ⟨a1, e1, _, f1⟩ := DataW.trod_int Tryd.underlying3 g1
    obtain ⟨a2, e2, _, f2⟩ := DataW.trod_int Tryd.underlying3 g2
    obtain ⟨a3, e3, _, f3⟩ := DataW.trod_int Tryd.underlying3 g3
    obtain ⟨a4, e4, _, f4⟩ := DataW.trod_int Tryd.underlying3 g4
    obtain ⟨a5, e5, _, f5⟩ := DataW.trod_int Tryd.underlying3 g5
    simp at e0 e1 e2 e3 e4 e5
    exact ⟨⟨a0, a1, a2, a3, a4, a5⟩, by rw [e0, e1, e2, e3, e4, e5], in64_wf f0, in64_wf f1, in64_wf f2, in64_wf f3, in64_wf f4, in64_wf f5⟩
set_option maxRecDepth 100000 in
theorem rec_val {r : Reach} {b0 : Nat} {v : Value} {d : DataW H} {p : List MemPlace} (hv : Value.okWide Tryd.prog w r b0 32 v) (h : DataW.Trod enc Tryd.prog w base spare held 32 v d p) : ∃ x : Rc, v = .agg #[.int .i64 x.co, .int .i64 x.tb, .int .i64 x.pg, .int .i64 x.l, .int .i64 x.e, .int .i64 x.ip] ∧ Fr x := by
  obtain ⟨cs, rfl, _⟩ := WideShapes.okWide_struct Tryd.underlying32 hv
  obtain ⟨fuel, hf⟩ := h
  obtain ⟨x, hk, hf⟩ := rec_cells hf
  exact ⟨x, by simp only [Value.cells] at hk; rw [← Array.toArray_toList (xs := cs), hk], hf⟩
end

/-- The cells from off on of block b are those numbers. -/
def AtR (W : World) (b off : Nat) (p : Rc) : Prop :=
  W.cell? ⟨b, off, none⟩ = some (.int .i64 p.co) ∧ W.cell? ⟨b, off + 1, none⟩ = some (.int .i64 p.tb) ∧ W.cell? ⟨b, off + 2, none⟩ = some (.int .i64 p.pg) ∧ W.cell? ⟨b, off + 3, none⟩ = some (.int .i64 p.l) ∧ W.cell? ⟨b, off + 4, none⟩ = some (.int .i64 p.e) ∧ W.cell? ⟨b, off + 5, none⟩ = some (.int .i64 p.ip)
/-- A slice of len of them lies at a, in blocks below n₀ of W. -/
def CameR (n₀ : Nat) (W : World) (a : Option Addr) (len : Nat) : Prop :=
  len = 0 ∨ ∃ b off, a = some ⟨b, off, none⟩ ∧ b < n₀ ∧ ∀ j, j < len → ∃ p : Rc, Fr p ∧ AtR W b (off + j * 6) p
set_option maxRecDepth 100000 in
theorem cameR_of {H : Type} {enc : TypeId × Value → H} {W : World} {spare : Nat → Bool} {held : Bool} {fuel len cap : Nat} {a : Option Addr} {x : DataW H × List MemPlace}
    (h : DataW.trod enc Tryd.prog W 0 spare held fuel 22 [.slice a len cap] = some x) : CameR W.heap.size W a len ∧ len ≤ 9223372036854775807 := by
  rcases open_slice Tryd.underlying22 h with ⟨hcs, _⟩ | ⟨a', len', cap', m, n, D, Pl, hcs, hb, hl, hm, hmm, _, hx⟩
  · simp at hcs
    obtain ⟨rfl, rfl, rfl⟩ := hcs
    exact ⟨.inl rfl, by omega⟩
  · simp at hcs
    obtain ⟨rfl, rfl, rfl⟩ := hcs
    refine ⟨?_, by unfold maxLen at hm; omega⟩
    by_cases h0 : len = 0
    · exact .inl h0
    have hlm : len ≤ m := by rw [hmm]; split <;> omega
    have hc : Tryd.prog.cellsOf 32 = 6 := by kernel_rfl
    have each : ∀ j, j < len → ∃ p : Rc, Fr p ∧ W.cell? (a'.add (j * 6)) = some (.int .i64 p.co) ∧ W.cell? (a'.add (j * 6 + 1)) = some (.int .i64 p.tb) ∧ W.cell? (a'.add (j * 6 + 2)) = some (.int .i64 p.pg) ∧ W.cell? (a'.add (j * 6 + 3)) = some (.int .i64 p.l) ∧ W.cell? (a'.add (j * 6 + 4)) = some (.int .i64 p.e) ∧ W.cell? (a'.add (j * 6 + 5)) = some (.int .i64 p.ip) := by
      intro j hj
      obtain ⟨cs', h1, h2⟩ := hx j (by omega)
      rw [hc] at h1
      obtain ⟨_, hlen, hcell⟩ := World.cells?_some h1
      obtain ⟨k, rfl, hk⟩ := rec_cells h2
      have e0 := hcell 0 (by omega)
      have e1 := hcell 1 (by omega)
      have e2 := hcell 2 (by omega)
      have e3 := hcell 3 (by omega)
      have e4 := hcell 4 (by omega)
      have e5 := hcell 5 (by omega)
      rw [add_add] at e0 e1 e2 e3 e4 e5
      exact ⟨k, hk, by simpa using e0, by simpa using e1, by simpa using e2, by simpa using e3, by simpa using e4, by simpa using e5⟩
    obtain ⟨k0, _, e0, _⟩ := each 0 (by omega)
    rw [Nat.zero_mul, Addr.add_zero'] at e0
    obtain ⟨b, off, rfl⟩ := addr_plain e0
    refine .inr ⟨b, off, rfl, World.block_lt_of_cell? W _ e0, fun j hj => ?_⟩
    obtain ⟨k, hk, h1, h2, h3, h4, h5, h6⟩ := each j hj
    rw [Addr.add_lit] at h1 h2 h3 h4 h5 h6
    exact ⟨k, hk, h1, h2, h3, h4, h5, h6⟩
/-- The one at j, as any later world has it. -/
theorem CameR.at {n₀ : Nat} {W : World} {a : Option Addr} {len : Nat} (h : CameR n₀ W a len) {j : Nat} (hj : j < len) :
    ∃ (b off : Nat) (k : Rc), a = some ⟨b, off, none⟩ ∧ Fr k ∧ Hid (∀ W', Below n₀ W W' → AtR W' b (off + j * 6) k) := by
  rcases h with h | ⟨b, off, e, hb, hc⟩
  · omega
  · obtain ⟨q, hq, h1, h2, h3, h4, h5, h6⟩ := hc j hj
    exact ⟨b, off, q, e, hq, fun W' hB => ⟨(hB.cell (p := ⟨b, _, none⟩) hb).trans h1, (hB.cell (p := ⟨b, _, none⟩) hb).trans h2, (hB.cell (p := ⟨b, _, none⟩) hb).trans h3, (hB.cell (p := ⟨b, _, none⟩) hb).trans h4, (hB.cell (p := ⟨b, _, none⟩) hb).trans h5, (hB.cell (p := ⟨b, _, none⟩) hb).trans h6⟩⟩
theorem CameR.on {w w' : World} {a : Option Addr} {len : Nat} (h : CameR w.heap.size w a len) (hB : Below w.heap.size w w') : CameR w'.heap.size w' a len := by
  rcases h with h | ⟨b, off, e, hb, hc⟩
  · exact .inl h
  · refine .inr ⟨b, off, e, Nat.lt_of_lt_of_le hb hB.size, fun j hj => ?_⟩
    obtain ⟨q, hq, h1, h2, h3, h4, h5, h6⟩ := hc j hj
    exact ⟨q, hq, (hB.cell (p := ⟨b, _, none⟩) hb).trans h1, (hB.cell (p := ⟨b, _, none⟩) hb).trans h2, (hB.cell (p := ⟨b, _, none⟩) hb).trans h3, (hB.cell (p := ⟨b, _, none⟩) hb).trans h4, (hB.cell (p := ⟨b, _, none⟩) hb).trans h5, (hB.cell (p := ⟨b, _, none⟩) hb).trans h6⟩
/-- One held against itself. -/
theorem eqR (x : Rc) (w : World) : (Op.equalIn 10000 32 (.agg #[.int .i64 x.co, .int .i64 x.tb, .int .i64 x.pg, .int .i64 x.l, .int .i64 x.e, .int .i64 x.ip]) (.agg #[.int .i64 x.co, .int .i64 x.tb, .int .i64 x.pg, .int .i64 x.l, .int .i64 x.e, .int .i64 x.ip])).run Tryd.prog w = .ok true w := by
  show (Op.equalIn (9998 + 1 + 1) 32 (.agg #[.int .i64 x.co, .int .i64 x.tb, .int .i64 x.pg, .int .i64 x.l, .int .i64 x.e, .int .i64 x.ip]) (.agg #[.int .i64 x.co, .int .i64 x.tb, .int .i64 x.pg, .int .i64 x.l, .int .i64 x.e, .int .i64 x.ip])).run _ _ = _
  rw [run_equalIn_agg (P := Tryd.prog) w _ _ _ _ (by kernel_rfl) (by kernel_rfl)]
  have hf : (Tryd.prog.fieldsOf 32).toList = [⟨ "Comp", 3, 0, false, "", "", 0⟩, ⟨ "Tbl", 3, 1, false, "", "", 8⟩, ⟨ "Pgt", 3, 2, false, "", "", 16⟩, ⟨ "L", 3, 3, false, "", "", 24⟩, ⟨ "E", 3, 4, false, "", "", 32⟩, ⟨ "Ip", 3, 5, false, "", "", 40⟩] := by kernel_rfl
  rw [hf]
  have p0 : (part 3 #[.int .i64 x.co, .int .i64 x.tb, .int .i64 x.pg, .int .i64 x.l, .int .i64 x.e, .int .i64 x.ip] 0).run Tryd.prog w = .ok (.int .i64 x.co) w := by kernel_rfl
  have p1 : (part 3 #[.int .i64 x.co, .int .i64 x.tb, .int .i64 x.pg, .int .i64 x.l, .int .i64 x.e, .int .i64 x.ip] 1).run Tryd.prog w = .ok (.int .i64 x.tb) w := by kernel_rfl
  have p2 : (part 3 #[.int .i64 x.co, .int .i64 x.tb, .int .i64 x.pg, .int .i64 x.l, .int .i64 x.e, .int .i64 x.ip] 2).run Tryd.prog w = .ok (.int .i64 x.pg) w := by kernel_rfl
  have p3 : (part 3 #[.int .i64 x.co, .int .i64 x.tb, .int .i64 x.pg, .int .i64 x.l, .int .i64 x.e, .int .i64 x.ip] 3).run Tryd.prog w = .ok (.int .i64 x.l) w := by kernel_rfl
  have p4 : (part 3 #[.int .i64 x.co, .int .i64 x.tb, .int .i64 x.pg, .int .i64 x.l, .int .i64 x.e, .int .i64 x.ip] 4).run Tryd.prog w = .ok (.int .i64 x.e) w := by kernel_rfl
  have p5 : (part 3 #[.int .i64 x.co, .int .i64 x.tb, .int .i64 x.pg, .int .i64 x.l, .int .i64 x.e, .int .i64 x.ip] 5).run Tryd.prog w = .ok (.int .i64 x.ip) w := by kernel_rfl
  have q : ∀ (x : Int), (Op.equalIn (9998 + 1) 3 (.int .i64 x) (.int .i64 x)).run Tryd.prog w = .ok true w := fun x => by
    rw [run_equalIn_int w 9998 3 .i64 .i64 x x Tryd.underlying3]
    simp
  simp only [Op.eqFields, Sem.run_bind, Sem.run_ite, p0, p1, p2, p3, p4, p5, q, Result.andThen_ok, Sem.run_pure]
  simp
theorem eqlR (x : Rc) (w : World) : (binOp .eql 32 (.agg #[.int .i64 x.co, .int .i64 x.tb, .int .i64 x.pg, .int .i64 x.l, .int .i64 x.e, .int .i64 x.ip]) (.agg #[.int .i64 x.co, .int .i64 x.tb, .int .i64 x.pg, .int .i64 x.l, .int .i64 x.e, .int .i64 x.ip])).run Tryd.prog w = .ok (.bool true) w := by
  rw [run_eql_struct, eqR]
  simp
theorem neqR (x : Rc) (w : World) : (binOp .neq 32 (.agg #[.int .i64 x.co, .int .i64 x.tb, .int .i64 x.pg, .int .i64 x.l, .int .i64 x.e, .int .i64 x.ip]) (.agg #[.int .i64 x.co, .int .i64 x.tb, .int .i64 x.pg, .int .i64 x.l, .int .i64 x.e, .int .i64 x.ip])).run Tryd.prog w = .ok (.bool false) w := by
  rw [run_neq_struct, eqR]
  simp
end Go.Proofs.YtoipfcmjphlmfaaDoor.Pstack
