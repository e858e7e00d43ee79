/- Components that came in, lists of them, and the table that the program lays: as a walk asks them. -/
import Derived.Test.YtikhbohkmogffaaDoorCmpA
import Derived.Test.YtikhbohkmogffaaDoorBunBase
import Derived.Test.YtikhbohkmogffaaDoorBunHead
import Derived.Test.YtikhbohkmogffaaDoorRows
import Derived.ProofKit
import Derived.OpenShut
import Derived.Carry
import Derived.LaidMore
import Derived.Deep.SlicePairs
namespace Go.Proofs.YtikhbohkmogffaaDoor.Pcomp
open Go.Proofs.YtikhbohkmogffaaDoor.Pbase Go.Proofs.YtikhbohkmogffaaDoor.Pmem
open Go.RowKit Go.ChangeShapes Go.WideShapes Go.Deep
set_option linter.unusedVariables false

section
variable {H : Type} {enc : TypeId × Value → H} {w : World} {base : Nat} {spare : Nat → Bool} {held : Bool}
set_option maxRecDepth 100000 in
theorem comp_cells {fuel : Nat} {cs : List Value} {x : DataW H × List MemPlace} (h : DataW.trod enc Tryd.prog w base spare held fuel 33 cs = some x) : ∃ x : Cp, cs = [.int .i64 x.tb, .int .i64 x.pg, .int .i64 x.l, .int .i64 x.e, .int .i64 x.fa, .int .i64 x.wh] ∧ Fi x := by
  obtain ⟨xs, n, _, _, hl, hx, hf⟩ := DataW.trod_struct Tryd.underlying33 h
  have hc : Tryd.prog.cellsOf 33 = 6 := by kernel_rfl
  have hi : Tryd.prog.cellsOf 3 = 1 := by kernel_rfl
  rw [hc] at hl
  match cs, hl, xs, hx with
  | [v0, v1, v2, v3, v4, v5], _, [y0, y1, y2, y3, y4, y5], _ =>
    have g0 := hf 0 _ rfl
    have g1 := hf 1 _ rfl
    have g2 := hf 2 _ rfl
    have g3 := hf 3 _ rfl
    have g4 := hf 4 _ rfl
    have g5 := hf 5 _ rfl
    simp [hi] at g0 g1 g2 g3 g4 g5
    obtain ⟨a0, e0, _, f0⟩ := DataW.trod_int Tryd.underlying3 g0
    obtain ⟨a1, e1, _, f1⟩ := DataW.trod_int Tryd.underlying3 g1
    obtain ⟨a2, e2, _, f2⟩ := DataW.trod_int Tryd.underlying3 g2
    obtain ⟨a3, e3, _, f3⟩ := DataW.trod_int Tryd.underlying3 g3
    obtain ⟨a4, e4, _, f4⟩ := DataW.trod_int Tryd.underlying3 g4
    obtain ⟨a5, e5, _, f5⟩ := DataW.trod_int Tryd.underlying3 g5
    simp at e0 e1 e2 e3 e4 e5
    exact ⟨⟨a0, a1, a2, a3, a4, a5⟩, by rw [e0, e1, e2, e3, e4, e5], in64_wf f0, in64_wf f1, in64_wf f2, in64_wf f3, in64_wf f4, in64_wf f5⟩
set_option maxRecDepth 100000 in
theorem comp_val {r : Reach} {b0 : Nat} {v : Value} {d : DataW H} {p : List MemPlace} (hv : Value.okWide Tryd.prog w r b0 33 v) (h : DataW.Trod enc Tryd.prog w base spare held 33 v d p) : ∃ x : Cp, v = .agg #[.int .i64 x.tb, .int .i64 x.pg, .int .i64 x.l, .int .i64 x.e, .int .i64 x.fa, .int .i64 x.wh] ∧ Fi x := by
  obtain ⟨cs, rfl, _⟩ := WideShapes.okWide_struct Tryd.underlying33 hv
  obtain ⟨fuel, hf⟩ := h
  obtain ⟨x, hk, hf⟩ := comp_cells hf
  exact ⟨x, by simp only [Value.cells] at hk; rw [← Array.toArray_toList (xs := cs), hk], hf⟩
end

/-- The six cells from off on of block b are those numbers. -/
def AtP (W : World) (b off : Nat) (p : Cp) : Prop :=
  W.cell? ⟨b, off, none⟩ = some (.int .i64 p.tb) ∧ W.cell? ⟨b, off + 1, none⟩ = some (.int .i64 p.pg) ∧ W.cell? ⟨b, off + 2, none⟩ = some (.int .i64 p.l) ∧ W.cell? ⟨b, off + 3, none⟩ = some (.int .i64 p.e) ∧ W.cell? ⟨b, off + 4, none⟩ = some (.int .i64 p.fa) ∧ W.cell? ⟨b, off + 5, none⟩ = some (.int .i64 p.wh)
/-- A slice of len components lies at a, in blocks below n₀ of W. -/
def CameP (n₀ : Nat) (W : World) (a : Option Addr) (len : Nat) : Prop :=
  len = 0 ∨ ∃ b off, a = some ⟨b, off, none⟩ ∧ b < n₀ ∧ ∀ j, j < len → ∃ p : Cp, Fi p ∧ AtP W b (off + j * 6) p
set_option maxRecDepth 100000 in
theorem cameP_of {H : Type} {enc : TypeId × Value → H} {W : World} {spare : Nat → Bool} {held : Bool} {fuel len cap : Nat} {a : Option Addr} {x : DataW H × List MemPlace}
    (h : DataW.trod enc Tryd.prog W 0 spare held fuel 25 [.slice a len cap] = some x) : CameP W.heap.size W a len ∧ len ≤ 9223372036854775807 := by
  rcases open_slice Tryd.underlying25 h with ⟨hcs, _⟩ | ⟨a', len', cap', m, n, D, Pl, hcs, hb, hl, hm, hmm, _, hx⟩
  · simp at hcs
    obtain ⟨rfl, rfl, rfl⟩ := hcs
    exact ⟨.inl rfl, by omega⟩
  · simp at hcs
    obtain ⟨rfl, rfl, rfl⟩ := hcs
    refine ⟨?_, by unfold maxLen at hm; omega⟩
    by_cases h0 : len = 0
    · exact .inl h0
    have hlm : len ≤ m := by rw [hmm]; split <;> omega
    have hc : Tryd.prog.cellsOf 33 = 6 := by kernel_rfl
    have each : ∀ j, j < len → ∃ p : Cp, Fi p ∧ W.cell? (a'.add (j * 6)) = some (.int .i64 p.tb) ∧ W.cell? (a'.add (j * 6 + 1)) = some (.int .i64 p.pg) ∧ W.cell? (a'.add (j * 6 + 2)) = some (.int .i64 p.l) ∧ W.cell? (a'.add (j * 6 + 3)) = some (.int .i64 p.e) ∧ W.cell? (a'.add (j * 6 + 4)) = some (.int .i64 p.fa) ∧ W.cell? (a'.add (j * 6 + 5)) = some (.int .i64 p.wh) := by
      intro j hj
      obtain ⟨cs', h1, h2⟩ := hx j (by omega)
      rw [hc] at h1
      obtain ⟨_, hlen, hcell⟩ := World.cells?_some h1
      obtain ⟨k, rfl, hk⟩ := comp_cells h2
      have e0 := hcell 0 (by omega)
      have e1 := hcell 1 (by omega)
      have e2 := hcell 2 (by omega)
      have e3 := hcell 3 (by omega)
      have e4 := hcell 4 (by omega)
      have e5 := hcell 5 (by omega)
      rw [add_add] at e0 e1 e2 e3 e4 e5
      exact ⟨k, hk, by simpa using e0, by simpa using e1, by simpa using e2, by simpa using e3, by simpa using e4, by simpa using e5⟩
    obtain ⟨k0, _, e0, _⟩ := each 0 (by omega)
    rw [Nat.zero_mul, Addr.add_zero'] at e0
    obtain ⟨b, off, rfl⟩ := addr_plain e0
    refine .inr ⟨b, off, rfl, World.block_lt_of_cell? W _ e0, fun j hj => ?_⟩
    obtain ⟨k, hk, h1, h2, h3, h4, h5, h6⟩ := each j hj
    rw [Addr.add_lit] at h1 h2 h3 h4 h5 h6
    exact ⟨k, hk, h1, h2, h3, h4, h5, h6⟩
/-- The component at j, as any later world has it. -/
theorem CameP.at {n₀ : Nat} {W : World} {a : Option Addr} {len : Nat} (h : CameP n₀ W a len) {j : Nat} (hj : j < len) :
    ∃ (b off : Nat) (k : Cp), a = some ⟨b, off, none⟩ ∧ Fi k ∧ Hid (∀ W', Below n₀ W W' → AtP W' b (off + j * 6) k) := by
  rcases h with h | ⟨b, off, e, hb, hc⟩
  · omega
  · obtain ⟨q, hq, h1, h2, h3, h4, h5, h6⟩ := hc j hj
    exact ⟨b, off, q, e, hq, fun W' hB => ⟨(hB.cell (p := ⟨b, _, none⟩) hb).trans h1, (hB.cell (p := ⟨b, _, none⟩) hb).trans h2, (hB.cell (p := ⟨b, _, none⟩) hb).trans h3, (hB.cell (p := ⟨b, _, none⟩) hb).trans h4, (hB.cell (p := ⟨b, _, none⟩) hb).trans h5, (hB.cell (p := ⟨b, _, none⟩) hb).trans h6⟩⟩
theorem CameP.on {w w' : World} {a : Option Addr} {len : Nat} (h : CameP w.heap.size w a len) (hB : Below w.heap.size w w') : CameP w'.heap.size w' a len := by
  rcases h with h | ⟨b, off, e, hb, hc⟩
  · exact .inl h
  · refine .inr ⟨b, off, e, Nat.lt_of_lt_of_le hb hB.size, fun j hj => ?_⟩
    obtain ⟨q, hq, h1, h2, h3, h4, h5, h6⟩ := hc j hj
    exact ⟨q, hq, (hB.cell (p := ⟨b, _, none⟩) hb).trans h1, (hB.cell (p := ⟨b, _, none⟩) hb).trans h2, (hB.cell (p := ⟨b, _, none⟩) hb).trans h3, (hB.cell (p := ⟨b, _, none⟩) hb).trans h4, (hB.cell (p := ⟨b, _, none⟩) hb).trans h5, (hB.cell (p := ⟨b, _, none⟩) hb).trans h6⟩

/-! ### the table -/
theorem cellsU64 : Tryd.prog.cellsOf 51 = 1 := by kernel_rfl
/-- The cells of an array of words are what its datum says. -/
theorem array_words {w : World} {fuel n : Nat} {t : TypeId} {cs : List Value} {zs : List Int} {p : List MemPlace} (ht : Tryd.prog.underlying t = some (.array n 51)) (hn : Tryd.prog.cellsOf t = n)
    (h : DataW.trod (fun _ => ()) Tryd.prog w 0 (fun _ => true) false fuel t cs = some (.agg (zs.map fun z => .lit (.int .u64 z)), p)) : zs.length = n ∧ cs.length = n ∧ ∀ j, j < n → cs[j]? = some (.int .u64 (zs[j]?.getD 0)) := by
  obtain ⟨xs, m, _, hx, hl, hxl, hel⟩ := DataW.trod_array ht h
  simp only [Prod.mk.injEq, DataW.agg.injEq] at hx
  have hz : zs.length = n := by have := congrArg List.length hx.1; simpa [hxl] using this
  refine ⟨hz, hl.trans hn, fun j hj => ?_⟩
  have hj' := hel j hj
  have hxj : j < xs.length := by omega
  rw [List.getElem?_eq_getElem hxj, cellsU64, Nat.mul_one] at hj'
  obtain ⟨k, e1, e2, _⟩ := DataW.trod_int Tryd.underlying51 hj'
  have hjc : j < cs.length := by omega
  rw [List.drop_eq_getElem_cons hjc, List.take_succ_cons, List.take_zero, List.cons.injEq] at e1
  rw [List.getElem?_eq_getElem hjc, e1.1]
  have hh := congrArg (fun l => l[j]?) hx.1
  simp [hxj, show j < zs.length by omega] at hh
  rw [e2] at hh
  simp at hh
  simp [show j < zs.length by omega, hh]
theorem gTmost : (Tryd.prog.globals[(0 : Nat)]?).map (·.type) = some 96 := by kernel_rfl
theorem cellsWords : Tryd.prog.cellsOf 96 = 6 := by kernel_rfl
theorem most_datum : (Rows.laid_palanquin_comp_most : DataW Unit) = .agg (mostL.map fun z => .lit (.int .u64 z)) := rfl
theorem tabC_of {W : World} {g : Nat} {t : TypeId} {cs : Array Value} {fuel : Nat} {p : List MemPlace} {n : String} (hn : Tryd.prog.globalNamed n = some 0) (hg : Tryd.prog.globalNamed n = some g) (ht : (Tryd.prog.globals[g]?).map (·.type) = some t) (hv : W.var? Tryd.prog n = some cs)
    (hd : DataW.trod (fun _ => ()) Tryd.prog W 0 (fun _ => true) false fuel t cs.toList = some (Rows.laid_palanquin_comp_most, p)) : TabC W := by
  obtain rfl := Option.some.inj (hn.symm.trans hg)
  obtain rfl := Option.some.inj (gTmost.symm.trans ht)
  obtain ⟨t1, fr, hb⟩ := var_block hg hv
  refine ⟨block_lt hb, t1, fr, ?_⟩
  rw [most_datum] at hd
  obtain ⟨_, hl, hc⟩ := array_words Tryd.underlying96 cellsWords hd
  obtain ⟨cl⟩ := cs
  simp only at hl hc hb
  match cl, hl with
  | [v0, v1, v2, v3, v4, v5], _ =>
    have g0 := hc 0 (by omega)
    have g1 := hc 1 (by omega)
    have g2 := hc 2 (by omega)
    have g3 := hc 3 (by omega)
    have g4 := hc 4 (by omega)
    have g5 := hc 5 (by omega)
    simp [mostL] at g0 g1 g2 g3 g4 g5
    rw [hb, g0, g1, g2, g3, g4, g5]
end Go.Proofs.YtikhbohkmogffaaDoor.Pcomp
