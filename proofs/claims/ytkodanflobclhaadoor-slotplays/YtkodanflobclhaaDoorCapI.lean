/- Capabilities that came in, and the tables that the program lays: as a walk asks them. -/
import Derived.Test.YtkodanflobclhaaDoorCapT
import Derived.Test.YtkodanflobclhaaDoorBasP
import Derived.Test.YtkodanflobclhaaDoorRows
import Derived.ProofKit
import Derived.OpenShut
import Derived.Carry
import Derived.LaidMore
import Derived.Deep.SlicePairs
namespace Go.Proofs.YtkodanflobclhaaDoor.Pcap
open Go.Proofs.YtkodanflobclhaaDoor.Pbase Go.Proofs.YtkodanflobclhaaDoor.Pfield
open Go.RowKit Go.ChangeShapes Go.WideShapes Go.Deep
set_option linter.unusedVariables false

section
variable {H : Type} {enc : TypeId × Value → H} {w : World} {base : Nat} {spare : Nat → Bool} {held : Bool}
set_option maxRecDepth 100000 in
theorem cap_cells {fuel : Nat} {cs : List Value} {x : DataW H × List MemPlace} (h : DataW.trod enc Tryd.prog w base spare held fuel 32 cs = some x) : ∃ k r t l e a : Int, cs = [.int .i64 k, .int .i64 r, .int .i64 t, .int .i64 l, .int .i64 e, .int .i64 a] := by
  obtain ⟨xs, n, _, _, hl, hx, hf⟩ := DataW.trod_struct Tryd.underlying32 h
  have hc : Tryd.prog.cellsOf 32 = 6 := by kernel_rfl
  have hi : Tryd.prog.cellsOf 3 = 1 := by kernel_rfl
  rw [hc] at hl
  match cs, hl, xs, hx with
  | [v0, v1, v2, v3, v4, v5], _, [y0, y1, y2, y3, y4, y5], _ =>
    have g0 := hf 0 _ rfl
    have g1 := hf 1 _ rfl
    have g2 := hf 2 _ rfl
    have g3 := hf 3 _ rfl
    have g4 := hf 4 _ rfl
    have g5 := hf 5 _ rfl
    simp [hi] at g0 g1 g2 g3 g4 g5
    obtain ⟨a0, e0, _⟩ := DataW.trod_int Tryd.underlying3 g0
    obtain ⟨a1, e1, _⟩ := DataW.trod_int Tryd.underlying3 g1
    obtain ⟨a2, e2, _⟩ := DataW.trod_int Tryd.underlying3 g2
    obtain ⟨a3, e3, _⟩ := DataW.trod_int Tryd.underlying3 g3
    obtain ⟨a4, e4, _⟩ := DataW.trod_int Tryd.underlying3 g4
    obtain ⟨a5, e5, _⟩ := DataW.trod_int Tryd.underlying3 g5
    simp at e0 e1 e2 e3 e4 e5
    exact ⟨a0, a1, a2, a3, a4, a5, by rw [e0, e1, e2, e3, e4, e5]⟩
set_option maxRecDepth 100000 in
theorem cap_val {r : Reach} {b0 : Nat} {v : Value} {d : DataW H} {p : List MemPlace} (hv : Value.okWide Tryd.prog w r b0 32 v) (h : DataW.Trod enc Tryd.prog w base spare held 32 v d p) : ∃ k r t l e a : Int, v = .agg #[.int .i64 k, .int .i64 r, .int .i64 t, .int .i64 l, .int .i64 e, .int .i64 a] := by
  obtain ⟨cs, rfl, _⟩ := WideShapes.okWide_struct Tryd.underlying32 hv
  obtain ⟨fuel, hf⟩ := h
  obtain ⟨k, r, t, l, e, a, hk⟩ := cap_cells hf
  exact ⟨k, r, t, l, e, a, by simp only [Value.cells] at hk; rw [← Array.toArray_toList (xs := cs), hk]⟩
end

/-- A capability's six numbers. -/
abbrev C6 := Int × Int × Int × Int × Int × Int
/-- The six cells from off on of block b are those numbers. -/
def At6 (W : World) (b off : Nat) (p : C6) : Prop :=
  W.cell? ⟨b, off, none⟩ = some (.int .i64 p.1) ∧ W.cell? ⟨b, off + 1, none⟩ = some (.int .i64 p.2.1) ∧ W.cell? ⟨b, off + 2, none⟩ = some (.int .i64 p.2.2.1) ∧ W.cell? ⟨b, off + 3, none⟩ = some (.int .i64 p.2.2.2.1) ∧ W.cell? ⟨b, off + 4, none⟩ = some (.int .i64 p.2.2.2.2.1) ∧ W.cell? ⟨b, off + 5, none⟩ = some (.int .i64 p.2.2.2.2.2)
/-- A slice of len capabilities lies at a, in blocks below n₀ of W. -/
def CameC (n₀ : Nat) (W : World) (a : Option Addr) (len : Nat) : Prop :=
  len = 0 ∨ ∃ b off, a = some ⟨b, off, none⟩ ∧ b < n₀ ∧ ∀ j, j < len → ∃ p : C6, At6 W b (off + j * 6) p
set_option maxRecDepth 100000 in
theorem cameC_of {H : Type} {enc : TypeId × Value → H} {W : World} {spare : Nat → Bool} {held : Bool} {fuel len cap : Nat} {a : Option Addr} {x : DataW H × List MemPlace}
    (h : DataW.trod enc Tryd.prog W 0 spare held fuel 24 [.slice a len cap] = some x) : CameC W.heap.size W a len ∧ len ≤ 9223372036854775807 := by
  rcases open_slice Tryd.underlying24 h with ⟨hcs, _⟩ | ⟨a', len', cap', m, n, D, Pl, hcs, hb, hl, hm, hmm, _, hx⟩
  · simp at hcs
    obtain ⟨rfl, rfl, rfl⟩ := hcs
    exact ⟨.inl rfl, by omega⟩
  · simp at hcs
    obtain ⟨rfl, rfl, rfl⟩ := hcs
    refine ⟨?_, by unfold maxLen at hm; omega⟩
    by_cases h0 : len = 0
    · exact .inl h0
    have hlm : len ≤ m := by rw [hmm]; split <;> omega
    have hc : Tryd.prog.cellsOf 32 = 6 := by kernel_rfl
    have each : ∀ j, j < len → ∃ p : C6, W.cell? (a'.add (j * 6)) = some (.int .i64 p.1) ∧ W.cell? (a'.add (j * 6 + 1)) = some (.int .i64 p.2.1) ∧ W.cell? (a'.add (j * 6 + 2)) = some (.int .i64 p.2.2.1) ∧ W.cell? (a'.add (j * 6 + 3)) = some (.int .i64 p.2.2.2.1) ∧ W.cell? (a'.add (j * 6 + 4)) = some (.int .i64 p.2.2.2.2.1) ∧ W.cell? (a'.add (j * 6 + 5)) = some (.int .i64 p.2.2.2.2.2) := by
      intro j hj
      obtain ⟨cs', h1, h2⟩ := hx j (by omega)
      rw [hc] at h1
      obtain ⟨_, hlen, hcell⟩ := World.cells?_some h1
      obtain ⟨k, r, t, l, e, c, rfl⟩ := cap_cells h2
      have e0 := hcell 0 (by omega)
      have e1 := hcell 1 (by omega)
      have e2 := hcell 2 (by omega)
      have e3 := hcell 3 (by omega)
      have e4 := hcell 4 (by omega)
      have e5 := hcell 5 (by omega)
      rw [add_add] at e0 e1 e2 e3 e4 e5
      exact ⟨(k, r, t, l, e, c), by simpa using e0, by simpa using e1, by simpa using e2, by simpa using e3, by simpa using e4, by simpa using e5⟩
    obtain ⟨k0, e0, _⟩ := each 0 (by omega)
    rw [Nat.zero_mul, Addr.add_zero'] at e0
    obtain ⟨b, off, rfl⟩ := addr_plain e0
    refine .inr ⟨b, off, rfl, World.block_lt_of_cell? W _ e0, fun j hj => ?_⟩
    obtain ⟨k, h1, h2, h3, h4, h5, h6⟩ := each j hj
    rw [Addr.add_lit] at h1 h2 h3 h4 h5 h6
    exact ⟨k, h1, h2, h3, h4, h5, h6⟩
/-- The capability at j, as any later world has it. -/
theorem CameC.at {n₀ : Nat} {W : World} {a : Option Addr} {len : Nat} (h : CameC n₀ W a len) {j : Nat} (hj : j < len) :
    ∃ (b off : Nat) (k r t l e c : Int), a = some ⟨b, off, none⟩ ∧ Hid (∀ W', Below n₀ W W' → At6 W' b (off + j * 6) (k, r, t, l, e, c)) := by
  rcases h with h | ⟨b, off, e, hb, hc⟩
  · omega
  · obtain ⟨⟨q0, q1, q2, q3, q4, q5⟩, h1, h2, h3, h4, h5, h6⟩ := hc j hj
    exact ⟨b, off, q0, q1, q2, q3, q4, q5, e, fun W' hB => ⟨(hB.cell (p := ⟨b, _, none⟩) hb).trans h1, (hB.cell (p := ⟨b, _, none⟩) hb).trans h2, (hB.cell (p := ⟨b, _, none⟩) hb).trans h3, (hB.cell (p := ⟨b, _, none⟩) hb).trans h4, (hB.cell (p := ⟨b, _, none⟩) hb).trans h5, (hB.cell (p := ⟨b, _, none⟩) hb).trans h6⟩⟩
theorem CameC.on {w w' : World} {a : Option Addr} {len : Nat} (h : CameC w.heap.size w a len) (hB : Below w.heap.size w w') : CameC w'.heap.size w' a len := by
  rcases h with h | ⟨b, off, e, hb, hc⟩
  · exact .inl h
  · refine .inr ⟨b, off, e, Nat.lt_of_lt_of_le hb hB.size, fun j hj => ?_⟩
    obtain ⟨q, h1, h2, h3, h4, h5, h6⟩ := hc j hj
    exact ⟨q, (hB.cell (p := ⟨b, _, none⟩) hb).trans h1, (hB.cell (p := ⟨b, _, none⟩) hb).trans h2, (hB.cell (p := ⟨b, _, none⟩) hb).trans h3, (hB.cell (p := ⟨b, _, none⟩) hb).trans h4, (hB.cell (p := ⟨b, _, none⟩) hb).trans h5, (hB.cell (p := ⟨b, _, none⟩) hb).trans h6⟩

/-! ### the tables -/
theorem gTwid : (Tryd.prog.globals[(0 : Nat)]?).map (·.type) = some 95 := by kernel_rfl
theorem gTmost : (Tryd.prog.globals[(1 : Nat)]?).map (·.type) = some 106 := by kernel_rfl
theorem cellsSix : Tryd.prog.cellsOf 93 = 6 := by kernel_rfl
theorem cellsMost : Tryd.prog.cellsOf 106 = 72 := by kernel_rfl
theorem cellsWide : Tryd.prog.cellsOf 95 = 5 := by kernel_rfl
theorem most_datum : (Rows.laid_palanquin_cap_most : DataW Unit) = .agg (mostL.map fun row => .agg (row.map fun z => .lit (.int .i64 z))) := rfl
theorem wid_datum : (Rows.laid_palanquin_cap_widths : DataW Unit) = .agg (ws.map fun z => .lit (.int .i64 z)) := rfl
theorem tabM_of {W : World} {g : Nat} {t : TypeId} {cs : Array Value} {fuel : Nat} {p : List MemPlace} {n : String} (hn : Tryd.prog.globalNamed n = some 1) (hg : Tryd.prog.globalNamed n = some g) (ht : (Tryd.prog.globals[g]?).map (·.type) = some t) (hv : W.var? Tryd.prog n = some cs)
    (hd : DataW.trod (fun _ => ()) Tryd.prog W 0 (fun _ => true) false fuel t cs.toList = some (Rows.laid_palanquin_cap_most, p)) : TabM W := by
  obtain rfl := Option.some.inj (hn.symm.trans hg)
  obtain rfl := Option.some.inj (gTmost.symm.trans ht)
  obtain ⟨t1, fr, hb⟩ := var_block hg hv
  refine ⟨block_lt hb, fun K j hK hj => ?_⟩
  rw [cell_of_row _ _ _ _ _ _ hb]
  rw [most_datum] at hd
  obtain ⟨xs, m, _, hx, hl, hxl, hel⟩ := DataW.trod_array Tryd.underlying106 hd
  simp only [Prod.mk.injEq, DataW.agg.injEq] at hx
  have hK' := hel K hK
  have hxK : K < xs.length := by omega
  have hmK : K < mostL.length := hK
  rw [List.getElem?_eq_getElem hxK, cellsSix] at hK'
  have hh := congrArg (fun l => l[K]?) hx.1
  simp only [List.getElem?_map, List.getElem?_eq_getElem hxK, List.getElem?_eq_getElem hmK, Option.map_some, Option.some.injEq] at hh
  obtain ⟨d, q⟩ : ∃ d : DataW Unit × List MemPlace, d = xs[K] := ⟨_, rfl⟩
  rw [← q] at hK' hh
  obtain ⟨d1, d2⟩ := d
  simp only at hh
  rw [← hh] at hK'
  obtain ⟨_, _, hc⟩ := array_ints Tryd.underlying93 cellsSix hK'
  have hcj := hc j hj
  rw [List.getElem?_take, if_pos hj, List.getElem?_drop] at hcj
  rw [← Array.getElem?_toList, hcj]
  unfold mostAt
  rw [List.getElem?_eq_getElem hmK, Option.getD_some]
theorem tabW_of {W : World} {g : Nat} {t : TypeId} {cs : Array Value} {fuel : Nat} {p : List MemPlace} {n : String} (hn : Tryd.prog.globalNamed n = some 0) (hg : Tryd.prog.globalNamed n = some g) (ht : (Tryd.prog.globals[g]?).map (·.type) = some t) (hv : W.var? Tryd.prog n = some cs)
    (hd : DataW.trod (fun _ => ()) Tryd.prog W 0 (fun _ => true) false fuel t cs.toList = some (Rows.laid_palanquin_cap_widths, p)) : TabW W := by
  obtain rfl := Option.some.inj (hn.symm.trans hg)
  obtain rfl := Option.some.inj (gTwid.symm.trans ht)
  obtain ⟨t1, fr, hb⟩ := var_block hg hv
  refine ⟨block_lt hb, t1, fr, ?_⟩
  rw [wid_datum] at hd
  obtain ⟨_, hl, hc⟩ := array_ints Tryd.underlying95 cellsWide hd
  obtain ⟨cl⟩ := cs
  simp only at hl hc hb
  match cl, hl with
  | [v0, v1, v2, v3, v4], _ =>
    have g0 := hc 0 (by omega)
    have g1 := hc 1 (by omega)
    have g2 := hc 2 (by omega)
    have g3 := hc 3 (by omega)
    have g4 := hc 4 (by omega)
    simp [ws] at g0 g1 g2 g3 g4
    rw [hb, g0, g1, g2, g3, g4]
end Go.Proofs.YtkodanflobclhaaDoor.Pcap
