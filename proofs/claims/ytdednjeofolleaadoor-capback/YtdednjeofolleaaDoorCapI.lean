/- Capabilities that came in, and the tables that the program lays: as a walk asks them. -/
import Derived.Test.YtdednjeofolleaaDoorCapT
import Derived.Test.YtdednjeofolleaaDoorRows
import Derived.ProofKit
import Derived.OpenShut
import Derived.Carry
import Derived.LaidMore
namespace Go.Proofs.YtdednjeofolleaaDoor
open Go.RowKit Go.ChangeShapes Go.WideShapes
set_option linter.unusedVariables false

section
variable {H : Type} {enc : TypeId × Value → H} {w : World} {base : Nat} {spare : Nat → Bool} {held : Bool}
theorem cap_cells {fuel : Nat} {cs : List Value} {x : DataW H × List MemPlace} (h : DataW.trod enc Tryd.prog w base spare held fuel 23 cs = some x) : ∃ k r t l e a : Int, cs = [.int .i64 k, .int .i64 r, .int .i64 t, .int .i64 l, .int .i64 e, .int .i64 a] := by
  obtain ⟨xs, n, _, _, hl, hx, hf⟩ := DataW.trod_struct Tryd.underlying23 h
  have hc : Tryd.prog.cellsOf 23 = 6 := by kernel_rfl
  have hi : Tryd.prog.cellsOf 3 = 1 := by kernel_rfl
  rw [hc] at hl
  match cs, hl, xs, hx with
  | [v0, v1, v2, v3, v4, v5], _, [y0, y1, y2, y3, y4, y5], _ =>
    have g0 := hf 0 _ rfl
    have g1 := hf 1 _ rfl
    have g2 := hf 2 _ rfl
    have g3 := hf 3 _ rfl
    have g4 := hf 4 _ rfl
    have g5 := hf 5 _ rfl
    simp [hi] at g0 g1 g2 g3 g4 g5
    obtain ⟨a0, e0, _⟩ := DataW.trod_int Tryd.underlying3 g0
    obtain ⟨a1, e1, _⟩ := DataW.trod_int Tryd.underlying3 g1
    obtain ⟨a2, e2, _⟩ := DataW.trod_int Tryd.underlying3 g2
    obtain ⟨a3, e3, _⟩ := DataW.trod_int Tryd.underlying3 g3
    obtain ⟨a4, e4, _⟩ := DataW.trod_int Tryd.underlying3 g4
    obtain ⟨a5, e5, _⟩ := DataW.trod_int Tryd.underlying3 g5
    simp at e0 e1 e2 e3 e4 e5
    exact ⟨a0, a1, a2, a3, a4, a5, by rw [e0, e1, e2, e3, e4, e5]⟩
theorem cap_val {r : Reach} {b0 : Nat} {v : Value} {d : DataW H} {p : List MemPlace} (hv : Value.okWide Tryd.prog w r b0 23 v) (h : DataW.Trod enc Tryd.prog w base spare held 23 v d p) : ∃ k r t l e a : Int, v = .agg #[.int .i64 k, .int .i64 r, .int .i64 t, .int .i64 l, .int .i64 e, .int .i64 a] := by
  obtain ⟨cs, rfl, _⟩ := WideShapes.okWide_struct Tryd.underlying23 hv
  obtain ⟨fuel, hf⟩ := h
  obtain ⟨k, r, t, l, e, a, hk⟩ := cap_cells hf
  exact ⟨k, r, t, l, e, a, by simp only [Value.cells] at hk; rw [← Array.toArray_toList (xs := cs), hk]⟩
end

/-! ### the tables -/
theorem gTwid : (Tryd.prog.globals[(0 : Nat)]?).map (·.type) = some 48 := by kernel_rfl
theorem gTmost : (Tryd.prog.globals[(1 : Nat)]?).map (·.type) = some 60 := by kernel_rfl
theorem cellsInt : Tryd.prog.cellsOf 3 = 1 := by kernel_rfl
theorem cellsSix : Tryd.prog.cellsOf 46 = 6 := by kernel_rfl
theorem cellsMost : Tryd.prog.cellsOf 60 = 72 := by kernel_rfl
theorem cellsWide : Tryd.prog.cellsOf 48 = 5 := by kernel_rfl
/-- The cells of an array of integers are what its datum says. -/
theorem array_ints {w : World} {fuel n : Nat} {t : TypeId} {cs : List Value} {zs : List Int} {p : List MemPlace} (ht : Tryd.prog.underlying t = some (.array n 3)) (hn : Tryd.prog.cellsOf t = n)
    (h : DataW.trod (fun _ => ()) Tryd.prog w 0 (fun _ => true) false fuel t cs = some (.agg (zs.map fun z => .lit (.int .i64 z)), p)) : zs.length = n ∧ cs.length = n ∧ ∀ j, j < n → cs[j]? = some (.int .i64 (zs[j]?.getD 0)) := by
  obtain ⟨xs, m, _, hx, hl, hxl, hel⟩ := DataW.trod_array ht h
  simp only [Prod.mk.injEq, DataW.agg.injEq] at hx
  have hz : zs.length = n := by have := congrArg List.length hx.1; simpa [hxl] using this
  refine ⟨hz, hl.trans hn, fun j hj => ?_⟩
  have hj' := hel j hj
  have hxj : j < xs.length := by omega
  rw [List.getElem?_eq_getElem hxj, cellsInt, Nat.mul_one] at hj'
  obtain ⟨k, e1, e2, _⟩ := DataW.trod_int Tryd.underlying3 hj'
  have hjc : j < cs.length := by omega
  rw [List.drop_eq_getElem_cons hjc, List.take_succ_cons, List.take_zero, List.cons.injEq] at e1
  rw [List.getElem?_eq_getElem hjc, e1.1]
  have hh := congrArg (fun l => l[j]?) hx.1
  simp [hxj, show j < zs.length by omega] at hh
  rw [e2] at hh
  simp at hh
  simp [show j < zs.length by omega, hh]
theorem most_datum : (Rows.laid_palanquin_cap_most : DataW Unit) = .agg (mostL.map fun row => .agg (row.map fun z => .lit (.int .i64 z))) := rfl
theorem wid_datum : (Rows.laid_palanquin_cap_widths : DataW Unit) = .agg (ws.map fun z => .lit (.int .i64 z)) := rfl
theorem var_block {W : World} {n : String} {g : Nat} {cs : Array Value} (hg : Tryd.prog.globalNamed n = some g) (hv : W.var? Tryd.prog n = some cs) : ∃ t fr, W.heap[g]? = some (.cells cs t fr) := by
  simp only [World.var?, hg, Option.bind_some] at hv
  split at hv
  · rename_i c t fr hb
    simp only [Option.some.injEq] at hv
    subst hv
    exact ⟨t, fr, hb⟩
  · cases hv
theorem block_lt {W : World} {g : Nat} {o : Obj} (h : W.heap[g]? = some o) : g < W.heap.size := (Array.getElem?_eq_some_iff.1 h).1
theorem tabM_of {W : World} {g : Nat} {t : TypeId} {cs : Array Value} {fuel : Nat} {p : List MemPlace} {n : String} (hn : Tryd.prog.globalNamed n = some 1) (hg : Tryd.prog.globalNamed n = some g) (ht : (Tryd.prog.globals[g]?).map (·.type) = some t) (hv : W.var? Tryd.prog n = some cs)
    (hd : DataW.trod (fun _ => ()) Tryd.prog W 0 (fun _ => true) false fuel t cs.toList = some (Rows.laid_palanquin_cap_most, p)) : TabM W := by
  obtain rfl := Option.some.inj (hn.symm.trans hg)
  obtain rfl := Option.some.inj (gTmost.symm.trans ht)
  obtain ⟨t1, fr, hb⟩ := var_block hg hv
  refine ⟨block_lt hb, fun K j hK hj => ?_⟩
  rw [cell_of_row _ _ _ _ _ _ hb]
  rw [most_datum] at hd
  obtain ⟨xs, m, _, hx, hl, hxl, hel⟩ := DataW.trod_array Tryd.underlying60 hd
  simp only [Prod.mk.injEq, DataW.agg.injEq] at hx
  have hK' := hel K hK
  have hxK : K < xs.length := by omega
  have hmK : K < mostL.length := hK
  rw [List.getElem?_eq_getElem hxK, cellsSix] at hK'
  have hh := congrArg (fun l => l[K]?) hx.1
  simp only [List.getElem?_map, List.getElem?_eq_getElem hxK, List.getElem?_eq_getElem hmK, Option.map_some, Option.some.injEq] at hh
  obtain ⟨d, q⟩ : ∃ d : DataW Unit × List MemPlace, d = xs[K] := ⟨_, rfl⟩
  rw [← q] at hK' hh
  obtain ⟨d1, d2⟩ := d
  simp only at hh
  rw [← hh] at hK'
  obtain ⟨_, _, hc⟩ := array_ints Tryd.underlying46 cellsSix hK'
  have hcj := hc j hj
  rw [List.getElem?_take, if_pos hj, List.getElem?_drop] at hcj
  rw [← Array.getElem?_toList, hcj]
  unfold mostAt
  rw [List.getElem?_eq_getElem hmK, Option.getD_some]
theorem tabW_of {W : World} {g : Nat} {t : TypeId} {cs : Array Value} {fuel : Nat} {p : List MemPlace} {n : String} (hn : Tryd.prog.globalNamed n = some 0) (hg : Tryd.prog.globalNamed n = some g) (ht : (Tryd.prog.globals[g]?).map (·.type) = some t) (hv : W.var? Tryd.prog n = some cs)
    (hd : DataW.trod (fun _ => ()) Tryd.prog W 0 (fun _ => true) false fuel t cs.toList = some (Rows.laid_palanquin_cap_widths, p)) : TabW W := by
  obtain rfl := Option.some.inj (hn.symm.trans hg)
  obtain rfl := Option.some.inj (gTwid.symm.trans ht)
  obtain ⟨t1, fr, hb⟩ := var_block hg hv
  refine ⟨block_lt hb, t1, fr, ?_⟩
  rw [wid_datum] at hd
  obtain ⟨_, hl, hc⟩ := array_ints Tryd.underlying48 cellsWide hd
  obtain ⟨cl⟩ := cs
  simp only at hl hc hb
  match cl, hl with
  | [v0, v1, v2, v3, v4], _ =>
    have g0 := hc 0 (by omega)
    have g1 := hc 1 (by omega)
    have g2 := hc 2 (by omega)
    have g3 := hc 3 (by omega)
    have g4 := hc 4 (by omega)
    simp [ws] at g0 g1 g2 g3 g4
    rw [hb, g0, g1, g2, g3, g4]
/-- What the condition on the tables gives the walks. -/
theorem of_laid {W : World} (h : laidMetH Tryd.prog Rows.capTellsRow.laid W) : TabM W ∧ TabW W := by
  rw [MakeChecks.laidMetH_plain _ _ _ (by kernel_rfl)] at h
  obtain ⟨ps, ⟨g0, t0, cs0, f0, p0, q0, hg0, ht0, hv0, hd0, ⟨g1, t1, cs1, f1, p1, q1, hg1, ht1, hv1, hd1, _, _⟩, _⟩, _, _⟩ := h
  exact ⟨tabM_of (by kernel_rfl) hg1 ht1 hv1 hd1, tabW_of (by kernel_rfl) hg0 ht0 hv0 hd0⟩
theorem of_laid1 {W : World} (h : laidMetH Tryd.prog Rows.capUnderRow.laid W) : TabM W := by
  rw [MakeChecks.laidMetH_plain _ _ _ (by kernel_rfl)] at h
  obtain ⟨ps, ⟨g1, t1, cs1, f1, p1, q1, hg1, ht1, hv1, hd1, _, _⟩, _, _⟩ := h
  exact tabM_of (by kernel_rfl) hg1 ht1 hv1 hd1
end Go.Proofs.YtdednjeofolleaaDoor
