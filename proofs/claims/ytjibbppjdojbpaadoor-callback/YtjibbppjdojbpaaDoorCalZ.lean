/- The tables of package call out of what a row's condition says of them; what the walks ask of the program, paid (written by mk_b.py). -/
import Derived.Test.YtjibbppjdojbpaaDoorCalB
import Derived.Test.YtjibbppjdojbpaaDoorCalP
import Derived.Test.YtjibbppjdojbpaaDoorBunBase
import Derived.Test.YtjibbppjdojbpaaDoorRows
import Derived.ProofKit
import Derived.OpenShut
import Derived.Carry
import Derived.LaidMore
namespace Go.Proofs.YtjibbppjdojbpaaDoor.Pcall
open Go.Proofs.YtjibbppjdojbpaaDoor.Pbase Go.Proofs.YtjibbppjdojbpaaDoor.Pfield
open Go.RowKit Go.ChangeShapes Go.WideShapes
set_option linter.unusedVariables false

theorem gTwid : (Tryd.prog.globals[(0 : Nat)]?).map (·.type) = some 47 := by kernel_rfl
theorem cellsWide : Tryd.prog.cellsOf 47 = 6 := by kernel_rfl
theorem wid_datum : /- 0 -/ (Rows.laid_palanquin_call_widths : DataW Unit) = .agg (wl.map fun z => .lit (.int .i64 z)) := rfl
theorem tabW_of {W : World} {g : Nat} {t : TypeId} {cs : Array Value} {fuel : Nat} {p : List MemPlace} {n : String} (hn : Tryd.prog.globalNamed n = some 0) (hg : Tryd.prog.globalNamed n = some g) (ht : (Tryd.prog.globals[g]?).map (·.type) = some t) (hv : W.var? Tryd.prog n = some cs)
    (hd : DataW.trod (fun _ => ()) Tryd.prog W 0 (fun _ => true) false fuel t cs.toList = some (Rows.laid_palanquin_call_widths, p)) : TabW W := by
  obtain rfl := Option.some.inj (hn.symm.trans hg)
  obtain rfl := Option.some.inj (gTwid.symm.trans ht)
  obtain ⟨t1, fr, hb⟩ := var_block hg hv
  refine ⟨block_lt hb, t1, fr, ?_⟩
  rw [wid_datum] at hd
  obtain ⟨_, hl, hc⟩ := array_ints Tryd.underlying47 cellsWide hd
  obtain ⟨cl⟩ := cs
  simp only at hl hc hb
  match cl, hl with
  | [v0, v1, v2, v3, v4, v5], _ =>
    have g0 := hc 0 (by omega)
    have g1 := hc 1 (by omega)
    have g2 := hc 2 (by omega)
    have g3 := hc 3 (by omega)
    have g4 := hc 4 (by omega)
    have g5 := hc 5 (by omega)
    simp [wl] at g0 g1 g2 g3 g4 g5
    rw [hb, g0, g1, g2, g3, g4, g5]
    rfl
theorem gTkin : (Tryd.prog.globals[(1 : Nat)]?).map (·.type) = some 74 := by kernel_rfl
theorem cellsKinds : Tryd.prog.cellsOf 74 = 60 := by kernel_rfl
theorem cellsKind : Tryd.prog.cellsOf 58 = 2 := by kernel_rfl
theorem cellsStr : Tryd.prog.cellsOf 9 = 1 := by kernel_rfl
theorem kin_datum : /- 1 -/ (Rows.laid_palanquin_call_kinds : DataW Unit) = .agg ((List.range 30).map fun k => .agg [.lit (.string (wsL[k]?.getD noT).data.toList), .lit (.int .i64 (ndL[k]?.getD 0))]) := by rfl
set_option maxRecDepth 100000 in
theorem knA_at : ∀ k : Nat, k < 30 → knA.toList[k * 2]? = some (.string (wsL[k]?.getD noT)) ∧ knA.toList[k * 2 + 1]? = some (.int .i64 (ndL[k]?.getD 0))
  | 0, _ => ⟨rfl, rfl⟩
  | 1, _ => ⟨rfl, rfl⟩
  | 2, _ => ⟨rfl, rfl⟩
  | 3, _ => ⟨rfl, rfl⟩
  | 4, _ => ⟨rfl, rfl⟩
  | 5, _ => ⟨rfl, rfl⟩
  | 6, _ => ⟨rfl, rfl⟩
  | 7, _ => ⟨rfl, rfl⟩
  | 8, _ => ⟨rfl, rfl⟩
  | 9, _ => ⟨rfl, rfl⟩
  | 10, _ => ⟨rfl, rfl⟩
  | 11, _ => ⟨rfl, rfl⟩
  | 12, _ => ⟨rfl, rfl⟩
  | 13, _ => ⟨rfl, rfl⟩
  | 14, _ => ⟨rfl, rfl⟩
  | 15, _ => ⟨rfl, rfl⟩
  | 16, _ => ⟨rfl, rfl⟩
  | 17, _ => ⟨rfl, rfl⟩
  | 18, _ => ⟨rfl, rfl⟩
  | 19, _ => ⟨rfl, rfl⟩
  | 20, _ => ⟨rfl, rfl⟩
  | 21, _ => ⟨rfl, rfl⟩
  | 22, _ => ⟨rfl, rfl⟩
  | 23, _ => ⟨rfl, rfl⟩
  | 24, _ => ⟨rfl, rfl⟩
  | 25, _ => ⟨rfl, rfl⟩
  | 26, _ => ⟨rfl, rfl⟩
  | 27, _ => ⟨rfl, rfl⟩
  | 28, _ => ⟨rfl, rfl⟩
  | 29, _ => ⟨rfl, rfl⟩
  | k + 30, h => absurd h (by omega)
/-- A kind's two cells. -/
theorem kind_cells {w : World} {fuel : Nat} {cs : List Value} {a : List UInt8} {b : Int} {p : List MemPlace} (h : DataW.trod (fun _ => ()) Tryd.prog w 0 (fun _ => true) false fuel 58 cs = some (.agg [.lit (.string a), .lit (.int .i64 b)], p)) : cs = [.string ⟨a.toArray⟩, .int .i64 b] := by
  obtain ⟨xs, n, _, hx, hl, hxl, hf⟩ := DataW.trod_struct Tryd.underlying58 h
  rw [cellsKind] at hl
  match cs, hl, xs, hxl with
  | [v0, v1], _, [y0, y1], _ =>
    have g0 := hf 0 _ rfl
    have g1 := hf 1 _ rfl
    simp [cellsStr] at g0
    simp [cellsInt] at g1
    obtain ⟨s, e0, f0, _⟩ := DataW.trod_string Tryd.underlying9 g0
    obtain ⟨m, e1, f1, _⟩ := DataW.trod_int Tryd.underlying3 g1
    simp [f0, f1] at hx
    obtain ⟨⟨hx0, hx1⟩, _⟩ := hx
    simp at e0 e1
    obtain ⟨⟨sl⟩⟩ := s
    simp at hx0
    rw [e0, e1, hx0, hx1]
theorem tabK_of {W : World} {g : Nat} {t : TypeId} {cs : Array Value} {fuel : Nat} {p : List MemPlace} {n : String} (hn : Tryd.prog.globalNamed n = some 1) (hg : Tryd.prog.globalNamed n = some g) (ht : (Tryd.prog.globals[g]?).map (·.type) = some t) (hv : W.var? Tryd.prog n = some cs)
    (hd : DataW.trod (fun _ => ()) Tryd.prog W 0 (fun _ => true) false fuel t cs.toList = some (Rows.laid_palanquin_call_kinds, p)) : TabK W := by
  obtain rfl := Option.some.inj (hn.symm.trans hg)
  obtain rfl := Option.some.inj (gTkin.symm.trans ht)
  obtain ⟨t1, fr, hb⟩ := var_block hg hv
  refine ⟨block_lt hb, t1, fr, ?_⟩
  rw [kin_datum] at hd
  obtain ⟨xs, m, _, hx, hl, hxl, hel⟩ := DataW.trod_array Tryd.underlying74 hd
  rw [cellsKinds] at hl
  simp only [Prod.mk.injEq, DataW.agg.injEq] at hx
  have hc : ∀ k, k < 30 → (cs.toList.drop (k * 2)).take 2 = [.string (wsL[k]?.getD noT), .int .i64 (ndL[k]?.getD 0)] := fun k hk => by
    have hj := hel k hk
    have hxj : k < xs.length := by omega
    rw [List.getElem?_eq_getElem hxj, cellsKind] at hj
    have hh := congrArg (fun l => l[k]?) hx.1
    simp [hxj, hk] at hh
    have hj' : DataW.trod (fun _ => ()) Tryd.prog W 0 (fun _ => true) false m 58 ((cs.toList.drop (k * 2)).take 2) = some (.agg [.lit (.string (wsL[k]?.getD noT).data.toList), .lit (.int .i64 (ndL[k]?.getD 0))], xs[k].2) := by
      rw [hj, show xs[k] = (xs[k].1, xs[k].2) from rfl, ← hh]
    exact kind_cells hj'
  have he : cs.toList = knA.toList := by
    refine List.ext_getElem? fun j => ?_
    by_cases hj : j < 60
    · obtain ⟨h1, h2⟩ := knA_at (j / 2) (by omega)
      have hk := hc (j / 2) (by omega)
      have q0 := congrArg (fun l => l[0]?) hk
      have q1 := congrArg (fun l => l[1]?) hk
      simp only [List.getElem?_take, List.getElem?_drop, List.getElem?_cons_zero, List.getElem?_cons_succ] at q0 q1
      rcases (show j = j / 2 * 2 ∨ j = j / 2 * 2 + 1 by omega) with h | h
      · rw [h, h1]
        simpa using q0
      · rw [h, h2]
        simpa using q1
    · rw [List.getElem?_eq_none (by omega), List.getElem?_eq_none (by show 60 ≤ j; omega)]
  rw [hb, show cs = knA from by rw [← Array.toArray_toList (xs := cs), he, Array.toArray_toList]]
/-- What the condition on the tables gives the walks. -/
theorem of_laid {W : World} (h : laidMetH Tryd.prog Rows.callTellsRow.laid W) : Tz W := by
  rw [MakeChecks.laidMetH_plain _ _ _ (by kernel_rfl)] at h
  obtain ⟨ps, ⟨g0, t0, cs0, f0, p0, q0, hg0, ht0, hv0, hd0, ⟨g1, t1, cs1, f1, p1, q1, hg1, ht1, hv1, hd1, _, _⟩, _⟩, _, _⟩ := h
  exact ⟨tabK_of (by kernel_rfl) hg1 ht1 hv1 hd1, tabW_of (by kernel_rfl) hg0 ht0 hv0 hd0⟩
theorem pc {w : World} (h : Tz w) : Pc w where
  check wc x hx hB := check_any x hx wc (h.on hB)
  put wc x hx hB := put_any x hx wc (h.on hB)
  get wc z hz hB := get_any z hz wc (h.on hB)
  needs wc n hB := needs_any n wc (h.on hB).k
  word wc n hB := word_any n wc (h.on hB).k
  number wc s hB := number_any s wc (h.on hB).k
end Go.Proofs.YtjibbppjdojbpaaDoor.Pcall
