/- Frames of words that lie in one block, and what the calls of a memory make of them: plain definitions and lemmas; no program is named. -/
import Derived.Test.YtkodanflobclhaaDoorBasG
import Derived.Laws.CopyRow
import Derived.Deep.MidRow
import Derived.ChangeKeysEq
import Derived.Below
import Derived.Laws.CopyOwn
namespace Go.Proofs.YtkodanflobclhaaDoor.Pmem
open Go.Proofs.YtkodanflobclhaaDoor.Pbase
open Go.RowKit
set_option linter.unusedVariables false

/-- The cells of N frames of 36 words, the words told by frame and place. -/
def cellsM (N : Nat) (M : Nat → Nat → Int) : Array Value := (Array.range (N * 36)).map fun i => .int .u64 (M (i / 36) (i % 36))
theorem cellsM_size (N : Nat) (M : Nat → Nat → Int) : (cellsM N M).size = N * 36 := by simp [cellsM]
theorem cellsM_get {N : Nat} {M : Nat → Nat → Int} {i : Nat} (h : i < N * 36) : (cellsM N M)[i]? = some (.int .u64 (M (i / 36) (i % 36))) := by
  simp [cellsM, h]
theorem cellsM_at {N : Nat} {M : Nat → Nat → Int} {f a : Nat} (hf : f < N) (ha : a < 36) : (cellsM N M)[f * 36 + a]? = some (.int .u64 (M f a)) := by
  rw [cellsM_get (by omega), show (f * 36 + a) / 36 = f by omega, show (f * 36 + a) % 36 = a by omega]
theorem cellsM_congr {N : Nat} {M M' : Nat → Nat → Int} (h : ∀ f a, f < N → a < 36 → M f a = M' f a) : cellsM N M = cellsM N M' := by
  apply Array.ext_getElem?
  intro i
  by_cases hi : i < N * 36
  · rw [cellsM_get hi, cellsM_get hi, h _ _ (by omega) (by omega)]
  · simp [cellsM, hi]

/-- Is there such a frame; such a word? -/
def okF (N : Nat) (f : Int) : Bool := decide (0 ≤ f ∧ f < N)
def okW (N : Nat) (f a : Int) : Bool := okF N f && decide (0 ≤ a ∧ a < 36)
def errF (N : Nat) (f : Int) : Int := if okF N f then 0 else 1
def errW (N : Nat) (f a : Int) : Int := if okW N f a then 0 else 1
def errC (N : Nat) (f g : Int) : Int := if okF N f && okF N g then 0 else 1
/-- The word that is loaded. -/
def ldM (N : Nat) (M : Nat → Nat → Int) (f a : Int) : Int := if okW N f a then M f.toNat a.toNat else 0
/-- The words behind a store, a clear, a copy. -/
def stW (N : Nat) (M : Nat → Nat → Int) (f a : Int) (v : Int) : Nat → Nat → Int := if okW N f a then fun g b => if g = f.toNat ∧ b = a.toNat then v else M g b else M
def clM (N : Nat) (M : Nat → Nat → Int) (f : Int) : Nat → Nat → Int := if okF N f then fun g b => if g = f.toNat then 0 else M g b else M
def cpM (N : Nat) (M : Nat → Nat → Int) (f g : Int) : Nat → Nat → Int := if okF N f && okF N g then fun h b => if h = g.toNat then M f.toNat b else M h b else M
/-- The words of a frame. -/
def wdM (M : Nat → Nat → Int) (f : Nat) : List Int := (List.range 36).map (M f)
def sameM (N : Nat) (M : Nat → Nat → Int) (f g : Int) : Bool := okF N f && okF N g && (wdM M f.toNat == wdM M g.toNat)
theorem okF_yes {N : Nat} {f : Int} (h : okF N f = true) : 0 ≤ f ∧ f < N := by simpa [okF] using h
theorem okF_no {N : Nat} {f : Int} (h : okF N f = false) : ¬ (0 ≤ f ∧ f < N) := by simp [okF] at h; omega
theorem okF_nat {N f : Nat} (h : f < N) : okF N (f : Int) = true := by simp [okF]; omega
theorem wdM_get {M : Nat → Nat → Int} {f j : Nat} (h : j < 36) : (wdM M f)[j]? = some (M f j) := by simp [wdM, h]
theorem wdM_len (M : Nat → Nat → Int) (f : Nat) : (wdM M f).length = 36 := by simp [wdM]

/-- A memory of N frames lies behind the pointer to block p, its words in block b. -/
structure MemIs (w : World) (p b N : Nat) (M : Nat → Nat → Int) : Prop where
  head : w.heap[p]? = some (.cells #[.slice (some ⟨b, 0, none⟩) N N] 86 (0, 0))
  row : w.heap[b]? = some (.cells (cellsM N M) 118 (0, 0))
theorem MemIs.cell {w : World} {p b N : Nat} {M : Nat → Nat → Int} (h : MemIs w p b N M) : w.cell? ⟨p, 0, none⟩ = some (.slice (some ⟨b, 0, none⟩) N N) := by
  rw [cell_of_row w p 0 _ _ _ h.head]; rfl
theorem MemIs.word {w : World} {p b N : Nat} {M : Nat → Nat → Int} (h : MemIs w p b N M) {f a : Nat} (hf : f < N) (ha : a < 36) : w.cell? ⟨b, f * 36 + a, none⟩ = some (.int .u64 (M f a)) := by
  rw [cell_of_row w b _ _ _ _ h.row, cellsM_at hf ha]
theorem MemIs.free {w : World} {p b N : Nat} {M : Nat → Nat → Int} (h : MemIs w p b N M) (j : Nat) : w.frozen? ⟨b, j, none⟩ = false := frozen_of_row w b j _ _ h.row
theorem MemIs.ne {w : World} {p b N : Nat} {M : Nat → Nat → Int} (h : MemIs w p b N M) : p ≠ b := by
  rintro rfl
  have := h.head.symm.trans h.row
  simp at this
theorem MemIs.set {w : World} {p b N : Nat} {M : Nat → Nat → Int} (h : MemIs w p b N M) (M' : Nat → Nat → Int) : MemIs (w.setRow b (cellsM N M')) p b N M' :=
  ⟨by rw [setRow_other _ _ _ _ h.ne]; exact h.head, setRow_heap _ _ _ _ _ _ h.row⟩
theorem MemIs.on {w w' : World} {p b N : Nat} {M : Nat → Nat → Int} (h : MemIs w p b N M) (hp : w'.heap[p]? = w.heap[p]?) (hb : w'.heap[b]? = w.heap[b]?) : MemIs w' p b N M :=
  ⟨hp.trans h.head, hb.trans h.row⟩
theorem MemIs.below {w w' : World} {B p b N : Nat} {M : Nat → Nat → Int} (h : MemIs w p b N M) (hB : Below B w w') (hp : p < B) (hb : b < B) : MemIs w' p b N M :=
  h.on (hB.block p hp) (hB.block b hb)
theorem MemIs.lt {w : World} {p b N : Nat} {M : Nat → Nat → Int} (h : MemIs w p b N M) : p < w.heap.size ∧ b < w.heap.size :=
  ⟨(Array.getElem?_eq_some_iff.1 h.head).1, (Array.getElem?_eq_some_iff.1 h.row).1⟩
theorem MemIs.self {w : World} {p b N : Nat} {M : Nat → Nat → Int} (h : MemIs w p b N M) : w.setRow b (cellsM N M) = w := setRow_self _ _ _ _ _ h.row

/-- One word is stored. -/
theorem MemIs.store {w : World} {p b N : Nat} {M : Nat → Nat → Int} (h : MemIs w p b N M) {f a : Nat} (hf : f < N) (ha : a < 36) (v : Int) :
    w.setCell ⟨b, f * 36 + a, none⟩ (.int .u64 v) = w.setRow b (cellsM N (stW N M f a v)) := by
  rw [setCell_eq_setRow w b _ _ _ _ _ h.row]
  congr 1
  have hok : okW N (f : Int) (a : Int) = true := by simp [okW, okF]; omega
  apply Array.ext_getElem?
  intro i
  by_cases hi : i < N * 36
  · rw [cellsM_get hi, Array.getElem?_setIfInBounds]
    simp only [cellsM_size, cellsM_get hi, stW, hok, if_true, Int.toNat_natCast]
    by_cases e : f * 36 + a = i
    · subst e
      rw [if_pos rfl, if_pos hi, if_pos (by constructor <;> omega)]
    · rw [if_neg e, if_neg (by omega)]
  · simp [cellsM, hi]

/-- The cells of frame f. -/
def frameM (M : Nat → Nat → Int) (f : Nat) : List Value := (wdM M f).map (Value.int .u64)
theorem frameM_len (M : Nat → Nat → Int) (f : Nat) : (frameM M f).length = 36 := by simp [frameM, wdM]
theorem frameM_get {M : Nat → Nat → Int} {f j : Nat} (h : j < 36) : (frameM M f)[j]? = some (.int .u64 (M f j)) := by simp [frameM, wdM_get h]
theorem frameM_one (M : Nat → Nat → Int) (f : Nat) : ∀ v ∈ frameM M f, v.oneCell' = true := by
  intro v hv
  simp only [frameM, List.mem_map] at hv
  obtain ⟨x, _, rfl⟩ := hv
  rfl
theorem MemIs.range {w : World} {p b N : Nat} {M : Nat → Nat → Int} (h : MemIs w p b N M) {f : Nat} (hf : f < N) : w.rangeAt b (f * 36) (frameM M f) := by
  intro j v hv
  have hj : j < 36 := by have := (List.getElem?_eq_some_iff.1 hv).1; rwa [frameM_len] at this
  rw [h.word hf hj, ← hv, frameM_get hj]
/-- A whole frame is read. -/
theorem MemIs.load {P : Program} {w : World} {p b N : Nat} {M : Nat → Nat → Int} (h : MemIs w p b N M) {f : Nat} (hf : f < N) {ty : TypeId} {d : TypeDesc} (hu : P.underlying ty = some d) (hd : d.isRow = true) (hi : (P.info? ty).map (·.size) = some 36) :
    (loadVar ty ⟨b, f * 36, none⟩).run P w = .ok (.agg (frameM M f).toArray) w :=
  run_loadVar_mid w b (f * 36) ty (frameM M f) d (h.range hf) hu hd (by rw [frameM_len]; exact hi)
/-- A whole frame is written. -/
theorem MemIs.put {P : Program} {w : World} {p b N : Nat} {M : Nat → Nat → Int} (h : MemIs w p b N M) {f : Nat} (hf : f < N) {ty : TypeId} (hi : (P.info? ty).map (·.size) = some 36) (V : Nat → Nat → Int) (g : Nat) :
    (storeVar ty ⟨b, f * 36, none⟩ (.agg (frameM V g).toArray)).run P w = .ok () (w.setRow b (cellsM N fun h a => if h = f then V g a else M h a)) := by
  have hl : (frameM V g).length = 36 := frameM_len V g
  have hst := run_storeCells_at P b (f * 36) 118 (frameM V g) 0 (cellsM N M) w h.row (by rw [cellsM_size]; omega) (frameM_one V g)
  have hc : ((cellsM N M).toList.take (f * 36 + 0) ++ frameM V g ++ (cellsM N M).toList.drop (f * 36 + 0 + (frameM V g).length)).toArray = cellsM N fun h a => if h = f then V g a else M h a := by
    apply Array.ext_getElem?
    intro i
    rw [List.getElem?_toArray]
    by_cases hi : i < N * 36
    · rw [cellsM_get hi]
      by_cases h1 : i < f * 36
      · rw [List.append_assoc, List.getElem?_append_left (by simp [cellsM_size]; omega), List.getElem?_take, if_pos (by omega)]
        simp only [Array.getElem?_toList, cellsM_get hi]
        rw [if_neg (by omega)]
      · by_cases h2 : i < f * 36 + 36
        · rw [List.append_assoc, List.getElem?_append_right (by simp [cellsM_size]; omega)]
          have e : i - ((cellsM N M).toList.take (f * 36 + 0)).length = i % 36 := by simp [cellsM_size]; omega
          rw [e, List.getElem?_append_left (by rw [hl]; omega), frameM_get (by omega), if_pos (by omega)]
        · rw [List.getElem?_append_right (by simp [cellsM_size, hl]; omega)]
          rw [List.getElem?_drop]
          have e : f * 36 + 0 + (frameM V g).length + (i - (List.take (f * 36 + 0) (cellsM N M).toList ++ frameM V g).length) = i := by simp [cellsM_size, hl]; omega
          rw [e]
          simp only [Array.getElem?_toList, cellsM_get hi]
          rw [if_neg (by omega)]
    · rw [List.getElem?_eq_none (by simp [cellsM_size, hl]; omega)]
      simp [cellsM, hi]
  cases hq : P.info? ty with
  | none => simp [hq] at hi
  | some i =>
    have hs : i.size = 36 := by simpa [hq] using hi
    rw [hc] at hst
    simp [storeVar, sizeOf, typeInfo, hq, Value.cells, hs, hl, hst]

/-- A frame that is all 0. -/
theorem frame_zero (M : Nat → Nat → Int) (f : Nat) (h : ∀ a, M f a = 0) : frameM M f = List.replicate 36 (.int .u64 0) := by
  simp only [frameM, wdM, List.map_map]
  rw [List.eq_replicate_iff]
  exact ⟨by simp, fun v hv => by simp at hv; obtain ⟨a, _, rfl⟩ := hv; simp [h]⟩

/-- Two frames held against each other. -/
theorem run_eqItems_u64 {P : Program} {w : World} (d : Nat) {e : TypeId} (he : P.underlying e = some (.int .u64)) (hc : P.cellsOf e = 1) (A B : List Int) : ∀ (is : List Nat), (∀ i ∈ is, i < A.length ∧ i < B.length) →
    (Op.eqItems (d + 1) e (P.cellsOf e) (A.map (Value.int .u64)).toArray (B.map (Value.int .u64)).toArray is).run P w = .ok (is.all fun i => A[i]?.getD 0 == B[i]?.getD 0) w
  | [], _ => by simp [Op.eqItems]
  | i :: is, h => by
    obtain ⟨h1, h2⟩ := h i (by simp)
    have ih := run_eqItems_u64 (w := w) d he hc A B is (fun j hj => h j (by simp [hj]))
    have hp : ∀ (L : List Int), i < L.length → (part e (L.map (Value.int .u64)).toArray (i * P.cellsOf e)).run P w = .ok (.int .u64 (L[i]?.getD 0)) w := by
      intro L hL
      have hag : (isAgg e).run P w = .ok false w := by
        unfold isAgg
        rw [Sem.run_bind, run_underlying he w]
        simp
      simp [part, hag, hc, hL]
    simp only [Op.eqItems, Sem.run_bind, hp A h1, hp B h2, Result.andThen_ok, run_equalIn_int w d e .u64 .u64 _ _ he, List.all_cons]
    cases hx : (A[i]?.getD 0 == B[i]?.getD 0)
    · simp
    · simpa using ih
theorem run_eql_frames {P : Program} {w : World} {t e : TypeId} {n : Nat} {i : TypeInfo} (hu : P.underlying t = some (.array n e)) (hi : P.info? e = some i) (he : P.underlying e = some (.int .u64)) (hc : P.cellsOf e = 1) (M : Nat → Nat → Int) (f g : Nat) (hn : n = 36) :
    (binOp .eql t (.agg (frameM M f).toArray) (.agg (frameM M g).toArray)).run P w = .ok (.bool (wdM M f == wdM M g)) w := by
  rw [run_eql_struct, show (10000 : Nat) = 9998 + 1 + 1 from rfl, run_equalIn_array w _ _ _ hu hi, hn]
  unfold frameM
  rw [run_eqItems_u64 9998 he hc (wdM M f) (wdM M g) (List.range 36) (fun i hi => by simpa [wdM_len] using hi)]
  simp only [Result.andThen_ok]
  refine congrArg (fun x => Result.ok (Value.bool x) w) ?_
  rw [Bool.eq_iff_iff]
  simp only [List.all_eq_true, List.mem_range, beq_iff_eq]
  constructor
  · intro h
    apply List.ext_getElem?
    intro j
    by_cases hj : j < 36
    · have := h j hj
      rw [wdM_get hj, wdM_get hj] at this
      rw [wdM_get hj, wdM_get hj]
      exact congrArg some this
    · rw [List.getElem?_eq_none (by rw [wdM_len]; omega), List.getElem?_eq_none (by rw [wdM_len]; omega)]
  · intro h j _
    rw [h]

theorem MemIs.grown {w w' : World} {p b N : Nat} {M : Nat → Nat → Int} (h : MemIs w p b N M) (hB : Below w.heap.size w w') : MemIs w' p b N M := h.below hB h.lt.1 h.lt.2

end Go.Proofs.YtkodanflobclhaaDoor.Pmem
