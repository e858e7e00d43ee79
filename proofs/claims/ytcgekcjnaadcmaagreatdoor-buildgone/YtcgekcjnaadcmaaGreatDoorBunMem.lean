/- Texts on finished packages, joined. -/
import Derived.Test.YtcgekcjnaadcmaaGreatDoorBunBase
import Derived.Laws.CopyRow
import Derived.Deep.MidRow
import Derived.ChangeKeysEq
import Derived.Below
import Derived.Laws.CopyOwn
import Derived.Test.YtcgekcjnaadcmaaGreatDoorRows
import Derived.WalkKit
import Derived.ProofKit
import Derived.OpenShut
import Derived.Outline
import Derived.Deep.QuietTactic
import Derived.BigQuiet
import Derived.Deep.WholeRow
import Derived.Deep.LoopGhost
import Derived.BigRegion
import Derived.Deep.RegionHeld3

/- Frames of words that lie in one block, and what the calls of a memory make of them: plain definitions and lemmas; no program is named. -/
namespace Go.Proofs.YtcgekcjnaadcmaaGreatDoor.Pmem
open Go.Proofs.YtcgekcjnaadcmaaGreatDoor.Pbase
open Go.RowKit
set_option linter.unusedVariables false

/-- The cells of N frames of 36 words, the words told by frame and place. -/
def cellsM (N : Nat) (M : Nat → Nat → Int) : Array Value := (Array.range (N * 36)).map fun i => .int .u64 (M (i / 36) (i % 36))
theorem cellsM_size (N : Nat) (M : Nat → Nat → Int) : (cellsM N M).size = N * 36 := by simp [cellsM]
theorem cellsM_get {N : Nat} {M : Nat → Nat → Int} {i : Nat} (h : i < N * 36) : (cellsM N M)[i]? = some (.int .u64 (M (i / 36) (i % 36))) := by
  simp [cellsM, h]
theorem cellsM_at {N : Nat} {M : Nat → Nat → Int} {f a : Nat} (hf : f < N) (ha : a < 36) : (cellsM N M)[f * 36 + a]? = some (.int .u64 (M f a)) := by
  rw [cellsM_get (by omega), show (f * 36 + a) / 36 = f by omega, show (f * 36 + a) % 36 = a by omega]
theorem cellsM_congr {N : Nat} {M M' : Nat → Nat → Int} (h : ∀ f a, f < N → a < 36 → M f a = M' f a) : cellsM N M = cellsM N M' := by
  apply Array.ext_getElem?
  intro i
  by_cases hi : i < N * 36
  · rw [cellsM_get hi, cellsM_get hi, h _ _ (by omega) (by omega)]
  · simp [cellsM, hi]

/-- Is there such a frame; such a word? -/
def okF (N : Nat) (f : Int) : Bool := decide (0 ≤ f ∧ f < N)
def okW (N : Nat) (f a : Int) : Bool := okF N f && decide (0 ≤ a ∧ a < 36)
def errF (N : Nat) (f : Int) : Int := if okF N f then 0 else 1
def errW (N : Nat) (f a : Int) : Int := if okW N f a then 0 else 1
/-- The word that is loaded. -/
def ldM (N : Nat) (M : Nat → Nat → Int) (f a : Int) : Int := if okW N f a then M f.toNat a.toNat else 0
/-- The words behind a store, a clear, a copy. -/
def stW (N : Nat) (M : Nat → Nat → Int) (f a : Int) (v : Int) : Nat → Nat → Int := if okW N f a then fun g b => if g = f.toNat ∧ b = a.toNat then v else M g b else M
def clM (N : Nat) (M : Nat → Nat → Int) (f : Int) : Nat → Nat → Int := if okF N f then fun g b => if g = f.toNat then 0 else M g b else M
/-- The words of a frame. -/
def wdM (M : Nat → Nat → Int) (f : Nat) : List Int := (List.range 36).map (M f)
theorem okF_yes {N : Nat} {f : Int} (h : okF N f = true) : 0 ≤ f ∧ f < N := by simpa [okF] using h
theorem okF_no {N : Nat} {f : Int} (h : okF N f = false) : ¬ (0 ≤ f ∧ f < N) := by simp [okF] at h; omega
theorem okF_nat {N f : Nat} (h : f < N) : okF N (f : Int) = true := by simp [okF]; omega
theorem wdM_get {M : Nat → Nat → Int} {f j : Nat} (h : j < 36) : (wdM M f)[j]? = some (M f j) := by simp [wdM, h]
/-- A memory of N frames lies behind the pointer to block p, its words in block b. -/
structure MemIs (w : World) (p b N : Nat) (M : Nat → Nat → Int) : Prop where
  head : w.heap[p]? = some (.cells #[.slice (some ⟨b, 0, none⟩) N N] 219 (0, 0))
  row : w.heap[b]? = some (.cells (cellsM N M) 167 (0, 0))
theorem MemIs.cell {w : World} {p b N : Nat} {M : Nat → Nat → Int} (h : MemIs w p b N M) : w.cell? ⟨p, 0, none⟩ = some (.slice (some ⟨b, 0, none⟩) N N) := by
  rw [cell_of_row w p 0 _ _ _ h.head]; rfl
theorem MemIs.word {w : World} {p b N : Nat} {M : Nat → Nat → Int} (h : MemIs w p b N M) {f a : Nat} (hf : f < N) (ha : a < 36) : w.cell? ⟨b, f * 36 + a, none⟩ = some (.int .u64 (M f a)) := by
  rw [cell_of_row w b _ _ _ _ h.row, cellsM_at hf ha]
theorem MemIs.free {w : World} {p b N : Nat} {M : Nat → Nat → Int} (h : MemIs w p b N M) (j : Nat) : w.frozen? ⟨b, j, none⟩ = false := frozen_of_row w b j _ _ h.row
theorem MemIs.ne {w : World} {p b N : Nat} {M : Nat → Nat → Int} (h : MemIs w p b N M) : p ≠ b := by
  rintro rfl
  have := h.head.symm.trans h.row
  simp at this
theorem MemIs.set {w : World} {p b N : Nat} {M : Nat → Nat → Int} (h : MemIs w p b N M) (M' : Nat → Nat → Int) : MemIs (w.setRow b (cellsM N M')) p b N M' :=
  ⟨by rw [setRow_other _ _ _ _ h.ne]; exact h.head, setRow_heap _ _ _ _ _ _ h.row⟩
theorem MemIs.on {w w' : World} {p b N : Nat} {M : Nat → Nat → Int} (h : MemIs w p b N M) (hp : w'.heap[p]? = w.heap[p]?) (hb : w'.heap[b]? = w.heap[b]?) : MemIs w' p b N M :=
  ⟨hp.trans h.head, hb.trans h.row⟩
theorem MemIs.below {w w' : World} {B p b N : Nat} {M : Nat → Nat → Int} (h : MemIs w p b N M) (hB : Below B w w') (hp : p < B) (hb : b < B) : MemIs w' p b N M :=
  h.on (hB.block p hp) (hB.block b hb)
theorem MemIs.lt {w : World} {p b N : Nat} {M : Nat → Nat → Int} (h : MemIs w p b N M) : p < w.heap.size ∧ b < w.heap.size :=
  ⟨(Array.getElem?_eq_some_iff.1 h.head).1, (Array.getElem?_eq_some_iff.1 h.row).1⟩
theorem MemIs.self {w : World} {p b N : Nat} {M : Nat → Nat → Int} (h : MemIs w p b N M) : w.setRow b (cellsM N M) = w := setRow_self _ _ _ _ _ h.row

/-- One word is stored. -/
theorem MemIs.store {w : World} {p b N : Nat} {M : Nat → Nat → Int} (h : MemIs w p b N M) {f a : Nat} (hf : f < N) (ha : a < 36) (v : Int) :
    w.setCell ⟨b, f * 36 + a, none⟩ (.int .u64 v) = w.setRow b (cellsM N (stW N M f a v)) := by
  rw [setCell_eq_setRow w b _ _ _ _ _ h.row]
  congr 1
  have hok : okW N (f : Int) (a : Int) = true := by simp [okW, okF]; omega
  apply Array.ext_getElem?
  intro i
  by_cases hi : i < N * 36
  · rw [cellsM_get hi, Array.getElem?_setIfInBounds]
    simp only [cellsM_size, cellsM_get hi, stW, hok, if_true, Int.toNat_natCast]
    by_cases e : f * 36 + a = i
    · subst e
      rw [if_pos rfl, if_pos hi, if_pos (by constructor <;> omega)]
    · rw [if_neg e, if_neg (by omega)]
  · simp [cellsM, hi]

/-- The cells of frame f. -/
def frameM (M : Nat → Nat → Int) (f : Nat) : List Value := (wdM M f).map (Value.int .u64)
theorem frameM_len (M : Nat → Nat → Int) (f : Nat) : (frameM M f).length = 36 := by simp [frameM, wdM]
theorem frameM_get {M : Nat → Nat → Int} {f j : Nat} (h : j < 36) : (frameM M f)[j]? = some (.int .u64 (M f j)) := by simp [frameM, wdM_get h]
theorem frameM_one (M : Nat → Nat → Int) (f : Nat) : ∀ v ∈ frameM M f, v.oneCell' = true := by
  intro v hv
  simp only [frameM, List.mem_map] at hv
  obtain ⟨x, _, rfl⟩ := hv
  rfl
/-- A whole frame is written. -/
theorem MemIs.put {P : Program} {w : World} {p b N : Nat} {M : Nat → Nat → Int} (h : MemIs w p b N M) {f : Nat} (hf : f < N) {ty : TypeId} (hi : (P.info? ty).map (·.size) = some 36) (V : Nat → Nat → Int) (g : Nat) :
    (storeVar ty ⟨b, f * 36, none⟩ (.agg (frameM V g).toArray)).run P w = .ok () (w.setRow b (cellsM N fun h a => if h = f then V g a else M h a)) := by
  have hl : (frameM V g).length = 36 := frameM_len V g
  have hst := run_storeCells_at P b (f * 36) 167 (frameM V g) 0 (cellsM N M) w h.row (by rw [cellsM_size]; omega) (frameM_one V g)
  have hc : ((cellsM N M).toList.take (f * 36 + 0) ++ frameM V g ++ (cellsM N M).toList.drop (f * 36 + 0 + (frameM V g).length)).toArray = cellsM N fun h a => if h = f then V g a else M h a := by
    apply Array.ext_getElem?
    intro i
    rw [List.getElem?_toArray]
    by_cases hi : i < N * 36
    · rw [cellsM_get hi]
      by_cases h1 : i < f * 36
      · rw [List.append_assoc, List.getElem?_append_left (by simp [cellsM_size]; omega), List.getElem?_take, if_pos (by omega)]
        simp only [Array.getElem?_toList, cellsM_get hi]
        rw [if_neg (by omega)]
      · by_cases h2 : i < f * 36 + 36
        · rw [List.append_assoc, List.getElem?_append_right (by simp [cellsM_size]; omega)]
          have e : i - ((cellsM N M).toList.take (f * 36 + 0)).length = i % 36 := by simp [cellsM_size]; omega
          rw [e, List.getElem?_append_left (by rw [hl]; omega), frameM_get (by omega), if_pos (by omega)]
        · rw [List.getElem?_append_right (by simp [cellsM_size, hl]; omega)]
          rw [List.getElem?_drop]
          have e : f * 36 + 0 + (frameM V g).length + (i - (List.take (f * 36 + 0) (cellsM N M).toList ++ frameM V g).length) = i := by simp [cellsM_size, hl]; omega
          rw [e]
          simp only [Array.getElem?_toList, cellsM_get hi]
          rw [if_neg (by omega)]
    · rw [List.getElem?_eq_none (by simp [cellsM_size, hl]; omega)]
      simp [cellsM, hi]
  cases hq : P.info? ty with
  | none => simp [hq] at hi
  | some i =>
    have hs : i.size = 36 := by simpa [hq] using hi
    rw [hc] at hst
    simp [storeVar, sizeOf, typeInfo, hq, Value.cells, hs, hl, hst]

/-- A frame that is all 0. -/
theorem frame_zero (M : Nat → Nat → Int) (f : Nat) (h : ∀ a, M f a = 0) : frameM M f = List.replicate 36 (.int .u64 0) := by
  simp only [frameM, wdM, List.map_map]
  rw [List.eq_replicate_iff]
  exact ⟨by simp, fun v hv => by simp at hv; obtain ⟨a, _, rfl⟩ := hv; simp [h]⟩

/-- Two frames held against each other. -/
theorem run_eqItems_u64 {P : Program} {w : World} (d : Nat) {e : TypeId} (he : P.underlying e = some (.int .u64)) (hc : P.cellsOf e = 1) (A B : List Int) : ∀ (is : List Nat), (∀ i ∈ is, i < A.length ∧ i < B.length) →
    (Op.eqItems (d + 1) e (P.cellsOf e) (A.map (Value.int .u64)).toArray (B.map (Value.int .u64)).toArray is).run P w = .ok (is.all fun i => A[i]?.getD 0 == B[i]?.getD 0) w
  | [], _ => by simp [Op.eqItems]
  | i :: is, h => by
    obtain ⟨h1, h2⟩ := h i (by simp)
    have ih := run_eqItems_u64 (w := w) d he hc A B is (fun j hj => h j (by simp [hj]))
    have hp : ∀ (L : List Int), i < L.length → (part e (L.map (Value.int .u64)).toArray (i * P.cellsOf e)).run P w = .ok (.int .u64 (L[i]?.getD 0)) w := by
      intro L hL
      have hag : (isAgg e).run P w = .ok false w := by
        unfold isAgg
        rw [Sem.run_bind, run_underlying he w]
        simp
      simp [part, hag, hc, hL]
    simp only [Op.eqItems, Sem.run_bind, hp A h1, hp B h2, Result.andThen_ok, run_equalIn_int w d e .u64 .u64 _ _ he, List.all_cons]
    cases hx : (A[i]?.getD 0 == B[i]?.getD 0)
    · simp
    · simpa using ih
theorem MemIs.grown {w w' : World} {p b N : Nat} {M : Nat → Nat → Int} (h : MemIs w p b N M) (hB : Below w.heap.size w w') : MemIs w' p b N M := h.below hB h.lt.1 h.lt.2

end Go.Proofs.YtcgekcjnaadcmaaGreatDoor.Pmem

/- What each call of package mem answers, and what it does to the memory, for every argument that its types allow. -/
namespace Go.Proofs.YtcgekcjnaadcmaaGreatDoor.Pmem
open Go.Proofs.YtcgekcjnaadcmaaGreatDoor.Pbase
open Go.RowKit
set_option linter.unusedVariables false

theorem len_some (p b N : Nat) (w : World) (hN : N ≤ 64) (hp : w.cell? ⟨p, 0, none⟩ = some (.slice (some ⟨b, 0, none⟩) N N)) :
    Calls Tryz.prog 135 #[.pointer (some ⟨p, 0, none⟩)] w fun e w' => e = .returned (.int .i64 N) ∧ w' = w := by
  go_enter Tryz.func135, Tryz.ntmps135
  go_wp2
  go_ret
  exact ⟨rfl, rfl⟩
theorem frame_ok (p b N f : Nat) (w : World) (hf : f < N) (hN : N ≤ 64) (hp : w.cell? ⟨p, 0, none⟩ = some (.slice (some ⟨b, 0, none⟩) N N)) :
    Calls Tryz.prog 82 #[.pointer (some ⟨p, 0, none⟩), .int .i64 f] w fun e w' => e = .returned (.tuple #[.pointer (some ⟨b, f * 36, none⟩), .int .i64 0]) ∧ w' = w := by
  have hfi : (f : Int) < (N : Int) := by omega
  have h0 : ((N : Int) == 0) = false := by simp; omega
  go_enter Tryz.func82, Tryz.ntmps82
  go_wp2_with (go_at_call 135; refine (len_some p b N _ hN hp).mono ?_; rintro e w' ⟨rfl, rfl⟩)
  go_ret2
  exact ⟨rfl, rfl⟩
theorem frame_bad (p b N : Nat) (f : Int) (w : World) (hf : ¬ (0 ≤ f ∧ f < N)) (hN1 : 1 ≤ N) (hN : N ≤ 64) (hp : w.cell? ⟨p, 0, none⟩ = some (.slice (some ⟨b, 0, none⟩) N N)) :
    Calls Tryz.prog 82 #[.pointer (some ⟨p, 0, none⟩), .int .i64 f] w fun e w' => e = .returned (.tuple #[.pointer none, .int .i64 1]) ∧ w' = w := by
  have h0 : ((N : Int) == 0) = false := by simp; omega
  by_cases hn : f < 0
  · clear hf
    go_enter Tryz.func82, Tryz.ntmps82
    go_wp2_with (go_at_call 135; refine (len_some p b N _ hN hp).mono ?_; rintro e w' ⟨rfl, rfl⟩)
    go_ret2
    exact ⟨rfl, rfl⟩
  · have hge : (N : Int) ≤ f := by omega
    clear hf
    go_enter Tryz.func82, Tryz.ntmps82
    go_wp2_with (go_at_call 135; refine (len_some p b N _ hN hp).mono ?_; rintro e w' ⟨rfl, rfl⟩)
    go_ret2
    exact ⟨rfl, rfl⟩
theorem word_ok (p b N f a : Nat) (w : World) (hf : f < N) (ha : a < 36) (hN : N ≤ 64) (hp : w.cell? ⟨p, 0, none⟩ = some (.slice (some ⟨b, 0, none⟩) N N)) :
    Calls Tryz.prog 159 #[.pointer (some ⟨p, 0, none⟩), .int .i64 f, .int .i64 a] w fun e w' => e = .returned (.tuple #[.pointer (some ⟨b, f * 36 + a, none⟩), .int .i64 0]) ∧ w' = w := by
  have hai : (a : Int) < 36 := by omega
  go_enter Tryz.func159, Tryz.ntmps159
  go_wp2_with (go_at_call 82; refine (frame_ok p b N f _ hf hN hp).mono ?_; rintro e w' ⟨rfl, rfl⟩)
  go_ret2
  exact ⟨rfl, rfl⟩
theorem word_badA (p b N f : Nat) (a : Int) (w : World) (hf : f < N) (ha : ¬ (0 ≤ a ∧ a < 36)) (hN : N ≤ 64) (hp : w.cell? ⟨p, 0, none⟩ = some (.slice (some ⟨b, 0, none⟩) N N)) :
    Calls Tryz.prog 159 #[.pointer (some ⟨p, 0, none⟩), .int .i64 f, .int .i64 a] w fun e w' => e = .returned (.tuple #[.pointer none, .int .i64 1]) ∧ w' = w := by
  by_cases hn : a < 0
  · clear ha
    go_enter Tryz.func159, Tryz.ntmps159
    go_wp2_with (go_at_call 82; refine (frame_ok p b N f _ hf hN hp).mono ?_; rintro e w' ⟨rfl, rfl⟩)
    go_ret2
    exact ⟨rfl, rfl⟩
  · have hge : 36 ≤ a := by omega
    clear ha
    go_enter Tryz.func159, Tryz.ntmps159
    go_wp2_with (go_at_call 82; refine (frame_ok p b N f _ hf hN hp).mono ?_; rintro e w' ⟨rfl, rfl⟩)
    go_ret2
    exact ⟨rfl, rfl⟩
theorem word_badF (p b N : Nat) (f a : Int) (w : World) (hf : ¬ (0 ≤ f ∧ f < N)) (hN1 : 1 ≤ N) (hN : N ≤ 64) (hp : w.cell? ⟨p, 0, none⟩ = some (.slice (some ⟨b, 0, none⟩) N N)) :
    Calls Tryz.prog 159 #[.pointer (some ⟨p, 0, none⟩), .int .i64 f, .int .i64 a] w fun e w' => e = .returned (.tuple #[.pointer none, .int .i64 1]) ∧ w' = w := by
  have HF : Hid (¬ (0 ≤ f ∧ f < N)) := hf
  clear hf
  go_enter Tryz.func159, Tryz.ntmps159
  go_wp2_with (go_at_call 82; refine (frame_bad p b N f _ HF.out hN1 hN hp).mono ?_; rintro e w' ⟨rfl, rfl⟩)
  go_ret2
  exact ⟨rfl, rfl⟩
/-- No such word: whichever of the two numbers is wrong. -/
theorem word_bad (p b N : Nat) (f a : Int) (w : World) (hf : okW N f a = false) (hN1 : 1 ≤ N) (hN : N ≤ 64) (hp : w.cell? ⟨p, 0, none⟩ = some (.slice (some ⟨b, 0, none⟩) N N)) :
    Calls Tryz.prog 159 #[.pointer (some ⟨p, 0, none⟩), .int .i64 f, .int .i64 a] w fun e w' => e = .returned (.tuple #[.pointer none, .int .i64 1]) ∧ w' = w := by
  by_cases h : 0 ≤ f ∧ f < N
  · obtain ⟨n, rfl⟩ := Int.eq_ofNat_of_zero_le h.1
    exact word_badA p b N n a w (by omega) (by simp [okW, okF, h] at hf; omega) hN hp
  · exact word_badF p b N f a w h hN1 hN hp

theorem load_ok (p b N f a : Nat) (M : Nat → Nat → Int) (w : World) (hf : f < N) (ha : a < 36) (hN : N ≤ 64) (hM : MemIs w p b N M) :
    Calls Tryz.prog 118 #[.pointer (some ⟨p, 0, none⟩), .int .i64 f, .int .i64 a] w fun e w' => e = .returned (.tuple #[.int .u64 (M f a), .int .i64 0]) ∧ w' = w := by
  have hp := hM.cell
  have hc := hM.word hf ha
  obtain ⟨m, hm⟩ : ∃ m, m = M f a := ⟨_, rfl⟩
  rw [← hm] at hc ⊢
  clear hm hM
  go_enter Tryz.func118, Tryz.ntmps118
  go_wp2_with (go_at_call 159; refine (word_ok p b N f a _ hf ha hN hp).mono ?_; rintro e w' ⟨rfl, rfl⟩)
  go_ret2
  exact ⟨rfl, rfl⟩
theorem load_bad (p b N : Nat) (f a : Int) (w : World) (hf : okW N f a = false) (hN1 : 1 ≤ N) (hN : N ≤ 64) (hp : w.cell? ⟨p, 0, none⟩ = some (.slice (some ⟨b, 0, none⟩) N N)) :
    Calls Tryz.prog 118 #[.pointer (some ⟨p, 0, none⟩), .int .i64 f, .int .i64 a] w fun e w' => e = .returned (.tuple #[.int .u64 0, .int .i64 1]) ∧ w' = w := by
  go_enter Tryz.func118, Tryz.ntmps118
  go_wp2_with (go_at_call 159; refine (word_bad p b N f a _ hf hN1 hN hp).mono ?_; rintro e w' ⟨rfl, rfl⟩)
  go_ret2
  exact ⟨rfl, rfl⟩
theorem store_ok (p b N f a : Nat) (v : Int) (M : Nat → Nat → Int) (w : World) (hf : f < N) (ha : a < 36) (hN : N ≤ 64) (hM : MemIs w p b N M) :
    Calls Tryz.prog 146 #[.pointer (some ⟨p, 0, none⟩), .int .i64 f, .int .i64 a, .int .u64 v] w fun e w' => e = .returned (.int .i64 0) ∧ w' = w.setCell ⟨b, f * 36 + a, none⟩ (.int .u64 v) := by
  have hp := hM.cell
  have hc := hM.word hf ha
  have hz := hM.free (f * 36 + a)
  clear hM
  go_enter Tryz.func146, Tryz.ntmps146
  go_wp2_with (go_at_call 159; refine (word_ok p b N f a _ hf ha hN hp).mono ?_; rintro e w' ⟨rfl, rfl⟩)
  go_ret
  exact ⟨rfl, rfl⟩
theorem store_bad (p b N : Nat) (f a : Int) (v : Int) (w : World) (hf : okW N f a = false) (hN1 : 1 ≤ N) (hN : N ≤ 64) (hp : w.cell? ⟨p, 0, none⟩ = some (.slice (some ⟨b, 0, none⟩) N N)) :
    Calls Tryz.prog 146 #[.pointer (some ⟨p, 0, none⟩), .int .i64 f, .int .i64 a, .int .u64 v] w fun e w' => e = .returned (.int .i64 1) ∧ w' = w := by
  go_enter Tryz.func146, Tryz.ntmps146
  go_wp2_with (go_at_call 159; refine (word_bad p b N f a _ hf hN1 hN hp).mono ?_; rintro e w' ⟨rfl, rfl⟩)
  go_ret
  exact ⟨rfl, rfl⟩
/-! ### One contract a call, whatever the arguments -/
theorem okW_split {N : Nat} {f a : Int} (h : okW N f a = true) : ∃ g c : Nat, f = g ∧ a = c ∧ g < N ∧ c < 36 := by
  simp [okW, okF] at h
  exact ⟨f.toNat, a.toNat, by omega, by omega, by omega, by omega⟩
theorem okF_split {N : Nat} {f : Int} (h : okF N f = true) : ∃ g : Nat, f = g ∧ g < N := by
  simp [okF] at h
  exact ⟨f.toNat, by omega, by omega⟩
theorem load_any (p b N : Nat) (f a : Int) (M : Nat → Nat → Int) (w : World) (hN1 : 1 ≤ N) (hN : N ≤ 64) (hM : MemIs w p b N M) :
    Calls Tryz.prog 118 #[.pointer (some ⟨p, 0, none⟩), .int .i64 f, .int .i64 a] w fun e w' => e = .returned (.tuple #[.int .u64 (ldM N M f a), .int .i64 (errW N f a)]) ∧ w' = w := by
  cases h : okW N f a
  · simp only [ldM, errW, h, Bool.false_eq_true, if_false]
    exact load_bad p b N f a w h hN1 hN hM.cell
  · simp only [ldM, errW, h, if_true]
    obtain ⟨g, c, rfl, rfl, hg, hc⟩ := okW_split h
    exact load_ok p b N g c M w hg hc hN hM
theorem store_any (p b N : Nat) (f a v : Int) (M : Nat → Nat → Int) (w : World) (hN1 : 1 ≤ N) (hN : N ≤ 64) (hM : MemIs w p b N M) :
    Calls Tryz.prog 146 #[.pointer (some ⟨p, 0, none⟩), .int .i64 f, .int .i64 a, .int .u64 v] w fun e w' => e = .returned (.int .i64 (errW N f a)) ∧ w' = w.setRow b (cellsM N (stW N M f a v)) := by
  cases h : okW N f a
  · simp only [stW, errW, h, Bool.false_eq_true, if_false, hM.self]
    exact store_bad p b N f a v w h hN1 hN hM.cell
  · obtain ⟨g, c, rfl, rfl, hg, hc⟩ := okW_split h
    rw [← hM.store hg hc]
    simp only [errW, h, if_true]
    exact store_ok p b N g c v M w hg hc hN hM

end Go.Proofs.YtcgekcjnaadcmaaGreatDoor.Pmem

/- What New and the calls on whole frames of package mem answer, and what they do to the memory, for every argument that their types allow. -/
namespace Go.Proofs.YtcgekcjnaadcmaaGreatDoor.Pmem
open Go.Proofs.YtcgekcjnaadcmaaGreatDoor.Pbase
open Go.RowKit
set_option linter.unusedVariables false

theorem infoFrame : (Tryz.prog.info? 167).map (fun i => (i.zero, i.size, i.bytes)) = some (some (.agg (Array.replicate 36 (.int .u64 0))), 36, 288) := by kernel_rfl
theorem infoWordM : (Tryz.prog.info? 104).map (fun i => (i.zero, i.size, i.bytes)) = some (some (.int .u64 0), 1, 8) := by kernel_rfl
theorem sizeFrame : (Tryz.prog.info? 167).map (·.size) = some 36 := by kernel_rfl
theorem builtFrame : Tryz.prog.built 167 [] = some (Array.replicate 36 (.int .u64 0)) := by kernel_rfl

theorem made_frames (N : Nat) : madeCells (Array.replicate 36 (.int .u64 0)) (N * 36) = cellsM N fun _ _ => 0 := by
  apply Array.ext_getElem?
  intro i
  by_cases hi : i < N * 36
  · rw [cellsM_get hi]
    have h36 : i % 36 < 36 := by omega
    simp [madeCells, hi, h36]
  · simp [madeCells, cellsM, hi]
theorem make_frames (N : Nat) (hN : N ≤ 64) (w : World) :
    (Instr.makeSlice 217 (.int .i64 N) (.int .i64 N)).run Tryz.prog w = .ok (.slice (some ⟨w.heap.size, 0, none⟩) N N) (w.alloc (.cells (cellsM N fun _ _ => 0) 167)) := by
  obtain ⟨i0, hi, hz0, hz1, hz2⟩ := info_parts infoFrame
  have := run_make (P := Tryz.prog) w 217 167 i0 _ Tryz.underlying217 hi hz0 .i64 .i64 N N (by omega) (by omega) (by rw [hz2]; omega) (by omega)
  rw [hz1] at this
  simpa [Value.cells, made_frames] using this
/-- The world behind New. -/
def newW (w : World) (N : Nat) : World := (w.alloc (.cells (cellsM N fun _ _ => 0) 167)).alloc (.cells #[.slice (some ⟨w.heap.size, 0, none⟩) N N] 219)
theorem newW_is (w : World) (N : Nat) : MemIs (newW w N) (w.heap.size + 1) w.heap.size N fun _ _ => 0 := ⟨heap_alloc2_new _ _ _, heap_alloc2_old _ _ _⟩
theorem newW_below (w : World) (N : Nat) : Below w.heap.size w (newW w N) := ((Below.refl _ w).alloc (Nat.le_refl _) _).alloc (by simp) _
theorem new_ok (N : Nat) (w : World) (hN1 : 1 ≤ N) (hN : N ≤ 64) :
    Calls Tryz.prog 61 #[.int .i64 N] w fun e w' => e = .returned (.tuple #[.pointer (some ⟨w.heap.size + 1, 0, none⟩), .int .i64 0]) ∧ w' = newW w N := by
  have hmk := make_frames N hN
  have h1 : (1 : Int) ≤ N := by omega
  have h2 : (N : Int) ≤ 64 := by omega
  unfold newW
  go_enter Tryz.func61, Tryz.ntmps61
  go_wp2
  go_ret2
  exact ⟨rfl, rfl⟩
/-! ### Whole frames: the laws at an operation -/
theorem wpList_build_cells {P : Program} {ops : Array Oper} {rest : List Oper} {o : Oper} {a : Act} {w : World} {Q : Exit → Act → World → Prop} (hg : o.guard = none) (t : TypeId) (ho : o.op = .build t #[])
    (cells : Array Value) (hb : P.built t [] = some cells) (h : wpList P ops Q rest (a.put o.dst (.agg cells)) w) : wpList P ops Q (o :: rest) a w := by
  refine wpList_plain hg fun K hK => ?_
  unfold Oper.wp execOp
  simp only [ho, Sem.run_bind, List.map_toArray, List.map_nil, run_build w t #[] cells hb, Result.andThen_ok]
  exact hK _ _ h
theorem wpList_store_run {P : Program} {ops : Array Oper} {rest : List Oper} {o : Oper} {a : Act} {w : World} {Q : Exit → Act → World → Prop} (hg : o.guard = none) (ty : TypeId) (x y : Operand) (ho : o.op = .store ty x y)
    (ad : Addr) (hx : a.eval x = .pointer (some ad)) (v : Value) (hy : a.eval y = v) (w' : World) (hrun : (storeVar ty ad v).run P w = .ok () w') (h : wpList P ops Q rest (a.put o.dst undef) w') : wpList P ops Q (o :: rest) a w := by
  refine wpList_plain hg fun K hK => ?_
  unfold Oper.wp execOp
  simp only [ho, hx, hy, Instr.storeAt, Instr.sureAddr, Sem.run_bind, Sem.run_pure, Result.andThen_ok, hrun]
  exact hK _ _ h

theorem zeroFrame : Tryz.prog.built 167 [] = some (frameM (fun _ _ => 0) 0).toArray := by rw [frame_zero _ _ (fun _ => rfl)]; exact builtFrame
theorem clear_ok (p b N f : Nat) (M : Nat → Nat → Int) (w : World) (hf : f < N) (hN : N ≤ 64) (hM : MemIs w p b N M) :
    Calls Tryz.prog 26 #[.pointer (some ⟨p, 0, none⟩), .int .i64 f] w fun e w' => e = .returned (.int .i64 0) ∧ w' = w.setRow b (cellsM N fun h a => if h = f then 0 else M h a) := by
  have hp := hM.cell
  have hput := hM.put (P := Tryz.prog) hf (ty := 167) sizeFrame (fun _ _ => 0) 0
  obtain ⟨W, hW⟩ : ∃ W, W = w.setRow b (cellsM N fun h a => if h = f then 0 else M h a) := ⟨_, rfl⟩
  have hz := zeroFrame
  obtain ⟨Z, hZ⟩ : ∃ Z, Z = (frameM (fun _ _ => 0) 0).toArray := ⟨_, rfl⟩
  rw [← hW] at hput ⊢
  rw [← hZ] at hput hz
  clear hM hW hZ
  have HP : Hid ((storeVar 167 ⟨b, f * 36, none⟩ (.agg Z)).run Tryz.prog w = .ok () W) := hput
  have HZ : Hid (Tryz.prog.built 167 [] = some Z) := hz
  clear hput hz
  go_enter Tryz.func26, Tryz.ntmps26
  go_wp2_with (first
    | (go_at_call 82; refine (frame_ok p b N f _ hf hN hp).mono ?_; rintro e w' ⟨rfl, rfl⟩)
    | (refine wpList_build_cells rfl 167 rfl Z HZ.out ?_)
    | (refine wpList_store_run rfl 167 (.tmp 18) (.tmp 17) rfl ⟨b, f * 36, none⟩ rfl (.agg Z) rfl W HP.out ?_))
  go_ret
  exact ⟨rfl, rfl⟩
theorem clear_bad (p b N : Nat) (f : Int) (w : World) (hf : ¬ (0 ≤ f ∧ f < N)) (hN1 : 1 ≤ N) (hN : N ≤ 64) (hp : w.cell? ⟨p, 0, none⟩ = some (.slice (some ⟨b, 0, none⟩) N N)) :
    Calls Tryz.prog 26 #[.pointer (some ⟨p, 0, none⟩), .int .i64 f] w fun e w' => e = .returned (.int .i64 1) ∧ w' = w := by
  have HF : Hid (¬ (0 ≤ f ∧ f < N)) := hf
  clear hf
  go_enter Tryz.func26, Tryz.ntmps26
  go_wp2_with (go_at_call 82; refine (frame_bad p b N f _ HF.out hN1 hN hp).mono ?_; rintro e w' ⟨rfl, rfl⟩)
  go_ret
  exact ⟨rfl, rfl⟩
theorem clear_any (p b N : Nat) (f : Int) (M : Nat → Nat → Int) (w : World) (hN1 : 1 ≤ N) (hN : N ≤ 64) (hM : MemIs w p b N M) :
    Calls Tryz.prog 26 #[.pointer (some ⟨p, 0, none⟩), .int .i64 f] w fun e w' => e = .returned (.int .i64 (errF N f)) ∧ w' = w.setRow b (cellsM N (clM N M f)) := by
  cases h : okF N f
  · simp only [clM, errF, h, Bool.false_eq_true, if_false, hM.self]
    exact clear_bad p b N f w (okF_no h) hN1 hN hM.cell
  · obtain ⟨g, rfl, hg⟩ := okF_split h
    simp only [clM, errF, h, if_true, Int.toNat_natCast]
    exact clear_ok p b N g M w hg hN hM

/-! ### Copy -/
end Go.Proofs.YtcgekcjnaadcmaaGreatDoor.Pmem

/- What Same of package mem answers, for every argument that its types allow. -/
namespace Go.Proofs.YtcgekcjnaadcmaaGreatDoor.Pmem
open Go.Proofs.YtcgekcjnaadcmaaGreatDoor.Pbase
open Go.RowKit
set_option linter.unusedVariables false

/-! ### Same -/
theorem infoWordM' : ∃ i, Tryz.prog.info? 104 = some i := by
  obtain ⟨i, hi, _⟩ := info_parts infoWordM
  exact ⟨i, hi⟩
end Go.Proofs.YtcgekcjnaadcmaaGreatDoor.Pmem

/- What Words of package mem answers, for every argument that its types allow; and that the program computes at all. -/
namespace Go.Proofs.YtcgekcjnaadcmaaGreatDoor.Pmem
open Go.Proofs.YtcgekcjnaadcmaaGreatDoor.Pbase
open Go.RowKit
set_option linter.unusedVariables false

end Go.Proofs.YtcgekcjnaadcmaaGreatDoor.Pmem

/- A list of lists of words that the call itself made; and what the statements' own comparison of two lists answers. -/
namespace Go.Proofs.YtcgekcjnaadcmaaGreatDoor.Pmem
open Go.Proofs.YtcgekcjnaadcmaaGreatDoor.Pbase
open Go.RowKit
set_option linter.unusedVariables false

end Go.Proofs.YtcgekcjnaadcmaaGreatDoor.Pmem

/- The document's own memory (a list of lists): what each of its calls answers and does, for every argument; its New stands in a text of its own. -/
namespace Go.Proofs.YtcgekcjnaadcmaaGreatDoor.Pmem
open Go.Proofs.YtcgekcjnaadcmaaGreatDoor.Pbase
open Go.RowKit
set_option linter.unusedVariables false

/-! ### The calls -/
end Go.Proofs.YtcgekcjnaadcmaaGreatDoor.Pmem

/- The document's memory: what Load, Store, Clear and Same answer and do, for every argument. -/
namespace Go.Proofs.YtcgekcjnaadcmaaGreatDoor.Pmem
open Go.Proofs.YtcgekcjnaadcmaaGreatDoor.Pbase
open Go.RowKit
set_option linter.unusedVariables false

/-! ### Store -/
/-! ### Clear -/
end Go.Proofs.YtcgekcjnaadcmaaGreatDoor.Pmem

/- The document's memory: what Clear, Copy, Same and Words answer and do, for every argument. -/
namespace Go.Proofs.YtcgekcjnaadcmaaGreatDoor.Pmem
open Go.Proofs.YtcgekcjnaadcmaaGreatDoor.Pbase
open Go.RowKit
set_option linter.unusedVariables false

/-! ### Same -/
end Go.Proofs.YtcgekcjnaadcmaaGreatDoor.Pmem

/- The document's memory: what Copy and Words answer and do, for every argument. -/
namespace Go.Proofs.YtcgekcjnaadcmaaGreatDoor.Pmem
open Go.Proofs.YtcgekcjnaadcmaaGreatDoor.Pbase
open Go.RowKit
set_option linter.unusedVariables false

/-! ### Words -/
end Go.Proofs.YtcgekcjnaadcmaaGreatDoor.Pmem

/- The document's memory: what its New answers and makes, for every argument. -/
namespace Go.Proofs.YtcgekcjnaadcmaaGreatDoor.Pmem
open Go.Proofs.YtcgekcjnaadcmaaGreatDoor.Pbase
open Go.RowKit
set_option linter.unusedVariables false

end Go.Proofs.YtcgekcjnaadcmaaGreatDoor.Pmem

/- Words of both memories, and their comparison, each by one contract for every argument. -/
namespace Go.Proofs.YtcgekcjnaadcmaaGreatDoor.Pmem
open Go.Proofs.YtcgekcjnaadcmaaGreatDoor.Pbase
open Go.RowKit
set_option linter.unusedVariables false

end Go.Proofs.YtcgekcjnaadcmaaGreatDoor.Pmem

/- The document's memory: what Store and Clear write is a block of words: blocks of other Go types stay as they were. -/
namespace Go.Proofs.YtcgekcjnaadcmaaGreatDoor.Pmem
open Go.Proofs.YtcgekcjnaadcmaaGreatDoor.Pbase
open Go.RowKit
set_option linter.unusedVariables false

end Go.Proofs.YtcgekcjnaadcmaaGreatDoor.Pmem

/- A slice of integers that came in: see BasI. -/

/- Two memories side by side, as the statements lay them; and their comparison. -/
namespace Go.Proofs.YtcgekcjnaadcmaaGreatDoor.Pmem
open Go.Proofs.YtcgekcjnaadcmaaGreatDoor.Pbase
open Go.RowKit
set_option linter.unusedVariables false

/-- All words are words. -/
def Fit (M : Nat → Nat → Int) : Prop := ∀ f a, 0 ≤ M f a ∧ M f a ≤ 18446744073709551615
theorem Fit.zero : Fit fun _ _ => 0 := fun _ _ => ⟨Int.le_refl _, by show (0 : Int) ≤ _; decide⟩
theorem Fit.st {M : Nat → Nat → Int} (h : Fit M) (N : Nat) (f a v : Int) (hv : 0 ≤ v ∧ v ≤ 18446744073709551615) : Fit (stW N M f a v) := by
  intro g b
  unfold stW
  split
  · dsimp only
    split
    · exact hv
    · exact h g b
  · exact h g b
theorem Fit.cl {M : Nat → Nat → Int} (h : Fit M) (N : Nat) (f : Int) : Fit (clM N M f) := by
  intro g b
  unfold clM
  split
  · dsimp only
    split
    · omega
    · exact h g b
  · exact h g b
/-! ### alike -/
end Go.Proofs.YtcgekcjnaadcmaaGreatDoor.Pmem
