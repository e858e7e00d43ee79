/- A clock of four cores with three arrays of the call's own beside it: plain lemmas; no program is named. -/
import Derived.Test.YtmnjlckniaociaaClkH
namespace Go.Proofs.Ytmnjlckniaociaa
open Go.RowKit
set_option linter.unusedVariables false

def row4 (g : Nat → Int) : Array Value := #[.int .i64 (g 0), .int .i64 (g 1), .int .i64 (g 2), .int .i64 (g 3)]
theorem row4_get (g : Nat → Int) {i : Nat} (h : i < 4) : (row4 g)[i]? = some (.int .i64 (g i)) := by
  match i, h with
  | 0, _ => rfl
  | 1, _ => rfl
  | 2, _ => rfl
  | 3, _ => rfl
theorem row4_set (g : Nat → Int) {m : Nat} (h : m < 4) (v : Int) : (row4 g).setIfInBounds m (.int .i64 v) = row4 fun i => if i = m then v else g i := by
  match m, h with
  | 0, _ => rfl
  | 1, _ => rfl
  | 2, _ => rfl
  | 3, _ => rfl
/-- The clock lies behind block B, the arrays in the blocks A, A + 1, A + 2; what lay below B is as it was. -/
structure St (w wi : World) (B A : Nat) (s : CS) (g1 g2 g3 : Nat → Int) : Prop where
  clock : ClockIs wi B 4 s
  r1 : wi.heap[A]? = some (.cells (row4 g1) 47 (0, 0))
  r2 : wi.heap[A + 1]? = some (.cells (row4 g2) 47 (0, 0))
  r3 : wi.heap[A + 2]? = some (.cells (row4 g3) 47 (0, 0))
  below : Below B w wi
  lt : B < A
theorem St.size {w wi : World} {B A : Nat} {s : CS} {g1 g2 g3 : Nat → Int} (h : St w wi B A s g1 g2 g3) : A + 2 < wi.heap.size := (Array.getElem?_eq_some_iff.1 h.r3).1
theorem St.more {w wi w' : World} {B A : Nat} {s : CS} {g1 g2 g3 : Nat → Int} (h : St w wi B A s g1 g2 g3) (m : More wi w') : St w w' B A s g1 g2 g3 := by
  have hs := h.size
  have hl := h.lt
  exact ⟨h.clock.more m, (m.below.block _ (by omega)).trans h.r1, (m.below.block _ (by omega)).trans h.r2, (m.below.block _ (by omega)).trans h.r3, h.below.trans (m.below.mono (by omega)), hl⟩
theorem St.drew {w wi : World} {B A : Nat} {s : CS} {g1 g2 g3 : Nat → Int} (h : St w wi B A s g1 g2 g3) : St w wi.drew B A s g1 g2 g3 := h.more (More.refl _).drew
theorem St.act {w wi : World} {B A : Nat} {s : CS} {g1 g2 g3 : Nat → Int} (h : St w wi B A s g1 g2 g3) (s' : CS) (hk : s'.ok) : St w (wi.setRow B (cellsC 4 s')) B A s' g1 g2 g3 := by
  have hl := h.lt
  exact ⟨h.clock.set s' hk, (setRow_other _ _ _ _ (by omega)).trans h.r1, (setRow_other _ _ _ _ (by omega)).trans h.r2, (setRow_other _ _ _ _ (by omega)).trans h.r3, below_setRow h.below (Nat.le_refl _) _, hl⟩
theorem St.put1 {w wi : World} {B A : Nat} {s : CS} {g1 g2 g3 : Nat → Int} (h : St w wi B A s g1 g2 g3) {m : Nat} (hm : m < 4) (v : Int) :
    St w (wi.setCell ⟨A, m, none⟩ (.int .i64 v)) B A s (fun i => if i = m then v else g1 i) g2 g3 := by
  have hl := h.lt
  refine ⟨h.clock.on (Below.heap_setCell _ _ _ _ (by show B ≠ A; omega)), ?_, (Below.heap_setCell _ _ _ _ (by show A + 1 ≠ A; omega)).trans h.r2, (Below.heap_setCell _ _ _ _ (by show A + 2 ≠ A; omega)).trans h.r3, h.below.setCell (by show B ≤ A; omega) _, hl⟩
  rw [heap_setCell_same _ _ _ _ _ _ h.r1, row4_set _ hm]
theorem St.put2 {w wi : World} {B A : Nat} {s : CS} {g1 g2 g3 : Nat → Int} (h : St w wi B A s g1 g2 g3) {m : Nat} (hm : m < 4) (v : Int) :
    St w (wi.setCell ⟨A + 1, m, none⟩ (.int .i64 v)) B A s g1 (fun i => if i = m then v else g2 i) g3 := by
  have hl := h.lt
  refine ⟨h.clock.on (Below.heap_setCell _ _ _ _ (by show B ≠ A + 1; omega)), (Below.heap_setCell _ _ _ _ (by show A ≠ A + 1; omega)).trans h.r1, ?_, (Below.heap_setCell _ _ _ _ (by show A + 2 ≠ A + 1; omega)).trans h.r3, h.below.setCell (by show B ≤ A + 1; omega) _, hl⟩
  rw [heap_setCell_same _ _ _ _ _ _ h.r2, row4_set _ hm]
theorem St.put3 {w wi : World} {B A : Nat} {s : CS} {g1 g2 g3 : Nat → Int} (h : St w wi B A s g1 g2 g3) {m : Nat} (hm : m < 4) (v : Int) :
    St w (wi.setCell ⟨A + 2, m, none⟩ (.int .i64 v)) B A s g1 g2 (fun i => if i = m then v else g3 i) := by
  have hl := h.lt
  refine ⟨h.clock.on (Below.heap_setCell _ _ _ _ (by show B ≠ A + 2; omega)), (Below.heap_setCell _ _ _ _ (by show A ≠ A + 2; omega)).trans h.r1, (Below.heap_setCell _ _ _ _ (by show A + 1 ≠ A + 2; omega)).trans h.r2, ?_, h.below.setCell (by show B ≤ A + 2; omega) _, hl⟩
  rw [heap_setCell_same _ _ _ _ _ _ h.r3, row4_set _ hm]
theorem St.c1 {w wi : World} {B A : Nat} {s : CS} {g1 g2 g3 : Nat → Int} (h : St w wi B A s g1 g2 g3) {m : Nat} (hm : m < 4) : wi.cell? ⟨A, m, none⟩ = some (.int .i64 (g1 m)) := by
  rw [cell_of_row _ _ _ _ _ _ h.r1, row4_get _ hm]
theorem St.c2 {w wi : World} {B A : Nat} {s : CS} {g1 g2 g3 : Nat → Int} (h : St w wi B A s g1 g2 g3) {m : Nat} (hm : m < 4) : wi.cell? ⟨A + 1, m, none⟩ = some (.int .i64 (g2 m)) := by
  rw [cell_of_row _ _ _ _ _ _ h.r2, row4_get _ hm]
theorem St.c3 {w wi : World} {B A : Nat} {s : CS} {g1 g2 g3 : Nat → Int} (h : St w wi B A s g1 g2 g3) {m : Nat} (hm : m < 4) : wi.cell? ⟨A + 2, m, none⟩ = some (.int .i64 (g3 m)) := by
  rw [cell_of_row _ _ _ _ _ _ h.r3, row4_get _ hm]
theorem St.f1 {w wi : World} {B A : Nat} {s : CS} {g1 g2 g3 : Nat → Int} (h : St w wi B A s g1 g2 g3) (m : Nat) : wi.frozen? ⟨A, m, none⟩ = false := frozen_of_row _ _ _ _ _ h.r1
theorem St.f2 {w wi : World} {B A : Nat} {s : CS} {g1 g2 g3 : Nat → Int} (h : St w wi B A s g1 g2 g3) (m : Nat) : wi.frozen? ⟨A + 1, m, none⟩ = false := frozen_of_row _ _ _ _ _ h.r2
theorem St.f3 {w wi : World} {B A : Nat} {s : CS} {g1 g2 g3 : Nat → Int} (h : St w wi B A s g1 g2 g3) (m : Nat) : wi.frozen? ⟨A + 2, m, none⟩ = false := frozen_of_row _ _ _ _ _ h.r3
theorem more_drewN (w : World) (n : Nat) : More w (w.drewN n) := ⟨(Grown.refl w : Grown w (w.drewN n)), ⟨rfl, rfl, rfl, Nat.le_refl _, fun _ _ => rfl⟩⟩
theorem St.drewN {w wi : World} {B A : Nat} {s : CS} {g1 g2 g3 : Nat → Int} (h : St w wi B A s g1 g2 g3) (n : Nat) : St w (wi.drewN n) B A s g1 g2 g3 := h.more (more_drewN _ n)
/-- Three new arrays. -/
theorem St.new {w wr : World} {B : Nat} {s : CS} (h : ClockIs wr B 4 s) (hB : Below B w wr) :
    St w (((wr.alloc (.cells #[.int .i64 0, .int .i64 0, .int .i64 0, .int .i64 0] 47)).alloc (.cells #[.int .i64 0, .int .i64 0, .int .i64 0, .int .i64 0] 47)).alloc (.cells #[.int .i64 0, .int .i64 0, .int .i64 0, .int .i64 0] 47)) B wr.heap.size s (fun _ => 0) (fun _ => 0) fun _ => 0 := by
  have hl := h.lt
  have m3 := (((More.refl wr).alloc #[.int .i64 0, .int .i64 0, .int .i64 0, .int .i64 0] 47).alloc #[.int .i64 0, .int .i64 0, .int .i64 0, .int .i64 0] 47).alloc #[.int .i64 0, .int .i64 0, .int .i64 0, .int .i64 0] 47
  refine ⟨h.more m3, ?_, ?_, ?_, hB.trans (m3.below.mono (by omega)), hl⟩
  · rw [Below.heap_alloc _ _ _ (by simp; omega), Below.heap_alloc _ _ _ (by simp), heap_alloc_new]; rfl
  · rw [Below.heap_alloc _ _ _ (by simp)]
    have := heap_alloc_new (wr.alloc (.cells #[.int .i64 0, .int .i64 0, .int .i64 0, .int .i64 0] 47)) (.cells #[.int .i64 0, .int .i64 0, .int .i64 0, .int .i64 0] 47)
    simpa [row4] using this
  · have := heap_alloc_new ((wr.alloc (.cells #[.int .i64 0, .int .i64 0, .int .i64 0, .int .i64 0] 47)).alloc (.cells #[.int .i64 0, .int .i64 0, .int .i64 0, .int .i64 0] 47)) (.cells #[.int .i64 0, .int .i64 0, .int .i64 0, .int .i64 0] 47)
    simpa [row4] using this
/-- What was told of the first m cores lies in the arrays. -/
def Told (s : CS) (m : Nat) (g1 g2 g3 : Nat → Int) : Prop := ∀ j : Nat, j < m → g1 j = cyS 4 s j ∧ g2 j = enS 4 s j ∧ g3 j = flS 4 s j
theorem Told.zero (s : CS) (g1 g2 g3 : Nat → Int) : Told s 0 g1 g2 g3 := fun j hj => absurd hj (by omega)
theorem Told.next {s : CS} {m : Nat} {g1 g2 g3 : Nat → Int} (h : Told s m g1 g2 g3) : Told s (m + 1) (fun i => if i = m then cyS 4 s m else g1 i) (fun i => if i = m then enS 4 s m else g2 i) (fun i => if i = m then flS 4 s m else g3 i) := by
  intro j hj
  by_cases e : j = m
  · subst e
    simp
  · simp only [e, if_false]
    exact h j (by omega)
/-- Nobody but that core. -/
theorem step_other {N : Nat} {s : CS} {c j : Nat} (h : j ≠ c) : cyS N (stepS N s c) j = cyS N s j ∧ enS N (stepS N s c) j = enS N s j ∧ flS N (stepS N s c) j = flS N s j := by
  unfold stepS
  split
  · split
    · simp [cyS, enS, flS, h]
    · simp
  · simp
theorem enter_other {N : Nat} {s : CS} {c j : Nat} (h : j ≠ c) : cyS N (enterS N s c) j = cyS N s j ∧ enS N (enterS N s c) j = enS N s j ∧ flS N (enterS N s c) j = flS N s j := by
  unfold enterS
  split
  · simp [cyS, enS, flS, h]
  · simp
theorem flush_other {N : Nat} {s : CS} {c j : Nat} (h : j ≠ c) : cyS N (flushS N s c) j = cyS N s j ∧ enS N (flushS N s c) j = enS N s j ∧ flS N (flushS N s c) j = flS N s j := by
  unfold flushS
  split
  · simp [cyS, enS, flS, h]
  · simp
theorem step_now {N : Nat} {s : CS} {f : Int} : (stepS N s f).now ≤ s.now + 1 := by
  unfold stepS
  split
  · split
    · exact Int.le_refl _
    · omega
  · omega
theorem enter_now {N : Nat} {s : CS} {f : Int} : (enterS N s f).now = s.now := by
  unfold enterS
  split <;> rfl
theorem flush_now {N : Nat} {s : CS} {f : Int} : (flushS N s f).now = s.now := by
  unfold flushS
  split <;> rfl
theorem step_me {N : Nat} {s : CS} {c : Nat} (hc : c < N) (ht : s.now < 1073741824) : (stepS N s c).now = s.now + 1 ∧ cyS N (stepS N s c) c = cyS N s c + 1 := by
  simp [stepS, cyS, okF_nat hc, ht]
theorem enter_me {N : Nat} {s : CS} {c : Nat} (hc : c < N) : enS N (enterS N s c) c = s.now := by
  simp [enterS, enS, okF_nat hc]
theorem flush_me {N : Nat} {s : CS} {c : Nat} (hc : c < N) : flS N (flushS N s c) c = s.now := by
  simp [flushS, flS, okF_nat hc]

end Go.Proofs.Ytmnjlckniaociaa
