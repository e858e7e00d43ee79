/- A clock that lies in one block, and what its calls make of it: plain definitions and lemmas; no program is named. -/
import Derived.Laws.CopyRow
import Derived.ChangeKeysEq
import Derived.Below
import Derived.RowKit3
import Derived.Laws.CopyOwn
import Derived.WalkKit
import Derived.BigQuiet
import Derived.Deep.WholeRow
namespace Go.Proofs.Ytjbchnnbphikhaa
open Go.RowKit
set_option linter.unusedVariables false

/-- The time; by core its cycles, and when it entered and flushed. -/
structure CS where
  now : Int
  cy : Nat → Int
  en : Nat → Int
  fl : Nat → Int
/-- The cells of a clock of N cores. -/
def cellsC (N : Nat) (s : CS) : Array Value :=
  #[.int .i64 N, .int .i64 s.now, .int .i64 (s.cy 0), .int .i64 (s.en 0), .int .i64 (s.fl 0), .int .i64 (s.cy 1), .int .i64 (s.en 1), .int .i64 (s.fl 1), .int .i64 (s.cy 2), .int .i64 (s.en 2), .int .i64 (s.fl 2), .int .i64 (s.cy 3), .int .i64 (s.en 3), .int .i64 (s.fl 3)]
theorem cellsC_cy (N : Nat) (s : CS) {c : Nat} (h : c < 4) : (cellsC N s)[2 + c * 3]? = some (.int .i64 (s.cy c)) := by
  match c, h with
  | 0, _ => rfl
  | 1, _ => rfl
  | 2, _ => rfl
  | 3, _ => rfl
theorem cellsC_en (N : Nat) (s : CS) {c : Nat} (h : c < 4) : (cellsC N s)[2 + c * 3 + 1]? = some (.int .i64 (s.en c)) := by
  match c, h with
  | 0, _ => rfl
  | 1, _ => rfl
  | 2, _ => rfl
  | 3, _ => rfl
theorem cellsC_fl (N : Nat) (s : CS) {c : Nat} (h : c < 4) : (cellsC N s)[2 + c * 3 + 2]? = some (.int .i64 (s.fl c)) := by
  match c, h with
  | 0, _ => rfl
  | 1, _ => rfl
  | 2, _ => rfl
  | 3, _ => rfl

/-- Is there such a core? -/
def okF (N : Nat) (f : Int) : Bool := decide (0 ≤ f ∧ f < N)
def errF (N : Nat) (f : Int) : Int := if okF N f then 0 else 1
def errS (N : Nat) (s : CS) (f : Int) : Int := if okF N f then (if s.now < 1073741824 then 0 else 11) else 1
/-- The clock behind a step, an entry, a flush. -/
def stepS (N : Nat) (s : CS) (f : Int) : CS := if okF N f then (if s.now < 1073741824 then ⟨s.now + 1, fun i => if i = f.toNat then s.cy i + 1 else s.cy i, s.en, s.fl⟩ else s) else s
def enterS (N : Nat) (s : CS) (f : Int) : CS := if okF N f then ⟨s.now, s.cy, fun i => if i = f.toNat then s.now else s.en i, s.fl⟩ else s
def flushS (N : Nat) (s : CS) (f : Int) : CS := if okF N f then ⟨s.now, s.cy, s.en, fun i => if i = f.toNat then s.now else s.fl i⟩ else s
/-- What is told of a core. -/
def cyS (N : Nat) (s : CS) (f : Int) : Int := if okF N f then s.cy f.toNat else 0
def enS (N : Nat) (s : CS) (f : Int) : Int := if okF N f then s.en f.toNat else -1
def flS (N : Nat) (s : CS) (f : Int) : Int := if okF N f then s.fl f.toNat else -1
/-- The least of the first n + 1. -/
def leastN (g : Nat → Int) : Nat → Int
  | 0 => g 0
  | n + 1 => if g (n + 1) < leastN g n then g (n + 1) else leastN g n
theorem leastN_le (g : Nat → Int) : ∀ (n i : Nat), i ≤ n → leastN g n ≤ g i
  | 0, i, h => by obtain rfl : i = 0 := by omega
                  exact Int.le_refl _
  | n + 1, i, h => by
    have ih := leastN_le g n
    simp only [leastN]
    by_cases e : i = n + 1
    · subst e
      split <;> omega
    · have := ih i (by omega)
      split <;> omega
theorem leastN_ex (g : Nat → Int) : ∀ n : Nat, ∃ i, i ≤ n ∧ leastN g n = g i
  | 0 => ⟨0, Nat.le_refl _, rfl⟩
  | n + 1 => by
    obtain ⟨i, hi, e⟩ := leastN_ex g n
    simp only [leastN]
    split
    · exact ⟨n + 1, Nat.le_refl _, rfl⟩
    · exact ⟨i, by omega, e⟩
theorem leastN_congr {f g : Nat → Int} : ∀ n : Nat, (∀ i, i ≤ n → f i = g i) → leastN f n = leastN g n
  | 0, h => h 0 (Nat.le_refl _)
  | n + 1, h => by simp only [leastN]; rw [leastN_congr n (fun i hi => h i (by omega)), h (n + 1) (Nat.le_refl _)]
def floE (N : Nat) (s : CS) : Int := leastN s.en (N - 1)
def floF (N : Nat) (s : CS) : Int := leastN s.fl (N - 1)
/-- A new clock of N cores. -/
def newS (N : Nat) : CS := ⟨0, fun _ => 0, fun i => if i < N then -1 else 0, fun i => if i < N then -1 else 0⟩
theorem okF_yes {N : Nat} {f : Int} (h : okF N f = true) : 0 ≤ f ∧ f < N := by simpa [okF] using h
theorem okF_no {N : Nat} {f : Int} (h : okF N f = false) : ¬ (0 ≤ f ∧ f < N) := by simp [okF] at h; omega
theorem okF_nat {N f : Nat} (h : f < N) : okF N (f : Int) = true := by simp [okF]; omega
theorem okF_split {N : Nat} {f : Int} (h : okF N f = true) : ∃ c : Nat, f = c ∧ c < N := by
  have := okF_yes h
  exact ⟨f.toNat, by omega, by omega⟩

/-- The time is 0 to MaxTime, and no core has more cycles. -/
def CS.ok (s : CS) : Prop := 0 ≤ s.now ∧ s.now ≤ 1073741824 ∧ ∀ i, 0 ≤ s.cy i ∧ s.cy i ≤ s.now
theorem newS_ok (N : Nat) : (newS N).ok := ⟨by simp [newS], by simp [newS], fun i => by simp [newS]⟩
theorem ok_step {s : CS} (h : s.ok) (N : Nat) (f : Int) : (stepS N s f).ok := by
  unfold stepS
  split
  · split
    · obtain ⟨h1, h2, h3⟩ := h
      refine ⟨by simp only; omega, by simp only; omega, fun i => ?_⟩
      have := h3 i
      simp only
      split <;> omega
    · exact h
  · exact h
theorem ok_enter {s : CS} (h : s.ok) (N : Nat) (f : Int) : (enterS N s f).ok := by
  unfold enterS
  split <;> exact h
theorem ok_flush {s : CS} (h : s.ok) (N : Nat) (f : Int) : (flushS N s f).ok := by
  unfold flushS
  split <;> exact h

/-- Memory was made, and none that was there changed. -/
structure More (w w' : World) : Prop where
  grown : Grown w w'
  below : Below w.heap.size w w'
theorem grown_trans {a b c : World} (h : Grown a b) (k : Grown b c) : Grown a c :=
  ⟨World.keptBut_trans h.1 k.1, fun x => (k.2.1 x).trans (h.2.1 x), Nat.le_trans h.2.2 k.2.2⟩
theorem More.refl (w : World) : More w w := ⟨Grown.refl _, Below.refl _ _⟩
theorem More.trans {a b c : World} (h : More a b) (k : More b c) : More a c := ⟨grown_trans h.grown k.grown, h.below.trans (k.below.mono h.below.size)⟩
theorem More.alloc {a b : World} (h : More a b) (c : Array Value) (t : TypeId) : More a (b.alloc (.cells c t)) := ⟨h.grown.alloc c t, h.below.alloc h.below.size _⟩
theorem More.setCell {a b : World} (h : More a b) {p : Addr} (hp : a.heap.size ≤ p.block) (v : Value) : More a (b.setCell p v) := ⟨h.grown.setCell hp v, h.below.setCell hp v⟩
theorem More.drew {a b : World} (h : More a b) : More a b.drew := ⟨h.grown.drew, h.below.drew⟩
theorem More.size {a b : World} (h : More a b) : a.heap.size ≤ b.heap.size := h.below.size
theorem More.cell {a b : World} (h : More a b) {p : Nat} (hp : p < a.heap.size) (j : Nat) : b.cell? ⟨p, j, none⟩ = a.cell? ⟨p, j, none⟩ := h.below.cell (p := ⟨p, j, none⟩) hp
/-- Cells that were just made are written. -/
theorem setCell_new (w : World) (c : Array Value) (t : TypeId) (i : Nat) (v : Value) : (w.alloc (.cells c t)).setCell ⟨w.heap.size, i, none⟩ v = w.alloc (.cells (c.setIfInBounds i v) t) := by
  rw [setCell_eq_setRow _ _ _ _ _ _ _ (heap_alloc_new w (.cells c t)), World.setRow_alloc_new]

/-- A clock of N cores lies behind the pointer to block p. -/
structure ClockIs (w : World) (p N : Nat) (s : CS) : Prop where
  row : w.heap[p]? = some (.cells (cellsC N s) 48 (0, 0))
  ok : s.ok
theorem ClockIs.cell {w : World} {p N : Nat} {s : CS} (h : ClockIs w p N s) : w.cell? ⟨p, 0, none⟩ = some (.int .i64 N) := by
  rw [cell_of_row w p 0 _ _ _ h.row]; rfl
theorem ClockIs.now {w : World} {p N : Nat} {s : CS} (h : ClockIs w p N s) : w.cell? ⟨p, 1, none⟩ = some (.int .i64 s.now) := by
  rw [cell_of_row w p 1 _ _ _ h.row]; rfl
theorem ClockIs.cy {w : World} {p N : Nat} {s : CS} (h : ClockIs w p N s) {c : Nat} (hc : c < 4) : w.cell? ⟨p, 2 + c * 3, none⟩ = some (.int .i64 (s.cy c)) := by
  rw [cell_of_row w p _ _ _ _ h.row, cellsC_cy N s hc]
theorem ClockIs.en {w : World} {p N : Nat} {s : CS} (h : ClockIs w p N s) {c : Nat} (hc : c < 4) : w.cell? ⟨p, 2 + c * 3 + 1, none⟩ = some (.int .i64 (s.en c)) := by
  rw [cell_of_row w p _ _ _ _ h.row, cellsC_en N s hc]
theorem ClockIs.fl {w : World} {p N : Nat} {s : CS} (h : ClockIs w p N s) {c : Nat} (hc : c < 4) : w.cell? ⟨p, 2 + c * 3 + 2, none⟩ = some (.int .i64 (s.fl c)) := by
  rw [cell_of_row w p _ _ _ _ h.row, cellsC_fl N s hc]
theorem ClockIs.free {w : World} {p N : Nat} {s : CS} (h : ClockIs w p N s) (j : Nat) : w.frozen? ⟨p, j, none⟩ = false := frozen_of_row w p j _ _ h.row
theorem ClockIs.lt {w : World} {p N : Nat} {s : CS} (h : ClockIs w p N s) : p < w.heap.size := (Array.getElem?_eq_some_iff.1 h.row).1
theorem ClockIs.set {w : World} {p N : Nat} {s : CS} (h : ClockIs w p N s) (s' : CS) (hk : s'.ok) : ClockIs (w.setRow p (cellsC N s')) p N s' :=
  ⟨setRow_heap _ _ _ _ _ _ h.row, hk⟩
theorem ClockIs.on {w w' : World} {p N : Nat} {s : CS} (h : ClockIs w p N s) (hp : w'.heap[p]? = w.heap[p]?) : ClockIs w' p N s := ⟨hp.trans h.row, h.ok⟩
theorem ClockIs.below {w w' : World} {B p N : Nat} {s : CS} (h : ClockIs w p N s) (hB : Below B w w') (hp : p < B) : ClockIs w' p N s := h.on (hB.block p hp)
theorem ClockIs.more {w w' : World} {p N : Nat} {s : CS} (h : ClockIs w p N s) (hB : More w w') : ClockIs w' p N s := h.below hB.below h.lt
theorem ClockIs.drewN {w : World} {p N : Nat} {s : CS} (h : ClockIs w p N s) (n : Nat) : ClockIs (w.drewN n) p N s := h.on rfl
theorem ClockIs.self {w : World} {p N : Nat} {s : CS} (h : ClockIs w p N s) : w.setRow p (cellsC N s) = w := setRow_self _ _ _ _ _ h.row
theorem ClockIs.step {w : World} {p N : Nat} {s : CS} (h : ClockIs w p N s) {c : Nat} (hc : c < N) (hN : N ≤ 4) (ht : s.now < 1073741824) :
    (w.setCell ⟨p, 1, none⟩ (.int .i64 (s.now + 1))).setCell ⟨p, 2 + c * 3, none⟩ (.int .i64 (s.cy c + 1)) = w.setRow p (cellsC N (stepS N s c)) := by
  rw [setCell_eq_setRow w p _ _ _ _ _ h.row, setCell_eq_setRow _ p _ _ _ _ _ (setRow_heap _ _ _ _ _ _ h.row), setRow_setRow]
  congr 1
  simp only [stepS, okF_nat hc, ht, if_true, Int.toNat_natCast]
  have h4 : c < 4 := by omega
  match c, h4 with
  | 0, _ => rfl
  | 1, _ => rfl
  | 2, _ => rfl
  | 3, _ => rfl
theorem ClockIs.enter {w : World} {p N : Nat} {s : CS} (h : ClockIs w p N s) {c : Nat} (hc : c < N) (hN : N ≤ 4) :
    w.setCell ⟨p, 2 + c * 3 + 1, none⟩ (.int .i64 s.now) = w.setRow p (cellsC N (enterS N s c)) := by
  rw [setCell_eq_setRow w p _ _ _ _ _ h.row]
  congr 1
  simp only [enterS, okF_nat hc, if_true, Int.toNat_natCast]
  have h4 : c < 4 := by omega
  match c, h4 with
  | 0, _ => rfl
  | 1, _ => rfl
  | 2, _ => rfl
  | 3, _ => rfl
theorem ClockIs.flush {w : World} {p N : Nat} {s : CS} (h : ClockIs w p N s) {c : Nat} (hc : c < N) (hN : N ≤ 4) :
    w.setCell ⟨p, 2 + c * 3 + 2, none⟩ (.int .i64 s.now) = w.setRow p (cellsC N (flushS N s c)) := by
  rw [setCell_eq_setRow w p _ _ _ _ _ h.row]
  congr 1
  simp only [flushS, okF_nat hc, if_true, Int.toNat_natCast]
  have h4 : c < 4 := by omega
  match c, h4 with
  | 0, _ => rfl
  | 1, _ => rfl
  | 2, _ => rfl
  | 3, _ => rfl
/-- Core k of a clock that is being made is laid. -/
theorem ClockIs.lay {w : World} {p N k : Nat} (h : ClockIs w p N (newS k)) (hk : k < 4) :
    ((w.setCell ⟨p, 2 + k * 3, none⟩ (.int .i64 0)).setCell ⟨p, 2 + k * 3 + 1, none⟩ (.int .i64 (-1))).setCell ⟨p, 2 + k * 3 + 2, none⟩ (.int .i64 (-1)) = w.setRow p (cellsC N (newS (k + 1))) := by
  rw [setCell_eq_setRow w p _ _ _ _ _ h.row, setCell_eq_setRow _ p _ _ _ _ _ (setRow_heap _ _ _ _ _ _ h.row), setRow_setRow, setCell_eq_setRow _ p _ _ _ _ _ (setRow_heap _ _ _ _ _ _ h.row), setRow_setRow]
  congr 1
  match k, hk with
  | 0, _ => rfl
  | 1, _ => rfl
  | 2, _ => rfl
  | 3, _ => rfl

end Go.Proofs.Ytjbchnnbphikhaa
