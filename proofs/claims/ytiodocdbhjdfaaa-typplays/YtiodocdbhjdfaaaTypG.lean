/- Frames that lie in one row of structs, and what the calls of a table make of them: plain definitions and lemmas; no function of the program is named. -/
import Derived.Laws.CopyRow
import Derived.ChangeKeysEq
import Derived.Below
import Derived.RowKit3
import Derived.Laws.CopyOwn
import Derived.WalkKit
import Derived.ChangeOld
import Derived.BigQuiet
namespace Go.Proofs.Ytiodocdbhjdfaaa
open Go.RowKit
set_option linter.unusedVariables false

/-- A frame: what it is, what it was, how often it is needed, when it was freed. -/
structure FS where
  is : Int
  was : Int
  cnt : Int
  fr : Int
def fld (s : FS) (k : Nat) : Int := if k = 0 then s.is else if k = 1 then s.was else if k = 2 then s.cnt else s.fr
def noFS : FS := ⟨0, 0, 0, -1⟩
def zFS : FS := ⟨0, 0, 0, 0⟩
/-- The cells of N frames. -/
def cellsT (N : Nat) (S : Nat → FS) : Array Value := ((List.range (N * 4)).map fun j => Value.int .i64 (fld (S (j / 4)) (j % 4))).toArray
theorem cellsT_size (N : Nat) (S : Nat → FS) : (cellsT N S).size = N * 4 := by simp [cellsT]
theorem cellsT_get {N : Nat} {S : Nat → FS} {j : Nat} (h : j < N * 4) : (cellsT N S)[j]? = some (.int .i64 (fld (S (j / 4)) (j % 4))) := by
  simp [cellsT, h]
theorem cellsT_at {N : Nat} {S : Nat → FS} {n k : Nat} (h : n < N) (hk : k < 4) : (cellsT N S)[n * 4 + k]? = some (.int .i64 (fld (S n) k)) := by
  rw [cellsT_get (by omega)]
  have h1 : (n * 4 + k) / 4 = n := by omega
  have h2 : (n * 4 + k) % 4 = k := by omega
  rw [h1, h2]
def upd (S : Nat → FS) (n : Nat) (x : FS) : Nat → FS := fun i => if i = n then x else S i
theorem upd_self (S : Nat → FS) (n : Nat) : upd S n (S n) = S := by
  funext i
  simp only [upd]
  split
  · subst_vars; rfl
  · rfl
theorem upd_same (S : Nat → FS) (n : Nat) (x : FS) : upd S n x n = x := by simp [upd]
theorem upd_upd (S : Nat → FS) (n : Nat) (x y : FS) : upd (upd S n x) n y = upd S n y := by
  funext i
  simp only [upd]
  split <;> rfl
/-- One field of frame n is written. -/
def setF (s : FS) (k : Nat) (v : Int) : FS := if k = 0 then { s with is := v } else if k = 1 then { s with was := v } else if k = 2 then { s with cnt := v } else { s with fr := v }
theorem fld_setF (s : FS) {k j : Nat} (hk : k < 4) (hj : j < 4) (v : Int) : fld (setF s k v) j = if k = j then v else fld s j := by
  match k, hk, j, hj with
  | 0, _, 0, _ => rfl
  | 0, _, 1, _ => rfl
  | 0, _, 2, _ => rfl
  | 0, _, 3, _ => rfl
  | 1, _, 0, _ => rfl
  | 1, _, 1, _ => rfl
  | 1, _, 2, _ => rfl
  | 1, _, 3, _ => rfl
  | 2, _, 0, _ => rfl
  | 2, _, 1, _ => rfl
  | 2, _, 2, _ => rfl
  | 2, _, 3, _ => rfl
  | 3, _, 0, _ => rfl
  | 3, _, 1, _ => rfl
  | 3, _, 2, _ => rfl
  | 3, _, 3, _ => rfl
theorem cellsT_set (N : Nat) (S : Nat → FS) {n k : Nat} (hn : n < N) (hk : k < 4) (v : Int) : (cellsT N S).setIfInBounds (n * 4 + k) (.int .i64 v) = cellsT N (upd S n (setF (S n) k v)) := by
  apply Array.ext_getElem?
  intro i
  rw [Array.getElem?_setIfInBounds]
  by_cases hi : i < N * 4
  · rw [cellsT_get hi, cellsT_get hi, cellsT_size]
    by_cases e : n * 4 + k = i
    · subst e
      have h1 : (n * 4 + k) / 4 = n := by omega
      have h2 : (n * 4 + k) % 4 = k := by omega
      rw [if_pos rfl, if_pos hi, h1, h2, upd_same, fld_setF _ hk hk, if_pos rfl]
    · rw [if_neg e]
      by_cases e2 : i / 4 = n
      · have h3 : k ≠ i % 4 := by omega
        rw [e2, upd_same, fld_setF _ hk (by omega), if_neg h3]
      · simp [upd, e2]
  · rw [if_neg (by omega), Array.getElem?_eq_none (by rw [cellsT_size]; omega), Array.getElem?_eq_none (by rw [cellsT_size]; omega)]
theorem cellsT_congr {N : Nat} {S T : Nat → FS} (h : ∀ j, j < N → S j = T j) : cellsT N S = cellsT N T := by
  apply Array.ext_getElem?
  intro i
  by_cases hi : i < N * 4
  · rw [cellsT_get hi, cellsT_get hi, h (i / 4) (by omega)]
  · rw [Array.getElem?_eq_none (by rw [cellsT_size]; omega), Array.getElem?_eq_none (by rw [cellsT_size]; omega)]

/-- Is there such a frame? -/
def okF (N : Nat) (f : Int) : Bool := decide (0 ≤ f ∧ f < N)
theorem okF_yes {N : Nat} {f : Int} (h : okF N f = true) : 0 ≤ f ∧ f < N := by simpa [okF] using h
theorem okF_no {N : Nat} {f : Int} (h : okF N f = false) : ¬ (0 ≤ f ∧ f < N) := by simp [okF] at h; omega
theorem okF_nat {N f : Nat} (h : f < N) : okF N (f : Int) = true := by simp [okF]; omega
theorem okF_split {N : Nat} {f : Int} (h : okF N f = true) : ∃ c : Nat, f = c ∧ c < N := by
  have := okF_yes h
  exact ⟨f.toNat, by omega, by omega⟩
/-- What a call answers, and what the frames are behind it, by what it answers and makes of one frame. -/
def errA (N : Nat) (S : Nat → FS) (f : Int) (h : FS → Int) : Int := if okF N f then h (S f.toNat) else 1
def mapA (N : Nat) (S : Nat → FS) (f : Int) (g : FS → FS) : Nat → FS := if okF N f then upd S f.toNat (g (S f.toNat)) else S
def toldA (N : Nat) (S : Nat → FS) (f : Int) : FS := if okF N f then S f.toNat else noFS
/-- Retype, Untype, Ref, Unref of one frame: what is answered, what it is then. -/
def hRt (to : Int) (q : Bool) (s : FS) : Int := if to = 1 ∨ to = 2 then (if s.is = 0 then (if q then 0 else 6) else 4) else 1
def gRt (to : Int) (q : Bool) (s : FS) : FS := if to = 1 ∨ to = 2 then (if s.is = 0 then (if q then { s with is := to } else s) else s) else s
def hUt (s : FS) : Int := if s.is = 0 then 4 else if s.cnt = 0 then 0 else 10
def mx (a b : Int) : Int := if a < b then b else a
def gUt (now : Int) (pg : Bool) (s : FS) : FS := if s.is = 0 then s else if s.cnt = 0 then ⟨0, if s.is = 2 then (if pg then 3 else 2) else s.is, 0, mx s.fr now⟩ else s
def hRf (s : FS) : Int := if s.is = 0 then 4 else if s.cnt < 1000 then 0 else 2
def gRf (s : FS) : FS := if s.is = 0 then s else if s.cnt < 1000 then { s with cnt := s.cnt + 1 } else s
def hUr (s : FS) : Int := if s.cnt = 0 then 3 else 0
def gUr (now : Int) (s : FS) : FS := if s.cnt = 0 then s else if s.cnt = 1 then ⟨s.is, s.was, 0, mx s.fr now⟩ else { s with cnt := s.cnt - 1 }

/-- No frame is needed less than never, or more than may be. -/
def FS.ok (s : FS) : Prop := 0 ≤ s.cnt ∧ s.cnt ≤ 1000
def okA (S : Nat → FS) : Prop := ∀ i, (S i).ok
theorem ok_map {S : Nat → FS} (h : okA S) (N : Nat) (f : Int) {g : FS → FS} (hg : ∀ s, s.ok → (g s).ok) : okA (mapA N S f g) := by
  intro i
  unfold mapA
  split
  · simp only [upd]
    split
    · exact hg _ (h _)
    · exact h i
  · exact h i
theorem ok_rt (to : Int) (q : Bool) (s : FS) (h : s.ok) : (gRt to q s).ok := by
  unfold gRt
  split
  · split
    · split <;> exact h
    · exact h
  · exact h
theorem ok_ut (now : Int) (pg : Bool) (s : FS) (h : s.ok) : (gUt now pg s).ok := by
  unfold gUt
  split
  · exact h
  · split
    · exact ⟨by simp, by simp⟩
    · exact h
theorem ok_rf (s : FS) (h : s.ok) : (gRf s).ok := by
  unfold gRf
  split
  · exact h
  · split
    · obtain ⟨h1, h2⟩ := h
      exact ⟨by simp only; omega, by simp only; omega⟩
    · exact h
theorem ok_ur (now : Int) (s : FS) (h : s.ok) : (gUr now s).ok := by
  unfold gUr
  split
  · exact h
  · split
    · exact ⟨by simp, by simp⟩
    · obtain ⟨h1, h2⟩ := h
      exact ⟨by simp only; omega, by simp only; omega⟩
theorem ok_no : okA fun _ => noFS := fun _ => ⟨by simp [noFS], by simp [noFS]⟩

/-- Memory was made, and none that was there changed. -/
theorem below_set {B : Nat} {a w : World} (h : Below B a w) {b : Nat} (hb : B ≤ b) (cs : Array Value) : Below B a (w.setRow b cs) := below_setRow h hb cs
theorem below_drewN {B : Nat} {a w : World} (h : Below B a w) (n : Nat) : Below B a (w.drewN n) := ⟨h.os, h.tape, h.output, h.size, h.block⟩

/-- A table of N frames lies behind the pointer to block p, its frames in block r. -/
structure TblIs (w : World) (p r N : Nat) (S : Nat → FS) : Prop where
  head : w.heap[p]? = some (.cells #[.slice (some ⟨r, 0, none⟩) N N] 48 (0, 0))
  row : w.heap[r]? = some (.cells (cellsT N S) 51 (0, 0))
  ok : okA S
theorem TblIs.cell {w : World} {p r N : Nat} {S : Nat → FS} (h : TblIs w p r N S) : w.cell? ⟨p, 0, none⟩ = some (.slice (some ⟨r, 0, none⟩) N N) := by
  rw [cell_of_row w p 0 _ _ _ h.head]; rfl
theorem TblIs.at {w : World} {p r N : Nat} {S : Nat → FS} (h : TblIs w p r N S) {n : Nat} (hn : n < N) :
    w.cell? ⟨r, n * 4, none⟩ = some (.int .i64 (S n).is) ∧ w.cell? ⟨r, n * 4 + 1, none⟩ = some (.int .i64 (S n).was) ∧ w.cell? ⟨r, n * 4 + 2, none⟩ = some (.int .i64 (S n).cnt) ∧ w.cell? ⟨r, n * 4 + 3, none⟩ = some (.int .i64 (S n).fr) := by
  refine ⟨?_, ?_, ?_, ?_⟩
  · have := cellsT_at (S := S) hn (k := 0) (by omega)
    rw [Nat.add_zero] at this
    rw [cell_of_row w r _ _ _ _ h.row, this]; rfl
  · rw [cell_of_row w r _ _ _ _ h.row, cellsT_at hn (by omega)]; rfl
  · rw [cell_of_row w r _ _ _ _ h.row, cellsT_at hn (by omega)]; rfl
  · rw [cell_of_row w r _ _ _ _ h.row, cellsT_at hn (by omega)]; rfl
theorem TblIs.free {w : World} {p r N : Nat} {S : Nat → FS} (h : TblIs w p r N S) (j : Nat) : w.frozen? ⟨r, j, none⟩ = false := frozen_of_row w r j _ _ h.row
theorem TblIs.lt {w : World} {p r N : Nat} {S : Nat → FS} (h : TblIs w p r N S) : p < w.heap.size := (Array.getElem?_eq_some_iff.1 h.head).1
theorem TblIs.ltr {w : World} {p r N : Nat} {S : Nat → FS} (h : TblIs w p r N S) : r < w.heap.size := (Array.getElem?_eq_some_iff.1 h.row).1
theorem TblIs.ne {w : World} {p r N : Nat} {S : Nat → FS} (h : TblIs w p r N S) : p ≠ r := by
  rintro rfl
  have := h.head.symm.trans h.row
  simp at this
theorem TblIs.on {w w' : World} {p r N : Nat} {S : Nat → FS} (h : TblIs w p r N S) (hp : w'.heap[p]? = w.heap[p]?) (hr : w'.heap[r]? = w.heap[r]?) : TblIs w' p r N S := ⟨hp.trans h.head, hr.trans h.row, h.ok⟩
theorem TblIs.more {w w' : World} {p r N : Nat} {S : Nat → FS} (h : TblIs w p r N S) (hB : Below w.heap.size w w') : TblIs w' p r N S := h.on (hB.block p h.lt) (hB.block r h.ltr)
theorem TblIs.drewN {w : World} {p r N : Nat} {S : Nat → FS} (h : TblIs w p r N S) (n : Nat) : TblIs (w.drewN n) p r N S := h.on rfl rfl
theorem TblIs.drew {w : World} {p r N : Nat} {S : Nat → FS} (h : TblIs w p r N S) : TblIs w.drew p r N S := h.on rfl rfl
theorem TblIs.self {w : World} {p r N : Nat} {S : Nat → FS} (h : TblIs w p r N S) : w.setRow r (cellsT N S) = w := setRow_self _ _ _ _ _ h.row
theorem TblIs.set {w : World} {p r N : Nat} {S : Nat → FS} (h : TblIs w p r N S) {T : Nat → FS} (hT : okA T) : TblIs (w.setRow r (cellsT N T)) p r N T :=
  ⟨(setRow_other w r p _ h.ne).trans h.head, setRow_heap _ _ _ _ _ _ h.row, hT⟩
/-- One cell is written. -/
theorem TblIs.put {w : World} {p r N : Nat} {S : Nat → FS} (h : TblIs w p r N S) {n k : Nat} (hn : n < N) (hk : k < 4) (v : Int) :
    w.setCell ⟨r, n * 4 + k, none⟩ (.int .i64 v) = w.setRow r (cellsT N (upd S n (setF (S n) k v))) := by
  rw [setCell_eq_setRow w r _ _ _ _ _ h.row, cellsT_set N S hn hk]
theorem row_put {w : World} {r N : Nat} {S T : Nat → FS} (h : w.heap[r]? = some (.cells (cellsT N S) 51 (0, 0))) {n k : Nat} (hn : n < N) (hk : k < 4) (v : Int) :
    (w.setRow r (cellsT N T)).setCell ⟨r, n * 4 + k, none⟩ (.int .i64 v) = w.setRow r (cellsT N (upd T n (setF (T n) k v))) := by
  rw [setCell_eq_setRow _ r _ _ _ _ _ (setRow_heap _ _ _ _ _ _ h), setRow_setRow, cellsT_set N T hn hk]
theorem row_put0 {w : World} {r N : Nat} {S T : Nat → FS} (h : w.heap[r]? = some (.cells (cellsT N S) 51 (0, 0))) {n : Nat} (hn : n < N) (v : Int) :
    (w.setRow r (cellsT N T)).setCell ⟨r, n * 4, none⟩ (.int .i64 v) = w.setRow r (cellsT N (upd T n (setF (T n) 0 v))) := row_put (k := 0) h hn (by omega) v
theorem TblIs.put0 {w : World} {p r N : Nat} {S : Nat → FS} (h : TblIs w p r N S) {n : Nat} (hn : n < N) (v : Int) :
    w.setCell ⟨r, n * 4, none⟩ (.int .i64 v) = w.setRow r (cellsT N (upd S n (setF (S n) 0 v))) := h.put (k := 0) hn (by omega) v

end Go.Proofs.Ytiodocdbhjdfaaa
