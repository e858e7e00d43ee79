/- Texts on finished packages, joined. -/
import Derived.Test.YtdlpibmdcfillaaBunBase
import Derived.Laws.CopyRow
import Derived.ChangeKeysEq
import Derived.Below
import Derived.RowKit3
import Derived.Laws.CopyOwn
import Derived.WalkKit
import Derived.ChangeOld
import Derived.BigQuiet
import Derived.Shelf.Abstract
import Derived.Lib.Bytes
import Derived.Test.YtdlpibmdcfillaaRows
import Derived.ProofKit
import Derived.OpenShut
import Derived.Outline
import Derived.Deep.QuietTactic
import Derived.Deep.RegionHeld3
import Derived.Deep.RegionWith
import Derived.OwnWalk
import Derived.BigRegion

/- Ids that lie in one row of structs, and what the calls of a table make of them: plain definitions and lemmas; no function of the program is named. -/
namespace Go.Proofs.Ytdlpibmdcfillaa.Plive
open Go.Proofs.Ytdlpibmdcfillaa.Pbase
open Go.RowKit
set_option linter.unusedVariables false

/-- An id: does it live, its epoch, when it was killed last. -/
structure LS where
  on : Bool
  ep : Int
  tm : Int
def noLS : LS := ⟨false, 0, 0⟩
def fld (s : LS) (k : Nat) : Value := if k = 0 then .bool s.on else if k = 1 then .int .i64 s.ep else .int .i64 s.tm
/-- The cells of N ids. -/
def cellsT (N : Nat) (S : Nat → LS) : Array Value := ((List.range (N * 3)).map fun j => fld (S (j / 3)) (j % 3)).toArray
theorem cellsT_size (N : Nat) (S : Nat → LS) : (cellsT N S).size = N * 3 := by simp [cellsT]
theorem cellsT_get {N : Nat} {S : Nat → LS} {j : Nat} (h : j < N * 3) : (cellsT N S)[j]? = some (fld (S (j / 3)) (j % 3)) := by
  simp [cellsT, h]
theorem cellsT_at {N : Nat} {S : Nat → LS} {n k : Nat} (h : n < N) (hk : k < 3) : (cellsT N S)[n * 3 + k]? = some (fld (S n) k) := by
  rw [cellsT_get (by omega)]
  have h1 : (n * 3 + k) / 3 = n := by omega
  have h2 : (n * 3 + k) % 3 = k := by omega
  rw [h1, h2]
def upd (S : Nat → LS) (n : Nat) (x : LS) : Nat → LS := fun i => if i = n then x else S i
theorem upd_self (S : Nat → LS) (n : Nat) : upd S n (S n) = S := by
  funext i
  simp only [upd]
  split
  · subst_vars; rfl
  · rfl
theorem upd_same (S : Nat → LS) (n : Nat) (x : LS) : upd S n x n = x := by simp [upd]
theorem upd_other (S : Nat → LS) {n i : Nat} (x : LS) (h : i ≠ n) : upd S n x i = S i := by simp [upd, h]
theorem upd_upd (S : Nat → LS) (n : Nat) (x y : LS) : upd (upd S n x) n y = upd S n y := by
  funext i
  simp only [upd]
  split <;> rfl
/-- Cell k of s' is v, and its other cells are those of s. -/
def Sets (s s' : LS) (k : Nat) (v : Value) : Prop := ∀ j, j < 3 → fld s' j = if k = j then v else fld s j
theorem sets0 (s : LS) (b : Bool) : Sets s { s with on := b } 0 (.bool b) := fun j hj => by
  match j, hj with
  | 0, _ => rfl
  | 1, _ => rfl
  | 2, _ => rfl
theorem sets1 (s : LS) (b : Int) : Sets s { s with ep := b } 1 (.int .i64 b) := fun j hj => by
  match j, hj with
  | 0, _ => rfl
  | 1, _ => rfl
  | 2, _ => rfl
theorem sets2 (s : LS) (b : Int) : Sets s { s with tm := b } 2 (.int .i64 b) := fun j hj => by
  match j, hj with
  | 0, _ => rfl
  | 1, _ => rfl
  | 2, _ => rfl
theorem cellsT_set (N : Nat) (S : Nat → LS) {n k : Nat} (hn : n < N) (hk : k < 3) {v : Value} {s' : LS} (hs : Sets (S n) s' k v) : (cellsT N S).setIfInBounds (n * 3 + k) v = cellsT N (upd S n s') := by
  apply Array.ext_getElem?
  intro i
  rw [Array.getElem?_setIfInBounds]
  by_cases hi : i < N * 3
  · rw [cellsT_get hi, cellsT_get hi, cellsT_size]
    by_cases e : n * 3 + k = i
    · subst e
      have h1 : (n * 3 + k) / 3 = n := by omega
      have h2 : (n * 3 + k) % 3 = k := by omega
      rw [if_pos rfl, if_pos hi, h1, h2, upd_same, hs k hk, if_pos rfl]
    · rw [if_neg e]
      by_cases e2 : i / 3 = n
      · have h3 : k ≠ i % 3 := by omega
        rw [e2, upd_same, hs _ (by omega), if_neg h3]
      · simp [upd, e2]
  · rw [if_neg (by omega), Array.getElem?_eq_none (by rw [cellsT_size]; omega), Array.getElem?_eq_none (by rw [cellsT_size]; omega)]

/-- Is there such an id? -/
def okF (N : Nat) (f : Int) : Bool := decide (0 ≤ f ∧ f < N)
theorem okF_yes {N : Nat} {f : Int} (h : okF N f = true) : 0 ≤ f ∧ f < N := by simpa [okF] using h
theorem okF_no {N : Nat} {f : Int} (h : okF N f = false) : ¬ (0 ≤ f ∧ f < N) := by simp [okF] at h; omega
theorem okF_nat {N f : Nat} (h : f < N) : okF N (f : Int) = true := by simp [okF]; omega
theorem okF_split {N : Nat} {f : Int} (h : okF N f = true) : ∃ c : Nat, f = c ∧ c < N := by
  have := okF_yes h
  exact ⟨f.toNat, by omega, by omega⟩

/-- May it be taken at that floor? -/
def may (fl : Int) (s : LS) : Bool := !s.on && decide (s.ep < 65535) && (!(decide (0 < s.ep)) || decide (s.tm < fl))
/-- Does it live in that epoch? -/
def inE (e : Int) (s : LS) : Bool := s.on && s.ep == e
/-- The least number below N of which p holds, or N. -/
def first (p : LS → Bool) (S : Nat → LS) : Nat → Nat
  | 0 => 0
  | N + 1 => if first p S N < N then first p S N else if p (S N) = true then N else N + 1
theorem first_miss {p : LS → Bool} {S : Nat → LS} {N : Nat} (h : ∀ j, j < N → p (S j) = false) : first p S N = N := by
  induction N with
  | zero => rfl
  | succ N ih =>
    have e := ih fun j hj => h j (by omega)
    simp [first, e, h N (by omega)]
theorem first_hit {p : LS → Bool} {S : Nat → LS} {N k : Nat} (hk : k < N) (h1 : p (S k) = true) (h0 : ∀ j, j < k → p (S j) = false) : first p S N = k := by
  induction N with
  | zero => omega
  | succ N ih =>
    by_cases e : k = N
    · subst e
      simp [first, first_miss h0, h1]
    · have := ih (by omega)
      simp only [first, this]
      rw [if_pos (by omega)]
theorem first_cases (p : LS → Bool) (S : Nat → LS) (N : Nat) : (∃ k, k < N ∧ p (S k) = true ∧ ∀ j, j < k → p (S j) = false) ∨ ∀ j, j < N → p (S j) = false := by
  induction N with
  | zero => exact .inr fun j hj => absurd hj (Nat.not_lt_zero _)
  | succ N ih =>
    rcases ih with ⟨k, hk, h1, h0⟩ | h
    · exact .inl ⟨k, by omega, h1, h0⟩
    · cases hq : p (S N)
      · exact .inr fun j hj => by
          by_cases e : j = N
          · subst e; exact hq
          · exact h j (by omega)
      · exact .inl ⟨N, by omega, hq, h⟩
/-- What Take answers, and what the ids are behind it. -/
def tkN (N : Nat) (S : Nat → LS) (fl : Int) : Nat := first (may fl) S N
def tkI (N : Nat) (S : Nat → LS) (fl : Int) : Int := if tkN N S fl < N then (tkN N S fl : Int) else 0
def tkE (N : Nat) (S : Nat → LS) (fl : Int) : Int := if tkN N S fl < N then (S (tkN N S fl)).ep else 0
def tkR (N : Nat) (S : Nat → LS) (fl : Int) : Int := if tkN N S fl < N then 0 else 2
def tkS (N : Nat) (S : Nat → LS) (fl : Int) : Nat → LS := if tkN N S fl < N then upd S (tkN N S fl) { S (tkN N S fl) with on := true } else S
/-- What Valid answers. -/
def vaA (N : Nat) (S : Nat → LS) (id e : Int) : Bool := okF N id && inE e (S id.toNat)
/-- What Kill answers, and what the ids are behind it. -/
def klR (N : Nat) (S : Nat → LS) (id e : Int) : Int := if okF N id = true then (if inE e (S id.toNat) = true then 0 else 7) else 1
def klS (N : Nat) (S : Nat → LS) (id e now : Int) : Nat → LS := if vaA N S id e = true then upd S id.toNat ⟨false, e + 1, now⟩ else S
/-- What Count answers. -/
def cnt (S : Nat → LS) : Nat → Nat
  | 0 => 0
  | N + 1 => if (S N).on = true then cnt S N + 1 else cnt S N
theorem cnt_le (S : Nat → LS) (N : Nat) : cnt S N ≤ N := by
  induction N with
  | zero => exact Nat.le_refl _
  | succ N ih => simp only [cnt]; split <;> omega

theorem tk_hit {N : Nat} {S : Nat → LS} {fl : Int} {k : Nat} (hk : k < N) (h1 : may fl (S k) = true) (h0 : ∀ j, j < k → may fl (S j) = false) :
    tkI N S fl = k ∧ tkE N S fl = (S k).ep ∧ tkR N S fl = 0 ∧ tkS N S fl = upd S k { S k with on := true } := by
  have e : tkN N S fl = k := first_hit hk h1 h0
  simp [tkI, tkE, tkR, tkS, e, hk]
theorem tk_miss {N : Nat} {S : Nat → LS} {fl : Int} (h : ∀ j, j < N → may fl (S j) = false) :
    tkI N S fl = 0 ∧ tkE N S fl = 0 ∧ tkR N S fl = 2 ∧ tkS N S fl = S := by
  have e : tkN N S fl = N := first_miss h
  simp [tkI, tkE, tkR, tkS, e]

theorem kl_bad {N : Nat} {S : Nat → LS} {id e now : Int} (h : okF N id = false) : klR N S id e = 1 ∧ klS N S id e now = S := by simp [klR, klS, vaA, h]
theorem kl_no {N : Nat} {S : Nat → LS} {n : Nat} {e now : Int} (h : okF N n = true) (hl : inE e (S n) = false) : klR N S n e = 7 ∧ klS N S n e now = S := by simp [klR, klS, vaA, h, hl]
theorem kl_yes {N : Nat} {S : Nat → LS} {n : Nat} {e now : Int} (h : okF N n = true) (hl : inE e (S n) = true) : klR N S n e = 0 ∧ klS N S n e now = upd S n ⟨false, e + 1, now⟩ := by simp [klR, klS, vaA, h, hl]

/-- Epochs are none below nought, and none past the last one; who lives is not in the last one. -/
def LS.ok (s : LS) : Prop := 0 ≤ s.ep ∧ s.ep ≤ 65535 ∧ (s.on = true → s.ep < 65535)
def okA (S : Nat → LS) : Prop := ∀ i, (S i).ok
theorem ok_no : okA fun _ => noLS := fun _ => ⟨by simp [noLS], by simp [noLS], by simp [noLS]⟩
theorem ok_upd {S : Nat → LS} (h : okA S) {n : Nat} {s : LS} (hs : s.ok) : okA (upd S n s) := by
  intro i
  simp only [upd]
  split
  · exact hs
  · exact h i
theorem may_lt {fl : Int} {s : LS} (h : may fl s = true) : s.on = false ∧ s.ep < 65535 := by
  simp [may] at h
  exact ⟨h.1.1, h.1.2⟩
theorem inE_yes {e : Int} {s : LS} (h : inE e s = true) : s.on = true ∧ s.ep = e := by
  simpa [inE] using h
theorem ok_tk {S : Nat → LS} (h : okA S) (N : Nat) (fl : Int) : okA (tkS N S fl) := by
  rcases first_cases (may fl) S N with ⟨k, hk, h1, h0⟩ | h0
  · rw [(tk_hit hk h1 h0).2.2.2]
    obtain ⟨a, b, c⟩ := h k
    exact ok_upd h ⟨a, b, fun _ => (may_lt h1).2⟩
  · rw [(tk_miss h0).2.2.2]
    exact h
theorem ok_kl {S : Nat → LS} (h : okA S) (N : Nat) (id e now : Int) : okA (klS N S id e now) := by
  unfold klS
  split
  · rename_i hv
    simp only [vaA, Bool.and_eq_true] at hv
    obtain ⟨a, b⟩ := inE_yes hv.2
    obtain ⟨h1, h2, h3⟩ := h id.toNat
    have := h3 a
    exact ok_upd h ⟨by simp only; omega, by simp only; omega, by simp⟩
  · exact h

/-- Memory was made, and none that was there changed. -/
theorem below_drewN {B : Nat} {a w : World} (h : Below B a w) (n : Nat) : Below B a (w.drewN n) := ⟨h.os, h.tape, h.output, h.size, h.block⟩

/-- A table of N ids lies behind the pointer to block p, its ids in block r. -/
structure TblIs (w : World) (p r N : Nat) (S : Nat → LS) : Prop where
  head : w.heap[p]? = some (.cells #[.slice (some ⟨r, 0, none⟩) N N] 116 (0, 0))
  row : w.heap[r]? = some (.cells (cellsT N S) 161 (0, 0))
  ok : okA S
theorem TblIs.cell {w : World} {p r N : Nat} {S : Nat → LS} (h : TblIs w p r N S) : w.cell? ⟨p, 0, none⟩ = some (.slice (some ⟨r, 0, none⟩) N N) := by
  rw [cell_of_row w p 0 _ _ _ h.head]; rfl
theorem TblIs.fld {w : World} {p r N : Nat} {S : Nat → LS} (h : TblIs w p r N S) {n k : Nat} (hn : n < N) (hk : k < 3) : w.cell? ⟨r, n * 3 + k, none⟩ = some (fld (S n) k) := by
  rw [cell_of_row w r _ _ _ _ h.row, cellsT_at hn hk]
theorem TblIs.at {w : World} {p r N : Nat} {S : Nat → LS} (h : TblIs w p r N S) {n : Nat} (hn : n < N) :
    w.cell? ⟨r, n * 3, none⟩ = some (.bool (S n).on) ∧ w.cell? ⟨r, n * 3 + 1, none⟩ = some (.int .i64 (S n).ep) ∧ w.cell? ⟨r, n * 3 + 2, none⟩ = some (.int .i64 (S n).tm) :=
  ⟨h.fld (k := 0) hn (by omega), h.fld hn (by omega), h.fld hn (by omega)⟩
theorem TblIs.free {w : World} {p r N : Nat} {S : Nat → LS} (h : TblIs w p r N S) (j : Nat) : w.frozen? ⟨r, j, none⟩ = false := frozen_of_row w r j _ _ h.row
theorem TblIs.lt {w : World} {p r N : Nat} {S : Nat → LS} (h : TblIs w p r N S) : p < w.heap.size := (Array.getElem?_eq_some_iff.1 h.head).1
theorem TblIs.ltr {w : World} {p r N : Nat} {S : Nat → LS} (h : TblIs w p r N S) : r < w.heap.size := (Array.getElem?_eq_some_iff.1 h.row).1
theorem TblIs.ne {w : World} {p r N : Nat} {S : Nat → LS} (h : TblIs w p r N S) : p ≠ r := by
  rintro rfl
  have := h.head.symm.trans h.row
  simp at this
theorem TblIs.on {w w' : World} {p r N : Nat} {S : Nat → LS} (h : TblIs w p r N S) (hp : w'.heap[p]? = w.heap[p]?) (hr : w'.heap[r]? = w.heap[r]?) : TblIs w' p r N S := ⟨hp.trans h.head, hr.trans h.row, h.ok⟩
theorem TblIs.more {w w' : World} {p r N : Nat} {S : Nat → LS} (h : TblIs w p r N S) (hB : Below w.heap.size w w') : TblIs w' p r N S := h.on (hB.block p h.lt) (hB.block r h.ltr)
theorem TblIs.drewN {w : World} {p r N : Nat} {S : Nat → LS} (h : TblIs w p r N S) (n : Nat) : TblIs (w.drewN n) p r N S := h.on rfl rfl
theorem TblIs.drew {w : World} {p r N : Nat} {S : Nat → LS} (h : TblIs w p r N S) : TblIs w.drew p r N S := h.on rfl rfl
theorem TblIs.self {w : World} {p r N : Nat} {S : Nat → LS} (h : TblIs w p r N S) : w.setRow r (cellsT N S) = w := setRow_self _ _ _ _ _ h.row
theorem TblIs.set {w : World} {p r N : Nat} {S : Nat → LS} (h : TblIs w p r N S) {T : Nat → LS} (hT : okA T) : TblIs (w.setRow r (cellsT N T)) p r N T :=
  ⟨(setRow_other w r p _ h.ne).trans h.head, setRow_heap _ _ _ _ _ _ h.row, hT⟩
/-- One cell is written. -/
theorem TblIs.put {w : World} {p r N : Nat} {S : Nat → LS} (h : TblIs w p r N S) {n k : Nat} (hn : n < N) (hk : k < 3) {v : Value} {s' : LS} (hs : Sets (S n) s' k v) :
    w.setCell ⟨r, n * 3 + k, none⟩ v = w.setRow r (cellsT N (upd S n s')) := by
  rw [setCell_eq_setRow w r _ _ _ _ _ h.row, cellsT_set N S hn hk hs]
theorem row_put {w : World} {r N : Nat} {S T : Nat → LS} (h : w.heap[r]? = some (.cells (cellsT N S) 161 (0, 0))) {n k : Nat} (hn : n < N) (hk : k < 3) {v : Value} {s' : LS} (hs : Sets (T n) s' k v) :
    (w.setRow r (cellsT N T)).setCell ⟨r, n * 3 + k, none⟩ v = w.setRow r (cellsT N (upd T n s')) := by
  rw [setCell_eq_setRow _ r _ _ _ _ _ (setRow_heap _ _ _ _ _ _ h), setRow_setRow, cellsT_set N T hn hk hs]
theorem TblIs.put0 {w : World} {p r N : Nat} {S : Nat → LS} (h : TblIs w p r N S) {n : Nat} (hn : n < N) (b : Bool) :
    w.setCell ⟨r, n * 3, none⟩ (.bool b) = w.setRow r (cellsT N (upd S n { S n with on := b })) := h.put (k := 0) hn (by omega) (sets0 _ b)
/-- A call made memory, and wrote the row of block r. -/
def Did (w w' : World) (r N : Nat) (T : Nat → LS) : Prop := ∃ w1, Below w.heap.size w w1 ∧ w' = w1.setRow r (cellsT N T)
theorem Did.tbl {w w' : World} {p r N : Nat} {S T : Nat → LS} (h : Did w w' r N T) (hI : TblIs w p r N S) (hT : okA T) : TblIs w' p r N T := by
  obtain ⟨w1, hB, rfl⟩ := h
  exact (hI.more hB).set hT
theorem Did.below {w w' : World} {r N : Nat} {T : Nat → LS} (h : Did w w' r N T) {B : Nat} (hB : B ≤ r) (hs : B ≤ w.heap.size) : Below B w w' := by
  obtain ⟨w1, hB1, rfl⟩ := h
  exact below_setRow (hB1.mono hs) hB _
theorem Did.block {w w' : World} {r N : Nat} {T : Nat → LS} (h : Did w w' r N T) {b : Nat} (hb : b < w.heap.size) (hr : b ≠ r) : w'.heap[b]? = w.heap[b]? := by
  obtain ⟨w1, hB1, rfl⟩ := h
  exact (setRow_other w1 r b _ hr).trans (hB1.block b hb)
theorem Did.size {w w' : World} {r N : Nat} {T : Nat → LS} (h : Did w w' r N T) : w.heap.size ≤ w'.heap.size := by
  have := (h.below (Nat.zero_le _) (Nat.zero_le _)).size
  obtain ⟨w1, hB1, rfl⟩ := h
  have := hB1.size
  simpa using this
theorem Did.drew {w w' : World} {r N : Nat} {T : Nat → LS} (h : Did w w' r N T) : Did w w'.drew r N T := by
  obtain ⟨w1, hB1, rfl⟩ := h
  exact ⟨w1.drew, hB1.drew, rfl⟩
theorem Did.drewN {w w' : World} {r N : Nat} {T : Nat → LS} (h : Did w w' r N T) (n : Nat) : Did w (w'.drewN n) r N T := by
  obtain ⟨w1, hB1, rfl⟩ := h
  exact ⟨w1.drewN n, below_drewN hB1 n, rfl⟩
theorem Did.none {w w' : World} {p r N : Nat} {S : Nat → LS} (hI : TblIs w p r N S) (hB : Below w.heap.size w w') : Did w w' r N S := ⟨w', hB, (hI.more hB).self.symm⟩

end Go.Proofs.Ytdlpibmdcfillaa.Plive

/- No function of the shelf that this text would speak of is in the cut. -/
namespace Go.Proofs.Ytdlpibmdcfillaa
end Go.Proofs.Ytdlpibmdcfillaa

/- What the inner calls of package live answer and do (unmade, has, livesIn, wasKilled, mayBeTaken and its closure), for every argument that their types allow. -/
namespace Go.Proofs.Ytdlpibmdcfillaa.Plive
open Go.Proofs.Ytdlpibmdcfillaa.Pbase
open Go.Shelf Go.RowKit Go.Lib
set_option linter.unusedVariables false

/-! ### unmade, has -/
/-! ### livesIn, wasKilled -/
/-! ### mayBeTaken -/
def encL (s : LS) : List Value := [.bool s.on, .int .i64 s.ep, .int .i64 s.tm]
end Go.Proofs.Ytdlpibmdcfillaa.Plive

/- What the calls of package live answer, and what they do to the ids, for every argument that their types allow: all but New. -/
namespace Go.Proofs.Ytdlpibmdcfillaa.Plive
open Go.Proofs.Ytdlpibmdcfillaa.Pbase
open Go.Shelf Go.RowKit Go.Lib
set_option linter.unusedVariables false

/-! ### slices.IndexFunc over the table's ids -/
theorem new_cell (w : World) (fl : Int) : (w.drew.alloc (.cells #[.int .i64 fl] 3)).cell? ⟨w.heap.size, 0, none⟩ = some (.int .i64 fl) := by
  exact World.cell?_alloc_new (w := w.drew) #[.int .i64 fl] 3 0
/-! ### Take -/
/-! ### Kill -/
/-! ### Valid -/
/-! ### Count -/
end Go.Proofs.Ytdlpibmdcfillaa.Plive

/- What New of package live answers and makes; and what 'awake' of the statements answers. -/
namespace Go.Proofs.Ytdlpibmdcfillaa.Plive
open Go.Proofs.Ytdlpibmdcfillaa.Pbase
open Go.RowKit
set_option linter.unusedVariables false

set_option maxRecDepth 100000 in
theorem infoBeing : (Try.prog.info? 161).map (fun i => (i.zero, i.size, i.bytes)) = some (some (.agg #[.bool false, .int .i64 0, .int .i64 0]), 3, 24) := by kernel_rfl
theorem made_beings (N : Nat) : madeCells #[.bool false, .int .i64 0, .int .i64 0] (N * 3) = cellsT N fun _ => noLS := by
  apply Array.ext_getElem?
  intro i
  by_cases hi : i < N * 3
  · rw [cellsT_get hi]
    have h4 : i % 3 < 3 := by omega
    have key : ∀ j, j < 3 → (#[Value.bool false, .int .i64 0, .int .i64 0] : Array Value)[j]? = some (fld noLS j) := by
      intro j hj
      match j, hj with
      | 0, _ => rfl
      | 1, _ => rfl
      | 2, _ => rfl
    have k4 := key _ h4
    simp only [List.getElem?_toArray] at k4
    simp [madeCells, hi, k4]
  · simp [madeCells, cellsT, hi]
theorem make_beings (w : World) :
    (Instr.makeSlice 114 (.int .i64 64) (.int .i64 64)).run Try.prog w = .ok (.slice (some ⟨w.heap.size, 0, none⟩) 64 64) (w.alloc (.cells (cellsT 64 fun _ => noLS) 161)) := by
  obtain ⟨i0, hi, hz0, hz1, hz2⟩ := info_parts infoBeing
  have := run_make (P := Try.prog) w 114 161 i0 _ Try.underlying114 hi hz0 .i64 .i64 64 64 (by omega) (by omega) (by rw [hz2]; omega) (by omega)
  rw [hz1] at this
  simpa [Value.cells, made_beings 64] using this
/-- The call's table has the ids S; nothing of w was changed. -/
structure Own (w wr : World) (S : Nat → LS) : Prop where
  tbl : TblIs wr (w.heap.size + 1) w.heap.size 64 S
  below : Below w.heap.size w wr
theorem Own.drew {w wr : World} {S : Nat → LS} (h : Own w wr S) : Own w wr.drew S := ⟨h.tbl.drew, h.below.drew⟩
theorem Own.drewN {w wr : World} {S : Nat → LS} (h : Own w wr S) (n : Nat) : Own w (wr.drewN n) S := ⟨h.tbl.drewN n, below_drewN h.below n⟩
theorem Own.more {w wr w' : World} {S : Nat → LS} (h : Own w wr S) (k : Below wr.heap.size wr w') : Own w w' S := ⟨h.tbl.more k, h.below.trans (k.mono h.below.size)⟩
theorem Own.did {w wr w' : World} {S T : Nat → LS} (h : Own w wr S) (k : Did wr w' w.heap.size 64 T) (hT : okA T) : Own w w' T := ⟨k.tbl h.tbl hT, h.below.trans (k.below (Nat.le_refl _) h.below.size)⟩
set_option maxRecDepth 100000 in
theorem new_any (w : World) :
    Calls Try.prog 32 #[] w fun e w' => e = .returned (.pointer (some ⟨w.heap.size + 1, 0, none⟩)) ∧ Own w w' (fun _ => noLS) := by
  have hmk := make_beings
  go_enter Try.func32, Try.ntmps32
  go_wp2
  go_ret
  exact ⟨rfl, ⟨heap_alloc2_new _ _ _, heap_alloc2_old _ _ _, ok_no⟩, ((Below.refl _ w).alloc (Nat.le_refl _) _).alloc (by simp) _⟩
end Go.Proofs.Ytdlpibmdcfillaa.Plive
