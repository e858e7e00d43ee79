/- Texts on finished packages, joined. -/
import Derived.Test.YtcgekcjnaadcmaaGreatDoorBunBase
import Derived.Laws.CopyRow
import Derived.ChangeKeysEq
import Derived.Below
import Derived.RowKit3
import Derived.Laws.CopyOwn
import Derived.WalkKit
import Derived.ChangeOld
import Derived.BigQuiet
import Derived.Shelf.SlicesQ.IndexFunc
import Derived.Test.YtcgekcjnaadcmaaGreatDoorRows
import Derived.ProofKit
import Derived.OpenShut
import Derived.Outline
import Derived.Deep.QuietTactic
import Derived.Deep.RegionHeld3
import Derived.Deep.RegionWith
import Derived.OwnWalk
import Derived.BigRegion

/- Ids that lie in one row of structs, and what the calls of a table make of them: plain definitions and lemmas; no function of the program is named. -/
namespace Go.Proofs.YtcgekcjnaadcmaaGreatDoor.Plive
open Go.Proofs.YtcgekcjnaadcmaaGreatDoor.Pbase
open Go.RowKit
set_option linter.unusedVariables false

/-- An id: does it live, its epoch, when it was killed last. -/
structure LS where
  on : Bool
  ep : Int
  tm : Int
def noLS : LS := ⟨false, 0, 0⟩
def fld (s : LS) (k : Nat) : Value := if k = 0 then .bool s.on else if k = 1 then .int .i64 s.ep else .int .i64 s.tm
/-- The cells of N ids. -/
def cellsT (N : Nat) (S : Nat → LS) : Array Value := ((List.range (N * 3)).map fun j => fld (S (j / 3)) (j % 3)).toArray
theorem cellsT_size (N : Nat) (S : Nat → LS) : (cellsT N S).size = N * 3 := by simp [cellsT]
theorem cellsT_get {N : Nat} {S : Nat → LS} {j : Nat} (h : j < N * 3) : (cellsT N S)[j]? = some (fld (S (j / 3)) (j % 3)) := by
  simp [cellsT, h]
theorem cellsT_at {N : Nat} {S : Nat → LS} {n k : Nat} (h : n < N) (hk : k < 3) : (cellsT N S)[n * 3 + k]? = some (fld (S n) k) := by
  rw [cellsT_get (by omega)]
  have h1 : (n * 3 + k) / 3 = n := by omega
  have h2 : (n * 3 + k) % 3 = k := by omega
  rw [h1, h2]
def upd (S : Nat → LS) (n : Nat) (x : LS) : Nat → LS := fun i => if i = n then x else S i
theorem upd_same (S : Nat → LS) (n : Nat) (x : LS) : upd S n x n = x := by simp [upd]
theorem upd_upd (S : Nat → LS) (n : Nat) (x y : LS) : upd (upd S n x) n y = upd S n y := by
  funext i
  simp only [upd]
  split <;> rfl
/-- Cell k of s' is v, and its other cells are those of s. -/
def Sets (s s' : LS) (k : Nat) (v : Value) : Prop := ∀ j, j < 3 → fld s' j = if k = j then v else fld s j
theorem sets0 (s : LS) (b : Bool) : Sets s { s with on := b } 0 (.bool b) := fun j hj => by
  match j, hj with
  | 0, _ => rfl
  | 1, _ => rfl
  | 2, _ => rfl
theorem sets1 (s : LS) (b : Int) : Sets s { s with ep := b } 1 (.int .i64 b) := fun j hj => by
  match j, hj with
  | 0, _ => rfl
  | 1, _ => rfl
  | 2, _ => rfl
theorem sets2 (s : LS) (b : Int) : Sets s { s with tm := b } 2 (.int .i64 b) := fun j hj => by
  match j, hj with
  | 0, _ => rfl
  | 1, _ => rfl
  | 2, _ => rfl
theorem cellsT_set (N : Nat) (S : Nat → LS) {n k : Nat} (hn : n < N) (hk : k < 3) {v : Value} {s' : LS} (hs : Sets (S n) s' k v) : (cellsT N S).setIfInBounds (n * 3 + k) v = cellsT N (upd S n s') := by
  apply Array.ext_getElem?
  intro i
  rw [Array.getElem?_setIfInBounds]
  by_cases hi : i < N * 3
  · rw [cellsT_get hi, cellsT_get hi, cellsT_size]
    by_cases e : n * 3 + k = i
    · subst e
      have h1 : (n * 3 + k) / 3 = n := by omega
      have h2 : (n * 3 + k) % 3 = k := by omega
      rw [if_pos rfl, if_pos hi, h1, h2, upd_same, hs k hk, if_pos rfl]
    · rw [if_neg e]
      by_cases e2 : i / 3 = n
      · have h3 : k ≠ i % 3 := by omega
        rw [e2, upd_same, hs _ (by omega), if_neg h3]
      · simp [upd, e2]
  · rw [if_neg (by omega), Array.getElem?_eq_none (by rw [cellsT_size]; omega), Array.getElem?_eq_none (by rw [cellsT_size]; omega)]

/-- Is there such an id? -/
def okF (N : Nat) (f : Int) : Bool := decide (0 ≤ f ∧ f < N)
theorem okF_yes {N : Nat} {f : Int} (h : okF N f = true) : 0 ≤ f ∧ f < N := by simpa [okF] using h
theorem okF_split {N : Nat} {f : Int} (h : okF N f = true) : ∃ c : Nat, f = c ∧ c < N := by
  have := okF_yes h
  exact ⟨f.toNat, by omega, by omega⟩

/-- May it be taken at that floor? -/
def may (fl : Int) (s : LS) : Bool := !s.on && decide (s.ep < 65535) && (!(decide (0 < s.ep)) || decide (s.tm < fl))
/-- Does it live in that epoch? -/
def inE (e : Int) (s : LS) : Bool := s.on && s.ep == e
/-- The least number below N of which p holds, or N. -/
def first (p : LS → Bool) (S : Nat → LS) : Nat → Nat
  | 0 => 0
  | N + 1 => if first p S N < N then first p S N else if p (S N) = true then N else N + 1
theorem first_miss {p : LS → Bool} {S : Nat → LS} {N : Nat} (h : ∀ j, j < N → p (S j) = false) : first p S N = N := by
  induction N with
  | zero => rfl
  | succ N ih =>
    have e := ih fun j hj => h j (by omega)
    simp [first, e, h N (by omega)]
theorem first_hit {p : LS → Bool} {S : Nat → LS} {N k : Nat} (hk : k < N) (h1 : p (S k) = true) (h0 : ∀ j, j < k → p (S j) = false) : first p S N = k := by
  induction N with
  | zero => omega
  | succ N ih =>
    by_cases e : k = N
    · subst e
      simp [first, first_miss h0, h1]
    · have := ih (by omega)
      simp only [first, this]
      rw [if_pos (by omega)]
theorem first_cases (p : LS → Bool) (S : Nat → LS) (N : Nat) : (∃ k, k < N ∧ p (S k) = true ∧ ∀ j, j < k → p (S j) = false) ∨ ∀ j, j < N → p (S j) = false := by
  induction N with
  | zero => exact .inr fun j hj => absurd hj (Nat.not_lt_zero _)
  | succ N ih =>
    rcases ih with ⟨k, hk, h1, h0⟩ | h
    · exact .inl ⟨k, by omega, h1, h0⟩
    · cases hq : p (S N)
      · exact .inr fun j hj => by
          by_cases e : j = N
          · subst e; exact hq
          · exact h j (by omega)
      · exact .inl ⟨N, by omega, hq, h⟩
/-- What Take answers, and what the ids are behind it. -/
def tkN (N : Nat) (S : Nat → LS) (fl : Int) : Nat := first (may fl) S N
def tkI (N : Nat) (S : Nat → LS) (fl : Int) : Int := if tkN N S fl < N then (tkN N S fl : Int) else 0
def tkE (N : Nat) (S : Nat → LS) (fl : Int) : Int := if tkN N S fl < N then (S (tkN N S fl)).ep else 0
def tkR (N : Nat) (S : Nat → LS) (fl : Int) : Int := if tkN N S fl < N then 0 else 2
def tkS (N : Nat) (S : Nat → LS) (fl : Int) : Nat → LS := if tkN N S fl < N then upd S (tkN N S fl) { S (tkN N S fl) with on := true } else S
/-- What Valid answers. -/
def vaA (N : Nat) (S : Nat → LS) (id e : Int) : Bool := okF N id && inE e (S id.toNat)
/-- What Kill answers, and what the ids are behind it. -/
def klR (N : Nat) (S : Nat → LS) (id e : Int) : Int := if okF N id = true then (if inE e (S id.toNat) = true then 0 else 7) else 1
def klS (N : Nat) (S : Nat → LS) (id e now : Int) : Nat → LS := if vaA N S id e = true then upd S id.toNat ⟨false, e + 1, now⟩ else S
theorem tk_hit {N : Nat} {S : Nat → LS} {fl : Int} {k : Nat} (hk : k < N) (h1 : may fl (S k) = true) (h0 : ∀ j, j < k → may fl (S j) = false) :
    tkI N S fl = k ∧ tkE N S fl = (S k).ep ∧ tkR N S fl = 0 ∧ tkS N S fl = upd S k { S k with on := true } := by
  have e : tkN N S fl = k := first_hit hk h1 h0
  simp [tkI, tkE, tkR, tkS, e, hk]
theorem tk_miss {N : Nat} {S : Nat → LS} {fl : Int} (h : ∀ j, j < N → may fl (S j) = false) :
    tkI N S fl = 0 ∧ tkE N S fl = 0 ∧ tkR N S fl = 2 ∧ tkS N S fl = S := by
  have e : tkN N S fl = N := first_miss h
  simp [tkI, tkE, tkR, tkS, e]

theorem kl_bad {N : Nat} {S : Nat → LS} {id e now : Int} (h : okF N id = false) : klR N S id e = 1 ∧ klS N S id e now = S := by simp [klR, klS, vaA, h]
theorem kl_no {N : Nat} {S : Nat → LS} {n : Nat} {e now : Int} (h : okF N n = true) (hl : inE e (S n) = false) : klR N S n e = 7 ∧ klS N S n e now = S := by simp [klR, klS, vaA, h, hl]
theorem kl_yes {N : Nat} {S : Nat → LS} {n : Nat} {e now : Int} (h : okF N n = true) (hl : inE e (S n) = true) : klR N S n e = 0 ∧ klS N S n e now = upd S n ⟨false, e + 1, now⟩ := by simp [klR, klS, vaA, h, hl]

/-- Epochs are none below nought, and none past the last one; who lives is not in the last one. -/
def LS.ok (s : LS) : Prop := 0 ≤ s.ep ∧ s.ep ≤ 65535 ∧ (s.on = true → s.ep < 65535)
def okA (S : Nat → LS) : Prop := ∀ i, (S i).ok
theorem ok_no : okA fun _ => noLS := fun _ => ⟨by simp [noLS], by simp [noLS], by simp [noLS]⟩
theorem ok_upd {S : Nat → LS} (h : okA S) {n : Nat} {s : LS} (hs : s.ok) : okA (upd S n s) := by
  intro i
  simp only [upd]
  split
  · exact hs
  · exact h i
theorem may_lt {fl : Int} {s : LS} (h : may fl s = true) : s.on = false ∧ s.ep < 65535 := by
  simp [may] at h
  exact ⟨h.1.1, h.1.2⟩
theorem inE_yes {e : Int} {s : LS} (h : inE e s = true) : s.on = true ∧ s.ep = e := by
  simpa [inE] using h
theorem ok_tk {S : Nat → LS} (h : okA S) (N : Nat) (fl : Int) : okA (tkS N S fl) := by
  rcases first_cases (may fl) S N with ⟨k, hk, h1, h0⟩ | h0
  · rw [(tk_hit hk h1 h0).2.2.2]
    obtain ⟨a, b, c⟩ := h k
    exact ok_upd h ⟨a, b, fun _ => (may_lt h1).2⟩
  · rw [(tk_miss h0).2.2.2]
    exact h
theorem ok_kl {S : Nat → LS} (h : okA S) (N : Nat) (id e now : Int) : okA (klS N S id e now) := by
  unfold klS
  split
  · rename_i hv
    simp only [vaA, Bool.and_eq_true] at hv
    obtain ⟨a, b⟩ := inE_yes hv.2
    obtain ⟨h1, h2, h3⟩ := h id.toNat
    have := h3 a
    exact ok_upd h ⟨by simp only; omega, by simp only; omega, by simp⟩
  · exact h

/-- Memory was made, and none that was there changed. -/
theorem below_drewN {B : Nat} {a w : World} (h : Below B a w) (n : Nat) : Below B a (w.drewN n) := ⟨h.os, h.tape, h.output, h.size, h.block⟩

/-- A table of N ids lies behind the pointer to block p, its ids in block r. -/
structure TblIs (w : World) (p r N : Nat) (S : Nat → LS) : Prop where
  head : w.heap[p]? = some (.cells #[.slice (some ⟨r, 0, none⟩) N N] 181 (0, 0))
  row : w.heap[r]? = some (.cells (cellsT N S) 179 (0, 0))
  ok : okA S
theorem TblIs.cell {w : World} {p r N : Nat} {S : Nat → LS} (h : TblIs w p r N S) : w.cell? ⟨p, 0, none⟩ = some (.slice (some ⟨r, 0, none⟩) N N) := by
  rw [cell_of_row w p 0 _ _ _ h.head]; rfl
theorem TblIs.fld {w : World} {p r N : Nat} {S : Nat → LS} (h : TblIs w p r N S) {n k : Nat} (hn : n < N) (hk : k < 3) : w.cell? ⟨r, n * 3 + k, none⟩ = some (fld (S n) k) := by
  rw [cell_of_row w r _ _ _ _ h.row, cellsT_at hn hk]
theorem TblIs.at {w : World} {p r N : Nat} {S : Nat → LS} (h : TblIs w p r N S) {n : Nat} (hn : n < N) :
    w.cell? ⟨r, n * 3, none⟩ = some (.bool (S n).on) ∧ w.cell? ⟨r, n * 3 + 1, none⟩ = some (.int .i64 (S n).ep) ∧ w.cell? ⟨r, n * 3 + 2, none⟩ = some (.int .i64 (S n).tm) :=
  ⟨h.fld (k := 0) hn (by omega), h.fld hn (by omega), h.fld hn (by omega)⟩
theorem TblIs.free {w : World} {p r N : Nat} {S : Nat → LS} (h : TblIs w p r N S) (j : Nat) : w.frozen? ⟨r, j, none⟩ = false := frozen_of_row w r j _ _ h.row
theorem TblIs.lt {w : World} {p r N : Nat} {S : Nat → LS} (h : TblIs w p r N S) : p < w.heap.size := (Array.getElem?_eq_some_iff.1 h.head).1
theorem TblIs.ltr {w : World} {p r N : Nat} {S : Nat → LS} (h : TblIs w p r N S) : r < w.heap.size := (Array.getElem?_eq_some_iff.1 h.row).1
theorem TblIs.ne {w : World} {p r N : Nat} {S : Nat → LS} (h : TblIs w p r N S) : p ≠ r := by
  rintro rfl
  have := h.head.symm.trans h.row
  simp at this
theorem TblIs.on {w w' : World} {p r N : Nat} {S : Nat → LS} (h : TblIs w p r N S) (hp : w'.heap[p]? = w.heap[p]?) (hr : w'.heap[r]? = w.heap[r]?) : TblIs w' p r N S := ⟨hp.trans h.head, hr.trans h.row, h.ok⟩
theorem TblIs.more {w w' : World} {p r N : Nat} {S : Nat → LS} (h : TblIs w p r N S) (hB : Below w.heap.size w w') : TblIs w' p r N S := h.on (hB.block p h.lt) (hB.block r h.ltr)
theorem TblIs.self {w : World} {p r N : Nat} {S : Nat → LS} (h : TblIs w p r N S) : w.setRow r (cellsT N S) = w := setRow_self _ _ _ _ _ h.row
theorem TblIs.set {w : World} {p r N : Nat} {S : Nat → LS} (h : TblIs w p r N S) {T : Nat → LS} (hT : okA T) : TblIs (w.setRow r (cellsT N T)) p r N T :=
  ⟨(setRow_other w r p _ h.ne).trans h.head, setRow_heap _ _ _ _ _ _ h.row, hT⟩
/-- One cell is written. -/
theorem TblIs.put {w : World} {p r N : Nat} {S : Nat → LS} (h : TblIs w p r N S) {n k : Nat} (hn : n < N) (hk : k < 3) {v : Value} {s' : LS} (hs : Sets (S n) s' k v) :
    w.setCell ⟨r, n * 3 + k, none⟩ v = w.setRow r (cellsT N (upd S n s')) := by
  rw [setCell_eq_setRow w r _ _ _ _ _ h.row, cellsT_set N S hn hk hs]
theorem row_put {w : World} {r N : Nat} {S T : Nat → LS} (h : w.heap[r]? = some (.cells (cellsT N S) 179 (0, 0))) {n k : Nat} (hn : n < N) (hk : k < 3) {v : Value} {s' : LS} (hs : Sets (T n) s' k v) :
    (w.setRow r (cellsT N T)).setCell ⟨r, n * 3 + k, none⟩ v = w.setRow r (cellsT N (upd T n s')) := by
  rw [setCell_eq_setRow _ r _ _ _ _ _ (setRow_heap _ _ _ _ _ _ h), setRow_setRow, cellsT_set N T hn hk hs]
theorem TblIs.put0 {w : World} {p r N : Nat} {S : Nat → LS} (h : TblIs w p r N S) {n : Nat} (hn : n < N) (b : Bool) :
    w.setCell ⟨r, n * 3, none⟩ (.bool b) = w.setRow r (cellsT N (upd S n { S n with on := b })) := h.put (k := 0) hn (by omega) (sets0 _ b)
/-- A call made memory, and wrote the row of block r. -/
def Did (w w' : World) (r N : Nat) (T : Nat → LS) : Prop := ∃ w1, Below w.heap.size w w1 ∧ w' = w1.setRow r (cellsT N T)
theorem Did.tbl {w w' : World} {p r N : Nat} {S T : Nat → LS} (h : Did w w' r N T) (hI : TblIs w p r N S) (hT : okA T) : TblIs w' p r N T := by
  obtain ⟨w1, hB, rfl⟩ := h
  exact (hI.more hB).set hT
theorem Did.drewN {w w' : World} {r N : Nat} {T : Nat → LS} (h : Did w w' r N T) (n : Nat) : Did w (w'.drewN n) r N T := by
  obtain ⟨w1, hB1, rfl⟩ := h
  exact ⟨w1.drewN n, below_drewN hB1 n, rfl⟩
theorem Did.none {w w' : World} {p r N : Nat} {S : Nat → LS} (hI : TblIs w p r N S) (hB : Below w.heap.size w w') : Did w w' r N S := ⟨w', hB, (hI.more hB).self.symm⟩

end Go.Proofs.YtcgekcjnaadcmaaGreatDoor.Plive

/- Contracts of Go's library that are proved once for all programs, laid at this program's functions: which of its functions and types are meant. -/
namespace Go.Proofs.YtcgekcjnaadcmaaGreatDoor
open Go.Shelf

def idxBeing_ren : Go.Shelf.Ren := ⟨fun | 6 => 94 | n => n, fun | 22 => 177 | 23 => 179 | 25 => 182 | 3 => 3 | 0 => 0 | 4 => 4 | n => n, fun | n => n⟩
theorem idxBeing : Go.Proofs.SlLaysH0.n6 Tryz.prog idxBeing_ren := {
  mixed := by kernel_rfl,
  f6 := ⟨Tryz.f94.name, by decide, Tryz.func94.trans (congrArg some (by kernel_rfl))⟩,
  t0 := Tryz.underlying0,
  a0 := Tryz.isAgg0,
  z0 := Tryz.sizeOf0,
  v0 := Tryz.zeroValue0,
  t3 := Tryz.underlying3,
  a3 := Tryz.isAgg3,
  z3 := Tryz.sizeOf3,
  v3 := Tryz.zeroValue3,
  t4 := Tryz.underlying4,
  a4 := Tryz.isAgg4,
  z4 := Tryz.sizeOf4,
  v4 := Tryz.zeroValue4,
  t22 := Tryz.underlying177,
  a22 := Tryz.isAgg177,
  z22 := Tryz.sizeOf177,
  v22 := Tryz.zeroValue177,
  t25 := Tryz.underlying182,
  a25 := Tryz.isAgg182,
  z25 := Tryz.sizeOf182,
  v25 := Tryz.zeroValue182 }

end Go.Proofs.YtcgekcjnaadcmaaGreatDoor

/- What the inner calls of package live answer and do (unmade, has, livesIn, wasKilled, mayBeTaken and its closure), for every argument that their types allow. -/
namespace Go.Proofs.YtcgekcjnaadcmaaGreatDoor.Plive
open Go.Proofs.YtcgekcjnaadcmaaGreatDoor.Pbase
open Go.Shelf Go.RowKit Go.Lib
set_option linter.unusedVariables false

/-! ### unmade, has -/
set_option maxRecDepth 100000 in
theorem unmade_ok (p r N : Nat) (w : World) (hN1 : 1 ≤ N) (hp : w.cell? ⟨p, 0, none⟩ = some (.slice (some ⟨r, 0, none⟩) N N)) :
    Calls Tryz.prog 93 #[.pointer (some ⟨p, 0, none⟩)] w fun e w' => e = .returned (.bool false) ∧ w' = w := by
  have h0 : ((N : Int) == 0) = false := by simp; omega
  go_enter Tryz.func93, Tryz.ntmps93
  go_wp2
  go_ret
  exact ⟨rfl, rfl⟩
set_option maxRecDepth 100000 in
theorem has_any (p r N : Nat) (f : Int) (w : World) (hN : N ≤ 64) (hp : w.cell? ⟨p, 0, none⟩ = some (.slice (some ⟨r, 0, none⟩) N N)) :
    Calls Tryz.prog 127 #[.pointer (some ⟨p, 0, none⟩), .int .i64 f] w fun e w' => e = .returned (.bool (okF N f)) ∧ w' = w := by
  by_cases h0 : 0 ≤ f
  · by_cases h1 : f < (N : Int)
    · have e : okF N f = true := by simp [okF, h0, h1]
      rw [e]
      clear e
      go_enter Tryz.func127, Tryz.ntmps127
      go_wp2
      go_ret
      exact ⟨rfl, rfl⟩
    · have e : okF N f = false := by simp [okF, h0, h1]
      rw [e]
      clear e
      go_enter Tryz.func127, Tryz.ntmps127
      go_wp2
      go_ret
      exact ⟨rfl, rfl⟩
  · have e : okF N f = false := by simp [okF, h0]
    rw [e]
    clear e
    go_enter Tryz.func127, Tryz.ntmps127
    go_wp2
    go_ret
    exact ⟨rfl, rfl⟩

/-! ### livesIn, wasKilled -/
set_option maxRecDepth 100000 in
theorem livesIn_any (s : LS) (ep : Int) (w : World) :
    Calls Tryz.prog 128 #[.agg #[.bool s.on, .int .i64 s.ep, .int .i64 s.tm], .int .i64 ep] w fun e w' => e = .returned (.bool (inE ep s)) ∧ Below w.heap.size w w' := by
  obtain ⟨o, a, t⟩ := s
  simp only [inE]
  cases o
  · simp only [Bool.false_and]
    go_enter Tryz.func128, Tryz.ntmps128
    go_wp2
    go_ret
    exact ⟨rfl, (Below.refl _ w).alloc (Nat.le_refl _) _⟩
  · simp only [Bool.true_and]
    go_enter Tryz.func128, Tryz.ntmps128
    go_wp2
    go_ret
    exact ⟨rfl, (Below.refl _ w).alloc (Nat.le_refl _) _⟩
set_option maxRecDepth 100000 in
theorem wasKilled_any (o : Bool) (a t : Int) (w : World) :
    Calls Tryz.prog 143 #[.agg #[.bool o, .int .i64 a, .int .i64 t]] w fun e w' => e = .returned (.bool (decide (0 < a))) ∧ w' = w.alloc (.cells #[.bool o, .int .i64 a, .int .i64 t] 179) := by
  go_enter Tryz.func143, Tryz.ntmps143
  go_wp2
  all_goals
    go_ret
    exact ⟨rfl, rfl⟩

/-! ### mayBeTaken -/
def encL (s : LS) : List Value := [.bool s.on, .int .i64 s.ep, .int .i64 s.tm]
set_option maxRecDepth 100000 in
theorem may_any (fl : Int) (w : World) :
    Calls Tryz.prog 95 #[.int .i64 fl] w fun e w' => e = .returned (.func (.func 142) #[] #[.pointer (some ⟨w.heap.size, 0, none⟩)]) ∧ w' = w.alloc (.cells #[.int .i64 fl] 3) := by
  go_enter Tryz.func95, Tryz.ntmps95
  go_wp2
  go_ret
  exact ⟨rfl, rfl⟩
set_option maxRecDepth 100000 in
theorem may1_any (B : Nat) (fl : Int) (s : LS) (W : World) (hc : W.cell? ⟨B, 0, none⟩ = some (.int .i64 fl)) :
    Calls Tryz.prog 142 #[.agg #[.bool s.on, .int .i64 s.ep, .int .i64 s.tm], .pointer (some ⟨B, 0, none⟩)] W fun e w' => e = .returned (.bool (may fl s)) ∧ Below W.heap.size W w' := by
  have hB := World.block_lt_of_cell? W _ hc
  obtain ⟨o, a, t⟩ := s
  simp only [may]
  have k1 : ∀ x y, ((W.alloc x).alloc y).cell? ⟨B, 0, none⟩ = some (.int .i64 fl) := fun x y => (((((Below.refl _ W).alloc (Nat.le_refl _) x).alloc (by simp) y).cell (p := ⟨B, 0, none⟩) hB)).trans hc
  cases o
  · by_cases h1 : a < 65535
    · have h1' : ¬ (65535 : Int) ≤ a := by omega
      by_cases h2 : 0 < a
      · simp only [h1, h2, decide_true, Bool.not_false, Bool.not_true, Bool.true_and, Bool.false_or]
        go_enter Tryz.func142, Tryz.ntmps142
        go_wp2_with (go_at_call 143; refine (wasKilled_any _ _ _ _).mono ?_; rintro e w1 ⟨rfl, hw1⟩; subst w1; simp only [h2, decide_true])
        go_ret
        exact ⟨rfl, ((Below.refl _ W).alloc (Nat.le_refl _) _).alloc (by simp) _⟩
      · simp only [h1, h2, decide_true, decide_false, Bool.not_false, Bool.true_and, Bool.true_or]
        go_enter Tryz.func142, Tryz.ntmps142
        go_wp2_with (go_at_call 143; refine (wasKilled_any _ _ _ _).mono ?_; rintro e w1 ⟨rfl, hw1⟩; subst w1; simp only [h2, decide_false])
        go_ret
        exact ⟨rfl, ((Below.refl _ W).alloc (Nat.le_refl _) _).alloc (by simp) _⟩
    · have h1' : (65535 : Int) ≤ a := by omega
      simp only [h1, decide_false, Bool.not_false, Bool.true_and, Bool.false_and]
      clear h1 k1
      go_enter Tryz.func142, Tryz.ntmps142
      go_wp2
      go_ret
      exact ⟨rfl, (Below.refl _ W).alloc (Nat.le_refl _) _⟩
  · simp only [Bool.not_true, Bool.false_and]
    clear k1
    go_enter Tryz.func142, Tryz.ntmps142
    go_wp2
    go_ret
    exact ⟨rfl, (Below.refl _ W).alloc (Nat.le_refl _) _⟩
theorem may_pred (B : Nat) (fl : Int) (w : World) (hB : B < w.heap.size) (hc : w.cell? ⟨B, 0, none⟩ = some (.int .i64 fl)) :
    PredBelow Tryz.prog 142 #[.pointer (some ⟨B, 0, none⟩)] (fun s => .agg (encL s).toArray) (may fl) w := fun W s hb => by
  refine (may1_any B fl s W ((hb.cell (p := ⟨B, 0, none⟩) hB).trans hc)).mono ?_
  rintro e w' ⟨rfl, h'⟩
  exact ⟨rfl, hb.trans (h'.mono hb.size)⟩
set_option maxRecDepth 100000 in
theorem eg_may : ∀ args w, (callFunc 142 args).run Tryz.prog w = .ok (.enter 142 args) w := enters_of Tryz.func142 (by kernel_rfl) rfl
end Go.Proofs.YtcgekcjnaadcmaaGreatDoor.Plive

/- What the calls of package live answer, and what they do to the ids, for every argument that their types allow: all but New. -/
namespace Go.Proofs.YtcgekcjnaadcmaaGreatDoor.Plive
open Go.Proofs.YtcgekcjnaadcmaaGreatDoor.Pbase
open Go.Shelf Go.RowKit Go.Lib
set_option linter.unusedVariables false

/-! ### slices.IndexFunc over the table's ids -/
theorem idx_any (p r N B : Nat) (S : Nat → LS) (fl : Int) (w : World) (hN : N ≤ 64) (h : TblIs w p r N S) (hc : w.cell? ⟨B, 0, none⟩ = some (.int .i64 fl)) :
    Calls Tryz.prog 94 #[.slice (some ⟨r, 0, none⟩) N N, .func (.func 142) #[] #[.pointer (some ⟨B, 0, none⟩)]] w fun e w' => e = .returned (.int .i64 (if tkN N S fl < N then (tkN N S fl : Int) else -1)) ∧ Below w.heap.size w w' := by
  have inh : Inhabited LS := ⟨noLS⟩
  have hcon := AnyQ.slices_IndexFunc (α := LS) idxBeing 3 Tryz.isAgg179 Tryz.sizeOf179 encL (fun _ => rfl) (may fl) 142 #[.pointer (some ⟨B, 0, none⟩)] eg_may r 0 N N ((List.range N).map S) w
    (may_pred B fl w (World.block_lt_of_cell? w _ hc) hc) (by simp) (by omega) h.ltr (fun j hj i v hi => by
      have hj' : j < N := by simpa using hj
      have e : ((List.range N).map S)[j]! = S j := by simp [hj']
      rw [e] at hi
      obtain ⟨g0, g1, g2⟩ := h.at hj'
      match i, hi with
      | 0, hi => simp [encL] at hi; rw [← hi]; simpa using g0
      | 1, hi => simp [encL] at hi; rw [← hi]; simpa using g1
      | 2, hi => simp [encL] at hi; rw [← hi]; simpa using g2
      | i + 3, hi => simp [encL] at hi)
  have e : Lib.idxBy (fun _ y => may fl y) (((List.range N).map S).take N) default = if tkN N S fl < N then (tkN N S fl : Int) else -1 := by
    rcases first_cases (may fl) S N with ⟨k, hk, h1, h0⟩ | h0
    · have e1 : tkN N S fl = k := first_hit hk h1 h0
      rw [e1, if_pos hk]
      exact Lib.idxBy_hit (fun _ y => may fl y) _ N k default hk (by simp) (by simpa [hk] using h1) (fun j hj => by simpa [show j < N by omega] using h0 j hj)
    · have e1 : tkN N S fl = N := first_miss h0
      rw [e1, if_neg (Nat.lt_irrefl _)]
      exact Lib.idxBy_miss (fun _ y => may fl y) _ N default (fun j hj => by simpa [hj] using h0 j hj)
  rw [e] at hcon
  exact hcon

theorem new_cell (w : World) (fl : Int) : (w.drew.alloc (.cells #[.int .i64 fl] 3)).cell? ⟨w.heap.size, 0, none⟩ = some (.int .i64 fl) := by
  exact World.cell?_alloc_new (w := w.drew) #[.int .i64 fl] 3 0
/-! ### Take -/
set_option maxHeartbeats 1000000 in
set_option maxRecDepth 100000 in
theorem take_any (p r N : Nat) (S : Nat → LS) (fl : Int) (w : World) (hN1 : 1 ≤ N) (hN : N ≤ 64) (h : TblIs w p r N S) :
    Calls Tryz.prog 36 #[.pointer (some ⟨p, 0, none⟩), .int .i64 fl] w fun e w' => e = .returned (.tuple #[.int .i64 (tkI N S fl), .int .i64 (tkE N S fl), .int .i64 (tkR N S fl)]) ∧ Did w w' r N (tkS N S fl) := by
  have HI : Hid (TblIs w p r N S) := h
  have d0 := h.cell
  clear h
  rcases first_cases (may fl) S N with ⟨k, hk, h1, h0⟩ | h0
  · have e1 : tkN N S fl = k := first_hit hk h1 h0
    obtain ⟨q1, q2, q3, q4⟩ := tk_hit hk h1 h0
    rw [q1, q2, q3, q4]
    have HX : Hid ((if tkN N S fl < N then (tkN N S fl : Int) else -1) = k) := by
      have : (if tkN N S fl < N then (tkN N S fl : Int) else -1) = k := by rw [e1, if_pos hk]
      exact this
    clear h0 h1 e1 q1 q2 q3 q4
    have hki : (k : Int) < (N : Int) := by omega
    go_enter Tryz.func36, Tryz.ntmps36
    go_wp2_with (go_at_call 93; refine (unmade_ok p r N _ hN1 d0).mono ?_; rintro e w' ⟨rfl, hw'⟩; subst w')
    go_region_held3 (fun w' => w'.cell? ⟨p, 0, none⟩ = some (.slice (some ⟨r, 0, none⟩) N N)) (first | assumption | go_keep)
    (first
      | (go_at_call 95; refine (may_any fl _).mono ?_; rintro e w1 ⟨rfl, hw1⟩; have HB1 : Hid (Below w.heap.size w w1) := (by rw [hw1]; exact ((Below.refl _ w).drew).alloc (Nat.le_refl _) _); have hm1 : w1.cell? ⟨w.heap.size, 0, none⟩ = some (.int .i64 fl) := (by rw [hw1]; exact new_cell _ _); have HM1 : Hid (w1.cell? ⟨w.heap.size, 0, none⟩ = some (.int .i64 fl)) := hm1; clear hm1; have H1 : Hid (TblIs w1 p r N S) := HI.out.more HB1.out; clear hw1 d0; have d0 := H1.out.cell)
      | (go_at_call 94; refine (idx_any p r N w.heap.size S fl _ hN H1.out HM1.out).mono ?_; rintro e w2 ⟨rfl, hw2⟩; rw [HX.out]; have HB2 : Hid (Below w.heap.size w w2) := HB1.out.trans (hw2.mono HB1.out.size); have H2 : Hid (TblIs w2 p r N S) := H1.out.more hw2; clear hw2 d0; have d0 := H2.out.cell)
      | fail)
    obtain ⟨c0, c1, c2⟩ := H2.out.at hk
    have z0 := H2.out.free (k * 3)
    go_wp2
    obtain ⟨w3, hw3⟩ : ∃ w3, w3 = w2.setCell ⟨r, k * 3, none⟩ (.bool true) := ⟨_, rfl⟩
    have HD : Hid (Did w w3 r N (upd S k { S k with on := true })) := ⟨w2, HB2.out, by rw [hw3, H2.out.put0 hk]⟩
    have c1' : w3.cell? ⟨r, k * 3 + 1, none⟩ = some (.int .i64 (S k).ep) := by rw [hw3]; simpa [World.cell?_setCell_other] using c1
    rw [← hw3]
    clear hw3 c0 c1 c2 z0 d0
    go_quiet (fail)
    go_wp2
    go_ret3
    exact ⟨rfl, HD.out.drewN _⟩
  · have e1 : tkN N S fl = N := first_miss h0
    obtain ⟨q1, q2, q3, q4⟩ := tk_miss h0
    rw [q1, q2, q3, q4]
    have HX : Hid ((if tkN N S fl < N then (tkN N S fl : Int) else -1) = -1) := by
      have : (if tkN N S fl < N then (tkN N S fl : Int) else -1) = -1 := by rw [e1, if_neg (Nat.lt_irrefl _)]
      exact this
    clear h0 e1 q1 q2 q3 q4
    go_enter Tryz.func36, Tryz.ntmps36
    go_wp2_with (go_at_call 93; refine (unmade_ok p r N _ hN1 d0).mono ?_; rintro e w' ⟨rfl, hw'⟩; subst w')
    go_region_held3 (fun w' => w'.cell? ⟨p, 0, none⟩ = some (.slice (some ⟨r, 0, none⟩) N N)) (first | assumption | go_keep)
    (first
      | (go_at_call 95; refine (may_any fl _).mono ?_; rintro e w1 ⟨rfl, hw1⟩; have HB1 : Hid (Below w.heap.size w w1) := (by rw [hw1]; exact ((Below.refl _ w).drew).alloc (Nat.le_refl _) _); have hm1 : w1.cell? ⟨w.heap.size, 0, none⟩ = some (.int .i64 fl) := (by rw [hw1]; exact new_cell _ _); have HM1 : Hid (w1.cell? ⟨w.heap.size, 0, none⟩ = some (.int .i64 fl)) := hm1; clear hm1; have H1 : Hid (TblIs w1 p r N S) := HI.out.more HB1.out; clear hw1 d0; have d0 := H1.out.cell)
      | (go_at_call 94; refine (idx_any p r N w.heap.size S fl _ hN H1.out HM1.out).mono ?_; rintro e w2 ⟨rfl, hw2⟩; rw [HX.out]; have HB2 : Hid (Below w.heap.size w w2) := HB1.out.trans (hw2.mono HB1.out.size); have H2 : Hid (TblIs w2 p r N S) := H1.out.more hw2; clear hw2 d0; have d0 := H2.out.cell)
      | fail)
    go_wp2
    go_ret3
    exact ⟨rfl, Did.none HI.out HB2.out⟩

/-! ### Kill -/
set_option maxRecDepth 100000 in
theorem kill_any (p r N : Nat) (S : Nat → LS) (id ep now : Int) (w : World) (hN1 : 1 ≤ N) (hN : N ≤ 64) (h : TblIs w p r N S) :
    Calls Tryz.prog 53 #[.pointer (some ⟨p, 0, none⟩), .int .i64 id, .int .i64 ep, .int .i64 now] w fun e w' => e = .returned (.int .i64 (klR N S id ep)) ∧ Did w w' r N (klS N S id ep now) := by
  have HI : Hid (TblIs w p r N S) := h
  have d0 := h.cell
  clear h
  rcases hk : okF N id with _ | _
  · rw [(kl_bad (now := now) hk).1, (kl_bad (e := ep) (now := now) hk).2]
    go_enter Tryz.func53, Tryz.ntmps53
    go_wp2_with (first
      | (go_at_call 93; refine (unmade_ok p r N _ hN1 d0).mono ?_; rintro e w' ⟨rfl, hw'⟩; subst w')
      | (go_at_call 127; refine (has_any p r N id _ hN d0).mono ?_; rintro e w' ⟨rfl, hw'⟩; subst w'; rw [hk])
      | fail)
    go_ret
    exact ⟨rfl, Did.none HI.out (Below.refl _ _)⟩
  · obtain ⟨n, rfl, hn⟩ := okF_split hk
    have hni : (n : Int) < (N : Int) := by omega
    obtain ⟨c0, c1, c2⟩ := HI.out.at hn
    rcases hl : inE ep (S n) with _ | _
    · rw [(kl_no (now := now) hk hl).1, (kl_no (now := now) hk hl).2]
      go_enter Tryz.func53, Tryz.ntmps53
      go_wp2_with (first
        | (go_at_call 93; refine (unmade_ok p r N _ hN1 d0).mono ?_; rintro e w' ⟨rfl, hw'⟩; subst w')
        | (go_at_call 127; refine (has_any p r N n _ hN d0).mono ?_; rintro e w' ⟨rfl, hw'⟩; subst w'; rw [hk])
        | (go_at_call 128; refine (livesIn_any (S n) ep _).mono ?_; rintro e w1 ⟨rfl, hw1⟩; rw [hl]; have HB1 : Hid (Below w.heap.size w w1) := hw1; clear hw1)
        | fail)
      go_ret
      exact ⟨rfl, Did.none HI.out HB1.out⟩
    · rw [(kl_yes (now := now) hk hl).1, (kl_yes (now := now) hk hl).2]
      obtain ⟨l1, l2⟩ := inE_yes hl
      obtain ⟨o1, o2, o3⟩ := HI.out.ok n
      have o3 := o3 l1
      have L2 : Hid ((S n).ep = ep) := l2
      clear l1 l2 o2
      go_enter Tryz.func53, Tryz.ntmps53
      go_wp2_with (first
        | (go_at_call 93; refine (unmade_ok p r N _ hN1 d0).mono ?_; rintro e w' ⟨rfl, hw'⟩; subst w')
        | (go_at_call 127; refine (has_any p r N n _ hN d0).mono ?_; rintro e w' ⟨rfl, hw'⟩; subst w'; rw [hk])
        | (go_at_call 128; refine (livesIn_any (S n) ep _).mono ?_; rintro e w1 ⟨rfl, hw1⟩; rw [hl]; have HB1 : Hid (Below w.heap.size w w1) := hw1; have H1 : Hid (TblIs w1 p r N S) := HI.out.more hw1; clear hw1 d0 c0 c1 c2; have d0 := H1.out.cell; obtain ⟨c0, c1, c2⟩ := H1.out.at hn; have z0 := H1.out.free (n * 3); have z1 := H1.out.free (n * 3 + 1); have z2 := H1.out.free (n * 3 + 2))
        | fail)
      go_ret
      refine ⟨rfl, w1, HB1.out, ?_⟩
      rw [H1.out.put0 hn, row_put H1.out.row hn (by omega) (sets2 _ now), row_put H1.out.row hn (by omega) (sets1 _ _)]
      simp only [upd_same, upd_upd]
      rw [← L2.out]

/-! ### Valid -/
set_option maxRecDepth 100000 in
theorem valid_any (p r N : Nat) (S : Nat → LS) (id ep : Int) (w : World) (hN1 : 1 ≤ N) (hN : N ≤ 64) (h : TblIs w p r N S) :
    Calls Tryz.prog 151 #[.pointer (some ⟨p, 0, none⟩), .int .i64 id, .int .i64 ep] w fun e w' => e = .returned (.bool (vaA N S id ep)) ∧ Below w.heap.size w w' := by
  have HI : Hid (TblIs w p r N S) := h
  have d0 := h.cell
  clear h
  simp only [vaA]
  cases hk : okF N id
  · simp only [Bool.false_and]
    go_enter Tryz.func151, Tryz.ntmps151
    go_wp2_with (first
      | (go_at_call 93; refine (unmade_ok p r N _ hN1 d0).mono ?_; rintro e w' ⟨rfl, hw'⟩; subst w')
      | (go_at_call 127; refine (has_any p r N id _ hN d0).mono ?_; rintro e w' ⟨rfl, hw'⟩; subst w'; rw [hk])
      | fail)
    go_ret
    exact ⟨rfl, Below.refl _ _⟩
  · obtain ⟨n, rfl, hn⟩ := okF_split hk
    have hni : (n : Int) < (N : Int) := by omega
    obtain ⟨c0, c1, c2⟩ := HI.out.at hn
    simp only [Int.toNat_natCast, Bool.true_and]
    go_enter Tryz.func151, Tryz.ntmps151
    go_wp2_with (first
      | (go_at_call 93; refine (unmade_ok p r N _ hN1 d0).mono ?_; rintro e w' ⟨rfl, hw'⟩; subst w')
      | (go_at_call 127; refine (has_any p r N n _ hN d0).mono ?_; rintro e w' ⟨rfl, hw'⟩; subst w'; rw [hk])
      | (go_at_call 128; refine (livesIn_any (S n) ep _).mono ?_; rintro e w1 ⟨rfl, hw1⟩; have HB1 : Hid (Below w.heap.size w w1) := hw1; clear hw1)
      | fail)
    go_ret
    exact ⟨rfl, HB1.out⟩

/-! ### Count -/
end Go.Proofs.YtcgekcjnaadcmaaGreatDoor.Plive

/- What New of package live answers and makes; and what 'awake' of the statements answers. -/
namespace Go.Proofs.YtcgekcjnaadcmaaGreatDoor.Plive
open Go.Proofs.YtcgekcjnaadcmaaGreatDoor.Pbase
open Go.RowKit
set_option linter.unusedVariables false

set_option maxRecDepth 100000 in
theorem infoBeing : (Tryz.prog.info? 179).map (fun i => (i.zero, i.size, i.bytes)) = some (some (.agg #[.bool false, .int .i64 0, .int .i64 0]), 3, 24) := by kernel_rfl
theorem made_beings (N : Nat) : madeCells #[.bool false, .int .i64 0, .int .i64 0] (N * 3) = cellsT N fun _ => noLS := by
  apply Array.ext_getElem?
  intro i
  by_cases hi : i < N * 3
  · rw [cellsT_get hi]
    have h4 : i % 3 < 3 := by omega
    have key : ∀ j, j < 3 → (#[Value.bool false, .int .i64 0, .int .i64 0] : Array Value)[j]? = some (fld noLS j) := by
      intro j hj
      match j, hj with
      | 0, _ => rfl
      | 1, _ => rfl
      | 2, _ => rfl
    have k4 := key _ h4
    simp only [List.getElem?_toArray] at k4
    simp [madeCells, hi, k4]
  · simp [madeCells, cellsT, hi]
theorem make_beings (w : World) :
    (Instr.makeSlice 177 (.int .i64 64) (.int .i64 64)).run Tryz.prog w = .ok (.slice (some ⟨w.heap.size, 0, none⟩) 64 64) (w.alloc (.cells (cellsT 64 fun _ => noLS) 179)) := by
  obtain ⟨i0, hi, hz0, hz1, hz2⟩ := info_parts infoBeing
  have := run_make (P := Tryz.prog) w 177 179 i0 _ Tryz.underlying177 hi hz0 .i64 .i64 64 64 (by omega) (by omega) (by rw [hz2]; omega) (by omega)
  rw [hz1] at this
  simpa [Value.cells, made_beings 64] using this
/-- The call's table has the ids S; nothing of w was changed. -/
structure Own (w wr : World) (S : Nat → LS) : Prop where
  tbl : TblIs wr (w.heap.size + 1) w.heap.size 64 S
  below : Below w.heap.size w wr
set_option maxRecDepth 100000 in
theorem new_any (w : World) :
    Calls Tryz.prog 64 #[] w fun e w' => e = .returned (.pointer (some ⟨w.heap.size + 1, 0, none⟩)) ∧ Own w w' (fun _ => noLS) := by
  have hmk := make_beings
  go_enter Tryz.func64, Tryz.ntmps64
  go_wp2
  go_ret
  exact ⟨rfl, ⟨heap_alloc2_new _ _ _, heap_alloc2_old _ _ _, ok_no⟩, ((Below.refl _ w).alloc (Nat.le_refl _) _).alloc (by simp) _⟩
end Go.Proofs.YtcgekcjnaadcmaaGreatDoor.Plive
