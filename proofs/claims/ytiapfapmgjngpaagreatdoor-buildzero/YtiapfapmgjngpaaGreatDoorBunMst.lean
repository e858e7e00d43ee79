/- Texts on finished packages, joined. -/
import Derived.Test.YtiapfapmgjngpaaGreatDoorBunPclock
import Derived.Test.YtiapfapmgjngpaaGreatDoorBunPtyp
import Derived.Test.YtiapfapmgjngpaaGreatDoorBunPlive
import Derived.Test.YtiapfapmgjngpaaGreatDoorBunQtlb
import Derived.Test.YtiapfapmgjngpaaGreatDoorBunMem
import Derived.Test.YtiapfapmgjngpaaGreatDoorBunPquiet
import Derived.Test.YtiapfapmgjngpaaGreatDoorBunPhw
import Derived.Test.YtiapfapmgjngpaaGreatDoorBunChold

/- The machine in plain words: all that it holds; what its calls answer, and what they make of it. -/
namespace Go.Proofs.YtiapfapmgjngpaaGreatDoor.Pmst
open Go.Proofs.YtiapfapmgjngpaaGreatDoor.Pbase Go.Proofs.YtiapfapmgjngpaaGreatDoor.Pchold
open Go.RowKit
set_option linter.unusedVariables false

theorem vhide {p : Prop} (h : p) : Hid p := h
/-! ### in plain words -/
structure St where
  N : Nat
  n : Nat
  room : Int
  M : Nat → Nat → Int
  C : Pclock.CS
  T : Nat → Ptyp.FS
  L : Nat → Plive.LS
  H : Nat → Int
  U : Nat → Int
  K : Nat → List Ptlb.En
  R : Nat → Nat → Int
structure Ws (s : St) : Prop where
  n1 : 1 ≤ s.N
  n64 : s.N ≤ 64
  c1 : 1 ≤ s.n
  c4 : s.n ≤ 4
/-- Block r holds a list whose first n are f's. -/
def Lst (w : World) (r : Nat) (t : TypeId) (n : Nat) (f : Nat → Value) : Prop := ∃ cur, w.heap[r]? = some (.cells cur t (0, 0)) ∧ ∀ j, j < n → cur[j]? = some (f j)
section
variable {w w' : World} {r n : Nat} {t : TypeId} {f : Nat → Value}
theorem Lst.lt (h : Lst w r t n f) : r < w.heap.size := by
  obtain ⟨cur, h1, _⟩ := h
  exact (Array.getElem?_eq_some_iff.1 h1).1
theorem Lst.on (h : Lst w r t n f) (hk : w'.heap[r]? = w.heap[r]?) : Lst w' r t n f := by
  obtain ⟨cur, h1, h2⟩ := h
  exact ⟨cur, hk.trans h1, h2⟩
theorem Lst.cell (h : Lst w r t n f) {j : Nat} (hj : j < n) : w.cell? ⟨r, j, none⟩ = some (f j) := by
  obtain ⟨cur, h1, h2⟩ := h
  rw [cell_of_row w r j _ _ _ h1]
  exact h2 j hj
theorem Lst.free (h : Lst w r t n f) (j : Nat) : w.frozen? ⟨r, j, none⟩ = false := by
  obtain ⟨cur, h1, _⟩ := h
  exact frozen_of_row w r j _ _ h1
theorem Lst.put (h : Lst w r t n f) {c : Nat} (hc : c < n) (v : Value) : Lst (w.setCell ⟨r, c, none⟩ v) r t n (fun j => if j = c then v else f j) := by
  obtain ⟨cur, h1, h2⟩ := h
  refine ⟨cur.setIfInBounds c v, heap_setCell_same w r c _ _ v h1, fun j hj => ?_⟩
  rw [Array.getElem?_setIfInBounds]
  by_cases e : c = j
  · subst e
    have hlt : c < cur.size := by
      rcases Nat.lt_or_ge c cur.size with h | h
      · exact h
      · have := h2 c hc; rw [Array.getElem?_eq_none h] at this; cases this
    simp [hlt]
  · rw [if_neg e, h2 j hj]
    simp [Ne.symm e]
theorem Lst.congr (h : Lst w r t n f) {g : Nat → Value} (e : ∀ j, j < n → f j = g j) : Lst w r t n g := by
  obtain ⟨cur, h1, h2⟩ := h
  exact ⟨cur, h1, fun j hj => by rw [h2 j hj, e j hj]⟩
end
/-! ### SetCur -/
def isB (n : Nat) (c : Int) : Bool := decide (0 ≤ c) && decide (c < n)
theorem isB_iff (n : Nat) (c : Int) : isB n c = true ↔ 0 ≤ c ∧ c < n := by
  unfold isB
  simp only [Bool.and_eq_true, decide_eq_true_eq]
def scB (n : Nat) (c f : Int) : Bool := isB n c && (decide (-1 ≤ f) && decide (f < 64))
def scE (s : St) (c f : Int) : Int := if scB s.n c f = true then 0 else 1
def scU (s : St) (c f : Int) : Nat → Int := if scB s.n c f = true then fun j => if j = c.toNat then f else s.U j else s.U
/-! ### Link, Unlink, Flush, Retype -/
/-- A capability's six numbers. -/
def cpF (k r t l e a : Int) : Nat → Value
  | 0 => .int .i64 k
  | 1 => .int .i64 r
  | 2 => .int .i64 t
  | 3 => .int .i64 l
  | 4 => .int .i64 e
  | _ => .int .i64 a
def heBad (s : St) (k t : Int) : Bool := holB k && !decide ((Ptyp.toldA s.N s.T (holI k t)).is = 2)
def heE (s : St) (k t : Int) : Int := if heBad s k t = true then 4 else 0
def heB (s : St) (k t : Int) : Bool := holB k && !heBad s k t
def heF (s : St) (k t : Int) : Int := if heBad s k t = true then 0 else holI k t
def lkE (s : St) (k t : Int) : Int := if heE s k t = 0 ∧ heB s k t = true then Ptyp.errA s.N s.T (heF s k t) Ptyp.hRf else heE s k t
def lkT (s : St) (k t : Int) : Nat → Ptyp.FS := if heE s k t = 0 ∧ heB s k t = true then Ptyp.mapA s.N s.T (heF s k t) Ptyp.gRf else s.T
def ulE (s : St) (k t : Int) : Int := if heE s k t = 0 ∧ heB s k t = true then Ptyp.errA s.N s.T (heF s k t) Ptyp.hUr else heE s k t
def ulT (s : St) (k t : Int) : Nat → Ptyp.FS := if heE s k t = 0 ∧ heB s k t = true then Ptyp.mapA s.N s.T (heF s k t) (Ptyp.gUr s.C.now) else s.T
def vfE (s : St) (c : Int) : Int := Pclock.errF s.n c
def vfN (s : St) (c : Int) : Int := if Pclock.okF s.n c = true then ((s.K c.toNat).length : Int) else 0
def vfC (s : St) (c : Int) : Pclock.CS := Pclock.flushS s.n s.C c
def vfK (s : St) (c : Int) : Nat → List Ptlb.En := if Pclock.okF s.n c = true then fun j => if j = c.toNat then [] else s.K j else s.K
/-- Has it been seen by all, what frame f was? -/
def rtB (s : St) (f : Int) : Bool := Pquiet.quF s.n s.C (Ptyp.toldA s.N s.T f).was (Ptyp.toldA s.N s.T f).fr
def rtX (s : St) (f tt : Int) : Int := Ptyp.errA s.N s.T f (Ptyp.hRt tt (rtB s f))
def rtE (s : St) (f tt : Int) : Int := if rtX s f tt = 0 then Pmem.errF s.N f else rtX s f tt
def rtT (s : St) (f tt : Int) : Nat → Ptyp.FS := Ptyp.mapA s.N s.T f (Ptyp.gRt tt (rtB s f))
def rtM (s : St) (f tt : Int) : Nat → Nat → Int := if rtX s f tt = 0 then Pmem.clM s.N s.M f else s.M
/-! ### Check, New -/
def chE (F C Q R : Int) : Int := if F < 1 ∨ 64 < F ∨ C < 1 ∨ 4 < C ∨ Q < 0 ∨ C < Q ∨ R < 0 ∨ 8 < R then 1 else 0
def nwS (N n : Nat) (room : Int) : St := ⟨N, n, room, fun _ _ => 0, Pclock.newS n, fun _ => Ptyp.noFS, fun _ => Plive.noLS, fun _ => 0, fun _ => -1, fun _ => [], fun _ _ => 0⟩
theorem nwS_ws {N n : Nat} {room : Int} (h1 : 1 ≤ N) (h2 : N ≤ 64) (h3 : 1 ≤ n) (h4 : n ≤ 4) : Ws (nwS N n room) := ⟨h1, h2, h3, h4⟩
end Go.Proofs.YtiapfapmgjngpaaGreatDoor.Pmst
