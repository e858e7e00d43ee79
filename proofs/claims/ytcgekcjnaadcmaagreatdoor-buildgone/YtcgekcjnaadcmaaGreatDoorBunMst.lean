/- Texts on finished packages, joined. -/
import Derived.Test.YtcgekcjnaadcmaaGreatDoorBunPclock
import Derived.Test.YtcgekcjnaadcmaaGreatDoorBunPtyp
import Derived.Test.YtcgekcjnaadcmaaGreatDoorBunPlive
import Derived.Test.YtcgekcjnaadcmaaGreatDoorBunQtlb
import Derived.Test.YtcgekcjnaadcmaaGreatDoorBunMem
import Derived.Test.YtcgekcjnaadcmaaGreatDoorBunPquiet
import Derived.Test.YtcgekcjnaadcmaaGreatDoorBunPhw
import Derived.Test.YtcgekcjnaadcmaaGreatDoorBunChold

/- The machine in plain words: all that it holds; what its calls answer, and what they make of it. -/
namespace Go.Proofs.YtcgekcjnaadcmaaGreatDoor.Pmst
open Go.Proofs.YtcgekcjnaadcmaaGreatDoor.Pbase Go.Proofs.YtcgekcjnaadcmaaGreatDoor.Pchold
open Go.RowKit
set_option linter.unusedVariables false

theorem vhide {p : Prop} (h : p) : Hid p := h
/-! ### in plain words -/
structure St where
  N : Nat
  n : Nat
  room : Int
  M : Nat → Nat → Int
  C : Pclock.CS
  T : Nat → Ptyp.FS
  L : Nat → Plive.LS
  H : Nat → Int
  U : Nat → Int
  K : Nat → List Ptlb.En
  R : Nat → Nat → Int
structure Ws (s : St) : Prop where
  n1 : 1 ≤ s.N
  n64 : s.N ≤ 64
  c1 : 1 ≤ s.n
  c4 : s.n ≤ 4
/-- Block r holds a list whose first n are f's. -/
def Lst (w : World) (r : Nat) (t : TypeId) (n : Nat) (f : Nat → Value) : Prop := ∃ cur, w.heap[r]? = some (.cells cur t (0, 0)) ∧ ∀ j, j < n → cur[j]? = some (f j)
section
variable {w w' : World} {r n : Nat} {t : TypeId} {f : Nat → Value}
theorem Lst.lt (h : Lst w r t n f) : r < w.heap.size := by
  obtain ⟨cur, h1, _⟩ := h
  exact (Array.getElem?_eq_some_iff.1 h1).1
theorem Lst.on (h : Lst w r t n f) (hk : w'.heap[r]? = w.heap[r]?) : Lst w' r t n f := by
  obtain ⟨cur, h1, h2⟩ := h
  exact ⟨cur, hk.trans h1, h2⟩
theorem Lst.cell (h : Lst w r t n f) {j : Nat} (hj : j < n) : w.cell? ⟨r, j, none⟩ = some (f j) := by
  obtain ⟨cur, h1, h2⟩ := h
  rw [cell_of_row w r j _ _ _ h1]
  exact h2 j hj
theorem Lst.free (h : Lst w r t n f) (j : Nat) : w.frozen? ⟨r, j, none⟩ = false := by
  obtain ⟨cur, h1, _⟩ := h
  exact frozen_of_row w r j _ _ h1
theorem Lst.put (h : Lst w r t n f) {c : Nat} (hc : c < n) (v : Value) : Lst (w.setCell ⟨r, c, none⟩ v) r t n (fun j => if j = c then v else f j) := by
  obtain ⟨cur, h1, h2⟩ := h
  refine ⟨cur.setIfInBounds c v, heap_setCell_same w r c _ _ v h1, fun j hj => ?_⟩
  rw [Array.getElem?_setIfInBounds]
  by_cases e : c = j
  · subst e
    have hlt : c < cur.size := by
      rcases Nat.lt_or_ge c cur.size with h | h
      · exact h
      · have := h2 c hc; rw [Array.getElem?_eq_none h] at this; cases this
    simp [hlt]
  · rw [if_neg e, h2 j hj]
    simp [Ne.symm e]
theorem Lst.congr (h : Lst w r t n f) {g : Nat → Value} (e : ∀ j, j < n → f j = g j) : Lst w r t n g := by
  obtain ⟨cur, h1, h2⟩ := h
  exact ⟨cur, h1, fun j hj => by rw [h2 j hj, e j hj]⟩
end
/-! ### SetCur -/
/-! ### Link, Unlink, Flush, Retype -/
/-- Has it been seen by all, what frame f was? -/
def rtB (s : St) (f : Int) : Bool := Pquiet.quF s.n s.C (Ptyp.toldA s.N s.T f).was (Ptyp.toldA s.N s.T f).fr
def rtX (s : St) (f tt : Int) : Int := Ptyp.errA s.N s.T f (Ptyp.hRt tt (rtB s f))
def rtE (s : St) (f tt : Int) : Int := if rtX s f tt = 0 then Pmem.errF s.N f else rtX s f tt
def rtT (s : St) (f tt : Int) : Nat → Ptyp.FS := Ptyp.mapA s.N s.T f (Ptyp.gRt tt (rtB s f))
def rtM (s : St) (f tt : Int) : Nat → Nat → Int := if rtX s f tt = 0 then Pmem.clM s.N s.M f else s.M
/-! ### Check, New -/
def chE (F C Q R : Int) : Int := if F < 1 ∨ 64 < F ∨ C < 1 ∨ 4 < C ∨ Q < 0 ∨ C < Q ∨ R < 0 ∨ 8 < R then 1 else 0
def nwS (N n : Nat) (room : Int) : St := ⟨N, n, room, fun _ _ => 0, Pclock.newS n, fun _ => Ptyp.noFS, fun _ => Plive.noLS, fun _ => 0, fun _ => -1, fun _ => [], fun _ _ => 0⟩
theorem nwS_ws {N n : Nat} {room : Int} (h1 : 1 ≤ N) (h2 : N ≤ 64) (h3 : 1 ≤ n) (h4 : n ≤ 4) : Ws (nwS N n room) := ⟨h1, h2, h3, h4⟩
end Go.Proofs.YtcgekcjnaadcmaaGreatDoor.Pmst
