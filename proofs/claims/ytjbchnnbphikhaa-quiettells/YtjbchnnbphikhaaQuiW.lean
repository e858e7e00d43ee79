/- A clock and the document's, side by side: what holds of both behind each act. -/
import Derived.Test.YtjbchnnbphikhaaQuiR
import Derived.Test.YtjbchnnbphikhaaQuiB
import Derived.Test.YtjbchnnbphikhaaClkV
import Derived.Deep.RegionHeld3
namespace Go.Proofs.Ytjbchnnbphikhaa
open Go.RowKit
set_option linter.unusedVariables false

/-- A clock and the document's, side by side, say the same. -/
structure Both (w wr : World) (N q : Nat) (s : CS) : Prop where
  clock : ClockIs wr w.heap.size N s
  ref : RefIs wr q q N s
  below : Below w.heap.size w wr
  lt : w.heap.size < q
  size : q < wr.heap.size
theorem Both.more {w wr w' : World} {N q : Nat} {s : CS} (h : Both w wr N q s) (m : Below wr.heap.size wr w') : Both w w' N q s := ⟨h.clock.below m h.clock.lt, h.ref.below m, h.below.trans (m.mono h.below.size), h.lt, Nat.lt_of_lt_of_le h.size m.size⟩
theorem Both.drewN {w wr : World} {N q : Nat} {s : CS} (h : Both w wr N q s) (n : Nat) : Both w (wr.drewN n) N q s := h.more (below_drewN _ _ _)
theorem Both.drew {w wr : World} {N q : Nat} {s : CS} (h : Both w wr N q s) : Both w wr.drew N q s := h.more (Below.refl _ _).drew
theorem Both.half {w w1 w2 : World} {N q : Nat} {s s' : CS} (h : Both w w1 N q s) (h2 : w2 = w1.setRow w.heap.size (cellsC N s')) : RefIs w2 q q N s ∧ Below w.heap.size w w2 := by
  subst h2
  exact ⟨h.ref.setRow h.lt _, below_setRow h.below (Nat.le_refl _) _⟩
theorem Both.turn {w w1 w2 w3 : World} {N q : Nat} {s s' : CS} (h : Both w w1 N q s) (hk : s'.ok) (h2 : w2 = w1.setRow w.heap.size (cellsC N s')) (h3 : RefIs w3 q q N s') (hB : Below q w2 w3) : Both w w3 N q s' := by
  have hl := h.lt
  have hz := h.size
  have hb := (h.half h2).2
  have hs : w2.heap.size = w1.heap.size := by rw [h2]; simp
  have hs3 := hB.size
  subst h2
  exact ⟨(h.clock.set s' hk).below hB hl, h3, hb.trans (hB.mono (by omega)), hl, by omega⟩
theorem Both.start {w w1 w2 : World} {N : Nat} (hc : ClockIs w1 w.heap.size N (newS N)) (hb : Below w.heap.size w w1) (hr : RefIs w2 w1.heap.size w1.heap.size N (newS N)) (hb2 : Below w1.heap.size w1 w2) : Both w w2 N w1.heap.size (newS N) := by
  refine ⟨hc.below hb2 hc.lt, hr, hb.trans (hb2.mono hb.size), hc.lt, ?_⟩
  obtain ⟨r1, r2, r3, c1, c2, c3, h⟩ := hr
  exact (Array.getElem?_eq_some_iff.1 h.head).1

end Go.Proofs.Ytjbchnnbphikhaa
