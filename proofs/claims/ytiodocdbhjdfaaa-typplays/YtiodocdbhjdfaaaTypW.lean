/- The program's table and the document's, side by side. -/
import Derived.Test.YtiodocdbhjdfaaaTypS
import Derived.Test.YtiodocdbhjdfaaaTypV
import Derived.Test.YtiodocdbhjdfaaaTypI
namespace Go.Proofs.Ytiodocdbhjdfaaa
open Go.RowKit
set_option linter.unusedVariables false

/-- Both have the frames S; nothing of w was changed. The document's lies from block B on. -/
structure Both (w wr : World) (N B : Nat) (S : Nat → FS) : Prop where
  tbl : TblIs wr (w.heap.size + 1) w.heap.size N S
  ref : RefIs wr B B N S
  below : Below w.heap.size w wr
  hB : w.heap.size + 1 < B
  size : B ≤ wr.heap.size
theorem Both.more {w wr w' : World} {N B : Nat} {S : Nat → FS} (h : Both w wr N B S) (k : Below wr.heap.size wr w') : Both w w' N B S :=
  ⟨h.tbl.more k, h.ref.more k, h.below.trans (k.mono h.below.size), h.hB, Nat.le_trans h.size k.size⟩
theorem Both.drewN {w wr : World} {N B : Nat} {S : Nat → FS} (h : Both w wr N B S) (n : Nat) : Both w (wr.drewN n) N B S := ⟨h.tbl.drewN n, h.ref.drewN n, below_drewN h.below n, h.hB, h.size⟩
theorem Both.drew {w wr : World} {N B : Nat} {S : Nat → FS} (h : Both w wr N B S) : Both w wr.drew N B S := ⟨h.tbl.drew, h.ref.drew, h.below.drew, h.hB, h.size⟩
/-- The one did its part; the document's own still has to do hers. -/
structure Half (w wr : World) (N B : Nat) (S T : Nat → FS) : Prop where
  tbl : TblIs wr (w.heap.size + 1) w.heap.size N T
  ref : RefIs wr B B N S
  below : Below w.heap.size w wr
  hB : w.heap.size + 1 < B
  size : B ≤ wr.heap.size
theorem Half.drew {w wr : World} {N B : Nat} {S T : Nat → FS} (h : Half w wr N B S T) : Half w wr.drew N B S T := ⟨h.tbl.drew, h.ref.drew, h.below.drew, h.hB, h.size⟩
theorem Both.half {w wr : World} {N B : Nat} {S T : Nat → FS} (h : Both w wr N B S) (hT : okA T) : Half w (wr.setRow w.heap.size (cellsT N T)) N B S T :=
  ⟨h.tbl.set hT, h.ref.setRow (by have := h.hB; omega) _, below_setRow h.below (Nat.le_refl _) _, h.hB, by rw [size_setRow]; exact h.size⟩
theorem Half.both {w wr w' : World} {N B : Nat} {S T : Nat → FS} (h : Half w wr N B S T) (hr : RefIs w' B B N T) (k : Below B wr w') : Both w w' N B T :=
  ⟨h.tbl.on (k.block _ h.hB) (k.block _ (by have := h.hB; omega)), hr, h.below.trans (k.mono (by have := h.hB; omega)), h.hB, Nat.le_trans h.size k.size⟩
theorem both_new {w w1 w2 : World} {N : Nat} {S : Nat → FS} (ht : TblIs w1 (w.heap.size + 1) w.heap.size N S) (hb : Below w.heap.size w w1) (hr : RefIs w2 w1.heap.size w1.heap.size N S) (hB : Below w1.heap.size w1 w2) : Both w w2 N w1.heap.size S :=
  ⟨ht.more hB, hr, hb.trans (hB.mono hb.size), ht.lt, hB.size⟩

end Go.Proofs.Ytiodocdbhjdfaaa
