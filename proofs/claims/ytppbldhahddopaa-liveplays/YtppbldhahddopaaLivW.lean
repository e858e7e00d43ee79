/- The program's table and the document's, side by side. -/
import Derived.Test.YtppbldhahddopaaLivS
import Derived.Test.YtppbldhahddopaaLivV
import Derived.Test.YtppbldhahddopaaLivI
namespace Go.Proofs.Ytppbldhahddopaa
open Go.RowKit
set_option linter.unusedVariables false

/-- Both have the ids S; nothing of w was changed. The document's lies from block B on. -/
structure Both (w wr : World) (B : Nat) (S : Nat → LS) : Prop where
  tbl : TblIs wr (w.heap.size + 1) w.heap.size 64 S
  ref : RefIs wr B B 64 S
  below : Below w.heap.size w wr
  hB : w.heap.size + 1 < B
  size : B ≤ wr.heap.size
theorem Both.more {w wr w' : World} {B : Nat} {S : Nat → LS} (h : Both w wr B S) (k : Below wr.heap.size wr w') : Both w w' B S :=
  ⟨h.tbl.more k, h.ref.more k, h.below.trans (k.mono h.below.size), h.hB, Nat.le_trans h.size k.size⟩
theorem Both.drewN {w wr : World} {B : Nat} {S : Nat → LS} (h : Both w wr B S) (n : Nat) : Both w (wr.drewN n) B S := ⟨h.tbl.drewN n, h.ref.drewN n, below_drewN h.below n, h.hB, h.size⟩
theorem Both.drew {w wr : World} {B : Nat} {S : Nat → LS} (h : Both w wr B S) : Both w wr.drew B S := ⟨h.tbl.drew, h.ref.drew, h.below.drew, h.hB, h.size⟩
/-- The one did its part; the document's own still has to do hers. -/
structure Half (w wr : World) (B : Nat) (S T : Nat → LS) : Prop where
  tbl : TblIs wr (w.heap.size + 1) w.heap.size 64 T
  ref : RefIs wr B B 64 S
  below : Below w.heap.size w wr
  hB : w.heap.size + 1 < B
  size : B ≤ wr.heap.size
theorem Half.drew {w wr : World} {B : Nat} {S T : Nat → LS} (h : Half w wr B S T) : Half w wr.drew B S T := ⟨h.tbl.drew, h.ref.drew, h.below.drew, h.hB, h.size⟩
theorem Half.drewN {w wr : World} {B : Nat} {S T : Nat → LS} (h : Half w wr B S T) (n : Nat) : Half w (wr.drewN n) B S T := ⟨h.tbl.drewN n, h.ref.drewN n, below_drewN h.below n, h.hB, h.size⟩
theorem Both.half {w wr w' : World} {B : Nat} {S T : Nat → LS} (h : Both w wr B S) (k : Did wr w' w.heap.size 64 T) (hT : okA T) : Half w w' B S T :=
  ⟨k.tbl h.tbl hT, h.ref.on fun b hb hlt => k.block hlt (by have := h.hB; omega), h.below.trans (k.below (Nat.le_refl _) h.below.size), h.hB, Nat.le_trans h.size k.size⟩
theorem Half.both {w wr w' : World} {B : Nat} {S T : Nat → LS} (h : Half w wr B S T) (hr : RefIs w' B B 64 T) (k : Below B wr w') : Both w w' B T :=
  ⟨h.tbl.on (k.block _ h.hB) (k.block _ (by have := h.hB; omega)), hr, h.below.trans (k.mono (by have := h.hB; omega)), h.hB, Nat.le_trans h.size k.size⟩
theorem both_new {w w1 w2 : World} {S : Nat → LS} (ht : Own w w1 S) (hr : RefIs w2 w1.heap.size w1.heap.size 64 S) (hB : Below w1.heap.size w1 w2) : Both w w2 w1.heap.size S :=
  ⟨ht.tbl.more hB, hr, ht.below.trans (hB.mono ht.below.size), ht.tbl.lt, hB.size⟩

end Go.Proofs.Ytppbldhahddopaa
