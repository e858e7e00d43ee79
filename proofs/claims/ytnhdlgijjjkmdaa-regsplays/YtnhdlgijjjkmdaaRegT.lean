/- Two files side by side, and two lists that All answered. -/
import Derived.Test.YtnhdlgijjjkmdaaRegW
namespace Go.Proofs.Ytnhdlgijjjkmdaa
open Go.RowKit
set_option linter.unusedVariables false

theorem below_set {B b : Nat} {a w : World} (h : Below B a w) (hb : B ≤ b) (cs : Array Value) : Below B a (w.setRow b cs) :=
  ⟨h.os, h.tape, h.output, by rw [size_setRow]; exact h.size, fun i hi => (setRow_other w b i cs (by omega)).trans (h.block i hi)⟩
/-- Files in the blocks p and q, with the registers L and M; nothing of w was changed. -/
structure Two (w wr : World) (p q : Nat) (L M : Nat → Int) : Prop where
  f : FileIs wr p L
  g : FileIs wr q M
  below : Below w.heap.size w wr
  hp : w.heap.size ≤ p
  hq : w.heap.size ≤ q
  ne : p ≠ q
theorem Two.more {w wr w' : World} {p q : Nat} {L M : Nat → Int} (h : Two w wr p q L M) (k : Below wr.heap.size wr w') : Two w w' p q L M :=
  ⟨h.f.more k, h.g.more k, h.below.trans (k.mono h.below.size), h.hp, h.hq, h.ne⟩
theorem Two.setF {w wr : World} {p q : Nat} {L M : Nat → Int} (h : Two w wr p q L M) (N : Nat → Int) : Two w (wr.setRow p (cellsF N)) p q N M :=
  ⟨h.f.set N, h.g.other (Ne.symm h.ne) _, below_set h.below h.hp _, h.hp, h.hq, h.ne⟩
theorem Two.setG {w wr : World} {p q : Nat} {L M : Nat → Int} (h : Two w wr p q L M) (N : Nat → Int) : Two w (wr.setRow q (cellsF N)) p q L N :=
  ⟨h.f.other h.ne _, h.g.set N, below_set h.below h.hq _, h.hp, h.hq, h.ne⟩
theorem Two.drew {w wr : World} {p q : Nat} {L M : Nat → Int} (h : Two w wr p q L M) : Two w wr.drew p q L M := ⟨h.f, h.g, h.below.drew, h.hp, h.hq, h.ne⟩
theorem Two.drewN {w wr : World} {p q : Nat} {L M : Nat → Int} (h : Two w wr p q L M) (n : Nat) : Two w (wr.drewN n) p q L M := ⟨h.f, h.g, below_drewN h.below n, h.hp, h.hq, h.ne⟩
/-- And the lists in the blocks x, y hold A, B. -/
structure St (w wr : World) (p q : Nat) (L M : Nat → Int) (x y : Nat) (A B : Nat → Int) : Prop where
  two : Two w wr p q L M
  x : ListIs wr x A
  y : ListIs wr y B
theorem St.more {w wr w' : World} {p q : Nat} {L M : Nat → Int} {x y : Nat} {A B : Nat → Int} (h : St w wr p q L M x y A B) (k : Below wr.heap.size wr w') : St w w' p q L M x y A B :=
  ⟨h.two.more k, h.x.more k, h.y.more k⟩
theorem ListIs.setRow {w : World} {r p : Nat} {L M : Nat → Int} (h : ListIs w r L) (k : FileIs w p M) (cs : Array Value) : ListIs (w.setRow p cs) r L :=
  h.on (setRow_other w p r cs (h.apart k (by decide)))
theorem St.drewN {w wr : World} {p q : Nat} {L M : Nat → Int} {x y : Nat} {A B : Nat → Int} (h : St w wr p q L M x y A B) (n : Nat) : St w (wr.drewN n) p q L M x y A B := ⟨h.two.drewN n, h.x, h.y⟩
theorem St.swap {w wr : World} {p q : Nat} {L M : Nat → Int} {x y : Nat} {A B : Nat → Int} (h : St w wr p q L M x y A B) : St w (swapW wr p q L M) p q M L x y A B := by
  have h0 : St w wr.drew p q L M x y A B := ⟨h.two.drew, h.x, h.y⟩
  have h1 : St w (wr.drew.setRow p (cellsF M)) p q M M x y A B := ⟨h0.two.setF M, h0.x.setRow h0.two.f _, h0.y.setRow h0.two.f _⟩
  exact ⟨h1.two.setG L, h1.x.setRow h1.two.g _, h1.y.setRow h1.two.g _⟩
theorem St.self {w wr : World} {p q : Nat} {L M : Nat → Int} {x y : Nat} {A B : Nat → Int} (h : St w wr p q L M x y A B) : St w (swapW wr p p L L) p q L M x y A B := by
  have h0 : St w wr.drew p q L M x y A B := ⟨h.two.drew, h.x, h.y⟩
  have h1 : St w (wr.drew.setRow p (cellsF L)) p q L M x y A B := ⟨h0.two.setF L, h0.x.setRow h0.two.f _, h0.y.setRow h0.two.f _⟩
  exact ⟨h1.two.setF L, h1.x.setRow h1.two.f _, h1.y.setRow h1.two.f _⟩

end Go.Proofs.Ytnhdlgijjjkmdaa
