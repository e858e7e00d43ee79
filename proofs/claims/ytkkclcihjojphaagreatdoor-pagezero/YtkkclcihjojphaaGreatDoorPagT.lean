import Derived.Test.YtkkclcihjojphaaGreatDoorPkM
import Derived.Test.YtkkclcihjojphaaGreatDoorPkN
set_option linter.unusedVariables false
set_option linter.unusedSimpArgs false
set_option maxRecDepth 100000
set_option maxHeartbeats 20000000
namespace Go.Proofs.YtkkclcihjojphaaGreatDoor
namespace Pbpag
open Pbase Pchold Pfind Play Pmem Pmst Ppmach Ptint Pvmach Pvobj Go.RowKit
section
variable {w0 w w' : World} {p : Nat} {o : Nat -> Nat} {P : Pq} {q : Nat} {u : Nat -> Nat} {Q : Pl} {s s' sa sb : St}
theorem vy_norm {M : Nat -> Nat -> Int} {T : Nat -> Ptyp.FS} (h : Vy w0 w q u Q s) (hM : eqM s.N s.M M = true) (hF : Fit M) (hT : eqT s.N s.T T = true) (hO : Ptyp.okA T) : Vy w0 w q u Q { s with M := M, T := T } := by
 have m1 : Pvmem.RefM w (fun i => u i = 1) Q.pm s.N Q.bm Q.tm M := ⟨h.v.mem.ref.congr fun f a hf ha => by
  unfold eqM at hM
  rw [List.all_eq_true] at hM
  have := hM f (List.mem_range.2 hf)
  rw [List.all_eq_true] at this
  exact of_decide_eq_true (this a (List.mem_range.2 ha)), h.v.mem.top, h.v.mem.col⟩
 have h1 := h.mem hF m1 (Tint.refl _ _)
 have t1 : Pvtyp.RefIs w (fun i => u i = 3) Q.pt s.N T := by
  obtain ⟨r, c, k⟩ := h.v.typ
  obtain ⟨cur, k1, k2⟩ := k.list
  exact ⟨r, c, k.ge, k.head, ⟨cur, k1, fun n j hn hj => by rw [<- eqT_at hT hn]; exact k2 n j hn hj⟩, k.ger, hO⟩
 exact h1.typ t1 (Tint.refl _ _)
structure Tw (w0 w : World) (p : Nat) (o : Nat -> Nat) (P : Pq) (q : Nat) (u : Nat -> Nat) (Q : Pl) (sa sb : St) : Prop where
 a : Fx w0 w p o P sa
 b : Vy w0 w q u Q sb
 ap : ∀ i, u i <= 17 -> w0.heap.size <= i /\ ¬ PMine o i
theorem Tw.pro (h : Tw w0 w p o P q u Q sa sb) (g : Lv w0 w w' p o P s') : Tw w0 w' p o P q u Q s' sb := by
 have k0 : Tint (Mine u) w0 w' := ⟨g.k.os.trans h.b.x.k.os, g.k.tape.trans h.b.x.k.tape, g.k.output.trans h.b.x.k.output, Nat.le_trans h.b.x.k.size g.k.size, fun i hi hn => by
  refine (g.k.block i (Nat.lt_of_lt_of_le hi h.b.x.k.size) fun e => ?_).trans (h.b.x.k.block i hi hn)
  have := h.a.old i hi
  have := e.2
  omega⟩
 exact ⟨g.fx, ⟨⟨h.b.v.other h.b.ws.c4 (fun i hi => (h.ap i hi).2) g.k, k0⟩, h.b.ws, h.b.fit⟩, h.ap⟩
theorem Tw.doc (h : Tw w0 w p o P q u Q sa sb) (g : Vy w w' q u Q s') : Tw w0 w' p o P q u Q sa s' := by
 have k : Tint (Mine u) w w' := g.x.k
 have k0 : Tint (PMine o) w0 w' := ⟨k.os.trans h.a.x.k.os, k.tape.trans h.a.x.k.tape, k.output.trans h.a.x.k.output, Nat.le_trans h.a.x.k.size k.size, fun i hi hn =>
  (k.block i (Nat.lt_of_lt_of_le hi h.a.x.k.size) fun e => by have := (h.ap i e).1; omega).trans (h.a.x.k.block i hi hn)⟩
 exact ⟨⟨⟨h.a.x.v.other h.a.ws.c4 (fun i h1 h2 e => (h.ap i e).2 ⟨h1, h2⟩) k, k0⟩, h.a.ws, h.a.old, h.a.tb, h.a.fit⟩, h.b.go g, h.ap⟩
end
end Pbpag
end Go.Proofs.YtkkclcihjojphaaGreatDoor
