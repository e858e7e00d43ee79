/- Two memories and what two cores remember, the program's and the document's, side by side. -/
import Derived.Test.YthcgdgpflhdchaaGreatDoorAccA
import Derived.Test.YthcgdgpflhdchaaGreatDoorAccR
import Derived.Test.YthcgdgpflhdchaaGreatDoorBunMem
namespace Go.Proofs.YthcgdgpflhdchaaGreatDoor.Paccess
open Go.Proofs.YthcgdgpflhdchaaGreatDoor.Pbase Go.Proofs.YthcgdgpflhdchaaGreatDoor.Pmem
open Go.RowKit
set_option linter.unusedVariables false

/-- The program's memory has the words M' and remembers S', the document's M and S. -/
structure Jo (w0 w : World) (N : Nat) (M M' : Nat → Nat → Int) (pt bt qt R T : Nat) (S S' : List Ptlb.En) : Prop where
  mem : MemIs w (w0.heap.size + 1) w0.heap.size N M'
  ref : RefIs w (w0.heap.size + 2) (w0.heap.size + 2) N M
  tl : Ptlb.TlbIs w pt bt R S'
  rt : ∃ ao cap, Ptlb.RefIs (w0.heap.size + 2) w qt R ao cap S
  fit : Fit M
  fit' : Fit M'
  fine : Ptlb.Fine S R T
  fine' : Ptlb.Fine S' R T
  tx : Tx w0
  below : Below w0.heap.size w0 w
  lo : w0.heap.size ≤ bt
  r8 : R ≤ 8
  n1 : 1 ≤ N
  n64 : N ≤ 64
section
variable {w0 w w' : World} {N : Nat} {M M' : Nat → Nat → Int} {pt bt qt R T T' : Nat} {S S' : List Ptlb.En}
theorem Jo.on (h : Jo w0 w N M M' pt bt qt R T S S') (hB : Below w.heap.size w w') : Jo w0 w' N M M' pt bt qt R T S S' := by
  obtain ⟨ao, cap, ht⟩ := h.rt
  exact ⟨h.mem.grown hB, h.ref.grown hB, h.tl.more hB, ⟨ao, cap, ht.more hB⟩, h.fit, h.fit', h.fine, h.fine', h.tx, h.below.trans (hB.mono h.below.size), h.lo, h.r8, h.n1, h.n64⟩
theorem Jo.ax (h : Jo w0 w N M M' pt bt qt R T S S') : Ax w (w0.heap.size + 1) w0.heap.size N M' pt bt R T S' :=
  ⟨⟨h.mem, h.tx.tb.on h.below, h.fit', h.n1, h.n64⟩, h.tx.nd.on h.below, h.tl, h.fine', h.r8⟩
theorem Jo.rj (h : Jo w0 w N M M' pt bt qt R T S S') : Rj w (w0.heap.size + 2) (w0.heap.size + 2) N M qt R S := ⟨⟨h.ref, h.fit, h.n1, h.n64⟩, h.rt, h.fine.len, h.r8⟩
theorem Jo.both (h : Jo w0 w N M M pt bt qt R T S S') : Both w0 w N M := ⟨h.mem, h.ref, h.below⟩
theorem Jo.mono (h : Jo w0 w N M M' pt bt qt R T S S') (hT : T ≤ T') : Jo w0 w N M M' pt bt qt R T' S S' := ⟨h.mem, h.ref, h.tl, h.rt, h.fit, h.fit', h.fine.mono hT, h.fine'.mono hT, h.tx, h.below, h.lo, h.r8, h.n1, h.n64⟩
/-- The program's call. -/
theorem Jo.prog (h : Jo w0 w N M M pt bt qt R T S S) (ha : Ax w' (w0.heap.size + 1) w0.heap.size N M' pt bt R T' S') (hB : Buts w0.heap.size bt w w') (hT : T ≤ T') : Jo w0 w' N M M' pt bt qt R T' S S' := by
  obtain ⟨ao, cap, ht⟩ := h.rt
  have hm := h.tl.map
  have hf : ∀ (i : Nat) (cs : Array Value) (t : TypeId), w.heap[i]? = some (.cells cs t (0, 0)) → i ≠ w0.heap.size → w'.heap[i]? = w.heap[i]? := fun i cs t hi hn => hB.block i (Array.getElem?_eq_some_iff.1 hi).1 hn (map_ne hm hi)
  refine ⟨ha.mx.mem, ref_kept h.ref fun i cs t hi hc _ _ => hf i cs t hc (by omega), ha.tl, ⟨ao, cap, tref_kept ht fun i cs t hc hk => hf i cs t hc fun e => ?_⟩, h.fit, ha.mx.fit, h.fine.mono hT, ha.fine, h.tx, h.below.trans (hB.below (Nat.le_refl _) h.lo h.below.size), h.lo, h.r8, h.n1, h.n64⟩
  have hr := h.mem.row
  rw [← e, hc] at hr
  cases hr
  rcases hk with h | h <;> exact absurd h (by decide)
/-- The document's. -/
theorem Jo.doc (h : Jo w0 w N M M' pt bt qt R T S S') (hr : Rj w' (w0.heap.size + 2) (w0.heap.size + 2) N M' qt R S') (hB : Below (w0.heap.size + 2) w w') (hD : Doc w w') : Jo w0 w' N M' M' pt bt qt R T S' S' :=
  ⟨h.mem.below hB (by omega) (by omega), hr.rx.ref, Doc.tlb h.tl hD, hr.tl, h.fit', h.fit', h.fine', h.fine', h.tx, h.below.trans (hB.mono (by omega)), h.lo, h.r8, h.n1, h.n64⟩
end
end Go.Proofs.YthcgdgpflhdchaaGreatDoor.Paccess
