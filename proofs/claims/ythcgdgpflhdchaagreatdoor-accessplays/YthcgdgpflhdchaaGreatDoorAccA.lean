/- A memory and what a core remembers, side by side, with the four tables; what each call leaves of the other's blocks. -/
import Derived.Test.YthcgdgpflhdchaaGreatDoorAccG
import Derived.Test.YthcgdgpflhdchaaGreatDoorBunPgtbl
import Derived.Test.YthcgdgpflhdchaaGreatDoorBunTlb
namespace Go.Proofs.YthcgdgpflhdchaaGreatDoor.Paccess
open Go.Proofs.YthcgdgpflhdchaaGreatDoor.Pbase Go.Proofs.YthcgdgpflhdchaaGreatDoor.Pmem
open Go.RowKit
set_option linter.unusedVariables false

theorem ahide {q : Prop} (h : q) : Hid q := h
/-! ### blocks apart by what they hold -/
theorem map_ne {w : World} {b : Nat} {S : List Ptlb.En} (h : Ptlb.MapIs w b S) {q : Nat} {cs : Array Value} {t : TypeId} {fr : Nat × Nat} (hq : w.heap[q]? = some (.cells cs t fr)) : q ≠ b := by
  obtain ⟨es, clock, hb, _⟩ := h
  rintro rfl
  rw [hb] at hq
  cases hq
/-- The rights that the two kinds of access need. -/
structure Nd (w : World) : Prop where
  lt : 0 < w.heap.size
  row : ∃ t fr, w.heap[(0 : Nat)]? = some (.cells #[.int .i64 1, .int .i64 2] t fr)
theorem Nd.on {w w' : World} (h : Nd w) (hB : Below w.heap.size w w') : Nd w' :=
  ⟨Nat.lt_of_lt_of_le h.lt hB.size, by obtain ⟨t, fr, hr⟩ := h.row; exact ⟨t, fr, (hB.block 0 h.lt).trans hr⟩⟩
theorem Nd.c0 {w : World} (h : Nd w) : w.cell? ⟨0, 0, none⟩ = some (.int .i64 1) ∧ w.cell? ⟨0, 1, none⟩ = some (.int .i64 2) := by
  obtain ⟨t, fr, hr⟩ := h.row
  exact ⟨by rw [cell_of_row w _ 0 _ _ _ hr]; rfl, by rw [cell_of_row w _ 1 _ _ _ hr]; rfl⟩
theorem Nd.but {w w' : World} {b : Nat} (h : Nd w) (hB : But b w w') (hn : 0 ≠ b) : Nd w' :=
  ⟨Nat.lt_of_lt_of_le h.lt hB.size, by obtain ⟨t, fr, hr⟩ := h.row; exact ⟨t, fr, (hB.block 0 h.lt hn).trans hr⟩⟩
theorem small_ne {w : World} {p b N : Nat} {M : Nat → Nat → Int} (hM : MemIs w p b N M) (hN : 1 ≤ N) {q : Nat} {cs : Array Value} {t : TypeId} {fr : Nat × Nat} (hq : w.heap[q]? = some (.cells cs t fr)) (hs : cs.size < 36) : q ≠ b := by
  rintro rfl
  rw [hM.row] at hq
  simp only [Option.some.injEq, Obj.cells.injEq] at hq
  have := congrArg Array.size hq.1
  rw [cellsM_size] at this
  omega
/-- The four tables. -/
structure Tx (w : World) : Prop where
  tb : Ppgtbl.Tb w
  nd : Nd w
theorem Tx.on {w w' : World} (h : Tx w) (hB : Below w.heap.size w w') : Tx w' := ⟨h.tb.on hB, h.nd.on hB⟩
/-- A memory and what a core remembers. -/
structure Ax (w : World) (p b N : Nat) (M : Nat → Nat → Int) (pt bt R T : Nat) (S : List Ptlb.En) : Prop where
  mx : Ppgtbl.Mx w p b N M
  nd : Nd w
  tl : Ptlb.TlbIs w pt bt R S
  fine : Ptlb.Fine S R T
  r8 : R ≤ 8
section
variable {w w' : World} {p b N : Nat} {M M' : Nat → Nat → Int} {pt bt R T T' : Nat} {S S' : List Ptlb.En}
theorem Ax.on (h : Ax w p b N M pt bt R T S) (hB : Below w.heap.size w w') : Ax w' p b N M pt bt R T S := ⟨h.mx.on hB, h.nd.on hB, h.tl.more hB, h.fine, h.r8⟩
theorem Ax.tx (h : Ax w p b N M pt bt R T S) : Tx w := ⟨h.mx.tb, h.nd⟩
/-- The memory has turned. -/
theorem Ax.mem (h : Ax w p b N M pt bt R T S) (hm : Ppgtbl.Mx w' p b N M') (hB : But b w w') : Ax w' p b N M' pt bt R T S := by
  have n1 : pt ≠ b := small_ne h.mx.mem h.mx.n1 h.tl.row (by simp)
  have n2 : b ≠ bt := map_ne h.tl.map h.mx.mem.row
  have n3 : 0 ≠ b := by obtain ⟨t, fr, hr⟩ := h.nd.row; exact small_ne h.mx.mem h.mx.n1 hr (by decide)
  exact ⟨hm, h.nd.but hB n3, h.tl.on (hB.block pt h.tl.lt n1) (hB.block bt h.tl.map.lt (Ne.symm n2)), h.fine, h.r8⟩
/-- What is remembered has turned. -/
theorem Ax.tlb (h : Ax w p b N M pt bt R T S) (ht : Ptlb.TlbIs w' pt bt R S') (hB : But bt w w') (hf : Ptlb.Fine S' R T') : Ax w' p b N M pt bt R T' S' := by
  have n1 : p ≠ bt := map_ne h.tl.map h.mx.mem.head
  have n2 : b ≠ bt := map_ne h.tl.map h.mx.mem.row
  have n3 : 3 ≠ bt := by obtain ⟨t, fr, hr⟩ := h.mx.tb.th.row; exact map_ne h.tl.map hr
  have n4 : 2 ≠ bt := by obtain ⟨t, fr, hr⟩ := h.mx.tb.tp.row; exact map_ne h.tl.map hr
  have n5 : 1 ≠ bt := by obtain ⟨t, fr, hr⟩ := h.mx.tb.tr.p; exact map_ne h.tl.map hr
  have n6 : 0 ≠ bt := by obtain ⟨t, fr, hr⟩ := h.nd.row; exact map_ne h.tl.map hr
  exact ⟨⟨h.mx.mem.on (hB.block p h.mx.mem.lt.1 n1) (hB.block b h.mx.mem.lt.2 n2), ⟨h.mx.tb.th.but hB n3, Ppgtbl.pt_but h.mx.tb.tp hB n4, Ppgtbl.wp_but h.mx.tb.tr hB n5⟩, h.mx.fit, h.mx.n1, h.mx.n64⟩, h.nd.but hB n6, ht, hf, h.r8⟩
theorem Ax.mono (h : Ax w p b N M pt bt R T S) (hT : T ≤ T') : Ax w p b N M pt bt R T' S := ⟨h.mx, h.nd, h.tl, h.fine.mono hT, h.r8⟩
end
/-- Two blocks alone may have changed. -/
structure Buts (b c : Nat) (w w' : World) : Prop where
  os : w'.os = w.os
  tape : w'.tape = w.tape
  output : w'.output = w.output
  size : w.heap.size ≤ w'.heap.size
  block : ∀ i, i < w.heap.size → i ≠ b → i ≠ c → w'.heap[i]? = w.heap[i]?
theorem Buts.one {b : Nat} (c : Nat) {w w' : World} (h : But b w w') : Buts b c w w' := ⟨h.os, h.tape, h.output, h.size, fun i hi hb _ => h.block i hi hb⟩
theorem Buts.two (b : Nat) {c : Nat} {w w' : World} (h : But c w w') : Buts b c w w' := ⟨h.os, h.tape, h.output, h.size, fun i hi _ hc => h.block i hi hc⟩
theorem Buts.of_below {w w' : World} (b c : Nat) (h : Below w.heap.size w w') : Buts b c w w' := ⟨h.os, h.tape, h.output, h.size, fun i hi _ _ => h.block i hi⟩
theorem Buts.trans {b c : Nat} {a w w' : World} (h : Buts b c a w) (k : Buts b c w w') : Buts b c a w' :=
  ⟨k.os.trans h.os, k.tape.trans h.tape, k.output.trans h.output, Nat.le_trans h.size k.size, fun i hi hb hc => (k.block i (Nat.lt_of_lt_of_le hi h.size) hb hc).trans (h.block i hi hb hc)⟩
theorem Buts.on {b c : Nat} {a w w' : World} (h : Buts b c a w) (k : Below a.heap.size w w') : Buts b c a w' :=
  ⟨k.os.trans h.os, k.tape.trans h.tape, k.output.trans h.output, Nat.le_trans h.size k.size, fun i hi hb hc => (k.block i hi).trans (h.block i hi hb hc)⟩
theorem Buts.below {b c B : Nat} {w w' : World} (h : Buts b c w w') (hb : B ≤ b) (hc : B ≤ c) (hw : B ≤ w.heap.size) : Below B w w' := ⟨h.os, h.tape, h.output, h.size, fun i hi => h.block i (by omega) (by omega) (by omega)⟩
/-! ### what is remembered stays fine -/
theorem fine_ac {R T N : Nat} {M : Nat → Nat → Int} {S : List Ptlb.En} (h : Ptlb.Fine S R T) (sp a : Int) : Ptlb.Fine (acS R N M S sp a) R (T + 1) := by
  unfold acS
  split
  · split
    · exact h.mono (by omega)
    · split
      · exact h.put _ _
      · exact h.mono (by omega)
  · exact h.mono (by omega)
end Go.Proofs.YthcgdgpflhdchaaGreatDoor.Paccess
