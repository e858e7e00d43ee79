/- Texts on finished packages, joined. -/
import Derived.Test.YtcgekcjnaadcmaaGreatDoorBunBase

/- A world in which blocks of one colour alone have changed (F: the colour), and what lies elsewhere is as it was. -/
namespace Go.Proofs.YtcgekcjnaadcmaaGreatDoor.Ptint
open Go.Proofs.YtcgekcjnaadcmaaGreatDoor.Pbase
open Go.RowKit
set_option linter.unusedVariables false

structure Tint (F : Nat → Prop) (w w' : World) : Prop where
  os : w'.os = w.os
  tape : w'.tape = w.tape
  output : w'.output = w.output
  size : w.heap.size ≤ w'.heap.size
  block : ∀ i, i < w.heap.size → ¬ F i → w'.heap[i]? = w.heap[i]?
section
variable {F G : Nat → Prop} {a w w' : World}
theorem Tint.refl (F : Nat → Prop) (w : World) : Tint F w w := ⟨rfl, rfl, rfl, Nat.le_refl _, fun _ _ _ => rfl⟩
theorem Tint.trans (h : Tint F a w) (k : Tint F w w') : Tint F a w' :=
  ⟨k.os.trans h.os, k.tape.trans h.tape, k.output.trans h.output, Nat.le_trans h.size k.size, fun i hi hn => (k.block i (Nat.lt_of_lt_of_le hi h.size) hn).trans (h.block i hi hn)⟩
theorem Tint.wide (h : Tint F w w') (hF : ∀ i, F i → G i) : Tint G w w' := ⟨h.os, h.tape, h.output, h.size, fun i hi hn => h.block i hi fun hf => hn (hF i hf)⟩
/-- What has changed lies in blocks that were not there: any colour. -/
theorem Tint.of_below (F : Nat → Prop) (h : Below w.heap.size w w') : Tint F w w' := ⟨h.os, h.tape, h.output, h.size, fun i hi _ => h.block i hi⟩
theorem Tint.of_but {b : Nat} (hb : F b) (h : But b w w') : Tint F w w' := ⟨h.os, h.tape, h.output, h.size, fun i hi hn => h.block i hi fun e => hn (by rw [e]; exact hb)⟩
theorem Tint.below {B : Nat} (h : Tint F w w') (hF : ∀ i, i < B → ¬ F i) (hB : B ≤ w.heap.size) : Below B w w' := ⟨h.os, h.tape, h.output, h.size, fun i hi => h.block i (Nat.lt_of_lt_of_le hi hB) (hF i hi)⟩
theorem Tint.on (h : Tint F a w) (k : Below w.heap.size w w') : Tint F a w' := h.trans (Tint.of_below F k)
theorem Tint.cell (h : Tint F w w') {q j : Nat} (hq : q < w.heap.size) (hF : ¬ F q) : w'.cell? ⟨q, j, none⟩ = w.cell? ⟨q, j, none⟩ := World.cell?_of_block (w := w) (h.block q hq hF)
end
end Go.Proofs.YtcgekcjnaadcmaaGreatDoor.Ptint
