/- The document's memory behind calls: what they leave of it and of all that was there; stores into a block that a call laid itself (stages 21, 22). -/
import Derived.Test.YtdplailaolfpkaaDoorBunLay
namespace Go.Proofs.YtdplailaolfpkaaDoor.Play
open Go.Proofs.YtdplailaolfpkaaDoor.Pbase Go.Proofs.YtdplailaolfpkaaDoor.Pfield Go.Proofs.YtdplailaolfpkaaDoor.Pmem
open Go.RowKit
set_option linter.unusedVariables false

/-- A store into a block of numbers that a call laid itself leaves the document's memory, and all that was there. -/
theorem ref_off {w w' : World} {base q N : Nat} {M : Nat → Nat → Int} {B : Nat} {z : Int} (h : RefIs w base q N M) (hN : 1 ≤ N) (hB : w.cell? ⟨B, 0, none⟩ = some (.int .i64 z)) (hk : ∀ k, k ≠ B → w'.heap[k]? = w.heap[k]?) : RefIs w' base q N M := by
  obtain ⟨hb, v0, hv, r, cc, h1, h2, h3⟩ := h
  rcases h1.2 with ⟨_, e⟩ | ⟨g, cap, cur, e, hg, hh, rest⟩
  · omega
  · refine ⟨hb, v0, ?_, r, cc, ⟨h1.1, .inr ⟨g, cap, cur, e, hg, ?_, rest⟩⟩, fun j hj => ?_, h3⟩
    · rw [hk q (by rintro rfl; rw [cell_of_row _ _ _ _ _ _ hv, e] at hB; simp at hB)]; exact hv
    · subst e
      rw [hk g (by rintro rfl; rw [h1.cellAt 0 (by omega)] at hB; simp at hB)]; exact hh
    · obtain ⟨hbj, cu, hc, hw⟩ := h2 j hj
      refine ⟨hbj, cu, ?_, hw⟩
      rw [hk (r j) (by intro e; rw [← e, cell_of_row _ _ _ _ _ _ hc, hw 0 (by omega)] at hB; simp at hB)]; exact hc
theorem keepX_off {q : Nat} {a w : World} (h : KeepX q a w) {D : Nat} (hD : a.heap.size ≤ D) (j : Nat) (v : Value) : KeepX q a (w.setCell ⟨D, j, none⟩ v) := by
  have eo : ∀ b k, b ≠ D → (w.setCell ⟨D, j, none⟩ v).cell? ⟨b, k, none⟩ = w.cell? ⟨b, k, none⟩ := fun b k hb => World.cell?_of_block (heap_setCell_other _ _ _ _ hb)
  refine ⟨fun B cs t ht e => ?_, by rw [World.size_setCell]; exact h.size, fun T hT => ?_⟩
  · have hl := (Array.getElem?_eq_some_iff.1 e).1
    rw [heap_setCell_other _ _ _ _ (by show B ≠ D; omega)]
    exact h.t B cs t ht e
  · have hTa := hT.1
    obtain ⟨⟨t0, tp, t1⟩, u1⟩ := h.up T hT
    refine ⟨⟨by rw [World.size_setCell]; exact t0, tp, fun g n cap e => ?_⟩, fun i h1 h2 => (heap_setCell_other _ _ _ _ (by show i ≠ D; omega)).trans (u1 i h1 h2)⟩
    rw [eo q 0 (by omega)] at e
    obtain ⟨a1, a2⟩ := t1 g n cap e
    refine ⟨a1, fun f x l c hf e2 => ?_⟩
    rw [eo g f (by omega)] at e2
    exact a2 f x l c hf e2
/-- The document's memory in W, and what is left of w. -/
structure Dh (w W : World) (base q N : Nat) (M : Nat → Nat → Int) : Prop where
  rx : Rx W base q N M
  below : Below base w W
  kp : KeepX q w W
theorem dh_self {w : World} {base q N : Nat} {M : Nat → Nat → Int} (h : Rx w base q N M) : Dh w w base q N M := ⟨h, Below.refl _ _, KeepX.refl _ _⟩
theorem Dh.on {w W W' : World} {base q N : Nat} {M : Nat → Nat → Int} (h : Dh w W base q N M) (hB : Below W.heap.size W W') : Dh w W' base q N M := ⟨h.rx.grown hB, h.below.trans (hB.mono h.rx.le), h.kp.trans (KeepX.below hB)⟩
theorem Dh.turn {w W W' : World} {base q N : Nat} {M M' : Nat → Nat → Int} (h : Dh w W base q N M) (hR : RefIs W' base q N M') (hF : Fit M') (hB : Below base W W') (hK : KeepX q W W') : Dh w W' base q N M' := ⟨h.rx.turn hR hF, h.below.trans hB, h.kp.trans hK⟩
theorem Dh.trans {w W W' : World} {base q N : Nat} {M M' : Nat → Nat → Int} (h : Dh w W base q N M) (k : Dh W W' base q N M') : Dh w W' base q N M' := ⟨k.rx, h.below.trans k.below, h.kp.trans k.kp⟩
theorem Dh.set {w W : World} {base q N : Nat} {M : Nat → Nat → Int} (h : Dh w W base q N M) {D : Nat} {z : Int} (hz : W.cell? ⟨D, 0, none⟩ = some (.int .i64 z)) (hD : w.heap.size ≤ D) (hb : base ≤ w.heap.size) (j : Nat) (v : Value) : Dh w (W.setCell ⟨D, j, none⟩ v) base q N M :=
  ⟨⟨ref_off h.rx.ref h.rx.n1 hz (fun k hk => heap_setCell_other _ _ _ _ hk), h.rx.fit, h.rx.n1, h.rx.n64⟩, h.below.setCell (p := ⟨D, j, none⟩) (by show base ≤ D; omega) v, keepX_off h.kp hD j v⟩
end Go.Proofs.YtdplailaolfpkaaDoor.Play
