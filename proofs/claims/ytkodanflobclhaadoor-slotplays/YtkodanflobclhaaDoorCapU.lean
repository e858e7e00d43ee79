/- What Under of package cap answers, for every argument that its types allow. -/
import Derived.Test.YtkodanflobclhaaDoorCapA
namespace Go.Proofs.YtkodanflobclhaaDoor.Pcap
open Go.Proofs.YtkodanflobclhaaDoor.Pbase Go.Proofs.YtkodanflobclhaaDoor.Pfield
open Go.RowKit M
set_option linter.unusedVariables false

/-- A capability in a block. -/
structure Box6 (w : World) (B : Nat) (k r t l e a : Int) : Prop where
  lt : B < w.heap.size
  c0 : w.cell? ⟨B, 0, none⟩ = some (.int .i64 k)
  c1 : w.cell? ⟨B, 1, none⟩ = some (.int .i64 r)
  c2 : w.cell? ⟨B, 2, none⟩ = some (.int .i64 t)
  c3 : w.cell? ⟨B, 3, none⟩ = some (.int .i64 l)
  c4 : w.cell? ⟨B, 4, none⟩ = some (.int .i64 e)
  c5 : w.cell? ⟨B, 5, none⟩ = some (.int .i64 a)
  fz : ∀ j, w.frozen? ⟨B, j, none⟩ = false
theorem Box6.on {w w' : World} {B : Nat} {k r t l e a : Int} (h : Box6 w B k r t l e a) (hB : Below w.heap.size w w') : Box6 w' B k r t l e a :=
  ⟨Nat.lt_of_lt_of_le h.lt hB.size, (hB.cell (p := ⟨B, 0, none⟩) h.lt).trans h.c0, (hB.cell (p := ⟨B, 1, none⟩) h.lt).trans h.c1, (hB.cell (p := ⟨B, 2, none⟩) h.lt).trans h.c2, (hB.cell (p := ⟨B, 3, none⟩) h.lt).trans h.c3, (hB.cell (p := ⟨B, 4, none⟩) h.lt).trans h.c4, (hB.cell (p := ⟨B, 5, none⟩) h.lt).trans h.c5, fun j => (hB.frozen (p := ⟨B, j, none⟩) h.lt).trans (h.fz j)⟩
theorem box6_new (w : World) (k r t l e a : Int) (ty : TypeId) : Box6 (w.alloc (.cells #[.int .i64 k, .int .i64 r, .int .i64 t, .int .i64 l, .int .i64 e, .int .i64 a] ty)) w.heap.size k r t l e a := by
  have h := heap_alloc_new w (.cells #[.int .i64 k, .int .i64 r, .int .i64 t, .int .i64 l, .int .i64 e, .int .i64 a] ty)
  refine ⟨by simp, ?_, ?_, ?_, ?_, ?_, ?_, fun j => frozen_of_row _ _ _ _ _ h⟩ <;> (rw [cell_of_row _ _ _ _ _ _ h]; rfl)
/-- Two capabilities in two blocks of the call's own. -/
structure Pair (w0 w : World) (k r t l e a k' r' t' l' e' a' : Int) : Prop where
  tab : TabM w
  below : Below w0.heap.size w0 w
  p : Box6 w w0.heap.size k r t l e a
  q : Box6 w (w0.heap.size + 1) k' r' t' l' e' a'
theorem Pair.on {w0 w w' : World} {k r t l e a k' r' t' l' e' a' : Int} (h : Pair w0 w k r t l e a k' r' t' l' e' a') (hB : Below w.heap.size w w') : Pair w0 w' k r t l e a k' r' t' l' e' a' :=
  ⟨h.tab.on hB, h.below.trans (hB.mono h.below.size), h.p.on hB, h.q.on hB⟩
theorem pair_new (w : World) (hT : TabM w) (k r t l e a k' r' t' l' e' a' : Int) (ty ty' : TypeId) :
    Pair w ((w.alloc (.cells #[.int .i64 k, .int .i64 r, .int .i64 t, .int .i64 l, .int .i64 e, .int .i64 a] ty)).alloc (.cells #[.int .i64 k', .int .i64 r', .int .i64 t', .int .i64 l', .int .i64 e', .int .i64 a'] ty')) k r t l e a k' r' t' l' e' a' := by
  have B1 := bal (Below.refl w.heap.size w) (.cells #[.int .i64 k, .int .i64 r, .int .i64 t, .int .i64 l, .int .i64 e, .int .i64 a] ty)
  have B2 := bal B1 (.cells #[.int .i64 k', .int .i64 r', .int .i64 t', .int .i64 l', .int .i64 e', .int .i64 a'] ty')
  have q := box6_new (w.alloc (.cells #[.int .i64 k, .int .i64 r, .int .i64 t, .int .i64 l, .int .i64 e, .int .i64 a] ty)) k' r' t' l' e' a' ty'
  rw [World.size_alloc] at q
  exact ⟨hT.on B2, B2, (box6_new w k r t l e a ty).on (bal (Below.refl _ _) _), q⟩
theorem und_badp {k r t l e a k' r' t' l' e' a' : Int} (h : ¬ Rt k r t l e a) : undB k r t l e a k' r' t' l' e' a' = false := by simp [undB, rtB_no h]
theorem und_badq {k r t l e a k' r' t' l' e' a' : Int} (h : ¬ Rt k' r' t' l' e' a') : undB k r t l e a k' r' t' l' e' a' = false := by simp [undB, rtB_no h]
theorem und_kind {k r t l e a k' r' t' l' e' a' : Int} (h : k ≠ k') : undB k r t l e a k' r' t' l' e' a' = false := by simp [undB, h]
theorem und_low {k r t l e a k' r' t' l' e' a' : Int} (h : k ≤ 1) : undB k r t l e a k' r' t' l' e' a' = false := by simp [undB, show ¬ 1 < k by omega]
theorem und_rights {k r t l e a k' r' t' l' e' a' : Int} (h : sub5 r r' = false) : undB k r t l e a k' r' t' l' e' a' = false := by simp [undB, h]
theorem und_mem {r t l e a r' t' l' e' a' : Int} (h1 : Rt 2 r t l e a) (h2 : Rt 2 r' t' l' e' a') (h : sub5 r r' = true) : undB 2 r t l e a 2 r' t' l' e' a' = (decide (t' ≤ t) && decide (t + a ≤ t' + a')) := by simp [undB, h, rtB_yes h1, rtB_yes h2]
theorem und_else {k r t l e a r' t' l' e' a' : Int} (h1 : Rt k r t l e a) (h2 : Rt k r' t' l' e' a') (hk : 1 < k) (hk2 : k ≠ 2) (h : sub5 r r' = true) : undB k r t l e a k r' t' l' e' a' = (decide (t = t') && decide (l = l') && decide (e = e') && decide (a = a')) := by simp [undB, h, rtB_yes h1, rtB_yes h2, hk, hk2]
end Go.Proofs.YtkodanflobclhaaDoor.Pcap
