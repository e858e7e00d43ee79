/- The document's memory: what Store and Clear write is a block of words: blocks of other Go types stay as they were. -/
import Derived.Test.YtkodanflobclhaaDoorMemT
namespace Go.Proofs.YtkodanflobclhaaDoor.Pmem
open Go.Proofs.YtkodanflobclhaaDoor.Pbase
open Go.RowKit
set_option linter.unusedVariables false

/-- Blocks of other Go types than words stay as they were. -/
def KeepT (w w' : World) : Prop := ∀ (B : Nat) (cs : Array Value) (t : TypeId), t ≠ 58 → w.heap[B]? = some (.cells cs t (0, 0)) → w'.heap[B]? = some (.cells cs t (0, 0))
theorem KeepT.refl (w : World) : KeepT w w := fun _ _ _ _ h => h
theorem KeepT.trans {a b c : World} (h : KeepT a b) (k : KeepT b c) : KeepT a c := fun B cs t ht e => k B cs t ht (h B cs t ht e)
theorem KeepT.below {w w' : World} (h : Below w.heap.size w w') : KeepT w w' := fun B cs t _ e => (h.block B (Array.getElem?_eq_some_iff.1 e).1).trans e
theorem KeepT.set {a w : World} (h : KeepT a w) {x : Nat} {cur : Array Value} (hx : w.heap[x]? = some (.cells cur 58 (0, 0))) (j : Nat) (v : Value) : KeepT a (w.setCell ⟨x, j, none⟩ v) := by
  intro B cs t ht e
  have e' := h B cs t ht e
  have hne : B ≠ x := by
    rintro rfl
    rw [hx, Option.some.injEq, Obj.cells.injEq] at e'
    exact ht e'.2.1.symm
  exact (Below.heap_setCell _ _ _ _ hne).trans e'
theorem rstore_keep (base p N f a : Nat) (v : Int) (M : Nat → Nat → Int) (w : World) (hf : f < N) (ha : a < 36) (hN : N ≤ 64) (hR : RefIs w base p N M) :
    Calls Tryd.prog 22 #[.pointer (some ⟨p, 0, none⟩), .int .i64 f, .int .i64 a, .int .u64 v] w fun e w' => e = .returned (.int .i64 0) ∧ RefIs w' base p N (stW N M f a v) ∧ Below base w w' ∧ KeepT w w' := by
  obtain ⟨g, cap, r, c, hp, hg0, hw0, ht0⟩ := hR.rows (by omega)
  have hg := hg0 f hf
  obtain ⟨hw, hz⟩ := hw0 f a hf ha
  obtain ⟨cur, ht⟩ := ht0 f hf
  have hok := okF_nat hf
  have hfi : (f : Int) < (N : Int) := by omega
  have hai : (a : Int) < 36 := by omega
  have hst : stW N M f a v = fun h b => if h = f ∧ b = a then v else M h b := by
    have : okW N (f : Int) (a : Int) = true := by simp [okW, hok]; omega
    simp only [stW, this, if_true, Int.toNat_natCast]
  have S := hR.store hf ha hp hg v
  have HS : Hid (RefIs (w.setCell ⟨r f, a, none⟩ (.int .u64 v)) base p N (stW N M f a v) ∧ Below base w (w.setCell ⟨r f, a, none⟩ (.int .u64 v)) ∧ KeepT w (w.setCell ⟨r f, a, none⟩ (.int .u64 v))) := by
    rw [hst]
    exact ⟨S.1, (Below.refl _ _).setCell S.2 _, (KeepT.refl w).set ht _ _⟩
  generalize r f = x at hg hw hz HS
  generalize c f = y at hg
  generalize M f a = m at hw
  clear hg0 hw0 hR S ht0 ht hst
  go_enter Tryd.func22, Tryd.ntmps22
  go_wp2_with (go_at_call 37; refine (is_any p g cap N f _ hN hp).mono ?_; rintro e w' ⟨rfl, rfl⟩)
  go_ret
  exact ⟨rfl, HS.out⟩
end Go.Proofs.YtkodanflobclhaaDoor.Pmem
