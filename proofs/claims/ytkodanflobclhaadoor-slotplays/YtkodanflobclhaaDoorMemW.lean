/- Words of both memories, and their comparison, each by one contract for every argument. -/
import Derived.Test.YtkodanflobclhaaDoorMemV
namespace Go.Proofs.YtkodanflobclhaaDoor.Pmem
open Go.Proofs.YtkodanflobclhaaDoor.Pbase
open Go.RowKit
set_option linter.unusedVariables false

/-- The words that Words tells. -/
def wdL (N : Nat) (M : Nat → Nat → Int) (f : Int) : List Int := if okF N f then wdM M f.toNat else []
theorem wdL_len (N : Nat) (M : Nat → Nat → Int) (f : Int) : (wdL N M f).length ≤ 36 := by
  unfold wdL
  split
  · rw [wdM_len]; exact Nat.le_refl _
  · simp
/-- The slice at a holds the words L. -/
def Lst (w : World) (a : Option Addr) (L : List Int) : Prop := L = [] ∨ ∃ x, a = some ⟨x, 0, none⟩ ∧ x < w.heap.size ∧ ∀ j, j < L.length → w.cell? ⟨x, 0 + j, none⟩ = some (.int .u64 (L[j]?.getD 0))
theorem Lst.on {w w' : World} {a : Option Addr} {L : List Int} (h : Lst w a L) (hB : Below w.heap.size w w') : Lst w' a L :=
  match h with
  | .inl e => .inl e
  | .inr ⟨x, e, hx, hc⟩ => .inr ⟨x, e, Nat.lt_of_lt_of_le hx hB.size, fun j hj => (hB.cell (p := ⟨x, 0 + j, none⟩) hx).trans (hc j hj)⟩
theorem lst_of {w : World} {N : Nat} {M : Nat → Nat → Int} {f x : Nat} (hf : f < N) (hx : x < w.heap.size) (hc : ∀ j, j < 36 → w.cell? ⟨x, 0 + j, none⟩ = some (.int .u64 (M f j))) : Lst w (some ⟨x, 0, none⟩) (wdL N M (f : Int)) := by
  refine .inr ⟨x, rfl, hx, fun j hj => ?_⟩
  rw [wdL, if_pos (okF_nat hf), Int.toNat_natCast] at hj ⊢
  rw [wdM_len] at hj
  rw [hc j hj, wdM_get hj]
  rfl
theorem words_any (p b N : Nat) (f : Int) (M : Nat → Nat → Int) (w : World) (hN1 : 1 ≤ N) (hN : N ≤ 64) (hM : MemIs w p b N M) :
    Calls Tryd.prog 33 #[.pointer (some ⟨p, 0, none⟩), .int .i64 f] w fun e w' => ∃ a c, e = .returned (.tuple #[.slice a (wdL N M f).length c, .int .i64 (errF N f)]) ∧ Lst w' a (wdL N M f) ∧ Below w.heap.size w w' := by
  cases h : okF N f
  · refine (words_bad p b N f w (okF_no h) hN1 hN hM.cell).mono fun e w' ⟨h1, h2⟩ => ⟨none, 0, ?_, .inl (by simp [wdL, h]), by rw [h2]; exact Below.refl _ _⟩
    rw [h1]; simp [wdL, h, errF]
  · obtain ⟨c, rfl, hc⟩ := okF_split h
    refine (words_ok p b N c M w hc hN hM).mono fun e w' ⟨h1, h2⟩ => ⟨some ⟨w.heap.size, 0, none⟩, 36, ?_, ?_, ?_⟩
    · rw [h1]; simp [wdL, h, errF, wdM_len]
    · rw [h2]
      refine lst_of hc (by simp [wordsW]) (fun j hj => ?_)
      rw [Nat.zero_add, wordsW, World.cell?_alloc_new, List.getElem?_toArray, frameM_get hj]
    · rw [h2]
      exact (Below.refl _ _).alloc (Nat.le_refl _) _
end Go.Proofs.YtkodanflobclhaaDoor.Pmem
