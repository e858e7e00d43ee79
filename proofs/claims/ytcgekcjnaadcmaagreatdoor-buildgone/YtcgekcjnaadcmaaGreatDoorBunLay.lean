/- Texts on finished packages, joined. -/
import Derived.Test.YtcgekcjnaadcmaaGreatDoorBunHead
import Derived.Test.YtcgekcjnaadcmaaGreatDoorBunMem
import Derived.Test.YtcgekcjnaadcmaaGreatDoorBunField
import Derived.OwnWalk
import Derived.BigRegion
import Derived.Deep.RegionHeld3
import Derived.Test.YtcgekcjnaadcmaaGreatDoorBunBase

/- Plain words on numbers laid into a frame behind its head (stages 17 to 22), and on numbers as words. No program is named here. -/
namespace Go.Proofs.YtcgekcjnaadcmaaGreatDoor.Play
open Go.Proofs.YtcgekcjnaadcmaaGreatDoor.Pbase Go.Proofs.YtcgekcjnaadcmaaGreatDoor.Pmem
open Go.RowKit
set_option linter.unusedVariables false

theorem rhide {p : Prop} (h : p) : Hid p := h
/-! ### numbers laid behind a head -/
/-- The words l from word 4 of frame f on. -/
def layF (N : Nat) (M : Nat → Nat → Int) (f : Int) (l : List Int) : Nat → Nat → Int := if okF N f = true then fun g b => if g = f.toNat ∧ 4 ≤ b ∧ b < 4 + l.length then l[b - 4]?.getD 0 else M g b else M
theorem lay_nil (N : Nat) (M : Nat → Nat → Int) (f : Int) : layF N M f [] = M := by
  unfold layF
  split
  · funext g b
    rw [if_neg (by rintro ⟨_, h1, h2⟩; simp at h2; omega)]
  · rfl
theorem lay_bad {N : Nat} {f : Int} (h : okF N f = false) (M : Nat → Nat → Int) (l : List Int) : layF N M f l = M := by
  unfold layF
  rw [if_neg (by rw [h]; decide)]
/-- One word more. -/
theorem lay_step {N : Nat} {M : Nat → Nat → Int} {f : Int} {l : List Int} (hl : l.length < 32) (x : Int) : stW N (layF N M f l) f (4 + (l.length : Int)) x = layF N M f (l ++ [x]) := by
  cases hf : okF N f
  · rw [lay_bad hf, lay_bad hf]
    unfold stW okW
    rw [hf]
    rfl
  · have hk : okW N f (4 + (l.length : Int)) = true := by unfold okW; rw [hf]; simp; omega
    unfold stW layF
    rw [if_pos hk, if_pos hf, if_pos hf]
    funext g b
    have e : (4 + (l.length : Int)).toNat = 4 + l.length := by omega
    rw [e, List.length_append, List.length_singleton]
    by_cases hg : g = f.toNat
    · by_cases hb : b = 4 + l.length
      · subst hb
        rw [if_pos ⟨hg, rfl⟩, if_pos ⟨hg, by omega, by omega⟩]
        simp
      · rw [if_neg (fun h => hb h.2)]
        by_cases hr : 4 ≤ b ∧ b < 4 + l.length
        · rw [if_pos ⟨hg, hr⟩, if_pos ⟨hg, by omega, by omega⟩, List.getElem?_append_left (by omega)]
        · rw [if_neg (fun h => hr h.2), if_neg (fun h => hr ⟨h.2.1, by omega⟩)]
    · rw [if_neg (fun h => hg h.1), if_neg (fun h => hg h.1), if_neg (fun h => hg h.1)]
theorem lay_out {N : Nat} {M : Nat → Nat → Int} {f : Int} {l : List Int} {g b : Nat} (h : (g : Int) ≠ f ∨ b < 4 ∨ 4 + l.length ≤ b) : layF N M f l g b = M g b := by
  unfold layF
  split
  · rename_i hf
    have hf' : 0 ≤ f := (okF_yes hf).1
    dsimp only
    rw [if_neg]
    rintro ⟨h1, h2, h3⟩
    rcases h with h | h | h <;> omega
  · rfl
theorem fit_lay {M : Nat → Nat → Int} (h : Fit M) (N : Nat) (f : Int) {l : List Int} (hl : ∀ x ∈ l, 0 ≤ x ∧ x ≤ 18446744073709551615) : Fit (layF N M f l) := by
  intro g b
  unfold layF
  split
  · dsimp only
    split
    · rename_i hb
      have hlt : b - 4 < l.length := by omega
      rw [List.getElem?_eq_getElem hlt]
      exact hl _ (List.getElem_mem hlt)
    · exact h g b
  · exact h g b
/-- A head is read out of a frame's first four words. -/
theorem is_words {N : Nat} {M M' : Nat → Nat → Int} {f : Int} (h : ∀ j, j < 4 → M' f.toNat j = M f.toNat j) (q : Int) : Phead.isE N M' f q = Phead.isE N M f q := by
  unfold Phead.isE Phead.ghE Phead.ghK
  rw [h 0 (by omega), h 1 (by omega), h 2 (by omega), h 3 (by omega)]
theorem is_lay {N : Nat} {M : Nat → Nat → Int} {f g : Int} {l : List Int} (q : Int) : Phead.isE N (layF N M f l) g q = Phead.isE N M g q := is_words (fun j hj => lay_out (.inr (.inl hj))) q
theorem is_bad {N : Nat} {M : Nat → Nat → Int} {f : Int} (h : okF N f = false) (q : Int) : Phead.isE N M f q ≠ 0 := by
  have e : Phead.ghE N M f = 1 := by unfold Phead.ghE; rw [h]; rfl
  unfold Phead.isE
  rw [e, if_neg (by decide)]
  decide
/-- A frame made of a kind is of it. -/
theorem is_made {N f : Nat} {M : Nat → Nat → Int} {k : Int} (hf : f < N) (hk : 0 ≤ k ∧ k ≤ 6) : Phead.isE N (Phead.mkM N M f k 0 false 0) f k = 0 := by
  have hr : Phead.Rt k 0 false 0 := by unfold Phead.Rt; simp; omega
  have e : Phead.mkM N M f k 0 false 0 = Phead.st4 N (clM N M f) f (Phead.wd0 k 0 false) 0 0 0 := by unfold Phead.mkM; rw [if_pos (Phead.rtB_yes hr)]
  obtain ⟨g0, _, _, _, g4⟩ := Phead.put_got (M := clM N M f) hf hr
  rw [e]
  unfold Phead.isE
  rw [g4, if_pos rfl, g0, if_pos rfl]
theorem made_err {N : Nat} {f k : Int} (hk : 0 ≤ k ∧ k ≤ 6) : Phead.errP N f k 0 false 0 = errF N f := by
  have hr : Phead.Rt k 0 false 0 := by unfold Phead.Rt; simp; omega
  unfold Phead.errP
  rw [if_pos (Phead.rtB_yes hr)]
/-! ### numbers of the machine -/
def In64 (a : Int) : Prop := -9223372036854775808 ≤ a ∧ a ≤ 9223372036854775807
/-- A number as a word. -/
def asW (a : Int) : Int := if 0 ≤ a then a else a + 18446744073709551616
theorem asW_eq {a : Int} (h : In64 a) : IntKind.u64.wrap a = asW a := by
  rw [IntKind.wrap_u64]
  unfold In64 at h
  unfold asW
  split <;> omega
theorem asW_fit {a : Int} (h : In64 a) : 0 ≤ asW a ∧ asW a ≤ 18446744073709551615 := by
  unfold In64 at h
  unfold asW
  split <;> omega
theorem asW_low {a c : Int} (h : In64 a) (hc : c ≤ 1073741824) (hl : asW a ≤ c) : asW a = a ∧ 0 ≤ a := by
  unfold In64 at h
  unfold asW at *
  split at hl
  · rename_i h0
    rw [if_pos h0]
    exact ⟨rfl, h0⟩
  · omega
end Go.Proofs.YtcgekcjnaadcmaaGreatDoor.Play

/- The document's memory: its Store once more; its In, Lay and Read: numbers behind a frame's head (stages 17 to 22). -/
namespace Go.Proofs.YtcgekcjnaadcmaaGreatDoor.Play
open Go.Proofs.YtcgekcjnaadcmaaGreatDoor.Pbase Go.Proofs.YtcgekcjnaadcmaaGreatDoor.Pfield Go.Proofs.YtcgekcjnaadcmaaGreatDoor.Pmem
open Go.RowKit
set_option linter.unusedVariables false

/-! ### the document's memory -/
/-! ### Lay -/
/-! ### Read -/
/-! ### In -/
end Go.Proofs.YtcgekcjnaadcmaaGreatDoor.Play

/- A block told by a list of values. -/
namespace Go.Proofs.YtcgekcjnaadcmaaGreatDoor.Play
open Go.Proofs.YtcgekcjnaadcmaaGreatDoor.Pbase Go.Proofs.YtcgekcjnaadcmaaGreatDoor.Pmem
open Go.RowKit
set_option linter.unusedVariables false

/-! ### a block of values -/
structure RowV (w : World) (B : Nat) (vs : List Value) : Prop where
  row : ∃ t, w.heap[B]? = some (.cells vs.toArray t (0, 0))
section
variable {w w' : World} {B : Nat} {vs : List Value}
theorem RowV.lt (h : RowV w B vs) : B < w.heap.size := by
  obtain ⟨t, h⟩ := h.row
  exact (Array.getElem?_eq_some_iff.1 h).1
theorem RowV.cell (h : RowV w B vs) (j : Nat) : w.cell? ⟨B, j, none⟩ = vs[j]? := by
  obtain ⟨t, h⟩ := h.row
  rw [cell_of_row _ _ _ _ _ _ h]
  simp
theorem RowV.fz (h : RowV w B vs) (j : Nat) : w.frozen? ⟨B, j, none⟩ = false := by
  obtain ⟨t, h⟩ := h.row
  exact frozen_of_row _ _ _ _ _ h
theorem RowV.on (h : RowV w B vs) (hB : Below w.heap.size w w') : RowV w' B vs := by
  have hl := h.lt
  obtain ⟨t, h⟩ := h.row
  exact ⟨t, (hB.block B hl).trans h⟩
theorem RowV.set (h : RowV w B vs) (j : Nat) (v : Value) : RowV (w.setCell ⟨B, j, none⟩ v) B (vs.set j v) := by
  obtain ⟨t, h⟩ := h.row
  refine ⟨t, ?_⟩
  rw [heap_setCell_same _ _ _ _ _ _ h]
  simp
theorem RowV.other (h : RowV w B vs) {q : Nat} (hq : B ≠ q) (j : Nat) (v : Value) : RowV (w.setCell ⟨q, j, none⟩ v) B vs := by
  obtain ⟨t, h⟩ := h.row
  exact ⟨t, (heap_setCell_other _ _ _ _ hq).trans h⟩
theorem rowV_new (w : World) (vs : List Value) (t : TypeId) : RowV (w.alloc (.cells vs.toArray t)) w.heap.size vs := ⟨t, heap_alloc_new w _⟩
end
end Go.Proofs.YtcgekcjnaadcmaaGreatDoor.Play

/- The document's memory behind calls: what they leave of it and of all that was there; stores into a block that a call laid itself (stages 21, 22). -/
namespace Go.Proofs.YtcgekcjnaadcmaaGreatDoor.Play
open Go.Proofs.YtcgekcjnaadcmaaGreatDoor.Pbase Go.Proofs.YtcgekcjnaadcmaaGreatDoor.Pfield Go.Proofs.YtcgekcjnaadcmaaGreatDoor.Pmem
open Go.RowKit
set_option linter.unusedVariables false

end Go.Proofs.YtcgekcjnaadcmaaGreatDoor.Play
