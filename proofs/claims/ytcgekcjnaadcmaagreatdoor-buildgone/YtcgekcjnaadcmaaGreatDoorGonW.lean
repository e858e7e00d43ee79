/- States of a machine told by lists; what a machine told so may be told by instead. -/
import Derived.Test.YtcgekcjnaadcmaaGreatDoorGonA
namespace Go.Proofs.YtcgekcjnaadcmaaGreatDoor.Pbuild
open Go.Proofs.YtcgekcjnaadcmaaGreatDoor.Pbase Go.Proofs.YtcgekcjnaadcmaaGreatDoor.Pchold Go.Proofs.YtcgekcjnaadcmaaGreatDoor.Pfind Go.Proofs.YtcgekcjnaadcmaaGreatDoor.Play Go.Proofs.YtcgekcjnaadcmaaGreatDoor.Pmem Go.Proofs.YtcgekcjnaadcmaaGreatDoor.Pmst Go.Proofs.YtcgekcjnaadcmaaGreatDoor.Ppmach Go.Proofs.YtcgekcjnaadcmaaGreatDoor.Ptint
open Go.RowKit Go.Shelf
set_option linter.unusedVariables false
set_option linter.unusedSimpArgs false

def mL (L : List (List Int)) : Nat → Nat → Int := fun f j => (L[f]?.getD [])[j]?.getD 0
def tL (L : List Ptyp.FS) : Nat → Ptyp.FS := fun f => L[f]?.getD Ptyp.noFS
def fitL (L : List (List Int)) : Bool := L.all fun r => r.all fun v => decide (0 ≤ v) && decide (v ≤ 18446744073709551615)
def okL (L : List Ptyp.FS) : Bool := L.all fun x => decide (0 ≤ x.cnt) && decide (x.cnt ≤ 1000)
def eqM (N : Nat) (M M' : Nat → Nat → Int) : Bool := (List.range N).all fun f => (List.range 36).all fun j => decide (M f j = M' f j)
def eqF (x y : Ptyp.FS) : Bool := decide (x.is = y.is) && decide (x.was = y.was) && decide (x.cnt = y.cnt) && decide (x.fr = y.fr)
def eqT (N : Nat) (T T' : Nat → Ptyp.FS) : Bool := (List.range N).all fun f => eqF (T f) (T' f)
theorem fitL_fit {L : List (List Int)} (h : fitL L = true) : Fit (mL L) := fun f a => by
  unfold mL
  cases hf : L[f]? with
  | none => simp
  | some r =>
    have hr : r ∈ L := List.mem_of_getElem? hf
    cases ha : r[a]? with
    | none => simp [ha]
    | some v =>
      have hv : v ∈ r := List.mem_of_getElem? ha
      have := List.all_eq_true.1 h r hr
      have := List.all_eq_true.1 this v hv
      simp only [Bool.and_eq_true, decide_eq_true_eq] at this
      simpa [ha] using this
theorem okL_ok {L : List Ptyp.FS} (h : okL L = true) : Ptyp.okA (tL L) := fun i => by
  unfold tL
  cases hf : L[i]? with
  | none => exact ⟨by simp [Ptyp.noFS], by simp [Ptyp.noFS]⟩
  | some x =>
    have := List.all_eq_true.1 h x (List.mem_of_getElem? hf)
    simp only [Bool.and_eq_true, decide_eq_true_eq] at this
    exact ⟨this.1, this.2⟩
theorem eqM_cells {N : Nat} {M M' : Nat → Nat → Int} (h : eqM N M M' = true) : cellsM N M = cellsM N M' := by
  unfold cellsM
  apply Array.ext_getElem?
  intro i
  by_cases hi : i < N * 36
  · have h1 : i / 36 < N := by omega
    have := List.all_eq_true.1 h (i / 36) (List.mem_range.2 h1)
    have := List.all_eq_true.1 this (i % 36) (List.mem_range.2 (Nat.mod_lt _ (by omega)))
    simp only [decide_eq_true_eq] at this
    simp [hi, this]
  · rw [Array.getElem?_eq_none (by simp; omega), Array.getElem?_eq_none (by simp; omega)]
theorem eqT_at {N : Nat} {T T' : Nat → Ptyp.FS} (h : eqT N T T' = true) {f : Nat} (hf : f < N) : T f = T' f := by
  have := List.all_eq_true.1 h f (List.mem_range.2 hf)
  unfold eqF at this
  simp only [Bool.and_eq_true, decide_eq_true_eq] at this
  obtain ⟨⟨⟨a, b⟩, c⟩, d⟩ := this
  revert a b c d
  cases T f
  cases T' f
  intro a b c d
  simp only at a b c d
  subst a b c d
  rfl
theorem eqT_cells {N : Nat} {T T' : Nat → Ptyp.FS} (h : eqT N T T' = true) : Ptyp.cellsT N T = Ptyp.cellsT N T' := by
  unfold Ptyp.cellsT
  congr 1
  apply List.map_congr_left
  intro i hi
  have hi := List.mem_range.1 hi
  rw [eqT_at h (f := i / 4) (by omega)]
/-- A machine whose words and frames are told by other lists that say the same. -/
theorem lv_norm {w0 w x : World} {p : Nat} {o : Nat → Nat} {P : Pq} {s : St} {M : Nat → Nat → Int} {T : Nat → Ptyp.FS} (h : Lv w0 w x p o P s) (hM : eqM s.N s.M M = true) (hF : Fit M) (hT : eqT s.N s.T T = true) (hO : Ptyp.okA T) : Lv w0 w x p o P { s with M := M, T := T } := by
  have v := h.fx.x.v
  have m1 : MemIs x P.pm P.bm s.N M := ⟨v.mem.head, by rw [← eqM_cells hM]; exact v.mem.row⟩
  have v1 := (v.left (Tint.refl (fun i => o i = 22) x)).turnM m1
  have t1 : Ptyp.TblIs x P.pt P.rt s.N T := ⟨v.typ.head, by rw [← eqT_cells hT]; exact v.typ.row, hO⟩
  have v2 := (v1.left (Tint.refl (fun i => o i = 24) x)).turnT t1
  exact ⟨⟨⟨v2, h.fx.x.k⟩, ⟨h.fx.ws.n1, h.fx.ws.n64, h.fx.ws.c1, h.fx.ws.c4⟩, h.fx.old, h.fx.tb, hF⟩, h.k⟩
/-- The machine of stage 27's statements. -/
def gS (M : List (List Int)) (T : List Ptyp.FS) (L : Nat → Plive.LS) : St := { nwS 12 2 2 with M := mL M, T := tL T, L := L }
end Go.Proofs.YtcgekcjnaadcmaaGreatDoor.Pbuild
