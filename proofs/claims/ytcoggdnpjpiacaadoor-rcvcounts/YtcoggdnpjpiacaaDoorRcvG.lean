/- Plain words on endpoints: which are right, their words, what is answered and done. No program is named here. -/
import Derived.Test.YtcoggdnpjpiacaaDoorBunRing
namespace Go.Proofs.YtcoggdnpjpiacaaDoor.Prcv
open Go.Proofs.YtcoggdnpjpiacaaDoor.Pbase Go.Proofs.YtcoggdnpjpiacaaDoor.Pfield Go.Proofs.YtcoggdnpjpiacaaDoor.Play Go.Proofs.YtcoggdnpjpiacaaDoor.Pmem Go.Proofs.YtcoggdnpjpiacaaDoor.Pring
open Go.RowKit M
set_option linter.unusedVariables false

/-! ### endpoints -/
structure Rv where
  th : Int
  pa : Int
  co : Int
  wa : Bool
  lo : Int
def rv0 : Rv := ⟨0, 0, 0, false, 0⟩
def vz (b : Bool) : Int := if b = true then 1 else 0
theorem vz_bd (b : Bool) : 0 ≤ vz b ∧ vz b ≤ 1 := by cases b <;> decide
theorem vz_one (b : Bool) : decide (vz b = 1) = b := by cases b <;> decide
def Rv.ws (x : Rv) : List Int := [x.th, x.pa, x.co, vz x.wa, x.lo, 0, 0, 0]
def Vo (x : Rv) : Prop := (0 ≤ x.th ∧ x.th ≤ 63) ∧ (0 ≤ x.pa ∧ x.pa ≤ 64) ∧ (0 ≤ x.co ∧ x.co ≤ 255) ∧ (0 ≤ x.lo ∧ x.lo ≤ 255)
def voB (x : Rv) : Bool := (decide (0 ≤ x.th) && decide (x.th ≤ 63)) && (decide (0 ≤ x.pa) && decide (x.pa ≤ 64)) && (decide (0 ≤ x.co) && decide (x.co ≤ 255)) && (decide (0 ≤ x.lo) && decide (x.lo ≤ 255))
theorem voB_iff (x : Rv) : voB x = true ↔ Vo x := by
  unfold voB Vo
  simp
  omega
theorem voB_yes {x : Rv} (h : Vo x) : voB x = true := (voB_iff x).2 h
theorem voB_no {x : Rv} (h : ¬ Vo x) : voB x = false := Bool.eq_false_iff.2 fun e => h ((voB_iff x).1 e)
theorem vs_fit {x : Rv} (h : Vo x) : ∀ v ∈ x.ws, 0 ≤ v ∧ v ≤ 9223372036854775807 := by
  unfold Vo at h
  have := vz_bd x.wa
  intro v hv
  simp only [Rv.ws, List.mem_cons, List.not_mem_nil, or_false] at hv
  rcases hv with rfl | rfl | rfl | rfl | rfl | rfl | rfl | rfl <;> omega
theorem Vo.fit {x : Rv} (h : Vo x) : ∀ v ∈ x.ws, 0 ≤ v ∧ v ≤ 18446744073709551615 := fun v hv => by
  have := vs_fit h v hv
  omega
theorem vs_len (x : Rv) : x.ws.length = 8 := rfl
def Fv (x : Rv) : Prop := In64 x.th ∧ In64 x.pa ∧ In64 x.co ∧ In64 x.lo
/-- What Check answers. -/
def vkE (x : Rv) : Int := if voB x = true then 0 else 1
theorem vk_yes {x : Rv} (h : Vo x) : vkE x = 0 := by unfold vkE; rw [if_pos (voB_yes h)]
theorem vk_no {x : Rv} (h : ¬ Vo x) : vkE x = 1 := by unfold vkE; rw [voB_no h]; rfl
/-- The endpoint that a frame's words are, and whether they are one's. -/
def rvOf (M : Nat → Nat → Int) (f : Int) : Rv := ⟨M f.toNat 4, M f.toNat 5, M f.toNat 6, decide (M f.toNat 7 = 1), M f.toNat 8⟩
def rvB (M : Nat → Nat → Int) (f : Int) : Bool := (decide (M f.toNat 7 ≤ 1) && decide (M f.toNat 9 = 0) && decide (M f.toNat 10 = 0) && decide (M f.toNat 11 = 0)) && voB (rvOf M f)
theorem rvB_iff (M : Nat → Nat → Int) (f : Int) : rvB M f = true ↔ (M f.toNat 7 ≤ 1 ∧ M f.toNat 9 = 0 ∧ M f.toNat 10 = 0 ∧ M f.toNat 11 = 0) ∧ Vo (rvOf M f) := by
  unfold rvB
  rw [Bool.and_eq_true, voB_iff]
  simp only [Bool.and_eq_true, decide_eq_true_eq]
  constructor
  · rintro ⟨⟨⟨⟨h1, h2⟩, h3⟩, h4⟩, h5⟩
    exact ⟨⟨h1, h2, h3, h4⟩, h5⟩
  · rintro ⟨⟨h1, h2, h3, h4⟩, h5⟩
    exact ⟨⟨⟨⟨h1, h2⟩, h3⟩, h4⟩, h5⟩
/-- Get. -/
def vgE (N : Nat) (M : Nat → Nat → Int) (f : Int) : Int := if Phead.isE N M f 6 = 0 then if rvB M f = true then 0 else 12 else 4
def vgX (N : Nat) (M : Nat → Nat → Int) (f : Int) : Rv := if vgE N M f = 0 then rvOf M f else rv0
/-- Make. -/
def vmE (N : Nat) (f : Int) (x : Rv) : Int := if voB x = true then errF N f else 1
def vmM (N : Nat) (M : Nat → Nat → Int) (f : Int) (x : Rv) : Nat → Nat → Int := if voB x = true then layF N (Phead.mkM N M f 6 0 false 0) f x.ws else M
/-- Put. -/
def vpE (N : Nat) (M : Nat → Nat → Int) (f : Int) (x : Rv) : Int := if voB x = true then if Phead.isE N M f 6 = 0 then 0 else 4 else 1
def vpM (N : Nat) (M : Nat → Nat → Int) (f : Int) (x : Rv) : Nat → Nat → Int := if vpE N M f x = 0 then layF N M f x.ws else M
/-- One more, as far as it goes. -/
def satI (a : Int) : Int := if 255 < a + 1 then 255 else a + 1
def lostX (x : Rv) : Rv := ⟨x.th, x.pa, x.co, x.wa, satI x.lo⟩
def moreX (x : Rv) : Rv := ⟨x.th, x.pa, satI x.co, x.wa, x.lo⟩
def lessX (x : Rv) : Rv := ⟨x.th, x.pa, x.co - 1, x.wa, x.lo⟩
def waitX (x : Rv) (b : Bool) : Rv := ⟨x.th, x.pa, x.co, b, x.lo⟩
/-- Tell. -/
def tlE (N : Nat) (M : Nat → Nat → Int) (f : Int) (e : Ev) : Int := if eoB e = true then if vgE N M f = 0 then if Pring.puE N M f e = 2 then 0 else Pring.puE N M f e else vgE N M f else 1
def tlM (N : Nat) (M : Nat → Nat → Int) (f : Int) (e : Ev) : Nat → Nat → Int := if tlE N M f e = 0 then if Pring.puE N M f e = 2 then layF N M f (lostX (rvOf M f)).ws else Pring.puM N M f e else M
/-- More; Less; Wait. -/
def moB (N : Nat) (M : Nat → Nat → Int) (f : Int) : Bool := if vgE N M f = 0 then (rvOf M f).wa else false
def moM (N : Nat) (M : Nat → Nat → Int) (f : Int) : Nat → Nat → Int := if vgE N M f = 0 then layF N M f (moreX (rvOf M f)).ws else M
def leB (N : Nat) (M : Nat → Nat → Int) (f : Int) : Bool := decide (vgE N M f = 0) && decide ((rvOf M f).co ≠ 0)
def leM (N : Nat) (M : Nat → Nat → Int) (f : Int) : Nat → Nat → Int := if leB N M f = true then layF N M f (lessX (rvOf M f)).ws else M
def waM (N : Nat) (M : Nat → Nat → Int) (f : Int) (b : Bool) : Nat → Nat → Int := if vgE N M f = 0 then layF N M f (waitX (rvOf M f) b).ws else M
/-! ### small facts -/
theorem sat_bd {a : Int} (h : 0 ≤ a ∧ a ≤ 255) : 0 ≤ satI a ∧ satI a ≤ 255 := by
  unfold satI
  split <;> omega
theorem lost_vo {x : Rv} (h : Vo x) : Vo (lostX x) := by
  have := sat_bd h.2.2.2
  exact ⟨h.1, h.2.1, h.2.2.1, this⟩
theorem more_vo {x : Rv} (h : Vo x) : Vo (moreX x) := by
  have := sat_bd h.2.2.1
  exact ⟨h.1, h.2.1, this, h.2.2.2⟩
theorem less_vo {x : Rv} (h : Vo x) (h0 : x.co ≠ 0) : Vo (lessX x) := by
  have := h.2.2.1
  refine ⟨h.1, h.2.1, ?_, h.2.2.2⟩
  show 0 ≤ x.co - 1 ∧ x.co - 1 ≤ 255
  omega
theorem wait_vo {x : Rv} (h : Vo x) (b : Bool) : Vo (waitX x b) := ⟨h.1, h.2.1, h.2.2.1, h.2.2.2⟩
theorem vg_yes {N : Nat} {M : Nat → Nat → Int} {f : Int} (h : vgE N M f = 0) : Phead.isE N M f 6 = 0 ∧ (M f.toNat 7 ≤ 1 ∧ M f.toNat 9 = 0 ∧ M f.toNat 10 = 0 ∧ M f.toNat 11 = 0) ∧ Vo (rvOf M f) ∧ vgX N M f = rvOf M f := by
  unfold vgX
  rw [if_pos h]
  unfold vgE at h
  split at h
  · rename_i h1
    split at h
    · rename_i h2
      obtain ⟨a, b⟩ := (rvB_iff M f).1 h2
      exact ⟨h1, a, b, rfl⟩
    · exact absurd h (by decide)
  · exact absurd h (by decide)
theorem vg_no {N : Nat} {M : Nat → Nat → Int} {f : Int} (h : vgE N M f ≠ 0) : vgX N M f = rv0 := by
  unfold vgX
  rw [if_neg h]
theorem vp_ok {N : Nat} {M : Nat → Nat → Int} {f : Int} {x : Rv} (hi : Phead.isE N M f 6 = 0) (hx : Vo x) : vpE N M f x = 0 ∧ vpM N M f x = layF N M f x.ws := by
  have e : vpE N M f x = 0 := by unfold vpE; rw [if_pos (voB_yes hx), if_pos hi]
  exact ⟨e, by unfold vpM; rw [if_pos e]⟩
theorem vp_type {N : Nat} {M : Nat → Nat → Int} {f : Int} {x : Rv} (hi : Phead.isE N M f 6 ≠ 0) (hx : Vo x) : vpE N M f x = 4 ∧ vpM N M f x = M := by
  have e : vpE N M f x = 4 := by unfold vpE; rw [if_pos (voB_yes hx), if_neg hi]
  exact ⟨e, by unfold vpM; rw [if_neg (by rw [e]; decide)]⟩
theorem vp_arg (N : Nat) (M : Nat → Nat → Int) (f : Int) {x : Rv} (hx : ¬ Vo x) : vpE N M f x = 1 ∧ vpM N M f x = M := by
  have e : vpE N M f x = 1 := by unfold vpE; rw [voB_no hx]; rfl
  exact ⟨e, by unfold vpM; rw [if_neg (by rw [e]; decide)]⟩
/-! ### Tell: which way -/
theorem tl_arg (N : Nat) (M : Nat → Nat → Int) (f : Int) {e : Ev} (h : ¬ Eo e) : tlE N M f e = 1 ∧ tlM N M f e = M := by
  have h1 : tlE N M f e = 1 := by unfold tlE; rw [eoB_no h]; rfl
  exact ⟨h1, by unfold tlM; rw [if_neg (by rw [h1]; decide)]⟩
theorem tl_get {N : Nat} {M : Nat → Nat → Int} {f : Int} {e : Ev} (h : Eo e) (hg : vgE N M f ≠ 0) : tlE N M f e = vgE N M f ∧ tlM N M f e = M := by
  have h1 : tlE N M f e = vgE N M f := by unfold tlE; rw [if_pos (eoB_yes h), if_neg hg]
  exact ⟨h1, by unfold tlM; rw [if_neg (by rw [h1]; exact hg)]⟩
theorem tl_full {N : Nat} {M : Nat → Nat → Int} {f : Int} {e : Ev} (h : Eo e) (hg : vgE N M f = 0) (hp : Pring.puE N M f e = 2) : tlE N M f e = 0 ∧ tlM N M f e = layF N M f (lostX (rvOf M f)).ws := by
  have h1 : tlE N M f e = 0 := by unfold tlE; rw [if_pos (eoB_yes h), if_pos hg, if_pos hp]
  exact ⟨h1, by unfold tlM; rw [if_pos h1, if_pos hp]⟩
theorem tl_put {N : Nat} {M : Nat → Nat → Int} {f : Int} {e : Ev} (h : Eo e) (hg : vgE N M f = 0) (hp : Pring.puE N M f e ≠ 2) : tlE N M f e = Pring.puE N M f e ∧ tlM N M f e = Pring.puM N M f e := by
  have h1 : tlE N M f e = Pring.puE N M f e := by unfold tlE; rw [if_pos (eoB_yes h), if_pos hg, if_neg hp]
  refine ⟨h1, ?_⟩
  unfold tlM
  rw [h1, if_neg hp]
  by_cases h0 : Pring.puE N M f e = 0
  · rw [if_pos h0]
  · rw [if_neg h0]
    unfold Pring.puM
    rw [if_neg h0]
/-! ### words that fit -/
theorem fit_vm {M : Nat → Nat → Int} (h : Fit M) (N : Nat) (f : Int) (x : Rv) : Fit (vmM N M f x) := by
  unfold vmM
  split
  · rename_i hx
    exact fit_lay (Phead.fit_mk h N f 6 0 false 0) N f ((voB_iff x).1 hx).fit
  · exact h
theorem fit_vp {M : Nat → Nat → Int} (h : Fit M) (N : Nat) (f : Int) (x : Rv) : Fit (vpM N M f x) := by
  by_cases hx : Vo x
  · unfold vpM
    split
    · exact fit_lay h N f hx.fit
    · exact h
  · rw [(vp_arg N M f hx).2]
    exact h
theorem fit_tl {M : Nat → Nat → Int} (h : Fit M) (N : Nat) (f : Int) (e : Ev) : Fit (tlM N M f e) := by
  unfold tlM
  split
  · rename_i h0
    split
    · rename_i h2
      by_cases hg : vgE N M f = 0
      · exact fit_lay h N f (lost_vo (vg_yes hg).2.2.1).fit
      · exfalso
        unfold tlE at h0
        by_cases he : eoB e = true
        · rw [if_pos he, if_neg hg] at h0
          exact hg h0
        · rw [if_neg he] at h0
          exact absurd h0 (by decide)
    · exact fit_pu h N f e
  · exact h
theorem fit_mo {M : Nat → Nat → Int} (h : Fit M) (N : Nat) (f : Int) : Fit (moM N M f) := by
  unfold moM
  split
  · rename_i hg
    exact fit_lay h N f (more_vo (vg_yes hg).2.2.1).fit
  · exact h
theorem le_yes {N : Nat} {M : Nat → Nat → Int} {f : Int} (h : leB N M f = true) : vgE N M f = 0 ∧ (rvOf M f).co ≠ 0 := by
  unfold leB at h
  simpa using h
theorem fit_le {M : Nat → Nat → Int} (h : Fit M) (N : Nat) (f : Int) : Fit (leM N M f) := by
  unfold leM
  split
  · rename_i hl
    obtain ⟨hg, h0⟩ := le_yes hl
    exact fit_lay h N f (less_vo (vg_yes hg).2.2.1 h0).fit
  · exact h
theorem fit_wa {M : Nat → Nat → Int} (h : Fit M) (N : Nat) (f : Int) (b : Bool) : Fit (waM N M f b) := by
  unfold waM
  split
  · rename_i hg
    exact fit_lay h N f (wait_vo (vg_yes hg).2.2.1 b).fit
  · exact h
end Go.Proofs.YtcoggdnpjpiacaaDoor.Prcv
