/- Loads and stores through tables of mappings and what a core remembers: plain words on what is found, loaded, stored and remembered. No program is named here. -/
import Derived.Test.YthcgdgpflhdchaaGreatDoorBunPgtbl
import Derived.Test.YthcgdgpflhdchaaGreatDoorBunRadix
import Derived.Test.YthcgdgpflhdchaaGreatDoorBunTlb
namespace Go.Proofs.YthcgdgpflhdchaaGreatDoor.Paccess
open Go.Proofs.YthcgdgpflhdchaaGreatDoor.Pbase Go.Proofs.YthcgdgpflhdchaaGreatDoor.Pmem
open Go.RowKit
set_option linter.unusedVariables false

/-! ### what is answered, and what is done -/
/-- The key of an address in a space; the mapping that is walked to; the one that is taken, remembered or walked to, and the walk's error. -/
def acK (sp a : Int) : Ptlb.Ky := (sp, Pradix.nuA a)
def acV (N : Nat) (M : Nat → Nat → Int) (sp a : Int) : Ptlb.Pt := (Ppgtbl.wkO N M sp (Pradix.nuA a), Ppgtbl.wkF N M sp (Pradix.nuA a), Ppgtbl.wkR N M sp (Pradix.nuA a), Ppgtbl.wkT N M sp (Pradix.nuA a))
def acW (N : Nat) (M : Nat → Nat → Int) (S : List Ptlb.En) (sp a : Int) : Int := if Ptlb.hasK S (acK sp a) = true then 0 else Ppgtbl.wkE N M sp (Pradix.nuA a)
def acP (N : Nat) (M : Nat → Nat → Int) (S : List Ptlb.En) (sp a : Int) : Ptlb.Pt := if Ptlb.hasK S (acK sp a) = true then Ptlb.ptK S (acK sp a) else acV N M sp a
/-- What is remembered behind it. -/
def acS (R N : Nat) (M : Nat → Nat → Int) (S : List Ptlb.En) (sp a : Int) : List Ptlb.En :=
  if Pradix.pgE a = 0 then if Ptlb.hasK S (acK sp a) = true then S else if Ppgtbl.wkE N M sp (Pradix.nuA a) = 0 then Ptlb.putS R S (acK sp a) (acV N M sp a) else S else S
/-- Does that mapping allow r? -/
def acB (N : Nat) (M : Nat → Nat → Int) (S : List Ptlb.En) (sp a r : Int) : Bool := Ppte.alB (acP N M S sp a).1 (acP N M S sp a).2.1 (acP N M S sp a).2.2.1 (acP N M S sp a).2.2.2 r
/-- Find: the error; the frame; the word in it. -/
def acE (N : Nat) (M : Nat → Nat → Int) (S : List Ptlb.En) (sp a r : Int) : Int :=
  if Pradix.pgE a = 0 then if acW N M S sp a = 0 then if acB N M S sp a r = true then 0 else 5 else acW N M S sp a else Pradix.pgE a
def acF (N : Nat) (M : Nat → Nat → Int) (S : List Ptlb.En) (sp a r : Int) : Int := if acE N M S sp a r = 0 then (acP N M S sp a).2.1 else 0
def acA (N : Nat) (M : Nat → Nat → Int) (S : List Ptlb.En) (sp a r : Int) : Int := if acE N M S sp a r = 0 then 4 + a % 32 else 0
/-- Load. -/
def loE (N : Nat) (M : Nat → Nat → Int) (S : List Ptlb.En) (sp a : Int) : Int := if acE N M S sp a 1 = 0 then errW N (acF N M S sp a 1) (acA N M S sp a 1) else acE N M S sp a 1
def loW (N : Nat) (M : Nat → Nat → Int) (S : List Ptlb.En) (sp a : Int) : Int := if acE N M S sp a 1 = 0 then ldM N M (acF N M S sp a 1) (acA N M S sp a 1) else 0
/-- Store. -/
def soE (N : Nat) (M : Nat → Nat → Int) (S : List Ptlb.En) (sp a : Int) : Int := if acE N M S sp a 2 = 0 then errW N (acF N M S sp a 2) (acA N M S sp a 2) else acE N M S sp a 2
def soM (N : Nat) (M : Nat → Nat → Int) (S : List Ptlb.En) (sp a v : Int) : Nat → Nat → Int := if acE N M S sp a 2 = 0 then stW N M (acF N M S sp a 2) (acA N M S sp a 2) v else M

/-! ### small facts -/
theorem pt_eta (p : Ptlb.Pt) : (p.1, p.2.1, p.2.2.1, p.2.2.2) = p := rfl
theorem fit_so {M : Nat → Nat → Int} (h : Fit M) (N : Nat) (S : List Ptlb.En) (sp a v : Int) (hv : 0 ≤ v ∧ v ≤ 18446744073709551615) : Fit (soM N M S sp a v) := by
  unfold soM
  split
  · exact h.st N _ _ _ hv
  · exact h
/-- An address of a page. -/
theorem addr_of {page t : Int} (h0 : 0 ≤ page ∧ page ≤ 31) (h1 : 0 ≤ t ∧ t ≤ 31) : Pradix.pgE (32 * page + t) = 0 ∧ Pradix.nuA (32 * page + t) = page ∧ (32 * page + t) % 32 = t := by
  obtain ⟨e1, _, _, _, e2⟩ := Pradix.pg_yes (a := 32 * page + t) (by omega)
  exact ⟨e1, by rw [e2]; omega, by omega⟩
/-- Remembered. -/
theorem ac_has {N : Nat} {M : Nat → Nat → Int} {S : List Ptlb.En} {sp a : Int} (ha : Pradix.pgE a = 0) (h : Ptlb.hasK S (acK sp a) = true) (R : Nat) (r : Int) :
    acS R N M S sp a = S ∧ acP N M S sp a = Ptlb.ptK S (acK sp a) ∧ acE N M S sp a r = if acB N M S sp a r = true then 0 else 5 := by
  refine ⟨?_, ?_, ?_⟩
  · unfold acS; rw [if_pos ha, if_pos h]
  · unfold acP; rw [if_pos h]
  · unfold acE acW; rw [if_pos ha, if_pos h, if_pos rfl]
/-- Walked to. -/
theorem ac_new {N : Nat} {M : Nat → Nat → Int} {S : List Ptlb.En} {sp a : Int} (ha : Pradix.pgE a = 0) (h : Ptlb.hasK S (acK sp a) = false) (hw : Ppgtbl.wkE N M sp (Pradix.nuA a) = 0) (R : Nat) (r : Int) :
    acS R N M S sp a = Ptlb.putS R S (acK sp a) (acV N M sp a) ∧ acP N M S sp a = acV N M sp a ∧ acE N M S sp a r = if acB N M S sp a r = true then 0 else 5 := by
  have hn : ¬ Ptlb.hasK S (acK sp a) = true := by rw [h]; decide
  refine ⟨?_, ?_, ?_⟩
  · unfold acS; rw [if_pos ha, if_neg hn, if_pos hw]
  · unfold acP; rw [if_neg hn]
  · unfold acE acW; rw [if_pos ha, if_neg hn, if_pos hw]
/-- Not walked to. -/
theorem ac_none {N : Nat} {M : Nat → Nat → Int} {S : List Ptlb.En} {sp a : Int} (ha : Pradix.pgE a = 0) (h : Ptlb.hasK S (acK sp a) = false) (hw : Ppgtbl.wkE N M sp (Pradix.nuA a) ≠ 0) (R : Nat) (r : Int) :
    acS R N M S sp a = S ∧ acE N M S sp a r = Ppgtbl.wkE N M sp (Pradix.nuA a) := by
  have hn : ¬ Ptlb.hasK S (acK sp a) = true := by rw [h]; decide
  refine ⟨?_, ?_⟩
  · unfold acS; rw [if_pos ha, if_neg hn, if_neg hw]
  · unfold acE acW; rw [if_pos ha, if_neg hn, if_neg hw]
theorem acB_of {N : Nat} {M : Nat → Nat → Int} {S : List Ptlb.En} {sp a r : Int} {p : Ptlb.Pt} (h : acP N M S sp a = p) : acB N M S sp a r = Ppte.alB p.1 p.2.1 p.2.2.1 p.2.2.2 r := by unfold acB; rw [h]
theorem acE_bad {N : Nat} {M : Nat → Nat → Int} {S : List Ptlb.En} {sp a : Int} (ha : Pradix.pgE a ≠ 0) (R : Nat) (r : Int) : acS R N M S sp a = S ∧ acE N M S sp a r = Pradix.pgE a := by
  refine ⟨?_, ?_⟩
  · unfold acS; rw [if_neg ha]
  · unfold acE; rw [if_neg ha]
/-- What is loaded and stored where it is found. -/
theorem load_yes {N : Nat} {M : Nat → Nat → Int} {S : List Ptlb.En} {sp a : Int} {p : Ptlb.Pt} (hp : acP N M S sp a = p) (h : acE N M S sp a 1 = 0) (hk : okW N p.2.1 (4 + a % 32) = true) : loE N M S sp a = 0 ∧ loW N M S sp a = M p.2.1.toNat (4 + a % 32).toNat := by
  unfold loE loW acF acA
  rw [if_pos h, if_pos h, if_pos h, if_pos h, hp]
  unfold errW ldM
  rw [if_pos hk, if_pos hk]
  exact ⟨rfl, rfl⟩
theorem load_no {N : Nat} {M : Nat → Nat → Int} {S : List Ptlb.En} {sp a : Int} (h : acE N M S sp a 1 ≠ 0) : loE N M S sp a = acE N M S sp a 1 ∧ loW N M S sp a = 0 := by
  unfold loE loW
  rw [if_neg h, if_neg h]
  exact ⟨rfl, rfl⟩
theorem store_yes {N : Nat} {M : Nat → Nat → Int} {S : List Ptlb.En} {sp a v : Int} {p : Ptlb.Pt} (hp : acP N M S sp a = p) (h : acE N M S sp a 2 = 0) (hk : okW N p.2.1 (4 + a % 32) = true) : soE N M S sp a = 0 ∧ soM N M S sp a v = stW N M p.2.1 (4 + a % 32) v := by
  unfold soE soM acF acA
  rw [if_pos h, if_pos h, if_pos h, if_pos h, hp]
  unfold errW
  rw [if_pos hk]
  exact ⟨rfl, rfl⟩
theorem store_no {N : Nat} {M : Nat → Nat → Int} {S : List Ptlb.En} {sp a v : Int} (h : acE N M S sp a 2 ≠ 0) : soE N M S sp a = acE N M S sp a 2 ∧ soM N M S sp a v = M := by
  unfold soE soM
  rw [if_neg h, if_neg h]
  exact ⟨rfl, rfl⟩
/-- Rights: what one, two and three allow. -/
theorem al_read (f r : Int) (hf : 0 ≤ f ∧ f ≤ 63) (h : r = 1 ∨ r = 3) : Ppte.alB true f r 0 1 = true := by
  have hm : Ppte.mpB true f r 0 = true := Ppte.mpB_yes (by omega)
  rw [Ppte.alB_of, hm]
  rcases h with rfl | rfl <;> decide
theorem al_one (f : Int) (hf : 0 ≤ f ∧ f ≤ 63) : Ppte.alB true f 1 0 2 = false := by
  rw [Ppte.alB_of]
  have : (Ppte.anR 1 2 == 2) = false := by decide
  rw [this, Bool.and_false]
theorem al_write (f r : Int) (hf : 0 ≤ f ∧ f ≤ 63) (h : r = 2 ∨ r = 3) : Ppte.alB true f r 0 2 = true := by
  have hm : Ppte.mpB true f r 0 = true := Ppte.mpB_yes (by omega)
  rw [Ppte.alB_of, hm]
  rcases h with rfl | rfl <;> decide
end Go.Proofs.YthcgdgpflhdchaaGreatDoor.Paccess
