/- Plain words on budgets: which are right, their words, what is answered and done. No program is named here. -/
import Derived.Test.YtiapfapmgjngpaaGreatDoorBunLay
namespace Go.Proofs.YtiapfapmgjngpaaGreatDoor.Ptcap
open Go.Proofs.YtiapfapmgjngpaaGreatDoor.Pbase Go.Proofs.YtiapfapmgjngpaaGreatDoor.Play Go.Proofs.YtiapfapmgjngpaaGreatDoor.Pmem
open Go.RowKit
set_option linter.unusedVariables false

/-! ### budgets -/
structure Bd where
  inf : Bool
  lf : Int
  pr : Int
def bd0 : Bd := ⟨false, 0, 0⟩
def bz (b : Bool) : Int := if b = true then 1 else 0
def Bd.ws (x : Bd) : List Int := [bz x.inf, x.lf, x.pr]
def Bo (x : Bd) : Prop := (0 ≤ x.lf ∧ x.lf ≤ 1048576) ∧ (0 ≤ x.pr ∧ x.pr ≤ 255) ∧ (x.inf = true → x.lf = 0)
def boB (x : Bd) : Bool := (decide (0 ≤ x.lf) && decide (x.lf ≤ 1048576)) && (decide (0 ≤ x.pr) && decide (x.pr ≤ 255)) && (!x.inf || decide (x.lf = 0))
theorem boB_iff (x : Bd) : boB x = true ↔ Bo x := by
  unfold boB Bo
  cases x.inf <;> simp <;> omega
theorem boB_yes {x : Bd} (h : Bo x) : boB x = true := (boB_iff x).2 h
theorem boB_no {x : Bd} (h : ¬ Bo x) : boB x = false := Bool.eq_false_iff.2 fun e => h ((boB_iff x).1 e)
theorem bz_bd (b : Bool) : 0 ≤ bz b ∧ bz b ≤ 1 := by cases b <;> decide
theorem Bo.fit {x : Bd} (h : Bo x) : ∀ v ∈ x.ws, 0 ≤ v ∧ v ≤ 18446744073709551615 := by
  unfold Bo at h
  have := bz_bd x.inf
  intro v hv
  simp only [Bd.ws, List.mem_cons, List.not_mem_nil, or_false] at hv
  rcases hv with rfl | rfl | rfl <;> omega
theorem ws_fit {x : Bd} (h : Bo x) : ∀ v ∈ x.ws, 0 ≤ v ∧ v ≤ 9223372036854775807 := by
  unfold Bo at h
  have := bz_bd x.inf
  intro v hv
  simp only [Bd.ws, List.mem_cons, List.not_mem_nil, or_false] at hv
  rcases hv with rfl | rfl | rfl <;> omega
theorem ws_len (x : Bd) : x.ws.length = 3 := rfl
def Fb (x : Bd) : Prop := In64 x.lf ∧ In64 x.pr
theorem Bo.fb {x : Bd} (h : Bo x) : Fb x := by
  unfold Bo at h
  unfold Fb In64
  omega
/-- What Check answers. -/
def ckE (x : Bd) : Int := if boB x = true then 0 else 1
/-- The budget that a frame's words are, and whether they are one's. -/
def bdOf (M : Nat → Nat → Int) (f : Int) : Bd := ⟨decide (M f.toNat 4 = 1), M f.toNat 5, M f.toNat 6⟩
def rdB (M : Nat → Nat → Int) (f : Int) : Bool := decide (M f.toNat 4 ≤ 1) && boB (bdOf M f)
/-- Get. -/
def gtE (N : Nat) (M : Nat → Nat → Int) (f : Int) : Int := if Phead.isE N M f 5 = 0 then if rdB M f = true then 0 else 12 else 4
def gtT (N : Nat) (M : Nat → Nat → Int) (f : Int) : Bd := if gtE N M f = 0 then bdOf M f else bd0
/-- Make. -/
def mkE (N : Nat) (f : Int) (x : Bd) : Int := if boB x = true then errF N f else 1
def mkM (N : Nat) (M : Nat → Nat → Int) (f : Int) (x : Bd) : Nat → Nat → Int := if boB x = true then layF N (Phead.mkM N M f 5 0 false 0) f x.ws else M
/-- Put. -/
def puE (N : Nat) (M : Nat → Nat → Int) (f : Int) (x : Bd) : Int := if boB x = true then if Phead.isE N M f 5 = 0 then 0 else 4 else 1
def puM (N : Nat) (M : Nat → Nat → Int) (f : Int) (x : Bd) : Nat → Nat → Int := if puE N M f x = 0 then layF N M f x.ws else M
/-- Give. -/
def gvA (f g n p : Int) : Bool := (decide (1 ≤ n) && decide (n ≤ 1048576)) && (decide (0 ≤ p) && decide (p ≤ 255)) && decide (f ≠ g)
theorem gvA_iff (f g n p : Int) : gvA f g n p = true ↔ (1 ≤ n ∧ n ≤ 1048576) ∧ (0 ≤ p ∧ p ≤ 255) ∧ f ≠ g := by
  unfold gvA
  simp
  omega
/-- May n go from a to b? -/
def gvT (a b : Bd) (n : Int) : Int := if b.inf = true then 4 else if (a.inf = false ∧ a.lf < n) ∨ 1048576 < b.lf + n then 11 else 0
/-- What the two are behind it. -/
def gvX (a : Bd) (n : Int) : Bd := if a.inf = true then a else ⟨a.inf, a.lf - n, a.pr⟩
def gvY (b : Bd) (n p : Int) : Bd := ⟨b.inf, b.lf + n, p⟩
def gvE (N : Nat) (M : Nat → Nat → Int) (f g n p : Int) : Int := if gvA f g n p = true then if gtE N M f = 0 then if gtE N M g = 0 then gvT (bdOf M f) (bdOf M g) n else gtE N M g else gtE N M f else 1
def gvM (N : Nat) (M : Nat → Nat → Int) (f g n p : Int) : Nat → Nat → Int := if gvE N M f g n p = 0 then layF N (layF N M f (gvX (bdOf M f) n).ws) g (gvY (bdOf M g) n p).ws else M
/-- Charge. -/
def chA (n : Int) : Bool := decide (0 ≤ n) && decide (n ≤ 1048576)
theorem chA_iff (n : Int) : chA n = true ↔ 0 ≤ n ∧ n ≤ 1048576 := by
  unfold chA
  simp
def chN (x n : Int) : Int := if x - n < 0 then 0 else x - n
def chX (x : Bd) (n : Int) : Bd := ⟨x.inf, chN x.lf n, x.pr⟩
def chE (N : Nat) (M : Nat → Nat → Int) (f n : Int) : Int := if chA n = true then gtE N M f else 1
def chB (N : Nat) (M : Nat → Nat → Int) (f n : Int) : Bool := if chE N M f n = 0 then !(bdOf M f).inf && decide (chN (bdOf M f).lf n = 0) else false
def chM (N : Nat) (M : Nat → Nat → Int) (f n : Int) : Nat → Nat → Int := if chE N M f n = 0 ∧ (bdOf M f).inf = false then layF N M f (chX (bdOf M f) n).ws else M
/-- Can. -/
def cnB (N : Nat) (M : Nat → Nat → Int) (f : Int) : Bool := decide (gtE N M f = 0) && ((gtT N M f).inf || decide (0 < (gtT N M f).lf))
/-- Sum, of the first k frames. -/
def smK (N : Nat) (M : Nat → Nat → Int) : Nat → Int
  | 0 => 0
  | k + 1 => smK N M k + (gtT N M (k : Nat)).lf
/-! ### small facts -/
theorem isE_ok {N : Nat} {M : Nat → Nat → Int} {f : Int} {q : Int} (h : Phead.isE N M f q = 0) : okF N f = true := by
  cases hf : okF N f
  · exact absurd h (is_bad hf q)
  · rfl
theorem gt_yes {N : Nat} {M : Nat → Nat → Int} {f : Int} (h : gtE N M f = 0) : Phead.isE N M f 5 = 0 ∧ M f.toNat 4 ≤ 1 ∧ Bo (bdOf M f) ∧ gtT N M f = bdOf M f := by
  unfold gtT
  rw [if_pos h]
  unfold gtE at h
  split at h
  · rename_i h1
    split at h
    · rename_i h2
      unfold rdB at h2
      simp only [Bool.and_eq_true, decide_eq_true_eq] at h2
      exact ⟨h1, h2.1, (boB_iff _).1 h2.2, rfl⟩
    · exact absurd h (by decide)
  · exact absurd h (by decide)
theorem gt_no {N : Nat} {M : Nat → Nat → Int} {f : Int} (h : gtE N M f ≠ 0) : gtT N M f = bd0 := by
  unfold gtT
  rw [if_neg h]
theorem gt_bo (N : Nat) (M : Nat → Nat → Int) (f : Int) : Bo (gtT N M f) := by
  by_cases h : gtE N M f = 0
  · rw [(gt_yes h).2.2.2]
    exact (gt_yes h).2.2.1
  · rw [gt_no h]
    unfold Bo bd0
    simp
theorem bd_laid {N f : Nat} {M : Nat → Nat → Int} (hf : f < N) (x : Bd) : bdOf (layF N M f x.ws) f = x ∧ layF N M f x.ws f 4 = bz x.inf := by
  have e : ∀ i, i < 3 → layF N M f x.ws f (4 + i) = x.ws[i]?.getD 0 := fun i hi => lay_own hf (by rw [ws_len]; exact hi)
  have e0 : layF N M f x.ws f 4 = bz x.inf := e 0 (by omega)
  refine ⟨?_, e0⟩
  unfold bdOf
  rw [Int.toNat_natCast, e0, show (5 : Nat) = 4 + 1 from rfl, show (6 : Nat) = 4 + 2 from rfl, e 1 (by omega), e 2 (by omega)]
  obtain ⟨i, l, p⟩ := x
  cases i <;> rfl
/-- A right budget laid into a frame that is one's is what Get reads. -/
theorem gt_laid {N f : Nat} {M : Nat → Nat → Int} {x : Bd} (hf : f < N) (hi : Phead.isE N M f 5 = 0) (hx : Bo x) : gtE N (layF N M f x.ws) f = 0 ∧ gtT N (layF N M f x.ws) f = x := by
  obtain ⟨e1, e2⟩ := bd_laid (M := M) hf x
  have e : gtE N (layF N M f x.ws) f = 0 := by
    unfold gtE
    rw [is_lay, if_pos hi, if_pos]
    unfold rdB
    rw [e1, boB_yes hx, Int.toNat_natCast, e2]
    have := bz_bd x.inf
    simp
    omega
  exact ⟨e, by rw [(gt_yes e).2.2.2, e1]⟩
/-- What is laid into a frame leaves the others. -/
theorem gt_other {N : Nat} {M : Nat → Nat → Int} {f g : Int} {l : List Int} (hg : 0 ≤ g) (h : g ≠ f) : gtE N (layF N M f l) g = gtE N M g ∧ gtT N (layF N M f l) g = gtT N M g ∧ bdOf (layF N M f l) g = bdOf M g := by
  have k : ∀ b, layF N M f l g.toNat b = M g.toNat b := fun b => lay_out (.inl (by omega))
  have e0 : bdOf (layF N M f l) g = bdOf M g := by
    unfold bdOf
    rw [k, k, k]
  have e1 : gtE N (layF N M f l) g = gtE N M g := by
    unfold gtE rdB
    rw [is_lay, e0, k]
  refine ⟨e1, ?_, e0⟩
  unfold gtT
  rw [e1, e0]
theorem gt_made {N f : Nat} {M : Nat → Nat → Int} {x : Bd} (hf : f < N) (hx : Bo x) : mkE N f x = 0 ∧ gtE N (mkM N M f x) f = 0 ∧ gtT N (mkM N M f x) f = x ∧ Phead.isE N (mkM N M f x) f 5 = 0 := by
  have e : mkM N M f x = layF N (Phead.mkM N M f 5 0 false 0) f x.ws := by unfold mkM; rw [if_pos (boB_yes hx)]
  have hi := is_made (M := M) hf (show (0 : Int) ≤ 5 ∧ (5 : Int) ≤ 6 by omega)
  obtain ⟨h1, h2⟩ := gt_laid (x := x) hf hi hx
  rw [e]
  refine ⟨?_, h1, h2, by rw [is_lay]; exact hi⟩
  unfold mkE errF
  rw [if_pos (boB_yes hx), if_pos (okF_nat hf)]
theorem made_no {N : Nat} {f : Int} {x : Bd} (hx : ¬ Bo x) : mkE N f x = 1 ∧ ckE x = 1 := by
  unfold mkE ckE
  rw [boB_no hx]
  exact ⟨rfl, rfl⟩
theorem pu_yes {N : Nat} {M : Nat → Nat → Int} {f : Int} {x : Bd} (h : puE N M f x = 0) : puM N M f x = layF N M f x.ws := by
  unfold puM
  rw [if_pos h]
theorem fit_mk {M : Nat → Nat → Int} (h : Fit M) (N : Nat) (f : Int) (x : Bd) : Fit (mkM N M f x) := by
  unfold mkM
  split
  · rename_i hx
    exact fit_lay (Phead.fit_mk h N f 5 0 false 0) N f ((boB_iff x).1 hx).fit
  · exact h
theorem fit_pu {M : Nat → Nat → Int} (h : Fit M) (N : Nat) (f : Int) (x : Bd) : Fit (puM N M f x) := by
  unfold puM
  split
  · rename_i hx
    unfold puE at hx
    split at hx
    · rename_i hc
      exact fit_lay h N f ((boB_iff x).1 hc).fit
    · exact absurd hx (by decide)
  · exact h
/-! ### Give -/
theorem gv_yes {N : Nat} {M : Nat → Nat → Int} {f g n p : Int} (h : gvE N M f g n p = 0) : ((1 ≤ n ∧ n ≤ 1048576) ∧ (0 ≤ p ∧ p ≤ 255) ∧ f ≠ g) ∧ gtE N M f = 0 ∧ gtE N M g = 0 ∧ (bdOf M g).inf = false ∧ ¬ ((bdOf M f).inf = false ∧ (bdOf M f).lf < n) ∧ (bdOf M g).lf + n ≤ 1048576 := by
  unfold gvE at h
  split at h
  · rename_i h1
    split at h
    · rename_i h2
      split at h
      · rename_i h3
        unfold gvT at h
        split at h
        · exact absurd h (by decide)
        · rename_i h4
          split at h
          · exact absurd h (by decide)
          · rename_i h5
            refine ⟨(gvA_iff f g n p).1 h1, h2, h3, by simpa using h4, fun hh => h5 (.inl hh), ?_⟩
            have : ¬ 1048576 < (bdOf M g).lf + n := fun hh => h5 (.inr hh)
            omega
      · rename_i h3
        exact absurd h h3
    · rename_i h2
      exact absurd h h2
  · exact absurd h (by decide)
theorem gv_bo {N : Nat} {M : Nat → Nat → Int} {f g n p : Int} (h : gvE N M f g n p = 0) : Bo (gvX (bdOf M f) n) ∧ Bo (gvY (bdOf M g) n p) := by
  obtain ⟨⟨a1, a2, a3⟩, h2, h3, h4, h5, h6⟩ := gv_yes h
  have bf := (gt_yes h2).2.2.1
  have bg := (gt_yes h3).2.2.1
  constructor
  · unfold gvX
    split
    · exact bf
    · rename_i hi
      have hi' : (bdOf M f).inf = false := by simpa using hi
      have : ¬ (bdOf M f).lf < n := fun hh => h5 ⟨hi', hh⟩
      unfold Bo at bf ⊢
      dsimp only
      refine ⟨by omega, bf.2.1, fun e => absurd (hi'.symm.trans e) (by decide)⟩
  · unfold gvY Bo
    dsimp only
    unfold Bo at bg
    exact ⟨by omega, a2, fun e => absurd (h4.symm.trans e) (by decide)⟩
/-- The first of the two Puts, then the second. -/
theorem gv_put {N : Nat} {M : Nat → Nat → Int} {f g n p : Int} (h : gvE N M f g n p = 0) : puE N M f (gvX (bdOf M f) n) = 0 ∧ puE N (puM N M f (gvX (bdOf M f) n)) g (gvY (bdOf M g) n p) = 0 ∧ puM N (puM N M f (gvX (bdOf M f) n)) g (gvY (bdOf M g) n p) = gvM N M f g n p := by
  obtain ⟨b1, b2⟩ := gv_bo h
  obtain ⟨_, h2, h3, _⟩ := gv_yes h
  have e1 : puE N M f (gvX (bdOf M f) n) = 0 := by unfold puE; rw [if_pos (boB_yes b1), if_pos (gt_yes h2).1]
  have m1 : puM N M f (gvX (bdOf M f) n) = layF N M f (gvX (bdOf M f) n).ws := by unfold puM; rw [if_pos e1]
  have e2 : puE N (puM N M f (gvX (bdOf M f) n)) g (gvY (bdOf M g) n p) = 0 := by
    unfold puE
    rw [if_pos (boB_yes b2), m1, is_lay, if_pos (gt_yes h3).1]
  refine ⟨e1, e2, ?_⟩
  unfold gvM
  rw [if_pos h, pu_yes e2, m1]
theorem fit_gv {M : Nat → Nat → Int} (hF : Fit M) (N : Nat) (f g n p : Int) : Fit (gvM N M f g n p) := by
  by_cases h : gvE N M f g n p = 0
  · rw [← (gv_put h).2.2]
    exact fit_pu (fit_pu hF N f _) N g _
  · unfold gvM
    rw [if_neg h]
    exact hF
/-! ### Charge -/
theorem ch_yes {N : Nat} {M : Nat → Nat → Int} {f n : Int} (h : chE N M f n = 0) : (0 ≤ n ∧ n ≤ 1048576) ∧ gtE N M f = 0 := by
  unfold chE at h
  split at h
  · rename_i h1
    exact ⟨(chA_iff n).1 h1, h⟩
  · exact absurd h (by decide)
theorem ch_bo {x : Bd} {n : Int} (h : Bo x) (hn : 0 ≤ n) (hi : x.inf = false) : Bo (chX x n) := by
  unfold Bo at h ⊢
  unfold chX chN
  dsimp only
  refine ⟨by split <;> omega, h.2.1, fun e => absurd (hi.symm.trans e) (by decide)⟩
theorem ch_put {N : Nat} {M : Nat → Nat → Int} {f n : Int} (h : chE N M f n = 0) (hi : (bdOf M f).inf = false) : puE N M f (chX (bdOf M f) n) = 0 ∧ puM N M f (chX (bdOf M f) n) = chM N M f n := by
  obtain ⟨hn, hg⟩ := ch_yes h
  have hb := ch_bo (gt_yes hg).2.2.1 hn.1 hi
  have e1 : puE N M f (chX (bdOf M f) n) = 0 := by unfold puE; rw [if_pos (boB_yes hb), if_pos (gt_yes hg).1]
  refine ⟨e1, ?_⟩
  unfold puM chM
  rw [if_pos e1, if_pos ⟨h, hi⟩]
theorem fit_ch {M : Nat → Nat → Int} (hF : Fit M) (N : Nat) (f n : Int) : Fit (chM N M f n) := by
  by_cases h : chE N M f n = 0 ∧ (bdOf M f).inf = false
  · rw [← (ch_put h.1 h.2).2]
    exact fit_pu hF N f _
  · unfold chM
    rw [if_neg h]
    exact hF
/-! ### Sum -/
theorem sm_bd (N : Nat) (M : Nat → Nat → Int) : ∀ k : Nat, 0 ≤ smK N M k ∧ smK N M k ≤ k * 1048576
  | 0 => by simp [smK]
  | k + 1 => by
    have h := sm_bd N M k
    have hb := (gt_bo N M (k : Nat)).1
    unfold smK
    push_cast
    omega
end Go.Proofs.YtiapfapmgjngpaaGreatDoor.Ptcap
