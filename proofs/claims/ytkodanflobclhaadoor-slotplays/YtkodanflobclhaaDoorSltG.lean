/- Capabilities in the words of a frame: plain words on what is put, got, counted and found. No program is named here. -/
import Derived.Test.YtkodanflobclhaaDoorCapB
import Derived.Test.YtkodanflobclhaaDoorMemJ
namespace Go.Proofs.YtkodanflobclhaaDoor.Pslot
open Go.Proofs.YtkodanflobclhaaDoor.Pbase Go.Proofs.YtkodanflobclhaaDoor.Pcap Go.Proofs.YtkodanflobclhaaDoor.Pfield Go.Proofs.YtkodanflobclhaaDoor.Pmem
open Go.RowKit M
set_option linter.unusedVariables false

/-- Is there such a slot? -/
def okS (i : Int) : Bool := decide (0 ≤ i ∧ i < 16)
theorem okS_yes {i : Int} (h : okS i = true) : 0 ≤ i ∧ i < 16 := by simpa [okS] using h
theorem okS_no {i : Int} (h : okS i = false) : i < 0 ∨ 16 ≤ i := by simp [okS] at h; omega
theorem okS_nat {i : Nat} (h : i < 16) : okS (i : Int) = true := by simp [okS]; omega
theorem okS_split {i : Int} (h : okS i = true) : ∃ n : Nat, i = n ∧ n < 16 := by
  have := okS_yes h
  exact ⟨i.toNat, by omega, by omega⟩
/-- The two words of slot i of frame f. -/
def w1 (M : Nat → Nat → Int) (f i : Int) : Int := M f.toNat (4 + 2 * i.toNat)
def w2 (M : Nat → Nat → Int) (f i : Int) : Int := M f.toNat (4 + 2 * i.toNat + 1)
/-- What Get answers. -/
def sC (N : Nat) (M : Nat → Nat → Int) (f i : Int) (j : Nat) : Int := if okS i && okF N f then getC (w1 M f i) (w2 M f i) j else 0
def sE (N : Nat) (M : Nat → Nat → Int) (f i : Int) : Int := if okS i && okF N f then getE (w1 M f i) (w2 M f i) else 1
/-- What Put answers and does. -/
def pE (N : Nat) (f i k r t l e a : Int) : Int := if okS i && rtB k r t l e a && okF N f then 0 else 1
def pM (N : Nat) (M : Nat → Nat → Int) (f i k r t l e a : Int) : Nat → Nat → Int := if okS i && rtB k r t l e a then stW N (stW N M f (4 + 2 * i) (putW k r t l e a)) f (4 + 2 * i + 1) (putA k r t l e a) else M
theorem pM_no {N : Nat} {M : Nat → Nat → Int} {f i k r t l e a : Int} (h : pE N f i k r t l e a ≠ 0) : pM N M f i k r t l e a = M := by
  unfold pE at h
  unfold pM
  cases h1 : okS i && rtB k r t l e a
  · simp
  · cases hf : okF N f
    · simp [stW, okW, hf]
    · simp [h1, hf] at h
theorem pE_cases (N : Nat) (f i k r t l e a : Int) : pE N f i k r t l e a = 0 ∨ pE N f i k r t l e a = 1 := by
  unfold pE; split <;> simp
theorem pE_zero {N : Nat} {f i k r t l e a : Int} (h : pE N f i k r t l e a = 0) : okS i = true ∧ Rt k r t l e a ∧ okF N f = true := by
  unfold pE at h
  split at h
  · rename_i hh
    simp only [Bool.and_eq_true] at hh
    exact ⟨hh.1.1, (rtB_iff _ _ _ _ _ _).1 hh.1.2, hh.2⟩
  · cases h
theorem fit_pM {M : Nat → Nat → Int} (h : Fit M) (N : Nat) (f i k r t l e a : Int) : Fit (pM N M f i k r t l e a) := by
  unfold pM
  split
  · rename_i hh
    simp only [Bool.and_eq_true] at hh
    have hr := (rtB_iff _ _ _ _ _ _).1 hh.2
    have hb := (back_get hr).1
    refine (h.st N _ _ _ ?_).st N _ _ _ ?_
    · rw [putW_yes hr]; exact hb
    · rw [putA_yes hr]; unfold Rt at hr; omega
  · exact h
/-- The words of the slots behind a Put. -/
theorem pM_own {N : Nat} {M : Nat → Nat → Int} {f i k r t l e a : Int} (h : pE N f i k r t l e a = 0) : w1 (pM N M f i k r t l e a) f i = packF ws [k, r, t, l, e] ∧ w2 (pM N M f i k r t l e a) f i = a := by
  obtain ⟨hi, hr, hf⟩ := pE_zero h
  have hi' := okS_yes hi
  have o1 : okW N f (4 + 2 * i) = true := by simp [okW, hf]; omega
  have o2 : okW N f (4 + 2 * i + 1) = true := by simp [okW, hf]; omega
  unfold pM w1 w2
  rw [hi, rtB_yes hr]
  simp only [Bool.and_self, if_true, stW, o1, o2, putW_yes hr, putA_yes hr]
  have q1 : (4 + 2 * i).toNat = 4 + 2 * i.toNat := by omega
  have q2 : (4 + 2 * i + 1).toNat = 4 + 2 * i.toNat + 1 := by omega
  rw [q1, q2]
  constructor
  · rw [if_neg (fun h => absurd h.2 (by omega)), if_pos ⟨trivial, rfl⟩]
  · rw [if_pos ⟨trivial, rfl⟩]
theorem pM_other {N : Nat} {M : Nat → Nat → Int} {f i k r t l e a : Int} {g : Nat} {b : Nat} (h : (g : Int) ≠ f ∨ ((b : Int) ≠ 4 + 2 * i ∧ (b : Int) ≠ 4 + 2 * i + 1)) : pM N M f i k r t l e a g b = M g b := by
  unfold pM
  split
  · rename_i hh
    simp only [Bool.and_eq_true] at hh
    have hi := okS_yes hh.1
    cases hf : okF N f
    · simp [stW, okW, hf]
    · have hf' := okF_yes hf
      have o1 : okW N f (4 + 2 * i) = true := by simp [okW, hf]; omega
      have o2 : okW N f (4 + 2 * i + 1) = true := by simp [okW, hf]; omega
      simp only [stW, o1, o2, if_true]
      rw [if_neg (by omega), if_neg (by omega)]
  · rfl
/-- What is put is got. -/
theorem put_got {N : Nat} {M : Nat → Nat → Int} {f i k r t l e a : Int} (h : pE N f i k r t l e a = 0) :
    sE N (pM N M f i k r t l e a) f i = 0 ∧ sC N (pM N M f i k r t l e a) f i 0 = k ∧ sC N (pM N M f i k r t l e a) f i 1 = r ∧ sC N (pM N M f i k r t l e a) f i 2 = t ∧ sC N (pM N M f i k r t l e a) f i 3 = l ∧ sC N (pM N M f i k r t l e a) f i 4 = e ∧ sC N (pM N M f i k r t l e a) f i 5 = a := by
  obtain ⟨hi, hr, hf⟩ := pE_zero h
  obtain ⟨e1, e2⟩ := pM_own (M := M) h
  obtain ⟨_, _, g0, g1, g2, g3, g4, g5, g6⟩ := back_get hr
  simp only [sE, sC, hi, hf, Bool.and_self, if_true, e1, e2]
  exact ⟨g0, g1, g2, g3, g4, g5, g6⟩
/-- No other slot changes. -/
theorem put_other {N : Nat} {M : Nat → Nat → Int} {f i k r t l e a : Int} {g : Int} {m : Nat} (hm : m < 16) (h : pE N f i k r t l e a ≠ 0 ∨ (m : Int) ≠ i) :
    sE N (pM N M f i k r t l e a) g m = sE N M g m ∧ ∀ j, sC N (pM N M f i k r t l e a) g m j = sC N M g m j := by
  rcases h with h | h
  · rw [pM_no h]
    exact ⟨rfl, fun _ => rfl⟩
  · have e1 : w1 (pM N M f i k r t l e a) g m = w1 M g m := by
      unfold w1
      exact pM_other (.inr ⟨by simp; omega, by simp; omega⟩)
    have e2 : w2 (pM N M f i k r t l e a) g m = w2 M g m := by
      unfold w2
      exact pM_other (.inr ⟨by simp; omega, by simp; omega⟩)
    exact ⟨by unfold sE; rw [e1, e2], fun j => by unfold sC; rw [e1, e2]⟩
theorem sE_cases (N : Nat) (M : Nat → Nat → Int) (f i : Int) : sE N M f i = 0 ∨ sE N M f i = 1 ∨ sE N M f i = 12 := by
  unfold sE getE
  split
  · split <;> simp
  · simp
theorem sE_frame {N : Nat} {M : Nat → Nat → Int} {f : Int} {i : Nat} (hi : i < 16) : sE N M f i = 0 ∨ sE N M f i = if okF N f then 12 else 1 := by
  unfold sE
  rw [okS_nat hi]
  cases okF N f
  · simp
  · simp only [Bool.and_self, if_true]
    unfold getE
    split <;> simp

/-! ### All, Used, First -/
/-- Can all slots be read? -/
def okA (N : Nat) (M : Nat → Nat → Int) (f : Int) : Bool := (List.range 16).all fun i => decide (sE N M f (i : Nat) = 0)
def aE (N : Nat) (M : Nat → Nat → Int) (f : Int) : Int := if okA N M f then 0 else if okF N f then 12 else 1
def aN (N : Nat) (M : Nat → Nat → Int) (f : Int) : Nat := if okA N M f then 16 else 0
theorem okA_iff (N : Nat) (M : Nat → Nat → Int) (f : Int) : okA N M f = true ↔ ∀ i : Nat, i < 16 → sE N M f i = 0 := by
  simp [okA, List.all_eq_true]
theorem okA_no {N : Nat} {M : Nat → Nat → Int} {f : Int} {i : Nat} (hi : i < 16) (h : sE N M f i ≠ 0) : okA N M f = false ∧ aE N M f = sE N M f i := by
  have h0 : okA N M f = false := Bool.eq_false_iff.2 fun e => h ((okA_iff N M f).1 e i hi)
  refine ⟨h0, ?_⟩
  rcases sE_frame (N := N) (M := M) (f := f) hi with e | e
  · exact absurd e h
  · rw [e]; simp [aE, h0]
/-- How many of the first n of C are above CQuiet. -/
def cnt (C : Nat → Int) : Nat → Nat
  | 0 => 0
  | n + 1 => cnt C n + if 1 < C n then 1 else 0
theorem cnt_le (C : Nat → Int) (n : Nat) : cnt C n ≤ n := by
  induction n with
  | zero => simp [cnt]
  | succ n ih => unfold cnt; split <;> omega
def uN (N : Nat) (M : Nat → Nat → Int) (f : Int) : Nat := cnt (fun i => sC N M f (i : Nat) 0) (aN N M f)
theorem uN_le (N : Nat) (M : Nat → Nat → Int) (f : Int) : uN N M f ≤ 16 := by
  have h := cnt_le (fun i => sC N M f (i : Nat) 0) (aN N M f)
  have : aN N M f ≤ 16 := by unfold aN; split <;> omega
  unfold uN
  omega
/-- The first of n that is CNone, or n. -/
def fst (C : Nat → Int) : Nat → Nat → Nat
  | 0, k => k
  | n + 1, k => if C k = 0 then k else fst C n (k + 1)
theorem fst_at (C : Nat → Int) : ∀ (n k : Nat), k ≤ fst C n k ∧ fst C n k ≤ k + n ∧ (∀ i, k ≤ i → i < fst C n k → C i ≠ 0) ∧ (fst C n k < k + n → C (fst C n k) = 0)
  | 0, k => ⟨Nat.le_refl _, Nat.le_refl _, fun i h1 h2 => by simp [fst] at h2; omega, fun h => by simp [fst] at h⟩
  | n + 1, k => by
    unfold fst
    split
    · rename_i h
      exact ⟨Nat.le_refl _, by omega, fun i h1 h2 => by omega, fun _ => h⟩
    · rename_i h
      obtain ⟨h1, h2, h3, h4⟩ := fst_at C n (k + 1)
      refine ⟨by omega, by omega, fun i i1 i2 => ?_, fun hh => h4 (by omega)⟩
      by_cases e : i = k
      · subst e; exact h
      · exact h3 i (by omega) i2
/-- The first one is told by these two. -/
theorem fst_is {C : Nat → Int} {n m : Nat} (hm : m ≤ n) (h1 : ∀ i, i < m → C i ≠ 0) (h2 : m < n → C m = 0) : fst C n 0 = m := by
  obtain ⟨_, a2, a3, a4⟩ := fst_at C n 0
  rw [Nat.zero_add] at a2 a4
  rcases Nat.lt_trichotomy (fst C n 0) m with h | h | h
  · exact absurd (a4 (by omega)) (h1 _ h)
  · exact h
  · exact absurd (h2 (by omega)) (a3 m (Nat.zero_le _) h)
def fF (N : Nat) (M : Nat → Nat → Int) (f : Int) : Nat := fst (fun i => sC N M f (i : Nat) 0) 16 0
def fN (N : Nat) (M : Nat → Nat → Int) (f : Int) : Nat := if okA N M f = true ∧ fF N M f < 16 then fF N M f else 0
def fE (N : Nat) (M : Nat → Nat → Int) (f : Int) : Int := if okA N M f = true then if fF N M f < 16 then 0 else 3 else aE N M f

/-! ### the tables beside a memory -/
theorem tabM_ne {w : World} {p b N : Nat} {M : Nat → Nat → Int} (hM : MemIs w p b N M) (hN : 1 ≤ N) (h : TabM w) : 1 ≠ b := by
  intro e
  have h1 := h.cell 0 0 (by omega) (by omega)
  have h2 := hM.word (f := 0) (a := 0) (by omega) (by omega)
  rw [← e, h1] at h2
  simp at h2
theorem tabW_ne {w : World} {p b N : Nat} {M : Nat → Nat → Int} (hM : MemIs w p b N M) (h : TabW w) : 0 ≠ b := by
  intro e
  obtain ⟨t, fr, hr⟩ := h.row
  rw [e, hM.row] at hr
  simp only [Option.some.injEq, Obj.cells.injEq] at hr
  have := congrArg Array.size hr.1
  rw [cellsM_size] at this
  simp at this
  omega
theorem tabM_but {w w' : World} {b : Nat} (h : TabM w) (hB : But b w w') (hn : 1 ≠ b) : TabM w' :=
  ⟨Nat.lt_of_lt_of_le h.lt hB.size, fun K j hK hj => (hB.cell h.lt hn).trans (h.cell K j hK hj)⟩
theorem tabW_but {w w' : World} {b : Nat} (h : TabW w) (hB : But b w w') (hn : 0 ≠ b) : TabW w' :=
  ⟨Nat.lt_of_lt_of_le h.lt hB.size, by obtain ⟨t, fr, hr⟩ := h.row; exact ⟨t, fr, (hB.block 0 h.lt hn).trans hr⟩⟩
/-- A memory that New made, and the two tables. -/
structure Mt (w : World) (p b N : Nat) (M : Nat → Nat → Int) : Prop where
  mem : MemIs w p b N M
  tab : TabM w
  tabw : TabW w
  fit : Fit M
  n1 : 1 ≤ N
  n64 : N ≤ 64
theorem Mt.on {w w' : World} {p b N : Nat} {M : Nat → Nat → Int} (h : Mt w p b N M) (hB : Below w.heap.size w w') : Mt w' p b N M :=
  ⟨h.mem.grown hB, h.tab.on hB, h.tabw.on hB, h.fit, h.n1, h.n64⟩
theorem Mt.but {w w' : World} {p b N : Nat} {M M' : Nat → Nat → Int} (h : Mt w p b N M) (hM : MemIs w' p b N M') (hF : Fit M') (hB : But b w w') : Mt w' p b N M' :=
  ⟨hM, tabM_but h.tab hB (tabM_ne h.mem h.n1 h.tab), tabW_but h.tabw hB (tabW_ne h.mem h.tabw), hF, h.n1, h.n64⟩
end Go.Proofs.YtkodanflobclhaaDoor.Pslot
