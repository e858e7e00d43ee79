/- Texts on finished packages, joined. -/
import Derived.Test.YtggggfhgfnbjnaaGreatDoorBunCap
import Derived.Test.YtggggfhgfnbjnaaGreatDoorBunMem
import Derived.BigQuiet
import Derived.BigRegion
import Derived.Deep.RegionHeld3
import Derived.Deep.CutBlock
import Derived.Test.YtggggfhgfnbjnaaGreatDoorBunField
import Derived.RangeFuncNested
import Derived.RangeFuncBound
import Derived.RangeFuncBox
import Derived.RangeFuncCalls
import Derived.RangeFuncLeaves
import Derived.WalkKit
import Derived.OwnWalkIn
import Derived.TacticsInMore
import Derived.LoopNIn
import Derived.LoopIn
import Derived.Sort.QuietIn
import Derived.Scope
import Derived.Maps.AppendAt

/- Capabilities in the words of a frame: plain words on what is put, got, counted and found. No program is named here. -/
namespace Go.Proofs.YtggggfhgfnbjnaaGreatDoor.Pslot
open Go.Proofs.YtggggfhgfnbjnaaGreatDoor.Pbase Go.Proofs.YtggggfhgfnbjnaaGreatDoor.Pcap Go.Proofs.YtggggfhgfnbjnaaGreatDoor.Pfield Go.Proofs.YtggggfhgfnbjnaaGreatDoor.Pmem
open Go.RowKit M
set_option linter.unusedVariables false

/-- Is there such a slot? -/
def okS (i : Int) : Bool := decide (0 ≤ i ∧ i < 16)
theorem okS_yes {i : Int} (h : okS i = true) : 0 ≤ i ∧ i < 16 := by simpa [okS] using h
theorem okS_no {i : Int} (h : okS i = false) : i < 0 ∨ 16 ≤ i := by simp [okS] at h; omega
theorem okS_nat {i : Nat} (h : i < 16) : okS (i : Int) = true := by simp [okS]; omega
theorem okS_split {i : Int} (h : okS i = true) : ∃ n : Nat, i = n ∧ n < 16 := by
  have := okS_yes h
  exact ⟨i.toNat, by omega, by omega⟩
/-- The two words of slot i of frame f. -/
def w1 (M : Nat → Nat → Int) (f i : Int) : Int := M f.toNat (4 + 2 * i.toNat)
def w2 (M : Nat → Nat → Int) (f i : Int) : Int := M f.toNat (4 + 2 * i.toNat + 1)
/-- What Get answers. -/
def sC (N : Nat) (M : Nat → Nat → Int) (f i : Int) (j : Nat) : Int := if okS i && okF N f then getC (w1 M f i) (w2 M f i) j else 0
def sE (N : Nat) (M : Nat → Nat → Int) (f i : Int) : Int := if okS i && okF N f then getE (w1 M f i) (w2 M f i) else 1
/-- What Put answers and does. -/
def pE (N : Nat) (f i k r t l e a : Int) : Int := if okS i && rtB k r t l e a && okF N f then 0 else 1
def pM (N : Nat) (M : Nat → Nat → Int) (f i k r t l e a : Int) : Nat → Nat → Int := if okS i && rtB k r t l e a then stW N (stW N M f (4 + 2 * i) (putW k r t l e a)) f (4 + 2 * i + 1) (putA k r t l e a) else M
theorem pM_no {N : Nat} {M : Nat → Nat → Int} {f i k r t l e a : Int} (h : pE N f i k r t l e a ≠ 0) : pM N M f i k r t l e a = M := by
  unfold pE at h
  unfold pM
  cases h1 : okS i && rtB k r t l e a
  · simp
  · cases hf : okF N f
    · simp [stW, okW, hf]
    · simp [h1, hf] at h
theorem pE_cases (N : Nat) (f i k r t l e a : Int) : pE N f i k r t l e a = 0 ∨ pE N f i k r t l e a = 1 := by
  unfold pE; split <;> simp
theorem pE_zero {N : Nat} {f i k r t l e a : Int} (h : pE N f i k r t l e a = 0) : okS i = true ∧ Rt k r t l e a ∧ okF N f = true := by
  unfold pE at h
  split at h
  · rename_i hh
    simp only [Bool.and_eq_true] at hh
    exact ⟨hh.1.1, (rtB_iff _ _ _ _ _ _).1 hh.1.2, hh.2⟩
  · cases h
theorem fit_pM {M : Nat → Nat → Int} (h : Fit M) (N : Nat) (f i k r t l e a : Int) : Fit (pM N M f i k r t l e a) := by
  unfold pM
  split
  · rename_i hh
    simp only [Bool.and_eq_true] at hh
    have hr := (rtB_iff _ _ _ _ _ _).1 hh.2
    have hb := (back_get hr).1
    refine (h.st N _ _ _ ?_).st N _ _ _ ?_
    · rw [putW_yes hr]; exact hb
    · rw [putA_yes hr]; unfold Rt at hr; omega
  · exact h
/-- The words of the slots behind a Put. -/
theorem pM_own {N : Nat} {M : Nat → Nat → Int} {f i k r t l e a : Int} (h : pE N f i k r t l e a = 0) : w1 (pM N M f i k r t l e a) f i = packF ws [k, r, t, l, e] ∧ w2 (pM N M f i k r t l e a) f i = a := by
  obtain ⟨hi, hr, hf⟩ := pE_zero h
  have hi' := okS_yes hi
  have o1 : okW N f (4 + 2 * i) = true := by simp [okW, hf]; omega
  have o2 : okW N f (4 + 2 * i + 1) = true := by simp [okW, hf]; omega
  unfold pM w1 w2
  rw [hi, rtB_yes hr]
  simp only [Bool.and_self, if_true, stW, o1, o2, putW_yes hr, putA_yes hr]
  have q1 : (4 + 2 * i).toNat = 4 + 2 * i.toNat := by omega
  have q2 : (4 + 2 * i + 1).toNat = 4 + 2 * i.toNat + 1 := by omega
  rw [q1, q2]
  constructor
  · rw [if_neg (fun h => absurd h.2 (by omega)), if_pos ⟨trivial, rfl⟩]
  · rw [if_pos ⟨trivial, rfl⟩]
theorem pM_other {N : Nat} {M : Nat → Nat → Int} {f i k r t l e a : Int} {g : Nat} {b : Nat} (h : (g : Int) ≠ f ∨ ((b : Int) ≠ 4 + 2 * i ∧ (b : Int) ≠ 4 + 2 * i + 1)) : pM N M f i k r t l e a g b = M g b := by
  unfold pM
  split
  · rename_i hh
    simp only [Bool.and_eq_true] at hh
    have hi := okS_yes hh.1
    cases hf : okF N f
    · simp [stW, okW, hf]
    · have hf' := okF_yes hf
      have o1 : okW N f (4 + 2 * i) = true := by simp [okW, hf]; omega
      have o2 : okW N f (4 + 2 * i + 1) = true := by simp [okW, hf]; omega
      simp only [stW, o1, o2, if_true]
      rw [if_neg (by omega), if_neg (by omega)]
  · rfl
/-- What is put is got. -/
theorem put_got {N : Nat} {M : Nat → Nat → Int} {f i k r t l e a : Int} (h : pE N f i k r t l e a = 0) :
    sE N (pM N M f i k r t l e a) f i = 0 ∧ sC N (pM N M f i k r t l e a) f i 0 = k ∧ sC N (pM N M f i k r t l e a) f i 1 = r ∧ sC N (pM N M f i k r t l e a) f i 2 = t ∧ sC N (pM N M f i k r t l e a) f i 3 = l ∧ sC N (pM N M f i k r t l e a) f i 4 = e ∧ sC N (pM N M f i k r t l e a) f i 5 = a := by
  obtain ⟨hi, hr, hf⟩ := pE_zero h
  obtain ⟨e1, e2⟩ := pM_own (M := M) h
  obtain ⟨_, _, g0, g1, g2, g3, g4, g5, g6⟩ := back_get hr
  simp only [sE, sC, hi, hf, Bool.and_self, if_true, e1, e2]
  exact ⟨g0, g1, g2, g3, g4, g5, g6⟩
/-- No other slot changes. -/
theorem put_other {N : Nat} {M : Nat → Nat → Int} {f i k r t l e a : Int} {g : Int} {m : Nat} (hm : m < 16) (h : pE N f i k r t l e a ≠ 0 ∨ (m : Int) ≠ i) :
    sE N (pM N M f i k r t l e a) g m = sE N M g m ∧ ∀ j, sC N (pM N M f i k r t l e a) g m j = sC N M g m j := by
  rcases h with h | h
  · rw [pM_no h]
    exact ⟨rfl, fun _ => rfl⟩
  · have e1 : w1 (pM N M f i k r t l e a) g m = w1 M g m := by
      unfold w1
      exact pM_other (.inr ⟨by simp; omega, by simp; omega⟩)
    have e2 : w2 (pM N M f i k r t l e a) g m = w2 M g m := by
      unfold w2
      exact pM_other (.inr ⟨by simp; omega, by simp; omega⟩)
    exact ⟨by unfold sE; rw [e1, e2], fun j => by unfold sC; rw [e1, e2]⟩
theorem sE_cases (N : Nat) (M : Nat → Nat → Int) (f i : Int) : sE N M f i = 0 ∨ sE N M f i = 1 ∨ sE N M f i = 12 := by
  unfold sE getE
  split
  · split <;> simp
  · simp
theorem sE_frame {N : Nat} {M : Nat → Nat → Int} {f : Int} {i : Nat} (hi : i < 16) : sE N M f i = 0 ∨ sE N M f i = if okF N f then 12 else 1 := by
  unfold sE
  rw [okS_nat hi]
  cases okF N f
  · simp
  · simp only [Bool.and_self, if_true]
    unfold getE
    split <;> simp

/-! ### All, Used, First -/
/-- Can all slots be read? -/
def okA (N : Nat) (M : Nat → Nat → Int) (f : Int) : Bool := (List.range 16).all fun i => decide (sE N M f (i : Nat) = 0)
def aE (N : Nat) (M : Nat → Nat → Int) (f : Int) : Int := if okA N M f then 0 else if okF N f then 12 else 1
def aN (N : Nat) (M : Nat → Nat → Int) (f : Int) : Nat := if okA N M f then 16 else 0
theorem okA_iff (N : Nat) (M : Nat → Nat → Int) (f : Int) : okA N M f = true ↔ ∀ i : Nat, i < 16 → sE N M f i = 0 := by
  simp [okA, List.all_eq_true]
theorem okA_no {N : Nat} {M : Nat → Nat → Int} {f : Int} {i : Nat} (hi : i < 16) (h : sE N M f i ≠ 0) : okA N M f = false ∧ aE N M f = sE N M f i := by
  have h0 : okA N M f = false := Bool.eq_false_iff.2 fun e => h ((okA_iff N M f).1 e i hi)
  refine ⟨h0, ?_⟩
  rcases sE_frame (N := N) (M := M) (f := f) hi with e | e
  · exact absurd e h
  · rw [e]; simp [aE, h0]
/-- How many of the first n of C are above CQuiet. -/
def cnt (C : Nat → Int) : Nat → Nat
  | 0 => 0
  | n + 1 => cnt C n + if 1 < C n then 1 else 0
theorem cnt_le (C : Nat → Int) (n : Nat) : cnt C n ≤ n := by
  induction n with
  | zero => simp [cnt]
  | succ n ih => unfold cnt; split <;> omega
def uN (N : Nat) (M : Nat → Nat → Int) (f : Int) : Nat := cnt (fun i => sC N M f (i : Nat) 0) (aN N M f)
theorem uN_le (N : Nat) (M : Nat → Nat → Int) (f : Int) : uN N M f ≤ 16 := by
  have h := cnt_le (fun i => sC N M f (i : Nat) 0) (aN N M f)
  have : aN N M f ≤ 16 := by unfold aN; split <;> omega
  unfold uN
  omega
/-- The first of n that is CNone, or n. -/
def fst (C : Nat → Int) : Nat → Nat → Nat
  | 0, k => k
  | n + 1, k => if C k = 0 then k else fst C n (k + 1)
theorem fst_at (C : Nat → Int) : ∀ (n k : Nat), k ≤ fst C n k ∧ fst C n k ≤ k + n ∧ (∀ i, k ≤ i → i < fst C n k → C i ≠ 0) ∧ (fst C n k < k + n → C (fst C n k) = 0)
  | 0, k => ⟨Nat.le_refl _, Nat.le_refl _, fun i h1 h2 => by simp [fst] at h2; omega, fun h => by simp [fst] at h⟩
  | n + 1, k => by
    unfold fst
    split
    · rename_i h
      exact ⟨Nat.le_refl _, by omega, fun i h1 h2 => by omega, fun _ => h⟩
    · rename_i h
      obtain ⟨h1, h2, h3, h4⟩ := fst_at C n (k + 1)
      refine ⟨by omega, by omega, fun i i1 i2 => ?_, fun hh => h4 (by omega)⟩
      by_cases e : i = k
      · subst e; exact h
      · exact h3 i (by omega) i2
/-- The first one is told by these two. -/
theorem fst_is {C : Nat → Int} {n m : Nat} (hm : m ≤ n) (h1 : ∀ i, i < m → C i ≠ 0) (h2 : m < n → C m = 0) : fst C n 0 = m := by
  obtain ⟨_, a2, a3, a4⟩ := fst_at C n 0
  rw [Nat.zero_add] at a2 a4
  rcases Nat.lt_trichotomy (fst C n 0) m with h | h | h
  · exact absurd (a4 (by omega)) (h1 _ h)
  · exact h
  · exact absurd (h2 (by omega)) (a3 m (Nat.zero_le _) h)
def fF (N : Nat) (M : Nat → Nat → Int) (f : Int) : Nat := fst (fun i => sC N M f (i : Nat) 0) 16 0
def fN (N : Nat) (M : Nat → Nat → Int) (f : Int) : Nat := if okA N M f = true ∧ fF N M f < 16 then fF N M f else 0
def fE (N : Nat) (M : Nat → Nat → Int) (f : Int) : Int := if okA N M f = true then if fF N M f < 16 then 0 else 3 else aE N M f

/-! ### the tables beside a memory -/
theorem tabM_ne {w : World} {p b N : Nat} {M : Nat → Nat → Int} (hM : MemIs w p b N M) (hN : 1 ≤ N) (h : TabM w) : 0 ≠ b := by
  intro e
  have h1 := h.cell 0 0 (by omega) (by omega)
  have h2 := hM.word (f := 0) (a := 0) (by omega) (by omega)
  rw [← e, h1] at h2
  simp at h2
theorem tabW_ne {w : World} {p b N : Nat} {M : Nat → Nat → Int} (hM : MemIs w p b N M) (h : TabW w) : 3 ≠ b := by
  intro e
  obtain ⟨t, fr, hr⟩ := h.row
  rw [e, hM.row] at hr
  simp only [Option.some.injEq, Obj.cells.injEq] at hr
  have := congrArg Array.size hr.1
  rw [cellsM_size] at this
  simp at this
  omega
theorem tabM_but {w w' : World} {b : Nat} (h : TabM w) (hB : But b w w') (hn : 0 ≠ b) : TabM w' :=
  ⟨Nat.lt_of_lt_of_le h.lt hB.size, fun K j hK hj => (hB.cell h.lt hn).trans (h.cell K j hK hj)⟩
theorem tabW_but {w w' : World} {b : Nat} (h : TabW w) (hB : But b w w') (hn : 3 ≠ b) : TabW w' :=
  ⟨Nat.lt_of_lt_of_le h.lt hB.size, by obtain ⟨t, fr, hr⟩ := h.row; exact ⟨t, fr, (hB.block 3 h.lt hn).trans hr⟩⟩
/-- A memory that New made, and the two tables. -/
structure Mt (w : World) (p b N : Nat) (M : Nat → Nat → Int) : Prop where
  mem : MemIs w p b N M
  tab : TabM w
  tabw : TabW w
  fit : Fit M
  n1 : 1 ≤ N
  n64 : N ≤ 64
theorem Mt.on {w w' : World} {p b N : Nat} {M : Nat → Nat → Int} (h : Mt w p b N M) (hB : Below w.heap.size w w') : Mt w' p b N M :=
  ⟨h.mem.grown hB, h.tab.on hB, h.tabw.on hB, h.fit, h.n1, h.n64⟩
theorem Mt.but {w w' : World} {p b N : Nat} {M M' : Nat → Nat → Int} (h : Mt w p b N M) (hM : MemIs w' p b N M') (hF : Fit M') (hB : But b w w') : Mt w' p b N M' :=
  ⟨hM, tabM_but h.tab hB (tabM_ne h.mem h.n1 h.tab), tabW_but h.tabw hB (tabW_ne h.mem h.tabw), hF, h.n1, h.n64⟩
end Go.Proofs.YtggggfhgfnbjnaaGreatDoor.Pslot

/- What Put and Get of package slot answer and do, for every argument, over a memory that New made. -/
namespace Go.Proofs.YtggggfhgfnbjnaaGreatDoor.Pslot
open Go.Proofs.YtggggfhgfnbjnaaGreatDoor.Pbase Go.Proofs.YtggggfhgfnbjnaaGreatDoor.Pcap Go.Proofs.YtggggfhgfnbjnaaGreatDoor.Pfield Go.Proofs.YtggggfhgfnbjnaaGreatDoor.Pmem
open Go.RowKit M
set_option linter.unusedVariables false

theorem place_no (i : Int) (w : World) (h : okS i = false) : Calls Tryz.prog 199 #[.int .i64 i] w fun e w' => e = .returned (.tuple #[.int .i64 0, .int .i64 1]) ∧ w' = w := by
  rcases okS_no h with h1 | h1
  · clear h
    go_enter Tryz.func199, Tryz.ntmps199
    go_wp2
    go_ret2
    exact ⟨rfl, rfl⟩
  · clear h
    have h2 : ¬ i < 0 := by omega
    go_enter Tryz.func199, Tryz.ntmps199
    go_wp2
    go_ret2
    exact ⟨rfl, rfl⟩
theorem place_yes (n at_ : Nat) (w : World) (h : n < 16) (ha : at_ = 4 + 2 * n) : Calls Tryz.prog 199 #[.int .i64 n] w fun e w' => e = .returned (.tuple #[.int .i64 at_, .int .i64 0]) ∧ w' = w := by
  have h1 : ¬ (n : Int) < 0 := by omega
  have h2 : ¬ 16 ≤ (n : Int) := by omega
  have h2' : ¬ 16 ≤ n := by omega
  have e1 : wrap64 (2 * (n : Int)) = 2 * (n : Int) := by unfold wrap64; omega
  have e2 : wrap64 (4 + 2 * (n : Int)) = (at_ : Int) := by unfold wrap64; omega
  have HA : Hid (at_ = 4 + 2 * n) := ha
  clear ha
  go_enter Tryz.func199, Tryz.ntmps199
  go_wp2
  go_ret2
  exact ⟨by have := HA.out; simp; omega, rfl⟩
theorem box6_but {w w' : World} {B q : Nat} {k r t l e a : Int} (h : Box6 w B k r t l e a) (hB : But q w w') (hn : B ≠ q) : Box6 w' B k r t l e a :=
  ⟨Nat.lt_of_lt_of_le h.lt hB.size, (hB.cell h.lt hn).trans h.c0, (hB.cell h.lt hn).trans h.c1, (hB.cell h.lt hn).trans h.c2, (hB.cell h.lt hn).trans h.c3, (hB.cell h.lt hn).trans h.c4, (hB.cell h.lt hn).trans h.c5, fun j => (hB.frozen h.lt hn).trans (h.fz j)⟩
/-- A capability in the call's first block, a memory and the tables. -/
structure PtI (w0 w : World) (p b N : Nat) (M : Nat → Nat → Int) (k r t l e a : Int) : Prop where
  mt : Mt w p b N M
  below : Below w0.heap.size w0 w
  box : Box6 w w0.heap.size k r t l e a
theorem PtI.on {w0 w w' : World} {p b N : Nat} {M : Nat → Nat → Int} {k r t l e a : Int} (h : PtI w0 w p b N M k r t l e a) (hB : Below w.heap.size w w') : PtI w0 w' p b N M k r t l e a :=
  ⟨h.mt.on hB, h.below.trans (hB.mono h.below.size), h.box.on hB⟩
theorem ptI_new {w : World} {p b N : Nat} {M : Nat → Nat → Int} (h : Mt w p b N M) (k r t l e a : Int) (ty : TypeId) : PtI w (w.alloc (.cells #[.int .i64 k, .int .i64 r, .int .i64 t, .int .i64 l, .int .i64 e, .int .i64 a] ty)) p b N M k r t l e a :=
  ⟨h.on (bal (Below.refl _ _) _), bal (Below.refl _ _) _, box6_new w k r t l e a ty⟩
set_option maxRecDepth 100000 in
set_option maxHeartbeats 1000000 in
theorem sput_bad (p b N : Nat) (f i k r t l e a : Int) (M : Nat → Nat → Int) (w : World) (hM : Mt w p b N M) (hb : okS i = false ∨ ¬ Rt k r t l e a) :
    Calls Tryz.prog 153 #[.pointer (some ⟨p, 0, none⟩), .int .i64 f, .int .i64 i, .agg #[.int .i64 k, .int .i64 r, .int .i64 t, .int .i64 l, .int .i64 e, .int .i64 a]] w fun x w' => x = .returned (.int .i64 1) ∧ Below w.heap.size w w' := by
  have HI : Hid (∀ ty, PtI w (w.alloc (.cells #[.int .i64 k, .int .i64 r, .int .i64 t, .int .i64 l, .int .i64 e, .int .i64 a] ty)) p b N M k r t l e a) := fun ty => ptI_new hM k r t l e a ty
  clear hM
  cases hi : okS i
  · clear hb
    go_enter Tryz.func153, Tryz.ntmps153
    go_wp2_with (first
      | (go_at_call 199; refine (place_no i _ hi).mono ?_; rintro e1 w1 ⟨rfl, hw1⟩; subst w1)
      | fail)
    go_ret
    exact ⟨rfl, (HI.out _).below⟩
  · have hr : ¬ Rt k r t l e a := by rcases hb with h | h; · rw [hi] at h; cases h
                                     · exact h
    obtain ⟨n, rfl, hn⟩ := okS_split hi
    have hc : chk k r t l e a = 1 := chk_no hr
    obtain ⟨A, hA⟩ : ∃ A, A = 4 + 2 * n := ⟨_, rfl⟩
    have HA : Hid (A = 4 + 2 * n) := hA
    clear hb hi hr hA
    go_enter Tryz.func153, Tryz.ntmps153
    go_wp2_with (first
      | (go_at_call 199; refine (place_yes n A _ hn HA.out).mono ?_; rintro e1 w1 ⟨rfl, hw1⟩; subst w1; have H1 : Hid _ := HI.out 55; have x0 := H1.out.box.c0; have x1 := H1.out.box.c1; have x2 := H1.out.box.c2; have x3 := H1.out.box.c3; have x4 := H1.out.box.c4; have x5 := H1.out.box.c5)
      | (go_at_call 202; refine (Pcap.put_any _ _ _ _ _ _ _ H1.out.mt.tab H1.out.mt.tabw).mono ?_; rintro e2 w2 ⟨rfl, hb2⟩; rw [hc]; have H2 : Hid (Below w.heap.size w w2) := H1.out.below.trans (hb2.mono H1.out.below.size); clear hb2)
      | fail)
    go_ret
    exact ⟨rfl, H2.out⟩
set_option maxRecDepth 100000 in
set_option maxHeartbeats 1000000 in
theorem sput_ok (p b N n A A1 : Nat) (f k r t l e a : Int) (M : Nat → Nat → Int) (w : World) (hM : Mt w p b N M) (hn : n < 16) (hA : A = 4 + 2 * n) (hA1 : A1 = A + 1) (hr : Rt k r t l e a) :
    Calls Tryz.prog 153 #[.pointer (some ⟨p, 0, none⟩), .int .i64 f, .int .i64 n, .agg #[.int .i64 k, .int .i64 r, .int .i64 t, .int .i64 l, .int .i64 e, .int .i64 a]] w fun x w' => x = .returned (.int .i64 (errF N f)) ∧ MemIs w' p b N (stW N (stW N M f (A : Int) (putW k r t l e a)) f (A1 : Int) (putA k r t l e a)) ∧ But b w w' := by
  have HI : Hid (∀ ty, PtI w (w.alloc (.cells #[.int .i64 k, .int .i64 r, .int .i64 t, .int .i64 l, .int .i64 e, .int .i64 a] ty)) p b N M k r t l e a) := fun ty => ptI_new hM k r t l e a ty
  have hN1 := hM.n1
  have hN := hM.n64
  have HA : Hid (A = 4 + 2 * n) := hA
  have hc : chk k r t l e a = 0 := chk_yes hr
  have s1 : wrap64 ((A : Int) + 1) = (A1 : Int) := by unfold wrap64; omega
  have e1 : errW N f (A : Int) = errF N f := by
    have : decide ((0 : Int) ≤ (A : Int) ∧ (A : Int) < 36) = true := by simp; omega
    simp only [errW, okW, errF, this, Bool.and_true]
  have e2 : errW N f (A1 : Int) = errF N f := by
    have : decide ((0 : Int) ≤ (A1 : Int) ∧ (A1 : Int) < 36) = true := by simp; omega
    simp only [errW, okW, errF, this, Bool.and_true]
  have hz : errF N f = 0 ∨ (errF N f = 1 ∧ ∀ c v M', stW N M' f c v = M') := by
    cases hf : okF N f
    · exact .inr ⟨by simp [errF, hf], fun c v M' => by simp [stW, okW, hf]⟩
    · exact .inl (by simp [errF, hf])
  have HC : Hid (∀ wc, TabM wc → TabW wc → Calls Tryz.prog 202 #[.agg #[.int .i64 k, .int .i64 r, .int .i64 t, .int .i64 l, .int .i64 e, .int .i64 a]] wc fun x w' => x = .returned (.tuple #[.int .u64 (putW k r t l e a), .int .u64 (putA k r t l e a), .int .i64 0]) ∧ Below wc.heap.size wc w') := fun wc h1 h2 => by
    have := Pcap.put_any k r t l e a wc h1 h2
    rwa [hc] at this
  generalize putW k r t l e a = x at HC ⊢
  generalize putA k r t l e a = y at HC ⊢
  clear hM hc hr hA hA1
  have t1 : True := trivial
  rcases hz with hz | ⟨hz, hM⟩
  · rw [hz] at e1 e2 ⊢
    clear hz
    go_enter Tryz.func153, Tryz.ntmps153
    go_wp2_with (first
      | (go_at_call 199; refine (place_yes n A _ hn HA.out).mono ?_; rintro r1 w1 ⟨rfl, hw1⟩; subst w1; have H1 : Hid _ := HI.out 55; have x0 := H1.out.box.c0; have x1 := H1.out.box.c1; have x2 := H1.out.box.c2; have x3 := H1.out.box.c3; have x4 := H1.out.box.c4; have x5 := H1.out.box.c5)
      | (go_at_call 202; refine (HC.out _ H1.out.mt.tab H1.out.mt.tabw).mono ?_; rintro r2 w2 ⟨rfl, hb2⟩; have H2 : Hid (PtI w w2 p b N M k r t l e a) := H1.out.on hb2; clear hb2 x0 x1 x2 x3 x4 x5 H1 HI)
      | (go_at_call 168; clear t1; refine (store_any p b N f (A : Int) x M _ hN1 hN H2.out.mt.mem).mono ?_; rintro r3 w3 ⟨rfl, hw3⟩; rw [e1]; have H3 : Hid (MemIs w3 p b N (stW N M f (A : Int) x) ∧ But b w w3) := (by rw [hw3]; exact ⟨H2.out.mt.mem.set _, (But.of_below b H2.out.below).setRow _⟩); clear hw3 e1)
      | (go_at_call 168; rw [s1]; refine (store_any p b N f (A1 : Int) y _ _ hN1 hN H3.out.1).mono ?_; rintro r4 w4 ⟨rfl, hw4⟩; rw [e2]; have H4 : Hid (MemIs w4 p b N (stW N (stW N M f (A : Int) x) f (A1 : Int) y) ∧ But b w w4) := (by rw [hw4]; exact ⟨H3.out.1.set _, H3.out.2.setRow _⟩); clear hw4)
      | fail)
    go_ret
    exact ⟨rfl, H4.out⟩
  · rw [hM, hM, hz]
    rw [hz] at e1
    clear hz e2
    go_enter Tryz.func153, Tryz.ntmps153
    go_wp2_with (first
      | (go_at_call 199; refine (place_yes n A _ hn HA.out).mono ?_; rintro r1 w1 ⟨rfl, hw1⟩; subst w1; have H1 : Hid _ := HI.out 55; have x0 := H1.out.box.c0; have x1 := H1.out.box.c1; have x2 := H1.out.box.c2; have x3 := H1.out.box.c3; have x4 := H1.out.box.c4; have x5 := H1.out.box.c5)
      | (go_at_call 202; refine (HC.out _ H1.out.mt.tab H1.out.mt.tabw).mono ?_; rintro r2 w2 ⟨rfl, hb2⟩; have H2 : Hid (PtI w w2 p b N M k r t l e a) := H1.out.on hb2; clear hb2 x0 x1 x2 x3 x4 x5 H1 HI)
      | (go_at_call 168; clear t1; refine (store_any p b N f (A : Int) x M _ hN1 hN H2.out.mt.mem).mono ?_; rintro r3 w3 ⟨rfl, hw3⟩; rw [e1]; have H3 : Hid (MemIs w3 p b N M ∧ But b w w3) := (by rw [hw3, hM]; exact ⟨H2.out.mt.mem.set _, (But.of_below b H2.out.below).setRow _⟩); clear hw3 e1)
      | fail)
    go_ret
    exact ⟨rfl, H3.out⟩
/-- Put, for every argument. -/
theorem sput_any (p b N : Nat) (f i k r t l e a : Int) (M : Nat → Nat → Int) (w : World) (hM : Mt w p b N M) :
    Calls Tryz.prog 153 #[.pointer (some ⟨p, 0, none⟩), .int .i64 f, .int .i64 i, .agg #[.int .i64 k, .int .i64 r, .int .i64 t, .int .i64 l, .int .i64 e, .int .i64 a]] w fun x w' => x = .returned (.int .i64 (pE N f i k r t l e a)) ∧ Mt w' p b N (pM N M f i k r t l e a) ∧ But b w w' := by
  have hF := fit_pM hM.fit N f i k r t l e a
  by_cases h : okS i = true ∧ Rt k r t l e a
  · obtain ⟨hi, hr⟩ := h
    obtain ⟨n, rfl, hn⟩ := okS_split hi
    refine (sput_ok p b N n (4 + 2 * n) (4 + 2 * n + 1) f k r t l e a M w hM hn rfl rfl hr).mono ?_
    rintro x w' ⟨rfl, h1, h2⟩
    have e1 : pE N f n k r t l e a = errF N f := by simp [pE, hi, rtB_yes hr, errF]
    have e2 : pM N M f n k r t l e a = stW N (stW N M f ((4 + 2 * n : Nat) : Int) (putW k r t l e a)) f ((4 + 2 * n + 1 : Nat) : Int) (putA k r t l e a) := by
      have a1 : (4 + 2 * (n : Int)) = ((4 + 2 * n : Nat) : Int) := by omega
      have a2 : (4 + 2 * (n : Int) + 1) = ((4 + 2 * n + 1 : Nat) : Int) := by omega
      simp only [pM, hi, rtB_yes hr, Bool.and_self, if_true]
      rw [a2, a1]
    rw [e1]
    refine ⟨rfl, hM.but ?_ hF h2, h2⟩
    rw [e2]
    exact h1
  · have hb : okS i = false ∨ ¬ Rt k r t l e a := by
      cases hi : okS i
      · exact .inl rfl
      · exact .inr fun hr => h ⟨hi, hr⟩
    refine (sput_bad p b N f i k r t l e a M w hM hb).mono ?_
    rintro x w' ⟨rfl, h2⟩
    have hz : (okS i && rtB k r t l e a) = false := by
      rcases hb with hb | hb
      · simp [hb]
      · simp [rtB_no hb]
    have e1 : pE N f i k r t l e a = 1 := by simp [pE, hz]
    have e2 : pM N M f i k r t l e a = M := by simp [pM, hz]
    rw [e1, e2]
    exact ⟨rfl, hM.on h2, But.of_below b h2⟩

/-! ### Get -/
/-- The result in the call's first block, a memory and the tables. -/
theorem sget_i {w : World} {p b N : Nat} {M : Nat → Nat → Int} (h : Mt w p b N M) (ty : TypeId) : PtI w (w.alloc (.cells #[.int .i64 0, .int .i64 0, .int .i64 0, .int .i64 0, .int .i64 0, .int .i64 0] ty)) p b N M 0 0 0 0 0 0 := ptI_new h 0 0 0 0 0 0 ty
/-- Get on its way: the result's block, the two words' block D, a memory and the tables. -/
structure GtS (w0 w : World) (p b N : Nat) (M : Nat → Nat → Int) (D : Nat) (x y : Int) : Prop where
  mt0 : Mt w0 p b N M
  below : Below w0.heap.size w0 w
  res : w.heap[w0.heap.size]? = some (.cells #[.int .i64 0, .int .i64 0, .int .i64 0, .int .i64 0, .int .i64 0, .int .i64 0] 55 (0, 0))
  row : w.heap[D]? = some (.cells #[.int .u64 x, .int .u64 y] 306 (0, 0))
  lo : w0.heap.size < D
theorem GtS.mt {w0 w : World} {p b N : Nat} {M : Nat → Nat → Int} {D : Nat} {x y : Int} (h : GtS w0 w p b N M D x y) : Mt w p b N M := h.mt0.on h.below
theorem GtS.box {w0 w : World} {p b N : Nat} {M : Nat → Nat → Int} {D : Nat} {x y : Int} (h : GtS w0 w p b N M D x y) : Box6 w w0.heap.size 0 0 0 0 0 0 :=
  ⟨(Array.getElem?_eq_some_iff.1 h.res).1, (cell_of_row _ _ _ _ _ _ h.res).trans rfl, (cell_of_row _ _ _ _ _ _ h.res).trans rfl, (cell_of_row _ _ _ _ _ _ h.res).trans rfl, (cell_of_row _ _ _ _ _ _ h.res).trans rfl, (cell_of_row _ _ _ _ _ _ h.res).trans rfl, (cell_of_row _ _ _ _ _ _ h.res).trans rfl, fun j => frozen_of_row _ _ _ _ _ h.res⟩
theorem GtS.c0 {w0 w : World} {p b N : Nat} {M : Nat → Nat → Int} {D : Nat} {x y : Int} (h : GtS w0 w p b N M D x y) : w.cell? ⟨D, 0, none⟩ = some (.int .u64 x) := (cell_of_row _ _ _ _ _ _ h.row).trans rfl
theorem GtS.c1 {w0 w : World} {p b N : Nat} {M : Nat → Nat → Int} {D : Nat} {x y : Int} (h : GtS w0 w p b N M D x y) : w.cell? ⟨D, 1, none⟩ = some (.int .u64 y) := (cell_of_row _ _ _ _ _ _ h.row).trans rfl
theorem GtS.fz {w0 w : World} {p b N : Nat} {M : Nat → Nat → Int} {D : Nat} {x y : Int} (h : GtS w0 w p b N M D x y) (j : Nat) : w.frozen? ⟨D, j, none⟩ = false := frozen_of_row _ _ _ _ _ h.row
theorem GtS.set0 {w0 w : World} {p b N : Nat} {M : Nat → Nat → Int} {D : Nat} {x y : Int} (h : GtS w0 w p b N M D x y) (z : Int) : GtS w0 (w.setCell ⟨D, 0, none⟩ (.int .u64 z)) p b N M D z y :=
  ⟨h.mt0, bst h.below (Nat.le_of_lt h.lo) _ _, (heap_setCell_other _ _ _ _ (Nat.ne_of_lt h.lo)).trans h.res, (heap_setCell_same _ _ _ _ _ _ h.row).trans rfl, h.lo⟩
theorem GtS.set1 {w0 w : World} {p b N : Nat} {M : Nat → Nat → Int} {D : Nat} {x y : Int} (h : GtS w0 w p b N M D x y) (z : Int) : GtS w0 (w.setCell ⟨D, 1, none⟩ (.int .u64 z)) p b N M D x z :=
  ⟨h.mt0, bst h.below (Nat.le_of_lt h.lo) _ _, (heap_setCell_other _ _ _ _ (Nat.ne_of_lt h.lo)).trans h.res, (heap_setCell_same _ _ _ _ _ _ h.row).trans rfl, h.lo⟩
theorem gtS_new {w : World} {p b N : Nat} {M : Nat → Nat → Int} (h : Mt w p b N M) : GtS w ((w.alloc (.cells #[.int .i64 0, .int .i64 0, .int .i64 0, .int .i64 0, .int .i64 0, .int .i64 0] 55)).alloc (.cells #[.int .u64 0, .int .u64 0] 306)) p b N M (w.heap.size + 1) 0 0 :=
  ⟨h, bal (bal (Below.refl _ _) _) _, (Below.heap_alloc _ _ _ (by simp)).trans (heap_alloc_new w _), by have := heap_alloc_new (w.alloc (.cells #[.int .i64 0, .int .i64 0, .int .i64 0, .int .i64 0, .int .i64 0, .int .i64 0] 55)) (.cells #[.int .u64 0, .int .u64 0] 306); rwa [World.size_alloc] at this, by omega⟩
set_option maxRecDepth 100000 in
set_option maxHeartbeats 1000000 in
theorem sget_bad (p b N : Nat) (f i : Int) (M : Nat → Nat → Int) (w : World) (hM : Mt w p b N M) (hb : okS i = false ∨ okF N f = false) :
    Calls Tryz.prog 152 #[.pointer (some ⟨p, 0, none⟩), .int .i64 f, .int .i64 i] w fun x w' => x = .returned (.tuple #[.agg #[.int .i64 0, .int .i64 0, .int .i64 0, .int .i64 0, .int .i64 0, .int .i64 0], .int .i64 1]) ∧ Below w.heap.size w w' := by
  have HI : Hid (PtI w (w.alloc (.cells #[.int .i64 0, .int .i64 0, .int .i64 0, .int .i64 0, .int .i64 0, .int .i64 0] 55)) p b N M 0 0 0 0 0 0) := sget_i hM 55
  have HM : Hid (Mt w p b N M) := hM
  have hN1 := hM.n1
  have hN := hM.n64
  clear hM
  cases hi : okS i
  · clear hb
    go_enter Tryz.func152, Tryz.ntmps152
    go_upto_region 3 with (first
      | (go_at_call 199; refine (place_no i _ hi).mono ?_; rintro e1 w1 ⟨rfl, hw1⟩; subst w1)
      | fail)
    generalize w.alloc _ = v1 at HI ⊢
    have x0 := HI.out.box.c0
    have x1 := HI.out.box.c1
    have x2 := HI.out.box.c2
    have x3 := HI.out.box.c3
    have x4 := HI.out.box.c4
    have x5 := HI.out.box.c5
    have z0 := HI.out.box.fz 0
    have z1 := HI.out.box.fz 1
    have z2 := HI.out.box.fz 2
    have z3 := HI.out.box.fz 3
    have z4 := HI.out.box.fz 4
    have z5 := HI.out.box.fz 5
    go_wp2
    refine bodyPost_ret (v := .tuple #[.agg #[.int .i64 0, .int .i64 0, .int .i64 0, .int .i64 0, .int .i64 0, .int .i64 0], .int .i64 1]) (by simp [results, Tryz.results152, go_sem, x0, x1, x2, x3, x4, x5]) rfl ⟨rfl, ?_⟩
    exact bst (bst (bst (bst (bst (bst HI.out.below (Nat.le_refl _) _ _) (Nat.le_refl _) _ _) (Nat.le_refl _) _ _) (Nat.le_refl _) _ _) (Nat.le_refl _) _ _) (Nat.le_refl _) _ _
  · have hf : okF N f = false := by rcases hb with h | h; · rw [hi] at h; cases h
                                    · exact h
    obtain ⟨n, rfl, hn⟩ := okS_split hi
    obtain ⟨A, hA⟩ : ∃ A, A = 4 + 2 * n := ⟨_, rfl⟩
    have HA : Hid (A = 4 + 2 * n) := hA
    have l0 : ldM N M f (A : Int) = 0 := by simp [ldM, okW, hf]
    have e0 : errW N f (A : Int) = 1 := by simp [errW, okW, hf]
    have hAi : IntKind.i64.wrap (A : Int) = (A : Int) := wrapi_small (by omega) (by omega)
    clear hb hi hf hA HI
    go_enter Tryz.func152, Tryz.ntmps152
    go_upto_region 5 with (first
      | (go_at_call 199; refine (place_yes n A _ hn HA.out).mono ?_; rintro e1 w1 ⟨rfl, hw1⟩; subst w1)
      | fail)
    have HS : Hid (GtS w ((w.alloc (.cells #[.int .i64 0, .int .i64 0, .int .i64 0, .int .i64 0, .int .i64 0, .int .i64 0] 55)).alloc (.cells #[.int .u64 0, .int .u64 0] 306)) p b N M (w.heap.size + 1) 0 0) := gtS_new HM.out
    generalize (w.alloc _).alloc _ = v1 at HS ⊢
    generalize w.heap.size + 1 = D at HS ⊢
    go_wp2
    go_loopw [21] (fun i wr => i = .int .i64 0 ∧ wr = v1) (fun i _ => 0)
    case atStart => exact ⟨rfl, rfl⟩
    case round =>
      obtain ⟨rfl, hwr⟩ := hrel
      subst wr
      have y0 := HS.out.c0
      have q0 := HS.out.fz 0
      have x0 := HS.out.box.c0
      have x1 := HS.out.box.c1
      have x2 := HS.out.box.c2
      have x3 := HS.out.box.c3
      have x4 := HS.out.box.c4
      have x5 := HS.out.box.c5
      go_upto_region 9 with (first
        | (go_at_call 200; refine (load_any p b N f (A : Int) M _ hN1 hN HS.out.mt.mem).mono ?_; rintro e1 w1 ⟨rfl, hw1⟩; subst w1; rw [l0, e0])
        | fail)
      have HS2 : Hid (GtS w (v1.setCell ⟨D, 0, none⟩ (.int .u64 0)) p b N M D 0 0) := HS.out.set0 0
      generalize v1.setCell _ _ = v2 at HS2 ⊢
      clear x0 x1 x2 x3 x4 x5 y0 q0 HS
      have x0 := HS2.out.box.c0
      have x1 := HS2.out.box.c1
      have x2 := HS2.out.box.c2
      have x3 := HS2.out.box.c3
      have x4 := HS2.out.box.c4
      have x5 := HS2.out.box.c5
      have z0 := HS2.out.box.fz 0
      have z1 := HS2.out.box.fz 1
      have z2 := HS2.out.box.fz 2
      have z3 := HS2.out.box.fz 3
      have z4 := HS2.out.box.fz 4
      have z5 := HS2.out.box.fz 5
      go_wp2
      refine bodyPost_ret (v := .tuple #[.agg #[.int .i64 0, .int .i64 0, .int .i64 0, .int .i64 0, .int .i64 0, .int .i64 0], .int .i64 1]) (by simp [results, Tryz.results152, go_sem, x0, x1, x2, x3, x4, x5]) rfl ⟨rfl, ?_⟩
      exact bst (bst (bst (bst (bst (bst HS2.out.below (Nat.le_refl _) _ _) (Nat.le_refl _) _ _) (Nat.le_refl _) _ _) (Nat.le_refl _) _ _) (Nat.le_refl _) _ _) (Nat.le_refl _) _ _
set_option maxRecDepth 100000 in
set_option maxHeartbeats 1000000 in
theorem sget_ok (p b N n : Nat) (f : Int) (M : Nat → Nat → Int) (w : World) (hM : Mt w p b N M) (hn : n < 16) (hf : okF N f = true) :
    Calls Tryz.prog 152 #[.pointer (some ⟨p, 0, none⟩), .int .i64 f, .int .i64 n] w fun x w' => x = .returned (.tuple #[.agg #[.int .i64 (getC (w1 M f n) (w2 M f n) 0), .int .i64 (getC (w1 M f n) (w2 M f n) 1), .int .i64 (getC (w1 M f n) (w2 M f n) 2), .int .i64 (getC (w1 M f n) (w2 M f n) 3), .int .i64 (getC (w1 M f n) (w2 M f n) 4), .int .i64 (getC (w1 M f n) (w2 M f n) 5)], .int .i64 (getE (w1 M f n) (w2 M f n))]) ∧ Below w.heap.size w w' := by
  have HM : Hid (Mt w p b N M) := hM
  have hN1 := hM.n1
  have hN := hM.n64
  obtain ⟨A, hA⟩ : ∃ A, A = 4 + 2 * n := ⟨_, rfl⟩
  obtain ⟨A1, hA1⟩ : ∃ A1, A1 = A + 1 := ⟨_, rfl⟩
  have HA : Hid (A = 4 + 2 * n) := hA
  have o1 : okW N f (A : Int) = true := by simp [okW, hf]; omega
  have o2 : okW N f (A1 : Int) = true := by simp [okW, hf]; omega
  have l0 : ldM N M f (A : Int) = w1 M f n := by
    unfold ldM w1
    rw [if_pos o1, Int.toNat_natCast, Int.toNat_natCast, hA]
  have l1 : ldM N M f (A1 : Int) = w2 M f n := by
    unfold ldM w2
    rw [if_pos o2, Int.toNat_natCast, Int.toNat_natCast, hA1, hA]
  have e0 : errW N f (A : Int) = 0 := by simp [errW, o1]
  have e1 : errW N f (A1 : Int) = 0 := by simp [errW, o2]
  have s1 : wrap64 ((A : Int) + 1) = (A1 : Int) := by unfold wrap64; omega
  have hx : 0 ≤ w1 M f n ∧ w1 M f n ≤ 18446744073709551615 := hM.fit _ _
  have hy : 0 ≤ w2 M f n ∧ w2 M f n ≤ 18446744073709551615 := hM.fit _ _
  generalize w1 M f n = x at l0 hx ⊢
  generalize w2 M f n = y at l1 hy ⊢
  have hAi : IntKind.i64.wrap (A : Int) = (A : Int) := wrapi_small (by omega) (by omega)
  have HC : Hid (∀ wc, TabM wc → TabW wc → Calls Tryz.prog 201 #[.int .u64 x, .int .u64 y] wc fun v w' => v = .returned (.tuple #[.agg #[.int .i64 (getC x y 0), .int .i64 (getC x y 1), .int .i64 (getC x y 2), .int .i64 (getC x y 3), .int .i64 (getC x y 4), .int .i64 (getC x y 5)], .int .i64 (getE x y)]) ∧ Below wc.heap.size wc w') := fun wc h1 h2 => Pcap.get_any x y wc hx hy h1 h2
  generalize getC x y 0 = C0 at HC ⊢
  generalize getC x y 1 = C1 at HC ⊢
  generalize getC x y 2 = C2 at HC ⊢
  generalize getC x y 3 = C3 at HC ⊢
  generalize getC x y 4 = C4 at HC ⊢
  generalize getC x y 5 = C5 at HC ⊢
  generalize getE x y = E at HC ⊢
  clear hM hA hA1 o1 o2 hx hy hf
  go_enter Tryz.func152, Tryz.ntmps152
  go_upto_region 5 with (first
    | (go_at_call 199; refine (place_yes n A _ hn HA.out).mono ?_; rintro r1 w1 ⟨rfl, hw1⟩; subst w1)
    | fail)
  have HS0 : Hid (GtS w ((w.alloc (.cells #[.int .i64 0, .int .i64 0, .int .i64 0, .int .i64 0, .int .i64 0, .int .i64 0] 55)).alloc (.cells #[.int .u64 0, .int .u64 0] 306)) p b N M (w.heap.size + 1) 0 0) := gtS_new HM.out
  generalize (w.alloc _).alloc _ = v1 at HS0 ⊢
  generalize w.heap.size + 1 = D at HS0 ⊢
  go_wp2
  go_loopw [21] (fun i wr => (i = .int .i64 0 ∧ GtS w wr p b N M D 0 0) ∨ (i = .int .i64 1 ∧ GtS w wr p b N M D x 0) ∨ (i = .int .i64 2 ∧ GtS w wr p b N M D x y)) (fun i _ => 2 - (intOf i).toNat)
  case atStart => exact .inl ⟨rfl, HS0.out⟩
  case round =>
    rcases hrel with ⟨rfl, h⟩ | ⟨rfl, h⟩ | ⟨rfl, h⟩
    · have HS : Hid (GtS w wr p b N M D 0 0) := h
      have y0 := h.c0
      have q0 := h.fz 0
      clear h HS0
      go_wp2_with (first
        | (go_at_call 200; refine (load_any p b N f (A : Int) M _ hN1 hN HS.out.mt.mem).mono ?_; rintro r1 w1 ⟨rfl, hw1⟩; subst w1; rw [l0, e0])
        | fail)
      go_roundw
      case rel => exact .inr (.inl ⟨by go_num, HS.out.set0 x⟩)
      case measure => simp [intOf]
    · have HS : Hid (GtS w wr p b N M D x 0) := h
      have y0 := h.c1
      have q0 := h.fz 1
      clear h HS0
      go_wp2_with (first
        | (go_at_call 200; rw [s1]; refine (load_any p b N f (A1 : Int) M _ hN1 hN HS.out.mt.mem).mono ?_; rintro r1 w1 ⟨rfl, hw1⟩; subst w1; rw [l1, e1])
        | fail)
      go_roundw
      case rel => exact .inr (.inr ⟨by go_num, HS.out.set1 y⟩)
      case measure => simp [intOf]
    · have HS : Hid (GtS w wr p b N M D x y) := h
      have y0 := h.c0
      have y1 := h.c1
      clear h HS0
      go_wp2_with (first
        | (go_at_call 201; refine (HC.out _ HS.out.mt.tab HS.out.mt.tabw).mono ?_; rintro r2 w3 ⟨rfl, hb⟩; have H3 : Hid (Below w.heap.size w w3) := HS.out.below.trans (hb.mono HS.out.below.size); have X := HS.out.box.on hb; clear hb y0 y1; have x0 := X.c0; have x1 := X.c1; have x2 := X.c2; have x3 := X.c3; have x4 := X.c4; have x5 := X.c5; have z0 := X.fz 0; have z1 := X.fz 1; have z2 := X.fz 2; have z3 := X.fz 3; have z4 := X.fz 4; have z5 := X.fz 5; clear X)
        | fail)
      refine bodyPost_ret (v := .tuple #[.agg #[.int .i64 C0, .int .i64 C1, .int .i64 C2, .int .i64 C3, .int .i64 C4, .int .i64 C5], .int .i64 E]) (by simp [results, Tryz.results152, go_sem, x0, x1, x2, x3, x4, x5]) rfl ⟨rfl, ?_⟩
      exact bst (bst (bst (bst (bst (bst H3.out (Nat.le_refl _) _ _) (Nat.le_refl _) _ _) (Nat.le_refl _) _ _) (Nat.le_refl _) _ _) (Nat.le_refl _) _ _) (Nat.le_refl _) _ _
/-- Get, for every argument. -/
theorem sget_any (p b N : Nat) (f i : Int) (M : Nat → Nat → Int) (w : World) (hM : Mt w p b N M) :
    Calls Tryz.prog 152 #[.pointer (some ⟨p, 0, none⟩), .int .i64 f, .int .i64 i] w fun x w' => x = .returned (.tuple #[.agg #[.int .i64 (sC N M f i 0), .int .i64 (sC N M f i 1), .int .i64 (sC N M f i 2), .int .i64 (sC N M f i 3), .int .i64 (sC N M f i 4), .int .i64 (sC N M f i 5)], .int .i64 (sE N M f i)]) ∧ Below w.heap.size w w' := by
  cases hi : okS i
  · simp only [sC, sE, hi, Bool.false_and, Bool.false_eq_true, if_false]
    exact sget_bad p b N f i M w hM (.inl hi)
  · cases hf : okF N f
    · simp only [sC, sE, hf, Bool.and_false, Bool.false_eq_true, if_false]
      exact sget_bad p b N f i M w hM (.inr hf)
    · simp only [sC, sE, hi, hf, Bool.and_self, if_true]
      obtain ⟨n, rfl, hn⟩ := okS_split hi
      exact sget_ok p b N n f M w hM hn hf
end Go.Proofs.YtggggfhgfnbjnaaGreatDoor.Pslot

/- The iterator over the slots of a frame (slot.each): for every loop body it hands out what Get answers of each slot, in order. -/
namespace Go.Proofs.YtggggfhgfnbjnaaGreatDoor.Pslot
open Go.Proofs.YtggggfhgfnbjnaaGreatDoor.Pbase Go.Proofs.YtggggfhgfnbjnaaGreatDoor.Pcap Go.Proofs.YtggggfhgfnbjnaaGreatDoor.Pfield Go.Proofs.YtggggfhgfnbjnaaGreatDoor.Pmem
open Go.RowKit Go.Shelf M
attribute [local go_sem] Oper.semAt_some
set_option linter.unusedVariables false

theorem grown_none {W W' : World} (h : Below W.heap.size W W') : W.grownBy W' none := ⟨h.os, h.tape, h.output, h.size, fun k hk _ => h.block k hk⟩
theorem below_grown {W W' : World} (h : W.grownBy W' none) : Below W.heap.size W W' := ⟨h.os, h.tape, h.output, h.size, fun k hk => h.block k hk (by simp)⟩
/-- A block of cells is no block of another kind. -/
theorem cell_ne {W : World} {l : Nat} {o : Obj} (hl : W.heap[l]? = some o) (ho : o.isCells = false) {q j : Nat} {v : Value} (h : W.cell? ⟨q, j, none⟩ = some v) : q ≠ l := by
  rintro rfl
  unfold World.cell? at h
  simp only [hl] at h
  cases o with
  | cells cs t fr => simp [Obj.isCells] at ho
  | _ => simp at h
theorem row_ne {W : World} {l : Nat} {o : Obj} (hl : W.heap[l]? = some o) (ho : o.isCells = false) {q : Nat} {cs : Array Value} {t : TypeId} {fr : Nat × Nat} (h : W.heap[q]? = some (.cells cs t fr)) : q ≠ l := by
  rintro rfl
  rw [hl] at h
  cases h
  simp [Obj.isCells] at ho
theorem but_putObj (W : World) (l : Nat) (o : Obj) : But l W (W.putObj l o) := ⟨rfl, rfl, rfl, by simp, fun k _ hk => World.putObj_heap_other hk⟩
/-- What the iterator stands on: the two variables that it holds, a memory and the tables. -/
structure It (W : World) (Bm p b N : Nat) (M : Nat → Nat → Int) (f : Int) : Prop where
  bm : Boxed W Bm 48 (.pointer (some ⟨p, 0, none⟩))
  bf : Boxed W (Bm + 1) 3 (.int .i64 f)
  mt : Mt W p b N M
theorem It.on {W W' : World} {Bm p b N : Nat} {M : Nat → Nat → Int} {f : Int} (h : It W Bm p b N M f) (hB : Below W.heap.size W W') : It W' Bm p b N M f :=
  ⟨h.bm.kept (grown_none hB) (by simp), h.bf.kept (grown_none hB) (by simp), h.mt.on hB⟩
theorem It.putObj {W : World} {Bm p b N : Nat} {M : Nat → Nat → Int} {f : Int} (h : It W Bm p b N M f) {l : Nat} {o : Obj} (o' : Obj) (hl : W.heap[l]? = some o) (ho : o.isCells = false) : It (W.putObj l o') Bm p b N M f := by
  have hB := but_putObj W l o'
  have n1 : p ≠ l := row_ne hl ho h.mt.mem.head
  have n2 : b ≠ l := row_ne hl ho h.mt.mem.row
  have n3 : 0 ≠ l := cell_ne hl ho (h.mt.tab.cell 0 0 (by omega) (by omega))
  have n4 : 3 ≠ l := by obtain ⟨t, fr, hr⟩ := h.mt.tabw.row; exact row_ne hl ho hr
  refine ⟨h.bm.kept (grownBy_putObj' W l o') (fun e => row_ne hl ho h.bm (by cases e; rfl)), h.bf.kept (grownBy_putObj' W l o') (fun e => row_ne hl ho h.bf (by cases e; rfl)), ⟨h.mt.mem.on (hB.block p h.mt.mem.lt.1 n1) (hB.block b h.mt.mem.lt.2 n2), tabM_but h.mt.tab hB n3, tabW_but h.mt.tabw hB n4, h.mt.fit, h.mt.n1, h.mt.n64⟩⟩
/-- What a round is handed. -/
def encS (N : Nat) (M : Nat → Nat → Int) (f : Int) (x : Fin 16) : Array Value :=
  #[.agg #[.int .i64 (sC N M f (x.1 : Nat) 0), .int .i64 (sC N M f (x.1 : Nat) 1), .int .i64 (sC N M f (x.1 : Nat) 2), .int .i64 (sC N M f (x.1 : Nat) 3), .int .i64 (sC N M f (x.1 : Nat) 4), .int .i64 (sC N M f (x.1 : Nat) 5)], .int .i64 (sE N M f (x.1 : Nat))]

end Go.Proofs.YtggggfhgfnbjnaaGreatDoor.Pslot

/- What All of package slot answers: for every frame the capabilities of all slots, in memory of its own, or the first error. -/
namespace Go.Proofs.YtggggfhgfnbjnaaGreatDoor.Pslot
open Go.Proofs.YtggggfhgfnbjnaaGreatDoor.Pbase Go.Proofs.YtggggfhgfnbjnaaGreatDoor.Pcap Go.Proofs.YtggggfhgfnbjnaaGreatDoor.Pfield Go.Proofs.YtggggfhgfnbjnaaGreatDoor.Pmem
open Go.RowKit Go.Shelf M
attribute [local go_sem] Oper.semAt_some
set_option linter.unusedVariables false

/-- A scope of labels that no goto leaves for. -/
theorem wpIn_scope_wide {n : Nat} {P : Program} {Q : Exit → Act → World → Prop} {a : Act} {w : World} {c : Code} (h : c.wpIn Fence.wide n P (Exit.noGoto Q) a w) : (Code.scope c).wpIn Fence.wide n P Q a w := wpIn_wide.2 (wp_scope_straight (wpIn_wide.1 h))
/-- The cells of the capabilities in these slots. -/
def cells6 (N : Nat) (M : Nat → Nat → Int) (f : Int) (x : Fin 16) : List Value := [.int .i64 (sC N M f (x.1 : Nat) 0), .int .i64 (sC N M f (x.1 : Nat) 1), .int .i64 (sC N M f (x.1 : Nat) 2), .int .i64 (sC N M f (x.1 : Nat) 3), .int .i64 (sC N M f (x.1 : Nat) 4), .int .i64 (sC N M f (x.1 : Nat) 5)]
def capsOf (N : Nat) (M : Nat → Nat → Int) (f : Int) (pre : List (Fin 16)) : List Value := pre.flatMap (cells6 N M f)
theorem capsOf_snoc (N : Nat) (M : Nat → Nat → Int) (f : Int) (pre : List (Fin 16)) (x : Fin 16) : capsOf N M f (pre ++ [x]) = capsOf N M f pre ++ cells6 N M f x := by simp [capsOf]
theorem infoCap : (Tryz.prog.info? 55).map (fun i => (i.zero, i.size, i.bytes)) = some (some (.agg #[.int .i64 0, .int .i64 0, .int .i64 0, .int .i64 0, .int .i64 0, .int .i64 0]), 6, 48) := by kernel_rfl
theorem make_caps : ∃ Z : Array Value, Z.size = 96 ∧ ∀ w, (Instr.makeSlice 22 (.int .i64 0) (.int .i64 16)).run Tryz.prog w = .ok (.slice (some ⟨w.heap.size, 0, none⟩) 0 16) (w.alloc (.cells Z 55)) := by
  obtain ⟨i0, hi, hz0, hz1, hz2⟩ := info_parts infoCap
  refine ⟨madeCells (Value.cells (.agg #[.int .i64 0, .int .i64 0, .int .i64 0, .int .i64 0, .int .i64 0, .int .i64 0])) 96, size_madeCells _ _, fun w => ?_⟩
  have := run_make (P := Tryz.prog) w 22 55 i0 _ Tryz.underlying22 hi hz0 .i64 .i64 0 16 (by omega) (by omega) (by rw [hz2]; omega) (by omega)
  rw [hz1] at this
  exact this
theorem six_new (w : World) (a b c d e g : Value) (t : TypeId) : ∀ j u, [a, b, c, d, e, g][j]? = some u → (w.alloc (.cells #[a, b, c, d, e, g] t)).cell? ((⟨w.heap.size, 0, none⟩ : Addr).add j) = some u := by
  intro j u hj
  rw [Addr.add_lit, Nat.zero_add, cell_of_row _ _ j _ _ _ (heap_alloc_new w _)]
  match j, hj with
  | 0, hj | 1, hj | 2, hj | 3, hj | 4, hj | 5, hj => exact hj
  | j + 6, hj => simp at hj
theorem six_one (N : Nat) (M : Nat → Nat → Int) (f : Int) (x : Fin 16) : ∀ u ∈ cells6 N M f x, u.oneCell' = true := by
  intro u hu
  simp only [cells6, List.mem_cons, List.not_mem_nil, or_false] at hu
  rcases hu with rfl | rfl | rfl | rfl | rfl | rfl <;> rfl
/-- What the variables of All hold between two rounds. B: where All began. -/
structure AlI (w : World) (B p N : Nat) (M : Nat → Nat → Int) (f : Int) (pre : List (Fin 16)) (W : World) : Prop where
  ok : ∀ j ∈ pre, sE N M f (j.1 : Nat) = 0
  be : Boxed W (B + 1 + 1) 29 (.int .i64 0)
  bm : Boxed W (B + 1 + 1 + 1) 48 (.pointer (some ⟨p, 0, none⟩))
  bf : Boxed W (B + 1 + 1 + 1 + 1) 3 (.int .i64 f)
  row : ∃ v, Boxed W (B + 1) 22 v ∧ W.ownsRow B 55 6 v pre.length (capsOf N M f pre) ∧ True
  below : Below B w W
theorem alI_own (w : World) (B p N : Nat) (M : Nat → Nat → Int) (f : Int) {B' : Nat} (hB : B ≤ B') (hw : B ≤ w.heap.size) : OwnFrom B' (AlI w B p N M f) := fun pre A C row hs hg hr => by
  have hr' : ∀ r, row = some r → ∃ o : Obj, A.heap[r]? = some o ∧ o.isCells = false := fun r e => (hr r e).2
  exact ⟨hs.ok, boxed_own _ _ (fun _ : Unit => .int .i64 0) () A C row hs.be hg hr', boxed_own _ _ (fun _ : Unit => .pointer (some ⟨p, 0, none⟩)) () A C row hs.bm hg hr', boxed_own _ _ (fun _ : Unit => .int .i64 f) () A C row hs.bf hg hr',
    holdsRow_own B (B + 1) 22 55 6 (fun pre : List (Fin 16) => pre.length) (fun pre => capsOf N M f pre) (fun _ _ => True) pre A C row hs.row hg hr',
    ownFrom_below hw hB pre A C row hs.below hg hr⟩
/-- What they hold where a round has left. -/
structure AlX (w : World) (B N : Nat) (M : Nat → Nat → Int) (f : Int) (c : Code) (pre : List (Fin 16)) (W : World) : Prop where
  code : c = .exit 0
  bad : ∃ x : Fin 16, sE N M f (x.1 : Nat) ≠ 0 ∧ Boxed W (B + 1 + 1) 29 (.int .i64 (sE N M f (x.1 : Nat)))
  row : Boxed W (B + 1) 22 (.slice none 0 0)
  below : Below B w W
theorem alX_own (w : World) (B N : Nat) (M : Nat → Nat → Int) (f : Int) (c : Code) {B' : Nat} (hB : B ≤ B') (hw : B ≤ w.heap.size) : OwnFrom B' (AlX w B N M f c) := fun pre A C row hs hg hr => by
  have hr' : ∀ r, row = some r → ∃ o : Obj, A.heap[r]? = some o ∧ o.isCells = false := fun r e => (hr r e).2
  obtain ⟨x, h1, h2⟩ := hs.bad
  exact ⟨hs.code, ⟨x, h1, boxed_own _ _ (fun _ : Unit => .int .i64 (sE N M f (x.1 : Nat))) () A C row h2 hg hr'⟩, boxed_own _ _ (fun _ : Unit => .slice none 0 0) () A C row hs.row hg hr', ownFrom_below hw hB pre A C row hs.below hg hr⟩
/-- Where the iterator's things lie. -/
theorem AlI.it {w : World} {p b N : Nat} {M : Nat → Nat → Int} {f : Int} {pre : List (Fin 16)} {W : World} (h : AlI w w.heap.size p N M f pre W) (hM : Mt w p b N M) : It W (w.heap.size + 1 + 1 + 1) p b N M f :=
  ⟨h.bm, h.bf, hM.on h.below⟩
/-! ### as a reader asks it -/
/-- The slice v holds n capabilities, the numbers of the i-th told by C i, in a block from base on. -/
def Caps (w : World) (base : Nat) (v : Value) (n : Nat) (C : Nat → Nat → Int) : Prop :=
  ∃ a cap, v = .slice a n cap ∧ (n = 0 ∨ ∃ b, a = some ⟨b, 0, none⟩ ∧ base ≤ b ∧ b < w.heap.size ∧ ∀ i, i < n → w.cell? ⟨b, i * 6, none⟩ = some (.int .i64 (C i 0)) ∧ w.cell? ⟨b, i * 6 + 1, none⟩ = some (.int .i64 (C i 1)) ∧ w.cell? ⟨b, i * 6 + 2, none⟩ = some (.int .i64 (C i 2)) ∧ w.cell? ⟨b, i * 6 + 3, none⟩ = some (.int .i64 (C i 3)) ∧ w.cell? ⟨b, i * 6 + 4, none⟩ = some (.int .i64 (C i 4)) ∧ w.cell? ⟨b, i * 6 + 5, none⟩ = some (.int .i64 (C i 5)))
theorem Caps.on {w w' : World} {base : Nat} {v : Value} {n : Nat} {C : Nat → Nat → Int} (h : Caps w base v n C) (hB : Below w.heap.size w w') : Caps w' base v n C := by
  obtain ⟨a, cap, e, h⟩ := h
  refine ⟨a, cap, e, ?_⟩
  rcases h with h | ⟨b, e1, h1, h2, h3⟩
  · exact .inl h
  · exact .inr ⟨b, e1, h1, Nat.lt_of_lt_of_le h2 hB.size, fun i hi => by
      obtain ⟨c0, c1, c2, c3, c4, c5⟩ := h3 i hi
      exact ⟨(hB.cell (p := ⟨b, _, none⟩) h2).trans c0, (hB.cell (p := ⟨b, _, none⟩) h2).trans c1, (hB.cell (p := ⟨b, _, none⟩) h2).trans c2, (hB.cell (p := ⟨b, _, none⟩) h2).trans c3, (hB.cell (p := ⟨b, _, none⟩) h2).trans c4, (hB.cell (p := ⟨b, _, none⟩) h2).trans c5⟩⟩
theorem Caps.but {w w' : World} {q base : Nat} {v : Value} {n : Nat} {C : Nat → Nat → Int} (h : Caps w base v n C) (hB : But q w w') (hq : q < base) : Caps w' base v n C := by
  obtain ⟨a, cap, e, h⟩ := h
  refine ⟨a, cap, e, ?_⟩
  rcases h with h | ⟨b, e1, h1, h2, h3⟩
  · exact .inl h
  · exact .inr ⟨b, e1, h1, Nat.lt_of_lt_of_le h2 hB.size, fun i hi => by
      obtain ⟨c0, c1, c2, c3, c4, c5⟩ := h3 i hi
      have hn : b ≠ q := by omega
      exact ⟨(hB.cell h2 hn).trans c0, (hB.cell h2 hn).trans c1, (hB.cell h2 hn).trans c2, (hB.cell h2 hn).trans c3, (hB.cell h2 hn).trans c4, (hB.cell h2 hn).trans c5⟩⟩
theorem capsOf_len (N : Nat) (M : Nat → Nat → Int) (f : Int) (pre : List (Fin 16)) : (capsOf N M f pre).length = pre.length * 6 := by
  induction pre with
  | nil => rfl
  | cons x pre ih => rw [show capsOf N M f (x :: pre) = cells6 N M f x ++ capsOf N M f pre from rfl, List.length_append, ih]; simp [cells6]; omega
/-- The cells of the capability in slot i are the six from 6i on. -/
theorem capsOf_at (N : Nat) (M : Nat → Nat → Int) (f : Int) : ∀ (k i j : Nat), k ≤ 16 → i < k → j < 6 → (capsOf N M f (upto 16 k))[i * 6 + j]? = some (.int .i64 (sC N M f (i : Nat) j))
  | 0, i, j, _, hi, _ => by omega
  | k + 1, i, j, hk, hi, hj => by
    have hk' : k < 16 := by omega
    rw [upto_succ hk', capsOf_snoc]
    have hl : (capsOf N M f (upto 16 k)).length = k * 6 := by rw [capsOf_len, upto_length (by omega)]
    by_cases h : i < k
    · rw [List.getElem?_append_left (by rw [hl]; omega)]
      exact capsOf_at N M f k i j (by omega) h hj
    · obtain rfl : i = k := by omega
      rw [List.getElem?_append_right (by rw [hl]; omega), hl, show i * 6 + j - i * 6 = j by omega]
      match j, hj with
      | 0, _ | 1, _ | 2, _ | 3, _ | 4, _ | 5, _ => rfl
theorem caps_of_own {w : World} {base : Nat} {v : Value} {N : Nat} {M : Nat → Nat → Int} {f : Int} (h : w.ownsRow base 55 6 v 16 (capsOf N M f (upto 16 16))) : Caps w base v 16 fun i j => sC N M f (i : Nat) j := by
  rcases h.2 with ⟨_, e⟩ | ⟨g, cap, cur, rfl, hb, hg, _, _, _, ht⟩
  · omega
  · refine ⟨_, _, rfl, .inr ⟨g, rfl, hb, (Array.getElem?_eq_some_iff.1 hg).1, fun i hi => ?_⟩⟩
    have key : ∀ j, j < 6 → w.cell? ⟨g, i * 6 + j, none⟩ = some (.int .i64 (sC N M f (i : Nat) j)) := fun j hj => by
      have := capsOf_at N M f 16 i j (Nat.le_refl _) hi hj
      rw [← ht, List.getElem?_take, if_pos (by omega), Array.getElem?_toList] at this
      rw [cell_of_row _ _ _ _ _ _ hg, this]
    exact ⟨key 0 (by omega), key 1 (by omega), key 2 (by omega), key 3 (by omega), key 4 (by omega), key 5 (by omega)⟩
end Go.Proofs.YtggggfhgfnbjnaaGreatDoor.Pslot

/- What Used and First of package slot answer, for every frame, over a memory that New made; what 'awake' answers. -/
namespace Go.Proofs.YtggggfhgfnbjnaaGreatDoor.Pslot
open Go.Proofs.YtggggfhgfnbjnaaGreatDoor.Pbase Go.Proofs.YtggggfhgfnbjnaaGreatDoor.Pcap Go.Proofs.YtggggfhgfnbjnaaGreatDoor.Pfield Go.Proofs.YtggggfhgfnbjnaaGreatDoor.Pmem
open Go.RowKit M
set_option linter.unusedVariables false

theorem Caps.at {w : World} {base : Nat} {a : Option Addr} {cap n m : Nat} {C : Nat → Nat → Int} (h : Caps w base (.slice a n cap) m C) {i : Nat} (hi : i < m) : n = m ∧ ∃ b, a = some ⟨b, 0, none⟩ ∧ base ≤ b ∧ b < w.heap.size ∧ ∀ w', Below w.heap.size w w' → w'.cell? ⟨b, i * 6, none⟩ = some (.int .i64 (C i 0)) ∧ w'.cell? ⟨b, i * 6 + 1, none⟩ = some (.int .i64 (C i 1)) ∧ w'.cell? ⟨b, i * 6 + 2, none⟩ = some (.int .i64 (C i 2)) ∧ w'.cell? ⟨b, i * 6 + 3, none⟩ = some (.int .i64 (C i 3)) ∧ w'.cell? ⟨b, i * 6 + 4, none⟩ = some (.int .i64 (C i 4)) ∧ w'.cell? ⟨b, i * 6 + 5, none⟩ = some (.int .i64 (C i 5)) := by
  obtain ⟨a', cap', e, h⟩ := h
  cases e
  rcases h with h | ⟨b, e1, h1, h2, h3⟩
  · omega
  · refine ⟨rfl, b, e1, h1, h2, fun w' hB => ?_⟩
    obtain ⟨c0, c1, c2, c3, c4, c5⟩ := h3 i hi
    exact ⟨(hB.cell (p := ⟨b, _, none⟩) h2).trans c0, (hB.cell (p := ⟨b, _, none⟩) h2).trans c1, (hB.cell (p := ⟨b, _, none⟩) h2).trans c2, (hB.cell (p := ⟨b, _, none⟩) h2).trans c3, (hB.cell (p := ⟨b, _, none⟩) h2).trans c4, (hB.cell (p := ⟨b, _, none⟩) h2).trans c5⟩
theorem Caps.slice {w : World} {base : Nat} {v : Value} {n : Nat} {C : Nat → Nat → Int} (h : Caps w base v n C) : ∃ a cap, v = .slice a n cap := by
  obtain ⟨a, cap, e, _⟩ := h
  exact ⟨a, cap, e⟩
theorem aN_le (N : Nat) (M : Nat → Nat → Int) (f : Int) : aN N M f ≤ 16 := by unfold aN; split <;> omega
/-- What IndexFunc answers. -/
def idx (C : Nat → Int) (n : Nat) : Int := if fst C n 0 < n then (fst C n 0 : Nat) else -1
/-! ### awake -/
theorem pack0 : packF ws [0, 0, 0, 0, 0] = 0 := by decide +kernel
theorem rt0 : Rt 0 0 0 0 0 0 := by unfold Rt; omega
theorem get0 : getE 0 0 = 0 ∧ ∀ j, j < 6 → getC 0 0 j = 0 := by
  obtain ⟨_, _, g, g0, g1, g2, g3, g4, g5⟩ := back_get rt0
  rw [pack0] at g g0 g1 g2 g3 g4 g5
  refine ⟨g, fun j hj => ?_⟩
  match j, hj with
  | 0, _ => exact g0
  | 1, _ => exact g1
  | 2, _ => exact g2
  | 3, _ => exact g3
  | 4, _ => exact g4
  | 5, _ => exact g5
/-- A frame of zeros has nothing in any slot. -/
theorem zero_slot {N i : Nat} {f : Int} (hi : i < 16) (hf : okF N f = true) : sE N (fun _ _ => 0) f (i : Nat) = 0 ∧ ∀ j, j < 6 → sC N (fun _ _ => 0) f (i : Nat) j = 0 := by
  simp only [sE, sC, okS_nat hi, hf, Bool.and_self, if_true, w1, w2]
  exact get0
theorem okF1 : okF 1 0 = true := by decide
/-- The first of all slots, told by which are none. -/
theorem first_is {N : Nat} {M : Nat → Nat → Int} {f : Int} {m : Nat} (hok : ∀ i : Nat, i < 16 → sE N M f i = 0) (hm : m ≤ 16) (h1 : ∀ i : Nat, i < m → sC N M f (i : Nat) 0 ≠ 0) (h2 : m < 16 → sC N M f (m : Nat) 0 = 0) : fN N M f = (if m < 16 then m else 0) ∧ fE N M f = (if m < 16 then 0 else 3) := by
  have ho : okA N M f = true := (okA_iff N M f).2 hok
  have hf : fF N M f = m := fst_is hm h1 h2
  simp only [fN, fE, ho, hf, true_and, if_true]
theorem first0 : fN 1 (fun _ _ => 0) 0 = 0 ∧ fE 1 (fun _ _ => 0) 0 = 0 := by
  have := first_is (N := 1) (M := fun _ _ => 0) (f := 0) (m := 0) (fun i hi => (zero_slot hi okF1).1) (by omega) (fun i hi => by omega) (fun _ => (zero_slot (by omega) okF1).2 0 (by omega))
  simpa using this
theorem rt11 : Rt 11 0 0 0 0 0 := by unfold Rt; omega
theorem pe11 : pE 1 0 0 11 0 0 0 0 0 = 0 := by unfold pE; rw [rtB_yes rt11]; rfl
theorem first1 : fN 1 (pM 1 (fun _ _ => 0) 0 0 11 0 0 0 0 0) 0 = 1 ∧ fE 1 (pM 1 (fun _ _ => 0) 0 0 11 0 0 0 0 0) 0 = 0 := by
  obtain ⟨e0, k0, _⟩ := put_got (M := fun _ _ => 0) pe11
  have other : ∀ i : Nat, i < 16 → i ≠ 0 → sE 1 (pM 1 (fun _ _ => 0) 0 0 11 0 0 0 0 0) 0 (i : Nat) = 0 ∧ sC 1 (pM 1 (fun _ _ => 0) 0 0 11 0 0 0 0 0) 0 (i : Nat) 0 = 0 := fun i hi hne => by
    obtain ⟨a, b⟩ := put_other (N := 1) (M := fun _ _ => 0) (f := 0) (i := 0) (k := 11) (r := 0) (t := 0) (l := 0) (e := 0) (a := 0) (g := 0) hi (.inr (by omega))
    obtain ⟨c, d⟩ := zero_slot (N := 1) (f := 0) hi okF1
    exact ⟨a.trans c, (b 0).trans (d 0 (by omega))⟩
  have := first_is (N := 1) (M := pM 1 (fun _ _ => 0) 0 0 11 0 0 0 0 0) (f := 0) (m := 1) (fun i hi => by
    by_cases h : i = 0
    · subst h; exact e0
    · exact (other i hi h).1) (by omega) (fun i hi => by
    obtain rfl : i = 0 := by omega
    rw [show ((0 : Nat) : Int) = 0 from rfl, k0]; decide) (fun _ => (other 1 (by omega) (by omega)).2)
  simpa using this
theorem mt_new {w : World} (hT : TabM w) (hW : TabW w) {N : Nat} (h1 : 1 ≤ N) (h2 : N ≤ 64) : Mt (newW w N) (w.heap.size + 1) w.heap.size N fun _ _ => 0 :=
  ⟨newW_is w N, hT.on (newW_below w N), hW.on (newW_below w N), Fit.zero, h1, h2⟩
end Go.Proofs.YtggggfhgfnbjnaaGreatDoor.Pslot

/- Capabilities held against each other; what a Put leaves of a frame that can be read. -/
namespace Go.Proofs.YtggggfhgfnbjnaaGreatDoor.Pslot
open Go.Proofs.YtggggfhgfnbjnaaGreatDoor.Pbase Go.Proofs.YtggggfhgfnbjnaaGreatDoor.Pcap Go.Proofs.YtggggfhgfnbjnaaGreatDoor.Pfield Go.Proofs.YtggggfhgfnbjnaaGreatDoor.Pmem
open Go.RowKit M
set_option linter.unusedVariables false

set_option maxRecDepth 100000 in
/-- A capability held against itself. -/
theorem eqC (k r t l e a : Int) (w : World) : (Op.equalIn 10000 55 (.agg #[.int .i64 k, .int .i64 r, .int .i64 t, .int .i64 l, .int .i64 e, .int .i64 a]) (.agg #[.int .i64 k, .int .i64 r, .int .i64 t, .int .i64 l, .int .i64 e, .int .i64 a])).run Tryz.prog w = .ok true w := by
  show (Op.equalIn (9998 + 1 + 1) 55 (.agg #[.int .i64 k, .int .i64 r, .int .i64 t, .int .i64 l, .int .i64 e, .int .i64 a]) (.agg #[.int .i64 k, .int .i64 r, .int .i64 t, .int .i64 l, .int .i64 e, .int .i64 a])).run _ _ = _
  rw [run_equalIn_agg (P := Tryz.prog) w _ _ _ _ (by kernel_rfl) (by kernel_rfl)]
  have hf : (Tryz.prog.fieldsOf 55).toList = [⟨ "K", 3, 0, false, "", "", 0⟩, ⟨ "R", 3, 1, false, "", "", 8⟩, ⟨ "T", 3, 2, false, "", "", 16⟩, ⟨ "L", 3, 3, false, "", "", 24⟩, ⟨ "E", 3, 4, false, "", "", 32⟩, ⟨ "A", 3, 5, false, "", "", 40⟩] := by kernel_rfl
  rw [hf]
  have p0 : (part 3 #[.int .i64 k, .int .i64 r, .int .i64 t, .int .i64 l, .int .i64 e, .int .i64 a] 0).run Tryz.prog w = .ok (.int .i64 k) w := by kernel_rfl
  have p1 : (part 3 #[.int .i64 k, .int .i64 r, .int .i64 t, .int .i64 l, .int .i64 e, .int .i64 a] 1).run Tryz.prog w = .ok (.int .i64 r) w := by kernel_rfl
  have p2 : (part 3 #[.int .i64 k, .int .i64 r, .int .i64 t, .int .i64 l, .int .i64 e, .int .i64 a] 2).run Tryz.prog w = .ok (.int .i64 t) w := by kernel_rfl
  have p3 : (part 3 #[.int .i64 k, .int .i64 r, .int .i64 t, .int .i64 l, .int .i64 e, .int .i64 a] 3).run Tryz.prog w = .ok (.int .i64 l) w := by kernel_rfl
  have p4 : (part 3 #[.int .i64 k, .int .i64 r, .int .i64 t, .int .i64 l, .int .i64 e, .int .i64 a] 4).run Tryz.prog w = .ok (.int .i64 e) w := by kernel_rfl
  have p5 : (part 3 #[.int .i64 k, .int .i64 r, .int .i64 t, .int .i64 l, .int .i64 e, .int .i64 a] 5).run Tryz.prog w = .ok (.int .i64 a) w := by kernel_rfl
  have q : ∀ (x : Int), (Op.equalIn (9998 + 1) 3 (.int .i64 x) (.int .i64 x)).run Tryz.prog w = .ok true w := fun x => by
    rw [run_equalIn_int w 9998 3 .i64 .i64 x x Tryz.underlying3]
    simp
  simp only [Op.eqFields, Sem.run_bind, Sem.run_ite, p0, p1, p2, p3, p4, p5, q, Result.andThen_ok, Sem.run_pure]
  simp
theorem neqC (k r t l e a : Int) (w : World) : (binOp .neq 55 (.agg #[.int .i64 k, .int .i64 r, .int .i64 t, .int .i64 l, .int .i64 e, .int .i64 a]) (.agg #[.int .i64 k, .int .i64 r, .int .i64 t, .int .i64 l, .int .i64 e, .int .i64 a])).run Tryz.prog w = .ok (.bool false) w := by
  rw [run_neq_struct, eqC]
  simp
/-- What can be read can be read behind a Put. -/
theorem all_put {N : Nat} {M : Nat → Nat → Int} {f i k r t l e a : Int} (h : ∀ m : Nat, m < 16 → sE N M f (m : Nat) = 0) : ∀ m : Nat, m < 16 → sE N (pM N M f i k r t l e a) f (m : Nat) = 0 := by
  intro m hm
  by_cases hp : pE N f i k r t l e a = 0
  · by_cases hi : (m : Int) = i
    · rw [hi]; exact (put_got hp).1
    · rw [(put_other hm (.inr hi)).1]; exact h m hm
  · rw [(put_other hm (.inl hp)).1]; exact h m hm
theorem all_yes {N : Nat} {M : Nat → Nat → Int} {f : Int} (h : ∀ m : Nat, m < 16 → sE N M f (m : Nat) = 0) : aE N M f = 0 ∧ aN N M f = 16 := by
  have ho : okA N M f = true := (okA_iff N M f).2 h
  simp [aN, aE, ho]
end Go.Proofs.YtggggfhgfnbjnaaGreatDoor.Pslot

/- What the document's Put and Get of layer 11 answer and do, over its own memory. -/
namespace Go.Proofs.YtggggfhgfnbjnaaGreatDoor.Pslot
open Go.Proofs.YtggggfhgfnbjnaaGreatDoor.Pbase Go.Proofs.YtggggfhgfnbjnaaGreatDoor.Pcap Go.Proofs.YtggggfhgfnbjnaaGreatDoor.Pfield Go.Proofs.YtggggfhgfnbjnaaGreatDoor.Pmem
open Go.RowKit M
set_option linter.unusedVariables false

/-- The document's memory and, in the call's first block, a capability. -/
structure Rf (w0 w : World) (base q N : Nat) (M : Nat → Nat → Int) (k r t l e a : Int) : Prop where
  ref : RefIs w base q N M
  below : Below w0.heap.size w0 w
  box : Box6 w w0.heap.size k r t l e a
theorem Rf.on {w0 w w' : World} {base q N : Nat} {M : Nat → Nat → Int} {k r t l e a : Int} (h : Rf w0 w base q N M k r t l e a) (hB : Below w.heap.size w w') : Rf w0 w' base q N M k r t l e a :=
  ⟨h.ref.grown hB, h.below.trans (hB.mono h.below.size), h.box.on hB⟩
theorem rf_new {w : World} {base q N : Nat} {M : Nat → Nat → Int} (h : RefIs w base q N M) (k r t l e a : Int) (ty : TypeId) : Rf w (w.alloc (.cells #[.int .i64 k, .int .i64 r, .int .i64 t, .int .i64 l, .int .i64 e, .int .i64 a] ty)) base q N M k r t l e a :=
  ⟨h.alloc _, bal (Below.refl _ _) _, box6_new w k r t l e a ty⟩
theorem err_lo {N n : Nat} (f : Int) (hn : n < 16) : errW N f (4 + 2 * (n : Int)) = errF N f := by
  have : decide ((0 : Int) ≤ 4 + 2 * (n : Int) ∧ 4 + 2 * (n : Int) < 36) = true := by simp; omega
  simp only [errW, okW, errF, this, Bool.and_true]
theorem err_hi {N n : Nat} (f : Int) (hn : n < 16) : errW N f (4 + 2 * (n : Int) + 1) = errF N f := by
  have : decide ((0 : Int) ≤ 4 + 2 * (n : Int) + 1 ∧ 4 + 2 * (n : Int) + 1 < 36) = true := by simp; omega
  simp only [errW, okW, errF, this, Bool.and_true]
theorem RefIs_le {w : World} {base q N : Nat} {M : Nat → Nat → Int} (h : RefIs w base q N M) : base ≤ w.heap.size := Nat.le_trans h.ge (Nat.le_of_lt h.lt)
set_option maxRecDepth 100000 in
set_option maxHeartbeats 1000000 in
theorem rsput_bad (base q N : Nat) (f i k r t l e a : Int) (M : Nat → Nat → Int) (w : World) (hR : RefIs w base q N M) (hb : okS i = false ∨ ¬ Rt k r t l e a) :
    Calls Tryz.prog 66 #[.pointer (some ⟨q, 0, none⟩), .int .i64 f, .int .i64 i, .agg #[.int .i64 k, .int .i64 r, .int .i64 t, .int .i64 l, .int .i64 e, .int .i64 a]] w fun x w' => x = .returned (.int .i64 1) ∧ Below w.heap.size w w' := by
  have HI : Hid (Rf w (w.alloc (.cells #[.int .i64 k, .int .i64 r, .int .i64 t, .int .i64 l, .int .i64 e, .int .i64 a] 55)) base q N M k r t l e a) := rf_new hR k r t l e a 55
  clear hR
  cases hi : okS i
  · clear hb
    rcases okS_no hi with h1 | h1
    · clear hi
      go_enter Tryz.func66, Tryz.ntmps66
      go_wp2
      go_ret
      exact ⟨rfl, HI.out.below⟩
    · have h2 : ¬ i < 0 := by omega
      clear hi
      go_enter Tryz.func66, Tryz.ntmps66
      go_wp2
      go_ret
      exact ⟨rfl, HI.out.below⟩
  · have hr : ¬ Rt k r t l e a := by rcases hb with h | h; · rw [hi] at h; cases h
                                     · exact h
    obtain ⟨n, rfl, hn⟩ := okS_split hi
    have hc : chk k r t l e a = 1 := chk_no hr
    have h1 : ¬ (n : Int) < 0 := by omega
    have h2 : ¬ 16 ≤ (n : Int) := by omega
    have h2' : ¬ 16 ≤ n := by omega
    clear hb hi hr
    go_enter Tryz.func66, Tryz.ntmps66
    go_upto_region 3 with fail
    generalize w.alloc _ = v1 at HI ⊢
    have x0 := HI.out.box.c0
    have x1 := HI.out.box.c1
    have x2 := HI.out.box.c2
    have x3 := HI.out.box.c3
    have x4 := HI.out.box.c4
    have x5 := HI.out.box.c5
    go_wp2_with (first
      | (go_at_call 158; refine (Pcap.rput_any _ _ _ _ _ _ _).mono ?_; rintro e2 w2 ⟨rfl, hb2⟩; rw [hc]; have H2 : Hid (Below w.heap.size w w2) := HI.out.below.trans (hb2.mono HI.out.below.size); clear hb2)
      | fail)
    go_ret
    exact ⟨rfl, H2.out⟩
set_option maxRecDepth 100000 in
set_option maxHeartbeats 1000000 in
theorem rsput_ok (base q N n : Nat) (f k r t l e a : Int) (M : Nat → Nat → Int) (w : World) (hN1 : 1 ≤ N) (hN : N ≤ 64) (hR : RefIs w base q N M) (hn : n < 16) (hr : Rt k r t l e a) :
    Calls Tryz.prog 66 #[.pointer (some ⟨q, 0, none⟩), .int .i64 f, .int .i64 n, .agg #[.int .i64 k, .int .i64 r, .int .i64 t, .int .i64 l, .int .i64 e, .int .i64 a]] w fun x w' => x = .returned (.int .i64 (errF N f)) ∧ RefIs w' base q N (stW N (stW N M f (4 + 2 * (n : Int)) (putW k r t l e a)) f (4 + 2 * (n : Int) + 1) (putA k r t l e a)) ∧ Below base w w' := by
  have HI : Hid (Rf w (w.alloc (.cells #[.int .i64 k, .int .i64 r, .int .i64 t, .int .i64 l, .int .i64 e, .int .i64 a] 55)) base q N M k r t l e a) := rf_new hR k r t l e a 55
  have hle := RefIs_le hR
  have hc : chk k r t l e a = 0 := chk_yes hr
  have e1 := err_lo (N := N) f hn
  have e2 := err_hi (N := N) f hn
  have h1 : ¬ (n : Int) < 0 := by omega
  have h2 : ¬ 16 ≤ (n : Int) := by omega
  have h2' : ¬ 16 ≤ n := by omega
  have hz : errF N f = 0 ∨ (errF N f = 1 ∧ ∀ c v M', stW N M' f c v = M') := by
    cases hf : okF N f
    · exact .inr ⟨by simp [errF, hf], fun c v M' => by simp [stW, okW, hf]⟩
    · exact .inl (by simp [errF, hf])
  have HC : Hid (∀ wc, Calls Tryz.prog 158 #[.agg #[.int .i64 k, .int .i64 r, .int .i64 t, .int .i64 l, .int .i64 e, .int .i64 a]] wc fun x w' => x = .returned (.tuple #[.int .u64 (putW k r t l e a), .int .u64 (putA k r t l e a), .int .i64 0]) ∧ Below wc.heap.size wc w') := fun wc => by
    have := Pcap.rput_any k r t l e a wc
    rwa [hc] at this
  generalize putW k r t l e a = x at HC ⊢
  generalize putA k r t l e a = y at HC ⊢
  clear hR hc hr
  have t1 : True := trivial
  have HL : Hid (base ≤ w.heap.size) := hle
  clear hle
  rcases hz with hz | ⟨hz, hM⟩
  · rw [hz] at e1 e2 ⊢
    clear hz
    go_enter Tryz.func66, Tryz.ntmps66
    go_upto_region 3 with fail
    generalize w.alloc _ = v1 at HI ⊢
    have x0 := HI.out.box.c0
    have x1 := HI.out.box.c1
    have x2 := HI.out.box.c2
    have x3 := HI.out.box.c3
    have x4 := HI.out.box.c4
    have x5 := HI.out.box.c5
    go_wp2_with (first
      | (go_at_call 158; refine (HC.out _).mono ?_; rintro r2 w2 ⟨rfl, hb2⟩; have H2 : Hid (Rf w w2 base q N M k r t l e a) := HI.out.on hb2; clear hb2 x0 x1 x2 x3 x4 x5 HI)
      | (go_at_call 159; clear t1; refine (rstore_any base q N f (4 + 2 * (n : Int)) x M _ hN1 hN H2.out.ref).mono ?_; rintro r3 w3 ⟨rfl, hR3, hB3⟩; rw [e1]; have H3 : Hid (RefIs w3 base q N (stW N M f (4 + 2 * (n : Int)) x) ∧ Below base w w3) := ⟨hR3, (H2.out.below.mono HL.out).trans hB3⟩; clear hR3 hB3 e1)
      | (go_at_call 159; refine (rstore_any base q N f (4 + 2 * (n : Int) + 1) y _ _ hN1 hN H3.out.1).mono ?_; rintro r4 w4 ⟨rfl, hR4, hB4⟩; rw [e2]; have H4 : Hid (RefIs w4 base q N (stW N (stW N M f (4 + 2 * (n : Int)) x) f (4 + 2 * (n : Int) + 1) y) ∧ Below base w w4) := ⟨hR4, H3.out.2.trans hB4⟩; clear hR4 hB4)
      | fail)
    go_ret
    exact ⟨rfl, H4.out⟩
  · rw [hM, hM, hz]
    rw [hz] at e1
    clear hz e2
    go_enter Tryz.func66, Tryz.ntmps66
    go_upto_region 3 with fail
    generalize w.alloc _ = v1 at HI ⊢
    have x0 := HI.out.box.c0
    have x1 := HI.out.box.c1
    have x2 := HI.out.box.c2
    have x3 := HI.out.box.c3
    have x4 := HI.out.box.c4
    have x5 := HI.out.box.c5
    go_wp2_with (first
      | (go_at_call 158; refine (HC.out _).mono ?_; rintro r2 w2 ⟨rfl, hb2⟩; have H2 : Hid (Rf w w2 base q N M k r t l e a) := HI.out.on hb2; clear hb2 x0 x1 x2 x3 x4 x5 HI)
      | (go_at_call 159; clear t1; refine (rstore_any base q N f (4 + 2 * (n : Int)) x M _ hN1 hN H2.out.ref).mono ?_; rintro r3 w3 ⟨rfl, hR3, hB3⟩; rw [e1]; rw [hM] at hR3; have H3 : Hid (RefIs w3 base q N M ∧ Below base w w3) := ⟨hR3, (H2.out.below.mono HL.out).trans hB3⟩; clear hR3 hB3 e1)
      | fail)
    go_ret
    exact ⟨rfl, H3.out⟩
/-- The document's Put, for every argument. -/
theorem rsput_any (base q N : Nat) (f i k r t l e a : Int) (M : Nat → Nat → Int) (w : World) (hN1 : 1 ≤ N) (hN : N ≤ 64) (hR : RefIs w base q N M) :
    Calls Tryz.prog 66 #[.pointer (some ⟨q, 0, none⟩), .int .i64 f, .int .i64 i, .agg #[.int .i64 k, .int .i64 r, .int .i64 t, .int .i64 l, .int .i64 e, .int .i64 a]] w fun x w' => x = .returned (.int .i64 (pE N f i k r t l e a)) ∧ RefIs w' base q N (pM N M f i k r t l e a) ∧ Below base w w' := by
  by_cases h : okS i = true ∧ Rt k r t l e a
  · obtain ⟨hi, hr⟩ := h
    obtain ⟨n, rfl, hn⟩ := okS_split hi
    have e1 : pE N f n k r t l e a = errF N f := by simp [pE, hi, rtB_yes hr, errF]
    have e2 : pM N M f n k r t l e a = stW N (stW N M f (4 + 2 * (n : Int)) (putW k r t l e a)) f (4 + 2 * (n : Int) + 1) (putA k r t l e a) := by
      simp only [pM, hi, rtB_yes hr, Bool.and_self, if_true]
    rw [e1, e2]
    exact rsput_ok base q N n f k r t l e a M w hN1 hN hR hn hr
  · have hb : okS i = false ∨ ¬ Rt k r t l e a := by
      cases hi : okS i
      · exact .inl rfl
      · exact .inr fun hr => h ⟨hi, hr⟩
    have hz : (okS i && rtB k r t l e a) = false := by
      rcases hb with hb | hb
      · simp [hb]
      · simp [rtB_no hb]
    have e1 : pE N f i k r t l e a = 1 := by simp [pE, hz]
    have e2 : pM N M f i k r t l e a = M := by simp [pM, hz]
    rw [e1, e2]
    exact (rsput_bad base q N f i k r t l e a M w hR hb).mono fun x w' ⟨h1, h2⟩ => ⟨h1, hR.grown h2, h2.mono (RefIs_le hR)⟩

/-! ### Get -/
set_option maxRecDepth 100000 in
set_option maxHeartbeats 1000000 in
theorem rsget_bad (base q N : Nat) (f i : Int) (M : Nat → Nat → Int) (w : World) (hN1 : 1 ≤ N) (hN : N ≤ 64) (hR : RefIs w base q N M) (hb : okS i = false ∨ okF N f = false) :
    Calls Tryz.prog 64 #[.pointer (some ⟨q, 0, none⟩), .int .i64 f, .int .i64 i] w fun x w' => x = .returned (.tuple #[.agg #[.int .i64 0, .int .i64 0, .int .i64 0, .int .i64 0, .int .i64 0, .int .i64 0], .int .i64 1]) ∧ Below w.heap.size w w' := by
  have HI : Hid (Rf w (w.alloc (.cells #[.int .i64 0, .int .i64 0, .int .i64 0, .int .i64 0, .int .i64 0, .int .i64 0] 55)) base q N M 0 0 0 0 0 0) := rf_new hR 0 0 0 0 0 0 55
  clear hR
  cases hi : okS i
  · clear hb
    have h12 : i < 0 ∨ ((0 : Int) ≤ i ∧ 16 ≤ i) := by have := okS_no hi; omega
    clear hi
    rcases h12 with h1 | ⟨h0, h1⟩
    all_goals
      try (have h2 : ¬ i < 0 := by omega)
      go_enter Tryz.func64, Tryz.ntmps64
      go_upto_region 2 with fail
      generalize w.alloc _ = v1 at HI ⊢
      have x0 := HI.out.box.c0
      have x1 := HI.out.box.c1
      have x2 := HI.out.box.c2
      have x3 := HI.out.box.c3
      have x4 := HI.out.box.c4
      have x5 := HI.out.box.c5
      have z0 := HI.out.box.fz 0
      have z1 := HI.out.box.fz 1
      have z2 := HI.out.box.fz 2
      have z3 := HI.out.box.fz 3
      have z4 := HI.out.box.fz 4
      have z5 := HI.out.box.fz 5
      go_wp2
      refine bodyPost_ret (v := .tuple #[.agg #[.int .i64 0, .int .i64 0, .int .i64 0, .int .i64 0, .int .i64 0, .int .i64 0], .int .i64 1]) (by simp [results, Tryz.results64, go_sem, x0, x1, x2, x3, x4, x5]) rfl ⟨rfl, ?_⟩
      exact bst (bst (bst (bst (bst (bst HI.out.below (Nat.le_refl _) _ _) (Nat.le_refl _) _ _) (Nat.le_refl _) _ _) (Nat.le_refl _) _ _) (Nat.le_refl _) _ _) (Nat.le_refl _) _ _
  · have hf : okF N f = false := by rcases hb with h | h; · rw [hi] at h; cases h
                                    · exact h
    obtain ⟨n, rfl, hn⟩ := okS_split hi
    have h1 : ¬ (n : Int) < 0 := by omega
    have h2 : ¬ 16 ≤ (n : Int) := by omega
    have h2' : ¬ 16 ≤ n := by omega
    have l0 : ldM N M f (4 + 2 * (n : Int)) = 0 := by simp [ldM, okW, hf]
    have e0 : errW N f (4 + 2 * (n : Int)) = 1 := by simp [errW, okW, hf]
    clear hb hi hf
    go_enter Tryz.func64, Tryz.ntmps64
    go_upto_region 5 with (first
      | (go_at_call 156; refine (rload_any base q N f (4 + 2 * (n : Int)) M _ hN1 hN HI.out.ref).mono ?_; rintro e1 w1 ⟨rfl, hw1⟩; subst w1; rw [l0, e0])
      | fail)
    generalize w.alloc _ = v1 at HI ⊢
    have x0 := HI.out.box.c0
    have x1 := HI.out.box.c1
    have x2 := HI.out.box.c2
    have x3 := HI.out.box.c3
    have x4 := HI.out.box.c4
    have x5 := HI.out.box.c5
    have z0 := HI.out.box.fz 0
    have z1 := HI.out.box.fz 1
    have z2 := HI.out.box.fz 2
    have z3 := HI.out.box.fz 3
    have z4 := HI.out.box.fz 4
    have z5 := HI.out.box.fz 5
    go_wp2
    refine bodyPost_ret (v := .tuple #[.agg #[.int .i64 0, .int .i64 0, .int .i64 0, .int .i64 0, .int .i64 0, .int .i64 0], .int .i64 1]) (by simp [results, Tryz.results64, go_sem, x0, x1, x2, x3, x4, x5]) rfl ⟨rfl, ?_⟩
    exact bst (bst (bst (bst (bst (bst HI.out.below (Nat.le_refl _) _ _) (Nat.le_refl _) _ _) (Nat.le_refl _) _ _) (Nat.le_refl _) _ _) (Nat.le_refl _) _ _) (Nat.le_refl _) _ _
set_option maxRecDepth 100000 in
set_option maxHeartbeats 1000000 in
theorem rsget_ok (base q N n : Nat) (f : Int) (M : Nat → Nat → Int) (w : World) (hN1 : 1 ≤ N) (hN : N ≤ 64) (hR : RefIs w base q N M) (hF : Fit M) (hn : n < 16) (hf : okF N f = true) :
    Calls Tryz.prog 64 #[.pointer (some ⟨q, 0, none⟩), .int .i64 f, .int .i64 n] w fun x w' => x = .returned (.tuple #[.agg #[.int .i64 (getC (w1 M f n) (w2 M f n) 0), .int .i64 (getC (w1 M f n) (w2 M f n) 1), .int .i64 (getC (w1 M f n) (w2 M f n) 2), .int .i64 (getC (w1 M f n) (w2 M f n) 3), .int .i64 (getC (w1 M f n) (w2 M f n) 4), .int .i64 (getC (w1 M f n) (w2 M f n) 5)], .int .i64 (getE (w1 M f n) (w2 M f n))]) ∧ Below w.heap.size w w' := by
  have HI : Hid (Rf w (w.alloc (.cells #[.int .i64 0, .int .i64 0, .int .i64 0, .int .i64 0, .int .i64 0, .int .i64 0] 55)) base q N M 0 0 0 0 0 0) := rf_new hR 0 0 0 0 0 0 55
  have o1 : okW N f (4 + 2 * (n : Int)) = true := by simp [okW, hf]; omega
  have o2 : okW N f (4 + 2 * (n : Int) + 1) = true := by simp [okW, hf]; omega
  have l0 : ldM N M f (4 + 2 * (n : Int)) = w1 M f n := by
    unfold ldM w1
    rw [if_pos o1, show (4 + 2 * (n : Int)).toNat = 4 + 2 * (n : Int).toNat by omega]
  have l1 : ldM N M f (4 + 2 * (n : Int) + 1) = w2 M f n := by
    unfold ldM w2
    rw [if_pos o2, show (4 + 2 * (n : Int) + 1).toNat = 4 + 2 * (n : Int).toNat + 1 by omega]
  have e0 : errW N f (4 + 2 * (n : Int)) = 0 := by simp [errW, o1]
  have e1 : errW N f (4 + 2 * (n : Int) + 1) = 0 := by simp [errW, o2]
  have h1 : ¬ (n : Int) < 0 := by omega
  have h2 : ¬ 16 ≤ (n : Int) := by omega
  have h2' : ¬ 16 ≤ n := by omega
  have hx : 0 ≤ w1 M f n ∧ w1 M f n ≤ 18446744073709551615 := hF _ _
  have hy : 0 ≤ w2 M f n ∧ w2 M f n ≤ 18446744073709551615 := hF _ _
  generalize w1 M f n = x at l0 hx ⊢
  generalize w2 M f n = y at l1 hy ⊢
  have HC : Hid (∀ wc, Calls Tryz.prog 157 #[.int .u64 x, .int .u64 y] wc fun v w' => v = .returned (.tuple #[.agg #[.int .i64 (getC x y 0), .int .i64 (getC x y 1), .int .i64 (getC x y 2), .int .i64 (getC x y 3), .int .i64 (getC x y 4), .int .i64 (getC x y 5)], .int .i64 (getE x y)]) ∧ Below wc.heap.size wc w') := fun wc => Pcap.rget_any x y wc hx hy
  generalize getC x y 0 = C0 at HC ⊢
  generalize getC x y 1 = C1 at HC ⊢
  generalize getC x y 2 = C2 at HC ⊢
  generalize getC x y 3 = C3 at HC ⊢
  generalize getC x y 4 = C4 at HC ⊢
  generalize getC x y 5 = C5 at HC ⊢
  generalize getE x y = E at HC ⊢
  clear hR o1 o2 hx hy hf
  have t1 : True := trivial
  go_enter Tryz.func64, Tryz.ntmps64
  go_upto_region 3 with fail
  generalize w.alloc _ = v1 at HI ⊢
  go_wp2_with (first
    | (go_at_call 156; clear t1; refine (rload_any base q N f (4 + 2 * (n : Int)) M _ hN1 hN HI.out.ref).mono ?_; rintro r1 w1 ⟨rfl, hw1⟩; subst w1; rw [l0, e0])
    | (go_at_call 156; refine (rload_any base q N f (4 + 2 * (n : Int) + 1) M _ hN1 hN HI.out.ref).mono ?_; rintro r1 w1 ⟨rfl, hw1⟩; subst w1; rw [l1, e1])
    | (go_at_call 157; refine (HC.out _).mono ?_; rintro r2 w3 ⟨rfl, hb⟩; have H3 : Hid (Below w.heap.size w w3) := HI.out.below.trans (hb.mono HI.out.below.size); have X := HI.out.box.on hb; clear hb; have x0 := X.c0; have x1 := X.c1; have x2 := X.c2; have x3 := X.c3; have x4 := X.c4; have x5 := X.c5; have z0 := X.fz 0; have z1 := X.fz 1; have z2 := X.fz 2; have z3 := X.fz 3; have z4 := X.fz 4; have z5 := X.fz 5; clear X)
    | fail)
  refine bodyPost_ret (v := .tuple #[.agg #[.int .i64 C0, .int .i64 C1, .int .i64 C2, .int .i64 C3, .int .i64 C4, .int .i64 C5], .int .i64 E]) (by simp [results, Tryz.results64, go_sem, x0, x1, x2, x3, x4, x5]) rfl ⟨rfl, ?_⟩
  exact bst (bst (bst (bst (bst (bst H3.out (Nat.le_refl _) _ _) (Nat.le_refl _) _ _) (Nat.le_refl _) _ _) (Nat.le_refl _) _ _) (Nat.le_refl _) _ _) (Nat.le_refl _) _ _
/-- The document's Get, for every argument. -/
theorem rsget_any (base q N : Nat) (f i : Int) (M : Nat → Nat → Int) (w : World) (hN1 : 1 ≤ N) (hN : N ≤ 64) (hR : RefIs w base q N M) (hF : Fit M) :
    Calls Tryz.prog 64 #[.pointer (some ⟨q, 0, none⟩), .int .i64 f, .int .i64 i] w fun x w' => x = .returned (.tuple #[.agg #[.int .i64 (sC N M f i 0), .int .i64 (sC N M f i 1), .int .i64 (sC N M f i 2), .int .i64 (sC N M f i 3), .int .i64 (sC N M f i 4), .int .i64 (sC N M f i 5)], .int .i64 (sE N M f i)]) ∧ Below w.heap.size w w' := by
  cases hi : okS i
  · simp only [sC, sE, hi, Bool.false_and, Bool.false_eq_true, if_false]
    exact rsget_bad base q N f i M w hN1 hN hR (.inl hi)
  · cases hf : okF N f
    · simp only [sC, sE, hf, Bool.and_false, Bool.false_eq_true, if_false]
      exact rsget_bad base q N f i M w hN1 hN hR (.inr hf)
    · simp only [sC, sE, hi, hf, Bool.and_self, if_true]
      obtain ⟨n, rfl, hn⟩ := okS_split hi
      exact rsget_ok base q N n f M w hN1 hN hR hF hn hf
end Go.Proofs.YtggggfhgfnbjnaaGreatDoor.Pslot

/- What the document's All, Used and First of layer 11 answer, over its own memory. -/
namespace Go.Proofs.YtggggfhgfnbjnaaGreatDoor.Pslot
open Go.Proofs.YtggggfhgfnbjnaaGreatDoor.Pbase Go.Proofs.YtggggfhgfnbjnaaGreatDoor.Pcap Go.Proofs.YtggggfhgfnbjnaaGreatDoor.Pfield Go.Proofs.YtggggfhgfnbjnaaGreatDoor.Pmem
open Go.RowKit M
set_option linter.unusedVariables false

theorem own_ge6 {w : World} {base : Nat} {e : TypeId} {v : Value} {n : Nat} {xs : List Value} (h : w.ownsRow base e 6 v n xs) : ∀ k, v.ownBlock = some k → base ≤ k := fun k hk => (h.lt k hk).1
/-- The document's memory, and the list that grows. -/
structure Ra (w0 w : World) (base q N : Nat) (M : Nat → Nat → Int) (f : Int) (v : Value) (k : Nat) : Prop where
  ref : RefIs w base q N M
  below : Below w0.heap.size w0 w
  row : w.ownsRow w0.heap.size 55 6 v k (capsOf N M f (upto 16 k))
theorem Ra.on {w0 w w' : World} {base q N : Nat} {M : Nat → Nat → Int} {f : Int} {v : Value} {k : Nat} (h : Ra w0 w base q N M f v k) (hB : Below w.heap.size w w') : Ra w0 w' base q N M f v k :=
  ⟨h.ref.grown hB, h.below.trans (hB.mono h.below.size), h.row.kept (grown_none hB) (by cases hv : v.ownBlock <;> simp)⟩
/-- One capability more. -/
theorem Ra.step {w0 w w1 : World} {base q N : Nat} {M : Nat → Nat → Int} {f : Int} {v v' : Value} {k : Nat} {o : Obj} (h0 : RefIs w0 base q N M) (h : Ra w0 w base q N M f v k) (hk : k < 16) (hown : w1.ownsRow w0.heap.size 55 6 v' (k + 1) (capsOf N M f (upto 16 k) ++ cells6 N M f ⟨k, hk⟩)) (hg : (w.alloc o).grownBy w1 v.ownBlock) : Ra w0 w1 base q N M f v' (k + 1) := by
  have hB : Below w0.heap.size w0 w1 := (bal h.below o).grown hg (by have := h.below.size; simp; omega) (own_ge6 h.row)
  exact ⟨h0.grown hB, hB, by rw [upto_succ hk, capsOf_snoc]; exact hown⟩
end Go.Proofs.YtggggfhgfnbjnaaGreatDoor.Pslot
