/- Texts on finished packages, joined. -/
import Derived.Test.YthcgdgpflhdchaaGreatDoorBunHead
import Derived.Test.YthcgdgpflhdchaaGreatDoorBunPte
import Derived.Test.YthcgdgpflhdchaaGreatDoorBunRadix
import Derived.Test.YthcgdgpflhdchaaGreatDoorBunMem
import Derived.BigQuiet
import Derived.BigRegion
import Derived.Deep.RegionHeld3
import Derived.Deep.CutBlock
import Derived.Test.YthcgdgpflhdchaaGreatDoorBunField
import Derived.RangeFuncNested
import Derived.RangeFuncBound
import Derived.RangeFuncBox
import Derived.RangeFuncCalls
import Derived.RangeFuncLeaves
import Derived.RangeFuncWrites
import Derived.WalkKit
import Derived.OwnWalkIn
import Derived.TacticsInMore
import Derived.LoopNIn
import Derived.LoopIn
import Derived.Sort.QuietIn

/- Tables of mappings in the words of frames: plain words on what is made, read, walked to, mapped, unmapped, hung in, taken out and counted. No program is named here. -/
namespace Go.Proofs.YthcgdgpflhdchaaGreatDoor.Ppgtbl
open Go.Proofs.YthcgdgpflhdchaaGreatDoor.Pbase Go.Proofs.YthcgdgpflhdchaaGreatDoor.Pmem
open Go.RowKit
set_option linter.unusedVariables false

/-! ### what is answered, and what is done -/
/-- Is a frame a table's of mappings, of this level? Can it be a time? -/
def tbB (N : Nat) (M : Nat → Nat → Int) (f l : Int) : Bool := decide (Phead.ghE N M f = 0) && decide (Phead.ghK N M f = 2) && decide (Phead.ghL N M f = l)
def tiB (now : Int) : Bool := decide (1 ≤ now) && decide (now ≤ 1073741824)
/-- Is there such an entry; such a page? -/
def okI (i : Int) : Bool := decide (0 ≤ i) && decide (i < 32)
def okG (page : Int) : Bool := decide (0 ≤ page) && decide (page < 1024)
/-- An entry of a frame: its word, its error, its parts. -/
def enW (N : Nat) (M : Nat → Nat → Int) (f i : Int) : Int := ldM N M f (4 + i)
def enE (N : Nat) (M : Nat → Nat → Int) (f i : Int) : Int := if okW N f (4 + i) = true then Ppte.getE (enW N M f i) else 1
def enO (N : Nat) (M : Nat → Nat → Int) (f i : Int) : Bool := Ppte.getO (enW N M f i)
def enF (N : Nat) (M : Nat → Nat → Int) (f i : Int) : Int := Ppte.getF (enW N M f i)
def enR (N : Nat) (M : Nat → Nat → Int) (f i : Int) : Int := Ppte.getR (enW N M f i)
def enT (N : Nat) (M : Nat → Nat → Int) (f i : Int) : Int := Ppte.getT (enW N M f i)
def enQ (N : Nat) (M : Nat → Nat → Int) (f i floor : Int) : Bool := Ppte.quB (enO N M f i) (enF N M f i) (enR N M f i) (enT N M f i) floor
/-- An entry is set. -/
def seM (N : Nat) (M : Nat → Nat → Int) (f i : Int) (o : Bool) (g r t : Int) : Nat → Nat → Int := if Ppte.rtB o g r t = true then stW N M f (4 + i) (Ppte.wd o g r t) else M
def seE (N : Nat) (f i : Int) (o : Bool) (g r t : Int) : Int := if Ppte.rtB o g r t = true then errW N f (4 + i) else 1
/-- The leaf of a page: the error; its frame. -/
def lfE (N : Nat) (M : Nat → Nat → Int) (root page : Int) : Int :=
  if okG page = true then if tbB N M root 0 = true then if enE N M root (page / 32) = 0 ∧ enO N M root (page / 32) = true then if tbB N M (enF N M root (page / 32)) 1 = true then 0 else 4 else 9 else 4 else 1
def lfF (N : Nat) (M : Nat → Nat → Int) (root page : Int) : Int := if lfE N M root page = 0 then enF N M root (page / 32) else 0
/-- Raw. -/
def raE (N : Nat) (M : Nat → Nat → Int) (root page : Int) : Int := if lfE N M root page = 0 then enE N M (lfF N M root page) (page % 32) else lfE N M root page
def raO (N : Nat) (M : Nat → Nat → Int) (root page : Int) : Bool := decide (lfE N M root page = 0) && enO N M (lfF N M root page) (page % 32)
def raF (N : Nat) (M : Nat → Nat → Int) (root page : Int) : Int := if lfE N M root page = 0 then enF N M (lfF N M root page) (page % 32) else 0
def raR (N : Nat) (M : Nat → Nat → Int) (root page : Int) : Int := if lfE N M root page = 0 then enR N M (lfF N M root page) (page % 32) else 0
def raT (N : Nat) (M : Nat → Nat → Int) (root page : Int) : Int := if lfE N M root page = 0 then enT N M (lfF N M root page) (page % 32) else 0
/-- Walk. -/
def wkE (N : Nat) (M : Nat → Nat → Int) (root page : Int) : Int := if raE N M root page = 0 then if raO N M root page = true then 0 else 9 else raE N M root page
def wkO (N : Nat) (M : Nat → Nat → Int) (root page : Int) : Bool := decide (wkE N M root page = 0) && raO N M root page
def wkF (N : Nat) (M : Nat → Nat → Int) (root page : Int) : Int := if wkE N M root page = 0 then raF N M root page else 0
def wkR (N : Nat) (M : Nat → Nat → Int) (root page : Int) : Int := if wkE N M root page = 0 then raR N M root page else 0
def wkT (N : Nat) (M : Nat → Nat → Int) (root page : Int) : Int := if wkE N M root page = 0 then raT N M root page else 0
/-- Map. -/
def okA (f r : Int) : Bool := decide (0 ≤ f) && decide (f < 64) && decide (1 ≤ r) && decide (r ≤ 3)
def maE (N : Nat) (M : Nat → Nat → Int) (root page f r floor : Int) : Int :=
  if okA f r = true then if raE N M root page = 0 then if raO N M root page = true then 10 else if enQ N M (lfF N M root page) (page % 32) floor = true then 0 else 6 else raE N M root page else 1
def maM (N : Nat) (M : Nat → Nat → Int) (root page f r floor : Int) : Nat → Nat → Int := if maE N M root page f r floor = 0 then seM N M (lfF N M root page) (page % 32) true f r 0 else M
/-- Unmap. -/
def unE (N : Nat) (M : Nat → Nat → Int) (root page now : Int) : Int := if tiB now = true then wkE N M root page else 1
def unO (N : Nat) (M : Nat → Nat → Int) (root page now : Int) : Bool := tiB now && wkO N M root page
def unF (N : Nat) (M : Nat → Nat → Int) (root page now : Int) : Int := if tiB now = true then wkF N M root page else 0
def unR (N : Nat) (M : Nat → Nat → Int) (root page now : Int) : Int := if tiB now = true then wkR N M root page else 0
def unT (N : Nat) (M : Nat → Nat → Int) (root page now : Int) : Int := if tiB now = true then wkT N M root page else 0
def unM (N : Nat) (M : Nat → Nat → Int) (root page now : Int) : Nat → Nat → Int := if unE N M root page now = 0 then seM N M (lfF N M root page) (page % 32) false 0 0 now else M
/-- Cons. -/
def coE (N : Nat) (M : Nat → Nat → Int) (root high f floor : Int) : Int :=
  if okI high = true then if tbB N M root 0 = true ∧ tbB N M f 1 = true then if enE N M root high = 0 then if enO N M root high = true then 10 else if enQ N M root high floor = true then 0 else 6 else enE N M root high else 4 else 1
def coM (N : Nat) (M : Nat → Nat → Int) (root high f floor : Int) : Nat → Nat → Int := if coE N M root high f floor = 0 then seM N M root high true f 3 0 else M
/-- Decons. -/
def deE (N : Nat) (M : Nat → Nat → Int) (root high now : Int) : Int :=
  if okI high = true ∧ tiB now = true then if tbB N M root 0 = true then if enE N M root high = 0 then if enO N M root high = true then 0 else 3 else enE N M root high else 4 else 1
def deF (N : Nat) (M : Nat → Nat → Int) (root high now : Int) : Int := if deE N M root high now = 0 then enF N M root high else 0
def deM (N : Nat) (M : Nat → Nat → Int) (root high now : Int) : Nat → Nat → Int := if deE N M root high now = 0 then seM N M root high false 0 0 now else M
/-- Used: the first k entries can be read; how many of them are On. -/
def okTo (N : Nat) (M : Nat → Nat → Int) (f : Int) : Nat → Bool
  | 0 => true
  | k + 1 => okTo N M f k && decide (enE N M f k = 0)
def onTo (N : Nat) (M : Nat → Nat → Int) (f : Int) : Nat → Int
  | 0 => 0
  | k + 1 => onTo N M f k + if enO N M f k = true then 1 else 0
def usE (N : Nat) (M : Nat → Nat → Int) (f : Int) : Int := if Phead.isE N M f 2 = 0 then if okTo N M f 32 = true then 0 else 12 else 4
def usN (N : Nat) (M : Nat → Nat → Int) (f : Int) : Int := if usE N M f = 0 then onTo N M f 32 else 0

/-! ### small facts -/
theorem wd_zero : Ppte.wd false 0 0 0 = 0 := by decide +kernel
theorem okI_iff (i : Int) : okI i = true ↔ 0 ≤ i ∧ i < 32 := by simp [okI]
theorem okI_nat {m : Nat} (h : m < 32) : okI (m : Int) = true := (okI_iff _).2 (by omega)
theorem okG_iff (p : Int) : okG p = true ↔ 0 ≤ p ∧ p < 1024 := by simp [okG]
theorem tiB_iff (now : Int) : tiB now = true ↔ 1 ≤ now ∧ now ≤ 1073741824 := by simp [tiB]
theorem okA_iff (f r : Int) : okA f r = true ↔ 0 ≤ f ∧ f < 64 ∧ 1 ≤ r ∧ r ≤ 3 := by simp [okA, and_assoc]
theorem rt_on {f r : Int} (h : okA f r = true) : Ppte.Rt true f r 0 := by
  have := (okA_iff f r).1 h
  exact ⟨fun _ => by omega, fun e => by cases e⟩
theorem rt_off {now : Int} (h : tiB now = true) : Ppte.Rt false 0 0 now := by
  have := (tiB_iff now).1 h
  exact ⟨fun e => (by cases e), fun _ => by omega⟩
theorem rt_leaf {f : Int} (h0 : 0 ≤ f) (h1 : f < 64) : Ppte.Rt true f 3 0 := ⟨fun _ => by omega, fun e => by cases e⟩
theorem okW_en {N : Nat} {f i : Int} (hi : okI i = true) : okW N f (4 + i) = okF N f := by
  have := (okI_iff i).1 hi
  simp [okW]
  intro _
  omega
theorem en_ok {N : Nat} {M : Nat → Nat → Int} {f i : Int} (h : enE N M f i = 0) : okW N f (4 + i) = true := by
  unfold enE at h
  by_cases k : okW N f (4 + i) = true
  · exact k
  · rw [if_neg k] at h; cases h
theorem okF_of_en {N : Nat} {M : Nat → Nat → Int} {f i : Int} (h : enE N M f i = 0) : okF N f = true := by
  have := en_ok h
  simp only [okW, Bool.and_eq_true] at this
  exact this.1
theorem tb_okF {N : Nat} {M : Nat → Nat → Int} {f l : Int} (h : tbB N M f l = true) : okF N f = true := by
  simp only [tbB, Bool.and_eq_true, decide_eq_true_eq] at h
  have h1 := h.1.1
  unfold Phead.ghE at h1
  by_cases k : okF N f = true
  · exact k
  · rw [if_neg k] at h1; cases h1
theorem seM_yes {N : Nat} {M : Nat → Nat → Int} {f i : Int} {o : Bool} {g r t : Int} (h : Ppte.Rt o g r t) : seM N M f i o g r t = stW N M f (4 + i) (Ppte.wd o g r t) := by unfold seM; rw [if_pos (Ppte.rtB_yes h)]
theorem seE_yes {N : Nat} {f i : Int} {o : Bool} {g r t : Int} (h : Ppte.Rt o g r t) (hk : okW N f (4 + i) = true) : seE N f i o g r t = 0 := by
  unfold seE errW
  rw [if_pos (Ppte.rtB_yes h), if_pos hk]
theorem fit_se {M : Nat → Nat → Int} (h : Fit M) (N : Nat) (f i : Int) (o : Bool) (g r t : Int) : Fit (seM N M f i o g r t) := by
  unfold seM
  split
  · rename_i hr
    exact h.st N f _ _ (Ppte.wd_bd ((Ppte.rtB_iff o g r t).1 hr))
  · exact h
/-- The last error of each call is none: what is set can be set. -/
theorem ma_set {N : Nat} {M : Nat → Nat → Int} {root page f r floor : Int} (h : maE N M root page f r floor = 0) : Ppte.Rt true f r 0 ∧ raE N M root page = 0 ∧ lfE N M root page = 0 ∧ okW N (lfF N M root page) (4 + page % 32) = true ∧ seE N (lfF N M root page) (page % 32) true f r 0 = 0 := by
  unfold maE at h
  by_cases h1 : okA f r = true
  · rw [if_pos h1] at h
    by_cases h2 : raE N M root page = 0
    · have h3 : lfE N M root page = 0 := by
        unfold raE at h2
        by_cases k : lfE N M root page = 0
        · exact k
        · rw [if_neg k] at h2; exact h2
      have h4 : okW N (lfF N M root page) (4 + page % 32) = true := by
        unfold raE at h2
        rw [if_pos h3] at h2
        exact en_ok h2
      exact ⟨rt_on h1, h2, h3, h4, seE_yes (rt_on h1) h4⟩
    · rw [if_neg h2] at h; exact absurd h h2
  · rw [if_neg h1] at h; cases h
theorem un_set {N : Nat} {M : Nat → Nat → Int} {root page now : Int} (h : unE N M root page now = 0) : Ppte.Rt false 0 0 now ∧ wkE N M root page = 0 ∧ raE N M root page = 0 ∧ lfE N M root page = 0 ∧ okW N (lfF N M root page) (4 + page % 32) = true ∧ seE N (lfF N M root page) (page % 32) false 0 0 now = 0 := by
  unfold unE at h
  by_cases h1 : tiB now = true
  · rw [if_pos h1] at h
    have h2 : raE N M root page = 0 := by
      unfold wkE at h
      by_cases k : raE N M root page = 0
      · exact k
      · rw [if_neg k] at h; exact h
    have h3 : lfE N M root page = 0 := by
      unfold raE at h2
      by_cases k : lfE N M root page = 0
      · exact k
      · rw [if_neg k] at h2; exact h2
    have h4 : okW N (lfF N M root page) (4 + page % 32) = true := by
      unfold raE at h2
      rw [if_pos h3] at h2
      exact en_ok h2
    exact ⟨rt_off h1, h, h2, h3, h4, seE_yes (rt_off h1) h4⟩
  · rw [if_neg h1] at h; cases h
theorem co_set {N : Nat} {M : Nat → Nat → Int} {root high f floor : Int} (hN : N ≤ 64) (h : coE N M root high f floor = 0) : Ppte.Rt true f 3 0 ∧ enE N M root high = 0 ∧ seE N root high true f 3 0 = 0 := by
  unfold coE at h
  by_cases h1 : okI high = true
  · rw [if_pos h1] at h
    by_cases h2 : tbB N M root 0 = true ∧ tbB N M f 1 = true
    · rw [if_pos h2] at h
      have hf := okF_yes (tb_okF h2.2)
      have hr := rt_leaf hf.1 (show f < 64 by omega)
      by_cases h3 : enE N M root high = 0
      · exact ⟨hr, h3, seE_yes hr (en_ok h3)⟩
      · rw [if_neg h3] at h; exact absurd h h3
    · rw [if_neg h2] at h; cases h
  · rw [if_neg h1] at h; cases h
theorem de_set {N : Nat} {M : Nat → Nat → Int} {root high now : Int} (h : deE N M root high now = 0) : Ppte.Rt false 0 0 now ∧ enE N M root high = 0 ∧ seE N root high false 0 0 now = 0 := by
  unfold deE at h
  by_cases h1 : okI high = true ∧ tiB now = true
  · rw [if_pos h1] at h
    by_cases h2 : tbB N M root 0 = true
    · rw [if_pos h2] at h
      by_cases h3 : enE N M root high = 0
      · exact ⟨rt_off h1.2, h3, seE_yes (rt_off h1.2) (en_ok h3)⟩
      · rw [if_neg h3] at h; exact absurd h h3
    · rw [if_neg h2] at h; cases h
  · rw [if_neg h1] at h; cases h
/-- Beside an error there is nothing. -/
theorem en_none {N : Nat} {M : Nat → Nat → Int} {f i : Int} (h : enE N M f i ≠ 0) : enO N M f i = false ∧ enF N M f i = 0 ∧ enR N M f i = 0 ∧ enT N M f i = 0 := by
  have key : ¬ Ppte.Got (enW N M f i) ∨ enW N M f i = 0 := by
    by_cases k : okW N f (4 + i) = true
    · left
      intro hg
      unfold enE at h
      rw [if_pos k] at h
      exact h (Ppte.get_yes hg).2.2.2.2
    · right
      unfold enW ldM
      rw [if_neg k]
  rcases key with k | k
  · obtain ⟨e0, e1, e2, e3, _⟩ := Ppte.get_no k
    exact ⟨e0, e1, e2, e3⟩
  · unfold enO enF enR enT
    rw [k]
    have : Ppte.wd false 0 0 0 = 0 := wd_zero
    obtain ⟨e0, e1, e2, e3, _⟩ := Ppte.got_back (o := false) (f := 0) (r := 0) (t := 0) ⟨fun e => (by cases e), fun _ => by omega⟩
    rw [this] at e0 e1 e2 e3
    exact ⟨e0, e1, e2, e3⟩

/-! ### what a set entry leaves of the others, and of the heads -/
theorem stW_own {N : Nat} {M : Nat → Nat → Int} {f a v : Int} (h : okW N f a = true) : stW N M f a v f.toNat a.toNat = v := by
  unfold stW
  rw [if_pos h]
  simp
theorem stW_other {N : Nat} {M : Nat → Nat → Int} {f a v : Int} {g b : Nat} (h : (g : Int) ≠ f ∨ (b : Int) ≠ a) : stW N M f a v g b = M g b := by
  unfold stW
  split
  · rename_i k
    simp only [okW, okF, Bool.and_eq_true, decide_eq_true_eq] at k
    dsimp only
    rw [if_neg (by omega)]
  · rfl
theorem se_other {N : Nat} {M : Nat → Nat → Int} {f i : Int} {o : Bool} {g r t : Int} {a b : Nat} (h : (a : Int) ≠ f ∨ (b : Int) ≠ 4 + i) : seM N M f i o g r t a b = M a b := by
  unfold seM
  split
  · exact stW_other h
  · rfl
theorem gh_words {N : Nat} {M M' : Nat → Nat → Int} {g : Int} (h : ∀ j, j < 4 → M' g.toNat j = M g.toNat j) :
    Phead.ghK N M' g = Phead.ghK N M g ∧ Phead.ghL N M' g = Phead.ghL N M g ∧ Phead.ghZ N M' g = Phead.ghZ N M g ∧ Phead.ghT N M' g = Phead.ghT N M g ∧ Phead.ghE N M' g = Phead.ghE N M g := by
  unfold Phead.ghK Phead.ghL Phead.ghZ Phead.ghT Phead.ghE
  rw [h 0 (by omega), h 1 (by omega), h 2 (by omega), h 3 (by omega)]
  exact ⟨rfl, rfl, rfl, rfl, rfl⟩
theorem gh_se {N : Nat} {M : Nat → Nat → Int} {f i : Int} (hi : 0 ≤ i) (o : Bool) (a r t g : Int) :
    Phead.ghK N (seM N M f i o a r t) g = Phead.ghK N M g ∧ Phead.ghL N (seM N M f i o a r t) g = Phead.ghL N M g ∧ Phead.ghZ N (seM N M f i o a r t) g = Phead.ghZ N M g ∧ Phead.ghT N (seM N M f i o a r t) g = Phead.ghT N M g ∧ Phead.ghE N (seM N M f i o a r t) g = Phead.ghE N M g :=
  gh_words fun j hj => se_other (.inr (by omega))
theorem tb_se {N : Nat} {M : Nat → Nat → Int} {f i : Int} (hi : 0 ≤ i) (o : Bool) (a r t g l : Int) : tbB N (seM N M f i o a r t) g l = tbB N M g l := by
  obtain ⟨e1, e2, _, _, e5⟩ := gh_se (N := N) (M := M) (f := f) hi o a r t g
  unfold tbB
  rw [e1, e2, e5]
/-- Entries whose word is the same. -/
theorem en_word {N : Nat} {M M' : Nat → Nat → Int} {g i : Int} (h : enW N M' g i = enW N M g i) : enE N M' g i = enE N M g i ∧ enO N M' g i = enO N M g i ∧ enF N M' g i = enF N M g i ∧ enR N M' g i = enR N M g i ∧ enT N M' g i = enT N M g i := by
  unfold enE enO enF enR enT
  rw [h]
  exact ⟨rfl, rfl, rfl, rfl, rfl⟩
theorem enW_other {N : Nat} {M : Nat → Nat → Int} {f i : Int} {o : Bool} {a r t g m : Int} (h : g ≠ f ∨ m ≠ i) : enW N (seM N M f i o a r t) g m = enW N M g m := by
  unfold enW ldM
  split
  · rename_i k
    simp only [okW, okF, Bool.and_eq_true, decide_eq_true_eq] at k
    exact se_other (by omega)
  · rfl
theorem en_other {N : Nat} {M : Nat → Nat → Int} {f i : Int} {o : Bool} {a r t g m : Int} (h : g ≠ f ∨ m ≠ i) : enE N (seM N M f i o a r t) g m = enE N M g m ∧ enO N (seM N M f i o a r t) g m = enO N M g m ∧ enF N (seM N M f i o a r t) g m = enF N M g m ∧ enR N (seM N M f i o a r t) g m = enR N M g m ∧ enT N (seM N M f i o a r t) g m = enT N M g m :=
  en_word (enW_other h)
/-- What is set is read. -/
theorem en_own {N : Nat} {M : Nat → Nat → Int} {f i : Int} {o : Bool} {a r t : Int} (hr : Ppte.Rt o a r t) (h : okW N f (4 + i) = true) : enE N (seM N M f i o a r t) f i = 0 ∧ enO N (seM N M f i o a r t) f i = o ∧ enF N (seM N M f i o a r t) f i = a ∧ enR N (seM N M f i o a r t) f i = r ∧ enT N (seM N M f i o a r t) f i = t := by
  have hw : enW N (seM N M f i o a r t) f i = Ppte.wd o a r t := by
    unfold enW ldM
    rw [if_pos h, seM_yes hr, stW_own h]
  obtain ⟨e0, e1, e2, e3, e4⟩ := Ppte.got_back hr
  unfold enE enO enF enR enT
  rw [hw, if_pos h]
  exact ⟨e4, e0, e1, e2, e3⟩
theorem okTo_congr {N : Nat} {M M' : Nat → Nat → Int} {f : Int} (k : Nat) (h : ∀ i : Nat, i < k → enE N M' f i = enE N M f i) : okTo N M' f k = okTo N M f k := by
  induction k with
  | zero => rfl
  | succ k ih =>
    unfold okTo
    rw [ih fun i hi => h i (by omega), h k (by omega)]
theorem okTo_all {N : Nat} {M : Nat → Nat → Int} {f : Int} (k : Nat) (h : ∀ i : Nat, i < k → enE N M f i = 0) : okTo N M f k = true := by
  induction k with
  | zero => rfl
  | succ k ih =>
    unfold okTo
    rw [ih fun i hi => h i (by omega), h k (by omega)]
    rfl
theorem onTo_congr {N : Nat} {M M' : Nat → Nat → Int} {f : Int} (k : Nat) (h : ∀ i : Nat, i < k → enO N M' f i = enO N M f i) : onTo N M' f k = onTo N M f k := by
  induction k with
  | zero => rfl
  | succ k ih =>
    unfold onTo
    rw [ih fun i hi => h i (by omega), h k (by omega)]
theorem onTo_none {N : Nat} {M : Nat → Nat → Int} {f : Int} (k : Nat) (h : ∀ i : Nat, i < k → enO N M f i = false) : onTo N M f k = 0 := by
  induction k with
  | zero => rfl
  | succ k ih =>
    unfold onTo
    rw [ih fun i hi => h i (by omega), h k (by omega)]
    rfl
/-- One entry that was not On is set On. -/
theorem onTo_one {N : Nat} {M M' : Nat → Nat → Int} {f : Int} {m : Nat} (k : Nat) (hm : m < k) (h0 : enO N M f m = false) (h1 : enO N M' f m = true) (h : ∀ i : Nat, i < k → i ≠ m → enO N M' f i = enO N M f i) : onTo N M' f k = onTo N M f k + 1 := by
  induction k with
  | zero => omega
  | succ k ih =>
    unfold onTo
    by_cases e : m = k
    · subst e
      rw [onTo_congr m fun i hi => h i (by omega) (by omega), h0, h1]
      simp
    · rw [ih (by omega) fun i hi hn => h i (by omega) hn, h k (by omega) (by omega)]
      omega
theorem onTo_bd {N : Nat} {M : Nat → Nat → Int} {f : Int} (k : Nat) : 0 ≤ onTo N M f k ∧ onTo N M f k ≤ k := by
  induction k with
  | zero => simp [onTo]
  | succ k ih =>
    unfold onTo
    split <;> omega
theorem okTo_fail {N : Nat} {M : Nat → Nat → Int} {f : Int} {k n : Nat} (h : enE N M f k ≠ 0) (hk : k < n) : okTo N M f n = false := by
  induction n with
  | zero => omega
  | succ n ih =>
    unfold okTo
    by_cases e : k = n
    · subst e
      simp [h]
    · rw [ih (by omega)]
      rfl
theorem en_form {N : Nat} {M : Nat → Nat → Int} {f i : Int} (hk : okW N f (4 + i) = true) (h : enE N M f i ≠ 0) : enE N M f i = 12 := by
  unfold enE at h ⊢
  rw [if_pos hk] at h ⊢
  unfold Ppte.getE at h ⊢
  split at h
  · exact absurd rfl h
  · rw [if_neg (by assumption)]
end Go.Proofs.YthcgdgpflhdchaaGreatDoor.Ppgtbl

/- A root, frame 0, and one leaf, frame 1, of tables of mappings: made, hung in, mapped, unmapped. Plain words; no program is named here. -/
namespace Go.Proofs.YthcgdgpflhdchaaGreatDoor.Ppgtbl
open Go.Proofs.YthcgdgpflhdchaaGreatDoor.Pbase Go.Proofs.YthcgdgpflhdchaaGreatDoor.Pmem
open Go.RowKit
set_option linter.unusedVariables false

/-! ### a head's Make -/
theorem hmake_other {N : Nat} {M : Nat → Nat → Int} {f k l : Int} {z : Bool} {t : Int} {g j : Nat} (h : (g : Int) ≠ f) : Phead.mkM N M f k l z t g j = M g j := by
  unfold Phead.mkM
  split
  · rw [Phead.st4_other (.inl h)]
    unfold clM
    split
    · rename_i hf
      have := okF_yes hf
      dsimp only
      rw [if_neg (by omega)]
    · rfl
  · rfl
theorem gh_own {N : Nat} {M : Nat → Nat → Int} {f : Nat} (hf : f < N) {k l t : Int} {z : Bool} (h : Phead.Rt k l z t) (h0 : M f 0 = Phead.wd0 k l z) (h1 : M f 1 = t) (h2 : M f 2 = 0) (h3 : M f 3 = 0) :
    Phead.ghK N M f = k ∧ Phead.ghL N M f = l ∧ Phead.ghE N M f = 0 := by
  obtain ⟨e1, e2, e3, e4, e5⟩ := Phead.got_back h
  unfold Phead.ghK Phead.ghL Phead.ghE
  simp only [okF_nat hf, if_true, Int.toNat_natCast, h0, h1, h2, h3]
  exact ⟨e1, e2, e5⟩
/-- An empty entry. -/
def Bare (N : Nat) (M : Nat → Nat → Int) (f i : Int) : Prop := enE N M f i = 0 ∧ enO N M f i = false ∧ enF N M f i = 0 ∧ enR N M f i = 0 ∧ enT N M f i = 0
theorem bare_zero {N : Nat} {M : Nat → Nat → Int} {f i : Int} (hk : okW N f (4 + i) = true) (h : enW N M f i = 0) : Bare N M f i := by
  have e : Ppte.wd false 0 0 0 = 0 := wd_zero
  obtain ⟨e0, e1, e2, e3, e4⟩ := Ppte.got_back (o := false) (f := 0) (r := 0) (t := 0) ⟨fun e => (by cases e), fun _ => by omega⟩
  rw [e] at e0 e1 e2 e3 e4
  unfold Bare enE enO enF enR enT
  rw [h, if_pos hk]
  exact ⟨e4, e0, e1, e2, e3⟩
theorem bare_word {N : Nat} {M M' : Nat → Nat → Int} {g i : Int} (h : enW N M' g i = enW N M g i) (hb : Bare N M g i) : Bare N M' g i := by
  obtain ⟨e0, e1, e2, e3, e4⟩ := en_word h
  exact ⟨e0.trans hb.1, e1.trans hb.2.1, e2.trans hb.2.2.1, e3.trans hb.2.2.2.1, e4.trans hb.2.2.2.2⟩
theorem bare_quiet {N : Nat} {M : Nat → Nat → Int} {f i : Int} (h : Bare N M f i) (floor : Int) : enQ N M f i floor = true := by
  obtain ⟨_, e1, e2, e3, e4⟩ := h
  unfold enQ
  rw [e1, e2, e3, e4]
  rfl
theorem hmake_own {N : Nat} {M : Nat → Nat → Int} {f : Nat} (hf : f < N) {k l t : Int} {z : Bool} (h : Phead.Rt k l z t) :
    (Phead.ghK N (Phead.mkM N M f k l z t) f = k ∧ Phead.ghL N (Phead.mkM N M f k l z t) f = l ∧ Phead.ghE N (Phead.mkM N M f k l z t) f = 0) ∧ ∀ m : Nat, m < 32 → Bare N (Phead.mkM N M f k l z t) f m := by
  constructor
  · unfold Phead.mkM
    rw [if_pos (Phead.rtB_yes h)]
    exact gh_own hf h (by rw [Phead.st4_own hf]; rfl) (by rw [Phead.st4_own hf]; rfl) (by rw [Phead.st4_own hf]; rfl) (by rw [Phead.st4_own hf]; rfl)
  · intro m hm
    have hk : okW N (f : Int) (4 + (m : Int)) = true := by rw [okW_en (okI_nat hm)]; exact okF_nat hf
    refine bare_zero hk ?_
    unfold enW ldM
    rw [if_pos hk]
    unfold Phead.mkM
    rw [if_pos (Phead.rtB_yes h), Phead.st4_other (.inr (by omega))]
    unfold clM
    rw [if_pos (okF_nat hf)]
    try dsimp only
    rw [if_pos rfl]
theorem rt_head {l : Int} (h : l = 0 ∨ l = 1) : Phead.Rt 2 l false 0 := by
  unfold Phead.Rt
  exact ⟨by omega, by omega, by omega, by omega, fun _ => .inr rfl, (fun k => by cases k), by omega, by omega, fun _ => rfl⟩
theorem make_err {N f : Nat} (hf : f < N) {l : Int} (h : l = 0 ∨ l = 1) : Phead.errP N f 2 l false 0 = 0 := by
  unfold Phead.errP errF
  rw [if_pos (Phead.rtB_yes (rt_head h)), if_pos (okF_nat hf)]

/-! ### made and hung in -/
/-- The words behind the two Makes. -/
def twoM (N : Nat) : Nat → Nat → Int := Phead.mkM N (Phead.mkM N (fun _ _ => 0) 0 2 0 false 0) 1 2 1 false 0
theorem two_root {N : Nat} (hN : 2 ≤ N) : tbB N (twoM N) 0 0 = true ∧ ∀ m : Nat, m < 32 → Bare N (twoM N) 0 m := by
  obtain ⟨⟨a1, a2, a5⟩, a6⟩ := hmake_own (N := N) (M := fun _ _ => 0) (f := 0) (by omega) (rt_head (.inl rfl))
  have hw : ∀ j, twoM N (0 : Int).toNat j = Phead.mkM N (fun _ _ => 0) 0 2 0 false 0 (0 : Int).toNat j := fun j => hmake_other (by decide)
  obtain ⟨b1, b2, _, _, b5⟩ := gh_words (N := N) (g := 0) (fun j _ => hw j)
  refine ⟨?_, fun m hm => bare_word ?_ (a6 m hm)⟩
  · unfold tbB
    rw [b1, b2, b5]
    simp only [Int.natCast_zero] at a1 a2 a5
    rw [a1, a2, a5]
    rfl
  · unfold enW ldM
    split
    · exact hw _
    · rfl
theorem two_leaf {N : Nat} (hN : 2 ≤ N) : tbB N (twoM N) 1 1 = true ∧ Phead.isE N (twoM N) 1 2 = 0 ∧ ∀ m : Nat, m < 32 → Bare N (twoM N) 1 m := by
  obtain ⟨⟨a1, a2, a5⟩, a6⟩ := hmake_own (N := N) (M := Phead.mkM N (fun _ _ => 0) 0 2 0 false 0) (f := 1) (by omega) (rt_head (.inr rfl))
  rw [show ((1 : Nat) : Int) = 1 from rfl] at a1 a2 a5 a6
  refine ⟨?_, ?_, a6⟩
  · unfold tbB twoM
    rw [a1, a2, a5]
    rfl
  · unfold Phead.isE twoM
    rw [a1, a5]
    rfl
/-- A root, frame 0, and one leaf, frame 1, which hangs in it at high alone. -/
structure Tree (N : Nat) (M : Nat → Nat → Int) (high : Nat) : Prop where
  hN : 2 ≤ N
  hh : high < 32
  root : tbB N M 0 0 = true
  leaf : tbB N M 1 1 = true
  kind : Phead.isE N M 1 2 = 0
  link : enE N M 0 high = 0 ∧ enO N M 0 high = true ∧ enF N M 0 high = 1
  other : ∀ m : Nat, m < 32 → m ≠ high → enO N M 0 m = false
  read : ∀ m : Nat, m < 32 → enE N M 1 m = 0
theorem is_se {N : Nat} {M : Nat → Nat → Int} {f i : Int} (hi : 0 ≤ i) (o : Bool) (a r t g q : Int) : Phead.isE N (seM N M f i o a r t) g q = Phead.isE N M g q := by
  obtain ⟨e1, _, _, _, e5⟩ := gh_se (N := N) (M := M) (f := f) hi o a r t g
  unfold Phead.isE
  rw [e1, e5]
/-- Whatever right one is set in the leaf. -/
theorem Tree.set {N : Nat} {M : Nat → Nat → Int} {high : Nat} (h : Tree N M high) {m : Nat} (hm : m < 32) {o : Bool} {a r t : Int} (hr : Ppte.Rt o a r t) : Tree N (seM N M 1 m o a r t) high := by
  have hN := h.hN
  have hk : okW N 1 (4 + (m : Int)) = true := by rw [okW_en (okI_nat hm)]; exact okF_nat (f := 1) (by omega)
  have e0 : ∀ j : Int, _ := fun j => en_other (N := N) (M := M) (f := 1) (i := (m : Int)) (o := o) (a := a) (r := r) (t := t) (g := 0) (m := j) (.inl (by omega))
  refine ⟨h.hN, h.hh, (tb_se (by omega) _ _ _ _ _ _).trans h.root, (tb_se (by omega) _ _ _ _ _ _).trans h.leaf, (is_se (by omega) _ _ _ _ _ _).trans h.kind, ⟨(e0 _).1.trans h.link.1, (e0 _).2.1.trans h.link.2.1, (e0 _).2.2.1.trans h.link.2.2⟩, fun j hj hn => (e0 _).2.1.trans (h.other j hj hn), fun j hj => ?_⟩
  by_cases e : j = m
  · subst e
    exact (en_own hr hk).1
  · exact (en_other (N := N) (M := M) (f := 1) (i := (m : Int)) (o := o) (a := a) (r := r) (t := t) (g := 1) (m := (j : Int)) (.inr (by omega))).1.trans (h.read j hj)
theorem cons_zero {N high : Nat} (hN : 2 ≤ N) (hh : high < 32) (floor : Int) : coE N (twoM N) 0 high 1 floor = 0 := by
  obtain ⟨a1, a2⟩ := two_root hN
  obtain ⟨b1, _, b2⟩ := two_leaf hN
  unfold coE
  rw [if_pos (okI_nat hh), if_pos ⟨a1, b1⟩, if_pos (a2 high hh).1, if_neg (by rw [(a2 high hh).2.1]; decide), if_pos (bare_quiet (a2 high hh) floor)]
theorem tree_new {N high : Nat} (hN : 2 ≤ N) (hh : high < 32) (floor : Int) : Tree N (coM N (twoM N) 0 high 1 floor) high ∧ ∀ m : Nat, m < 32 → Bare N (coM N (twoM N) 0 high 1 floor) 1 m := by
  unfold coM
  rw [if_pos (cons_zero hN hh floor)]
  obtain ⟨a1, a2⟩ := two_root hN
  obtain ⟨b1, b3, b2⟩ := two_leaf hN
  have hr : Ppte.Rt true 1 3 0 := rt_leaf (by omega) (by omega)
  have hk : okW N 0 (4 + (high : Int)) = true := by rw [okW_en (okI_nat hh)]; exact okF_nat (f := 0) (by omega)
  obtain ⟨c0, c1, c2, _⟩ := en_own (M := twoM N) hr hk
  have hb : ∀ m : Nat, m < 32 → Bare N (seM N (twoM N) 0 high true 1 3 0) 1 m := fun m hm => bare_word (enW_other (.inl (by omega))) (b2 m hm)
  refine ⟨⟨hN, hh, (tb_se (by omega) _ _ _ _ _ _).trans a1, (tb_se (by omega) _ _ _ _ _ _).trans b1, (is_se (by omega) _ _ _ _ _ _).trans b3, ⟨c0, c1, c2⟩, fun m hm hn => ?_, fun m hm => (hb m hm).1⟩, hb⟩
  exact (en_other (.inr (by omega))).2.1.trans (a2 m hm).2.1

/-! ### pages of it -/
theorem Tree.at {N : Nat} {M : Nat → Nat → Int} {high : Nat} (h : Tree N M high) {page : Int} (h1 : okG page = true) (h2 : page / 32 = high) : lfE N M 0 page = 0 ∧ lfF N M 0 page = 1 := by
  have e0 : lfE N M 0 page = 0 := by
    unfold lfE
    rw [if_pos h1, if_pos h.root, h2, if_pos ⟨h.link.1, h.link.2.1⟩, h.link.2.2, if_pos h.leaf]
  exact ⟨e0, by unfold lfF; rw [if_pos e0, h2, h.link.2.2]⟩
theorem Tree.off {N : Nat} {M : Nat → Nat → Int} {high : Nat} (h : Tree N M high) {page : Int} (h2 : ¬ (okG page = true ∧ page / 32 = high)) : lfE N M 0 page ≠ 0 := by
  unfold lfE
  by_cases h1 : okG page = true
  · have hb := (okG_iff page).1 h1
    have hn : (page / 32).toNat ≠ high := fun e => h2 ⟨h1, by omega⟩
    have ho := h.other (page / 32).toNat (by omega) hn
    rw [show ((page / 32).toNat : Int) = page / 32 by omega] at ho
    rw [if_pos h1, if_pos h.root, if_neg (fun k => by rw [ho] at k; cases k.2)]
    decide
  · rw [if_neg h1]
    decide
/-- What is read there: the leaf's entry. -/
theorem Tree.raw {N : Nat} {M : Nat → Nat → Int} {high : Nat} (h : Tree N M high) {page : Int} (h1 : okG page = true) (h2 : page / 32 = high) :
    raE N M 0 page = 0 ∧ raO N M 0 page = enO N M 1 (page % 32) ∧ raF N M 0 page = enF N M 1 (page % 32) ∧ raR N M 0 page = enR N M 1 (page % 32) ∧ raT N M 0 page = enT N M 1 (page % 32) := by
  obtain ⟨e1, e2⟩ := h.at h1 h2
  have hr := h.read (page % 32).toNat (by omega)
  rw [show ((page % 32).toNat : Int) = page % 32 by omega] at hr
  refine ⟨by unfold raE; rw [if_pos e1, e2]; exact hr, ?_, ?_, ?_, ?_⟩
  · unfold raO; rw [e1, e2]; rfl
  · unfold raF; rw [if_pos e1, e2]
  · unfold raR; rw [if_pos e1, e2]
  · unfold raT; rw [if_pos e1, e2]
theorem Tree.walk {N : Nat} {M : Nat → Nat → Int} {high : Nat} (h : Tree N M high) {page : Int} (h1 : okG page = true) (h2 : page / 32 = high) :
    (enO N M 1 (page % 32) = true → wkE N M 0 page = 0 ∧ wkO N M 0 page = true ∧ wkF N M 0 page = enF N M 1 (page % 32) ∧ wkR N M 0 page = enR N M 1 (page % 32) ∧ wkT N M 0 page = enT N M 1 (page % 32)) ∧ (enO N M 1 (page % 32) = false → wkE N M 0 page = 9) := by
  obtain ⟨e1, e2, e3, e4, e5⟩ := h.raw h1 h2
  refine ⟨fun k => ?_, fun k => ?_⟩
  · have hw : wkE N M 0 page = 0 := by unfold wkE; rw [if_pos e1, e2, if_pos k]
    refine ⟨hw, ?_, ?_, ?_, ?_⟩
    · unfold wkO; rw [hw, e2, k]; rfl
    · unfold wkF; rw [if_pos hw, e3]
    · unfold wkR; rw [if_pos hw, e4]
    · unfold wkT; rw [if_pos hw, e5]
  · unfold wkE; rw [if_pos e1, e2, if_neg (by rw [k]; decide)]
theorem Tree.mapped {N : Nat} {M : Nat → Nat → Int} {high : Nat} (h : Tree N M high) {page f r : Int} (h1 : okG page = true) (h2 : page / 32 = high) (ha : okA f r = true) (floor : Int) :
    maE N M 0 page f r floor = if enO N M 1 (page % 32) = true then 10 else if enQ N M 1 (page % 32) floor = true then 0 else 6 := by
  obtain ⟨e1, e2, _⟩ := h.raw h1 h2
  unfold maE
  rw [if_pos ha, if_pos e1, e2, (h.at h1 h2).2]
/-- Where Map takes one. -/
theorem Tree.took {N : Nat} {M : Nat → Nat → Int} {high : Nat} (h : Tree N M high) {page f r floor : Int} (hp : maE N M 0 page f r floor = 0) :
    okG page = true ∧ page / 32 = high ∧ okA f r = true ∧ enO N M 1 (page % 32) = false ∧ maM N M 0 page f r floor = seM N M 1 (page % 32) true f r 0 := by
  have hs := ma_set hp
  have hl : okG page = true ∧ page / 32 = high := by
    by_cases k : okG page = true ∧ page / 32 = high
    · exact k
    · exact absurd hs.2.2.1 (h.off k)
  have ha : okA f r = true := by
    unfold maE at hp
    by_cases k : okA f r = true
    · exact k
    · rw [if_neg k] at hp; cases hp
  refine ⟨hl.1, hl.2, ha, ?_, ?_⟩
  · have := h.mapped hl.1 hl.2 ha floor
    rw [hp] at this
    cases ho : enO N M 1 (page % 32)
    · rfl
    · rw [ho, if_pos rfl] at this; cases this
  · unfold maM
    rw [if_pos hp, (h.at hl.1 hl.2).2]
theorem maM_no {N : Nat} {M : Nat → Nat → Int} {root page f r floor : Int} (h : maE N M root page f r floor ≠ 0) : maM N M root page f r floor = M := by unfold maM; rw [if_neg h]
theorem unM_no {N : Nat} {M : Nat → Nat → Int} {root page now : Int} (h : unE N M root page now ≠ 0) : unM N M root page now = M := by unfold unM; rw [if_neg h]
theorem Tree.unmap {N : Nat} {M : Nat → Nat → Int} {high : Nat} (h : Tree N M high) {page now : Int} (hu : unE N M 0 page now = 0) :
    okG page = true ∧ page / 32 = high ∧ tiB now = true ∧ enO N M 1 (page % 32) = true ∧ unM N M 0 page now = seM N M 1 (page % 32) false 0 0 now := by
  have hs := un_set hu
  have hl : okG page = true ∧ page / 32 = high := by
    by_cases k : okG page = true ∧ page / 32 = high
    · exact k
    · exact absurd hs.2.2.2.1 (h.off k)
  have ht : tiB now = true := by
    unfold unE at hu
    by_cases k : tiB now = true
    · exact k
    · rw [if_neg k] at hu; cases hu
  refine ⟨hl.1, hl.2, ht, ?_, ?_⟩
  · cases ho : enO N M 1 (page % 32)
    · have := (h.walk hl.1 hl.2).2 ho
      rw [this] at hs; cases hs.2.1
    · rfl
  · unfold unM
    rw [if_pos hu, (h.at hl.1 hl.2).2]
/-- The leaf's count. -/
theorem Tree.used {N : Nat} {M : Nat → Nat → Int} {high : Nat} (h : Tree N M high) : usE N M 1 = 0 ∧ usN N M 1 = onTo N M 1 32 := by
  have e : usE N M 1 = 0 := by
    unfold usE
    rw [if_pos h.kind, if_pos (okTo_all 32 fun i hi => h.read i hi)]
  exact ⟨e, by unfold usN; rw [if_pos e]⟩
end Go.Proofs.YthcgdgpflhdchaaGreatDoor.Ppgtbl

/- What PgtblQuiet and PgtblBeside ask, and awake, in plain words. No program is named here. -/
namespace Go.Proofs.YthcgdgpflhdchaaGreatDoor.Ppgtbl
open Go.Proofs.YthcgdgpflhdchaaGreatDoor.Pbase Go.Proofs.YthcgdgpflhdchaaGreatDoor.Pmem
open Go.RowKit
set_option linter.unusedVariables false

theorem low_nat {page : Int} : ∃ m : Nat, m < 32 ∧ page % 32 = (m : Int) := ⟨(page % 32).toNat, by omega, by omega⟩
theorem okW_leaf {N : Nat} (hN : 2 ≤ N) {m : Nat} (hm : m < 32) : okW N 1 (4 + (m : Int)) = true := by rw [okW_en (okI_nat hm)]; exact okF_nat (f := 1) (by omega)
/-- Mapped: walked to, counted, not mapped again. -/
theorem Tree.held {N : Nat} {M : Nat → Nat → Int} {high : Nat} (h : Tree N M high) {page f r floor : Int} (hp : maE N M 0 page f r floor = 0) {M' : Nat → Nat → Int} (hM : M' = maM N M 0 page f r floor) :
    Tree N M' high ∧ wkE N M' 0 page = 0 ∧ wkO N M' 0 page = true ∧ wkF N M' 0 page = f ∧ wkR N M' 0 page = r ∧ wkT N M' 0 page = 0 ∧ enO N M' 1 (page % 32) = true ∧ (∀ f' r' fl, okA f' r' = true → maE N M' 0 page f' r' fl = 10) ∧ onTo N M' 1 32 = onTo N M 1 32 + 1 ∧ (∀ j : Nat, j < 32 → (j : Int) ≠ page % 32 → enW N M' 1 j = enW N M 1 j) := by
  obtain ⟨h1, h2, ha, ho, hs⟩ := h.took hp
  rw [hs] at hM
  obtain ⟨m, hm, em⟩ := low_nat (page := page)
  have T' : Tree N M' high := by rw [hM, em]; exact h.set hm (rt_on ha)
  obtain ⟨c0, c1, c2, c3, c4⟩ := en_own (M := M) (rt_on ha) (okW_leaf h.hN hm)
  rw [← em, ← hM] at c0 c1 c2 c3 c4
  obtain ⟨w1, _⟩ := T'.walk h1 h2
  obtain ⟨w2, w3, w4, w5, w6⟩ := w1 c1
  refine ⟨T', w2, w3, w4.trans c2, w5.trans c3, w6.trans c4, c1, fun f' r' fl ha' => by rw [T'.mapped h1 h2 ha' fl, if_pos c1], ?_, fun j hj hn => by rw [hM]; exact enW_other (.inr hn)⟩
  refine onTo_one (m := m) 32 hm (by rw [← em]; exact ho) (by rw [← em]; exact c1) fun i hi hn => ?_
  rw [hM]
  exact (en_other (.inr (by omega))).2.1
/-- Unmapped in its time: not walked to; mapped again for a floor behind that alone. -/
theorem Tree.left {N : Nat} {M : Nat → Nat → Int} {high : Nat} (h : Tree N M high) {page now : Int} (hu : unE N M 0 page now = 0) {M' : Nat → Nat → Int} (hM : M' = unM N M 0 page now) :
    Tree N M' high ∧ wkE N M' 0 page = 9 ∧ (∀ f r fl, okA f r = true → maE N M' 0 page f r fl = if now < fl then 0 else 6) ∧ (∀ j : Nat, j < 32 → (j : Int) ≠ page % 32 → enW N M' 1 j = enW N M 1 j) := by
  obtain ⟨h1, h2, ht, ho, hs⟩ := h.unmap hu
  rw [hs] at hM
  obtain ⟨m, hm, em⟩ := low_nat (page := page)
  have T' : Tree N M' high := by rw [hM, em]; exact h.set hm (rt_off ht)
  obtain ⟨c0, c1, c2, c3, c4⟩ := en_own (M := M) (rt_off ht) (okW_leaf h.hN hm)
  rw [← em, ← hM] at c0 c1 c2 c3 c4
  refine ⟨T', (T'.walk h1 h2).2 c1, fun f r fl ha => ?_, fun j hj hn => by rw [hM]; exact enW_other (.inr hn)⟩
  rw [T'.mapped h1 h2 ha fl, if_neg (by rw [c1]; decide)]
  have hq : enQ N M' 1 (page % 32) fl = decide (now < fl) := by
    unfold enQ Ppte.quB
    rw [c1, c2, c3, c4, Ppte.rtB_yes (rt_off ht)]
    have := (tiB_iff now).1 ht
    rw [decide_eq_false (show ¬ now = 0 by omega)]
    rfl
  rw [hq]
  simp only [decide_eq_true_eq]
/-- What Unmap answers of one that was mapped. -/
theorem un_of {N : Nat} {M : Nat → Nat → Int} {root page : Int} (now : Int) (h : wkE N M root page = 0) : unE N M root page now = if tiB now = true then 0 else 1 := by
  unfold unE
  rw [h]
theorem un_parts {N : Nat} {M : Nat → Nat → Int} {root page now : Int} (h : tiB now = true) : unO N M root page now = wkO N M root page ∧ unF N M root page now = wkF N M root page ∧ unR N M root page now = wkR N M root page ∧ unT N M root page now = wkT N M root page := by
  unfold unO unF unR unT
  rw [h]
  exact ⟨by simp, rfl, rfl, rfl⟩
theorem bare_count {N : Nat} {M : Nat → Nat → Int} (h : ∀ m : Nat, m < 32 → Bare N M 1 m) : onTo N M 1 32 = 0 := onTo_none 32 fun i hi => (h i hi).2.1
/-- PgtblQuiet: mapped, walked to, counted, not mapped again; unmapped; mapped again. -/
theorem quiet_all {page f r now floor : Int} {M3 M4 : Nat → Nat → Int} (h3 : M3 = coM 2 (twoM 2) 0 0 1 0) (hp : maE 2 M3 0 page f r 0 = 0) (h4 : M4 = maM 2 M3 0 page f r 0) :
    wkE 2 M4 0 page = 0 ∧ wkO 2 M4 0 page = true ∧ wkF 2 M4 0 page = f ∧ wkR 2 M4 0 page = r ∧ wkT 2 M4 0 page = 0 ∧ usE 2 M4 1 = 0 ∧ usN 2 M4 1 = 1 ∧ maE 2 M4 0 page f r 1073741824 = 10 ∧
    (unE 2 M4 0 page now = if tiB now = true then 0 else 1) ∧ (tiB now = true → unO 2 M4 0 page now = true ∧ unF 2 M4 0 page now = f ∧ unR 2 M4 0 page now = r ∧ unT 2 M4 0 page now = 0 ∧ wkE 2 (unM 2 M4 0 page now) 0 page = 9 ∧ maE 2 (unM 2 M4 0 page now) 0 page f r floor = if now < floor then 0 else 6) := by
  obtain ⟨T3, z3⟩ := tree_new (N := 2) (high := 0) (by omega) (by omega) 0
  rw [show ((0 : Nat) : Int) = 0 from rfl, ← h3] at T3 z3
  have ha := (T3.took hp).2.2.1
  obtain ⟨T4, w1, w2, w3, w4, w5, w6, w7, w8, _⟩ := T3.held hp h4
  obtain ⟨u1, u2⟩ := T4.used
  refine ⟨w1, w2, w3, w4, w5, u1, by rw [u2, w8, bare_count z3]; rfl, w7 f r _ ha, un_of now w1, fun ht => ?_⟩
  obtain ⟨v1, v2, v3, v4⟩ := un_parts (N := 2) (M := M4) (root := 0) (page := page) ht
  have hu : unE 2 M4 0 page now = 0 := by rw [un_of now w1, if_pos ht]
  obtain ⟨_, x1, x2, _⟩ := T4.left hu rfl
  exact ⟨v1.trans w2, v2.trans w3, v3.trans w4, v4.trans w5, x1, x2 f r floor ha⟩
/-- PgtblBeside: two pages of one leaf. -/
theorem beside_all {i k f g r s now : Int} {M3 M4 M5 : Nat → Nat → Int} (hi : 64 ≤ i ∧ i < 96) (hk : 64 ≤ k ∧ k < 96) (hn : i ≠ k) (h3 : M3 = coM 2 (twoM 2) 0 2 1 0) (hp : maE 2 M3 0 i f r 0 = 0) (h4 : M4 = maM 2 M3 0 i f r 0) (h5 : M5 = maM 2 M4 0 k g s 0) :
    wkE 2 M5 0 i = 0 ∧ wkO 2 M5 0 i = true ∧ wkF 2 M5 0 i = f ∧ wkR 2 M5 0 i = r ∧ wkT 2 M5 0 i = 0 ∧ usE 2 M5 1 = 0 ∧ (usN 2 M5 1 = if maE 2 M4 0 k g s 0 = 0 then 2 else 1) ∧
    (unE 2 M5 0 k now = 0 → maE 2 M4 0 k g s 0 = 0 ∧ unF 2 M5 0 k now = g) ∧
    (wkE 2 (unM 2 M5 0 k now) 0 i = 0 ∧ wkO 2 (unM 2 M5 0 k now) 0 i = true ∧ wkF 2 (unM 2 M5 0 k now) 0 i = f ∧ wkR 2 (unM 2 M5 0 k now) 0 i = r ∧ wkT 2 (unM 2 M5 0 k now) 0 i = 0) := by
  obtain ⟨T3, z3⟩ := tree_new (N := 2) (high := 2) (by omega) (by omega) 0
  rw [show ((2 : Nat) : Int) = 2 from rfl, ← h3] at T3 z3
  obtain ⟨gi, gj, ha, _, hs⟩ := T3.took hp
  obtain ⟨T4, w1, w2, w3, w4, w5, w6, _, w8, w9⟩ := T3.held hp h4
  have gk : okG k = true := (okG_iff k).2 (by omega)
  have gl : k / 32 = ((2 : Nat) : Int) := by omega
  have hne : i % 32 ≠ k % 32 := by omega
  have hi32 : ((i % 32).toNat : Int) = i % 32 := by omega
  -- a tree whose leaf's entry of i is M4's
  have same : ∀ M : Nat → Nat → Int, Tree 2 M 2 → enW 2 M 1 (i % 32) = enW 2 M4 1 (i % 32) → wkE 2 M 0 i = 0 ∧ wkO 2 M 0 i = true ∧ wkF 2 M 0 i = f ∧ wkR 2 M 0 i = r ∧ wkT 2 M 0 i = 0 := by
    intro M T he
    obtain ⟨_, e1, e2, e3, e4⟩ := en_word he
    obtain ⟨y1, _⟩ := T.walk gi gj
    obtain ⟨x1, _⟩ := T4.walk gi gj
    obtain ⟨_, _, x3, x4, x5⟩ := x1 w6
    obtain ⟨y0, y2, y3, y4, y5⟩ := y1 (e1.trans w6)
    exact ⟨y0, y2, by rw [y3, e2, ← x3, w3], by rw [y4, e3, ← x4, w4], by rw [y5, e4, ← x5, w5]⟩
  have T5 : Tree 2 M5 2 ∧ enW 2 M5 1 (i % 32) = enW 2 M4 1 (i % 32) ∧ onTo 2 M5 1 32 = (if maE 2 M4 0 k g s 0 = 0 then 2 else 1) := by
    by_cases h0 : maE 2 M4 0 k g s 0 = 0
    · obtain ⟨T, _, _, _, _, _, _, _, c, d⟩ := T4.held h0 h5
      refine ⟨T, ?_, by rw [if_pos h0, c, w8, bare_count z3]; rfl⟩
      rw [← hi32]
      exact d _ (by omega) (by omega)
    · rw [h5, maM_no h0]
      exact ⟨T4, rfl, by rw [if_neg h0, w8, bare_count z3]; rfl⟩
  obtain ⟨T5, e5, c5⟩ := T5
  obtain ⟨s1, s2, s3, s4, s5⟩ := same M5 T5 e5
  obtain ⟨u1, u2⟩ := T5.used
  refine ⟨s1, s2, s3, s4, s5, u1, by rw [u2, c5], fun hu => ?_, ?_⟩
  · obtain ⟨_, _, ht, ho, _⟩ := T5.unmap hu
    by_cases h0 : maE 2 M4 0 k g s 0 = 0
    · obtain ⟨_, _, _, c3, _⟩ := T4.held h0 h5
      exact ⟨h0, (un_parts ht).2.1.trans c3⟩
    · -- nothing was mapped there
      exfalso
      rw [h5, maM_no h0] at ho
      have hk32 : ((k % 32).toNat : Int) = k % 32 := by omega
      have := w9 (k % 32).toNat (by omega) (by omega)
      rw [hk32] at this
      rw [(en_word this).2.1] at ho
      have hb := (z3 (k % 32).toNat (by omega)).2.1
      rw [hk32, ho] at hb
      cases hb
  · by_cases h0 : unE 2 M5 0 k now = 0
    · obtain ⟨T6, _, _, d⟩ := T5.left h0 rfl
      refine same _ T6 ?_
      rw [← e5, ← hi32]
      exact d _ (by omega) (by omega)
    · rw [unM_no h0]
      exact ⟨s1, s2, s3, s4, s5⟩
/-- awake: a page is mapped and walked to. -/
theorem awake_all {M3 M4 : Nat → Nat → Int} (h3 : M3 = coM 2 (twoM 2) 0 0 1 0) (h4 : M4 = maM 2 M3 0 3 7 1 0) : coE 2 (twoM 2) 0 0 1 0 = 0 ∧ maE 2 M3 0 3 7 1 0 = 0 ∧ wkE 2 M4 0 3 = 0 ∧ wkF 2 M4 0 3 = 7 := by
  obtain ⟨T3, z3⟩ := tree_new (N := 2) (high := 0) (by omega) (by omega) 0
  have hc := cons_zero (N := 2) (high := 0) (by omega) (by omega) 0
  rw [show ((0 : Nat) : Int) = 0 from rfl] at T3 z3 hc
  rw [← h3] at T3 z3
  have hb := z3 3 (by omega)
  have hp : maE 2 M3 0 3 7 1 0 = 0 := by
    rw [T3.mapped (page := 3) (f := 7) (r := 1) (by decide) (by decide) (by decide) 0]
    rw [show (3 : Int) % 32 = ((3 : Nat) : Int) from rfl, if_neg (by rw [hb.2.1]; decide), if_pos (bare_quiet hb 0)]
  obtain ⟨_, w1, _, w3, _⟩ := T3.held hp h4
  exact ⟨hc, hp, w1, w3⟩
end Go.Proofs.YthcgdgpflhdchaaGreatDoor.Ppgtbl

/- A memory and the three tables of widths; Make, isTable, isEntry, isTime and cut of package pgtbl, for every argument. -/
namespace Go.Proofs.YthcgdgpflhdchaaGreatDoor.Ppgtbl
open Go.Proofs.YthcgdgpflhdchaaGreatDoor.Pbase Go.Proofs.YthcgdgpflhdchaaGreatDoor.Pmem Go.Proofs.YthcgdgpflhdchaaGreatDoor.Pradix
open Go.RowKit
set_option linter.unusedVariables false

theorem hide {q : Prop} (h : q) : Hid q := h
/-! ### a memory and the three tables -/
theorem wp_ne {w : World} {p b N : Nat} {M : Nat → Nat → Int} (hM : MemIs w p b N M) (h : Wp w) : 1 ≠ b := by
  intro e
  obtain ⟨t, fr, hr⟩ := h.p
  rw [e, hM.row] at hr
  simp only [Option.some.injEq, Obj.cells.injEq] at hr
  have := congrArg Array.size hr.1
  rw [cellsM_size] at this
  simp at this
  omega
theorem wp_but {w w' : World} {b : Nat} (h : Wp w) (hB : But b w w') (hn : 1 ≠ b) : Wp w' :=
  ⟨Nat.lt_of_lt_of_le h.lp hB.size, by obtain ⟨t, fr, hr⟩ := h.p; exact ⟨t, fr, (hB.block 1 h.lp hn).trans hr⟩⟩
theorem pt_ne {w : World} {p b N : Nat} {M : Nat → Nat → Int} (hM : MemIs w p b N M) (h : Ppte.TabW w) : 2 ≠ b := by
  intro e
  obtain ⟨t, fr, hr⟩ := h.row
  rw [e, hM.row] at hr
  simp only [Option.some.injEq, Obj.cells.injEq] at hr
  have := congrArg Array.size hr.1
  rw [cellsM_size] at this
  simp at this
  omega
theorem pt_but {w w' : World} {b : Nat} (h : Ppte.TabW w) (hB : But b w w') (hn : 2 ≠ b) : Ppte.TabW w' :=
  ⟨Nat.lt_of_lt_of_le h.lt hB.size, by obtain ⟨t, fr, hr⟩ := h.row; exact ⟨t, fr, (hB.block 2 h.lt hn).trans hr⟩⟩
/-- The three tables. -/
structure Tb (w : World) : Prop where
  th : Phead.TabW w
  tp : Ppte.TabW w
  tr : Wp w
theorem Tb.on {w w' : World} (h : Tb w) (hB : Below w.heap.size w w') : Tb w' := ⟨h.th.on hB, h.tp.on hB, h.tr.on hB⟩
/-- A memory and the three tables. -/
structure Mx (w : World) (p b N : Nat) (M : Nat → Nat → Int) : Prop where
  mem : MemIs w p b N M
  tb : Tb w
  fit : Fit M
  n1 : 1 ≤ N
  n64 : N ≤ 64
theorem Mx.on {w w' : World} {p b N : Nat} {M : Nat → Nat → Int} (h : Mx w p b N M) (hB : Below w.heap.size w w') : Mx w' p b N M :=
  ⟨h.mem.grown hB, h.tb.on hB, h.fit, h.n1, h.n64⟩
theorem Mx.but {w w' : World} {p b N : Nat} {M M' : Nat → Nat → Int} (h : Mx w p b N M) (hM : MemIs w' p b N M') (hF : Fit M') (hB : But b w w') : Mx w' p b N M' :=
  ⟨hM, ⟨h.tb.th.but hB (Phead.tab_ne h.mem h.tb.th), pt_but h.tb.tp hB (pt_ne h.mem h.tb.tp), wp_but h.tb.tr hB (wp_ne h.mem h.tb.tr)⟩, hF, h.n1, h.n64⟩
theorem but_on {b : Nat} {a w w' : World} (h : But b a w) (hB : Below a.heap.size w w') : But b a w' :=
  ⟨hB.os.trans h.os, hB.tape.trans h.tape, hB.output.trans h.output, Nat.le_trans h.size hB.size, fun i hi hn => (hB.block i hi).trans (h.block i hi hn)⟩

/-! ### Make -/
set_option maxRecDepth 100000 in
theorem make_any (p b N : Nat) (f l : Int) (M : Nat → Nat → Int) (w : World) (h : Mx w p b N M) : Calls Tryz.prog 39 #[.pointer (some ⟨p, 0, none⟩), .int .i64 f, .int .i64 l] w fun x w' => x = .returned (.int .i64 (Phead.errP N f 2 l false 0)) ∧ Mx w' p b N (Phead.mkM N M f 2 l false 0) ∧ But b w w' := by
  have HM : Hid (Calls Tryz.prog 59 #[.pointer (some ⟨p, 0, none⟩), .int .i64 f, .agg #[.int .i64 2, .int .i64 l, .bool false, .int .i64 0]] w fun x w' => x = .returned (.int .i64 (Phead.errP N f 2 l false 0)) ∧ Mx w' p b N (Phead.mkM N M f 2 l false 0) ∧ But b w w') := by
    refine (Phead.hmake_any p b N f 2 l false 0 M w h.n1 h.n64 h.mem h.tb.th).mono ?_
    rintro x w' ⟨rfl, h1, h2⟩
    exact ⟨rfl, h.but h1 (Phead.fit_mk h.fit N f 2 l false 0) h2, h2⟩
  clear h
  go_enter Tryz.func39, Tryz.ntmps39
  go_wp2_with (first
    | (go_at_call 59; refine HM.out.mono ?_; rintro e1 w1 ⟨rfl, hb⟩; have H1 := hide hb; clear hb)
    | fail)
  go_ret
  exact ⟨rfl, H1.out⟩
/-! ### isEntry, isTime -/
set_option maxRecDepth 100000 in
theorem isEntry_any (i : Int) (w : World) : Calls Tryz.prog 60 #[.int .i64 i] w fun x w' => x = .returned (.bool (okI i)) ∧ w' = w := by
  obtain ⟨R, hR⟩ : ∃ R, okI i = R := ⟨_, rfl⟩
  rw [hR]
  have HR := hide hR
  clear hR
  have hk : i < 0 ∨ (¬ i < 0 ∧ i < 32) ∨ ¬ i < 0 ∧ ¬ i < 32 := by omega
  rcases hk with h0 | ⟨h0, h1⟩ | ⟨h0, h1⟩
  all_goals
    go_enter Tryz.func60, Tryz.ntmps60
    go_wp2
    go_ret
    refine ⟨?_, rfl⟩
    rw [← HR.out]
    simp [okI]
    try omega
/-! ### isTable -/
theorem rt_laid {w w1 : World} (hb : Below w.heap.size w w1) (k l : Int) (z : Bool) (t : Int) : Below w.heap.size w (w1.alloc (.cells #[.int .i64 k, .int .i64 l, .bool z, .int .i64 t] 125)) ∧ Phead.Box4 (w1.alloc (.cells #[.int .i64 k, .int .i64 l, .bool z, .int .i64 t] 125)) w1.heap.size k l z t :=
  ⟨bal hb _, Phead.box4_new w1 k l z t 125⟩
set_option maxRecDepth 100000 in
set_option maxHeartbeats 1000000 in
theorem isTable_any (p b N : Nat) (f l : Int) (M : Nat → Nat → Int) (w : World) (h : Mx w p b N M) : Calls Tryz.prog 61 #[.pointer (some ⟨p, 0, none⟩), .int .i64 f, .int .i64 l] w fun x w' => x = .returned (.bool (tbB N M f l)) ∧ Below w.heap.size w w' := by
  have HG := hide (Phead.hget_any p b N f M w h.n1 h.n64 h.mem h.tb.th h.fit)
  clear h
  unfold tbB
  generalize Phead.ghK N M f = K at HG ⊢
  generalize Phead.ghL N M f = L at HG ⊢
  generalize Phead.ghZ N M f = Z at HG ⊢
  generalize Phead.ghT N M f = T at HG ⊢
  generalize Phead.ghE N M f = E at HG ⊢
  obtain ⟨R, hR⟩ : ∃ R, (decide (E = 0) && decide (K = 2) && decide (L = l)) = R := ⟨_, rfl⟩
  rw [hR]
  have HR := hide hR
  clear hR
  have hcase : ((E == 0) = true ∧ (K == 2) = true ∧ (L == l) = true) ∨ ((E == 0) = true ∧ (K == 2) = true ∧ (L == l) = false) ∨ ((E == 0) = true ∧ (K == 2) = false) ∨ (E == 0) = false := by
    simp only [beq_eq_false_iff_ne, ne_eq, beq_iff_eq]
    omega
  rcases hcase with ⟨h1, h2, h3⟩ | ⟨h1, h2, h3⟩ | ⟨h1, h2⟩ | h1
  all_goals
    go_enter Tryz.func61, Tryz.ntmps61
    go_upto_region 2 with (first
      | (go_at_call 85; refine HG.out.mono ?_; rintro e1 w1 ⟨rfl, hb⟩; have H1 : Hid (Below w.heap.size w w1) := hb; clear hb)
      | fail)
    have HL := rt_laid H1.out K L Z T
    generalize w1.alloc _ = w2 at HL ⊢
    generalize w1.heap.size = D at HL ⊢
    have H2 := hide HL.1
    have x0 := HL.2.c0
    have x1 := HL.2.c1
    have x2 := HL.2.c2
    clear HL H1 HG
    first
      | (go_quiet (fail)
         go_wp2
         go_ret
         have hr := HR.out
         simp_all
         exact H2.out.trans (below_drew' _ _ _))
      | (go_wp2
         go_ret
         have hr := HR.out
         simp_all
         exact H2.out)
/-! ### cut -/
theorem page_parts {page : Int} (h : okG page = true) : pgE (page * 32) = 0 ∧ pgH (page * 32) = page / 32 ∧ pgL (page * 32) = page % 32 := by
  have := (okG_iff page).1 h
  obtain ⟨e1, e2, e3, _⟩ := pg_yes (a := page * 32) (by omega)
  exact ⟨e1, by rw [e2]; omega, by rw [e3]; omega⟩
def cuH (page : Int) : Int := if okG page = true then page / 32 else 0
def cuL (page : Int) : Int := if okG page = true then page % 32 else 0
def cuE (page : Int) : Int := if okG page = true then 0 else 1
set_option maxRecDepth 100000 in
theorem cut_any (page : Int) (w : World) (hT : Tb w) : Calls Tryz.prog 90 #[.int .i64 page] w fun x w' => x = .returned (.tuple #[.int .i64 (cuH page), .int .i64 (cuL page), .int .i64 (cuE page)]) ∧ Below w.heap.size w w' := by
  by_cases hg : okG page = true
  case neg =>
    have hk : page < 0 ∨ ¬ page < 0 ∧ 1024 ≤ page := by
      rw [okG_iff] at hg
      omega
    simp only [cuH, cuL, cuE, if_neg hg]
    clear hg hT
    rcases hk with h0 | ⟨h0, h1⟩
    all_goals
      go_enter Tryz.func90, Tryz.ntmps90
      go_wp2
      go_ret3
      exact ⟨rfl, Below.refl _ _⟩
  have hp := (okG_iff page).1 hg
  have h0 : ¬ page < 0 := by omega
  have h1 : ¬ 1024 ≤ page := by omega
  have hw : wrap64 (page * 32) = page * 32 := by unfold wrap64; omega
  simp only [cuH, cuL, cuE, if_pos hg]
  obtain ⟨e1, e2, e3⟩ := page_parts hg
  have HP := hide (page_wp (page * 32) w (by omega) hT.tr)
  rw [e1, e2, e3] at HP
  clear e1 e2 e3 hp hg hT
  go_enter Tryz.func90, Tryz.ntmps90
  go_wp2_with (first
    | (go_at_call 46; refine HP.out.mono ?_; rintro e1 w1 ⟨rfl, hb⟩; have H1 := hide hb; clear hb)
    | fail)
  go_ret3
  exact ⟨rfl, H1.out⟩
end Go.Proofs.YthcgdgpflhdchaaGreatDoor.Ppgtbl

/- Entries of tables of mappings: read, find, walk, put and fill of package pgtbl, for every argument. -/
namespace Go.Proofs.YthcgdgpflhdchaaGreatDoor.Ppgtbl
open Go.Proofs.YthcgdgpflhdchaaGreatDoor.Pbase Go.Proofs.YthcgdgpflhdchaaGreatDoor.Pmem Go.Proofs.YthcgdgpflhdchaaGreatDoor.Pradix
open Go.RowKit
set_option linter.unusedVariables false

/-! ### an entry in a block -/
structure Box7 (w : World) (B : Nat) (q : Option Addr) (f a : Int) (o : Bool) (g r t : Int) : Prop where
  lt : B < w.heap.size
  c0 : w.cell? ⟨B, 0, none⟩ = some (.pointer q)
  c1 : w.cell? ⟨B, 1, none⟩ = some (.int .i64 f)
  c2 : w.cell? ⟨B, 2, none⟩ = some (.int .i64 a)
  c3 : w.cell? ⟨B, 3, none⟩ = some (.bool o)
  c4 : w.cell? ⟨B, 4, none⟩ = some (.int .i64 g)
  c5 : w.cell? ⟨B, 5, none⟩ = some (.int .i64 r)
  c6 : w.cell? ⟨B, 6, none⟩ = some (.int .i64 t)
  fz : ∀ j, w.frozen? ⟨B, j, none⟩ = false
theorem Box7.on {w w' : World} {B : Nat} {q : Option Addr} {f a : Int} {o : Bool} {g r t : Int} (h : Box7 w B q f a o g r t) (hB : Below w.heap.size w w') : Box7 w' B q f a o g r t :=
  ⟨Nat.lt_of_lt_of_le h.lt hB.size, (hB.cell (p := ⟨B, 0, none⟩) h.lt).trans h.c0, (hB.cell (p := ⟨B, 1, none⟩) h.lt).trans h.c1, (hB.cell (p := ⟨B, 2, none⟩) h.lt).trans h.c2, (hB.cell (p := ⟨B, 3, none⟩) h.lt).trans h.c3, (hB.cell (p := ⟨B, 4, none⟩) h.lt).trans h.c4, (hB.cell (p := ⟨B, 5, none⟩) h.lt).trans h.c5, (hB.cell (p := ⟨B, 6, none⟩) h.lt).trans h.c6, fun j => (hB.frozen (p := ⟨B, j, none⟩) h.lt).trans (h.fz j)⟩
theorem Box7.but {w w' : World} {B q0 : Nat} {q : Option Addr} {f a : Int} {o : Bool} {g r t : Int} (h : Box7 w B q f a o g r t) (hB : But q0 w w') (hn : B ≠ q0) : Box7 w' B q f a o g r t :=
  ⟨Nat.lt_of_lt_of_le h.lt hB.size, (hB.cell h.lt hn).trans h.c0, (hB.cell h.lt hn).trans h.c1, (hB.cell h.lt hn).trans h.c2, (hB.cell h.lt hn).trans h.c3, (hB.cell h.lt hn).trans h.c4, (hB.cell h.lt hn).trans h.c5, (hB.cell h.lt hn).trans h.c6, fun j => (hB.frozen h.lt hn).trans (h.fz j)⟩
theorem box7_new (w : World) (q : Option Addr) (f a : Int) (o : Bool) (g r t : Int) (ty : TypeId) : Box7 (w.alloc (.cells #[.pointer q, .int .i64 f, .int .i64 a, .bool o, .int .i64 g, .int .i64 r, .int .i64 t] ty)) w.heap.size q f a o g r t := by
  have h := heap_alloc_new w (.cells #[.pointer q, .int .i64 f, .int .i64 a, .bool o, .int .i64 g, .int .i64 r, .int .i64 t] ty)
  refine ⟨by simp, ?_, ?_, ?_, ?_, ?_, ?_, ?_, fun j => frozen_of_row _ _ _ _ _ h⟩ <;> (rw [cell_of_row _ _ _ _ _ _ h]; rfl)
/-- The result's block, beside a memory and the tables. -/
structure Er (w0 w : World) (p b N : Nat) (M : Nat → Nat → Int) : Prop where
  mx : Mx w p b N M
  below : Below w0.heap.size w0 w
  res : Box7 w w0.heap.size none 0 0 false 0 0 0
theorem Er.on {w0 w w' : World} {p b N : Nat} {M : Nat → Nat → Int} (h : Er w0 w p b N M) (hB : Below w.heap.size w w') : Er w0 w' p b N M := ⟨h.mx.on hB, h.below.trans (hB.mono h.below.size), h.res.on hB⟩
theorem er_new {w : World} {p b N : Nat} {M : Nat → Nat → Int} (h : Mx w p b N M) : Er w (w.alloc (.cells #[.pointer none, .int .i64 0, .int .i64 0, .bool false, .int .i64 0, .int .i64 0, .int .i64 0] 128)) p b N M :=
  ⟨h.on (bal (Below.refl _ _) _), bal (Below.refl _ _) _, box7_new w none 0 0 false 0 0 0 128⟩
/-- An entry that was read, beside it. -/
structure Ep (w0 w : World) (p b N : Nat) (M : Nat → Nat → Int) (D : Nat) (q : Option Addr) (f a : Int) (o : Bool) (g r t : Int) : Prop where
  er : Er w0 w p b N M
  box : Box7 w D q f a o g r t
  ne : w0.heap.size < D
theorem Ep.on {w0 w w' : World} {p b N : Nat} {M : Nat → Nat → Int} {D : Nat} {q : Option Addr} {f a : Int} {o : Bool} {g r t : Int} (h : Ep w0 w p b N M D q f a o g r t) (hB : Below w.heap.size w w') : Ep w0 w' p b N M D q f a o g r t := ⟨h.er.on hB, h.box.on hB, h.ne⟩
theorem Er.more {w0 w : World} {p b N : Nat} {M : Nat → Nat → Int} (h : Er w0 w p b N M) (q : Option Addr) (f a : Int) (o : Bool) (g r t : Int) : Ep w0 (w.alloc (.cells #[.pointer q, .int .i64 f, .int .i64 a, .bool o, .int .i64 g, .int .i64 r, .int .i64 t] 128)) p b N M w.heap.size q f a o g r t :=
  ⟨h.on (bal (Below.refl _ _) _), box7_new w q f a o g r t 128, h.res.lt⟩
theorem res7 {w0 w : World} (h : Below w0.heap.size w0 w) (a b c d e f g : Value) : Below w0.heap.size w0 (((((((w.setCell ⟨w0.heap.size, 0, none⟩ a).setCell ⟨w0.heap.size, 1, none⟩ b).setCell ⟨w0.heap.size, 2, none⟩ c).setCell ⟨w0.heap.size, 3, none⟩ d).setCell ⟨w0.heap.size, 4, none⟩ e).setCell ⟨w0.heap.size, 5, none⟩ f).setCell ⟨w0.heap.size, 6, none⟩ g) :=
  bst (bst (bst (bst (bst (bst (bst h (Nat.le_refl _) _ _) (Nat.le_refl _) _ _) (Nat.le_refl _) _ _) (Nat.le_refl _) _ _) (Nat.le_refl _) _ _) (Nat.le_refl _) _ _) (Nat.le_refl _) _ _
theorem mid4 {w0 w : World} (h : Below w0.heap.size w0 w) {D : Nat} (hD : w0.heap.size < D) (a b c d : Value) : Below w0.heap.size w0 ((((w.setCell ⟨D, 3, none⟩ a).setCell ⟨D, 4, none⟩ b).setCell ⟨D, 5, none⟩ c).setCell ⟨D, 6, none⟩ d) :=
  bst (bst (bst (bst h (Nat.le_of_lt hD) _ _) (Nat.le_of_lt hD) _ _) (Nat.le_of_lt hD) _ _) (Nat.le_of_lt hD) _ _
theorem ld_bd {N : Nat} {M : Nat → Nat → Int} (hF : Fit M) (f a : Int) : 0 ≤ ldM N M f a ∧ ldM N M f a ≤ 18446744073709551615 := by
  unfold ldM
  split
  · exact hF _ _
  · omega
/-! ### read -/
set_option maxRecDepth 100000 in
set_option maxHeartbeats 2000000 in
theorem read_any (p b N : Nat) (f i : Int) (M : Nat → Nat → Int) (w : World) (h : Mx w p b N M) (hi : 0 ≤ i ∧ i < 32) :
    Calls Tryz.prog 62 #[.pointer (some ⟨p, 0, none⟩), .int .i64 f, .int .i64 i] w fun x w' => x = .returned (.tuple #[.agg #[.pointer (some ⟨p, 0, none⟩), .int .i64 f, .int .i64 (4 + i), .bool (enO N M f i), .int .i64 (enF N M f i), .int .i64 (enR N M f i), .int .i64 (enT N M f i)], .int .i64 (enE N M f i)]) ∧ Below w.heap.size w w' := by
  obtain ⟨h0, h1⟩ := hi
  have hw : wrap64 (4 + i) = 4 + i := by unfold wrap64; omega
  have HL : Hid (∀ wc, Mx wc p b N M → Calls Tryz.prog 45 #[.pointer (some ⟨p, 0, none⟩), .int .i64 f, .int .i64 (4 + i)] wc fun x w' => x = .returned (.tuple #[.int .u64 (ldM N M f (4 + i)), .int .i64 (errW N f (4 + i))]) ∧ w' = wc) := fun wc hc => load_any p b N f (4 + i) M wc hc.n1 hc.n64 hc.mem
  have hbd := ld_bd (N := N) h.fit f (4 + i)
  have HE := (er_new h).more (some ⟨p, 0, none⟩) f (4 + i) false 0 0 0
  rw [World.size_alloc] at HE
  clear h
  by_cases hk : okW N f (4 + i) = true
  case neg =>
    have e0 : enE N M f i ≠ 0 := by unfold enE; rw [if_neg hk]; decide
    obtain ⟨e1, e2, e3, e4⟩ := en_none e0
    have e5 : enE N M f i = 1 := by unfold enE; rw [if_neg hk]
    rw [e1, e2, e3, e4, e5]
    have e6 : errW N f (4 + i) = 1 := by unfold errW; rw [if_neg hk]
    rw [e6] at HL
    clear e0 e1 e2 e3 e4 e5 e6 hk hbd
    go_enter Tryz.func62, Tryz.ntmps62
    go_upto_region 2 with fail
    generalize (w.alloc _).alloc _ = w1 at HE ⊢
    generalize w.heap.size + 1 = D at HE ⊢
    have H1 := hide HE
    clear HE
    have y0 := H1.out.box.c0
    have y1 := H1.out.box.c1
    have y2 := H1.out.box.c2
    have y3 := H1.out.box.c3
    have y4 := H1.out.box.c4
    have y5 := H1.out.box.c5
    have y6 := H1.out.box.c6
    have x0 := H1.out.er.res.c0
    have x1 := H1.out.er.res.c1
    have x2 := H1.out.er.res.c2
    have x3 := H1.out.er.res.c3
    have x4 := H1.out.er.res.c4
    have x5 := H1.out.er.res.c5
    have x6 := H1.out.er.res.c6
    have z0 := H1.out.er.res.fz
    have ne1 : ¬ D = w.heap.size := Nat.ne_of_gt H1.out.ne
    have ne2 : ¬ w.heap.size = D := Nat.ne_of_lt H1.out.ne
    go_wp2_with (first
      | (go_at_call 45; refine (HL.out _ H1.out.er.mx).mono ?_; rintro e1 w2 ⟨rfl, hw2⟩; subst hw2)
      | fail)
    refine bodyPost_ret (v := .tuple #[.agg #[.pointer (some ⟨p, 0, none⟩), .int .i64 f, .int .i64 (4 + i), .bool false, .int .i64 0, .int .i64 0, .int .i64 0], .int .i64 1]) (by simp [results, Tryz.results62, go_sem, x0, x1, x2, x3, x4, x5, x6]) rfl ⟨rfl, ?_⟩
    exact res7 H1.out.er.below _ _ _ _ _ _ _
  case pos =>
  have e5 : enE N M f i = Ppte.getE (enW N M f i) := by unfold enE; rw [if_pos hk]
  have e6 : errW N f (4 + i) = 0 := by unfold errW; rw [if_pos hk]
  rw [e5]
  rw [e6] at HL
  unfold enO enF enR enT enW
  generalize ldM N M f (4 + i) = x at HL hbd ⊢
  have HG : Hid (∀ wc, Mx wc p b N M → Calls Tryz.prog 86 #[.int .u64 x] wc fun v w' => v = .returned (.tuple #[.agg #[.bool (Ppte.getO x), .int .i64 (Ppte.getF x), .int .i64 (Ppte.getR x), .int .i64 (Ppte.getT x)], .int .i64 (Ppte.getE x)]) ∧ Below wc.heap.size wc w') := fun wc hc => Ppte.get_any x wc hbd hc.tb.tp
  clear e5 e6 hk hbd
  generalize Ppte.getO x = go at HG ⊢
  generalize Ppte.getF x = gf at HG ⊢
  generalize Ppte.getR x = gr at HG ⊢
  generalize Ppte.getT x = gt at HG ⊢
  generalize Ppte.getE x = ge at HG ⊢
  go_enter Tryz.func62, Tryz.ntmps62
  go_upto_region 2 with fail
  generalize (w.alloc _).alloc _ = w1 at HE ⊢
  generalize w.heap.size + 1 = D at HE ⊢
  have H1 := hide HE
  clear HE
  have y0 := H1.out.box.c0
  have y1 := H1.out.box.c1
  have y2 := H1.out.box.c2
  have ne1 : ¬ D = w.heap.size := Nat.ne_of_gt H1.out.ne
  have ne2 : ¬ w.heap.size = D := Nat.ne_of_lt H1.out.ne
  go_wp2_with (first
    | (go_at_call 45; refine (HL.out _ H1.out.er.mx).mono ?_; rintro e1 w2 ⟨rfl, hw2⟩; subst hw2)
    | (go_at_call 86; refine (HG.out _ H1.out.er.mx).mono ?_; rintro e2 w3 ⟨rfl, hb⟩; have H3 := hide (H1.out.on hb); clear hb H1 y0 y1 y2; have y0 := H3.out.box.c0; have y1 := H3.out.box.c1; have y2 := H3.out.box.c2; have y3 := H3.out.box.c3; have y4 := H3.out.box.c4; have y5 := H3.out.box.c5; have y6 := H3.out.box.c6; have x0 := H3.out.er.res.c0; have x1 := H3.out.er.res.c1; have x2 := H3.out.er.res.c2; have x3 := H3.out.er.res.c3; have x4 := H3.out.er.res.c4; have x5 := H3.out.er.res.c5; have x6 := H3.out.er.res.c6; have z0 := H3.out.er.res.fz; have z1 := H3.out.box.fz; have xl := H3.out.er.res.lt; have yl := H3.out.box.lt)
    | fail)
  refine bodyPost_ret (v := .tuple #[.agg #[.pointer (some ⟨p, 0, none⟩), .int .i64 f, .int .i64 (4 + i), .bool go, .int .i64 gf, .int .i64 gr, .int .i64 gt], .int .i64 ge]) (by simp [results, Tryz.results62, go_sem, x0, x1, x2, x3, x4, x5, x6]) rfl ⟨rfl, ?_⟩
  exact res7 (mid4 H3.out.er.below H3.out.ne _ _ _ _) _ _ _ _ _ _ _
/-! ### find -/
def fiP (N : Nat) (M : Nat → Nat → Int) (root page : Int) (p : Nat) : Option Addr := if lfE N M root page = 0 then some ⟨p, 0, none⟩ else none
def fiA (N : Nat) (M : Nat → Nat → Int) (root page : Int) : Int := if lfE N M root page = 0 then 4 + page % 32 else 0
set_option maxRecDepth 100000 in
set_option maxHeartbeats 4000000 in
theorem find_any (p b N : Nat) (root page : Int) (M : Nat → Nat → Int) (w : World) (h : Mx w p b N M) :
    Calls Tryz.prog 65 #[.pointer (some ⟨p, 0, none⟩), .int .i64 root, .int .i64 page] w fun x w' => x = .returned (.tuple #[.agg #[.pointer (fiP N M root page p), .int .i64 (lfF N M root page), .int .i64 (fiA N M root page), .bool (raO N M root page), .int .i64 (raF N M root page), .int .i64 (raR N M root page), .int .i64 (raT N M root page)], .int .i64 (raE N M root page)]) ∧ Below w.heap.size w w' := by
  have HE := hide (er_new h)
  have HC : Hid (∀ wc, Mx wc p b N M → Calls Tryz.prog 90 #[.int .i64 page] wc fun x w' => x = .returned (.tuple #[.int .i64 (cuH page), .int .i64 (cuL page), .int .i64 (cuE page)]) ∧ Below wc.heap.size wc w') := fun wc hc => cut_any page wc hc.tb
  have HT : Hid (∀ wc, Mx wc p b N M → Calls Tryz.prog 61 #[.pointer (some ⟨p, 0, none⟩), .int .i64 root, .int .i64 0] wc fun x w' => x = .returned (.bool (tbB N M root 0)) ∧ Below wc.heap.size wc w') := fun wc hc => isTable_any p b N root 0 M wc hc
  clear h
  have hno : ∀ E, lfE N M root page = E → E ≠ 0 → raE N M root page = E ∧ raO N M root page = false ∧ raF N M root page = 0 ∧ raR N M root page = 0 ∧ raT N M root page = 0 ∧ fiP N M root page p = none ∧ lfF N M root page = 0 ∧ fiA N M root page = 0 := fun E e hE => by
    subst e
    simp [raE, raO, raF, raR, raT, fiP, lfF, fiA, hE]
  by_cases hg : okG page = true
  case neg =>
    have e0 : lfE N M root page = 1 := by simp [lfE, hg]
    obtain ⟨f0, f1, f2, f3, f4, f5, f6, f7⟩ := hno 1 e0 (by decide)
    rw [f0, f1, f2, f3, f4, f5, f6, f7]
    have c1 : cuH page = 0 := by simp [cuH, hg]
    have c2 : cuL page = 0 := by simp [cuL, hg]
    have c3 : cuE page = 1 := by simp [cuE, hg]
    rw [c1, c2, c3] at HC
    clear hno e0 f0 f1 f2 f3 f4 f5 f6 f7 c1 c2 c3 hg HT
    go_enter Tryz.func65, Tryz.ntmps65
    go_wp2_with (first
      | (go_at_call 90; refine (HC.out _ HE.out.mx).mono ?_; rintro e1 w1 ⟨rfl, hb⟩; have H1 := hide (HE.out.on hb); clear hb HE; have x0 := H1.out.res.c0; have x1 := H1.out.res.c1; have x2 := H1.out.res.c2; have x3 := H1.out.res.c3; have x4 := H1.out.res.c4; have x5 := H1.out.res.c5; have x6 := H1.out.res.c6; have z0 := H1.out.res.fz; have xl := H1.out.res.lt)
      | fail)
    refine bodyPost_ret (v := .tuple #[.agg #[.pointer none, .int .i64 0, .int .i64 0, .bool false, .int .i64 0, .int .i64 0, .int .i64 0], .int .i64 1]) (by simp [results, Tryz.results65, go_sem, x0, x1, x2, x3, x4, x5, x6]) rfl ⟨rfl, ?_⟩
    exact res7 H1.out.below _ _ _ _ _ _ _
  have hp := (okG_iff page).1 hg
  have c1 : cuH page = page / 32 := by simp [cuH, hg]
  have c2 : cuL page = page % 32 := by simp [cuL, hg]
  have c3 : cuE page = 0 := by simp [cuE, hg]
  rw [c1, c2, c3] at HC
  clear c1 c2 c3
  by_cases h2 : tbB N M root 0 = true
  case neg =>
    have e0 : lfE N M root page = 4 := by simp [lfE, hg, h2]
    obtain ⟨f0, f1, f2, f3, f4, f5, f6, f7⟩ := hno 4 e0 (by decide)
    rw [f0, f1, f2, f3, f4, f5, f6, f7]
    rw [show tbB N M root 0 = false by simpa using h2] at HT
    clear hno e0 f0 f1 f2 f3 f4 f5 f6 f7 hg h2 hp
    generalize page / 32 = X at HC
    generalize page % 32 = Y at HC
    go_enter Tryz.func65, Tryz.ntmps65
    go_wp2_with (first
      | (go_at_call 90; refine (HC.out _ HE.out.mx).mono ?_; rintro e1 w1 ⟨rfl, hb⟩; have H1 := hide (HE.out.on hb); clear hb HE)
      | (go_at_call 61; refine (HT.out _ H1.out.mx).mono ?_; rintro e2 w2 ⟨rfl, hb⟩; have H2 := hide (H1.out.on hb); clear hb H1; have x0 := H2.out.res.c0; have x1 := H2.out.res.c1; have x2 := H2.out.res.c2; have x3 := H2.out.res.c3; have x4 := H2.out.res.c4; have x5 := H2.out.res.c5; have x6 := H2.out.res.c6; have z0 := H2.out.res.fz; have xl := H2.out.res.lt)
      | fail)
    refine bodyPost_ret (v := .tuple #[.agg #[.pointer none, .int .i64 0, .int .i64 0, .bool false, .int .i64 0, .int .i64 0, .int .i64 0], .int .i64 4]) (by simp [results, Tryz.results65, go_sem, x0, x1, x2, x3, x4, x5, x6]) rfl ⟨rfl, ?_⟩
    exact res7 H2.out.below _ _ _ _ _ _ _
  have hx : 0 ≤ page / 32 ∧ page / 32 < 32 := by omega
  have hy : 0 ≤ page % 32 ∧ page % 32 < 32 := by omega
  have HR : Hid (∀ wc, Mx wc p b N M → Calls Tryz.prog 62 #[.pointer (some ⟨p, 0, none⟩), .int .i64 root, .int .i64 (page / 32)] wc fun x w' => x = .returned (.tuple #[.agg #[.pointer (some ⟨p, 0, none⟩), .int .i64 root, .int .i64 (4 + page / 32), .bool (enO N M root (page / 32)), .int .i64 (enF N M root (page / 32)), .int .i64 (enR N M root (page / 32)), .int .i64 (enT N M root (page / 32))], .int .i64 (enE N M root (page / 32))]) ∧ Below wc.heap.size wc w') := fun wc hc => read_any p b N root (page / 32) M wc hc hx
  rw [h2] at HT
  have eL : lfE N M root page = if enE N M root (page / 32) = 0 ∧ enO N M root (page / 32) = true then if tbB N M (enF N M root (page / 32)) 1 = true then 0 else 4 else 9 := by simp only [lfE, hg, h2, if_true]
  by_cases h3 : enE N M root (page / 32) = 0 ∧ enO N M root (page / 32) = true
  case neg =>
    have e0 : lfE N M root page = 9 := by rw [eL, if_neg h3]
    obtain ⟨f0, f1, f2, f3, f4, f5, f6, f7⟩ := hno 9 e0 (by decide)
    rw [f0, f1, f2, f3, f4, f5, f6, f7]
    clear hno e0 f0 f1 f2 f3 f4 f5 f6 f7 hg h2 hp hx hy eL
    generalize enO N M root (page / 32) = O at HR h3
    generalize enF N M root (page / 32) = F at HR
    generalize enR N M root (page / 32) = R at HR
    generalize enT N M root (page / 32) = T at HR
    generalize enE N M root (page / 32) = E at HR h3
    generalize page / 32 = X at HC HR
    generalize page % 32 = Y at HC
    have hc : (E != 0) = true ∨ (E = 0 ∧ O = false) := by
      by_cases hE : E = 0
      · exact .inr ⟨hE, by cases O; rfl; exact absurd ⟨hE, rfl⟩ h3⟩
      · exact .inl (by simp [hE])
    clear h3
    go_enter Tryz.func65, Tryz.ntmps65
    go_upto_region 7 with (first
      | (go_at_call 90; refine (HC.out _ HE.out.mx).mono ?_; rintro e1 w1 ⟨rfl, hb⟩; have H1 := hide (HE.out.on hb); clear hb HE)
      | (go_at_call 61; refine (HT.out _ H1.out.mx).mono ?_; rintro e2 w2 ⟨rfl, hb⟩; have H2 := hide (H1.out.on hb); clear hb H1)
      | (go_at_call 62; refine (HR.out _ H2.out.mx).mono ?_; rintro e3 w3 ⟨rfl, hb⟩; have H3 := (H2.out.on hb).more (some ⟨p, 0, none⟩) root (4 + X) O F R T; clear hb H2)
      | fail)
    generalize w3.alloc _ = w4 at H3 ⊢
    generalize w3.heap.size = D at H3 ⊢
    clear HR HC HT
    rcases hc with hE | ⟨rfl, rfl⟩
    all_goals
      have H4 := hide H3
      clear H3
      have x0 := H4.out.er.res.c0
      have x1 := H4.out.er.res.c1
      have x2 := H4.out.er.res.c2
      have x3 := H4.out.er.res.c3
      have x4 := H4.out.er.res.c4
      have x5 := H4.out.er.res.c5
      have x6 := H4.out.er.res.c6
      have z0 := H4.out.er.res.fz
      have xl := H4.out.er.res.lt
      have y3 := H4.out.box.c3
      have yl := H4.out.box.lt
      go_wp2
      refine bodyPost_ret (v := .tuple #[.agg #[.pointer none, .int .i64 0, .int .i64 0, .bool false, .int .i64 0, .int .i64 0, .int .i64 0], .int .i64 9]) (by simp [results, Tryz.results65, go_sem, x0, x1, x2, x3, x4, x5, x6]) rfl ⟨rfl, ?_⟩
      exact res7 H4.out.er.below _ _ _ _ _ _ _
  rw [if_pos h3] at eL
  have HU : Hid (∀ wc, Mx wc p b N M → Calls Tryz.prog 61 #[.pointer (some ⟨p, 0, none⟩), .int .i64 (enF N M root (page / 32)), .int .i64 1] wc fun x w' => x = .returned (.bool (tbB N M (enF N M root (page / 32)) 1)) ∧ Below wc.heap.size wc w') := fun wc hc => isTable_any p b N _ 1 M wc hc
  rw [h3.1, h3.2] at HR
  by_cases h4 : tbB N M (enF N M root (page / 32)) 1 = true
  case neg =>
    have e0 : lfE N M root page = 4 := by rw [eL, if_neg h4]
    obtain ⟨f0, f1, f2, f3, f4, f5, f6, f7⟩ := hno 4 e0 (by decide)
    rw [f0, f1, f2, f3, f4, f5, f6, f7]
    rw [show tbB N M (enF N M root (page / 32)) 1 = false by simpa using h4] at HU
    clear hno e0 f0 f1 f2 f3 f4 f5 f6 f7 hg h2 hp hx hy eL h3 h4
    generalize enF N M root (page / 32) = F at HR HU
    generalize enR N M root (page / 32) = R at HR
    generalize enT N M root (page / 32) = T at HR
    generalize page / 32 = X at HC HR
    generalize page % 32 = Y at HC
    have t1 : True := trivial
    go_enter Tryz.func65, Tryz.ntmps65
    go_upto_region 7 with (first
      | (go_at_call 90; refine (HC.out _ HE.out.mx).mono ?_; rintro e1 w1 ⟨rfl, hb⟩; have H1 := hide (HE.out.on hb); clear hb HE)
      | (go_at_call 61; clear t1; refine (HT.out _ H1.out.mx).mono ?_; rintro e2 w2 ⟨rfl, hb⟩; have H2 := hide (H1.out.on hb); clear hb H1)
      | (go_at_call 62; refine (HR.out _ H2.out.mx).mono ?_; rintro e3 w3 ⟨rfl, hb⟩; have H3 := (H2.out.on hb).more (some ⟨p, 0, none⟩) root (4 + X) true F R T; clear hb H2)
      | fail)
    generalize w3.alloc _ = w4 at H3 ⊢
    generalize w3.heap.size = D at H3 ⊢
    have H4 := hide H3
    clear H3 HT
    have y3 := H4.out.box.c3
    have y4 := H4.out.box.c4
    have yl := H4.out.box.lt
    go_wp2_with (first
      | (go_at_call 61; refine (HU.out _ H4.out.er.mx).mono ?_; rintro e5 w5 ⟨rfl, hb⟩; have H5 := hide (H4.out.on hb); clear hb H4 y3 y4 yl; have x0 := H5.out.er.res.c0; have x1 := H5.out.er.res.c1; have x2 := H5.out.er.res.c2; have x3 := H5.out.er.res.c3; have x4 := H5.out.er.res.c4; have x5 := H5.out.er.res.c5; have x6 := H5.out.er.res.c6; have z0 := H5.out.er.res.fz; have xl := H5.out.er.res.lt)
      | fail)
    refine bodyPost_ret (v := .tuple #[.agg #[.pointer none, .int .i64 0, .int .i64 0, .bool false, .int .i64 0, .int .i64 0, .int .i64 0], .int .i64 4]) (by simp [results, Tryz.results65, go_sem, x0, x1, x2, x3, x4, x5, x6]) rfl ⟨rfl, ?_⟩
    exact res7 H5.out.er.below _ _ _ _ _ _ _
  rw [if_pos h4] at eL
  rw [h4] at HU
  have eF : lfF N M root page = enF N M root (page / 32) := by simp [lfF, eL]
  have g0 : raE N M root page = enE N M (lfF N M root page) (page % 32) := by simp [raE, eL]
  have g1 : raO N M root page = enO N M (lfF N M root page) (page % 32) := by simp [raO, eL]
  have g2 : raF N M root page = enF N M (lfF N M root page) (page % 32) := by simp [raF, eL]
  have g3 : raR N M root page = enR N M (lfF N M root page) (page % 32) := by simp [raR, eL]
  have g4 : raT N M root page = enT N M (lfF N M root page) (page % 32) := by simp [raT, eL]
  have g5 : fiP N M root page p = some ⟨p, 0, none⟩ := by simp [fiP, eL]
  have g6 : fiA N M root page = 4 + page % 32 := by simp [fiA, eL]
  rw [g0, g1, g2, g3, g4, g5, g6, eF]
  clear g0 g1 g2 g3 g4 g5 g6 eF eL h4 h3 h2 hg hno hp hx
  generalize enF N M root (page / 32) = F at HR HU ⊢
  generalize enR N M root (page / 32) = R at HR
  generalize enT N M root (page / 32) = T at HR
  generalize page / 32 = X at HC HR
  generalize page % 32 = Y at HC hy ⊢
  have HV : Hid (∀ wc, Mx wc p b N M → Calls Tryz.prog 62 #[.pointer (some ⟨p, 0, none⟩), .int .i64 F, .int .i64 Y] wc fun x w' => x = .returned (.tuple #[.agg #[.pointer (some ⟨p, 0, none⟩), .int .i64 F, .int .i64 (4 + Y), .bool (enO N M F Y), .int .i64 (enF N M F Y), .int .i64 (enR N M F Y), .int .i64 (enT N M F Y)], .int .i64 (enE N M F Y)]) ∧ Below wc.heap.size wc w') := fun wc hc => read_any p b N F Y M wc hc hy
  clear hy
  generalize enO N M F Y = O2 at HV ⊢
  generalize enF N M F Y = F2 at HV ⊢
  generalize enR N M F Y = R2 at HV ⊢
  generalize enT N M F Y = T2 at HV ⊢
  generalize enE N M F Y = E2 at HV ⊢
  have t1 : True := trivial
  go_enter Tryz.func65, Tryz.ntmps65
  go_upto_region 7 with (first
    | (go_at_call 90; refine (HC.out _ HE.out.mx).mono ?_; rintro e1 w1 ⟨rfl, hb⟩; have H1 := hide (HE.out.on hb); clear hb HE)
    | (go_at_call 61; clear t1; refine (HT.out _ H1.out.mx).mono ?_; rintro e2 w2 ⟨rfl, hb⟩; have H2 := hide (H1.out.on hb); clear hb H1)
    | (go_at_call 62; refine (HR.out _ H2.out.mx).mono ?_; rintro e3 w3 ⟨rfl, hb⟩; have H3 := (H2.out.on hb).more (some ⟨p, 0, none⟩) root (4 + X) true F R T; clear hb H2)
    | fail)
  generalize w3.alloc _ = w4 at H3 ⊢
  generalize w3.heap.size = D at H3 ⊢
  have H4 := hide H3
  clear H3 HT HR
  have y3 := H4.out.box.c3
  have y4 := H4.out.box.c4
  have yl := H4.out.box.lt
  go_wp2_with (first
    | (go_at_call 61; refine (HU.out _ H4.out.er.mx).mono ?_; rintro e5 w5 ⟨rfl, hb⟩; have H5 := hide (H4.out.on hb); clear hb H4 y3 y4 yl; have y3 := H5.out.box.c3; have y4 := H5.out.box.c4; have yl := H5.out.box.lt)
    | (go_at_call 62; refine (HV.out _ H5.out.er.mx).mono ?_; rintro e6 w6 ⟨rfl, hb⟩; have H6 := hide (H5.out.on hb); clear hb H5 y3 y4 yl; have x0 := H6.out.er.res.c0; have x1 := H6.out.er.res.c1; have x2 := H6.out.er.res.c2; have x3 := H6.out.er.res.c3; have x4 := H6.out.er.res.c4; have x5 := H6.out.er.res.c5; have x6 := H6.out.er.res.c6; have z0 := H6.out.er.res.fz; have xl := H6.out.er.res.lt)
    | fail)
  refine bodyPost_ret (v := .tuple #[.agg #[.pointer (some ⟨p, 0, none⟩), .int .i64 F, .int .i64 (4 + Y), .bool O2, .int .i64 F2, .int .i64 R2, .int .i64 T2], .int .i64 E2]) (by simp [results, Tryz.results65, go_sem, x0, x1, x2, x3, x4, x5, x6]) rfl ⟨rfl, ?_⟩
  exact res7 H6.out.er.below _ _ _ _ _ _ _
/-! ### walk -/
def waP (N : Nat) (M : Nat → Nat → Int) (root page : Int) (p : Nat) : Option Addr := if wkE N M root page = 0 then some ⟨p, 0, none⟩ else none
def waF (N : Nat) (M : Nat → Nat → Int) (root page : Int) : Int := if wkE N M root page = 0 then lfF N M root page else 0
def waA (N : Nat) (M : Nat → Nat → Int) (root page : Int) : Int := if wkE N M root page = 0 then 4 + page % 32 else 0
theorem wk_ra {N : Nat} {M : Nat → Nat → Int} {root page : Int} (h : wkE N M root page = 0) : raE N M root page = 0 ∧ lfE N M root page = 0 ∧ raO N M root page = true := by
  have h2 : raE N M root page = 0 := by
    unfold wkE at h
    by_cases k : raE N M root page = 0
    · exact k
    · rw [if_neg k] at h; exact h
  have h3 : lfE N M root page = 0 := by
    unfold raE at h2
    by_cases k : lfE N M root page = 0
    · exact k
    · rw [if_neg k] at h2; exact h2
  refine ⟨h2, h3, ?_⟩
  unfold wkE at h
  rw [if_pos h2] at h
  cases hO : raO N M root page
  · rw [hO] at h; cases h
  · rfl
set_option maxRecDepth 100000 in
set_option maxHeartbeats 2000000 in
theorem walk_any (p b N : Nat) (root page : Int) (M : Nat → Nat → Int) (w : World) (h : Mx w p b N M) :
    Calls Tryz.prog 68 #[.pointer (some ⟨p, 0, none⟩), .int .i64 root, .int .i64 page] w fun x w' => x = .returned (.tuple #[.agg #[.pointer (waP N M root page p), .int .i64 (waF N M root page), .int .i64 (waA N M root page), .bool (wkO N M root page), .int .i64 (wkF N M root page), .int .i64 (wkR N M root page), .int .i64 (wkT N M root page)], .int .i64 (wkE N M root page)]) ∧ Below w.heap.size w w' := by
  have HE := hide (er_new h)
  have HF : Hid (∀ wc, Mx wc p b N M → Calls Tryz.prog 65 #[.pointer (some ⟨p, 0, none⟩), .int .i64 root, .int .i64 page] wc fun x w' => x = .returned (.tuple #[.agg #[.pointer (fiP N M root page p), .int .i64 (lfF N M root page), .int .i64 (fiA N M root page), .bool (raO N M root page), .int .i64 (raF N M root page), .int .i64 (raR N M root page), .int .i64 (raT N M root page)], .int .i64 (raE N M root page)]) ∧ Below wc.heap.size wc w') := fun wc hc => find_any p b N root page M wc hc
  clear h
  have hno : wkE N M root page ≠ 0 → wkO N M root page = false ∧ wkF N M root page = 0 ∧ wkR N M root page = 0 ∧ wkT N M root page = 0 ∧ waP N M root page p = none ∧ waF N M root page = 0 ∧ waA N M root page = 0 := fun hE => by
    simp [wkO, wkF, wkR, wkT, waP, waF, waA, hE]
  by_cases hk : wkE N M root page = 0
  case pos =>
    obtain ⟨r0, r1, r2⟩ := wk_ra hk
    have f0 : wkO N M root page = true := by simp [wkO, hk, r2]
    have f1 : wkF N M root page = raF N M root page := by simp [wkF, hk]
    have f2 : wkR N M root page = raR N M root page := by simp [wkR, hk]
    have f3 : wkT N M root page = raT N M root page := by simp [wkT, hk]
    have f4 : waP N M root page p = some ⟨p, 0, none⟩ := by simp [waP, hk]
    have f5 : waF N M root page = lfF N M root page := by simp [waF, hk]
    have f6 : waA N M root page = 4 + page % 32 := by simp [waA, hk]
    have f7 : fiP N M root page p = some ⟨p, 0, none⟩ := by simp [fiP, r1]
    have f8 : fiA N M root page = 4 + page % 32 := by simp [fiA, r1]
    rw [f0, f1, f2, f3, f4, f5, f6, hk]
    rw [f7, f8, r0, r2] at HF
    clear f0 f1 f2 f3 f4 f5 f6 f7 f8 r0 r1 r2 hk hno
    generalize raF N M root page = F at HF ⊢
    generalize raR N M root page = R at HF ⊢
    generalize raT N M root page = T at HF ⊢
    generalize lfF N M root page = L at HF ⊢
    generalize 4 + page % 32 = A at HF ⊢
    go_enter Tryz.func68, Tryz.ntmps68
    go_upto_region 2 with (first
      | (go_at_call 65; refine (HF.out _ HE.out.mx).mono ?_; rintro e1 w1 ⟨rfl, hb⟩; have H1 := (HE.out.on hb).more (some ⟨p, 0, none⟩) L A true F R T; clear hb HE)
      | fail)
    generalize w1.alloc _ = w2 at H1 ⊢
    generalize w1.heap.size = D at H1 ⊢
    have H2 := hide H1
    clear H1
    have x0 := H2.out.er.res.c0
    have x1 := H2.out.er.res.c1
    have x2 := H2.out.er.res.c2
    have x3 := H2.out.er.res.c3
    have x4 := H2.out.er.res.c4
    have x5 := H2.out.er.res.c5
    have x6 := H2.out.er.res.c6
    have z0 := H2.out.er.res.fz
    have xl := H2.out.er.res.lt
    have y0 := H2.out.box.c0
    have y1 := H2.out.box.c1
    have y2 := H2.out.box.c2
    have y3 := H2.out.box.c3
    have y4 := H2.out.box.c4
    have y5 := H2.out.box.c5
    have y6 := H2.out.box.c6
    have yl := H2.out.box.lt
    have ne1 : ¬ D = w.heap.size := Nat.ne_of_gt H2.out.ne
    have ne2 : ¬ w.heap.size = D := Nat.ne_of_lt H2.out.ne
    go_wp2
    refine bodyPost_ret (v := .tuple #[.agg #[.pointer (some ⟨p, 0, none⟩), .int .i64 L, .int .i64 A, .bool true, .int .i64 F, .int .i64 R, .int .i64 T], .int .i64 0]) (by simp [results, Tryz.results68, go_sem, x0, x1, x2, x3, x4, x5, x6]) rfl ⟨rfl, ?_⟩
    exact res7 H2.out.er.below _ _ _ _ _ _ _
  obtain ⟨f0, f1, f2, f3, f4, f5, f6⟩ := hno hk
  rw [f0, f1, f2, f3, f4, f5, f6]
  have hc : ((raE N M root page != 0) = true ∧ wkE N M root page = raE N M root page) ∨ (raE N M root page = 0 ∧ raO N M root page = false ∧ wkE N M root page = 9) := by
    by_cases hE : raE N M root page = 0
    · refine .inr ⟨hE, ?_, ?_⟩
      · cases hO : raO N M root page
        · rfl
        · exact absurd (by unfold wkE; rw [if_pos hE, if_pos hO]) hk
      · cases hO : raO N M root page
        · unfold wkE; rw [if_pos hE, hO]; rfl
        · exact absurd (by unfold wkE; rw [if_pos hE, if_pos hO]) hk
    · exact .inl ⟨by simp [hE], by unfold wkE; rw [if_neg hE]⟩
  clear f0 f1 f2 f3 f4 f5 f6 hk hno
  generalize wkE N M root page = X at hc ⊢
  generalize raE N M root page = E at HF hc
  generalize raO N M root page = O at HF hc
  generalize raF N M root page = F at HF
  generalize raR N M root page = R at HF
  generalize raT N M root page = T at HF
  generalize lfF N M root page = L at HF
  generalize fiA N M root page = A at HF
  generalize fiP N M root page p = P at HF
  go_enter Tryz.func68, Tryz.ntmps68
  go_upto_region 2 with (first
    | (go_at_call 65; refine (HF.out _ HE.out.mx).mono ?_; rintro e1 w1 ⟨rfl, hb⟩; have H1 := (HE.out.on hb).more P L A O F R T; clear hb HE)
    | fail)
  generalize w1.alloc _ = w2 at H1 ⊢
  generalize w1.heap.size = D at H1 ⊢
  clear HF
  rcases hc with ⟨hE, rfl⟩ | ⟨rfl, rfl, rfl⟩
  all_goals
    have H2 := hide H1
    clear H1
    have x0 := H2.out.er.res.c0
    have x1 := H2.out.er.res.c1
    have x2 := H2.out.er.res.c2
    have x3 := H2.out.er.res.c3
    have x4 := H2.out.er.res.c4
    have x5 := H2.out.er.res.c5
    have x6 := H2.out.er.res.c6
    have z0 := H2.out.er.res.fz
    have xl := H2.out.er.res.lt
    have y3 := H2.out.box.c3
    have yl := H2.out.box.lt
    go_wp2
  · refine bodyPost_ret (v := .tuple #[.agg #[.pointer none, .int .i64 0, .int .i64 0, .bool false, .int .i64 0, .int .i64 0, .int .i64 0], .int .i64 X]) (by simp [results, Tryz.results68, go_sem, x0, x1, x2, x3, x4, x5, x6]) rfl ⟨rfl, ?_⟩
    exact res7 H2.out.er.below _ _ _ _ _ _ _
  · refine bodyPost_ret (v := .tuple #[.agg #[.pointer none, .int .i64 0, .int .i64 0, .bool false, .int .i64 0, .int .i64 0, .int .i64 0], .int .i64 9]) (by simp [results, Tryz.results68, go_sem, x0, x1, x2, x3, x4, x5, x6]) rfl ⟨rfl, ?_⟩
    exact res7 H2.out.er.below _ _ _ _ _ _ _
end Go.Proofs.YthcgdgpflhdchaaGreatDoor.Ppgtbl

/- What put and fill of an entry, and Walk, Raw, Map, Cons of package pgtbl answer and do, for every argument. -/
namespace Go.Proofs.YthcgdgpflhdchaaGreatDoor.Ppgtbl
open Go.Proofs.YthcgdgpflhdchaaGreatDoor.Pbase Go.Proofs.YthcgdgpflhdchaaGreatDoor.Pmem Go.Proofs.YthcgdgpflhdchaaGreatDoor.Pradix
open Go.RowKit
set_option linter.unusedVariables false

/-- An entry and a mapping in blocks, beside a memory and the tables. -/
structure Eb (w0 w : World) (p b N : Nat) (M : Nat → Nat → Int) (D D' : Nat) (q : Option Addr) (f a : Int) (o' : Bool) (g' r' t' : Int) (o : Bool) (g r t : Int) : Prop where
  mx : Mx w p b N M
  below : Below w0.heap.size w0 w
  ent : Box7 w D q f a o' g' r' t'
  pte : Ppte.BoxP w D' o g r t
section
variable {w0 w w' : World} {p b N : Nat} {M : Nat → Nat → Int} {D D' : Nat} {q : Option Addr} {f a : Int} {o' : Bool} {g' r' t' : Int} {o : Bool} {g r t : Int}
theorem Eb.on (h : Eb w0 w p b N M D D' q f a o' g' r' t' o g r t) (hB : Below w.heap.size w w') : Eb w0 w' p b N M D D' q f a o' g' r' t' o g r t :=
  ⟨h.mx.on hB, h.below.trans (hB.mono h.below.size), h.ent.on hB, h.pte.on hB⟩
theorem eb_new (h : Mx w p b N M) (q : Option Addr) (f a : Int) (o' : Bool) (g' r' t' : Int) (o : Bool) (g r t : Int) : Eb w ((w.alloc (.cells #[.pointer q, .int .i64 f, .int .i64 a, .bool o', .int .i64 g', .int .i64 r', .int .i64 t'] 128)).alloc (.cells #[.bool o, .int .i64 g, .int .i64 r, .int .i64 t] 57)) p b N M w.heap.size (w.heap.size + 1) q f a o' g' r' t' o g r t := by
  have h2 := Ppte.boxP_new (w.alloc (.cells #[.pointer q, .int .i64 f, .int .i64 a, .bool o', .int .i64 g', .int .i64 r', .int .i64 t'] 128)) o g r t 57
  rw [World.size_alloc] at h2
  exact ⟨(h.on (bal (Below.refl _ _) _)).on (bal (Below.refl _ _) _), bal (bal (Below.refl _ _) _) _, (box7_new w q f a o' g' r' t' 128).on (bal (Below.refl _ _) _), h2⟩
end
/-! ### put -/
set_option maxRecDepth 100000 in
set_option maxHeartbeats 2000000 in
theorem put_any (p b N : Nat) (f i : Int) (o' : Bool) (g' r' t' : Int) (o : Bool) (g r t : Int) (M : Nat → Nat → Int) (w : World) (h : Mx w p b N M) :
    Calls Tryz.prog 88 #[.agg #[.pointer (some ⟨p, 0, none⟩), .int .i64 f, .int .i64 (4 + i), .bool o', .int .i64 g', .int .i64 r', .int .i64 t'], .agg #[.bool o, .int .i64 g, .int .i64 r, .int .i64 t]] w fun x w' => x = .returned (.int .i64 (seE N f i o g r t)) ∧ Mx w' p b N (seM N M f i o g r t) ∧ But b w w' := by
  have HE := eb_new h (some ⟨p, 0, none⟩) f (4 + i) o' g' r' t' o g r t
  have HM := hide h
  have HP : Hid (∀ wc, Mx wc p b N M → Calls Tryz.prog 110 #[.agg #[.bool o, .int .i64 g, .int .i64 r, .int .i64 t]] wc fun e w' => e = .returned (.tuple #[.int .u64 (Ppte.putW o g r t), .int .i64 (Ppte.chk o g r t)]) ∧ Below wc.heap.size wc w') := fun wc hc => Ppte.put_any o g r t wc hc.tb.tp
  clear h
  by_cases hp : Ppte.Rt o g r t
  case neg =>
    have e1 : seE N f i o g r t = 1 := by unfold seE; rw [Ppte.rtB_no hp]; rfl
    have e2 : seM N M f i o g r t = M := by unfold seM; rw [Ppte.rtB_no hp]; rfl
    rw [e1, e2]
    rw [Ppte.putW_no hp, Ppte.chk_no hp] at HP
    clear e1 e2 hp
    go_enter Tryz.func88, Tryz.ntmps88
    go_upto_region 1 with fail
    generalize (w.alloc _).alloc _ = w1 at HE ⊢
    have H1 := hide HE
    clear HE
    have y0 := H1.out.pte.c0
    have y1 := H1.out.pte.c1
    have y2 := H1.out.pte.c2
    have y3 := H1.out.pte.c3
    go_wp2_with (first
      | (go_at_call 110; refine (HP.out _ H1.out.mx).mono ?_; rintro e2 w2 ⟨rfl, hb⟩; have H2 := hide (H1.out.on hb); clear hb)
      | fail)
    go_ret
    exact ⟨rfl, H2.out.mx, But.of_below b H2.out.below⟩
  case pos =>
  have e1 : seE N f i o g r t = errW N f (4 + i) := by unfold seE; rw [if_pos (Ppte.rtB_yes hp)]
  rw [e1, seM_yes hp]
  rw [Ppte.putW_yes hp, Ppte.chk_yes hp] at HP
  have HF : Hid (Fit (stW N M f (4 + i) (Ppte.wd o g r t))) := HM.out.fit.st N f _ _ (Ppte.wd_bd hp)
  generalize Ppte.wd o g r t = x at HP HF ⊢
  have HS : Hid (∀ wc, Mx wc p b N M → Calls Tryz.prog 20 #[.pointer (some ⟨p, 0, none⟩), .int .i64 f, .int .i64 (4 + i), .int .u64 x] wc fun e w' => e = .returned (.int .i64 (errW N f (4 + i))) ∧ Mx w' p b N (stW N M f (4 + i) x) ∧ But b wc w') := fun wc hc => by
    refine (store_any p b N f (4 + i) x M wc hc.n1 hc.n64 hc.mem).mono ?_
    rintro e w' ⟨rfl, rfl⟩
    have hB := (But.refl b wc).setRow (cellsM N (stW N M f (4 + i) x))
    exact ⟨rfl, hc.but (hc.mem.set _) HF.out hB, hB⟩
  generalize errW N f (4 + i) = E at HS ⊢
  generalize stW N M f (4 + i) x = M' at HS ⊢
  generalize 4 + i = A at HS HE ⊢
  clear e1 hp HF
  go_enter Tryz.func88, Tryz.ntmps88
  go_upto_region 1 with fail
  generalize (w.alloc _).alloc _ = w1 at HE ⊢
  have H1 := hide HE
  clear HE
  have y0 := H1.out.pte.c0
  have y1 := H1.out.pte.c1
  have y2 := H1.out.pte.c2
  have y3 := H1.out.pte.c3
  go_wp2_with (first
    | (go_at_call 110; refine (HP.out _ H1.out.mx).mono ?_; rintro e2 w2 ⟨rfl, hb⟩; have H2 := hide (H1.out.on hb); clear hb H1 y0 y1 y2 y3; have x0 := H2.out.ent.c0; have x1 := H2.out.ent.c1; have x2 := H2.out.ent.c2)
    | (go_at_call 20; refine (HS.out _ H2.out.mx).mono ?_; rintro e3 w3 ⟨rfl, hm, hb⟩; have H3 := hide (And.intro hm ((But.of_below b H2.out.below).trans hb)); clear hm hb)
    | fail)
  go_ret
  exact ⟨rfl, H3.out⟩
/-! ### fill -/
def flE (N : Nat) (f i : Int) (o' : Bool) (g' r' t' : Int) (o : Bool) (g r t floor : Int) : Int := if o' = true then 10 else if Ppte.quB o' g' r' t' floor = true then seE N f i o g r t else 6
def flM (N : Nat) (M : Nat → Nat → Int) (f i : Int) (o' : Bool) (g' r' t' : Int) (o : Bool) (g r t floor : Int) : Nat → Nat → Int := if o' = true then M else if Ppte.quB o' g' r' t' floor = true then seM N M f i o g r t else M
set_option maxRecDepth 100000 in
set_option maxHeartbeats 2000000 in
theorem fill_any (p b N : Nat) (f i : Int) (o' : Bool) (g' r' t' : Int) (o : Bool) (g r t floor : Int) (M : Nat → Nat → Int) (w : World) (h : Mx w p b N M) :
    Calls Tryz.prog 63 #[.agg #[.pointer (some ⟨p, 0, none⟩), .int .i64 f, .int .i64 (4 + i), .bool o', .int .i64 g', .int .i64 r', .int .i64 t'], .agg #[.bool o, .int .i64 g, .int .i64 r, .int .i64 t], .int .i64 floor] w fun x w' => x = .returned (.int .i64 (flE N f i o' g' r' t' o g r t floor)) ∧ Mx w' p b N (flM N M f i o' g' r' t' o g r t floor) ∧ But b w w' := by
  have HE := eb_new h (some ⟨p, 0, none⟩) f (4 + i) o' g' r' t' o g r t
  have HP : Hid (∀ wc, Mx wc p b N M → Calls Tryz.prog 88 #[.agg #[.pointer (some ⟨p, 0, none⟩), .int .i64 f, .int .i64 (4 + i), .bool o', .int .i64 g', .int .i64 r', .int .i64 t'], .agg #[.bool o, .int .i64 g, .int .i64 r, .int .i64 t]] wc fun x w' => x = .returned (.int .i64 (seE N f i o g r t)) ∧ Mx w' p b N (seM N M f i o g r t) ∧ But b wc w') := fun wc hc => put_any p b N f i o' g' r' t' o g r t M wc hc
  have HQ : Hid (∀ wc, Calls Tryz.prog 87 #[.agg #[.bool o', .int .i64 g', .int .i64 r', .int .i64 t'], .int .i64 floor] wc fun e w' => e = .returned (.bool (Ppte.quB o' g' r' t' floor)) ∧ Below wc.heap.size wc w') := fun wc => Ppte.quiet_any o' g' r' t' floor wc
  clear h
  unfold flE flM
  generalize Ppte.quB o' g' r' t' floor = U at HQ ⊢
  generalize seE N f i o g r t = E at HP ⊢
  generalize seM N M f i o g r t = M' at HP ⊢
  generalize 4 + i = A at HP HE ⊢
  have hc : o' = true ∨ (o' = false ∧ U = false) ∨ (o' = false ∧ U = true) := by cases o' <;> cases U <;> simp
  rcases hc with rfl | ⟨rfl, rfl⟩ | ⟨rfl, rfl⟩
  all_goals
    simp only [if_true, if_false, Bool.false_eq_true]
    go_enter Tryz.func63, Tryz.ntmps63
    go_upto_region 1 with fail
    generalize (w.alloc _).alloc _ = w1 at HE ⊢
    have H1 := hide HE
    clear HE
    have x3 := H1.out.ent.c3
    have x4 := H1.out.ent.c4
    have x5 := H1.out.ent.c5
    have x6 := H1.out.ent.c6
    go_wp2_with (first
      | (go_at_call 87; refine (HQ.out _).mono ?_; rintro e2 w2 ⟨rfl, hb⟩; have H2 := hide (H1.out.on hb); clear hb H1 x3 x4 x5 x6; have H1 := H2; clear H2; have x0 := H1.out.ent.c0; have x1 := H1.out.ent.c1; have x2 := H1.out.ent.c2; have x3 := H1.out.ent.c3; have x4 := H1.out.ent.c4; have x5 := H1.out.ent.c5; have x6 := H1.out.ent.c6; have y0 := H1.out.pte.c0; have y1 := H1.out.pte.c1; have y2 := H1.out.pte.c2; have y3 := H1.out.pte.c3)
      | (go_at_call 88; refine (HP.out _ H1.out.mx).mono ?_; rintro e3 w3 ⟨rfl, hm, hb⟩; have H3 := hide (And.intro hm ((But.of_below b H1.out.below).trans hb)); clear hm hb)
      | fail)
    go_ret
    first
      | exact ⟨rfl, H3.out⟩
      | exact ⟨rfl, H1.out.mx, But.of_below b H1.out.below⟩
/-! ### Walk, Raw -/
/-- The result's block of a call that answers a mapping, beside a memory and the tables. -/
structure Pr (w0 w : World) (p b N : Nat) (M : Nat → Nat → Int) : Prop where
  mx : Mx w p b N M
  below : Below w0.heap.size w0 w
  res : Ppte.BoxP w w0.heap.size false 0 0 0
theorem Pr.on {w0 w w' : World} {p b N : Nat} {M : Nat → Nat → Int} (h : Pr w0 w p b N M) (hB : Below w.heap.size w w') : Pr w0 w' p b N M := ⟨h.mx.on hB, h.below.trans (hB.mono h.below.size), h.res.on hB⟩
theorem pr_new {w : World} {p b N : Nat} {M : Nat → Nat → Int} (h : Mx w p b N M) : Pr w (w.alloc (.cells #[.bool false, .int .i64 0, .int .i64 0, .int .i64 0] 57)) p b N M :=
  ⟨h.on (bal (Below.refl _ _) _), bal (Below.refl _ _) _, Ppte.boxP_new w false 0 0 0 57⟩
structure Pe (w0 w : World) (p b N : Nat) (M : Nat → Nat → Int) (D : Nat) (q : Option Addr) (f a : Int) (o : Bool) (g r t : Int) : Prop where
  pr : Pr w0 w p b N M
  box : Box7 w D q f a o g r t
  ne : w0.heap.size < D
theorem Pe.on {w0 w w' : World} {p b N : Nat} {M : Nat → Nat → Int} {D : Nat} {q : Option Addr} {f a : Int} {o : Bool} {g r t : Int} (h : Pe w0 w p b N M D q f a o g r t) (hB : Below w.heap.size w w') : Pe w0 w' p b N M D q f a o g r t := ⟨h.pr.on hB, h.box.on hB, h.ne⟩
theorem Pr.more {w0 w : World} {p b N : Nat} {M : Nat → Nat → Int} (h : Pr w0 w p b N M) (q : Option Addr) (f a : Int) (o : Bool) (g r t : Int) : Pe w0 (w.alloc (.cells #[.pointer q, .int .i64 f, .int .i64 a, .bool o, .int .i64 g, .int .i64 r, .int .i64 t] 128)) p b N M w.heap.size q f a o g r t :=
  ⟨h.on (bal (Below.refl _ _) _), box7_new w q f a o g r t 128, h.res.lt⟩
theorem res4 {w0 w : World} (h : Below w0.heap.size w0 w) (a b c d : Value) : Below w0.heap.size w0 ((((w.setCell ⟨w0.heap.size, 0, none⟩ a).setCell ⟨w0.heap.size, 1, none⟩ b).setCell ⟨w0.heap.size, 2, none⟩ c).setCell ⟨w0.heap.size, 3, none⟩ d) :=
  bst (bst (bst (bst h (Nat.le_refl _) _ _) (Nat.le_refl _) _ _) (Nat.le_refl _) _ _) (Nat.le_refl _) _ _
set_option maxRecDepth 100000 in
set_option maxHeartbeats 2000000 in
theorem pwalk_any (p b N : Nat) (root page : Int) (M : Nat → Nat → Int) (w : World) (h : Mx w p b N M) :
    Calls Tryz.prog 49 #[.pointer (some ⟨p, 0, none⟩), .int .i64 root, .int .i64 page] w fun x w' => x = .returned (.tuple #[.agg #[.bool (wkO N M root page), .int .i64 (wkF N M root page), .int .i64 (wkR N M root page), .int .i64 (wkT N M root page)], .int .i64 (wkE N M root page)]) ∧ Below w.heap.size w w' := by
  have HE := hide (pr_new h)
  have HF : Hid (∀ wc, Mx wc p b N M → Calls Tryz.prog 68 #[.pointer (some ⟨p, 0, none⟩), .int .i64 root, .int .i64 page] wc fun x w' => x = .returned (.tuple #[.agg #[.pointer (waP N M root page p), .int .i64 (waF N M root page), .int .i64 (waA N M root page), .bool (wkO N M root page), .int .i64 (wkF N M root page), .int .i64 (wkR N M root page), .int .i64 (wkT N M root page)], .int .i64 (wkE N M root page)]) ∧ Below wc.heap.size wc w') := fun wc hc => walk_any p b N root page M wc hc
  clear h
  generalize wkE N M root page = E at HF ⊢
  generalize wkO N M root page = O at HF ⊢
  generalize wkF N M root page = F at HF ⊢
  generalize wkR N M root page = R at HF ⊢
  generalize wkT N M root page = T at HF ⊢
  generalize waF N M root page = L at HF
  generalize waA N M root page = A at HF
  generalize waP N M root page p = P at HF
  go_enter Tryz.func49, Tryz.ntmps49
  go_upto_region 2 with (first
    | (go_at_call 68; refine (HF.out _ HE.out.mx).mono ?_; rintro e1 w1 ⟨rfl, hb⟩; have H1 := (HE.out.on hb).more P L A O F R T; clear hb HE)
    | fail)
  generalize w1.alloc _ = w2 at H1 ⊢
  generalize w1.heap.size = D at H1 ⊢
  have H2 := hide H1
  clear H1
  have x0 := H2.out.pr.res.c0
  have x1 := H2.out.pr.res.c1
  have x2 := H2.out.pr.res.c2
  have x3 := H2.out.pr.res.c3
  have z0 := H2.out.pr.res.fz
  have xl := H2.out.pr.res.lt
  have y3 := H2.out.box.c3
  have y4 := H2.out.box.c4
  have y5 := H2.out.box.c5
  have y6 := H2.out.box.c6
  have yl := H2.out.box.lt
  have ne1 : ¬ D = w.heap.size := Nat.ne_of_gt H2.out.ne
  have ne2 : ¬ w.heap.size = D := Nat.ne_of_lt H2.out.ne
  go_wp2
  refine bodyPost_ret (v := .tuple #[.agg #[.bool O, .int .i64 F, .int .i64 R, .int .i64 T], .int .i64 E]) (by simp [results, Tryz.results49, go_sem, x0, x1, x2, x3]) rfl ⟨rfl, ?_⟩
  exact res4 H2.out.pr.below _ _ _ _
/-! ### Map -/
theorem chk_on (f r : Int) : Ppte.chk true f r 0 = if okA f r = true then 0 else 1 := by
  by_cases h : okA f r = true
  · rw [if_pos h]; exact Ppte.chk_yes (rt_on h)
  · rw [if_neg h]
    refine Ppte.chk_no fun k => h ((okA_iff f r).2 ?_)
    have := k.1 rfl
    omega
theorem fl_map {N : Nat} {M : Nat → Nat → Int} {root page f r floor : Int} (ha : okA f r = true) (hE : raE N M root page = 0) :
    lfE N M root page = 0 ∧ flE N (lfF N M root page) (page % 32) (raO N M root page) (raF N M root page) (raR N M root page) (raT N M root page) true f r 0 floor = maE N M root page f r floor ∧ flM N M (lfF N M root page) (page % 32) (raO N M root page) (raF N M root page) (raR N M root page) (raT N M root page) true f r 0 floor = maM N M root page f r floor := by
  have hl : lfE N M root page = 0 := by
    unfold raE at hE
    by_cases k : lfE N M root page = 0
    · exact k
    · rw [if_neg k] at hE; exact hE
  have hk : okW N (lfF N M root page) (4 + page % 32) = true := by
    unfold raE at hE
    rw [if_pos hl] at hE
    exact en_ok hE
  have hq : Ppte.quB (raO N M root page) (raF N M root page) (raR N M root page) (raT N M root page) floor = enQ N M (lfF N M root page) (page % 32) floor := by
    unfold enQ raO raF raR raT
    rw [hl]
    simp
  have e1 : maE N M root page f r floor = if raO N M root page = true then 10 else if enQ N M (lfF N M root page) (page % 32) floor = true then 0 else 6 := by simp only [maE, ha, hE, if_true]
  refine ⟨hl, ?_, ?_⟩
  · unfold flE
    rw [e1, hq, seE_yes (rt_on ha) hk]
  · unfold flM maM
    rw [e1, hq]
    cases raO N M root page
    · cases enQ N M (lfF N M root page) (page % 32) floor <;> simp
    · simp
/-- A mapping beside a memory and the tables. -/
structure Mp (w0 w : World) (p b N : Nat) (M : Nat → Nat → Int) (D : Nat) (o : Bool) (g r t : Int) : Prop where
  mx : Mx w p b N M
  below : Below w0.heap.size w0 w
  pte : Ppte.BoxP w D o g r t
theorem Mp.on {w0 w w' : World} {p b N : Nat} {M : Nat → Nat → Int} {D : Nat} {o : Bool} {g r t : Int} (h : Mp w0 w p b N M D o g r t) (hB : Below w.heap.size w w') : Mp w0 w' p b N M D o g r t := ⟨h.mx.on hB, h.below.trans (hB.mono h.below.size), h.pte.on hB⟩
theorem mp_new {w : World} {p b N : Nat} {M : Nat → Nat → Int} (h : Mx w p b N M) (o : Bool) (g r t : Int) : Mp w (w.alloc (.cells #[.bool o, .int .i64 g, .int .i64 r, .int .i64 t] 57)) p b N M w.heap.size o g r t :=
  ⟨h.on (bal (Below.refl _ _) _), bal (Below.refl _ _) _, Ppte.boxP_new w o g r t 57⟩
theorem Mp.more {w0 w : World} {p b N : Nat} {M : Nat → Nat → Int} {D : Nat} {o : Bool} {g r t : Int} (h : Mp w0 w p b N M D o g r t) (q : Option Addr) (f a : Int) (o' : Bool) (g' r' t' : Int) : Eb w0 (w.alloc (.cells #[.pointer q, .int .i64 f, .int .i64 a, .bool o', .int .i64 g', .int .i64 r', .int .i64 t'] 128)) p b N M w.heap.size D q f a o' g' r' t' o g r t :=
  ⟨h.mx.on (bal (Below.refl _ _) _), bal h.below _, box7_new w q f a o' g' r' t' 128, h.pte.on (bal (Below.refl _ _) _)⟩
set_option maxRecDepth 100000 in
set_option maxHeartbeats 2000000 in
theorem map_any (p b N : Nat) (root page f r floor : Int) (M : Nat → Nat → Int) (w : World) (h : Mx w p b N M) :
    Calls Tryz.prog 41 #[.pointer (some ⟨p, 0, none⟩), .int .i64 root, .int .i64 page, .int .i64 f, .int .i64 r, .int .i64 floor] w fun x w' => x = .returned (.int .i64 (maE N M root page f r floor)) ∧ Mx w' p b N (maM N M root page f r floor) ∧ But b w w' := by
  have HE := mp_new h true f r 0
  have HC : Hid (∀ wc, Calls Tryz.prog 64 #[.agg #[.bool true, .int .i64 f, .int .i64 r, .int .i64 0]] wc fun e w' => e = .returned (.int .i64 (if okA f r = true then 0 else 1)) ∧ Below wc.heap.size wc w') := fun wc => by
    have := Ppte.check_any true f r 0 wc
    rwa [chk_on] at this
  have HF : Hid (∀ wc, Mx wc p b N M → Calls Tryz.prog 65 #[.pointer (some ⟨p, 0, none⟩), .int .i64 root, .int .i64 page] wc fun x w' => x = .returned (.tuple #[.agg #[.pointer (fiP N M root page p), .int .i64 (lfF N M root page), .int .i64 (fiA N M root page), .bool (raO N M root page), .int .i64 (raF N M root page), .int .i64 (raR N M root page), .int .i64 (raT N M root page)], .int .i64 (raE N M root page)]) ∧ Below wc.heap.size wc w') := fun wc hc => find_any p b N root page M wc hc
  clear h
  have eM : maM N M root page f r floor = if maE N M root page f r floor = 0 then seM N M (lfF N M root page) (page % 32) true f r 0 else M := rfl
  by_cases ha : okA f r = true
  case neg =>
    have e0 : maE N M root page f r floor = 1 := by simp [maE, ha]
    rw [eM, e0, if_neg (by decide)]
    rw [if_neg ha] at HC
    clear eM e0 ha HF
    go_enter Tryz.func41, Tryz.ntmps41
    go_upto_region 2 with fail
    generalize w.alloc _ = w1 at HE ⊢
    have H1 := hide HE
    clear HE
    have y0 := H1.out.pte.c0
    have y1 := H1.out.pte.c1
    have y2 := H1.out.pte.c2
    have y3 := H1.out.pte.c3
    go_wp2_with (first
      | (go_at_call 64; refine (HC.out _).mono ?_; rintro e2 w2 ⟨rfl, hb⟩; have H2 := hide (H1.out.on hb); clear hb)
      | fail)
    go_ret
    exact ⟨rfl, H2.out.mx, But.of_below b H2.out.below⟩
  rw [if_pos ha] at HC
  by_cases hE : raE N M root page = 0
  case neg =>
    have e0 : maE N M root page f r floor = raE N M root page := by simp [maE, ha, hE]
    rw [eM, e0, if_neg hE]
    generalize raE N M root page = E at HF hE ⊢
    generalize raO N M root page = O at HF
    generalize raF N M root page = F at HF
    generalize raR N M root page = R at HF
    generalize raT N M root page = T at HF
    generalize lfF N M root page = L at HF
    generalize fiA N M root page = A at HF
    generalize fiP N M root page p = P at HF
    have hE' : (E != 0) = true := by simp [hE]
    clear eM e0 ha hE
    go_enter Tryz.func41, Tryz.ntmps41
    go_upto_region 2 with fail
    generalize w.alloc _ = w1 at HE ⊢
    have H1 := hide HE
    clear HE
    have y0 := H1.out.pte.c0
    have y1 := H1.out.pte.c1
    have y2 := H1.out.pte.c2
    have y3 := H1.out.pte.c3
    go_upto_region 5 with (first
      | (go_at_call 64; refine (HC.out _).mono ?_; rintro e2 w2 ⟨rfl, hb⟩; have H2 := hide (H1.out.on hb); clear hb)
      | (go_at_call 65; refine (HF.out _ H2.out.mx).mono ?_; rintro e3 w3 ⟨rfl, hb⟩; have H3 := (H2.out.on hb).more P L A O F R T; clear hb)
      | fail)
    generalize w3.alloc _ = w4 at H3 ⊢
    have H4 := hide H3
    clear H3
    go_wp2
    go_ret
    exact ⟨rfl, H4.out.mx, But.of_below b H4.out.below⟩
  obtain ⟨hl, q1, q2⟩ := fl_map (floor := floor) ha hE
  have g5 : fiP N M root page p = some ⟨p, 0, none⟩ := by simp [fiP, hl]
  have g6 : fiA N M root page = 4 + page % 32 := by simp [fiA, hl]
  rw [g5, g6, hE] at HF
  rw [← q1, ← q2]
  clear eM q1 q2 g5 g6 hl hE ha
  have HP : Hid (∀ wc, Mx wc p b N M → Calls Tryz.prog 63 #[.agg #[.pointer (some ⟨p, 0, none⟩), .int .i64 (lfF N M root page), .int .i64 (4 + page % 32), .bool (raO N M root page), .int .i64 (raF N M root page), .int .i64 (raR N M root page), .int .i64 (raT N M root page)], .agg #[.bool true, .int .i64 f, .int .i64 r, .int .i64 0], .int .i64 floor] wc fun x w' => x = .returned (.int .i64 (flE N (lfF N M root page) (page % 32) (raO N M root page) (raF N M root page) (raR N M root page) (raT N M root page) true f r 0 floor)) ∧ Mx w' p b N (flM N M (lfF N M root page) (page % 32) (raO N M root page) (raF N M root page) (raR N M root page) (raT N M root page) true f r 0 floor) ∧ But b wc w') := fun wc hc => fill_any p b N (lfF N M root page) (page % 32) (raO N M root page) (raF N M root page) (raR N M root page) (raT N M root page) true f r 0 floor M wc hc
  generalize flE N (lfF N M root page) (page % 32) (raO N M root page) (raF N M root page) (raR N M root page) (raT N M root page) true f r 0 floor = E at HP ⊢
  generalize flM N M (lfF N M root page) (page % 32) (raO N M root page) (raF N M root page) (raR N M root page) (raT N M root page) true f r 0 floor = M' at HP ⊢
  generalize raO N M root page = O at HF HP
  generalize raF N M root page = F at HF HP
  generalize raR N M root page = R at HF HP
  generalize raT N M root page = T at HF HP
  generalize lfF N M root page = L at HF HP
  generalize 4 + page % 32 = A at HF HP
  go_enter Tryz.func41, Tryz.ntmps41
  go_upto_region 2 with fail
  generalize w.alloc _ = w1 at HE ⊢
  generalize hDD : w.heap.size = DD at HE ⊢
  have HDD := hide hDD
  clear hDD
  have H1 := hide HE
  clear HE
  have y0 := H1.out.pte.c0
  have y1 := H1.out.pte.c1
  have y2 := H1.out.pte.c2
  have y3 := H1.out.pte.c3
  go_upto_region 5 with (first
    | (go_at_call 64; refine (HC.out _).mono ?_; rintro e2 w2 ⟨rfl, hb⟩; have H2 := hide (H1.out.on hb); clear hb H1 y0 y1 y2 y3)
    | (go_at_call 65; refine (HF.out _ H2.out.mx).mono ?_; rintro e3 w3 ⟨rfl, hb⟩; have H3 := (H2.out.on hb).more (some ⟨p, 0, none⟩) L A O F R T; clear hb H2)
    | fail)
  generalize w3.alloc _ = w4 at H3 ⊢
  generalize w3.heap.size = D at H3 ⊢
  have H4 := hide H3
  clear H3
  have x0 := H4.out.ent.c0
  have x1 := H4.out.ent.c1
  have x2 := H4.out.ent.c2
  have x3 := H4.out.ent.c3
  have x4 := H4.out.ent.c4
  have x5 := H4.out.ent.c5
  have x6 := H4.out.ent.c6
  have y0 := H4.out.pte.c0
  have y1 := H4.out.pte.c1
  have y2 := H4.out.pte.c2
  have y3 := H4.out.pte.c3
  go_wp2_with (first
    | (go_at_call 63; refine (HP.out _ H4.out.mx).mono ?_; rintro e5 w5 ⟨rfl, hm, hb⟩; have H5 := hide (And.intro hm ((But.of_below b H4.out.below).trans hb)); clear hm hb)
    | fail)
  go_ret
  exact ⟨rfl, H5.out⟩
end Go.Proofs.YthcgdgpflhdchaaGreatDoor.Ppgtbl

/- What Cons, Unmap and Decons of package pgtbl answer and do, for every argument. -/
namespace Go.Proofs.YthcgdgpflhdchaaGreatDoor.Ppgtbl
open Go.Proofs.YthcgdgpflhdchaaGreatDoor.Pbase Go.Proofs.YthcgdgpflhdchaaGreatDoor.Pmem Go.Proofs.YthcgdgpflhdchaaGreatDoor.Pradix
open Go.RowKit
set_option linter.unusedVariables false

/-! ### Cons -/
theorem fl_cons {N : Nat} {M : Nat → Nat → Int} {root high f floor : Int} (hN : N ≤ 64) (hi : okI high = true) (h1 : tbB N M root 0 = true) (h2 : tbB N M f 1 = true) (hE : enE N M root high = 0) :
    flE N root high (enO N M root high) (enF N M root high) (enR N M root high) (enT N M root high) true f 3 0 floor = coE N M root high f floor ∧ flM N M root high (enO N M root high) (enF N M root high) (enR N M root high) (enT N M root high) true f 3 0 floor = coM N M root high f floor := by
  have hf := okF_yes (tb_okF h2)
  have hr := rt_leaf hf.1 (show f < 64 by omega)
  have e1 : coE N M root high f floor = if enO N M root high = true then 10 else if enQ N M root high floor = true then 0 else 6 := by unfold coE; rw [if_pos hi, if_pos ⟨h1, h2⟩, if_pos hE]
  constructor
  · unfold flE
    rw [e1, seE_yes hr (en_ok hE)]
    rfl
  · unfold flM coM
    rw [e1]
    show (if enO N M root high = true then M else if enQ N M root high floor = true then seM N M root high true f 3 0 else M) = _
    cases enO N M root high
    · cases enQ N M root high floor <;> simp
    · simp
/-- An entry beside a memory and the tables. -/
structure En (w0 w : World) (p b N : Nat) (M : Nat → Nat → Int) (D : Nat) (q : Option Addr) (f a : Int) (o : Bool) (g r t : Int) : Prop where
  mx : Mx w p b N M
  below : Below w0.heap.size w0 w
  ent : Box7 w D q f a o g r t
theorem En.on {w0 w w' : World} {p b N : Nat} {M : Nat → Nat → Int} {D : Nat} {q : Option Addr} {f a : Int} {o : Bool} {g r t : Int} (h : En w0 w p b N M D q f a o g r t) (hB : Below w.heap.size w w') : En w0 w' p b N M D q f a o g r t := ⟨h.mx.on hB, h.below.trans (hB.mono h.below.size), h.ent.on hB⟩
theorem en_new {w0 w : World} {p b N : Nat} {M : Nat → Nat → Int} (h : Mx w p b N M) (hb : Below w0.heap.size w0 w) (q : Option Addr) (f a : Int) (o : Bool) (g r t : Int) : En w0 (w.alloc (.cells #[.pointer q, .int .i64 f, .int .i64 a, .bool o, .int .i64 g, .int .i64 r, .int .i64 t] 128)) p b N M w.heap.size q f a o g r t :=
  ⟨h.on (bal (Below.refl _ _) _), bal hb _, box7_new w q f a o g r t 128⟩
/-- A memory and the tables, grown. -/
structure Gw (w0 w : World) (p b N : Nat) (M : Nat → Nat → Int) : Prop where
  mx : Mx w p b N M
  below : Below w0.heap.size w0 w
theorem Gw.on {w0 w w' : World} {p b N : Nat} {M : Nat → Nat → Int} (h : Gw w0 w p b N M) (hB : Below w.heap.size w w') : Gw w0 w' p b N M := ⟨h.mx.on hB, h.below.trans (hB.mono h.below.size)⟩
theorem gw_new {w : World} {p b N : Nat} {M : Nat → Nat → Int} (h : Mx w p b N M) : Gw w w p b N M := ⟨h, Below.refl _ _⟩
theorem Gw.same {w0 w : World} {p b N : Nat} {M : Nat → Nat → Int} (h : Gw w0 w p b N M) : Mx w p b N M ∧ But b w0 w := ⟨h.mx, But.of_below b h.below⟩
set_option maxRecDepth 100000 in
set_option maxHeartbeats 2000000 in
theorem cons_any (p b N : Nat) (root high f floor : Int) (M : Nat → Nat → Int) (w : World) (h : Mx w p b N M) :
    Calls Tryz.prog 40 #[.pointer (some ⟨p, 0, none⟩), .int .i64 root, .int .i64 high, .int .i64 f, .int .i64 floor] w fun x w' => x = .returned (.int .i64 (coE N M root high f floor)) ∧ Mx w' p b N (coM N M root high f floor) ∧ But b w w' := by
  have H0 := hide (gw_new h)
  have HN := hide h.n64
  clear h
  have HI := hide (fun wc => isEntry_any high wc)
  have eM : coM N M root high f floor = if coE N M root high f floor = 0 then seM N M root high true f 3 0 else M := rfl
  by_cases hi : okI high = true
  case neg =>
    have e0 : coE N M root high f floor = 1 := by simp [coE, hi]
    rw [eM, e0, if_neg (by decide)]
    rw [show okI high = false by simpa using hi] at HI
    clear eM e0 hi
    go_enter Tryz.func40, Tryz.ntmps40
    go_wp2_with (first
      | (go_at_call 60; refine (HI.out _).mono ?_; rintro e1 w1 ⟨rfl, hw⟩; subst hw)
      | fail)
    go_ret
    exact ⟨rfl, H0.out.same⟩
  have hI := (okI_iff high).1 hi
  rw [hi] at HI
  have HT : Hid (∀ wc, Mx wc p b N M → Calls Tryz.prog 61 #[.pointer (some ⟨p, 0, none⟩), .int .i64 root, .int .i64 0] wc fun x w' => x = .returned (.bool (tbB N M root 0)) ∧ Below wc.heap.size wc w') := fun wc hc => isTable_any p b N root 0 M wc hc
  have HU : Hid (∀ wc, Mx wc p b N M → Calls Tryz.prog 61 #[.pointer (some ⟨p, 0, none⟩), .int .i64 f, .int .i64 1] wc fun x w' => x = .returned (.bool (tbB N M f 1)) ∧ Below wc.heap.size wc w') := fun wc hc => isTable_any p b N f 1 M wc hc
  have HR : Hid (∀ wc, Mx wc p b N M → Calls Tryz.prog 62 #[.pointer (some ⟨p, 0, none⟩), .int .i64 root, .int .i64 high] wc fun x w' => x = .returned (.tuple #[.agg #[.pointer (some ⟨p, 0, none⟩), .int .i64 root, .int .i64 (4 + high), .bool (enO N M root high), .int .i64 (enF N M root high), .int .i64 (enR N M root high), .int .i64 (enT N M root high)], .int .i64 (enE N M root high)]) ∧ Below wc.heap.size wc w') := fun wc hc => read_any p b N root high M wc hc hI
  clear hI
  by_cases h1 : tbB N M root 0 = true
  case neg =>
    have e0 : coE N M root high f floor = 4 := by simp [coE, hi, h1]
    rw [eM, e0, if_neg (by decide)]
    rw [show tbB N M root 0 = false by simpa using h1] at HT
    clear eM e0 hi h1 HU HR
    go_enter Tryz.func40, Tryz.ntmps40
    go_wp2_with (first
      | (go_at_call 60; refine (HI.out _).mono ?_; rintro e1 w1 ⟨rfl, hw⟩; subst hw)
      | (go_at_call 61; refine (HT.out _ H0.out.mx).mono ?_; rintro e2 w2 ⟨rfl, hb⟩; have H2 := hide (H0.out.on hb); clear hb)
      | fail)
    go_ret
    exact ⟨rfl, H2.out.same⟩
  rw [h1] at HT
  by_cases h2 : tbB N M f 1 = true
  case neg =>
    have e0 : coE N M root high f floor = 4 := by simp [coE, hi, h2]
    rw [eM, e0, if_neg (by decide)]
    rw [show tbB N M f 1 = false by simpa using h2] at HU
    clear eM e0 hi h1 h2 HR
    go_enter Tryz.func40, Tryz.ntmps40
    go_wp2_with (first
      | (go_at_call 60; refine (HI.out _).mono ?_; rintro e1 w1 ⟨rfl, hw⟩; subst hw)
      | (go_at_call 61; with_reducible refine (HT.out _ H0.out.mx).mono ?_; rintro e2 w2 ⟨rfl, hb⟩; have H2 := hide (H0.out.on hb); clear hb H0)
      | (go_at_call 61; with_reducible refine (HU.out _ H2.out.mx).mono ?_; rintro e3 w3 ⟨rfl, hb⟩; have H3 := hide (H2.out.on hb); clear hb)
      | fail)
    go_ret
    exact ⟨rfl, H3.out.same⟩
  rw [h2] at HU
  by_cases hE : enE N M root high = 0
  case neg =>
    have e0 : coE N M root high f floor = enE N M root high := by simp [coE, hi, h1, h2, hE]
    rw [eM, e0, if_neg hE]
    generalize enE N M root high = E at HR hE ⊢
    generalize enO N M root high = O at HR
    generalize enF N M root high = F at HR
    generalize enR N M root high = R at HR
    generalize enT N M root high = T at HR
    generalize 4 + high = A at HR
    have hE' : (E != 0) = true := by simp [hE]
    clear eM e0 hi h1 h2 hE
    go_enter Tryz.func40, Tryz.ntmps40
    go_upto_region 6 with (first
      | (go_at_call 60; refine (HI.out _).mono ?_; rintro e1 w1 ⟨rfl, hw⟩; subst hw)
      | (go_at_call 61; with_reducible refine (HT.out _ H0.out.mx).mono ?_; rintro e2 w2 ⟨rfl, hb⟩; have H2 := hide (H0.out.on hb); clear hb H0)
      | (go_at_call 61; with_reducible refine (HU.out _ H2.out.mx).mono ?_; rintro e3 w3 ⟨rfl, hb⟩; have H3 := hide (H2.out.on hb); clear hb)
      | (go_at_call 62; refine (HR.out _ H3.out.mx).mono ?_; rintro e4 w4 ⟨rfl, hb⟩; have H4 := (H3.out.on hb).on (bal (Below.refl _ _) (.cells #[.pointer (some ⟨p, 0, none⟩), .int .i64 root, .int .i64 A, .bool O, .int .i64 F, .int .i64 R, .int .i64 T] 128)); clear hb)
      | fail)
    generalize w4.alloc _ = w5 at H4 ⊢
    have H5 := hide H4
    clear H4
    go_wp2
    go_ret
    exact ⟨rfl, H5.out.same⟩
  obtain ⟨q1, q2⟩ := fl_cons (floor := floor) HN.out hi h1 h2 hE
  rw [← q1, ← q2]
  rw [hE] at HR
  clear eM q1 q2 hi h1 h2 hE
  have HP : Hid (∀ wc, Mx wc p b N M → Calls Tryz.prog 63 #[.agg #[.pointer (some ⟨p, 0, none⟩), .int .i64 root, .int .i64 (4 + high), .bool (enO N M root high), .int .i64 (enF N M root high), .int .i64 (enR N M root high), .int .i64 (enT N M root high)], .agg #[.bool true, .int .i64 f, .int .i64 3, .int .i64 0], .int .i64 floor] wc fun x w' => x = .returned (.int .i64 (flE N root high (enO N M root high) (enF N M root high) (enR N M root high) (enT N M root high) true f 3 0 floor)) ∧ Mx w' p b N (flM N M root high (enO N M root high) (enF N M root high) (enR N M root high) (enT N M root high) true f 3 0 floor) ∧ But b wc w') := fun wc hc => fill_any p b N root high _ _ _ _ true f 3 0 floor M wc hc
  generalize flE N root high (enO N M root high) (enF N M root high) (enR N M root high) (enT N M root high) true f 3 0 floor = E at HP ⊢
  generalize flM N M root high (enO N M root high) (enF N M root high) (enR N M root high) (enT N M root high) true f 3 0 floor = M' at HP ⊢
  generalize enO N M root high = O at HR HP
  generalize enF N M root high = F at HR HP
  generalize enR N M root high = R at HR HP
  generalize enT N M root high = T at HR HP
  generalize 4 + high = A at HR HP
  go_enter Tryz.func40, Tryz.ntmps40
  go_upto_region 6 with (first
    | (go_at_call 60; refine (HI.out _).mono ?_; rintro e1 w1 ⟨rfl, hw⟩; subst hw)
    | (go_at_call 61; with_reducible refine (HT.out _ H0.out.mx).mono ?_; rintro e2 w2 ⟨rfl, hb⟩; have H2 := hide (H0.out.on hb); clear hb H0)
    | (go_at_call 61; with_reducible refine (HU.out _ H2.out.mx).mono ?_; rintro e3 w3 ⟨rfl, hb⟩; have H3 := hide (H2.out.on hb); clear hb)
    | (go_at_call 62; refine (HR.out _ H3.out.mx).mono ?_; rintro e4 w4 ⟨rfl, hb⟩; have H4 := en_new (H3.out.on hb).mx (H3.out.on hb).below (some ⟨p, 0, none⟩) root A O F R T; clear hb)
    | fail)
  generalize w4.alloc _ = w5 at H4 ⊢
  generalize w4.heap.size = D at H4 ⊢
  have H5 := hide H4
  clear H4
  have x0 := H5.out.ent.c0
  have x1 := H5.out.ent.c1
  have x2 := H5.out.ent.c2
  have x3 := H5.out.ent.c3
  have x4 := H5.out.ent.c4
  have x5 := H5.out.ent.c5
  have x6 := H5.out.ent.c6
  go_wp2_with (first
    | (go_at_call 63; refine (HP.out _ H5.out.mx).mono ?_; rintro e6 w6 ⟨rfl, hm, hb⟩; have H6 := hide (And.intro hm ((But.of_below b H5.out.below).trans hb)); clear hm hb)
    | fail)
  go_ret
  exact ⟨rfl, H6.out⟩
/-! ### Unmap -/
/-- What a put leaves of the entry's block; and behind what is stored into the result. -/
theorem ent_but {w w' : World} {b D : Nat} {q : Option Addr} {f a : Int} {o : Bool} {g r t : Int} (h : Box7 w D q f a o g r t) (hB : But b w w') (hn : D ≠ b) :
    w'.cell? ⟨D, 0, none⟩ = some (.pointer q) ∧ w'.cell? ⟨D, 1, none⟩ = some (.int .i64 f) ∧ w'.cell? ⟨D, 2, none⟩ = some (.int .i64 a) ∧ w'.cell? ⟨D, 3, none⟩ = some (.bool o) ∧ w'.cell? ⟨D, 4, none⟩ = some (.int .i64 g) ∧ w'.cell? ⟨D, 5, none⟩ = some (.int .i64 r) ∧ w'.cell? ⟨D, 6, none⟩ = some (.int .i64 t) :=
  ⟨(h.but hB hn).c0, (h.but hB hn).c1, (h.but hB hn).c2, (h.but hB hn).c3, (h.but hB hn).c4, (h.but hB hn).c5, (h.but hB hn).c6⟩
theorem put4_other (w : World) (B : Nat) (x y z v : Value) (k : Nat) (hk : k ≠ B) : ((((w.setCell ⟨B, 0, none⟩ x).setCell ⟨B, 1, none⟩ y).setCell ⟨B, 2, none⟩ z).setCell ⟨B, 3, none⟩ v).heap[k]? = w.heap[k]? := by
  rw [heap_setCell_other _ _ _ _ hk, heap_setCell_other _ _ _ _ hk, heap_setCell_other _ _ _ _ hk, heap_setCell_other _ _ _ _ hk]
theorem put4_but {w0 w : World} {b : Nat} (h : But b w0 w) (x y z v : Value) : But b w0 ((((w.setCell ⟨w0.heap.size, 0, none⟩ x).setCell ⟨w0.heap.size, 1, none⟩ y).setCell ⟨w0.heap.size, 2, none⟩ z).setCell ⟨w0.heap.size, 3, none⟩ v) :=
  but_on h (((((Below.refl w0.heap.size w).setCell (p := ⟨w0.heap.size, 0, none⟩) (Nat.le_refl _) x).setCell (p := ⟨w0.heap.size, 1, none⟩) (Nat.le_refl _) y).setCell (p := ⟨w0.heap.size, 2, none⟩) (Nat.le_refl _) z).setCell (p := ⟨w0.heap.size, 3, none⟩) (Nat.le_refl _) v)
theorem ent_put4 {w w' : World} {b D B : Nat} {q : Option Addr} {f a : Int} {o : Bool} {g r t : Int} (h : Box7 w D q f a o g r t) (hB : But b w w') (hn : D ≠ b) (hD : D ≠ B) (x y z v : Value) :
    ((((w'.setCell ⟨B, 0, none⟩ x).setCell ⟨B, 1, none⟩ y).setCell ⟨B, 2, none⟩ z).setCell ⟨B, 3, none⟩ v).cell? ⟨D, 0, none⟩ = some (.pointer q) ∧ ((((w'.setCell ⟨B, 0, none⟩ x).setCell ⟨B, 1, none⟩ y).setCell ⟨B, 2, none⟩ z).setCell ⟨B, 3, none⟩ v).cell? ⟨D, 1, none⟩ = some (.int .i64 f) ∧ ((((w'.setCell ⟨B, 0, none⟩ x).setCell ⟨B, 1, none⟩ y).setCell ⟨B, 2, none⟩ z).setCell ⟨B, 3, none⟩ v).cell? ⟨D, 2, none⟩ = some (.int .i64 a) ∧ ((((w'.setCell ⟨B, 0, none⟩ x).setCell ⟨B, 1, none⟩ y).setCell ⟨B, 2, none⟩ z).setCell ⟨B, 3, none⟩ v).cell? ⟨D, 3, none⟩ = some (.bool o) ∧ ((((w'.setCell ⟨B, 0, none⟩ x).setCell ⟨B, 1, none⟩ y).setCell ⟨B, 2, none⟩ z).setCell ⟨B, 3, none⟩ v).cell? ⟨D, 4, none⟩ = some (.int .i64 g) ∧ ((((w'.setCell ⟨B, 0, none⟩ x).setCell ⟨B, 1, none⟩ y).setCell ⟨B, 2, none⟩ z).setCell ⟨B, 3, none⟩ v).cell? ⟨D, 5, none⟩ = some (.int .i64 r) ∧ ((((w'.setCell ⟨B, 0, none⟩ x).setCell ⟨B, 1, none⟩ y).setCell ⟨B, 2, none⟩ z).setCell ⟨B, 3, none⟩ v).cell? ⟨D, 6, none⟩ = some (.int .i64 t) := by
  have hb := put4_other w' B x y z v D hD
  have hk := ent_but h hB hn
  generalize ((((w'.setCell ⟨B, 0, none⟩ x).setCell ⟨B, 1, none⟩ y).setCell ⟨B, 2, none⟩ z).setCell ⟨B, 3, none⟩ v) = w10 at hb ⊢
  have e : ∀ j, w10.cell? ⟨D, j, none⟩ = w'.cell? ⟨D, j, none⟩ := fun j => World.cell?_of_block (w := w') hb
  exact ⟨(e 0).trans hk.1, (e 1).trans hk.2.1, (e 2).trans hk.2.2.1, (e 3).trans hk.2.2.2.1, (e 4).trans hk.2.2.2.2.1, (e 5).trans hk.2.2.2.2.2.1, (e 6).trans hk.2.2.2.2.2.2⟩
/-- A memory of which the result's block is no part. -/
theorem mx_put4 {w0 w : World} {p b N : Nat} {M : Nat → Nat → Int} (h : Mx w p b N M) (hp : p < w0.heap.size) (hb : b < w0.heap.size) (hB : But b w0 w) (hn : ∀ w', But b w0 w' → Tb w') (x y z v : Value) : Mx ((((w.setCell ⟨w0.heap.size, 0, none⟩ x).setCell ⟨w0.heap.size, 1, none⟩ y).setCell ⟨w0.heap.size, 2, none⟩ z).setCell ⟨w0.heap.size, 3, none⟩ v) p b N M := by
  have ho := put4_other w w0.heap.size x y z v
  exact ⟨h.mem.on (ho p (by omega)) (ho b (by omega)), hn _ (put4_but hB x y z v), h.fit, h.n1, h.n64⟩
theorem tb_but {w0 : World} {p b N : Nat} {M : Nat → Nat → Int} (h : Mx w0 p b N M) : ∀ w', But b w0 w' → Tb w' := fun w' hB =>
  ⟨h.tb.th.but hB (Phead.tab_ne h.mem h.tb.th), pt_but h.tb.tp hB (pt_ne h.mem h.tb.tp), wp_but h.tb.tr hB (wp_ne h.mem h.tb.tr)⟩
end Go.Proofs.YthcgdgpflhdchaaGreatDoor.Ppgtbl

/- What Decons of package pgtbl answers and does, for every argument. -/
namespace Go.Proofs.YthcgdgpflhdchaaGreatDoor.Ppgtbl
open Go.Proofs.YthcgdgpflhdchaaGreatDoor.Pbase Go.Proofs.YthcgdgpflhdchaaGreatDoor.Pmem Go.Proofs.YthcgdgpflhdchaaGreatDoor.Pradix
open Go.RowKit
set_option linter.unusedVariables false

end Go.Proofs.YthcgdgpflhdchaaGreatDoor.Ppgtbl

/- The iterator over the entries of a frame (entries), and what Used of package pgtbl answers, for every frame. -/
namespace Go.Proofs.YthcgdgpflhdchaaGreatDoor.Ppgtbl
open Go.Proofs.YthcgdgpflhdchaaGreatDoor.Pbase Go.Proofs.YthcgdgpflhdchaaGreatDoor.Pfield Go.Proofs.YthcgdgpflhdchaaGreatDoor.Pmem Go.Proofs.YthcgdgpflhdchaaGreatDoor.Pradix
open Go.RowKit Go.Shelf M
attribute [local go_sem] Oper.semAt_some
set_option linter.unusedVariables false

theorem grown_none {W W' : World} (h : Below W.heap.size W W') : W.grownBy W' none := ⟨h.os, h.tape, h.output, h.size, fun k hk _ => h.block k hk⟩
theorem row_ne {W : World} {l : Nat} {o : Obj} (hl : W.heap[l]? = some o) (ho : o.isCells = false) {q : Nat} {cs : Array Value} {t : TypeId} {fr : Nat × Nat} (h : W.heap[q]? = some (.cells cs t fr)) : q ≠ l := by
  rintro rfl
  rw [hl] at h
  cases h
  simp [Obj.isCells] at ho
theorem but_putObj (W : World) (l : Nat) (o : Obj) : But l W (W.putObj l o) := ⟨rfl, rfl, rfl, by simp, fun k _ hk => World.putObj_heap_other hk⟩
/-- What the iterator stands on: the two variables that it holds, a memory and the tables. -/
structure It (W : World) (Bm p b N : Nat) (M : Nat → Nat → Int) (f : Int) : Prop where
  bm : Boxed W Bm 25 (.pointer (some ⟨p, 0, none⟩))
  bf : Boxed W (Bm + 1) 3 (.int .i64 f)
  mx : Mx W p b N M
theorem It.on {W W' : World} {Bm p b N : Nat} {M : Nat → Nat → Int} {f : Int} (h : It W Bm p b N M f) (hB : Below W.heap.size W W') : It W' Bm p b N M f :=
  ⟨h.bm.kept (grown_none hB) (by simp), h.bf.kept (grown_none hB) (by simp), h.mx.on hB⟩
theorem It.putObj {W : World} {Bm p b N : Nat} {M : Nat → Nat → Int} {f : Int} (h : It W Bm p b N M f) {l : Nat} {o : Obj} (o' : Obj) (hl : W.heap[l]? = some o) (ho : o.isCells = false) : It (W.putObj l o') Bm p b N M f := by
  have hB := but_putObj W l o'
  have n1 : p ≠ l := row_ne hl ho h.mx.mem.head
  have n2 : b ≠ l := row_ne hl ho h.mx.mem.row
  have n3 : 3 ≠ l := by obtain ⟨t, fr, hr⟩ := h.mx.tb.th.row; exact row_ne hl ho hr
  have n4 : 2 ≠ l := by obtain ⟨t, fr, hr⟩ := h.mx.tb.tp.row; exact row_ne hl ho hr
  have n5 : 1 ≠ l := by obtain ⟨t, fr, hr⟩ := h.mx.tb.tr.p; exact row_ne hl ho hr
  refine ⟨h.bm.kept (grownBy_putObj' W l o') (fun e => row_ne hl ho h.bm (by cases e; rfl)), h.bf.kept (grownBy_putObj' W l o') (fun e => row_ne hl ho h.bf (by cases e; rfl)), ⟨h.mx.mem.on (hB.block p h.mx.mem.lt.1 n1) (hB.block b h.mx.mem.lt.2 n2), ⟨h.mx.tb.th.but hB n3, pt_but h.mx.tb.tp hB n4, wp_but h.mx.tb.tr hB n5⟩, h.mx.fit, h.mx.n1, h.mx.n64⟩⟩
/-- What a round is handed. -/
def cells7 (p N : Nat) (M : Nat → Nat → Int) (f : Int) (x : Fin 32) : Array Value := #[.pointer (some ⟨p, 0, none⟩), .int .i64 f, .int .i64 (4 + (x.1 : Nat)), .bool (enO N M f (x.1 : Nat)), .int .i64 (enF N M f (x.1 : Nat)), .int .i64 (enR N M f (x.1 : Nat)), .int .i64 (enT N M f (x.1 : Nat))]
def encE (p N : Nat) (M : Nat → Nat → Int) (f : Int) (x : Fin 32) : Array Value :=
  #[.agg #[.pointer (some ⟨p, 0, none⟩), .int .i64 f, .int .i64 (4 + (x.1 : Nat)), .bool (enO N M f (x.1 : Nat)), .int .i64 (enF N M f (x.1 : Nat)), .int .i64 (enR N M f (x.1 : Nat)), .int .i64 (enT N M f (x.1 : Nat))], .int .i64 (enE N M f (x.1 : Nat))]

/-! ### Used -/
/-- How many of these are On. -/
def onL (N : Nat) (M : Nat → Nat → Int) (f : Int) (pre : List (Fin 32)) : Int := pre.foldl (fun s x => s + if enO N M f (x.1 : Nat) = true then 1 else 0) 0
theorem onL_snoc (N : Nat) (M : Nat → Nat → Int) (f : Int) (pre : List (Fin 32)) (x : Fin 32) : onL N M f (pre ++ [x]) = onL N M f pre + if enO N M f (x.1 : Nat) = true then 1 else 0 := by simp [onL]
theorem onL_upto (N : Nat) (M : Nat → Nat → Int) (f : Int) : ∀ k : Nat, k ≤ 32 → onL N M f (upto 32 k) = onTo N M f k
  | 0, _ => rfl
  | k + 1, h => by
    rw [upto_succ (by omega : k < 32), onL_snoc, onL_upto N M f k (by omega)]
    rfl
theorem foldl_bd (g : Fin 32 → Int) (hg : ∀ x, 0 ≤ g x ∧ g x ≤ 1) : ∀ (pre : List (Fin 32)) (s : Int), s ≤ pre.foldl (fun s x => s + g x) s ∧ pre.foldl (fun s x => s + g x) s ≤ s + pre.length
  | [], s => by simp
  | x :: pre, s => by
    have := foldl_bd g hg pre (s + g x)
    have := hg x
    simp only [List.foldl_cons, List.length_cons]
    omega
theorem onL_bd (N : Nat) (M : Nat → Nat → Int) (f : Int) (pre : List (Fin 32)) : 0 ≤ onL N M f pre ∧ onL N M f pre ≤ pre.length := by
  have := foldl_bd (fun x => if enO N M f (x.1 : Nat) = true then 1 else 0) (fun x => by split <;> omega) pre 0
  unfold onL
  omega
/-- What the variables of Used hold between two rounds. B: where Used began; S: where the count lies. -/
structure UsI (w : World) (B S p N : Nat) (M : Nat → Nat → Int) (f : Int) (pre : List (Fin 32)) (W : World) : Prop where
  ok : ∀ j ∈ pre, enE N M f (j.1 : Nat) = 0
  b0 : Boxed W B 3 (.int .i64 0)
  b1 : Boxed W (B + 1) 30 (.int .i64 0)
  bu : Boxed W S 3 (.int .i64 (onL N M f pre))
  bm : Boxed W (S + 1) 25 (.pointer (some ⟨p, 0, none⟩))
  bf : Boxed W (S + 1 + 1) 3 (.int .i64 f)
  below : Below B w W
theorem usI_own (w : World) (B S p N : Nat) (M : Nat → Nat → Int) (f : Int) {B' : Nat} (hB : B ≤ B') (hw : B ≤ w.heap.size) : OwnFrom B' (UsI w B S p N M f) := fun pre A C row hs hg hr => by
  have hr' : ∀ r, row = some r → ∃ o : Obj, A.heap[r]? = some o ∧ o.isCells = false := fun r e => (hr r e).2
  exact ⟨hs.ok, boxed_own _ _ (fun _ : Unit => .int .i64 0) () A C row hs.b0 hg hr', boxed_own _ _ (fun _ : Unit => .int .i64 0) () A C row hs.b1 hg hr', boxed_own _ _ (fun _ : Unit => .int .i64 (onL N M f pre)) () A C row hs.bu hg hr', boxed_own _ _ (fun _ : Unit => .pointer (some ⟨p, 0, none⟩)) () A C row hs.bm hg hr', boxed_own _ _ (fun _ : Unit => .int .i64 f) () A C row hs.bf hg hr', ownFrom_below hw hB pre A C row hs.below hg hr⟩
/-- What they hold where a round has left. -/
structure UsX (w : World) (B N : Nat) (M : Nat → Nat → Int) (f : Int) (c : Code) (pre : List (Fin 32)) (W : World) : Prop where
  code : c = .ret
  bad : ∃ x : Fin 32, enE N M f (x.1 : Nat) ≠ 0 ∧ Boxed W (B + 1) 30 (.int .i64 (enE N M f (x.1 : Nat)))
  b0 : Boxed W B 3 (.int .i64 0)
  below : Below B w W
theorem usX_own (w : World) (B N : Nat) (M : Nat → Nat → Int) (f : Int) (c : Code) {B' : Nat} (hB : B ≤ B') (hw : B ≤ w.heap.size) : OwnFrom B' (UsX w B N M f c) := fun pre A C row hs hg hr => by
  have hr' : ∀ r, row = some r → ∃ o : Obj, A.heap[r]? = some o ∧ o.isCells = false := fun r e => (hr r e).2
  obtain ⟨x, h1, h2⟩ := hs.bad
  exact ⟨hs.code, ⟨x, h1, boxed_own _ _ (fun _ : Unit => .int .i64 (enE N M f (x.1 : Nat))) () A C row h2 hg hr'⟩, boxed_own _ _ (fun _ : Unit => .int .i64 0) () A C row hs.b0 hg hr', ownFrom_below hw hB pre A C row hs.below hg hr⟩
/-- Where the iterator's things lie. -/
theorem UsI.it {w : World} {p b N : Nat} {M : Nat → Nat → Int} {f : Int} {S : Nat} {pre : List (Fin 32)} {W : World} (h : UsI w w.heap.size S p N M f pre W) (hM : Mx w p b N M) : It W (S + 1) p b N M f :=
  ⟨h.bm, h.bf, hM.on h.below⟩
/-- The two results, and what Is leaves. -/
structure Us0 (w w1 : World) (p b N : Nat) (M : Nat → Nat → Int) : Prop where
  b0 : Boxed w1 w.heap.size 3 (.int .i64 0)
  b1 : Boxed w1 (w.heap.size + 1) 30 (.int .i64 0)
  below : Below w.heap.size w w1
  mx : Mx w1 p b N M
theorem us0_new {w : World} {p b N : Nat} {M : Nat → Nat → Int} (h : Mx w p b N M) : Us0 w ((w.alloc (.cells #[.int .i64 0] 3)).alloc (.cells #[.int .i64 0] 30)) p b N M := by
  have b0 := Boxed.new w 3 (.int .i64 0)
  have b1 := Boxed.new (w.alloc (.cells #[.int .i64 0] 3)) 30 (.int .i64 0)
  rw [World.size_alloc] at b1
  exact ⟨b0.alloc _, b1, bal (bal (Below.refl _ _) _) _, (h.on (bal (Below.refl _ _) _)).on (bal (Below.refl _ _) _)⟩
theorem Us0.on {w w1 w2 : World} {p b N : Nat} {M : Nat → Nat → Int} (h : Us0 w w1 p b N M) (hB : Below w1.heap.size w1 w2) : Us0 w w2 p b N M :=
  ⟨h.b0.kept (grown_none hB) (by simp), h.b1.kept (grown_none hB) (by simp), h.below.trans (hB.mono h.below.size), h.mx.on hB⟩
end Go.Proofs.YthcgdgpflhdchaaGreatDoor.Ppgtbl

/- A memory made anew; a memory of the call's own, and mappings in blocks beside it; what 'awake' and 'walked' of the statements answer. -/
namespace Go.Proofs.YthcgdgpflhdchaaGreatDoor.Ppgtbl
open Go.Proofs.YthcgdgpflhdchaaGreatDoor.Pbase Go.Proofs.YthcgdgpflhdchaaGreatDoor.Pmem Go.Proofs.YthcgdgpflhdchaaGreatDoor.Pradix
open Go.RowKit
set_option linter.unusedVariables false

theorem mx_new {w : World} (h : Tb w) {N : Nat} (h1 : 1 ≤ N) (h2 : N ≤ 64) : Mx (newW w N) (w.heap.size + 1) w.heap.size N fun _ _ => 0 :=
  ⟨newW_is w N, h.on (newW_below w N), Fit.zero, h1, h2⟩
theorem two_eq (N : Nat) : Phead.mkM N (Phead.mkM N (fun _ _ => 0) 0 2 0 false 0) 1 2 1 false 0 = twoM N := rfl
/-- A memory of the call's own. -/
structure Own (w0 w : World) (p b N : Nat) (M : Nat → Nat → Int) : Prop where
  mx : Mx w p b N M
  below : Below w0.heap.size w0 w
  lo : w0.heap.size ≤ b
theorem Own.on {w0 w w' : World} {p b N : Nat} {M : Nat → Nat → Int} (h : Own w0 w p b N M) (hB : Below w.heap.size w w') : Own w0 w' p b N M := ⟨h.mx.on hB, h.below.trans (hB.mono h.below.size), h.lo⟩
theorem Own.but {w0 w w' : World} {p b N : Nat} {M M' : Nat → Nat → Int} (h : Own w0 w p b N M) (hm : Mx w' p b N M') (hB : But b w w') : Own w0 w' p b N M' := ⟨hm, h.below.trans (hB.below h.lo h.below.size), h.lo⟩
theorem own_new {w : World} (h : Tb w) {N : Nat} (h1 : 1 ≤ N) (h2 : N ≤ 64) : Own w (newW w N) (w.heap.size + 1) w.heap.size N fun _ _ => 0 := ⟨mx_new h h1 h2, newW_below w N, Nat.le_refl _⟩
/-! ### mappings in blocks -/
def P4 : Type := Bool × Int × Int × Int
def Bx (w : World) (D : Nat) (x : P4) : Prop := Ppte.BoxP w D x.1 x.2.1 x.2.2.1 x.2.2.2
theorem boxP_but {w w' : World} {B q : Nat} {o : Bool} {f r t : Int} (h : Ppte.BoxP w B o f r t) (hB : But q w w') (hn : B ≠ q) : Ppte.BoxP w' B o f r t :=
  ⟨Nat.lt_of_lt_of_le h.lt hB.size, (hB.cell h.lt hn).trans h.c0, (hB.cell h.lt hn).trans h.c1, (hB.cell h.lt hn).trans h.c2, (hB.cell h.lt hn).trans h.c3, fun j => (hB.frozen h.lt hn).trans (h.fz j)⟩
/-- A memory of the call's own, and mappings in blocks beside it. -/
structure Qs (w0 w : World) (p b N : Nat) (M : Nat → Nat → Int) (x : List (Nat × P4)) : Prop where
  own : Own w0 w p b N M
  bx : ∀ c ∈ x, Bx w c.1 c.2 ∧ c.1 ≠ b
section
variable {w0 w w' : World} {p b N : Nat} {M M' : Nat → Nat → Int} {x : List (Nat × P4)}
theorem qs_new (h : Own w0 w p b N M) : Qs w0 w p b N M [] := ⟨h, fun c hc => by cases hc⟩
theorem Qs.on (h : Qs w0 w p b N M x) (hB : Below w.heap.size w w') : Qs w0 w' p b N M x := ⟨h.own.on hB, fun c hc => ⟨(h.bx c hc).1.on hB, (h.bx c hc).2⟩⟩
theorem Qs.but (h : Qs w0 w p b N M x) (hm : Mx w' p b N M') (hB : But b w w') : Qs w0 w' p b N M' x := ⟨h.own.but hm hB, fun c hc => ⟨boxP_but (h.bx c hc).1 hB (h.bx c hc).2, (h.bx c hc).2⟩⟩
theorem Qs.more (h : Qs w0 w p b N M x) (o : Bool) (f r t : Int) (ty : TypeId) : Qs w0 (w.alloc (.cells #[.bool o, .int .i64 f, .int .i64 r, .int .i64 t] ty)) p b N M ((w.heap.size, (o, f, r, t)) :: x) := by
  refine ⟨h.own.on (bal (Below.refl _ _) _), fun c hc => ?_⟩
  rcases List.mem_cons.1 hc with rfl | hc
  · exact ⟨Ppte.boxP_new w o f r t ty, Nat.ne_of_gt h.own.mx.mem.lt.2⟩
  · exact ⟨(h.bx c hc).1.on (bal (Below.refl _ _) _), (h.bx c hc).2⟩
theorem Qs.first {D : Nat} {o : Bool} {f r t : Int} (h : Qs w0 w p b N M ((D, (o, f, r, t)) :: x)) : Ppte.BoxP w D o f r t := (h.bx _ (List.mem_cons_self ..)).1
theorem Qs.second {D : Nat} {c : Nat × P4} {o : Bool} {f r t : Int} (h : Qs w0 w p b N M (c :: (D, (o, f, r, t)) :: x)) : Ppte.BoxP w D o f r t := (h.bx _ (List.mem_cons_of_mem _ (List.mem_cons_self ..))).1
theorem Qs.third {D : Nat} {c c' : Nat × P4} {o : Bool} {f r t : Int} (h : Qs w0 w p b N M (c :: c' :: (D, (o, f, r, t)) :: x)) : Ppte.BoxP w D o f r t := (h.bx _ (List.mem_cons_of_mem _ (List.mem_cons_of_mem _ (List.mem_cons_self ..)))).1
end
/-! ### walked, awake -/
end Go.Proofs.YthcgdgpflhdchaaGreatDoor.Ppgtbl

/- The document's tables of mappings: Make, Table, entry, set, leaf. -/
namespace Go.Proofs.YthcgdgpflhdchaaGreatDoor.Ppgtbl
open Go.Proofs.YthcgdgpflhdchaaGreatDoor.Pbase Go.Proofs.YthcgdgpflhdchaaGreatDoor.Pmem
open Go.RowKit
set_option linter.unusedVariables false

theorem rhide {p : Prop} (h : p) : Hid p := h
/-! ### the document's memory -/
structure Rx (w : World) (base q N : Nat) (M : Nat → Nat → Int) : Prop where
  ref : RefIs w base q N M
  fit : Fit M
  n1 : 1 ≤ N
  n64 : N ≤ 64
theorem Rx.grown {w w' : World} {base q N : Nat} {M : Nat → Nat → Int} (h : Rx w base q N M) (hB : Below w.heap.size w w') : Rx w' base q N M := ⟨h.ref.grown hB, h.fit, h.n1, h.n64⟩
theorem Rx.turn {w w' : World} {base q N : Nat} {M M' : Nat → Nat → Int} (h : Rx w base q N M) (hR : RefIs w' base q N M') (hF : Fit M') : Rx w' base q N M' := ⟨hR, hF, h.n1, h.n64⟩
theorem rx_le {w : World} {base q N : Nat} {M : Nat → Nat → Int} (h : Rx w base q N M) : base ≤ w.heap.size := Nat.le_trans h.ref.ge (Nat.le_of_lt h.ref.lt)
/-- Blocks that begin with anything but a word stay. -/
def Keep (w w' : World) : Prop := w.heap.size ≤ w'.heap.size ∧ ∀ (B : Nat) (v : Value), w.cell? ⟨B, 0, none⟩ = some v → (∀ z, v ≠ .int .u64 z) → w'.heap[B]? = w.heap[B]?
theorem Keep.refl (w : World) : Keep w w := ⟨Nat.le_refl _, fun _ _ _ _ => rfl⟩
theorem Keep.trans {a b c : World} (h : Keep a b) (k : Keep b c) : Keep a c := ⟨Nat.le_trans h.1 k.1, fun B z hB hz => (k.2 B z ((World.cell?_of_block (w := a) (h.2 B z hB hz)).trans hB) hz).trans (h.2 B z hB hz)⟩
theorem Keep.of_below {w w' : World} (h : Below w.heap.size w w') : Keep w w' := ⟨h.size, fun B z hB _ => h.block B (World.block_lt_of_cell? w _ hB)⟩
theorem Keep.cell {w w' : World} (h : Keep w w') {B : Nat} {v : Value} (hB : w.cell? ⟨B, 0, none⟩ = some v) (hz : ∀ z, v ≠ .int .u64 z) (j : Nat) : w'.cell? ⟨B, j, none⟩ = w.cell? ⟨B, j, none⟩ := World.cell?_of_block (w := w) (h.2 B v hB hz)
theorem Keep.box {w w' : World} (h : Keep w w') {B : Nat} {o : Bool} {f r t : Int} (x : Ppte.BoxP w B o f r t) : Ppte.BoxP w' B o f r t := by
  have hz : ∀ z, (Value.bool o) ≠ .int .u64 z := fun z e => by cases e
  exact ⟨Nat.lt_of_lt_of_le x.lt h.1, (h.cell x.c0 hz 0).trans x.c0, (h.cell x.c0 hz 1).trans x.c1, (h.cell x.c0 hz 2).trans x.c2, (h.cell x.c0 hz 3).trans x.c3, fun j => (World.frozen?_of_block (w := w) (h.2 B _ x.c0 hz)).trans (x.fz j)⟩
theorem keep_store {w : World} {x j : Nat} {m : Int} (hm : w.cell? ⟨x, 0, none⟩ = some (.int .u64 m)) (v : Value) : Keep w (w.setCell ⟨x, j, none⟩ v) :=
  ⟨by rw [World.size_setCell]; exact Nat.le_refl _, fun B z hB hz => heap_setCell_other _ _ _ _ fun e => by rw [e, hm] at hB; cases hB; exact hz _ rfl⟩
theorem kstore_ok (base p N f a : Nat) (v : Int) (M : Nat → Nat → Int) (w : World) (hf : f < N) (ha : a < 36) (hN : N ≤ 64) (hR : RefIs w base p N M) :
    Calls Tryz.prog 21 #[.pointer (some ⟨p, 0, none⟩), .int .i64 f, .int .i64 a, .int .u64 v] w fun e w' => e = .returned (.int .i64 0) ∧ RefIs w' base p N (fun h b => if h = f ∧ b = a then v else M h b) ∧ Below base w w' ∧ Keep w w' := by
  obtain ⟨g, cap, r, c, hp, hg0, hw0, _, _⟩ := hR.parts (by omega)
  have hg := hg0 f hf
  obtain ⟨hw, hz⟩ := hw0 f a hf ha
  have hok := okF_nat hf
  have hfi : (f : Int) < (N : Int) := by omega
  have hai : (a : Int) < 36 := by omega
  have S := hR.store hf ha hp hg v
  have HS : Hid (RefIs (w.setCell ⟨r f, a, none⟩ (.int .u64 v)) base p N (fun h b => if h = f ∧ b = a then v else M h b) ∧ Below base w (w.setCell ⟨r f, a, none⟩ (.int .u64 v)) ∧ Keep w (w.setCell ⟨r f, a, none⟩ (.int .u64 v))) := ⟨S.1, (Below.refl _ _).setCell S.2 _, keep_store (hw0 f 0 hf (by omega)).1 _⟩
  obtain ⟨x, hx⟩ : ∃ x, x = r f := ⟨_, rfl⟩
  obtain ⟨y, hy⟩ : ∃ y, y = c f := ⟨_, rfl⟩
  rw [← hx] at hg hw hz HS
  rw [← hy] at hg
  obtain ⟨m, hm⟩ : ∃ m, m = M f a := ⟨_, rfl⟩
  rw [← hm] at hw
  clear hg0 hw0 hR hm S hx hy
  go_enter Tryz.func21, Tryz.ntmps21
  go_wp2_with (go_at_call 43; refine (is_any p g cap N f _ hN hp).mono ?_; rintro e w' ⟨rfl, rfl⟩)
  go_ret
  exact ⟨rfl, HS.out⟩
theorem kstore_any (base p N : Nat) (f a v : Int) (M : Nat → Nat → Int) (w : World) (hN1 : 1 ≤ N) (hN : N ≤ 64) (hR : RefIs w base p N M) :
    Calls Tryz.prog 21 #[.pointer (some ⟨p, 0, none⟩), .int .i64 f, .int .i64 a, .int .u64 v] w fun e w' => e = .returned (.int .i64 (errW N f a)) ∧ RefIs w' base p N (stW N M f a v) ∧ Below base w w' ∧ Keep w w' := by
  cases h : okF N f
  · simp only [stW, errW, okW, h, Bool.false_and, Bool.false_eq_true, if_false]
    exact (rstore_badF base p N f a v M w h hN1 hN hR).mono fun _ _ ⟨h1, h2⟩ => ⟨h1, by rw [h2]; exact hR, by rw [h2]; exact ⟨Below.refl _ _, Keep.refl _⟩⟩
  · obtain ⟨c, rfl, hc⟩ := okF_split h
    by_cases ha : 0 ≤ a ∧ a < 36
    · obtain ⟨d, rfl⟩ := Int.eq_ofNat_of_zero_le ha.1
      have : okW N (c : Int) (d : Int) = true := by simp [okW, h]; omega
      simp only [stW, errW, this, if_true, Int.toNat_natCast]
      exact kstore_ok base p N c d v M w hc (by omega) hN hR
    · have : okW N (c : Int) a = false := by simp [okW, h]; omega
      simp only [stW, errW, this, Bool.false_eq_true, if_false]
      exact (rstore_badA base p N c a v M w hc ha hN hR).mono fun _ _ ⟨h1, h2⟩ => ⟨h1, by rw [h2]; exact hR, by rw [h2]; exact ⟨Below.refl _ _, Keep.refl _⟩⟩

/-! ### Make, Table -/
theorem rrt_laid {w w1 : World} (hb : Below w.heap.size w w1) (k l : Int) (z : Bool) (t : Int) : Below w.heap.size w (w1.alloc (.cells #[.int .i64 k, .int .i64 l, .bool z, .int .i64 t] 125)) ∧ Phead.Box4 (w1.alloc (.cells #[.int .i64 k, .int .i64 l, .bool z, .int .i64 t] 125)) w1.heap.size k l z t :=
  ⟨bal hb _, Phead.box4_new w1 k l z t 125⟩
set_option maxRecDepth 100000 in
set_option maxHeartbeats 1000000 in
theorem rtable_any (base q N : Nat) (f l : Int) (M : Nat → Nat → Int) (w : World) (h : Rx w base q N M) : Calls Tryz.prog 95 #[.pointer (some ⟨q, 0, none⟩), .int .i64 f, .int .i64 l] w fun x w' => x = .returned (.bool (tbB N M f l)) ∧ Below w.heap.size w w' := by
  have HG : Hid (Calls Tryz.prog 115 #[.pointer (some ⟨q, 0, none⟩), .int .i64 f] w fun x w' => x = .returned (.tuple #[.agg #[.int .i64 (Phead.ghK N M f), .int .i64 (Phead.ghL N M f), .bool (Phead.ghZ N M f), .int .i64 (Phead.ghT N M f)], .int .i64 (Phead.ghE N M f)]) ∧ Below w.heap.size w w') := Phead.hrget_any base q N f M w h.n1 h.n64 h.ref h.fit
  clear h
  unfold tbB
  generalize Phead.ghK N M f = K at HG ⊢
  generalize Phead.ghL N M f = L at HG ⊢
  generalize Phead.ghZ N M f = Z at HG ⊢
  generalize Phead.ghT N M f = T at HG ⊢
  generalize Phead.ghE N M f = E at HG ⊢
  obtain ⟨R, hR⟩ : ∃ R, (decide (E = 0) && decide (K = 2) && decide (L = l)) = R := ⟨_, rfl⟩
  rw [hR]
  have HR := rhide hR
  clear hR
  have hcase : ((E == 0) = true ∧ (K == 2) = true ∧ (L == l) = true) ∨ ((E == 0) = true ∧ (K == 2) = true ∧ (L == l) = false) ∨ ((E == 0) = true ∧ (K == 2) = false) ∨ (E == 0) = false := by
    simp only [beq_eq_false_iff_ne, ne_eq, beq_iff_eq]
    omega
  rcases hcase with ⟨h1, h2, h3⟩ | ⟨h1, h2, h3⟩ | ⟨h1, h2⟩ | h1
  all_goals
    go_enter Tryz.func95, Tryz.ntmps95
    go_upto_region 2 with (first
      | (go_at_call 115; refine HG.out.mono ?_; rintro e1 w1 ⟨rfl, hb⟩; have H1 : Hid (Below w.heap.size w w1) := hb; clear hb)
      | fail)
    have HL := rrt_laid H1.out K L Z T
    generalize w1.alloc _ = w2 at HL ⊢
    generalize w1.heap.size = D at HL ⊢
    have H2 := rhide HL.1
    have x0 := HL.2.c0
    have x1 := HL.2.c1
    have x2 := HL.2.c2
    clear HL H1 HG
    first
      | (go_quiet (fail)
         go_wp2
         go_ret
         have hr := HR.out
         simp_all
         exact H2.out.trans (below_drew' _ _ _))
      | (go_wp2
         go_ret
         have hr := HR.out
         simp_all
         exact H2.out)

/-! ### entries -/
theorem res_box {w w1 : World} (hb : Below (w.alloc (.cells #[.bool false, .int .i64 0, .int .i64 0, .int .i64 0] 57)).heap.size (w.alloc (.cells #[.bool false, .int .i64 0, .int .i64 0, .int .i64 0] 57)) w1) : Below w.heap.size w w1 ∧ Ppte.BoxP w1 w.heap.size false 0 0 0 :=
  ⟨(bal (Below.refl _ _) _).trans (hb.mono (by simp)), (Ppte.boxP_new w false 0 0 0 57).on hb⟩
theorem rld_bd {N : Nat} {M : Nat → Nat → Int} (hF : Fit M) (f a : Int) : 0 ≤ ldM N M f a ∧ ldM N M f a ≤ 18446744073709551615 := by
  unfold ldM
  split
  · exact hF _ _
  · omega
set_option maxRecDepth 100000 in
set_option maxHeartbeats 1000000 in
theorem rentry_any (base q N : Nat) (f i : Int) (M : Nat → Nat → Int) (w : World) (h : Rx w base q N M) (hi : 0 ≤ i ∧ i < 32) :
    Calls Tryz.prog 71 #[.pointer (some ⟨q, 0, none⟩), .int .i64 f, .int .i64 i] w fun x w' => x = .returned (.tuple #[.agg #[.bool (enO N M f i), .int .i64 (enF N M f i), .int .i64 (enR N M f i), .int .i64 (enT N M f i)], .int .i64 (enE N M f i)]) ∧ Below w.heap.size w w' := by
  obtain ⟨h0, h1⟩ := hi
  have HL : Hid (∀ wc, Below w.heap.size w wc → Calls Tryz.prog 23 #[.pointer (some ⟨q, 0, none⟩), .int .i64 f, .int .i64 (4 + i)] wc fun x w' => x = .returned (.tuple #[.int .u64 (ldM N M f (4 + i)), .int .i64 (errW N f (4 + i))]) ∧ w' = wc) := fun wc hb => rload_any base q N f (4 + i) M wc h.n1 h.n64 (h.grown hb).ref
  have HB : Hid (∀ ty, Below w.heap.size w (w.alloc (.cells #[.bool false, .int .i64 0, .int .i64 0, .int .i64 0] ty)) ∧ Ppte.BoxP (w.alloc (.cells #[.bool false, .int .i64 0, .int .i64 0, .int .i64 0] ty)) w.heap.size false 0 0 0) := fun ty => ⟨bal (Below.refl _ _) _, Ppte.boxP_new w false 0 0 0 ty⟩
  have hbd := rld_bd (N := N) h.fit f (4 + i)
  by_cases hk : okW N f (4 + i) = true
  case neg =>
    have e0 : enE N M f i ≠ 0 := by unfold enE; rw [if_neg hk]; decide
    obtain ⟨e1, e2, e3, e4⟩ := en_none e0
    have e5 : enE N M f i = 1 := by unfold enE; rw [if_neg hk]
    rw [e1, e2, e3, e4, e5]
    have e6 : errW N f (4 + i) = 1 := by unfold errW; rw [if_neg hk]
    rw [e6] at HL
    clear e0 e1 e2 e3 e4 e5 e6 hk h hbd
    go_enter Tryz.func71, Tryz.ntmps71
    go_wp2_with (first
      | (go_at_call 23; refine (HL.out _ (HB.out _).1).mono ?_; rintro e1 w1 ⟨rfl, hw⟩; have H1 := rhide (HB.out 57); rw [← hw] at H1; clear hw HB; have x0 := H1.out.2.c0; have x1 := H1.out.2.c1; have x2 := H1.out.2.c2; have x3 := H1.out.2.c3; have z0 := H1.out.2.fz 0; have z1 := H1.out.2.fz 1; have z2 := H1.out.2.fz 2; have z3 := H1.out.2.fz 3; have xl := H1.out.2.lt)
      | fail)
    refine bodyPost_ret (v := .tuple #[.agg #[.bool false, .int .i64 0, .int .i64 0, .int .i64 0], .int .i64 1]) (by simp [results, Tryz.results71, go_sem, x0, x1, x2, x3]) rfl ⟨rfl, ?_⟩
    exact bst (bst (bst (bst H1.out.1 (Nat.le_refl _) _ _) (Nat.le_refl _) _ _) (Nat.le_refl _) _ _) (Nat.le_refl _) _ _
  case pos =>
  have e5 : enE N M f i = Ppte.getE (enW N M f i) := by unfold enE; rw [if_pos hk]
  have e6 : errW N f (4 + i) = 0 := by unfold errW; rw [if_pos hk]
  rw [e5]
  rw [e6] at HL
  unfold enO enF enR enT enW
  generalize ldM N M f (4 + i) = x at HL hbd ⊢
  have HG : Hid (∀ wc, Calls Tryz.prog 96 #[.int .u64 x] wc fun v w' => v = .returned (.tuple #[.agg #[.bool (Ppte.getO x), .int .i64 (Ppte.getF x), .int .i64 (Ppte.getR x), .int .i64 (Ppte.getT x)], .int .i64 (Ppte.getE x)]) ∧ Below wc.heap.size wc w') := fun wc => Ppte.rget_any x wc hbd
  clear e5 e6 hk h hbd
  generalize Ppte.getO x = go at HG ⊢
  generalize Ppte.getF x = gf at HG ⊢
  generalize Ppte.getR x = gr at HG ⊢
  generalize Ppte.getT x = gt at HG ⊢
  generalize Ppte.getE x = ge at HG ⊢
  go_enter Tryz.func71, Tryz.ntmps71
  go_wp2_with (first
    | (go_at_call 23; refine (HL.out _ (HB.out _).1).mono ?_; rintro e1 w1 ⟨rfl, hw⟩; have H1 := rhide (HB.out 57); rw [← hw] at H1; clear hw HB)
    | (go_at_call 96; refine (HG.out _).mono ?_; rintro e2 w2 ⟨rfl, hb⟩; have H2 := rhide (And.intro (H1.out.1.trans (hb.mono H1.out.1.size)) (H1.out.2.on hb)); clear hb H1; have x0 := H2.out.2.c0; have x1 := H2.out.2.c1; have x2 := H2.out.2.c2; have x3 := H2.out.2.c3; have z0 := H2.out.2.fz 0; have z1 := H2.out.2.fz 1; have z2 := H2.out.2.fz 2; have z3 := H2.out.2.fz 3; have xl := H2.out.2.lt)
    | fail)
  refine bodyPost_ret (v := .tuple #[.agg #[.bool go, .int .i64 gf, .int .i64 gr, .int .i64 gt], .int .i64 ge]) (by simp [results, Tryz.results71, go_sem, x0, x1, x2, x3]) rfl ⟨rfl, ?_⟩
  exact bst (bst (bst (bst H2.out.1 (Nat.le_refl _) _ _) (Nat.le_refl _) _ _) (Nat.le_refl _) _ _) (Nat.le_refl _) _ _
/-! ### the leaf of a page -/
/-- An entry that was read lies in a new block. -/
theorem pte_laid {w w1 : World} {base q N : Nat} {M : Nat → Nat → Int} (h : Rx w base q N M) (hb : Below w.heap.size w w1) (o : Bool) (f r t : Int) : Rx (w1.alloc (.cells #[.bool o, .int .i64 f, .int .i64 r, .int .i64 t] 57)) base q N M ∧ Below w.heap.size w (w1.alloc (.cells #[.bool o, .int .i64 f, .int .i64 r, .int .i64 t] 57)) ∧ Ppte.BoxP (w1.alloc (.cells #[.bool o, .int .i64 f, .int .i64 r, .int .i64 t] 57)) w1.heap.size o f r t :=
  ⟨(h.grown hb).grown (bal (Below.refl _ _) _), bal hb _, Ppte.boxP_new w1 o f r t 57⟩
theorem pte_more {w w1 w2 : World} {base q N : Nat} {M : Nat → Nat → Int} {D : Nat} {o : Bool} {f r t : Int} (h : Rx w1 base q N M ∧ Below w.heap.size w w1 ∧ Ppte.BoxP w1 D o f r t) (hb : Below w1.heap.size w1 w2) : Rx w2 base q N M ∧ Below w.heap.size w w2 ∧ Ppte.BoxP w2 D o f r t :=
  ⟨h.1.grown hb, h.2.1.trans (hb.mono h.2.1.size), h.2.2.on hb⟩
set_option maxRecDepth 100000 in
set_option maxHeartbeats 2000000 in
theorem rleaf_any (base q N : Nat) (root page : Int) (M : Nat → Nat → Int) (w : World) (h : Rx w base q N M) : Calls Tryz.prog 70 #[.pointer (some ⟨q, 0, none⟩), .int .i64 root, .int .i64 page] w fun x w' => x = .returned (.tuple #[.int .i64 (lfF N M root page), .int .i64 (lfE N M root page)]) ∧ Below w.heap.size w w' := by
  have HI := rhide h
  clear h
  have hno : lfE N M root page ≠ 0 → lfF N M root page = 0 := fun h => by simp [lfF, h]
  by_cases hg : okG page = true
  case neg =>
    have e0 : lfE N M root page = 1 := by simp [lfE, hg]
    rw [hno (by rw [e0]; decide), e0]
    have hk : page < 0 ∨ ¬ page < 0 ∧ 1024 ≤ page := by
      rw [okG_iff] at hg
      omega
    clear hno e0 hg
    rcases hk with h0 | ⟨h0, h1⟩
    all_goals
      go_enter Tryz.func70, Tryz.ntmps70
      go_wp2
      go_ret2
      exact ⟨rfl, Below.refl _ _⟩
  have hp := (okG_iff page).1 hg
  have h0 : ¬ page < 0 := by omega
  have h1 : ¬ 1024 ≤ page := by omega
  have HT := rhide (rtable_any base q N root 0 M w HI.out)
  by_cases h2 : tbB N M root 0 = true
  case neg =>
    have e0 : lfE N M root page = 4 := by simp [lfE, hg, h2]
    rw [hno (by rw [e0]; decide), e0]
    rw [show tbB N M root 0 = false by simpa using h2] at HT
    clear hno e0 hg h2
    go_enter Tryz.func70, Tryz.ntmps70
    go_wp2_with (first
      | (go_at_call 95; with_reducible refine HT.out.mono ?_; rintro e1 w1 ⟨rfl, hb⟩; have H1 := rhide hb; clear hb)
      | fail)
    go_ret2
    exact ⟨rfl, H1.out⟩
  rw [h2] at HT
  have HG : Hid (∀ wc, Below w.heap.size w wc → Calls Tryz.prog 71 #[.pointer (some ⟨q, 0, none⟩), .int .i64 root, .int .i64 (page / 32)] wc fun x w' => x = .returned (.tuple #[.agg #[.bool (enO N M root (page / 32)), .int .i64 (enF N M root (page / 32)), .int .i64 (enR N M root (page / 32)), .int .i64 (enT N M root (page / 32))], .int .i64 (enE N M root (page / 32))]) ∧ Below wc.heap.size wc w') := fun wc hb => rentry_any base q N root (page / 32) M wc (HI.out.grown hb) (by omega)
  have hq : 0 ≤ page / 32 := by omega
  have eL : lfE N M root page = if enE N M root (page / 32) = 0 ∧ enO N M root (page / 32) = true then if tbB N M (enF N M root (page / 32)) 1 = true then 0 else 4 else 9 := by simp only [lfE, hg, h2, if_true]
  have eF : lfF N M root page = if lfE N M root page = 0 then enF N M root (page / 32) else 0 := rfl
  rw [eF, eL]
  clear eF eL hno hg h2
  generalize enE N M root (page / 32) = E at HG ⊢
  generalize enO N M root (page / 32) = O at HG ⊢
  generalize enF N M root (page / 32) = F at HG ⊢
  generalize enR N M root (page / 32) = R at HG ⊢
  generalize enT N M root (page / 32) = T at HG ⊢
  have HU : Hid (∀ wc, Below w.heap.size w wc → Calls Tryz.prog 95 #[.pointer (some ⟨q, 0, none⟩), .int .i64 F, .int .i64 1] wc fun x w' => x = .returned (.bool (tbB N M F 1)) ∧ Below wc.heap.size wc w') := fun wc hb => rtable_any base q N F 1 M wc (HI.out.grown hb)
  generalize tbB N M F 1 = U at HU ⊢
  have hc : (E ≠ 0 ∧ (E != 0) = true) ∨ (E = 0 ∧ O = false) ∨ (E = 0 ∧ O = true ∧ U = false) ∨ (E = 0 ∧ O = true ∧ U = true) := by
    by_cases hE : E = 0
    · cases O <;> cases U <;> simp [hE]
    · exact .inl ⟨hE, by simp [hE]⟩
  generalize hX : (if E = 0 ∧ O = true then if U = true then (0 : Int) else 4 else 9) = X
  generalize hY : (if X = 0 then F else 0) = Y
  have HX := rhide hX
  have HY := rhide hY
  clear hX hY
  go_enter Tryz.func70, Tryz.ntmps70
  go_upto_region 6 with (first
    | (go_at_call 95; with_reducible refine HT.out.mono ?_; rintro e1 w1 ⟨rfl, hb⟩; have H1 := rhide hb; clear hb HT)
    | (go_at_call 71; with_reducible refine (HG.out _ H1.out).mono ?_; rintro e2 w2 ⟨rfl, hb⟩; have H2 := pte_laid HI.out (H1.out.trans (hb.mono H1.out.size)) O F R T; clear hb)
    | fail)
  generalize w2.alloc _ = w3 at H2 ⊢
  generalize w2.heap.size = D at H2 ⊢
  rcases hc with ⟨hE, hE'⟩ | ⟨rfl, rfl⟩ | ⟨rfl, rfl, rfl⟩ | ⟨rfl, rfl, rfl⟩
  case' inl =>
    have HV : Hid ((if E = 0 ∧ O = true then if U = true then (0 : Int) else 4 else 9) = 9) := if_neg (fun k => hE k.1)
    clear hE
  case' inr.inl => have HV : Hid ((if (0 : Int) = 0 ∧ false = true then if U = true then (0 : Int) else 4 else 9) = 9) := (by simp : (if (0 : Int) = 0 ∧ false = true then if U = true then (0 : Int) else 4 else 9) = 9)
  case' inr.inr.inl => have HV : Hid ((if (0 : Int) = 0 ∧ true = true then if false = true then (0 : Int) else 4 else 9) = 4) := (by simp : (if (0 : Int) = 0 ∧ true = true then if false = true then (0 : Int) else 4 else 9) = 4)
  case' inr.inr.inr => have HV : Hid ((if (0 : Int) = 0 ∧ true = true then if true = true then (0 : Int) else 4 else 9) = 0) := (by simp : (if (0 : Int) = 0 ∧ true = true then if true = true then (0 : Int) else 4 else 9) = 0)
  all_goals
    have H3 := rhide H2
    clear H2
    have x0 := H3.out.2.2.c0
    have x1 := H3.out.2.2.c1
    have xl := H3.out.2.2.lt
    go_wp2_with (first
      | (go_at_call 95; with_reducible refine (HU.out _ H3.out.2.1).mono ?_; rintro e4 w4 ⟨rfl, hb⟩; have H4 := rhide (pte_more H3.out hb); clear hb x0 x1 xl; have x0 := H4.out.2.2.c0; have x1 := H4.out.2.2.c1; have xl := H4.out.2.2.lt)
      | fail)
    go_ret2
    first
      | exact ⟨by rw [← HY.out, ← HX.out, HV.out]; rfl, H4.out.2.1⟩
      | exact ⟨by rw [← HY.out, ← HX.out, HV.out]; rfl, H3.out.2.1⟩
end Go.Proofs.YthcgdgpflhdchaaGreatDoor.Ppgtbl

/- The document's Raw, Walk, Map, Unmap. -/
namespace Go.Proofs.YthcgdgpflhdchaaGreatDoor.Ppgtbl
open Go.Proofs.YthcgdgpflhdchaaGreatDoor.Pbase Go.Proofs.YthcgdgpflhdchaaGreatDoor.Pmem
open Go.RowKit
set_option linter.unusedVariables false

/-- The result's block, beside the document's memory. -/
structure Rs (w0 w : World) (base q N : Nat) (M : Nat → Nat → Int) : Prop where
  rx : Rx w base q N M
  below : Below w0.heap.size w0 w
  res : Ppte.BoxP w w0.heap.size false 0 0 0
theorem Rs.on {w0 w w' : World} {base q N : Nat} {M : Nat → Nat → Int} (h : Rs w0 w base q N M) (hB : Below w.heap.size w w') : Rs w0 w' base q N M := ⟨h.rx.grown hB, h.below.trans (hB.mono h.below.size), h.res.on hB⟩
theorem rs_new {w : World} {base q N : Nat} {M : Nat → Nat → Int} (h : Rx w base q N M) (ty : TypeId) : Rs w (w.alloc (.cells #[.bool false, .int .i64 0, .int .i64 0, .int .i64 0] ty)) base q N M :=
  ⟨h.grown (bal (Below.refl _ _) _), bal (Below.refl _ _) _, Ppte.boxP_new w false 0 0 0 ty⟩
/-- A mapping that was read, beside it. -/
structure Rp (w0 w : World) (base q N : Nat) (M : Nat → Nat → Int) (D : Nat) (o : Bool) (f r t : Int) : Prop where
  rs : Rs w0 w base q N M
  box : Ppte.BoxP w D o f r t
  ne : w0.heap.size < D
theorem Rp.on {w0 w w' : World} {base q N : Nat} {M : Nat → Nat → Int} {D : Nat} {o : Bool} {f r t : Int} (h : Rp w0 w base q N M D o f r t) (hB : Below w.heap.size w w') : Rp w0 w' base q N M D o f r t := ⟨h.rs.on hB, h.box.on hB, h.ne⟩
theorem Rs.read {w0 w : World} {base q N : Nat} {M : Nat → Nat → Int} (h : Rs w0 w base q N M) (o : Bool) (f r t : Int) (ty : TypeId) : Rp w0 (w.alloc (.cells #[.bool o, .int .i64 f, .int .i64 r, .int .i64 t] ty)) base q N M w.heap.size o f r t :=
  ⟨h.on (bal (Below.refl _ _) _), Ppte.boxP_new w o f r t ty, h.res.lt⟩
theorem rres4 {w0 w : World} (h : Below w0.heap.size w0 w) (a b c d : Value) : Below w0.heap.size w0 ((((w.setCell ⟨w0.heap.size, 0, none⟩ a).setCell ⟨w0.heap.size, 1, none⟩ b).setCell ⟨w0.heap.size, 2, none⟩ c).setCell ⟨w0.heap.size, 3, none⟩ d) :=
  bst (bst (bst (bst h (Nat.le_refl _) _ _) (Nat.le_refl _) _ _) (Nat.le_refl _) _ _) (Nat.le_refl _) _ _
/-! ### Raw -/
set_option maxRecDepth 100000 in
set_option maxHeartbeats 2000000 in
theorem rraw_any (base q N : Nat) (root page : Int) (M : Nat → Nat → Int) (w : World) (h : Rx w base q N M) :
    Calls Tryz.prog 53 #[.pointer (some ⟨q, 0, none⟩), .int .i64 root, .int .i64 page] w fun x w' => x = .returned (.tuple #[.agg #[.bool (raO N M root page), .int .i64 (raF N M root page), .int .i64 (raR N M root page), .int .i64 (raT N M root page)], .int .i64 (raE N M root page)]) ∧ Below w.heap.size w w' := by
  have HI := rhide h
  have HS : Hid (∀ ty, Rs w (w.alloc (.cells #[.bool false, .int .i64 0, .int .i64 0, .int .i64 0] ty)) base q N M) := fun ty => rs_new h ty
  have HL : Hid (∀ wc, Rs w wc base q N M → Calls Tryz.prog 70 #[.pointer (some ⟨q, 0, none⟩), .int .i64 root, .int .i64 page] wc fun x w' => x = .returned (.tuple #[.int .i64 (lfF N M root page), .int .i64 (lfE N M root page)]) ∧ Below wc.heap.size wc w') := fun wc hc => rleaf_any base q N root page M wc hc.rx
  clear h
  by_cases hE : lfE N M root page = 0
  case neg =>
    have e0 : raE N M root page = lfE N M root page := by simp [raE, hE]
    have e1 : raO N M root page = false := by simp [raO, hE]
    have e2 : raF N M root page = 0 := by simp [raF, hE]
    have e3 : raR N M root page = 0 := by simp [raR, hE]
    have e4 : raT N M root page = 0 := by simp [raT, hE]
    rw [e0, e1, e2, e3, e4]
    generalize lfF N M root page = F at HL
    generalize lfE N M root page = E at HL hE ⊢
    have hE' : (E != 0) = true := by simp [hE]
    clear e0 e1 e2 e3 e4 hE
    go_enter Tryz.func53, Tryz.ntmps53
    go_wp2_with (first
      | (go_at_call 70; refine (HL.out _ (HS.out _)).mono ?_; rintro e1 w1 ⟨rfl, hb⟩; have H1 := rhide ((HS.out _).on hb); clear hb HS; have x0 := H1.out.res.c0; have x1 := H1.out.res.c1; have x2 := H1.out.res.c2; have x3 := H1.out.res.c3; have z0 := H1.out.res.fz 0; have z1 := H1.out.res.fz 1; have z2 := H1.out.res.fz 2; have z3 := H1.out.res.fz 3; have xl := H1.out.res.lt)
      | fail)
    refine bodyPost_ret (v := .tuple #[.agg #[.bool false, .int .i64 0, .int .i64 0, .int .i64 0], .int .i64 E]) (by simp [results, Tryz.results53, go_sem, x0, x1, x2, x3]) rfl ⟨rfl, ?_⟩
    exact rres4 H1.out.below _ _ _ _
  have hp : 0 ≤ page ∧ page < 1024 := by
    rw [← okG_iff]
    unfold lfE at hE
    by_cases k : okG page = true
    · exact k
    · rw [if_neg k] at hE; cases hE
  have h0 : 0 ≤ page := hp.1
  have h1 : 0 ≤ page % 32 := by omega
  have e0 : raE N M root page = enE N M (lfF N M root page) (page % 32) := by simp [raE, hE]
  have e1 : raO N M root page = enO N M (lfF N M root page) (page % 32) := by simp [raO, hE]
  have e2 : raF N M root page = enF N M (lfF N M root page) (page % 32) := by simp [raF, hE]
  have e3 : raR N M root page = enR N M (lfF N M root page) (page % 32) := by simp [raR, hE]
  have e4 : raT N M root page = enT N M (lfF N M root page) (page % 32) := by simp [raT, hE]
  rw [e0, e1, e2, e3, e4]
  rw [hE] at HL
  generalize lfF N M root page = F at HL ⊢
  have HG : Hid (∀ wc, Rs w wc base q N M → Calls Tryz.prog 71 #[.pointer (some ⟨q, 0, none⟩), .int .i64 F, .int .i64 (page % 32)] wc fun x w' => x = .returned (.tuple #[.agg #[.bool (enO N M F (page % 32)), .int .i64 (enF N M F (page % 32)), .int .i64 (enR N M F (page % 32)), .int .i64 (enT N M F (page % 32))], .int .i64 (enE N M F (page % 32))]) ∧ Below wc.heap.size wc w') := fun wc hc => rentry_any base q N F (page % 32) M wc hc.rx (by omega)
  generalize enO N M F (page % 32) = O at HG ⊢
  generalize enF N M F (page % 32) = G at HG ⊢
  generalize enR N M F (page % 32) = R at HG ⊢
  generalize enT N M F (page % 32) = T at HG ⊢
  generalize enE N M F (page % 32) = E at HG ⊢
  clear e0 e1 e2 e3 e4 hE hp
  go_enter Tryz.func53, Tryz.ntmps53
  go_wp2_with (first
    | (go_at_call 70; refine (HL.out _ (HS.out _)).mono ?_; rintro e1 w1 ⟨rfl, hb⟩; have H1 := rhide ((HS.out _).on hb); clear hb HS)
    | (go_at_call 71; refine (HG.out _ H1.out).mono ?_; rintro e2 w2 ⟨rfl, hb⟩; have H2 := rhide (H1.out.on hb); clear hb H1; have x0 := H2.out.res.c0; have x1 := H2.out.res.c1; have x2 := H2.out.res.c2; have x3 := H2.out.res.c3; have z0 := H2.out.res.fz 0; have z1 := H2.out.res.fz 1; have z2 := H2.out.res.fz 2; have z3 := H2.out.res.fz 3; have xl := H2.out.res.lt)
    | fail)
  refine bodyPost_ret (v := .tuple #[.agg #[.bool O, .int .i64 G, .int .i64 R, .int .i64 T], .int .i64 E]) (by simp [results, Tryz.results53, go_sem, x0, x1, x2, x3]) rfl ⟨rfl, ?_⟩
  exact rres4 H2.out.below _ _ _ _
/-! ### Walk -/
set_option maxRecDepth 100000 in
set_option maxHeartbeats 2000000 in
theorem rwalk_any (base q N : Nat) (root page : Int) (M : Nat → Nat → Int) (w : World) (h : Rx w base q N M) :
    Calls Tryz.prog 32 #[.pointer (some ⟨q, 0, none⟩), .int .i64 root, .int .i64 page] w fun x w' => x = .returned (.tuple #[.agg #[.bool (wkO N M root page), .int .i64 (wkF N M root page), .int .i64 (wkR N M root page), .int .i64 (wkT N M root page)], .int .i64 (wkE N M root page)]) ∧ Below w.heap.size w w' := by
  have HS : Hid (∀ ty, Rs w (w.alloc (.cells #[.bool false, .int .i64 0, .int .i64 0, .int .i64 0] ty)) base q N M) := fun ty => rs_new h ty
  have HL : Hid (∀ wc, Rs w wc base q N M → Calls Tryz.prog 53 #[.pointer (some ⟨q, 0, none⟩), .int .i64 root, .int .i64 page] wc fun x w' => x = .returned (.tuple #[.agg #[.bool (raO N M root page), .int .i64 (raF N M root page), .int .i64 (raR N M root page), .int .i64 (raT N M root page)], .int .i64 (raE N M root page)]) ∧ Below wc.heap.size wc w') := fun wc hc => rraw_any base q N root page M wc hc.rx
  clear h
  unfold wkO wkF wkR wkT wkE
  generalize raO N M root page = O at HL ⊢
  generalize raF N M root page = G at HL ⊢
  generalize raR N M root page = R at HL ⊢
  generalize raT N M root page = T at HL ⊢
  generalize raE N M root page = E at HL ⊢
  have hc : (E ≠ 0 ∧ (E != 0) = true) ∨ (E = 0 ∧ O = false) ∨ (E = 0 ∧ O = true) := by
    by_cases hE : E = 0
    · cases O <;> simp [hE]
    · exact .inl ⟨hE, by simp [hE]⟩
  rcases hc with ⟨hE, hE'⟩ | ⟨rfl, rfl⟩ | ⟨rfl, rfl⟩
  case' inl => simp only [if_neg hE, decide_eq_false hE, Bool.false_and]; clear hE
  case' inr.inl => simp only [if_true, Bool.false_eq_true, if_false, Bool.and_false, show ¬ (9 : Int) = 0 by decide]
  case' inr.inr => simp only [if_true, decide_true, Bool.and_self]
  · go_enter Tryz.func32, Tryz.ntmps32
    go_upto_region 2 with (first
      | (go_at_call 53; refine (HL.out _ (HS.out _)).mono ?_; rintro e1 w1 ⟨rfl, hb⟩; have H1 := ((HS.out _).on hb).read true G R T 57; clear hb HS)
      | fail)
    generalize w1.alloc _ = w2 at H1 ⊢
    generalize w1.heap.size = D at H1 ⊢
    have H2 := rhide H1
    clear H1
    have x0 := H2.out.rs.res.c0
    have x1 := H2.out.rs.res.c1
    have x2 := H2.out.rs.res.c2
    have x3 := H2.out.rs.res.c3
    have z0 := H2.out.rs.res.fz 0
    have z1 := H2.out.rs.res.fz 1
    have z2 := H2.out.rs.res.fz 2
    have z3 := H2.out.rs.res.fz 3
    have xl := H2.out.rs.res.lt
    have y0 := H2.out.box.c0
    have y1 := H2.out.box.c1
    have y2 := H2.out.box.c2
    have y3 := H2.out.box.c3
    have yl := H2.out.box.lt
    have ne1 : ¬ D = w.heap.size := Nat.ne_of_gt H2.out.ne
    have ne2 : ¬ w.heap.size = D := Nat.ne_of_lt H2.out.ne
    go_wp2
    refine bodyPost_ret (v := .tuple #[.agg #[.bool true, .int .i64 G, .int .i64 R, .int .i64 T], .int .i64 0]) (by simp [results, Tryz.results32, go_sem, x0, x1, x2, x3]) rfl ⟨rfl, ?_⟩
    exact rres4 H2.out.rs.below _ _ _ _
  · go_enter Tryz.func32, Tryz.ntmps32
    go_upto_region 2 with (first
      | (go_at_call 53; refine (HL.out _ (HS.out _)).mono ?_; rintro e1 w1 ⟨rfl, hb⟩; have H1 := ((HS.out _).on hb).read false G R T 57; clear hb HS)
      | fail)
    generalize w1.alloc _ = w2 at H1 ⊢
    generalize w1.heap.size = D at H1 ⊢
    have H2 := rhide H1
    clear H1
    have x0 := H2.out.rs.res.c0
    have x1 := H2.out.rs.res.c1
    have x2 := H2.out.rs.res.c2
    have x3 := H2.out.rs.res.c3
    have z0 := H2.out.rs.res.fz 0
    have z1 := H2.out.rs.res.fz 1
    have z2 := H2.out.rs.res.fz 2
    have z3 := H2.out.rs.res.fz 3
    have xl := H2.out.rs.res.lt
    have y0 := H2.out.box.c0
    have y1 := H2.out.box.c1
    have y2 := H2.out.box.c2
    have y3 := H2.out.box.c3
    have yl := H2.out.box.lt
    have ne1 : ¬ D = w.heap.size := Nat.ne_of_gt H2.out.ne
    have ne2 : ¬ w.heap.size = D := Nat.ne_of_lt H2.out.ne
    go_wp2
    refine bodyPost_ret (v := .tuple #[.agg #[.bool false, .int .i64 0, .int .i64 0, .int .i64 0], .int .i64 9]) (by simp [results, Tryz.results32, go_sem, x0, x1, x2, x3]) rfl ⟨rfl, ?_⟩
    exact rres4 H2.out.rs.below _ _ _ _
  · go_enter Tryz.func32, Tryz.ntmps32
    go_upto_region 2 with (first
      | (go_at_call 53; refine (HL.out _ (HS.out _)).mono ?_; rintro e1 w1 ⟨rfl, hb⟩; have H1 := ((HS.out _).on hb).read O G R T 57; clear hb HS)
      | fail)
    generalize w1.alloc _ = w2 at H1 ⊢
    generalize w1.heap.size = D at H1 ⊢
    have H2 := rhide H1
    clear H1
    have x0 := H2.out.rs.res.c0
    have x1 := H2.out.rs.res.c1
    have x2 := H2.out.rs.res.c2
    have x3 := H2.out.rs.res.c3
    have z0 := H2.out.rs.res.fz 0
    have z1 := H2.out.rs.res.fz 1
    have z2 := H2.out.rs.res.fz 2
    have z3 := H2.out.rs.res.fz 3
    have xl := H2.out.rs.res.lt
    have y0 := H2.out.box.c0
    have y1 := H2.out.box.c1
    have y2 := H2.out.box.c2
    have y3 := H2.out.box.c3
    have yl := H2.out.box.lt
    have ne1 : ¬ D = w.heap.size := Nat.ne_of_gt H2.out.ne
    have ne2 : ¬ w.heap.size = D := Nat.ne_of_lt H2.out.ne
    go_wp2
    refine bodyPost_ret (v := .tuple #[.agg #[.bool false, .int .i64 0, .int .i64 0, .int .i64 0], .int .i64 E]) (by simp [results, Tryz.results32, go_sem, x0, x1, x2, x3]) rfl ⟨rfl, ?_⟩
    exact rres4 H2.out.rs.below _ _ _ _
/-! ### Map -/
theorem rx_same {w w' : World} {base q N : Nat} {M : Nat → Nat → Int} (h : Rx w base q N M) (hb : Below w.heap.size w w') : Rx w' base q N M ∧ Below base w w' ∧ Keep w w' := ⟨h.grown hb, hb.mono (rx_le h), Keep.of_below hb⟩
theorem rx_put {w w3 w4 : World} {base q N : Nat} {M M' : Nat → Nat → Int} (h : Rx w base q N M) (hb : Below w.heap.size w w3) (hk : Rx w4 base q N M' ∧ Below base w3 w4 ∧ Keep w3 w4) : Rx w4 base q N M' ∧ Below base w w4 ∧ Keep w w4 :=
  ⟨hk.1, (hb.mono (rx_le h)).trans hk.2.1, (Keep.of_below hb).trans hk.2.2⟩
/-- The document's memory and a mapping beside it. -/
structure Rb (w0 w : World) (base q N : Nat) (M : Nat → Nat → Int) (D : Nat) (o : Bool) (f r t : Int) : Prop where
  rx : Rx w base q N M
  below : Below w0.heap.size w0 w
  box : Ppte.BoxP w D o f r t
theorem Rb.on {w0 w w' : World} {base q N : Nat} {M : Nat → Nat → Int} {D : Nat} {o : Bool} {f r t : Int} (h : Rb w0 w base q N M D o f r t) (hB : Below w.heap.size w w') : Rb w0 w' base q N M D o f r t := ⟨h.rx.grown hB, h.below.trans (hB.mono h.below.size), h.box.on hB⟩
theorem rb_read {w w1 : World} {base q N : Nat} {M : Nat → Nat → Int} (h : Rx w base q N M) (hb : Below w.heap.size w w1) (o : Bool) (f r t : Int) (ty : TypeId) : Rb w (w1.alloc (.cells #[.bool o, .int .i64 f, .int .i64 r, .int .i64 t] ty)) base q N M w1.heap.size o f r t :=
  ⟨(h.grown hb).grown (bal (Below.refl _ _) _), bal hb _, Ppte.boxP_new w1 o f r t ty⟩
theorem qu_raw {N : Nat} {M : Nat → Nat → Int} {root page floor : Int} (h : lfE N M root page = 0) : Ppte.quB (raO N M root page) (raF N M root page) (raR N M root page) (raT N M root page) floor = enQ N M (lfF N M root page) (page % 32) floor := by
  unfold enQ raO raF raR raT
  rw [h]
  simp
end Go.Proofs.YthcgdgpflhdchaaGreatDoor.Ppgtbl

/- The document's Unmap, Cons, Decons, Used. -/
namespace Go.Proofs.YthcgdgpflhdchaaGreatDoor.Ppgtbl
open Go.Proofs.YthcgdgpflhdchaaGreatDoor.Pbase Go.Proofs.YthcgdgpflhdchaaGreatDoor.Pmem
open Go.RowKit
set_option linter.unusedVariables false

/-- A block that begins with a Bool is none of the document's memory. -/
theorem ref_apart {w w' : World} {base q N : Nat} {M : Nat → Nat → Int} {B : Nat} {z : Bool} (h : RefIs w base q N M) (hN : 1 ≤ N) (hB : w.cell? ⟨B, 0, none⟩ = some (.bool z)) (hk : ∀ k, k ≠ B → w'.heap[k]? = w.heap[k]?) : RefIs w' base q N M := by
  obtain ⟨hb, v0, hv, r, cc, h1, h2, h3⟩ := h
  rcases h1.2 with ⟨_, e⟩ | ⟨g, cap, cur, e, hg, hh, rest⟩
  · omega
  · refine ⟨hb, v0, ?_, r, cc, ⟨h1.1, .inr ⟨g, cap, cur, e, hg, ?_, rest⟩⟩, fun j hj => ?_, h3⟩
    · rw [hk q (by rintro rfl; rw [cell_of_row _ _ _ _ _ _ hv, e] at hB; simp at hB)]; exact hv
    · subst e
      rw [hk g (by rintro rfl; rw [h1.cellAt 0 (by omega)] at hB; simp at hB)]; exact hh
    · obtain ⟨hbj, cu, hc, hw⟩ := h2 j hj
      refine ⟨hbj, cu, ?_, hw⟩
      rw [hk (r j) (by intro e; rw [← e, cell_of_row _ _ _ _ _ _ hc, hw 0 (by omega)] at hB; simp at hB)]; exact hc
/-- Four cells of a result, written. -/
theorem rput4_other (w : World) (B : Nat) (a b c d : Value) (k : Nat) (hk : k ≠ B) : ((((w.setCell ⟨B, 0, none⟩ a).setCell ⟨B, 1, none⟩ b).setCell ⟨B, 2, none⟩ c).setCell ⟨B, 3, none⟩ d).heap[k]? = w.heap[k]? := by
  rw [heap_setCell_other _ _ _ _ hk, heap_setCell_other _ _ _ _ hk, heap_setCell_other _ _ _ _ hk, heap_setCell_other _ _ _ _ hk]
theorem rput4_below {w0 w : World} {base B : Nat} (h : Below base w0 w) (hB : base ≤ B) (a b c d : Value) : Below base w0 ((((w.setCell ⟨B, 0, none⟩ a).setCell ⟨B, 1, none⟩ b).setCell ⟨B, 2, none⟩ c).setCell ⟨B, 3, none⟩ d) :=
  (((h.setCell (p := ⟨B, 0, none⟩) hB a).setCell (p := ⟨B, 1, none⟩) hB b).setCell (p := ⟨B, 2, none⟩) hB c).setCell (p := ⟨B, 3, none⟩) hB d
/-- The document's memory behind what is stored into the result. -/
theorem rx_res {w w9 : World} {base q N : Nat} {M M' : Nat → Nat → Int} {o : Bool} (hM : Rx w base q N M) (h : Rx w9 base q N M' ∧ Below base w w9 ∧ Keep w w9) (hx : w9.cell? ⟨w.heap.size, 0, none⟩ = some (.bool o)) (a b c d : Value) : Rx ((((w9.setCell ⟨w.heap.size, 0, none⟩ a).setCell ⟨w.heap.size, 1, none⟩ b).setCell ⟨w.heap.size, 2, none⟩ c).setCell ⟨w.heap.size, 3, none⟩ d) base q N M' ∧ Below base w ((((w9.setCell ⟨w.heap.size, 0, none⟩ a).setCell ⟨w.heap.size, 1, none⟩ b).setCell ⟨w.heap.size, 2, none⟩ c).setCell ⟨w.heap.size, 3, none⟩ d) ∧ Keep w ((((w9.setCell ⟨w.heap.size, 0, none⟩ a).setCell ⟨w.heap.size, 1, none⟩ b).setCell ⟨w.heap.size, 2, none⟩ c).setCell ⟨w.heap.size, 3, none⟩ d) := by
  have ho := rput4_other w9 w.heap.size a b c d
  have hb : Below base w9 ((((w9.setCell ⟨w.heap.size, 0, none⟩ a).setCell ⟨w.heap.size, 1, none⟩ b).setCell ⟨w.heap.size, 2, none⟩ c).setCell ⟨w.heap.size, 3, none⟩ d) := rput4_below (Below.refl _ _) (rx_le hM) _ _ _ _
  exact ⟨h.1.turn (ref_apart h.1.ref h.1.n1 hx ho) h.1.fit, h.2.1.trans hb, Nat.le_trans h.2.2.1 hb.size, fun B z hB hz => (ho B (Nat.ne_of_lt (World.block_lt_of_cell? w _ hB))).trans (h.2.2.2 B z hB hz)⟩
theorem rp_keep {w0 w7 w9 : World} {base q N : Nat} {M : Nat → Nat → Int} {D : Nat} {o : Bool} {f r t : Int} (h : Rp w0 w7 base q N M D o f r t) (hK : Keep w7 w9) :
    w9.cell? ⟨D, 0, none⟩ = some (.bool o) ∧ w9.cell? ⟨D, 1, none⟩ = some (.int .i64 f) ∧ w9.cell? ⟨D, 2, none⟩ = some (.int .i64 r) ∧ w9.cell? ⟨D, 3, none⟩ = some (.int .i64 t) :=
  ⟨(hK.box h.box).c0, (hK.box h.box).c1, (hK.box h.box).c2, (hK.box h.box).c3⟩
theorem rp_put {w0 w7 w9 : World} {base q N : Nat} {M : Nat → Nat → Int} {D : Nat} {o : Bool} {f r t : Int} (h : Rp w0 w7 base q N M D o f r t) (hK : Keep w7 w9) (a b c d : Value) :
    ((((w9.setCell ⟨w0.heap.size, 0, none⟩ a).setCell ⟨w0.heap.size, 1, none⟩ b).setCell ⟨w0.heap.size, 2, none⟩ c).setCell ⟨w0.heap.size, 3, none⟩ d).cell? ⟨D, 0, none⟩ = some (.bool o) ∧ ((((w9.setCell ⟨w0.heap.size, 0, none⟩ a).setCell ⟨w0.heap.size, 1, none⟩ b).setCell ⟨w0.heap.size, 2, none⟩ c).setCell ⟨w0.heap.size, 3, none⟩ d).cell? ⟨D, 1, none⟩ = some (.int .i64 f) ∧ ((((w9.setCell ⟨w0.heap.size, 0, none⟩ a).setCell ⟨w0.heap.size, 1, none⟩ b).setCell ⟨w0.heap.size, 2, none⟩ c).setCell ⟨w0.heap.size, 3, none⟩ d).cell? ⟨D, 2, none⟩ = some (.int .i64 r) ∧ ((((w9.setCell ⟨w0.heap.size, 0, none⟩ a).setCell ⟨w0.heap.size, 1, none⟩ b).setCell ⟨w0.heap.size, 2, none⟩ c).setCell ⟨w0.heap.size, 3, none⟩ d).cell? ⟨D, 3, none⟩ = some (.int .i64 t) := by
  have hb := rput4_other w9 w0.heap.size a b c d D (Nat.ne_of_gt h.ne)
  have hk := rp_keep h hK
  generalize ((((w9.setCell ⟨w0.heap.size, 0, none⟩ a).setCell ⟨w0.heap.size, 1, none⟩ b).setCell ⟨w0.heap.size, 2, none⟩ c).setCell ⟨w0.heap.size, 3, none⟩ d) = w10 at hb ⊢
  have e : ∀ j, w10.cell? ⟨D, j, none⟩ = w9.cell? ⟨D, j, none⟩ := fun j => World.cell?_of_block (w := w9) hb
  exact ⟨(e 0).trans hk.1, (e 1).trans hk.2.1, (e 2).trans hk.2.2.1, (e 3).trans hk.2.2.2⟩
/-! ### Unmap -/
/-! ### Cons -/
/-! ### Decons -/
/-! ### Used -/
end Go.Proofs.YthcgdgpflhdchaaGreatDoor.Ppgtbl
