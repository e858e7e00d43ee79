/- Tables of mappings in the words of frames: plain words on what is made, read, walked to, mapped, unmapped, hung in, taken out and counted. No program is named here. -/
import Derived.Test.YtfmkhjbahgcgiaaGreatDoorBunHead
import Derived.Test.YtfmkhjbahgcgiaaGreatDoorBunPte
namespace Go.Proofs.YtfmkhjbahgcgiaaGreatDoor.Ppgtbl
open Go.Proofs.YtfmkhjbahgcgiaaGreatDoor.Pbase Go.Proofs.YtfmkhjbahgcgiaaGreatDoor.Pmem
open Go.RowKit
set_option linter.unusedVariables false

/-! ### what is answered, and what is done -/
/-- Is a frame a table's of mappings, of this level? Can it be a time? -/
def tbB (N : Nat) (M : Nat → Nat → Int) (f l : Int) : Bool := decide (Phead.ghE N M f = 0) && decide (Phead.ghK N M f = 2) && decide (Phead.ghL N M f = l)
def tiB (now : Int) : Bool := decide (1 ≤ now) && decide (now ≤ 1073741824)
/-- Is there such an entry; such a page? -/
def okI (i : Int) : Bool := decide (0 ≤ i) && decide (i < 32)
def okG (page : Int) : Bool := decide (0 ≤ page) && decide (page < 1024)
/-- An entry of a frame: its word, its error, its parts. -/
def enW (N : Nat) (M : Nat → Nat → Int) (f i : Int) : Int := ldM N M f (4 + i)
def enE (N : Nat) (M : Nat → Nat → Int) (f i : Int) : Int := if okW N f (4 + i) = true then Ppte.getE (enW N M f i) else 1
def enO (N : Nat) (M : Nat → Nat → Int) (f i : Int) : Bool := Ppte.getO (enW N M f i)
def enF (N : Nat) (M : Nat → Nat → Int) (f i : Int) : Int := Ppte.getF (enW N M f i)
def enR (N : Nat) (M : Nat → Nat → Int) (f i : Int) : Int := Ppte.getR (enW N M f i)
def enT (N : Nat) (M : Nat → Nat → Int) (f i : Int) : Int := Ppte.getT (enW N M f i)
def enQ (N : Nat) (M : Nat → Nat → Int) (f i floor : Int) : Bool := Ppte.quB (enO N M f i) (enF N M f i) (enR N M f i) (enT N M f i) floor
/-- An entry is set. -/
def seM (N : Nat) (M : Nat → Nat → Int) (f i : Int) (o : Bool) (g r t : Int) : Nat → Nat → Int := if Ppte.rtB o g r t = true then stW N M f (4 + i) (Ppte.wd o g r t) else M
def seE (N : Nat) (f i : Int) (o : Bool) (g r t : Int) : Int := if Ppte.rtB o g r t = true then errW N f (4 + i) else 1
/-- The leaf of a page: the error; its frame. -/
def lfE (N : Nat) (M : Nat → Nat → Int) (root page : Int) : Int :=
  if okG page = true then if tbB N M root 0 = true then if enE N M root (page / 32) = 0 ∧ enO N M root (page / 32) = true then if tbB N M (enF N M root (page / 32)) 1 = true then 0 else 4 else 9 else 4 else 1
def lfF (N : Nat) (M : Nat → Nat → Int) (root page : Int) : Int := if lfE N M root page = 0 then enF N M root (page / 32) else 0
/-- Raw. -/
def raE (N : Nat) (M : Nat → Nat → Int) (root page : Int) : Int := if lfE N M root page = 0 then enE N M (lfF N M root page) (page % 32) else lfE N M root page
def raO (N : Nat) (M : Nat → Nat → Int) (root page : Int) : Bool := decide (lfE N M root page = 0) && enO N M (lfF N M root page) (page % 32)
def raF (N : Nat) (M : Nat → Nat → Int) (root page : Int) : Int := if lfE N M root page = 0 then enF N M (lfF N M root page) (page % 32) else 0
def raR (N : Nat) (M : Nat → Nat → Int) (root page : Int) : Int := if lfE N M root page = 0 then enR N M (lfF N M root page) (page % 32) else 0
def raT (N : Nat) (M : Nat → Nat → Int) (root page : Int) : Int := if lfE N M root page = 0 then enT N M (lfF N M root page) (page % 32) else 0
/-- Walk. -/
def wkE (N : Nat) (M : Nat → Nat → Int) (root page : Int) : Int := if raE N M root page = 0 then if raO N M root page = true then 0 else 9 else raE N M root page
def wkO (N : Nat) (M : Nat → Nat → Int) (root page : Int) : Bool := decide (wkE N M root page = 0) && raO N M root page
def wkF (N : Nat) (M : Nat → Nat → Int) (root page : Int) : Int := if wkE N M root page = 0 then raF N M root page else 0
def wkR (N : Nat) (M : Nat → Nat → Int) (root page : Int) : Int := if wkE N M root page = 0 then raR N M root page else 0
def wkT (N : Nat) (M : Nat → Nat → Int) (root page : Int) : Int := if wkE N M root page = 0 then raT N M root page else 0
/-- Map. -/
def okA (f r : Int) : Bool := decide (0 ≤ f) && decide (f < 64) && decide (1 ≤ r) && decide (r ≤ 3)
def maE (N : Nat) (M : Nat → Nat → Int) (root page f r floor : Int) : Int :=
  if okA f r = true then if raE N M root page = 0 then if raO N M root page = true then 10 else if enQ N M (lfF N M root page) (page % 32) floor = true then 0 else 6 else raE N M root page else 1
def maM (N : Nat) (M : Nat → Nat → Int) (root page f r floor : Int) : Nat → Nat → Int := if maE N M root page f r floor = 0 then seM N M (lfF N M root page) (page % 32) true f r 0 else M
/-- Unmap. -/
def unE (N : Nat) (M : Nat → Nat → Int) (root page now : Int) : Int := if tiB now = true then wkE N M root page else 1
def unO (N : Nat) (M : Nat → Nat → Int) (root page now : Int) : Bool := tiB now && wkO N M root page
def unF (N : Nat) (M : Nat → Nat → Int) (root page now : Int) : Int := if tiB now = true then wkF N M root page else 0
def unR (N : Nat) (M : Nat → Nat → Int) (root page now : Int) : Int := if tiB now = true then wkR N M root page else 0
def unT (N : Nat) (M : Nat → Nat → Int) (root page now : Int) : Int := if tiB now = true then wkT N M root page else 0
def unM (N : Nat) (M : Nat → Nat → Int) (root page now : Int) : Nat → Nat → Int := if unE N M root page now = 0 then seM N M (lfF N M root page) (page % 32) false 0 0 now else M
/-- Cons. -/
def coE (N : Nat) (M : Nat → Nat → Int) (root high f floor : Int) : Int :=
  if okI high = true then if tbB N M root 0 = true ∧ tbB N M f 1 = true then if enE N M root high = 0 then if enO N M root high = true then 10 else if enQ N M root high floor = true then 0 else 6 else enE N M root high else 4 else 1
def coM (N : Nat) (M : Nat → Nat → Int) (root high f floor : Int) : Nat → Nat → Int := if coE N M root high f floor = 0 then seM N M root high true f 3 0 else M
/-- Decons. -/
def deE (N : Nat) (M : Nat → Nat → Int) (root high now : Int) : Int :=
  if okI high = true ∧ tiB now = true then if tbB N M root 0 = true then if enE N M root high = 0 then if enO N M root high = true then 0 else 3 else enE N M root high else 4 else 1
def deF (N : Nat) (M : Nat → Nat → Int) (root high now : Int) : Int := if deE N M root high now = 0 then enF N M root high else 0
def deM (N : Nat) (M : Nat → Nat → Int) (root high now : Int) : Nat → Nat → Int := if deE N M root high now = 0 then seM N M root high false 0 0 now else M
/-- Used: the first k entries can be read; how many of them are On. -/
def okTo (N : Nat) (M : Nat → Nat → Int) (f : Int) : Nat → Bool
  | 0 => true
  | k + 1 => okTo N M f k && decide (enE N M f k = 0)
def onTo (N : Nat) (M : Nat → Nat → Int) (f : Int) : Nat → Int
  | 0 => 0
  | k + 1 => onTo N M f k + if enO N M f k = true then 1 else 0
def usE (N : Nat) (M : Nat → Nat → Int) (f : Int) : Int := if Phead.isE N M f 2 = 0 then if okTo N M f 32 = true then 0 else 12 else 4
def usN (N : Nat) (M : Nat → Nat → Int) (f : Int) : Int := if usE N M f = 0 then onTo N M f 32 else 0

/-! ### small facts -/
theorem wd_zero : Ppte.wd false 0 0 0 = 0 := by decide +kernel
theorem okI_iff (i : Int) : okI i = true ↔ 0 ≤ i ∧ i < 32 := by simp [okI]
theorem okI_nat {m : Nat} (h : m < 32) : okI (m : Int) = true := (okI_iff _).2 (by omega)
theorem okG_iff (p : Int) : okG p = true ↔ 0 ≤ p ∧ p < 1024 := by simp [okG]
theorem tiB_iff (now : Int) : tiB now = true ↔ 1 ≤ now ∧ now ≤ 1073741824 := by simp [tiB]
theorem okA_iff (f r : Int) : okA f r = true ↔ 0 ≤ f ∧ f < 64 ∧ 1 ≤ r ∧ r ≤ 3 := by simp [okA, and_assoc]
theorem rt_on {f r : Int} (h : okA f r = true) : Ppte.Rt true f r 0 := by
  have := (okA_iff f r).1 h
  exact ⟨fun _ => by omega, fun e => by cases e⟩
theorem rt_off {now : Int} (h : tiB now = true) : Ppte.Rt false 0 0 now := by
  have := (tiB_iff now).1 h
  exact ⟨fun e => (by cases e), fun _ => by omega⟩
theorem rt_leaf {f : Int} (h0 : 0 ≤ f) (h1 : f < 64) : Ppte.Rt true f 3 0 := ⟨fun _ => by omega, fun e => by cases e⟩
theorem okW_en {N : Nat} {f i : Int} (hi : okI i = true) : okW N f (4 + i) = okF N f := by
  have := (okI_iff i).1 hi
  simp [okW]
  intro _
  omega
theorem en_ok {N : Nat} {M : Nat → Nat → Int} {f i : Int} (h : enE N M f i = 0) : okW N f (4 + i) = true := by
  unfold enE at h
  by_cases k : okW N f (4 + i) = true
  · exact k
  · rw [if_neg k] at h; cases h
theorem okF_of_en {N : Nat} {M : Nat → Nat → Int} {f i : Int} (h : enE N M f i = 0) : okF N f = true := by
  have := en_ok h
  simp only [okW, Bool.and_eq_true] at this
  exact this.1
theorem tb_okF {N : Nat} {M : Nat → Nat → Int} {f l : Int} (h : tbB N M f l = true) : okF N f = true := by
  simp only [tbB, Bool.and_eq_true, decide_eq_true_eq] at h
  have h1 := h.1.1
  unfold Phead.ghE at h1
  by_cases k : okF N f = true
  · exact k
  · rw [if_neg k] at h1; cases h1
theorem seM_yes {N : Nat} {M : Nat → Nat → Int} {f i : Int} {o : Bool} {g r t : Int} (h : Ppte.Rt o g r t) : seM N M f i o g r t = stW N M f (4 + i) (Ppte.wd o g r t) := by unfold seM; rw [if_pos (Ppte.rtB_yes h)]
theorem seE_yes {N : Nat} {f i : Int} {o : Bool} {g r t : Int} (h : Ppte.Rt o g r t) (hk : okW N f (4 + i) = true) : seE N f i o g r t = 0 := by
  unfold seE errW
  rw [if_pos (Ppte.rtB_yes h), if_pos hk]
theorem fit_se {M : Nat → Nat → Int} (h : Fit M) (N : Nat) (f i : Int) (o : Bool) (g r t : Int) : Fit (seM N M f i o g r t) := by
  unfold seM
  split
  · rename_i hr
    exact h.st N f _ _ (Ppte.wd_bd ((Ppte.rtB_iff o g r t).1 hr))
  · exact h
/-- The last error of each call is none: what is set can be set. -/
theorem ma_set {N : Nat} {M : Nat → Nat → Int} {root page f r floor : Int} (h : maE N M root page f r floor = 0) : Ppte.Rt true f r 0 ∧ raE N M root page = 0 ∧ lfE N M root page = 0 ∧ okW N (lfF N M root page) (4 + page % 32) = true ∧ seE N (lfF N M root page) (page % 32) true f r 0 = 0 := by
  unfold maE at h
  by_cases h1 : okA f r = true
  · rw [if_pos h1] at h
    by_cases h2 : raE N M root page = 0
    · have h3 : lfE N M root page = 0 := by
        unfold raE at h2
        by_cases k : lfE N M root page = 0
        · exact k
        · rw [if_neg k] at h2; exact h2
      have h4 : okW N (lfF N M root page) (4 + page % 32) = true := by
        unfold raE at h2
        rw [if_pos h3] at h2
        exact en_ok h2
      exact ⟨rt_on h1, h2, h3, h4, seE_yes (rt_on h1) h4⟩
    · rw [if_neg h2] at h; exact absurd h h2
  · rw [if_neg h1] at h; cases h
theorem un_set {N : Nat} {M : Nat → Nat → Int} {root page now : Int} (h : unE N M root page now = 0) : Ppte.Rt false 0 0 now ∧ wkE N M root page = 0 ∧ raE N M root page = 0 ∧ lfE N M root page = 0 ∧ okW N (lfF N M root page) (4 + page % 32) = true ∧ seE N (lfF N M root page) (page % 32) false 0 0 now = 0 := by
  unfold unE at h
  by_cases h1 : tiB now = true
  · rw [if_pos h1] at h
    have h2 : raE N M root page = 0 := by
      unfold wkE at h
      by_cases k : raE N M root page = 0
      · exact k
      · rw [if_neg k] at h; exact h
    have h3 : lfE N M root page = 0 := by
      unfold raE at h2
      by_cases k : lfE N M root page = 0
      · exact k
      · rw [if_neg k] at h2; exact h2
    have h4 : okW N (lfF N M root page) (4 + page % 32) = true := by
      unfold raE at h2
      rw [if_pos h3] at h2
      exact en_ok h2
    exact ⟨rt_off h1, h, h2, h3, h4, seE_yes (rt_off h1) h4⟩
  · rw [if_neg h1] at h; cases h
theorem co_set {N : Nat} {M : Nat → Nat → Int} {root high f floor : Int} (hN : N ≤ 64) (h : coE N M root high f floor = 0) : Ppte.Rt true f 3 0 ∧ enE N M root high = 0 ∧ seE N root high true f 3 0 = 0 := by
  unfold coE at h
  by_cases h1 : okI high = true
  · rw [if_pos h1] at h
    by_cases h2 : tbB N M root 0 = true ∧ tbB N M f 1 = true
    · rw [if_pos h2] at h
      have hf := okF_yes (tb_okF h2.2)
      have hr := rt_leaf hf.1 (show f < 64 by omega)
      by_cases h3 : enE N M root high = 0
      · exact ⟨hr, h3, seE_yes hr (en_ok h3)⟩
      · rw [if_neg h3] at h; exact absurd h h3
    · rw [if_neg h2] at h; cases h
  · rw [if_neg h1] at h; cases h
theorem de_set {N : Nat} {M : Nat → Nat → Int} {root high now : Int} (h : deE N M root high now = 0) : Ppte.Rt false 0 0 now ∧ enE N M root high = 0 ∧ seE N root high false 0 0 now = 0 := by
  unfold deE at h
  by_cases h1 : okI high = true ∧ tiB now = true
  · rw [if_pos h1] at h
    by_cases h2 : tbB N M root 0 = true
    · rw [if_pos h2] at h
      by_cases h3 : enE N M root high = 0
      · exact ⟨rt_off h1.2, h3, seE_yes (rt_off h1.2) (en_ok h3)⟩
      · rw [if_neg h3] at h; exact absurd h h3
    · rw [if_neg h2] at h; cases h
  · rw [if_neg h1] at h; cases h
/-- Beside an error there is nothing. -/
theorem en_none {N : Nat} {M : Nat → Nat → Int} {f i : Int} (h : enE N M f i ≠ 0) : enO N M f i = false ∧ enF N M f i = 0 ∧ enR N M f i = 0 ∧ enT N M f i = 0 := by
  have key : ¬ Ppte.Got (enW N M f i) ∨ enW N M f i = 0 := by
    by_cases k : okW N f (4 + i) = true
    · left
      intro hg
      unfold enE at h
      rw [if_pos k] at h
      exact h (Ppte.get_yes hg).2.2.2.2
    · right
      unfold enW ldM
      rw [if_neg k]
  rcases key with k | k
  · obtain ⟨e0, e1, e2, e3, _⟩ := Ppte.get_no k
    exact ⟨e0, e1, e2, e3⟩
  · unfold enO enF enR enT
    rw [k]
    have : Ppte.wd false 0 0 0 = 0 := wd_zero
    obtain ⟨e0, e1, e2, e3, _⟩ := Ppte.got_back (o := false) (f := 0) (r := 0) (t := 0) ⟨fun e => (by cases e), fun _ => by omega⟩
    rw [this] at e0 e1 e2 e3
    exact ⟨e0, e1, e2, e3⟩

/-! ### what a set entry leaves of the others, and of the heads -/
theorem stW_own {N : Nat} {M : Nat → Nat → Int} {f a v : Int} (h : okW N f a = true) : stW N M f a v f.toNat a.toNat = v := by
  unfold stW
  rw [if_pos h]
  simp
theorem stW_other {N : Nat} {M : Nat → Nat → Int} {f a v : Int} {g b : Nat} (h : (g : Int) ≠ f ∨ (b : Int) ≠ a) : stW N M f a v g b = M g b := by
  unfold stW
  split
  · rename_i k
    simp only [okW, okF, Bool.and_eq_true, decide_eq_true_eq] at k
    dsimp only
    rw [if_neg (by omega)]
  · rfl
theorem se_other {N : Nat} {M : Nat → Nat → Int} {f i : Int} {o : Bool} {g r t : Int} {a b : Nat} (h : (a : Int) ≠ f ∨ (b : Int) ≠ 4 + i) : seM N M f i o g r t a b = M a b := by
  unfold seM
  split
  · exact stW_other h
  · rfl
theorem gh_words {N : Nat} {M M' : Nat → Nat → Int} {g : Int} (h : ∀ j, j < 4 → M' g.toNat j = M g.toNat j) :
    Phead.ghK N M' g = Phead.ghK N M g ∧ Phead.ghL N M' g = Phead.ghL N M g ∧ Phead.ghZ N M' g = Phead.ghZ N M g ∧ Phead.ghT N M' g = Phead.ghT N M g ∧ Phead.ghE N M' g = Phead.ghE N M g := by
  unfold Phead.ghK Phead.ghL Phead.ghZ Phead.ghT Phead.ghE
  rw [h 0 (by omega), h 1 (by omega), h 2 (by omega), h 3 (by omega)]
  exact ⟨rfl, rfl, rfl, rfl, rfl⟩
theorem gh_se {N : Nat} {M : Nat → Nat → Int} {f i : Int} (hi : 0 ≤ i) (o : Bool) (a r t g : Int) :
    Phead.ghK N (seM N M f i o a r t) g = Phead.ghK N M g ∧ Phead.ghL N (seM N M f i o a r t) g = Phead.ghL N M g ∧ Phead.ghZ N (seM N M f i o a r t) g = Phead.ghZ N M g ∧ Phead.ghT N (seM N M f i o a r t) g = Phead.ghT N M g ∧ Phead.ghE N (seM N M f i o a r t) g = Phead.ghE N M g :=
  gh_words fun j hj => se_other (.inr (by omega))
theorem tb_se {N : Nat} {M : Nat → Nat → Int} {f i : Int} (hi : 0 ≤ i) (o : Bool) (a r t g l : Int) : tbB N (seM N M f i o a r t) g l = tbB N M g l := by
  obtain ⟨e1, e2, _, _, e5⟩ := gh_se (N := N) (M := M) (f := f) hi o a r t g
  unfold tbB
  rw [e1, e2, e5]
/-- Entries whose word is the same. -/
theorem en_word {N : Nat} {M M' : Nat → Nat → Int} {g i : Int} (h : enW N M' g i = enW N M g i) : enE N M' g i = enE N M g i ∧ enO N M' g i = enO N M g i ∧ enF N M' g i = enF N M g i ∧ enR N M' g i = enR N M g i ∧ enT N M' g i = enT N M g i := by
  unfold enE enO enF enR enT
  rw [h]
  exact ⟨rfl, rfl, rfl, rfl, rfl⟩
theorem enW_other {N : Nat} {M : Nat → Nat → Int} {f i : Int} {o : Bool} {a r t g m : Int} (h : g ≠ f ∨ m ≠ i) : enW N (seM N M f i o a r t) g m = enW N M g m := by
  unfold enW ldM
  split
  · rename_i k
    simp only [okW, okF, Bool.and_eq_true, decide_eq_true_eq] at k
    exact se_other (by omega)
  · rfl
theorem en_other {N : Nat} {M : Nat → Nat → Int} {f i : Int} {o : Bool} {a r t g m : Int} (h : g ≠ f ∨ m ≠ i) : enE N (seM N M f i o a r t) g m = enE N M g m ∧ enO N (seM N M f i o a r t) g m = enO N M g m ∧ enF N (seM N M f i o a r t) g m = enF N M g m ∧ enR N (seM N M f i o a r t) g m = enR N M g m ∧ enT N (seM N M f i o a r t) g m = enT N M g m :=
  en_word (enW_other h)
/-- What is set is read. -/
theorem en_own {N : Nat} {M : Nat → Nat → Int} {f i : Int} {o : Bool} {a r t : Int} (hr : Ppte.Rt o a r t) (h : okW N f (4 + i) = true) : enE N (seM N M f i o a r t) f i = 0 ∧ enO N (seM N M f i o a r t) f i = o ∧ enF N (seM N M f i o a r t) f i = a ∧ enR N (seM N M f i o a r t) f i = r ∧ enT N (seM N M f i o a r t) f i = t := by
  have hw : enW N (seM N M f i o a r t) f i = Ppte.wd o a r t := by
    unfold enW ldM
    rw [if_pos h, seM_yes hr, stW_own h]
  obtain ⟨e0, e1, e2, e3, e4⟩ := Ppte.got_back hr
  unfold enE enO enF enR enT
  rw [hw, if_pos h]
  exact ⟨e4, e0, e1, e2, e3⟩
theorem okTo_congr {N : Nat} {M M' : Nat → Nat → Int} {f : Int} (k : Nat) (h : ∀ i : Nat, i < k → enE N M' f i = enE N M f i) : okTo N M' f k = okTo N M f k := by
  induction k with
  | zero => rfl
  | succ k ih =>
    unfold okTo
    rw [ih fun i hi => h i (by omega), h k (by omega)]
theorem okTo_all {N : Nat} {M : Nat → Nat → Int} {f : Int} (k : Nat) (h : ∀ i : Nat, i < k → enE N M f i = 0) : okTo N M f k = true := by
  induction k with
  | zero => rfl
  | succ k ih =>
    unfold okTo
    rw [ih fun i hi => h i (by omega), h k (by omega)]
    rfl
theorem onTo_congr {N : Nat} {M M' : Nat → Nat → Int} {f : Int} (k : Nat) (h : ∀ i : Nat, i < k → enO N M' f i = enO N M f i) : onTo N M' f k = onTo N M f k := by
  induction k with
  | zero => rfl
  | succ k ih =>
    unfold onTo
    rw [ih fun i hi => h i (by omega), h k (by omega)]
theorem onTo_none {N : Nat} {M : Nat → Nat → Int} {f : Int} (k : Nat) (h : ∀ i : Nat, i < k → enO N M f i = false) : onTo N M f k = 0 := by
  induction k with
  | zero => rfl
  | succ k ih =>
    unfold onTo
    rw [ih fun i hi => h i (by omega), h k (by omega)]
    rfl
/-- One entry that was not On is set On. -/
theorem onTo_one {N : Nat} {M M' : Nat → Nat → Int} {f : Int} {m : Nat} (k : Nat) (hm : m < k) (h0 : enO N M f m = false) (h1 : enO N M' f m = true) (h : ∀ i : Nat, i < k → i ≠ m → enO N M' f i = enO N M f i) : onTo N M' f k = onTo N M f k + 1 := by
  induction k with
  | zero => omega
  | succ k ih =>
    unfold onTo
    by_cases e : m = k
    · subst e
      rw [onTo_congr m fun i hi => h i (by omega) (by omega), h0, h1]
      simp
    · rw [ih (by omega) fun i hi hn => h i (by omega) hn, h k (by omega) (by omega)]
      omega
theorem onTo_bd {N : Nat} {M : Nat → Nat → Int} {f : Int} (k : Nat) : 0 ≤ onTo N M f k ∧ onTo N M f k ≤ k := by
  induction k with
  | zero => simp [onTo]
  | succ k ih =>
    unfold onTo
    split <;> omega
theorem okTo_fail {N : Nat} {M : Nat → Nat → Int} {f : Int} {k n : Nat} (h : enE N M f k ≠ 0) (hk : k < n) : okTo N M f n = false := by
  induction n with
  | zero => omega
  | succ n ih =>
    unfold okTo
    by_cases e : k = n
    · subst e
      simp [h]
    · rw [ih (by omega)]
      rfl
theorem en_form {N : Nat} {M : Nat → Nat → Int} {f i : Int} (hk : okW N f (4 + i) = true) (h : enE N M f i ≠ 0) : enE N M f i = 12 := by
  unfold enE at h ⊢
  rw [if_pos hk] at h ⊢
  unfold Ppte.getE at h ⊢
  split at h
  · exact absurd rfl h
  · rw [if_neg (by assumption)]
end Go.Proofs.YtfmkhjbahgcgiaaGreatDoor.Ppgtbl
