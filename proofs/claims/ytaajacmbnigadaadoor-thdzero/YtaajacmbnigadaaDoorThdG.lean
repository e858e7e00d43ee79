/- Plain words on threads: which are right, their words, their registers, what is answered and done. No program is named here. -/
import Derived.Test.YtaajacmbnigadaaDoorBunLay
namespace Go.Proofs.YtaajacmbnigadaaDoor.Pthd
open Go.Proofs.YtaajacmbnigadaaDoor.Pbase Go.Proofs.YtaajacmbnigadaaDoor.Play Go.Proofs.YtaajacmbnigadaaDoor.Pmem
open Go.RowKit
set_option linter.unusedVariables false

/-! ### threads -/
structure Th where
  st : Int
  co : Int
  tc : Int
  rc : Int
  de : Int
def Th.ws (x : Th) : List Int := [x.st, x.co, x.tc, x.rc, x.de]
def th0 : Th := ⟨0, 0, 0, 0, 0⟩
def To (x : Th) : Prop := (0 ≤ x.st ∧ x.st ≤ 3) ∧ (0 ≤ x.co ∧ x.co ≤ 3) ∧ (0 ≤ x.tc ∧ x.tc ≤ 63) ∧ (0 ≤ x.rc ∧ x.rc ≤ 64) ∧ (0 ≤ x.de ∧ x.de ≤ 6)
def toB (x : Th) : Bool := (decide (0 ≤ x.st) && decide (x.st ≤ 3)) && (decide (0 ≤ x.co) && decide (x.co ≤ 3)) && (decide (0 ≤ x.tc) && decide (x.tc ≤ 63)) && (decide (0 ≤ x.rc) && decide (x.rc ≤ 64)) && (decide (0 ≤ x.de) && decide (x.de ≤ 6))
theorem toB_iff (x : Th) : toB x = true ↔ To x := by
  unfold toB To
  simp
  omega
theorem toB_yes {x : Th} (h : To x) : toB x = true := (toB_iff x).2 h
theorem toB_no {x : Th} (h : ¬ To x) : toB x = false := Bool.eq_false_iff.2 fun e => h ((toB_iff x).1 e)
theorem To.fit {x : Th} (h : To x) : ∀ v ∈ x.ws, 0 ≤ v ∧ v ≤ 18446744073709551615 := by
  unfold To at h
  intro v hv
  simp only [Th.ws, List.mem_cons, List.not_mem_nil, or_false] at hv
  rcases hv with rfl | rfl | rfl | rfl | rfl <;> omega
theorem ws_fit {x : Th} (h : To x) : ∀ v ∈ x.ws, 0 ≤ v ∧ v ≤ 9223372036854775807 := by
  unfold To at h
  intro v hv
  simp only [Th.ws, List.mem_cons, List.not_mem_nil, or_false] at hv
  rcases hv with rfl | rfl | rfl | rfl | rfl <;> omega
theorem ws_len (x : Th) : x.ws.length = 5 := rfl
def Fi (x : Th) : Prop := In64 x.st ∧ In64 x.co ∧ In64 x.tc ∧ In64 x.rc ∧ In64 x.de
theorem To.fi {x : Th} (h : To x) : Fi x := by
  unfold To at h
  unfold Fi In64
  omega
/-- A thread's numbers as words. -/
def Th.w (x : Th) : Th := ⟨asW x.st, asW x.co, asW x.tc, asW x.rc, asW x.de⟩
theorem w_to {x : Th} (h : To x) : x.w = x := by
  unfold To at h
  unfold Th.w asW
  rw [if_pos (by omega), if_pos (by omega), if_pos (by omega), if_pos (by omega), if_pos (by omega)]
theorem to_w {x : Th} (h : Fi x) : To x.w ↔ To x := by
  constructor
  · intro h'
    obtain ⟨f0, f1, f2, f3, f4⟩ := h
    obtain ⟨g0, g1, g2, g3, g4⟩ := h'
    have e0 := asW_low f0 (by omega) g0.2
    have e1 := asW_low f1 (by omega) g1.2
    have e2 := asW_low f2 (by omega) g2.2
    have e3 := asW_low f3 (by omega) g3.2
    have e4 := asW_low f4 (by omega) g4.2
    unfold Th.w at g0 g1 g2 g3 g4
    dsimp only at g0 g1 g2 g3 g4
    rw [e0.1] at g0
    rw [e1.1] at g1
    rw [e2.1] at g2
    rw [e3.1] at g3
    rw [e4.1] at g4
    exact ⟨g0, g1, g2, g3, g4⟩
  · intro h'
    rw [w_to h']
    exact h'
theorem toB_w {x : Th} (h : Fi x) : toB x.w = toB x := by
  by_cases hc : To x
  · rw [toB_yes hc, toB_yes ((to_w h).2 hc)]
  · rw [toB_no hc, toB_no (fun e => hc ((to_w h).1 e))]
/-- What Check answers. -/
def ckE (x : Th) : Int := if toB x = true then 0 else 1
/-- The thread that a frame's words are. -/
def thOf (M : Nat → Nat → Int) (f : Int) : Th := ⟨M f.toNat 4, M f.toNat 5, M f.toNat 6, M f.toNat 7, M f.toNat 8⟩
/-- Get. -/
def gtE (N : Nat) (M : Nat → Nat → Int) (f : Int) : Int := if Phead.isE N M f 4 = 0 then if toB (thOf M f) = true then 0 else 12 else 4
def gtT (N : Nat) (M : Nat → Nat → Int) (f : Int) : Th := if gtE N M f = 0 then thOf M f else th0
/-- Make. -/
def mkE (N : Nat) (f : Int) (x : Th) : Int := if toB x = true then errF N f else 1
def mkM (N : Nat) (M : Nat → Nat → Int) (f : Int) (x : Th) : Nat → Nat → Int := if toB x = true then layF N (Phead.mkM N M f 4 0 false 0) f x.ws else M
/-- Put. -/
def puE (N : Nat) (M : Nat → Nat → Int) (f : Int) (x : Th) : Int := if toB x = true then if Phead.isE N M f 4 = 0 then 0 else 4 else 1
def puM (N : Nat) (M : Nat → Nat → Int) (f : Int) (x : Th) : Nat → Nat → Int := if puE N M f x = 0 then layF N M f x.ws else M
/-- State. -/
def stX (x : Th) (s : Int) : Th := ⟨s, x.co, x.tc, x.rc, x.de⟩
def stB (s : Int) : Bool := decide (0 ≤ s) && decide (s ≤ 3)
theorem stB_iff (s : Int) : stB s = true ↔ 0 ≤ s ∧ s ≤ 3 := by
  unfold stB
  simp
def stE (N : Nat) (M : Nat → Nat → Int) (f s : Int) : Int := if gtE N M f = 0 then if stB s = true then 0 else 1 else gtE N M f
def stM (N : Nat) (M : Nat → Nat → Int) (f s : Int) : Nat → Nat → Int := if stE N M f s = 0 then layF N M f (stX (thOf M f) s).ws else M

/-! ### small facts -/
theorem isE_ok {N : Nat} {M : Nat → Nat → Int} {f : Int} {q : Int} (h : Phead.isE N M f q = 0) : okF N f = true := by
  cases hf : okF N f
  · exact absurd h (is_bad hf q)
  · rfl
/-- The thread that five words are, if they can be. -/
def toX (x : Th) : Th := if toB x = true then x else th0
theorem toX_no {x : Th} (h : toB x = false) : toX x = th0 := by unfold toX; rw [h]; rfl
theorem toX_yes {x : Th} (h : toB x = true) : toX x = x := by unfold toX; rw [if_pos h]
theorem gt_yes {N : Nat} {M : Nat → Nat → Int} {f : Int} (h : gtE N M f = 0) : Phead.isE N M f 4 = 0 ∧ To (thOf M f) ∧ gtT N M f = thOf M f := by
  unfold gtT
  rw [if_pos h]
  unfold gtE at h
  split at h
  · rename_i h1
    split at h
    · rename_i h2
      exact ⟨h1, (toB_iff _).1 h2, rfl⟩
    · exact absurd h (by decide)
  · exact absurd h (by decide)
/-- State is a Put of what Get reads, with another state. -/
theorem st_put {N : Nat} {M : Nat → Nat → Int} {f s : Int} (h : gtE N M f = 0) : stE N M f s = puE N M f (stX (thOf M f) s) ∧ stM N M f s = puM N M f (stX (thOf M f) s) := by
  obtain ⟨h1, h2, _⟩ := gt_yes h
  have e0 : toB (stX (thOf M f) s) = stB s := by
    by_cases hs : 0 ≤ s ∧ s ≤ 3
    · rw [(stB_iff s).2 hs, toB_yes]
      unfold To at h2 ⊢
      unfold stX
      dsimp only
      omega
    · rw [show stB s = false by cases hb : stB s; rfl; exact absurd ((stB_iff s).1 hb) hs, toB_no]
      intro h3
      unfold To stX at h3
      dsimp only at h3
      exact hs h3.1
  have e1 : stE N M f s = puE N M f (stX (thOf M f) s) := by
    unfold stE puE
    rw [if_pos h, e0, if_pos h1]
  refine ⟨e1, ?_⟩
  unfold stM puM
  rw [e1]
theorem th_laid {N f : Nat} {M : Nat → Nat → Int} (hf : f < N) (x : Th) : thOf (layF N M f x.ws) f = x := by
  have e : ∀ i, i < 5 → layF N M f x.ws f (4 + i) = x.ws[i]?.getD 0 := fun i hi => lay_own hf (by rw [ws_len]; exact hi)
  unfold thOf
  rw [Int.toNat_natCast, show (4 : Nat) = 4 + 0 from rfl, show (5 : Nat) = 4 + 1 from rfl, show (6 : Nat) = 4 + 2 from rfl, show (7 : Nat) = 4 + 3 from rfl, show (8 : Nat) = 4 + 4 from rfl, e 0 (by omega), e 1 (by omega), e 2 (by omega), e 3 (by omega), e 4 (by omega)]
  rfl
/-- A right thread laid into a frame that is one's is what Get reads. -/
theorem gt_laid {N f : Nat} {M : Nat → Nat → Int} {x : Th} (hf : f < N) (hi : Phead.isE N M f 4 = 0) (hx : To x) : gtE N (layF N M f x.ws) f = 0 ∧ gtT N (layF N M f x.ws) f = x := by
  have e : gtE N (layF N M f x.ws) f = 0 := by
    unfold gtE
    rw [is_lay, if_pos hi, th_laid hf, if_pos (toB_yes hx)]
  refine ⟨e, ?_⟩
  unfold gtT
  rw [if_pos e, th_laid hf]
theorem gt_made {N f : Nat} {M : Nat → Nat → Int} {x : Th} (hf : f < N) (hx : To x) : mkE N f x = 0 ∧ gtE N (mkM N M f x) f = 0 ∧ gtT N (mkM N M f x) f = x ∧ Phead.isE N (mkM N M f x) f 4 = 0 := by
  have e : mkM N M f x = layF N (Phead.mkM N M f 4 0 false 0) f x.ws := by unfold mkM; rw [if_pos (toB_yes hx)]
  have hi := is_made (M := M) hf (show (0 : Int) ≤ 4 ∧ (4 : Int) ≤ 6 by omega)
  obtain ⟨h1, h2⟩ := gt_laid (x := x) hf hi hx
  rw [e]
  refine ⟨?_, h1, h2, by rw [is_lay]; exact hi⟩
  unfold mkE errF
  rw [if_pos (toB_yes hx), if_pos (okF_nat hf)]
theorem made_no {N : Nat} {f : Int} {x : Th} (hx : ¬ To x) : mkE N f x = 1 ∧ ckE x = 1 := by
  unfold mkE ckE
  rw [toB_no hx]
  exact ⟨rfl, rfl⟩
theorem gt_put {N f : Nat} {M : Nat → Nat → Int} {x : Th} (hf : f < N) (hi : Phead.isE N M f 4 = 0) (hx : To x) : puE N M f x = 0 ∧ gtE N (puM N M f x) f = 0 ∧ gtT N (puM N M f x) f = x ∧ Phead.isE N (puM N M f x) f 4 = 0 := by
  have e1 : puE N M f x = 0 := by unfold puE; rw [if_pos (toB_yes hx), if_pos hi]
  have e : puM N M f x = layF N M f x.ws := by unfold puM; rw [if_pos e1]
  obtain ⟨h1, h2⟩ := gt_laid (x := x) hf hi hx
  rw [e]
  exact ⟨e1, h1, h2, by rw [is_lay]; exact hi⟩
theorem put_no {N : Nat} {M : Nat → Nat → Int} {f : Int} {x : Th} (hx : ¬ To x) : puE N M f x = 1 ∧ puM N M f x = M := by
  have e1 : puE N M f x = 1 := by unfold puE; rw [toB_no hx]; rfl
  refine ⟨e1, ?_⟩
  unfold puM
  rw [if_neg (by rw [e1]; decide)]
theorem fit_mk {M : Nat → Nat → Int} (h : Fit M) (N : Nat) (f : Int) (x : Th) : Fit (mkM N M f x) := by
  unfold mkM
  split
  · rename_i hx
    exact fit_lay (Phead.fit_mk h N f 4 0 false 0) N f ((toB_iff x).1 hx).fit
  · exact h
theorem fit_pu {M : Nat → Nat → Int} (h : Fit M) (N : Nat) (f : Int) (x : Th) : Fit (puM N M f x) := by
  unfold puM
  split
  · rename_i hx
    unfold puE at hx
    split at hx
    · rename_i hc
      exact fit_lay h N f ((toB_iff x).1 hc).fit
    · exact absurd hx (by decide)
  · exact h
theorem fit_st {M : Nat → Nat → Int} (h : Fit M) (N : Nat) (f s : Int) : Fit (stM N M f s) := by
  by_cases hg : gtE N M f = 0
  · rw [(st_put hg).2]
    exact fit_pu h N f _
  · unfold stM
    rw [if_neg]
    · exact h
    · unfold stE
      rw [if_neg hg]
      exact hg

/-! ### registers -/
/-- The words L from word 9 of frame f on, k of them. -/
def regF (N : Nat) (M : Nat → Nat → Int) (f : Int) (L : Nat → Int) (k : Nat) : Nat → Nat → Int := if okF N f = true then fun g b => if g = f.toNat ∧ 9 ≤ b ∧ b < 9 + k then L (b - 9) else M g b else M
theorem reg_zero (N : Nat) (M : Nat → Nat → Int) (f : Int) (L : Nat → Int) : regF N M f L 0 = M := by
  unfold regF
  split
  · funext g b
    rw [if_neg (by omega)]
  · rfl
theorem reg_bad {N : Nat} {f : Int} (h : okF N f = false) (M : Nat → Nat → Int) (L : Nat → Int) (k : Nat) : regF N M f L k = M := by
  unfold regF
  rw [if_neg (by rw [h]; decide)]
/-- One register more. -/
theorem reg_step {N : Nat} {M : Nat → Nat → Int} {f : Int} {L : Nat → Int} {k : Nat} (hk : k < 8) : stW N (regF N M f L k) f (9 + (k : Int)) (L k) = regF N M f L (k + 1) := by
  cases hf : okF N f
  · rw [reg_bad hf, reg_bad hf]
    unfold stW okW
    rw [hf]
    rfl
  · have ho : okW N f (9 + (k : Int)) = true := by unfold okW; rw [hf]; simp; omega
    unfold stW regF
    rw [if_pos ho, if_pos hf, if_pos hf]
    funext g b
    have e : (9 + (k : Int)).toNat = 9 + k := by omega
    rw [e]
    by_cases hg : g = f.toNat
    · by_cases hb : b = 9 + k
      · subst hb
        rw [if_pos ⟨hg, rfl⟩, if_pos ⟨hg, by omega, by omega⟩]
        congr 1
        omega
      · rw [if_neg (fun h => hb h.2)]
        by_cases hr : 9 ≤ b ∧ b < 9 + k
        · rw [if_pos ⟨hg, hr⟩, if_pos ⟨hg, by omega, by omega⟩]
        · rw [if_neg (fun h => hr h.2), if_neg (fun h => hr ⟨h.2.1, by omega⟩)]
    · rw [if_neg (fun h => hg h.1), if_neg (fun h => hg h.1), if_neg (fun h => hg h.1)]
theorem reg_own {N f : Nat} {M : Nat → Nat → Int} {L : Nat → Int} {k : Nat} (hf : f < N) {i : Nat} (hi : i < k) : regF N M f L k f (9 + i) = L i := by
  unfold regF
  rw [if_pos (okF_nat hf), if_pos ⟨by simp, by omega, by omega⟩]
  congr 1
  omega
theorem reg_out {N : Nat} {M : Nat → Nat → Int} {f : Int} {L : Nat → Int} {k g b : Nat} (h : (g : Int) ≠ f ∨ b < 9 ∨ 9 + k ≤ b) : regF N M f L k g b = M g b := by
  unfold regF
  split
  · rename_i hf
    have hf' : 0 ≤ f := (okF_yes hf).1
    dsimp only
    rw [if_neg]
    rintro ⟨h1, h2, h3⟩
    rcases h with h | h | h <;> omega
  · rfl
theorem fit_reg {M : Nat → Nat → Int} (h : Fit M) (N : Nat) (f : Int) {L : Nat → Int} (hL : ∀ j, j < 8 → 0 ≤ L j ∧ L j ≤ 18446744073709551615) {k : Nat} (hk : k ≤ 8) : Fit (regF N M f L k) := by
  intro g b
  unfold regF
  split
  · dsimp only
    split
    · exact hL _ (by omega)
    · exact h g b
  · exact h g b
theorem is_reg {N : Nat} {M : Nat → Nat → Int} {f g : Int} {L : Nat → Int} {k : Nat} (q : Int) : Phead.isE N (regF N M f L k) g q = Phead.isE N M g q := is_words (fun j hj => reg_out (.inr (.inl (by omega)))) q
theorem th_reg {N : Nat} {M : Nat → Nat → Int} {f g : Int} {L : Nat → Int} {k : Nat} : thOf (regF N M f L k) g = thOf M g := by
  unfold thOf
  rw [reg_out (.inr (.inl (by omega))), reg_out (.inr (.inl (by omega))), reg_out (.inr (.inl (by omega))), reg_out (.inr (.inl (by omega))), reg_out (.inr (.inl (by omega)))]
theorem gt_reg {N : Nat} {M : Nat → Nat → Int} {f g : Int} {L : Nat → Int} {k : Nat} : gtE N (regF N M f L k) g = gtE N M g ∧ gtT N (regF N M f L k) g = gtT N M g := by
  have e : gtE N (regF N M f L k) g = gtE N M g := by
    unfold gtE
    rw [is_reg, th_reg]
  refine ⟨e, ?_⟩
  unfold gtT
  rw [e, th_reg]
/-- Save, Load, Reg. -/
def svE (N : Nat) (M : Nat → Nat → Int) (f : Int) : Int := if Phead.isE N M f 4 = 0 then 0 else 4
def svM (N : Nat) (M : Nat → Nat → Int) (f : Int) (L : Nat → Int) : Nat → Nat → Int := if svE N M f = 0 then regF N M f L 8 else M
/-- The registers behind Load: the frame's, k of them. -/
def rgL (M : Nat → Nat → Int) (f : Int) (L : Nat → Int) (k : Nat) : Nat → Int := fun j => if j < k then M f.toNat (9 + j) else L j
def ldL (N : Nat) (M : Nat → Nat → Int) (f : Int) (L : Nat → Int) : Nat → Int := if svE N M f = 0 then rgL M f L 8 else L
theorem rg_zero (M : Nat → Nat → Int) (f : Int) (L : Nat → Int) : rgL M f L 0 = L := by
  funext j
  unfold rgL
  rw [if_neg (by omega)]
theorem rg_step (M : Nat → Nat → Int) (f : Int) (L : Nat → Int) (k : Nat) : (fun j => if j = k then M f.toNat (9 + k) else rgL M f L k j) = rgL M f L (k + 1) := by
  funext j
  unfold rgL
  by_cases h : j = k
  · subst h
    rw [if_pos rfl, if_pos (by omega)]
  · rw [if_neg h]
    by_cases h2 : j < k
    · rw [if_pos h2, if_pos (by omega)]
    · rw [if_neg h2, if_neg (by omega)]
def okG (i : Int) : Bool := decide (0 ≤ i) && decide (i < 8)
theorem okG_iff (i : Int) : okG i = true ↔ 0 ≤ i ∧ i < 8 := by
  unfold okG
  simp
def rgE (N : Nat) (M : Nat → Nat → Int) (f i : Int) : Int := if Phead.isE N M f 4 = 0 then if okG i = true then 0 else 1 else 4
def rgM (N : Nat) (M : Nat → Nat → Int) (f i v : Int) : Nat → Nat → Int := if rgE N M f i = 0 then stW N M f (9 + i) v else M
theorem fit_sv {M : Nat → Nat → Int} (h : Fit M) (N : Nat) (f : Int) {L : Nat → Int} (hL : ∀ j, j < 8 → 0 ≤ L j ∧ L j ≤ 18446744073709551615) : Fit (svM N M f L) := by
  unfold svM
  split
  · exact fit_reg h N f hL (Nat.le_refl _)
  · exact h
theorem fit_rg {M : Nat → Nat → Int} (h : Fit M) (N : Nat) (f i v : Int) (hv : 0 ≤ v ∧ v ≤ 18446744073709551615) : Fit (rgM N M f i v) := by
  unfold rgM
  split
  · exact h.st N f _ v hv
  · exact h
theorem fit_ld {M : Nat → Nat → Int} (h : Fit M) (N : Nat) (f : Int) {L : Nat → Int} (hL : ∀ j, j < 8 → 0 ≤ L j ∧ L j ≤ 18446744073709551615) : ∀ j, j < 8 → 0 ≤ ldL N M f L j ∧ ldL N M f L j ≤ 18446744073709551615 := by
  intro j hj
  unfold ldL rgL
  split
  · dsimp only
    rw [if_pos hj]
    exact h _ _
  · exact hL j hj
/-! ### ThdBack -/
theorem back_all {t u : Th} (ht : To t) {R : Nat → Int} {M1 M2 M3 : Nat → Nat → Int} (h1 : M1 = mkM 1 (fun _ _ => 0) 0 t) (h2 : M2 = svM 1 M1 0 R) (h3 : M3 = puM 1 M2 0 u) :
    mkE 1 0 t = 0 ∧ gtE 1 M1 0 = 0 ∧ gtT 1 M1 0 = t ∧ svE 1 M1 0 = 0 ∧ puE 1 M2 0 u = ckE u ∧ svE 1 M3 0 = 0 ∧ (∀ (L : Nat → Int) (j : Nat), j < 8 → ldL 1 M3 0 L j = R j) ∧ gtE 1 M3 0 = 0 ∧ gtT 1 M3 0 = (if ckE u = 0 then u else t) := by
  obtain ⟨a1, a2, a3, a4⟩ := gt_made (N := 1) (f := 0) (M := fun _ _ => 0) (by omega) ht
  rw [show ((0 : Nat) : Int) = 0 from rfl] at a1 a2 a3 a4
  rw [← h1] at a2 a3 a4
  have s1 : svE 1 M1 0 = 0 := by unfold svE; rw [if_pos a4]
  have em : M2 = regF 1 M1 0 R 8 := by rw [h2]; unfold svM; rw [if_pos s1]
  have i2 : Phead.isE 1 M2 0 4 = 0 := by rw [em, is_reg]; exact a4
  have g2 : gtE 1 M2 0 = 0 := by rw [em, gt_reg.1]; exact a2
  have t2 : gtT 1 M2 0 = t := by rw [em, gt_reg.2]; exact a3
  have r2 : ∀ j, j < 8 → M2 0 (9 + j) = R j := fun j hj => by
    rw [em]
    exact reg_own (N := 1) (f := 0) (by omega) hj
  by_cases hu : To u
  · obtain ⟨b1, b2, b3, b4⟩ := gt_put (N := 1) (f := 0) (M := M2) (x := u) (by omega) i2 hu
    rw [show ((0 : Nat) : Int) = 0 from rfl] at b1 b2 b3 b4
    rw [← h3] at b2 b3 b4
    have eu : ckE u = 0 := by unfold ckE; rw [if_pos (toB_yes hu)]
    have s3 : svE 1 M3 0 = 0 := by unfold svE; rw [if_pos b4]
    rw [eu, if_pos rfl]
    refine ⟨a1, a2, a3, s1, b1, s3, fun L j hj => ?_, b2, b3⟩
    unfold ldL rgL
    rw [if_pos s3]
    rw [if_pos hj, show ((0 : Int).toNat) = 0 from rfl, ← r2 j hj, h3]
    unfold puM
    rw [if_pos b1]
    exact lay_out (.inr (.inr (by rw [ws_len]; omega)))
  · obtain ⟨b1, b2⟩ := put_no (N := 1) (M := M2) (f := 0) hu
    have eu : ckE u = 1 := by unfold ckE; rw [toB_no hu]; rfl
    rw [← h3] at b2
    have s3 : svE 1 M3 0 = 0 := by unfold svE; rw [b2, if_pos i2]
    rw [eu, if_neg (by decide)]
    refine ⟨a1, a2, a3, s1, b1, s3, fun L j hj => ?_, by rw [b2]; exact g2, by rw [b2]; exact t2⟩
    unfold ldL rgL
    rw [if_pos s3]
    rw [if_pos hj, show ((0 : Int).toNat) = 0 from rfl, ← r2 j hj, b2]
end Go.Proofs.YtaajacmbnigadaaDoor.Pthd
