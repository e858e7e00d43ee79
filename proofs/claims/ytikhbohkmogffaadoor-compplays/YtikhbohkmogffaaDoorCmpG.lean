/- Plain words on numbers laid into a frame behind its head, and on components: which are right, what is answered and done. No program is named here. -/
import Derived.Test.YtikhbohkmogffaaDoorBunHead
namespace Go.Proofs.YtikhbohkmogffaaDoor.Pcomp
open Go.Proofs.YtikhbohkmogffaaDoor.Pbase Go.Proofs.YtikhbohkmogffaaDoor.Pmem
open Go.RowKit
set_option linter.unusedVariables false

theorem rhide {p : Prop} (h : p) : Hid p := h
/-! ### numbers laid behind a head -/
/-- The words l from word 4 of frame f on. -/
def layF (N : Nat) (M : Nat → Nat → Int) (f : Int) (l : List Int) : Nat → Nat → Int := if okF N f = true then fun g b => if g = f.toNat ∧ 4 ≤ b ∧ b < 4 + l.length then l[b - 4]?.getD 0 else M g b else M
theorem lay_nil (N : Nat) (M : Nat → Nat → Int) (f : Int) : layF N M f [] = M := by
  unfold layF
  split
  · funext g b
    rw [if_neg (by rintro ⟨_, h1, h2⟩; simp at h2; omega)]
  · rfl
theorem lay_bad {N : Nat} {f : Int} (h : okF N f = false) (M : Nat → Nat → Int) (l : List Int) : layF N M f l = M := by
  unfold layF
  rw [if_neg (by rw [h]; decide)]
/-- One word more. -/
theorem lay_step {N : Nat} {M : Nat → Nat → Int} {f : Int} {l : List Int} (hl : l.length < 32) (x : Int) : stW N (layF N M f l) f (4 + (l.length : Int)) x = layF N M f (l ++ [x]) := by
  cases hf : okF N f
  · rw [lay_bad hf, lay_bad hf]
    unfold stW okW
    rw [hf]
    rfl
  · have hk : okW N f (4 + (l.length : Int)) = true := by unfold okW; rw [hf]; simp; omega
    unfold stW layF
    rw [if_pos hk, if_pos hf, if_pos hf]
    funext g b
    have e : (4 + (l.length : Int)).toNat = 4 + l.length := by omega
    rw [e, List.length_append, List.length_singleton]
    by_cases hg : g = f.toNat
    · by_cases hb : b = 4 + l.length
      · subst hb
        rw [if_pos ⟨hg, rfl⟩, if_pos ⟨hg, by omega, by omega⟩]
        simp
      · rw [if_neg (fun h => hb h.2)]
        by_cases hr : 4 ≤ b ∧ b < 4 + l.length
        · rw [if_pos ⟨hg, hr⟩, if_pos ⟨hg, by omega, by omega⟩, List.getElem?_append_left (by omega)]
        · rw [if_neg (fun h => hr h.2), if_neg (fun h => hr ⟨h.2.1, by omega⟩)]
    · rw [if_neg (fun h => hg h.1), if_neg (fun h => hg h.1), if_neg (fun h => hg h.1)]
theorem lay_own {N f : Nat} {M : Nat → Nat → Int} {l : List Int} (hf : f < N) {i : Nat} (hi : i < l.length) : layF N M f l f (4 + i) = l[i]?.getD 0 := by
  unfold layF
  rw [if_pos (okF_nat hf)]
  rw [if_pos ⟨by simp, by omega, by omega⟩, show 4 + i - 4 = i by omega]
theorem lay_out {N : Nat} {M : Nat → Nat → Int} {f : Int} {l : List Int} {g b : Nat} (h : (g : Int) ≠ f ∨ b < 4 ∨ 4 + l.length ≤ b) : layF N M f l g b = M g b := by
  unfold layF
  split
  · rename_i hf
    have hf' : 0 ≤ f := (okF_yes hf).1
    dsimp only
    rw [if_neg]
    rintro ⟨h1, h2, h3⟩
    rcases h with h | h | h <;> omega
  · rfl
theorem fit_lay {M : Nat → Nat → Int} (h : Fit M) (N : Nat) (f : Int) {l : List Int} (hl : ∀ x ∈ l, 0 ≤ x ∧ x ≤ 18446744073709551615) : Fit (layF N M f l) := by
  intro g b
  unfold layF
  split
  · dsimp only
    split
    · rename_i hb
      have hlt : b - 4 < l.length := by omega
      rw [List.getElem?_eq_getElem hlt]
      exact hl _ (List.getElem_mem hlt)
    · exact h g b
  · exact h g b
/-- Laid twice: the later words stay. -/
theorem lay_lay {N : Nat} {M : Nat → Nat → Int} {f : Int} {l m : List Int} (h : l.length = m.length) : layF N (layF N M f l) f m = layF N M f m := by
  unfold layF
  split
  · funext g b
    rw [h]
    by_cases hb : g = f.toNat ∧ 4 ≤ b ∧ b < 4 + m.length
    · rw [if_pos hb, if_pos hb]
    · rw [if_neg hb, if_neg hb]
      exact if_neg hb
  · rfl
/-- A head is read out of a frame's first four words. -/
theorem is_words {N : Nat} {M M' : Nat → Nat → Int} {f : Int} (h : ∀ j, j < 4 → M' f.toNat j = M f.toNat j) (q : Int) : Phead.isE N M' f q = Phead.isE N M f q := by
  unfold Phead.isE Phead.ghE Phead.ghK
  rw [h 0 (by omega), h 1 (by omega), h 2 (by omega), h 3 (by omega)]
theorem is_lay {N : Nat} {M : Nat → Nat → Int} {f g : Int} {l : List Int} (q : Int) : Phead.isE N (layF N M f l) g q = Phead.isE N M g q := is_words (fun j hj => lay_out (.inr (.inl hj))) q
theorem is_bad {N : Nat} {M : Nat → Nat → Int} {f : Int} (h : okF N f = false) (q : Int) : Phead.isE N M f q ≠ 0 := by
  have e : Phead.ghE N M f = 1 := by unfold Phead.ghE; rw [h]; rfl
  unfold Phead.isE
  rw [e, if_neg (by decide)]
  decide
/-- A frame made of a kind is of it. -/
theorem is_made {N f : Nat} {M : Nat → Nat → Int} {k : Int} (hf : f < N) (hk : 0 ≤ k ∧ k ≤ 6) : Phead.isE N (Phead.mkM N M f k 0 false 0) f k = 0 := by
  have hr : Phead.Rt k 0 false 0 := by unfold Phead.Rt; simp; omega
  have e : Phead.mkM N M f k 0 false 0 = Phead.st4 N (clM N M f) f (Phead.wd0 k 0 false) 0 0 0 := by unfold Phead.mkM; rw [if_pos (Phead.rtB_yes hr)]
  obtain ⟨g0, _, _, _, g4⟩ := Phead.put_got (M := clM N M f) hf hr
  rw [e]
  unfold Phead.isE
  rw [g4, if_pos rfl, g0, if_pos rfl]
theorem made_word {N f j : Nat} {M : Nat → Nat → Int} {k : Int} (hf : f < N) (hk : 0 ≤ k ∧ k ≤ 6) (hj : 4 ≤ j) : Phead.mkM N M f k 0 false 0 f j = 0 := by
  have hr : Phead.Rt k 0 false 0 := by unfold Phead.Rt; simp; omega
  have e : Phead.mkM N M f k 0 false 0 = Phead.st4 N (clM N M f) f (Phead.wd0 k 0 false) 0 0 0 := by unfold Phead.mkM; rw [if_pos (Phead.rtB_yes hr)]
  rw [e, Phead.made_zero hf hj]
theorem made_err {N : Nat} {f k : Int} (hk : 0 ≤ k ∧ k ≤ 6) : Phead.errP N f k 0 false 0 = errF N f := by
  have hr : Phead.Rt k 0 false 0 := by unfold Phead.Rt; simp; omega
  unfold Phead.errP
  rw [if_pos (Phead.rtB_yes hr)]

/-! ### components -/
structure Cp where
  tb : Int
  pg : Int
  l : Int
  e : Int
  fa : Int
  wh : Int
def Cp.ws (x : Cp) : List Int := [x.tb, x.pg, x.l, x.e, x.fa, x.wh]
def cp0 : Cp := ⟨0, 0, 0, 0, 0, 0⟩
def Co (x : Cp) : Prop := (0 ≤ x.tb ∧ x.tb ≤ 63) ∧ (0 ≤ x.pg ∧ x.pg ≤ 63) ∧ (0 ≤ x.l ∧ x.l ≤ 63) ∧ (0 ≤ x.e ∧ x.e ≤ 65535) ∧ (0 ≤ x.fa ∧ x.fa ≤ 64) ∧ (0 ≤ x.wh ∧ x.wh ≤ 1073741824) ∧ (x.fa = 0 → x.wh = 0)
def coB (x : Cp) : Bool := (decide (0 ≤ x.tb) && decide (x.tb ≤ 63)) && (decide (0 ≤ x.pg) && decide (x.pg ≤ 63)) && (decide (0 ≤ x.l) && decide (x.l ≤ 63)) && (decide (0 ≤ x.e) && decide (x.e ≤ 65535)) && (decide (0 ≤ x.fa) && decide (x.fa ≤ 64)) && (decide (0 ≤ x.wh) && decide (x.wh ≤ 1073741824)) && (decide (x.fa ≠ 0) || decide (x.wh = 0))
theorem coB_iff (x : Cp) : coB x = true ↔ Co x := by
  unfold coB Co
  simp
  omega
theorem coB_yes {x : Cp} (h : Co x) : coB x = true := (coB_iff x).2 h
theorem coB_no {x : Cp} (h : ¬ Co x) : coB x = false := Bool.eq_false_iff.2 fun e => h ((coB_iff x).1 e)
theorem Co.fit {x : Cp} (h : Co x) : ∀ v ∈ x.ws, 0 ≤ v ∧ v ≤ 18446744073709551615 := by
  unfold Co at h
  intro v hv
  simp only [Cp.ws, List.mem_cons, List.not_mem_nil, or_false] at hv
  rcases hv with rfl | rfl | rfl | rfl | rfl | rfl <;> omega
/-- What Check answers. -/
def ckE (x : Cp) : Int := if coB x = true then 0 else 1
/-- The component that a frame's words are. -/
def cpOf (M : Nat → Nat → Int) (f : Int) : Cp := ⟨M f.toNat 4, M f.toNat 5, M f.toNat 6, M f.toNat 7, M f.toNat 8, M f.toNat 9⟩
/-- Get. -/
def gtE (N : Nat) (M : Nat → Nat → Int) (f : Int) : Int := if Phead.isE N M f 3 = 0 then if coB (cpOf M f) = true then 0 else 12 else 4
def gtC (N : Nat) (M : Nat → Nat → Int) (f : Int) : Cp := if gtE N M f = 0 then cpOf M f else cp0
/-- Make. -/
def mkE (N : Nat) (f : Int) (x : Cp) : Int := if coB x = true then errF N f else 1
def mkM (N : Nat) (M : Nat → Nat → Int) (f : Int) (x : Cp) : Nat → Nat → Int := if coB x = true then layF N (Phead.mkM N M f 3 0 false 0) f x.ws else M
/-- Put. -/
def puE (N : Nat) (M : Nat → Nat → Int) (f : Int) (x : Cp) : Int := if coB x = true then if Phead.isE N M f 3 = 0 then 0 else 4 else 1
def puM (N : Nat) (M : Nat → Nat → Int) (f : Int) (x : Cp) : Nat → Nat → Int := if puE N M f x = 0 then layF N M f x.ws else M
/-- Hand. -/
def haB (tt wh : Int) : Bool := (decide (0 ≤ tt) && decide (tt ≤ 63)) && (decide (0 ≤ wh) && decide (wh ≤ 1073741824))
theorem haB_iff (tt wh : Int) : haB tt wh = true ↔ (0 ≤ tt ∧ tt ≤ 63) ∧ 0 ≤ wh ∧ wh ≤ 1073741824 := by
  unfold haB
  simp
def haX (x : Cp) (tt wh : Int) : Cp := ⟨x.tb, x.pg, x.l, x.e, tt + 1, wh⟩
def haE (N : Nat) (M : Nat → Nat → Int) (f tt wh : Int) : Int := if gtE N M f = 0 then if haB tt wh = true then 0 else 1 else gtE N M f
def haM (N : Nat) (M : Nat → Nat → Int) (f tt wh : Int) : Nat → Nat → Int := if haE N M f tt wh = 0 then layF N M f (haX (cpOf M f) tt wh).ws else M

/-! ### small facts -/
theorem gt_yes {N : Nat} {M : Nat → Nat → Int} {f : Int} (h : gtE N M f = 0) : Phead.isE N M f 3 = 0 ∧ Co (cpOf M f) ∧ gtC N M f = cpOf M f := by
  unfold gtC
  rw [if_pos h]
  unfold gtE at h
  split at h
  · rename_i h1
    split at h
    · rename_i h2
      exact ⟨h1, (coB_iff _).1 h2, rfl⟩
    · exact absurd h (by decide)
  · exact absurd h (by decide)
/-- What is handed on is right: Put takes it. -/
theorem ha_co {x : Cp} (h : Co x) {tt wh : Int} (hb : haB tt wh = true) : Co (haX x tt wh) := by
  have hb' := (haB_iff tt wh).1 hb
  unfold Co at h ⊢
  unfold haX
  dsimp only
  omega
theorem ha_put {N : Nat} {M : Nat → Nat → Int} {f tt wh : Int} (h : gtE N M f = 0) (hb : haB tt wh = true) : puE N M f (haX (cpOf M f) tt wh) = 0 ∧ haE N M f tt wh = 0 ∧ haM N M f tt wh = puM N M f (haX (cpOf M f) tt wh) := by
  obtain ⟨h1, h2, _⟩ := gt_yes h
  have e1 : puE N M f (haX (cpOf M f) tt wh) = 0 := by unfold puE; rw [if_pos (coB_yes (ha_co h2 hb)), if_pos h1]
  have e2 : haE N M f tt wh = 0 := by unfold haE; rw [if_pos h, if_pos hb]
  refine ⟨e1, e2, ?_⟩
  unfold haM puM
  rw [if_pos e2, if_pos e1]
theorem ws_len (x : Cp) : x.ws.length = 6 := rfl
theorem cp_laid {N f : Nat} {M : Nat → Nat → Int} (hf : f < N) (x : Cp) : cpOf (layF N M f x.ws) f = x := by
  have e : ∀ i, i < 6 → layF N M f x.ws f (4 + i) = x.ws[i]?.getD 0 := fun i hi => lay_own hf (by rw [ws_len]; exact hi)
  unfold cpOf
  rw [Int.toNat_natCast, show (4 : Nat) = 4 + 0 from rfl, show (5 : Nat) = 4 + 1 from rfl, show (6 : Nat) = 4 + 2 from rfl, show (7 : Nat) = 4 + 3 from rfl, show (8 : Nat) = 4 + 4 from rfl, show (9 : Nat) = 4 + 5 from rfl, e 0 (by omega), e 1 (by omega), e 2 (by omega), e 3 (by omega), e 4 (by omega), e 5 (by omega)]
  rfl
/-- A right component laid into a frame that is one's is what Get reads. -/
theorem gt_laid {N f : Nat} {M : Nat → Nat → Int} {x : Cp} (hf : f < N) (hi : Phead.isE N M f 3 = 0) (hx : Co x) : gtE N (layF N M f x.ws) f = 0 ∧ gtC N (layF N M f x.ws) f = x := by
  have e : gtE N (layF N M f x.ws) f = 0 := by
    unfold gtE
    rw [is_lay, if_pos hi, cp_laid hf, if_pos (coB_yes hx)]
  refine ⟨e, ?_⟩
  unfold gtC
  rw [if_pos e, cp_laid hf]
theorem gt_made {N f : Nat} {M : Nat → Nat → Int} {x : Cp} (hf : f < N) (hx : Co x) : mkE N f x = 0 ∧ gtE N (mkM N M f x) f = 0 ∧ gtC N (mkM N M f x) f = x ∧ Phead.isE N (mkM N M f x) f 3 = 0 := by
  have e : mkM N M f x = layF N (Phead.mkM N M f 3 0 false 0) f x.ws := by unfold mkM; rw [if_pos (coB_yes hx)]
  have hi := is_made (M := M) hf (show (0 : Int) ≤ 3 ∧ (3 : Int) ≤ 6 by omega)
  obtain ⟨h1, h2⟩ := gt_laid (x := x) hf hi hx
  rw [e]
  refine ⟨?_, h1, h2, by rw [is_lay]; exact hi⟩
  unfold mkE errF
  rw [if_pos (coB_yes hx), if_pos (okF_nat hf)]
theorem gt_put {N f : Nat} {M : Nat → Nat → Int} {x : Cp} (hf : f < N) (hi : Phead.isE N M f 3 = 0) (hx : Co x) : puE N M f x = 0 ∧ gtE N (puM N M f x) f = 0 ∧ gtC N (puM N M f x) f = x ∧ Phead.isE N (puM N M f x) f 3 = 0 := by
  have e1 : puE N M f x = 0 := by unfold puE; rw [if_pos (coB_yes hx), if_pos hi]
  have e : puM N M f x = layF N M f x.ws := by unfold puM; rw [if_pos e1]
  obtain ⟨h1, h2⟩ := gt_laid (x := x) hf hi hx
  rw [e]
  exact ⟨e1, h1, h2, by rw [is_lay]; exact hi⟩
theorem put_no {N : Nat} {M : Nat → Nat → Int} {f : Int} {x : Cp} (hx : ¬ Co x) : puE N M f x = 1 ∧ puM N M f x = M := by
  have e1 : puE N M f x = 1 := by unfold puE; rw [coB_no hx]; rfl
  refine ⟨e1, ?_⟩
  unfold puM
  rw [if_neg (by rw [e1]; decide)]
theorem fit_mk {M : Nat → Nat → Int} (h : Fit M) (N : Nat) (f : Int) (x : Cp) : Fit (mkM N M f x) := by
  unfold mkM
  split
  · rename_i hx
    exact fit_lay (Phead.fit_mk h N f 3 0 false 0) N f ((coB_iff x).1 hx).fit
  · exact h
theorem fit_pu {M : Nat → Nat → Int} (h : Fit M) (N : Nat) (f : Int) (x : Cp) : Fit (puM N M f x) := by
  unfold puM
  split
  · rename_i hx
    unfold puE at hx
    split at hx
    · rename_i hc
      exact fit_lay h N f ((coB_iff x).1 hc).fit
    · exact absurd hx (by decide)
  · exact h
theorem fit_ha {M : Nat → Nat → Int} (h : Fit M) (N : Nat) (f tt wh : Int) : Fit (haM N M f tt wh) := by
  unfold haM
  split
  · rename_i hx
    unfold haE at hx
    split at hx
    · rename_i hg
      split at hx
      · rename_i hb
        exact fit_lay h N f (ha_co (gt_yes hg).2.1 hb).fit
      · exact absurd hx (by decide)
    · rename_i hg
      exact absurd hx hg
  · exact h

/-! ### CompBack -/
theorem back_all {c d : Cp} {tt wh : Int} (hc : Co c) {M1 M2 M3 : Nat → Nat → Int} (h1 : M1 = mkM 1 (fun _ _ => 0) 0 c) (h2 : M2 = haM 1 M1 0 tt wh) (h3 : M3 = puM 1 M2 0 d) :
    mkE 1 0 c = 0 ∧ gtE 1 M1 0 = 0 ∧ gtC 1 M1 0 = c ∧ (haE 1 M1 0 tt wh = if haB tt wh = true then 0 else 1) ∧ gtE 1 M2 0 = 0 ∧ gtC 1 M2 0 = (if haB tt wh = true then haX c tt wh else c) ∧ puE 1 M2 0 d = ckE d ∧ gtE 1 M3 0 = 0 ∧ (ckE d = 0 → gtC 1 M3 0 = d) := by
  obtain ⟨a1, a2, a3, a4⟩ := gt_made (N := 1) (f := 0) (M := fun _ _ => 0) (by omega) hc
  rw [show ((0 : Nat) : Int) = 0 from rfl] at a1 a2 a3 a4
  rw [← h1] at a2 a3 a4
  have hcp : cpOf M1 0 = c := ((gt_yes a2).2.2).symm.trans a3
  have s2 : (haE 1 M1 0 tt wh = if haB tt wh = true then 0 else 1) ∧ gtE 1 M2 0 = 0 ∧ gtC 1 M2 0 = (if haB tt wh = true then haX c tt wh else c) ∧ Phead.isE 1 M2 0 3 = 0 := by
    by_cases hb : haB tt wh = true
    · obtain ⟨_, p2, p3⟩ := ha_put a2 hb
      rw [hcp] at p3
      obtain ⟨_, q2, q3, q4⟩ := gt_put (N := 1) (f := 0) (M := M1) (x := haX c tt wh) (by omega) a4 (ha_co hc hb)
      rw [show ((0 : Nat) : Int) = 0 from rfl, ← p3, ← h2] at q2 q3 q4
      rw [if_pos hb, if_pos hb]
      exact ⟨p2, q2, q3, q4⟩
    · have e : haE 1 M1 0 tt wh = 1 := by unfold haE; rw [if_pos a2, if_neg hb]
      have em : M2 = M1 := by rw [h2]; unfold haM; rw [if_neg (by rw [e]; decide)]
      rw [if_neg hb, if_neg hb, em]
      exact ⟨e, a2, a3, a4⟩
  obtain ⟨s3, s4, s5, s6⟩ := s2
  refine ⟨a1, a2, a3, s3, s4, s5, ?_⟩
  by_cases hd : Co d
  · obtain ⟨q1, q2, q3, _⟩ := gt_put (N := 1) (f := 0) (M := M2) (x := d) (by omega) s6 hd
    rw [show ((0 : Nat) : Int) = 0 from rfl] at q1 q2 q3
    rw [← h3] at q2 q3
    have e : ckE d = 0 := by unfold ckE; rw [if_pos (coB_yes hd)]
    rw [e]
    exact ⟨q1, q2, fun _ => q3⟩
  · obtain ⟨q1, q2⟩ := put_no (N := 1) (M := M2) (f := 0) hd
    have e : ckE d = 1 := by unfold ckE; rw [coB_no hd]; rfl
    rw [h3, q1, q2, e]
    exact ⟨rfl, s4, fun h => absurd h (by decide)⟩
theorem made_no {N : Nat} {f : Int} {x : Cp} (hx : ¬ Co x) : mkE N f x = 1 ∧ ckE x = 1 := by
  unfold mkE ckE
  rw [coB_no hx]
  exact ⟨rfl, rfl⟩
/-! ### CompWords -/
theorem wd0_comp : Phead.wd0 3 0 false = 3 := by decide +kernel
theorem words_all {c : Cp} (hc : Co c) {M1 : Nat → Nat → Int} (h1 : M1 = mkM 1 (fun _ _ => 0) 0 c) : M1 0 0 = 3 ∧ ∀ i, i < 32 → M1 0 (4 + i) = c.ws[i]?.getD 0 := by
  have e : M1 = layF 1 (Phead.mkM 1 (fun _ _ => 0) 0 3 0 false 0) 0 c.ws := by rw [h1]; unfold mkM; rw [if_pos (coB_yes hc)]
  refine ⟨?_, fun i hi => ?_⟩
  · have hr : Phead.Rt 3 0 false 0 := by unfold Phead.Rt; simp
    have em : Phead.mkM 1 (fun _ _ => 0) 0 3 0 false 0 = Phead.st4 1 (clM 1 (fun _ _ => 0) 0) 0 (Phead.wd0 3 0 false) 0 0 0 := by unfold Phead.mkM; rw [if_pos (Phead.rtB_yes hr)]
    have := Phead.st4_own (N := 1) (f := 0) (M := clM 1 (fun _ _ => 0) 0) (by omega) (Phead.wd0 3 0 false) 0 0 0 0
    rw [e, lay_out (.inr (.inl (by omega))), em]
    rw [show ((0 : Nat) : Int) = 0 from rfl] at this
    rw [this, if_pos rfl, wd0_comp]
  · rw [e]
    by_cases h6 : i < 6
    · exact lay_own (N := 1) (f := 0) (by omega) (by rw [ws_len]; exact h6)
    · rw [lay_out (.inr (.inr (by rw [ws_len]; omega)))]
      have := made_word (N := 1) (f := 0) (M := fun _ _ => 0) (k := 3) (j := 4 + i) (by omega) (by omega) (by omega)
      rw [show ((0 : Nat) : Int) = 0 from rfl] at this
      rw [this, List.getElem?_eq_none (by rw [ws_len]; omega)]
      rfl
/-! ### numbers of the machine -/
def In64 (a : Int) : Prop := -9223372036854775808 ≤ a ∧ a ≤ 9223372036854775807
def Fi (x : Cp) : Prop := In64 x.tb ∧ In64 x.pg ∧ In64 x.l ∧ In64 x.e ∧ In64 x.fa ∧ In64 x.wh
theorem in64_wf {a : Int} (h : (Lit.int .i64 a).wf = true) : In64 a := by
  have h' : (decide (IntKind.i64.min ≤ a) && decide (a ≤ IntKind.i64.max)) = true := h
  have e1 : IntKind.i64.min = -9223372036854775808 := by decide
  have e2 : IntKind.i64.max = 9223372036854775807 := by decide
  rw [e1, e2] at h'
  simpa [In64] using h'
theorem Co.fi {x : Cp} (h : Co x) : Fi x := by
  unfold Co at h
  unfold Fi In64
  omega
/-- A number as a word. -/
def asW (a : Int) : Int := if 0 ≤ a then a else a + 18446744073709551616
theorem asW_eq {a : Int} (h : In64 a) : IntKind.u64.wrap a = asW a := by
  rw [IntKind.wrap_u64]
  unfold In64 at h
  unfold asW
  split <;> omega
def Cp.w (x : Cp) : Cp := ⟨asW x.tb, asW x.pg, asW x.l, asW x.e, asW x.fa, asW x.wh⟩
theorem asW_fit {a : Int} (h : In64 a) : 0 ≤ asW a ∧ asW a ≤ 18446744073709551615 := by
  unfold In64 at h
  unfold asW
  split <;> omega
theorem w_co {x : Cp} (h : Co x) : x.w = x := by
  unfold Co at h
  unfold Cp.w asW
  rw [if_pos (by omega), if_pos (by omega), if_pos (by omega), if_pos (by omega), if_pos (by omega), if_pos (by omega)]
theorem asW_low {a c : Int} (h : In64 a) (hc : c ≤ 1073741824) (hl : asW a ≤ c) : asW a = a ∧ 0 ≤ a := by
  unfold In64 at h
  unfold asW at *
  split at hl
  · rename_i h0
    rw [if_pos h0]
    exact ⟨rfl, h0⟩
  · omega
theorem co_w {x : Cp} (h : Fi x) : Co x.w ↔ Co x := by
  constructor
  · intro h'
    obtain ⟨f0, f1, f2, f3, f4, f5⟩ := h
    obtain ⟨g0, g1, g2, g3, g4, g5, g6⟩ := h'
    have e0 := asW_low f0 (by omega) g0.2
    have e1 := asW_low f1 (by omega) g1.2
    have e2 := asW_low f2 (by omega) g2.2
    have e3 := asW_low f3 (by omega) g3.2
    have e4 := asW_low f4 (by omega) g4.2
    have e5 := asW_low f5 (by omega) g5.2
    unfold Cp.w at g0 g1 g2 g3 g4 g5 g6
    dsimp only at g0 g1 g2 g3 g4 g5 g6
    rw [e0.1] at g0
    rw [e1.1] at g1
    rw [e2.1] at g2
    rw [e3.1] at g3
    rw [e4.1] at g4
    rw [e5.1] at g5
    rw [e4.1, e5.1] at g6
    exact ⟨g0, g1, g2, g3, g4, g5, g6⟩
  · intro h'
    rw [w_co h']
    exact h'
theorem coB_w {x : Cp} (h : Fi x) : coB x.w = coB x := by
  by_cases hc : Co x
  · rw [coB_yes hc, coB_yes ((co_w h).2 hc)]
  · rw [coB_no hc, coB_no (fun e => hc ((co_w h).1 e))]
end Go.Proofs.YtikhbohkmogffaaDoor.Pcomp
