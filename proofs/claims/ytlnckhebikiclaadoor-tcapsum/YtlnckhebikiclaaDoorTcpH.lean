/- What giving and charging make of two budgets: TcapSum and TcapTwice in plain words. No program is named here. -/
import Derived.Test.YtlnckhebikiclaaDoorTcpG
namespace Go.Proofs.YtlnckhebikiclaaDoor.Ptcap
open Go.Proofs.YtlnckhebikiclaaDoor.Pbase Go.Proofs.YtlnckhebikiclaaDoor.Play Go.Proofs.YtlnckhebikiclaaDoor.Pmem
open Go.RowKit
set_option linter.unusedVariables false

/-- A frame made leaves the others. -/
theorem hmk_out {N : Nat} {M : Nat → Nat → Int} {f : Int} {g b : Nat} {k : Int} (h : (g : Int) ≠ f) : Phead.mkM N M f k 0 false 0 g b = M g b := by
  unfold Phead.mkM
  split
  · rw [Phead.st4_other (.inl h)]
    unfold clM
    split
    · rename_i hf
      have hf' := (okF_yes hf).1
      dsimp only
      rw [if_neg (by omega)]
    · rfl
  · rfl
theorem mk_out {N : Nat} {M : Nat → Nat → Int} {f : Int} {x : Bd} {g b : Nat} (h : (g : Int) ≠ f) : mkM N M f x g b = M g b := by
  unfold mkM
  split
  · rw [lay_out (.inl h), hmk_out h]
  · rfl
/-- What is read of a frame is read out of its words. -/
theorem gt_words {N : Nat} {M M' : Nat → Nat → Int} {f : Int} (h : ∀ b, M' f.toNat b = M f.toNat b) : gtE N M' f = gtE N M f ∧ gtT N M' f = gtT N M f ∧ bdOf M' f = bdOf M f := by
  have e0 : bdOf M' f = bdOf M f := by
    unfold bdOf
    rw [h, h, h]
  have e1 : gtE N M' f = gtE N M f := by
    unfold gtE rdB
    rw [is_words (fun j _ => h j) 5, e0, h]
  refine ⟨e1, ?_, e0⟩
  unfold gtT
  rw [e1, e0]
/-- Two frames, two right budgets. -/
structure Two (M : Nat → Nat → Int) (a b : Bd) : Prop where
  e0 : gtE 2 M 0 = 0
  t0 : gtT 2 M 0 = a
  e1 : gtE 2 M 1 = 0
  t1 : gtT 2 M 1 = b
theorem two_made {M : Nat → Nat → Int} {a b : Bd} (ha : Bo a) (hb : Bo b) : mkE 2 0 a = 0 ∧ mkE 2 1 b = 0 ∧ Two (mkM 2 (mkM 2 M 0 a) 1 b) a b := by
  obtain ⟨a1, a2, a3, _⟩ := gt_made (N := 2) (f := 0) (M := M) (by omega) ha
  obtain ⟨b1, b2, b3, _⟩ := gt_made (N := 2) (f := 1) (M := mkM 2 M 0 a) (by omega) hb
  obtain ⟨k1, k2, _⟩ := gt_words (N := 2) (M := mkM 2 M 0 a) (M' := mkM 2 (mkM 2 M 0 a) 1 b) (f := 0) (fun j => mk_out (by decide))
  exact ⟨a1, b1, k1.trans a2, k2.trans a3, b2, b3⟩
theorem two_sum {M : Nat → Nat → Int} {a b : Bd} (h : Two M a b) : smK 2 M 2 = a.lf + b.lf := by
  show 0 + (gtT 2 M ((0 : Nat) : Int)).lf + (gtT 2 M ((1 : Nat) : Int)).lf = _
  rw [show ((0 : Nat) : Int) = 0 from rfl, show ((1 : Nat) : Int) = 1 from rfl, h.t0, h.t1]
  omega
theorem Two.b0 {M : Nat → Nat → Int} {a b : Bd} (h : Two M a b) : bdOf M 0 = a := by rw [← (gt_yes h.e0).2.2.2, h.t0]
theorem Two.b1 {M : Nat → Nat → Int} {a b : Bd} (h : Two M a b) : bdOf M 1 = b := by rw [← (gt_yes h.e1).2.2.2, h.t1]
/-- Laid into the first, into the second. -/
theorem Two.lay0 {M : Nat → Nat → Int} {a b x : Bd} (h : Two M a b) (hx : Bo x) : Two (layF 2 M 0 x.ws) x b := by
  obtain ⟨h1, h2⟩ := gt_laid (N := 2) (f := 0) (M := M) (by omega) (gt_yes h.e0).1 hx
  obtain ⟨k1, k2, _⟩ := gt_other (N := 2) (M := M) (f := 0) (g := 1) (l := x.ws) (by decide) (by decide)
  exact ⟨h1, h2, k1.trans h.e1, k2.trans h.t1⟩
theorem Two.lay1 {M : Nat → Nat → Int} {a b x : Bd} (h : Two M a b) (hx : Bo x) : Two (layF 2 M 1 x.ws) a x := by
  obtain ⟨h1, h2⟩ := gt_laid (N := 2) (f := 1) (M := M) (by omega) (gt_yes h.e1).1 hx
  obtain ⟨k1, k2, _⟩ := gt_other (N := 2) (M := M) (f := 1) (g := 0) (l := x.ws) (by decide) (by decide)
  exact ⟨k1.trans h.e0, k2.trans h.t0, h1, h2⟩
/-- Given: what the two are, and the sum. -/
theorem two_give {M : Nat → Nat → Int} {a b : Bd} {n p : Int} (h : Two M a b) : (gvE 2 M 0 1 n p ≠ 0 ∧ gvM 2 M 0 1 n p = M) ∨ (gvE 2 M 0 1 n p = 0 ∧ Two (gvM 2 M 0 1 n p) (gvX a n) (gvY b n p) ∧ smK 2 (gvM 2 M 0 1 n p) 2 = a.lf + b.lf + (if a.inf = true then n else 0)) := by
  by_cases hg : gvE 2 M 0 1 n p = 0
  · right
    obtain ⟨x1, x2⟩ := gv_bo hg
    rw [h.b0] at x1
    rw [h.b1] at x2
    have em : gvM 2 M 0 1 n p = layF 2 (layF 2 M 0 (gvX a n).ws) 1 (gvY b n p).ws := by
      unfold gvM
      rw [if_pos hg, h.b0, h.b1]
    have h2 := (h.lay0 x1).lay1 x2
    rw [← em] at h2
    refine ⟨hg, h2, ?_⟩
    rw [two_sum h2]
    unfold gvX gvY
    split
    · dsimp only
      omega
    · dsimp only
      omega
  · left
    refine ⟨hg, ?_⟩
    unfold gvM
    rw [if_neg hg]
/-- Charged: the second one. -/
theorem two_charge {M : Nat → Nat → Int} {a b : Bd} {k : Int} (h : Two M a b) : (chE 2 M 1 k ≠ 0 ∧ ¬ (0 ≤ k ∧ k ≤ 1048576) ∧ chM 2 M 1 k = M) ∨ (chE 2 M 1 k = 0 ∧ b.inf = true ∧ chB 2 M 1 k = false ∧ chM 2 M 1 k = M) ∨ (chE 2 M 1 k = 0 ∧ b.inf = false ∧ chB 2 M 1 k = decide (chN b.lf k = 0) ∧ Two (chM 2 M 1 k) a (chX b k)) := by
  by_cases hk : chA k = true
  · have hc : chE 2 M 1 k = 0 := by unfold chE; rw [if_pos hk, h.e1]
    have hk' := (chA_iff k).1 hk
    right
    cases hi : b.inf
    · right
      have hbo : Bo b := by rw [← h.t1]; exact gt_bo 2 M 1
      have em : chM 2 M 1 k = layF 2 M 1 (chX b k).ws := by
        unfold chM
        rw [if_pos ⟨hc, by rw [h.b1]; exact hi⟩, h.b1]
      refine ⟨hc, rfl, ?_, ?_⟩
      · unfold chB
        rw [if_pos hc, h.b1, hi]
        simp
      · rw [em]
        exact h.lay1 (ch_bo hbo hk'.1 hi)
    · left
      refine ⟨hc, rfl, ?_, ?_⟩
      · unfold chB
        rw [if_pos hc, h.b1, hi]
        rfl
      · unfold chM
        rw [if_neg]
        rw [h.b1, hi]
        simp
  · left
    have hc : chE 2 M 1 k = 1 := by unfold chE; rw [if_neg hk]
    refine ⟨by rw [hc]; decide, fun e => hk ((chA_iff k).2 e), ?_⟩
    unfold chM
    rw [if_neg]
    rw [hc]
    simp
theorem two_can {M : Nat → Nat → Int} {a b : Bd} (h : Two M a b) : cnB 2 M 1 = (b.inf || decide (0 < b.lf)) := by
  unfold cnB
  rw [h.e1, h.t1]
  simp
/-! ### in two steps -/
theorem ch_twice {x a b : Int} (hx : 0 ≤ x) (ha : 0 ≤ a) (hb : 0 ≤ b) : chN (chN x a) b = chN x (a + b) := by
  unfold chN
  split <;> split <;> (try split) <;> omega
/-- Both frames of two are alike. -/
def Alk (M : Nat → Nat → Int) : Prop := ∀ j, M 0 j = M 1 j
theorem alk_same {M : Nat → Nat → Int} (h : Alk M) : sameM 2 M 0 1 = true := by
  have e : wdM M (0 : Int).toNat = wdM M (1 : Int).toNat := by
    unfold wdM
    congr 1
    funext j
    exact h j
  unfold sameM
  rw [e]
  simp [okF]
theorem lay_at {N : Nat} {M : Nat → Nat → Int} {f : Int} (hf : okF N f = true) (l : List Int) (g b : Nat) : layF N M f l g b = if g = f.toNat ∧ 4 ≤ b ∧ b < 4 + l.length then l[b - 4]?.getD 0 else M g b := by
  unfold layF
  rw [if_pos hf]
/-- A frame that was made, word by word: whatever lay there. -/
theorem mk_own {N f : Nat} {M : Nat → Nat → Int} {x : Bd} (hf : f < N) (hx : Bo x) (j : Nat) : mkM N M f x f j = if 4 ≤ j ∧ j < 7 then x.ws[j - 4]?.getD 0 else if j = 0 then Phead.wd0 5 0 false else 0 := by
  have e : mkM N M f x = layF N (Phead.mkM N M f 5 0 false 0) f x.ws := by unfold mkM; rw [if_pos (boB_yes hx)]
  have hr : Phead.Rt 5 0 false 0 := by unfold Phead.Rt; simp
  have e2 : Phead.mkM N M f 5 0 false 0 = Phead.st4 N (clM N M f) f (Phead.wd0 5 0 false) 0 0 0 := by unfold Phead.mkM; rw [if_pos (Phead.rtB_yes hr)]
  rw [e, lay_at (okF_nat hf), Int.toNat_natCast, ws_len]
  by_cases h : 4 ≤ j ∧ j < 7
  · rw [if_pos ⟨rfl, h⟩, if_pos h]
  · rw [if_neg (fun hh => h hh.2), if_neg h, e2, Phead.st4_own hf]
    have hc : clM N M f f j = 0 := by
      unfold clM
      rw [if_pos (okF_nat hf), Int.toNat_natCast, if_pos rfl]
    rw [hc]
    split
    · rfl
    · split
      · rfl
      · split
        · rfl
        · split <;> rfl
theorem alk_made {M : Nat → Nat → Int} {t : Bd} (ht : Bo t) : Alk (mkM 2 (mkM 2 M 0 t) 1 t) := fun j => by
  have e1 := mk_own (N := 2) (f := 1) (M := mkM 2 M 0 t) (x := t) (by omega) ht j
  have e0 := mk_own (N := 2) (f := 0) (M := M) (x := t) (by omega) ht j
  rw [show ((1 : Nat) : Int) = 1 from rfl] at e1
  rw [show ((0 : Nat) : Int) = 0 from rfl] at e0
  rw [e1, mk_out (by decide), e0]
/-- The same words laid into both. -/
theorem alk_lay {M : Nat → Nat → Int} (h : Alk M) (l : List Int) : Alk (layF 2 (layF 2 M 0 l) 1 l) := fun j => by
  rw [lay_out (.inl (by decide)), lay_at (by decide), lay_at (by decide), lay_at (by decide)]
  by_cases hj : 4 ≤ j ∧ j < 4 + l.length
  · rw [if_pos ⟨rfl, hj⟩, if_pos ⟨rfl, hj⟩]
  · rw [if_neg (fun e => hj e.2), if_neg (fun e => hj e.2), if_neg (fun e => hj e.2)]
    exact h j
/-- Charged: the first one. -/
theorem two_charge0 {M : Nat → Nat → Int} {a b : Bd} {k : Int} (h : Two M a b) (hk : 0 ≤ k ∧ k ≤ 1048576) : chE 2 M 0 k = 0 ∧ ((a.inf = true ∧ chB 2 M 0 k = false ∧ chM 2 M 0 k = M) ∨ (a.inf = false ∧ chB 2 M 0 k = decide (chN a.lf k = 0) ∧ chM 2 M 0 k = layF 2 M 0 (chX a k).ws ∧ Two (chM 2 M 0 k) (chX a k) b)) := by
  have hc : chE 2 M 0 k = 0 := by unfold chE; rw [if_pos ((chA_iff k).2 hk), h.e0]
  refine ⟨hc, ?_⟩
  cases hi : a.inf
  · right
    have hbo : Bo a := by rw [← h.t0]; exact gt_bo 2 M 0
    have em : chM 2 M 0 k = layF 2 M 0 (chX a k).ws := by
      unfold chM
      rw [if_pos ⟨hc, by rw [h.b0]; exact hi⟩, h.b0]
    refine ⟨rfl, ?_, em, ?_⟩
    · unfold chB
      rw [if_pos hc, h.b0, hi]
      simp
    · rw [em]
      exact h.lay0 (ch_bo hbo hk.1 hi)
  · left
    refine ⟨rfl, ?_, ?_⟩
    · unfold chB
      rw [if_pos hc, h.b0, hi]
      rfl
    · unfold chM
      rw [if_neg]
      rw [h.b0, hi]
      simp
theorem twice_all {M : Nat → Nat → Int} {t : Bd} {a b : Int} (h : Two M t t) (hA : Alk M) (ha : 0 ≤ a ∧ a ≤ 65535) (hb : 0 ≤ b ∧ b ≤ 65535) : chE 2 M 0 a = 0 ∧ chE 2 (chM 2 M 0 a) 0 b = 0 ∧ chE 2 (chM 2 (chM 2 M 0 a) 0 b) 1 (a + b) = 0 ∧ chB 2 (chM 2 M 0 a) 0 b = chB 2 (chM 2 (chM 2 M 0 a) 0 b) 1 (a + b) ∧ sameM 2 (chM 2 (chM 2 (chM 2 M 0 a) 0 b) 1 (a + b)) 0 1 = true := by
  obtain ⟨e1, h1⟩ := two_charge0 (k := a) h (by omega)
  have hbo : Bo t := by rw [← h.t0]; exact gt_bo 2 M 0
  rcases h1 with ⟨i1, _, m1⟩ | ⟨i1, _, m1, h2⟩
  · rw [m1]
    obtain ⟨e2, h3⟩ := two_charge0 (k := b) h (by omega)
    rcases h3 with ⟨_, b2, m2⟩ | ⟨i2, _⟩
    · rw [m2]
      rcases two_charge (k := a + b) h with ⟨_, hk, _⟩ | ⟨e3, _, b3, m3⟩ | ⟨_, i3, _⟩
      · exact absurd ⟨by omega, by omega⟩ hk
      · rw [m3]
        exact ⟨e1, e2, e3, by rw [b2, b3], alk_same hA⟩
      · rw [i1] at i3
        cases i3
    · rw [i1] at i2
      cases i2
  · obtain ⟨e2, h3⟩ := two_charge0 (k := b) h2 (by omega)
    rcases h3 with ⟨i2, _⟩ | ⟨_, b2, m2, h4⟩
    · exact absurd (i1.symm.trans i2) (by decide)
    · rcases two_charge (k := a + b) h4 with ⟨_, hk, _⟩ | ⟨_, i3, _⟩ | ⟨e3, _, b3, h5⟩
      · exact absurd ⟨by omega, by omega⟩ hk
      · exact absurd (i1.symm.trans i3) (by decide)
      · have hx : (chX (chX t a) b) = chX t (a + b) := by
          unfold chX
          dsimp only
          rw [ch_twice hbo.1.1 ha.1 hb.1]
        have hn : chN (chX t a).lf b = chN t.lf (a + b) := ch_twice hbo.1.1 ha.1 hb.1
        refine ⟨e1, e2, e3, by rw [b2, b3, hn], alk_same ?_⟩
        have m3 : chM 2 (chM 2 (chM 2 M 0 a) 0 b) 1 (a + b) = layF 2 (chM 2 (chM 2 M 0 a) 0 b) 1 (chX t (a + b)).ws := by
          generalize chM 2 (chM 2 M 0 a) 0 b = M2 at e3 h4 ⊢
          unfold chM
          rw [if_pos ⟨e3, by rw [h4.b1]; exact i1⟩, h4.b1]
        rw [m3, m2, m1, hx, lay_lay (by rw [ws_len, ws_len])]
        exact alk_lay hA _
end Go.Proofs.YtlnckhebikiclaaDoor.Ptcap
