/- State and Reg of package thd, for all arguments. -/
import Derived.Test.YtaajacmbnigadaaGreatDoorThdD
namespace Go.Proofs.YtaajacmbnigadaaGreatDoor.Pthd
open Go.Proofs.YtaajacmbnigadaaGreatDoor.Pbase Go.Proofs.YtaajacmbnigadaaGreatDoor.Pfield Go.Proofs.YtaajacmbnigadaaGreatDoor.Play Go.Proofs.YtaajacmbnigadaaGreatDoor.Pmem
open Go.RowKit M
set_option linter.unusedVariables false

/-! ### State -/
set_option maxRecDepth 100000 in
set_option maxHeartbeats 1000000 in
theorem state_any (p b N : Nat) (f s : Int) (M : Nat → Nat → Int) (w : World) (hM : Mx w p b N M) (hs : In64 s) :
    Calls Tryz.prog 11 #[.pointer (some ⟨p, 0, none⟩), .int .i64 f, .int .i64 s] w fun e w' => e = .returned (.int .i64 (stE N M f s)) ∧ Mx w' p b N (Pthd.stM N M f s) ∧ But b w w' := by
  have HG : Hid (Calls Tryz.prog 21 #[.pointer (some ⟨p, 0, none⟩), .int .i64 f] w fun e w' => e = .returned (.tuple #[.agg #[.int .i64 (gtT N M f).st, .int .i64 (gtT N M f).co, .int .i64 (gtT N M f).tc, .int .i64 (gtT N M f).rc, .int .i64 (gtT N M f).de], .int .i64 (gtE N M f)]) ∧ Below w.heap.size w w') := get_any p b N f M w hM
  have HX : Hid (∀ W, Below w.heap.size w W → Mx W p b N M ∧ But b w W) := fun W h => ⟨hM.on h, But.of_below b h⟩
  by_cases hg : gtE N M f = 0
  · obtain ⟨h1, h2, h3⟩ := gt_yes hg
    obtain ⟨e1, e2⟩ := st_put (s := s) hg
    rw [hg, h3] at HG
    rw [e1, e2]
    have hfi : Fi (stX (thOf M f) s) := ⟨hs, h2.fi.2.1, h2.fi.2.2.1, h2.fi.2.2.2.1, h2.fi.2.2.2.2⟩
    have HP : Hid (∀ wc, Mx wc p b N M ∧ But b w wc → Calls Tryz.prog 9 #[.pointer (some ⟨p, 0, none⟩), .int .i64 f, .agg #[.int .i64 s, .int .i64 (thOf M f).co, .int .i64 (thOf M f).tc, .int .i64 (thOf M f).rc, .int .i64 (thOf M f).de]] wc fun e w' => e = .returned (.int .i64 (puE N M f (stX (thOf M f) s))) ∧ Mx w' p b N (puM N M f (stX (thOf M f) s)) ∧ But b w w') := fun wc h =>
      (put_any p b N f (stX (thOf M f) s) M wc h.1 hfi).mono fun e w' ⟨q1, q2, q3⟩ => ⟨q1, q2, h.2.trans q3⟩
    clear e1 e2 hfi hg h1 h2 h3 hM hs
    generalize puE N M f (stX (thOf M f) s) = E at HP ⊢
    generalize puM N M f (stX (thOf M f) s) = M1 at HP ⊢
    generalize thOf M f = y at HG HP
    go_enter Tryz.func11, Tryz.ntmps11
    go_wp2_with (first
      | (go_at_call 21; refine HG.out.mono ?_; rintro e1 w1 ⟨rfl, hb⟩; have H2 := rhide (HX.out _ (bal hb (.cells #[.int .i64 s, .int .i64 y.co, .int .i64 y.tc, .int .i64 y.rc, .int .i64 y.de] 37))); clear hb HG HX)
      | (go_at_call 9; refine (HP.out _ H2.out).mono ?_; rintro e3 w3 ⟨rfl, hw⟩; have H3 := rhide hw; clear hw HP H2)
      | fail)
    go_ret
    exact ⟨rfl, H3.out⟩
  · have e1 : stE N M f s = gtE N M f := by unfold stE; rw [if_neg hg]
    have e2 : Pthd.stM N M f s = M := by unfold Pthd.stM; rw [if_neg (by rw [e1]; exact hg)]
    rw [e1, e2]
    generalize gtE N M f = E at HG hg ⊢
    generalize gtT N M f = y at HG
    have hE : (E != 0) = true := by simp [hg]
    clear e1 e2 hg hM
    go_enter Tryz.func11, Tryz.ntmps11
    go_wp2_with (first
      | (go_at_call 21; refine HG.out.mono ?_; rintro e1 w1 ⟨rfl, hb⟩; have H2 := rhide (HX.out _ (bal hb (.cells #[.int .i64 y.st, .int .i64 y.co, .int .i64 y.tc, .int .i64 y.rc, .int .i64 y.de] 37))); clear hb HG HX)
      | fail)
    go_ret
    exact ⟨rfl, H2.out⟩
/-! ### Reg -/
set_option maxRecDepth 100000 in
set_option maxHeartbeats 1000000 in
theorem reg_any (p b N : Nat) (f i v : Int) (M : Nat → Nat → Int) (w : World) (hM : Mx w p b N M) (hv : 0 ≤ v ∧ v ≤ 18446744073709551615) :
    Calls Tryz.prog 19 #[.pointer (some ⟨p, 0, none⟩), .int .i64 f, .int .i64 i, .int .u64 v] w fun e w' => e = .returned (.int .i64 (rgE N M f i)) ∧ Mx w' p b N (rgM N M f i v) ∧ But b w w' := by
  have HIs : Hid (Calls Tryz.prog 39 #[.pointer (some ⟨p, 0, none⟩), .int .i64 f] w fun e w' => e = .returned (.bool (Phead.isE N M f 4 == 0)) ∧ Below w.heap.size w w') := isT_any p b N f M w hM
  have HX : Hid (∀ W, Below w.heap.size w W → Mx W p b N M ∧ But b w W) := fun W h => ⟨hM.on h, But.of_below b h⟩
  by_cases hk : Phead.isE N M f 4 = 0
  · rw [show (Phead.isE N M f 4 == 0) = true by simp [hk]] at HIs
    by_cases hi : 0 ≤ i ∧ i < 8
    · have hg : okG i = true := (okG_iff i).2 hi
      have e1 : rgE N M f i = 0 := by unfold rgE; rw [if_pos hk, if_pos hg]
      have e2 : rgM N M f i v = stW N M f (9 + i) v := by unfold rgM; rw [if_pos e1]
      have ho : okW N f (9 + i) = true := by unfold okW; rw [isE_ok hk]; simp; omega
      have HS : Hid (∀ wc, Mx wc p b N M ∧ But b w wc → Calls Tryz.prog 31 #[.pointer (some ⟨p, 0, none⟩), .int .i64 f, .int .i64 (9 + i), .int .u64 v] wc fun e w' => e = .returned (.int .i64 0) ∧ Mx w' p b N (stW N M f (9 + i) v) ∧ But b w w') := fun wc h => by
        have := store_any p b N f (9 + i) v M wc hM.n1 hM.n64 h.1.mem
        rw [show errW N f (9 + i) = 0 by unfold errW; rw [ho]; rfl] at this
        refine this.mono ?_
        rintro e w' ⟨rfl, rfl⟩
        have hb : But b wc (wc.setRow b (cellsM N (stW N M f (9 + i) v))) := (But.refl b wc).setRow _
        exact ⟨rfl, h.1.but (h.1.mem.set _) (hM.fit.st N f _ v hv) hb, h.2.trans hb⟩
      rw [e1, e2]
      clear e1 e2 ho hg hk hM hv
      generalize stW N M f (9 + i) v = M1 at HS ⊢
      have g1 : ¬ i < 0 := by omega
      have g2 : ¬ 8 ≤ i := by omega
      go_enter Tryz.func19, Tryz.ntmps19
      go_wp2_with (first
        | (go_at_call 39; refine HIs.out.mono ?_; rintro e1 w1 ⟨rfl, hb⟩; have H1 := rhide (HX.out _ hb); clear hb HIs HX)
        | (go_at_call 31; refine (HS.out _ H1.out).mono ?_; rintro e2 w2 ⟨rfl, hw⟩; have H2 := rhide hw; clear hw HS H1)
        | fail)
      go_ret
      exact ⟨rfl, H2.out⟩
    · have hg : okG i = false := by
        cases h : okG i
        · rfl
        · exact absurd ((okG_iff i).1 h) hi
      have e1 : rgE N M f i = 1 := by unfold rgE; rw [if_pos hk, hg]; rfl
      have e2 : rgM N M f i v = M := by unfold rgM; rw [if_neg (by rw [e1]; decide)]
      rw [e1, e2]
      have hi' : i < 0 ∨ (¬ i < 0 ∧ 8 ≤ i) := by omega
      clear e1 e2 hg hk hM hv hi
      rcases hi' with g1 | ⟨g1, g2⟩
      all_goals
        go_enter Tryz.func19, Tryz.ntmps19
        go_wp2_with (first
          | (go_at_call 39; refine HIs.out.mono ?_; rintro e1 w1 ⟨rfl, hb⟩; have H1 := rhide (HX.out _ hb); clear hb HIs HX)
          | fail)
        go_ret
        exact ⟨rfl, H1.out⟩
  · have e1 : rgE N M f i = 4 := by unfold rgE; rw [if_neg hk]
    have e2 : rgM N M f i v = M := by unfold rgM; rw [if_neg (by rw [e1]; decide)]
    rw [e1, e2]
    rw [show (Phead.isE N M f 4 == 0) = false by simp [hk]] at HIs
    clear e1 e2 hk hM hv
    go_enter Tryz.func19, Tryz.ntmps19
    go_wp2_with (first
      | (go_at_call 39; refine HIs.out.mono ?_; rintro e1 w1 ⟨rfl, hb⟩; have H1 := rhide (HX.out _ hb); clear hb HIs HX)
      | fail)
    go_ret
    exact ⟨rfl, H1.out⟩
end Go.Proofs.YtaajacmbnigadaaGreatDoor.Pthd
