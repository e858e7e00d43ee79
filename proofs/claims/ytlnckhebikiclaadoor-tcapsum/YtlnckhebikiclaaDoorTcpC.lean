/- What Get, Make and Put of package tcap answer and do, for all arguments. -/
import Derived.Test.YtlnckhebikiclaaDoorTcpB
namespace Go.Proofs.YtlnckhebikiclaaDoor.Ptcap
open Go.Proofs.YtlnckhebikiclaaDoor.Pbase Go.Proofs.YtlnckhebikiclaaDoor.Pfield Go.Proofs.YtlnckhebikiclaaDoor.Play Go.Proofs.YtlnckhebikiclaaDoor.Pmem
open Go.RowKit M
set_option linter.unusedVariables false

/-! ### Get -/
structure GtI (w W : World) (p b N : Nat) (M : Nat → Nat → Int) : Prop where
  res : RowB W w.heap.size bd0
  mx : Mx W p b N M
  below : Below w.heap.size w W
theorem gtI_new {w : World} {p b N : Nat} {M : Nat → Nat → Int} (h : Mx w p b N M) : GtI w (w.alloc (.cells #[.bool false, .int .i64 0, .int .i64 0] 33)) p b N M :=
  ⟨rowB_new w bd0, h.on (bal (Below.refl _ _) _), bal (Below.refl _ _) _⟩
theorem GtI.on {w W W' : World} {p b N : Nat} {M : Nat → Nat → Int} (h : GtI w W p b N M) (hB : Below W.heap.size W W') : GtI w W' p b N M :=
  ⟨h.res.on hB, h.mx.on hB, h.below.trans (hB.mono h.below.size)⟩
set_option maxRecDepth 100000 in
set_option maxHeartbeats 1000000 in
theorem get_any (p b N : Nat) (f : Int) (M : Nat → Nat → Int) (w : World) (hM : Mx w p b N M) :
    Calls Tryd.prog 15 #[.pointer (some ⟨p, 0, none⟩), .int .i64 f] w fun e w' => e = .returned (.tuple #[.agg #[.bool (gtT N M f).inf, .int .i64 (gtT N M f).lf, .int .i64 (gtT N M f).pr], .int .i64 (gtE N M f)]) ∧ Below w.heap.size w w' := by
  have HIs : Hid (∀ wc, Mx wc p b N M → Calls Tryd.prog 36 #[.pointer (some ⟨p, 0, none⟩), .int .i64 f] wc fun e w' => e = .returned (.bool (Phead.isE N M f 5 == 0)) ∧ Below wc.heap.size wc w') := fun wc h => isB_any p b N f M wc h
  have H0 := rhide (gtI_new hM)
  have hfit := hM.fit
  clear hM
  by_cases hk : Phead.isE N M f 5 = 0
  case neg =>
    have e1 : gtE N M f = 4 := by unfold gtE; rw [if_neg hk]
    have e2 : gtT N M f = bd0 := by unfold gtT; rw [if_neg (by rw [e1]; decide)]
    rw [e1, e2, show (Phead.isE N M f 5 == 0) = false by simp [hk]] at *
    clear hk e1 e2 hfit
    go_enter Tryd.func15, Tryd.ntmps15
    go_wp2_with (first
      | (go_at_call 36; refine (HIs.out _ H0.out.mx).mono ?_; rintro e1 w1 ⟨rfl, hb⟩; have H1 := rhide (H0.out.on hb); clear hb HIs H0; have x0 := H1.out.res.c0; have x1 := H1.out.res.c1; have x2 := H1.out.res.c2; have z := H1.out.res.fz)
      | fail)
    refine bodyPost_ret (v := .tuple #[.agg #[.bool false, .int .i64 0, .int .i64 0], .int .i64 4]) (by simp [results, Tryd.results15, go_sem, x0, x1, x2]) rfl ⟨rfl, ?_⟩
    exact bst (bst (bst H1.out.below (Nat.le_refl _) _ _) (Nat.le_refl _) _ _) (Nat.le_refl _) _ _
  case pos =>
    have hf := isE_ok hk
    have HRd : Hid (∀ wc, Mx wc p b N M → Calls Tryd.prog 44 #[.pointer (some ⟨p, 0, none⟩), .int .i64 f] wc fun e w' => e = .returned (.tuple #[.agg #[.int .u64 (M f.toNat 4), .int .u64 (M f.toNat 5), .int .u64 (M f.toNat 6)], .int .i64 0]) ∧ Below wc.heap.size wc w') := fun wc h => read_any p b N f M wc h hf
    have HTo : Hid (∀ wc, Calls Tryd.prog 45 #[.agg #[.int .u64 (M f.toNat 4), .int .u64 (M f.toNat 5), .int .u64 (M f.toNat 6)]] wc fun e w' => e = .returned (.tuple #[.agg #[.bool (wX (M f.toNat 4) (M f.toNat 5) (M f.toNat 6)).inf, .int .i64 (wX (M f.toNat 4) (M f.toNat 5) (M f.toNat 6)).lf, .int .i64 (wX (M f.toNat 4) (M f.toNat 5) (M f.toNat 6)).pr], .bool (rdB M f)]) ∧ Below wc.heap.size wc w') := fun wc => budget_any _ _ _ (hfit _ _).1 (hfit _ _).1 (hfit _ _).1 wc
    have e1 : gtE N M f = if rdB M f = true then 0 else 12 := by unfold gtE; rw [if_pos hk]
    have e2 : gtT N M f = wX (M f.toNat 4) (M f.toNat 5) (M f.toNat 6) := by
      unfold gtT wX
      rw [e1, show wB (M f.toNat 4) (M f.toNat 5) (M f.toNat 6) = rdB M f from rfl]
      cases rdB M f <;> rfl
    rw [e1, e2, show (Phead.isE N M f 5 == 0) = true by simp [hk]] at *
    have e3 : rdB M f = false → wX (M f.toNat 4) (M f.toNat 5) (M f.toNat 6) = bd0 := wX_no
    clear hk e1 e2 hfit hf
    generalize wX (M f.toNat 4) (M f.toNat 5) (M f.toNat 6) = y at HTo e3 ⊢
    generalize rdB M f = R at HTo e3 ⊢
    generalize M f.toNat 4 = a at HRd HTo
    generalize M f.toNat 5 = c at HRd HTo
    generalize M f.toNat 6 = d at HRd HTo
    cases R
    · obtain rfl := e3 rfl
      clear e3
      go_enter Tryd.func15, Tryd.ntmps15
      go_wp2_with (first
        | (go_at_call 36; refine (HIs.out _ H0.out.mx).mono ?_; rintro e1 w1 ⟨rfl, hb⟩; have H1 := rhide (H0.out.on hb); clear hb HIs H0)
        | (go_at_call 44; refine (HRd.out _ H1.out.mx).mono ?_; rintro e2 w2 ⟨rfl, hb⟩; have H2 := rhide ((H1.out.on hb).on (bal (Below.refl _ _) (.cells #[.int .u64 a, .int .u64 c, .int .u64 d] 80))); clear hb HRd H1)
        | (go_at_call 45; refine (HTo.out _).mono ?_; rintro e3 w3 ⟨rfl, hb⟩; have H3 := rhide (H2.out.on hb); clear hb HTo H2; have H4 := rhide (H3.out.on (bal (Below.refl _ _) (.cells #[.bool bd0.inf, .int .i64 bd0.lf, .int .i64 bd0.pr] 33))); have x0 := H4.out.res.c0; have x1 := H4.out.res.c1; have x2 := H4.out.res.c2; have z := H4.out.res.fz)
        | fail)
      refine bodyPost_ret (v := .tuple #[.agg #[.bool false, .int .i64 0, .int .i64 0], .int .i64 12]) (by simp [results, Tryd.results15, go_sem, x0, x1, x2]) rfl ⟨rfl, ?_⟩
      exact bst (bst (bst H4.out.below (Nat.le_refl _) _ _) (Nat.le_refl _) _ _) (Nat.le_refl _) _ _
    · clear e3
      go_enter Tryd.func15, Tryd.ntmps15
      go_wp2_with (first
        | (go_at_call 36; refine (HIs.out _ H0.out.mx).mono ?_; rintro e1 w1 ⟨rfl, hb⟩; have H1 := rhide (H0.out.on hb); clear hb HIs H0)
        | (go_at_call 44; refine (HRd.out _ H1.out.mx).mono ?_; rintro e2 w2 ⟨rfl, hb⟩; have H2 := rhide ((H1.out.on hb).on (bal (Below.refl _ _) (.cells #[.int .u64 a, .int .u64 c, .int .u64 d] 80))); clear hb HRd H1)
        | (go_at_call 45; refine (HTo.out _).mono ?_; rintro e3 w3 ⟨rfl, hb⟩; have H3 := rhide (H2.out.on hb); clear hb HTo H2; have H4 := rhide (H3.out.on (bal (Below.refl _ _) (.cells #[.bool y.inf, .int .i64 y.lf, .int .i64 y.pr] 33))); have x0 := H4.out.res.c0; have x1 := H4.out.res.c1; have x2 := H4.out.res.c2; have z := H4.out.res.fz)
        | fail)
      refine bodyPost_ret (v := .tuple #[.agg #[.bool y.inf, .int .i64 y.lf, .int .i64 y.pr], .int .i64 0]) (by simp [results, Tryd.results15, go_sem, x0, x1, x2]) rfl ⟨rfl, ?_⟩
      exact bst (bst (bst H4.out.below (Nat.le_refl _) _ _) (Nat.le_refl _) _ _) (Nat.le_refl _) _ _
/-! ### Make -/
/-- The budget that was handed in, in a block of the call's own, and a memory. -/
structure Bx (w W : World) (p b N : Nat) (M : Nat → Nat → Int) (c : Bd) : Prop where
  mx : Mx W p b N M
  box : RowB W w.heap.size c
  but : But b w W
  lt : b < w.heap.size
theorem bx_new {w : World} {p b N : Nat} {M : Nat → Nat → Int} (h : Mx w p b N M) (c : Bd) : Bx w (w.alloc (.cells #[.bool c.inf, .int .i64 c.lf, .int .i64 c.pr] 33)) p b N M c :=
  ⟨h.on (bal (Below.refl _ _) _), rowB_new w c, But.of_below b (bal (Below.refl _ _) _), h.mem.lt.2⟩
theorem Bx.on {w W W' : World} {p b N : Nat} {M : Nat → Nat → Int} {c : Bd} (h : Bx w W p b N M c) (hB : Below W.heap.size W W') : Bx w W' p b N M c :=
  ⟨h.mx.on hB, h.box.on hB, h.but.trans (But.of_below b hB), h.lt⟩
theorem Bx.turn {w W W' : World} {p b N : Nat} {M M' : Nat → Nat → Int} {c : Bd} (h : Bx w W p b N M c) (hM : Mx W' p b N M') (hB : But b W W') : Bx w W' p b N M' c :=
  ⟨hM, h.box.but hB (Nat.ne_of_gt h.lt), h.but.trans hB, h.lt⟩
set_option maxRecDepth 100000 in
set_option maxHeartbeats 1000000 in
theorem make_any (p b N : Nat) (f : Int) (c : Bd) (M : Nat → Nat → Int) (w : World) (hM : Mx w p b N M) (hc : Fb c) :
    Calls Tryd.prog 7 #[.pointer (some ⟨p, 0, none⟩), .int .i64 f, .agg #[.bool c.inf, .int .i64 c.lf, .int .i64 c.pr]] w fun e w' => e = .returned (.int .i64 (mkE N f c)) ∧ Mx w' p b N (mkM N M f c) ∧ But b w w' := by
  have HC : Hid (∀ wc, Calls Tryd.prog 21 #[.agg #[.bool c.inf, .int .i64 c.lf, .int .i64 c.pr]] wc fun e w' => e = .returned (.int .i64 (ckE c)) ∧ Below wc.heap.size wc w') := fun wc => check_any c hc wc
  have HH : Hid (∀ wc, Mx wc p b N M → Calls Tryd.prog 30 #[.pointer (some ⟨p, 0, none⟩), .int .i64 f, .agg #[.int .i64 5, .int .i64 0, .bool false, .int .i64 0]] wc fun e w' => e = .returned (.int .i64 (errF N f)) ∧ Mx w' p b N (Phead.mkM N M f 5 0 false 0) ∧ But b wc w') := fun wc h => by
    have := (Phead.hmake_any p b N f 5 0 false 0 M wc h.n1 h.n64 h.mem h.tb)
    rw [made_err (by omega)] at this
    refine this.mono ?_
    rintro e w' ⟨rfl, h1, h2⟩
    exact ⟨rfl, h.but h1 (Phead.fit_mk h.fit N f 5 0 false 0) h2, h2⟩
  have H0 := rhide (bx_new hM c)
  clear hM hc
  by_cases hco : boB c = true
  · have e1 : ckE c = 0 := by unfold ckE; rw [if_pos hco]
    have e2 : mkE N f c = errF N f := by unfold mkE; rw [if_pos hco]
    have e3 : mkM N M f c = layF N (Phead.mkM N M f 5 0 false 0) f c.ws := by unfold mkM; rw [if_pos hco]
    rw [e1] at HC
    rw [e2, e3]
    clear e1 e2 e3
    generalize Phead.mkM N M f 5 0 false 0 = M1 at HH ⊢
    cases hf : okF N f
    · have e4 : errF N f = 1 := by unfold errF; rw [hf]; rfl
      rw [e4] at HH ⊢
      rw [lay_bad hf]
      clear e4 hf hco
      go_enter Tryd.func7, Tryd.ntmps7
      go_wp2_with (first
        | (go_at_call 21; refine (HC.out _).mono ?_; rintro e1 w1 ⟨rfl, hb⟩; have H1 := rhide (H0.out.on hb); clear hb HC H0; have x0 := H1.out.box.c0; have x1 := H1.out.box.c1; have x2 := H1.out.box.c2)
        | (go_at_call 30; refine (HH.out _ H1.out.mx).mono ?_; rintro e2 w2 ⟨rfl, hm, hb⟩; have H2 := rhide (H1.out.turn hm hb); clear hm hb HH H1)
        | fail)
      go_ret
      exact ⟨rfl, H2.out.mx, H2.out.but⟩
    · have e4 : errF N f = 0 := by unfold errF; rw [if_pos hf]
      rw [e4] at HH ⊢
      have HW : Hid (∀ wc, Mx wc p b N M1 → Calls Tryd.prog 31 #[.pointer (some ⟨p, 0, none⟩), .int .i64 f, .agg #[.bool c.inf, .int .i64 c.lf, .int .i64 c.pr]] wc fun e w' => e = .returned (.int .i64 0) ∧ Mx w' p b N (layF N M1 f c.ws) ∧ But b wc w') := fun wc h => write_any p b N f c M1 wc h ((boB_iff c).1 hco) hf
      clear e4 hf hco
      go_enter Tryd.func7, Tryd.ntmps7
      go_wp2_with (first
        | (go_at_call 21; refine (HC.out _).mono ?_; rintro e1 w1 ⟨rfl, hb⟩; have H1 := rhide (H0.out.on hb); clear hb HC H0)
        | (go_at_call 30; refine (HH.out _ H1.out.mx).mono ?_; rintro e2 w2 ⟨rfl, hm, hb⟩; have H2 := rhide (H1.out.turn hm hb); clear hm hb HH H1; have x0 := H2.out.box.c0; have x1 := H2.out.box.c1; have x2 := H2.out.box.c2)
        | (go_at_call 31; refine (HW.out _ H2.out.mx).mono ?_; rintro e3 w3 ⟨rfl, hm, hb⟩; have H3 := rhide (H2.out.turn hm hb); clear hm hb HW H2)
        | fail)
      go_ret
      exact ⟨rfl, H3.out.mx, H3.out.but⟩
  · have e1 : ckE c = 1 := by unfold ckE; rw [if_neg hco]
    have e2 : mkE N f c = 1 := by unfold mkE; rw [if_neg hco]
    have e3 : mkM N M f c = M := by unfold mkM; rw [if_neg hco]
    rw [e1] at HC
    rw [e2, e3]
    clear e1 e2 e3 HH hco
    go_enter Tryd.func7, Tryd.ntmps7
    go_wp2_with (first
      | (go_at_call 21; refine (HC.out _).mono ?_; rintro e1 w1 ⟨rfl, hb⟩; have H1 := rhide (H0.out.on hb); clear hb HC H0)
      | fail)
    go_ret
    exact ⟨rfl, H1.out.mx, H1.out.but⟩
/-! ### Put -/
set_option maxRecDepth 100000 in
set_option maxHeartbeats 1000000 in
theorem put_any (p b N : Nat) (f : Int) (c : Bd) (M : Nat → Nat → Int) (w : World) (hM : Mx w p b N M) (hc : Fb c) :
    Calls Tryd.prog 9 #[.pointer (some ⟨p, 0, none⟩), .int .i64 f, .agg #[.bool c.inf, .int .i64 c.lf, .int .i64 c.pr]] w fun e w' => e = .returned (.int .i64 (puE N M f c)) ∧ Mx w' p b N (puM N M f c) ∧ But b w w' := by
  have HC : Hid (∀ wc, Calls Tryd.prog 21 #[.agg #[.bool c.inf, .int .i64 c.lf, .int .i64 c.pr]] wc fun e w' => e = .returned (.int .i64 (ckE c)) ∧ Below wc.heap.size wc w') := fun wc => check_any c hc wc
  have HIs : Hid (∀ wc, Mx wc p b N M → Calls Tryd.prog 36 #[.pointer (some ⟨p, 0, none⟩), .int .i64 f] wc fun e w' => e = .returned (.bool (Phead.isE N M f 5 == 0)) ∧ Below wc.heap.size wc w') := fun wc h => isB_any p b N f M wc h
  have H0 := rhide (bx_new hM c)
  clear hM hc
  by_cases hco : boB c = true
  · have e1 : ckE c = 0 := by unfold ckE; rw [if_pos hco]
    rw [e1] at HC
    by_cases hk : Phead.isE N M f 5 = 0
    · have e2 : puE N M f c = 0 := by unfold puE; rw [if_pos hco, if_pos hk]
      have e3 : puM N M f c = layF N M f c.ws := by unfold puM; rw [if_pos e2]
      rw [e2, e3]
      have HW : Hid (∀ wc, Mx wc p b N M → Calls Tryd.prog 31 #[.pointer (some ⟨p, 0, none⟩), .int .i64 f, .agg #[.bool c.inf, .int .i64 c.lf, .int .i64 c.pr]] wc fun e w' => e = .returned (.int .i64 0) ∧ Mx w' p b N (layF N M f c.ws) ∧ But b wc w') := fun wc h => write_any p b N f c M wc h ((boB_iff c).1 hco) (isE_ok hk)
      rw [show (Phead.isE N M f 5 == 0) = true by simp [hk]] at HIs
      clear e1 e2 e3 hk hco
      go_enter Tryd.func9, Tryd.ntmps9
      go_wp2_with (first
        | (go_at_call 21; refine (HC.out _).mono ?_; rintro e1 w1 ⟨rfl, hb⟩; have H1 := rhide (H0.out.on hb); clear hb HC H0)
        | (go_at_call 36; refine (HIs.out _ H1.out.mx).mono ?_; rintro e2 w2 ⟨rfl, hb⟩; have H2 := rhide (H1.out.on hb); clear hb HIs H1; have x0 := H2.out.box.c0; have x1 := H2.out.box.c1; have x2 := H2.out.box.c2)
        | (go_at_call 31; refine (HW.out _ H2.out.mx).mono ?_; rintro e3 w3 ⟨rfl, hm, hb⟩; have H3 := rhide (H2.out.turn hm hb); clear hm hb HW H2)
        | fail)
      go_ret
      exact ⟨rfl, H3.out.mx, H3.out.but⟩
    · have e2 : puE N M f c = 4 := by unfold puE; rw [if_pos hco, if_neg hk]
      have e3 : puM N M f c = M := by unfold puM; rw [if_neg (by rw [e2]; decide)]
      rw [e2, e3]
      rw [show (Phead.isE N M f 5 == 0) = false by simp [hk]] at HIs
      clear e1 e2 e3 hk hco
      go_enter Tryd.func9, Tryd.ntmps9
      go_wp2_with (first
        | (go_at_call 21; refine (HC.out _).mono ?_; rintro e1 w1 ⟨rfl, hb⟩; have H1 := rhide (H0.out.on hb); clear hb HC H0)
        | (go_at_call 36; refine (HIs.out _ H1.out.mx).mono ?_; rintro e2 w2 ⟨rfl, hb⟩; have H2 := rhide (H1.out.on hb); clear hb HIs H1)
        | fail)
      go_ret
      exact ⟨rfl, H2.out.mx, H2.out.but⟩
  · have e1 : ckE c = 1 := by unfold ckE; rw [if_neg hco]
    have e2 : puE N M f c = 1 := by unfold puE; rw [if_neg hco]
    have e3 : puM N M f c = M := by unfold puM; rw [if_neg (by rw [e2]; decide)]
    rw [e1] at HC
    rw [e2, e3]
    clear e1 e2 e3 HIs hco
    go_enter Tryd.func9, Tryd.ntmps9
    go_wp2_with (first
      | (go_at_call 21; refine (HC.out _).mono ?_; rintro e1 w1 ⟨rfl, hb⟩; have H1 := rhide (H0.out.on hb); clear hb HC H0)
      | fail)
    go_ret
    exact ⟨rfl, H1.out.mx, H1.out.but⟩
end Go.Proofs.YtlnckhebikiclaaDoor.Ptcap
