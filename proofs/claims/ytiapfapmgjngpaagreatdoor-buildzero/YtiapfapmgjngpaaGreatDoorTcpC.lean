/- What Get, Make and Put of package tcap answer and do, for all arguments. -/
import Derived.Test.YtiapfapmgjngpaaGreatDoorTcpB
namespace Go.Proofs.YtiapfapmgjngpaaGreatDoor.Ptcap
open Go.Proofs.YtiapfapmgjngpaaGreatDoor.Pbase Go.Proofs.YtiapfapmgjngpaaGreatDoor.Pfield Go.Proofs.YtiapfapmgjngpaaGreatDoor.Play Go.Proofs.YtiapfapmgjngpaaGreatDoor.Pmem
open Go.RowKit M
set_option linter.unusedVariables false

/-! ### Get -/
structure GtI (w W : World) (p b N : Nat) (M : Nat → Nat → Int) : Prop where
  res : RowB W w.heap.size bd0
  mx : Mx W p b N M
  below : Below w.heap.size w W
theorem gtI_new {w : World} {p b N : Nat} {M : Nat → Nat → Int} (h : Mx w p b N M) : GtI w (w.alloc (.cells #[.bool false, .int .i64 0, .int .i64 0] 140)) p b N M :=
  ⟨rowB_new w bd0, h.on (bal (Below.refl _ _) _), bal (Below.refl _ _) _⟩
theorem GtI.on {w W W' : World} {p b N : Nat} {M : Nat → Nat → Int} (h : GtI w W p b N M) (hB : Below W.heap.size W W') : GtI w W' p b N M :=
  ⟨h.res.on hB, h.mx.on hB, h.below.trans (hB.mono h.below.size)⟩
/-! ### Make -/
/-- The budget that was handed in, in a block of the call's own, and a memory. -/
structure Bx (w W : World) (p b N : Nat) (M : Nat → Nat → Int) (c : Bd) : Prop where
  mx : Mx W p b N M
  box : RowB W w.heap.size c
  but : But b w W
  lt : b < w.heap.size
theorem bx_new {w : World} {p b N : Nat} {M : Nat → Nat → Int} (h : Mx w p b N M) (c : Bd) : Bx w (w.alloc (.cells #[.bool c.inf, .int .i64 c.lf, .int .i64 c.pr] 140)) p b N M c :=
  ⟨h.on (bal (Below.refl _ _) _), rowB_new w c, But.of_below b (bal (Below.refl _ _) _), h.mem.lt.2⟩
theorem Bx.on {w W W' : World} {p b N : Nat} {M : Nat → Nat → Int} {c : Bd} (h : Bx w W p b N M c) (hB : Below W.heap.size W W') : Bx w W' p b N M c :=
  ⟨h.mx.on hB, h.box.on hB, h.but.trans (But.of_below b hB), h.lt⟩
theorem Bx.turn {w W W' : World} {p b N : Nat} {M M' : Nat → Nat → Int} {c : Bd} (h : Bx w W p b N M c) (hM : Mx W' p b N M') (hB : But b W W') : Bx w W' p b N M' c :=
  ⟨hM, h.box.but hB (Nat.ne_of_gt h.lt), h.but.trans hB, h.lt⟩
set_option maxRecDepth 100000 in
set_option maxHeartbeats 1000000 in
theorem make_any (p b N : Nat) (f : Int) (c : Bd) (M : Nat → Nat → Int) (w : World) (hM : Mx w p b N M) (hc : Fb c) :
    Calls Tryz.prog 73 #[.pointer (some ⟨p, 0, none⟩), .int .i64 f, .agg #[.bool c.inf, .int .i64 c.lf, .int .i64 c.pr]] w fun e w' => e = .returned (.int .i64 (mkE N f c)) ∧ Mx w' p b N (mkM N M f c) ∧ But b w w' := by
  have HC : Hid (∀ wc, Calls Tryz.prog 171 #[.agg #[.bool c.inf, .int .i64 c.lf, .int .i64 c.pr]] wc fun e w' => e = .returned (.int .i64 (ckE c)) ∧ Below wc.heap.size wc w') := fun wc => check_any c hc wc
  have HH : Hid (∀ wc, Mx wc p b N M → Calls Tryz.prog 164 #[.pointer (some ⟨p, 0, none⟩), .int .i64 f, .agg #[.int .i64 5, .int .i64 0, .bool false, .int .i64 0]] wc fun e w' => e = .returned (.int .i64 (errF N f)) ∧ Mx w' p b N (Phead.mkM N M f 5 0 false 0) ∧ But b wc w') := fun wc h => by
    have := (Phead.hmake_any p b N f 5 0 false 0 M wc h.n1 h.n64 h.mem h.tb)
    rw [made_err (by omega)] at this
    refine this.mono ?_
    rintro e w' ⟨rfl, h1, h2⟩
    exact ⟨rfl, h.but h1 (Phead.fit_mk h.fit N f 5 0 false 0) h2, h2⟩
  have H0 := rhide (bx_new hM c)
  clear hM hc
  by_cases hco : boB c = true
  · have e1 : ckE c = 0 := by unfold ckE; rw [if_pos hco]
    have e2 : mkE N f c = errF N f := by unfold mkE; rw [if_pos hco]
    have e3 : mkM N M f c = layF N (Phead.mkM N M f 5 0 false 0) f c.ws := by unfold mkM; rw [if_pos hco]
    rw [e1] at HC
    rw [e2, e3]
    clear e1 e2 e3
    generalize Phead.mkM N M f 5 0 false 0 = M1 at HH ⊢
    cases hf : okF N f
    · have e4 : errF N f = 1 := by unfold errF; rw [hf]; rfl
      rw [e4] at HH ⊢
      rw [lay_bad hf]
      clear e4 hf hco
      go_enter Tryz.func73, Tryz.ntmps73
      go_wp2_with (first
        | (go_at_call 171; refine (HC.out _).mono ?_; rintro e1 w1 ⟨rfl, hb⟩; have H1 := rhide (H0.out.on hb); clear hb HC H0; have x0 := H1.out.box.c0; have x1 := H1.out.box.c1; have x2 := H1.out.box.c2)
        | (go_at_call 164; refine (HH.out _ H1.out.mx).mono ?_; rintro e2 w2 ⟨rfl, hm, hb⟩; have H2 := rhide (H1.out.turn hm hb); clear hm hb HH H1)
        | fail)
      go_ret
      exact ⟨rfl, H2.out.mx, H2.out.but⟩
    · have e4 : errF N f = 0 := by unfold errF; rw [if_pos hf]
      rw [e4] at HH ⊢
      have HW : Hid (∀ wc, Mx wc p b N M1 → Calls Tryz.prog 172 #[.pointer (some ⟨p, 0, none⟩), .int .i64 f, .agg #[.bool c.inf, .int .i64 c.lf, .int .i64 c.pr]] wc fun e w' => e = .returned (.int .i64 0) ∧ Mx w' p b N (layF N M1 f c.ws) ∧ But b wc w') := fun wc h => write_any p b N f c M1 wc h ((boB_iff c).1 hco) hf
      clear e4 hf hco
      go_enter Tryz.func73, Tryz.ntmps73
      go_wp2_with (first
        | (go_at_call 171; refine (HC.out _).mono ?_; rintro e1 w1 ⟨rfl, hb⟩; have H1 := rhide (H0.out.on hb); clear hb HC H0)
        | (go_at_call 164; refine (HH.out _ H1.out.mx).mono ?_; rintro e2 w2 ⟨rfl, hm, hb⟩; have H2 := rhide (H1.out.turn hm hb); clear hm hb HH H1; have x0 := H2.out.box.c0; have x1 := H2.out.box.c1; have x2 := H2.out.box.c2)
        | (go_at_call 172; refine (HW.out _ H2.out.mx).mono ?_; rintro e3 w3 ⟨rfl, hm, hb⟩; have H3 := rhide (H2.out.turn hm hb); clear hm hb HW H2)
        | fail)
      go_ret
      exact ⟨rfl, H3.out.mx, H3.out.but⟩
  · have e1 : ckE c = 1 := by unfold ckE; rw [if_neg hco]
    have e2 : mkE N f c = 1 := by unfold mkE; rw [if_neg hco]
    have e3 : mkM N M f c = M := by unfold mkM; rw [if_neg hco]
    rw [e1] at HC
    rw [e2, e3]
    clear e1 e2 e3 HH hco
    go_enter Tryz.func73, Tryz.ntmps73
    go_wp2_with (first
      | (go_at_call 171; refine (HC.out _).mono ?_; rintro e1 w1 ⟨rfl, hb⟩; have H1 := rhide (H0.out.on hb); clear hb HC H0)
      | fail)
    go_ret
    exact ⟨rfl, H1.out.mx, H1.out.but⟩
/-! ### Put -/
end Go.Proofs.YtiapfapmgjngpaaGreatDoor.Ptcap
