/- What Get, Make and Put of package rcv answer and do, for all arguments. -/
import Derived.Test.YtcoggdnpjpiacaaGreatDoorRcvB
namespace Go.Proofs.YtcoggdnpjpiacaaGreatDoor.Prcv
open Go.Proofs.YtcoggdnpjpiacaaGreatDoor.Pbase Go.Proofs.YtcoggdnpjpiacaaGreatDoor.Pfield Go.Proofs.YtcoggdnpjpiacaaGreatDoor.Play Go.Proofs.YtcoggdnpjpiacaaGreatDoor.Pmem Go.Proofs.YtcoggdnpjpiacaaGreatDoor.Pring
open Go.RowKit M
set_option linter.unusedVariables false

/-! ### Get -/
/-- The words of a frame behind its head. -/
def wdF (M : Nat → Nat → Int) (f : Int) (j : Nat) : Int := M f.toNat (4 + j)
structure GtI (w W : World) (p b N : Nat) (M : Nat → Nat → Int) : Prop where
  res : RowW W w.heap.size rv0
  mx : Mv W p b N M
  below : Below w.heap.size w W
theorem gtI_new {w : World} {p b N : Nat} {M : Nat → Nat → Int} (h : Mv w p b N M) : GtI w (w.alloc (.cells #[.int .i64 0, .int .i64 0, .int .i64 0, .bool false, .int .i64 0] 33)) p b N M :=
  ⟨rowW_new w rv0, h.on (bal (Below.refl _ _) _), bal (Below.refl _ _) _⟩
theorem GtI.on {w W W' : World} {p b N : Nat} {M : Nat → Nat → Int} (h : GtI w W p b N M) (hB : Below W.heap.size W W') : GtI w W' p b N M :=
  ⟨h.res.on hB, h.mx.on hB, h.below.trans (hB.mono h.below.size)⟩
set_option maxRecDepth 100000 in
set_option maxHeartbeats 1000000 in
theorem get_any (p b N : Nat) (f : Int) (M : Nat → Nat → Int) (w : World) (hM : Mv w p b N M) :
    Calls Tryz.prog 6 #[.pointer (some ⟨p, 0, none⟩), .int .i64 f] w fun e w' => e = .returned (.tuple #[.agg #[.int .i64 (vgX N M f).th, .int .i64 (vgX N M f).pa, .int .i64 (vgX N M f).co, .bool (vgX N M f).wa, .int .i64 (vgX N M f).lo], .int .i64 (vgE N M f)]) ∧ Below w.heap.size w w' := by
  have HIs : Hid (∀ wc, Mv wc p b N M → Calls Tryz.prog 28 #[.pointer (some ⟨p, 0, none⟩), .int .i64 f] wc fun e w' => e = .returned (.bool (Phead.isE N M f 6 == 0)) ∧ Below wc.heap.size wc w') := fun wc h => isR_any p b N f M wc h
  have H0 := rhide (gtI_new hM)
  have hfit := hM.mx.fit
  clear hM
  by_cases hk : Phead.isE N M f 6 = 0
  case neg =>
    have e1 : vgE N M f = 4 := by unfold vgE; rw [if_neg hk]
    have e2 : vgX N M f = rv0 := by unfold vgX; rw [if_neg (by rw [e1]; decide)]
    rw [e1, e2, show (Phead.isE N M f 6 == 0) = false by simp [hk]] at *
    clear hk e1 e2 hfit
    go_enter Tryz.func6, Tryz.ntmps6
    go_wp2_with (first
      | (go_at_call 28; refine (HIs.out _ H0.out.mx).mono ?_; rintro e1 w1 ⟨rfl, hb⟩; have H1 := rhide (H0.out.on hb); clear hb HIs H0; have x0 := H1.out.res.c0; have x1 := H1.out.res.c1; have x2 := H1.out.res.c2; have x3 := H1.out.res.c3; have x4 := H1.out.res.c4; have z := H1.out.res.fz)
      | fail)
    refine bodyPost_ret (v := .tuple #[.agg #[.int .i64 0, .int .i64 0, .int .i64 0, .bool false, .int .i64 0], .int .i64 4]) (by simp [results, Tryz.results6, go_sem, x0, x1, x2, x3, x4]) rfl ⟨rfl, ?_⟩
    exact bst (bst (bst (bst (bst H1.out.below (Nat.le_refl _) _ _) (Nat.le_refl _) _ _) (Nat.le_refl _) _ _) (Nat.le_refl _) _ _) (Nat.le_refl _) _ _
  case pos =>
    have hf := isE_ok hk
    have HRd : Hid (∀ wc, Mv wc p b N M → Calls Tryz.prog 29 #[.pointer (some ⟨p, 0, none⟩), .int .i64 f] wc fun e w' => e = .returned (.tuple #[.agg #[.int .u64 (M f.toNat 4), .int .u64 (M f.toNat 5), .int .u64 (M f.toNat 6), .int .u64 (M f.toNat 7), .int .u64 (M f.toNat 8), .int .u64 (M f.toNat 9), .int .u64 (M f.toNat 10), .int .u64 (M f.toNat 11)], .int .i64 0]) ∧ Below wc.heap.size wc w') := fun wc h => read_any p b N f M wc h hf
    have HTo : Hid (∀ wc, TabV wc → Calls Tryz.prog 30 #[.agg #[.int .u64 (M f.toNat 4), .int .u64 (M f.toNat 5), .int .u64 (M f.toNat 6), .int .u64 (M f.toNat 7), .int .u64 (M f.toNat 8), .int .u64 (M f.toNat 9), .int .u64 (M f.toNat 10), .int .u64 (M f.toNat 11)]] wc fun e w' => e = .returned (.tuple #[.agg #[.int .i64 (wvX (wdF M f)).th, .int .i64 (wvX (wdF M f)).pa, .int .i64 (wvX (wdF M f)).co, .bool (wvX (wdF M f)).wa, .int .i64 (wvX (wdF M f)).lo], .bool (rvB M f)]) ∧ Below wc.heap.size wc w') := fun wc hT => ro_any (wdF M f) (fun j => (hfit _ _).1) wc hT
    have e1 : vgE N M f = if rvB M f = true then 0 else 12 := by unfold vgE; rw [if_pos hk]
    have e2 : vgX N M f = wvX (wdF M f) := by
      unfold vgX wvX
      rw [e1, show wvB (wdF M f) = rvB M f from rfl]
      cases rvB M f <;> rfl
    rw [e1, e2, show (Phead.isE N M f 6 == 0) = true by simp [hk]] at *
    have e3 : rvB M f = false → wvX (wdF M f) = rv0 := fun h => wvX_no (a := wdF M f) h
    clear hk e1 e2 hfit hf
    generalize wvX (wdF M f) = y at HTo e3 ⊢
    generalize rvB M f = R at HTo e3 ⊢
    generalize M f.toNat 4 = a0 at HRd HTo
    generalize M f.toNat 5 = a1 at HRd HTo
    generalize M f.toNat 6 = a2 at HRd HTo
    generalize M f.toNat 7 = a3 at HRd HTo
    generalize M f.toNat 8 = a4 at HRd HTo
    generalize M f.toNat 9 = a5 at HRd HTo
    generalize M f.toNat 10 = a6 at HRd HTo
    generalize M f.toNat 11 = a7 at HRd HTo
    cases R
    · obtain rfl := e3 rfl
      clear e3
      go_enter Tryz.func6, Tryz.ntmps6
      go_wp2_with (first
        | (go_at_call 28; refine (HIs.out _ H0.out.mx).mono ?_; rintro e1 w1 ⟨rfl, hb⟩; have H1 := rhide (H0.out.on hb); clear hb HIs H0)
        | (go_at_call 29; refine (HRd.out _ H1.out.mx).mono ?_; rintro e2 w2 ⟨rfl, hb⟩; have H2 := rhide ((H1.out.on hb).on (bal (Below.refl _ _) (.cells #[.int .u64 a0, .int .u64 a1, .int .u64 a2, .int .u64 a3, .int .u64 a4, .int .u64 a5, .int .u64 a6, .int .u64 a7] 65))); clear hb HRd H1)
        | (go_at_call 30; refine (HTo.out _ H2.out.mx.vt).mono ?_; rintro e3 w3 ⟨rfl, hb⟩; have H3 := rhide (H2.out.on hb); clear hb HTo H2; have H4 := rhide (H3.out.on (bal (Below.refl _ _) (.cells #[.int .i64 rv0.th, .int .i64 rv0.pa, .int .i64 rv0.co, .bool rv0.wa, .int .i64 rv0.lo] 33))); have x0 := H4.out.res.c0; have x1 := H4.out.res.c1; have x2 := H4.out.res.c2; have x3 := H4.out.res.c3; have x4 := H4.out.res.c4; have z := H4.out.res.fz)
        | fail)
      refine bodyPost_ret (v := .tuple #[.agg #[.int .i64 0, .int .i64 0, .int .i64 0, .bool false, .int .i64 0], .int .i64 12]) (by simp [results, Tryz.results6, go_sem, x0, x1, x2, x3, x4]) rfl ⟨rfl, ?_⟩
      exact bst (bst (bst (bst (bst H4.out.below (Nat.le_refl _) _ _) (Nat.le_refl _) _ _) (Nat.le_refl _) _ _) (Nat.le_refl _) _ _) (Nat.le_refl _) _ _
    · clear e3
      go_enter Tryz.func6, Tryz.ntmps6
      go_wp2_with (first
        | (go_at_call 28; refine (HIs.out _ H0.out.mx).mono ?_; rintro e1 w1 ⟨rfl, hb⟩; have H1 := rhide (H0.out.on hb); clear hb HIs H0)
        | (go_at_call 29; refine (HRd.out _ H1.out.mx).mono ?_; rintro e2 w2 ⟨rfl, hb⟩; have H2 := rhide ((H1.out.on hb).on (bal (Below.refl _ _) (.cells #[.int .u64 a0, .int .u64 a1, .int .u64 a2, .int .u64 a3, .int .u64 a4, .int .u64 a5, .int .u64 a6, .int .u64 a7] 65))); clear hb HRd H1)
        | (go_at_call 30; refine (HTo.out _ H2.out.mx.vt).mono ?_; rintro e3 w3 ⟨rfl, hb⟩; have H3 := rhide (H2.out.on hb); clear hb HTo H2; have H4 := rhide (H3.out.on (bal (Below.refl _ _) (.cells #[.int .i64 y.th, .int .i64 y.pa, .int .i64 y.co, .bool y.wa, .int .i64 y.lo] 33))); have x0 := H4.out.res.c0; have x1 := H4.out.res.c1; have x2 := H4.out.res.c2; have x3 := H4.out.res.c3; have x4 := H4.out.res.c4; have z := H4.out.res.fz)
        | fail)
      refine bodyPost_ret (v := .tuple #[.agg #[.int .i64 y.th, .int .i64 y.pa, .int .i64 y.co, .bool y.wa, .int .i64 y.lo], .int .i64 0]) (by simp [results, Tryz.results6, go_sem, x0, x1, x2, x3, x4]) rfl ⟨rfl, ?_⟩
      exact bst (bst (bst (bst (bst H4.out.below (Nat.le_refl _) _ _) (Nat.le_refl _) _ _) (Nat.le_refl _) _ _) (Nat.le_refl _) _ _) (Nat.le_refl _) _ _
/-! ### Make -/
/-- The endpoint that was handed in, in a block of the call's own, and a memory. -/
structure Bx (w W : World) (p b N : Nat) (M : Nat → Nat → Int) (c : Rv) : Prop where
  mx : Mv W p b N M
  box : RowW W w.heap.size c
  but : But b w W
  lt : b < w.heap.size
theorem bx_new {w : World} {p b N : Nat} {M : Nat → Nat → Int} (h : Mv w p b N M) (c : Rv) : Bx w (w.alloc (.cells #[.int .i64 c.th, .int .i64 c.pa, .int .i64 c.co, .bool c.wa, .int .i64 c.lo] 33)) p b N M c :=
  ⟨h.on (bal (Below.refl _ _) _), rowW_new w c, But.of_below b (bal (Below.refl _ _) _), h.mx.mem.lt.2⟩
theorem Bx.on {w W W' : World} {p b N : Nat} {M : Nat → Nat → Int} {c : Rv} (h : Bx w W p b N M c) (hB : Below W.heap.size W W') : Bx w W' p b N M c :=
  ⟨h.mx.on hB, h.box.on hB, h.but.trans (But.of_below b hB), h.lt⟩
theorem Bx.turn {w W W' : World} {p b N : Nat} {M M' : Nat → Nat → Int} {c : Rv} (h : Bx w W p b N M c) (hM : Mv W' p b N M') (hB : But b W W') : Bx w W' p b N M' c :=
  ⟨hM, h.box.but hB (Nat.ne_of_gt h.lt), h.but.trans hB, h.lt⟩
set_option maxRecDepth 100000 in
set_option maxHeartbeats 1000000 in
theorem make_any (p b N : Nat) (f : Int) (c : Rv) (M : Nat → Nat → Int) (w : World) (hM : Mv w p b N M) (hc : Fv c) :
    Calls Tryz.prog 16 #[.pointer (some ⟨p, 0, none⟩), .int .i64 f, .agg #[.int .i64 c.th, .int .i64 c.pa, .int .i64 c.co, .bool c.wa, .int .i64 c.lo]] w fun e w' => e = .returned (.int .i64 (vmE N f c)) ∧ Mv w' p b N (vmM N M f c) ∧ But b w w' := by
  have HC : Hid (∀ wc, TabV wc → Calls Tryz.prog 8 #[.agg #[.int .i64 c.th, .int .i64 c.pa, .int .i64 c.co, .bool c.wa, .int .i64 c.lo]] wc fun e w' => e = .returned (.int .i64 (vkE c)) ∧ Below wc.heap.size wc w') := fun wc hT => check_any c hc wc hT
  have HH : Hid (∀ wc, Mv wc p b N M → Calls Tryz.prog 39 #[.pointer (some ⟨p, 0, none⟩), .int .i64 f, .agg #[.int .i64 6, .int .i64 0, .bool false, .int .i64 0]] wc fun e w' => e = .returned (.int .i64 (errF N f)) ∧ Mv w' p b N (Phead.mkM N M f 6 0 false 0) ∧ But b wc w') := fun wc h => by
    have := (Phead.hmake_any p b N f 6 0 false 0 M wc h.mx.n1 h.mx.n64 h.mx.mem h.mx.hd)
    rw [made_err (by omega)] at this
    refine this.mono ?_
    rintro e w' ⟨rfl, h1, h2⟩
    exact ⟨rfl, h.but h1 (Phead.fit_mk h.mx.fit N f 6 0 false 0) h2, h2⟩
  have H0 := rhide (bx_new hM c)
  clear hM hc
  by_cases hco : voB c = true
  · have e1 : vkE c = 0 := by unfold vkE; rw [if_pos hco]
    have e2 : vmE N f c = errF N f := by unfold vmE; rw [if_pos hco]
    have e3 : vmM N M f c = layF N (Phead.mkM N M f 6 0 false 0) f c.ws := by unfold vmM; rw [if_pos hco]
    rw [e1] at HC
    rw [e2, e3]
    clear e1 e2 e3
    generalize Phead.mkM N M f 6 0 false 0 = M1 at HH ⊢
    cases hf : okF N f
    · have e4 : errF N f = 1 := by unfold errF; rw [hf]; rfl
      rw [e4] at HH ⊢
      rw [lay_bad hf]
      clear e4 hf hco
      go_enter Tryz.func16, Tryz.ntmps16
      go_wp2_with (first
        | (go_at_call 8; refine (HC.out _ H0.out.mx.vt).mono ?_; rintro e1 w1 ⟨rfl, hb⟩; have H1 := rhide (H0.out.on hb); clear hb HC H0; have x0 := H1.out.box.c0; have x1 := H1.out.box.c1; have x2 := H1.out.box.c2; have x3 := H1.out.box.c3; have x4 := H1.out.box.c4)
        | (go_at_call 39; refine (HH.out _ H1.out.mx).mono ?_; rintro e2 w2 ⟨rfl, hm, hb⟩; have H2 := rhide (H1.out.turn hm hb); clear hm hb HH H1)
        | fail)
      go_ret
      exact ⟨rfl, H2.out.mx, H2.out.but⟩
    · have e4 : errF N f = 0 := by unfold errF; rw [if_pos hf]
      rw [e4] at HH ⊢
      have HW : Hid (∀ wc, Mv wc p b N M1 → Calls Tryz.prog 40 #[.pointer (some ⟨p, 0, none⟩), .int .i64 f, .agg #[.int .i64 c.th, .int .i64 c.pa, .int .i64 c.co, .bool c.wa, .int .i64 c.lo]] wc fun e w' => e = .returned (.int .i64 0) ∧ Mv w' p b N (layF N M1 f c.ws) ∧ But b wc w') := fun wc h => write_any p b N f c M1 wc h ((voB_iff c).1 hco) hf
      clear e4 hf hco
      go_enter Tryz.func16, Tryz.ntmps16
      go_wp2_with (first
        | (go_at_call 8; refine (HC.out _ H0.out.mx.vt).mono ?_; rintro e1 w1 ⟨rfl, hb⟩; have H1 := rhide (H0.out.on hb); clear hb HC H0)
        | (go_at_call 39; refine (HH.out _ H1.out.mx).mono ?_; rintro e2 w2 ⟨rfl, hm, hb⟩; have H2 := rhide (H1.out.turn hm hb); clear hm hb HH H1; have x0 := H2.out.box.c0; have x1 := H2.out.box.c1; have x2 := H2.out.box.c2; have x3 := H2.out.box.c3; have x4 := H2.out.box.c4)
        | (go_at_call 40; refine (HW.out _ H2.out.mx).mono ?_; rintro e3 w3 ⟨rfl, hm, hb⟩; have H3 := rhide (H2.out.turn hm hb); clear hm hb HW H2)
        | fail)
      go_ret
      exact ⟨rfl, H3.out.mx, H3.out.but⟩
  · have e1 : vkE c = 1 := by unfold vkE; rw [if_neg hco]
    have e2 : vmE N f c = 1 := by unfold vmE; rw [if_neg hco]
    have e3 : vmM N M f c = M := by unfold vmM; rw [if_neg hco]
    rw [e1] at HC
    rw [e2, e3]
    clear e1 e2 e3 HH hco
    go_enter Tryz.func16, Tryz.ntmps16
    go_wp2_with (first
      | (go_at_call 8; refine (HC.out _ H0.out.mx.vt).mono ?_; rintro e1 w1 ⟨rfl, hb⟩; have H1 := rhide (H0.out.on hb); clear hb HC H0)
      | fail)
    go_ret
    exact ⟨rfl, H1.out.mx, H1.out.but⟩
/-! ### Put -/
set_option maxRecDepth 100000 in
set_option maxHeartbeats 1000000 in
theorem put_any (p b N : Nat) (f : Int) (c : Rv) (M : Nat → Nat → Int) (w : World) (hM : Mv w p b N M) (hc : Fv c) :
    Calls Tryz.prog 18 #[.pointer (some ⟨p, 0, none⟩), .int .i64 f, .agg #[.int .i64 c.th, .int .i64 c.pa, .int .i64 c.co, .bool c.wa, .int .i64 c.lo]] w fun e w' => e = .returned (.int .i64 (vpE N M f c)) ∧ Mv w' p b N (vpM N M f c) ∧ But b w w' := by
  have HC : Hid (∀ wc, TabV wc → Calls Tryz.prog 8 #[.agg #[.int .i64 c.th, .int .i64 c.pa, .int .i64 c.co, .bool c.wa, .int .i64 c.lo]] wc fun e w' => e = .returned (.int .i64 (vkE c)) ∧ Below wc.heap.size wc w') := fun wc hT => check_any c hc wc hT
  have HIs : Hid (∀ wc, Mv wc p b N M → Calls Tryz.prog 28 #[.pointer (some ⟨p, 0, none⟩), .int .i64 f] wc fun e w' => e = .returned (.bool (Phead.isE N M f 6 == 0)) ∧ Below wc.heap.size wc w') := fun wc h => isR_any p b N f M wc h
  have H0 := rhide (bx_new hM c)
  clear hM hc
  by_cases hco : voB c = true
  · have e1 : vkE c = 0 := by unfold vkE; rw [if_pos hco]
    rw [e1] at HC
    by_cases hk : Phead.isE N M f 6 = 0
    · have e2 : vpE N M f c = 0 := by unfold vpE; rw [if_pos hco, if_pos hk]
      have e3 : vpM N M f c = layF N M f c.ws := by unfold vpM; rw [if_pos e2]
      rw [e2, e3]
      have HW : Hid (∀ wc, Mv wc p b N M → Calls Tryz.prog 40 #[.pointer (some ⟨p, 0, none⟩), .int .i64 f, .agg #[.int .i64 c.th, .int .i64 c.pa, .int .i64 c.co, .bool c.wa, .int .i64 c.lo]] wc fun e w' => e = .returned (.int .i64 0) ∧ Mv w' p b N (layF N M f c.ws) ∧ But b wc w') := fun wc h => write_any p b N f c M wc h ((voB_iff c).1 hco) (isE_ok hk)
      rw [show (Phead.isE N M f 6 == 0) = true by simp [hk]] at HIs
      clear e1 e2 e3 hk hco
      go_enter Tryz.func18, Tryz.ntmps18
      go_wp2_with (first
        | (go_at_call 8; refine (HC.out _ H0.out.mx.vt).mono ?_; rintro e1 w1 ⟨rfl, hb⟩; have H1 := rhide (H0.out.on hb); clear hb HC H0)
        | (go_at_call 28; refine (HIs.out _ H1.out.mx).mono ?_; rintro e2 w2 ⟨rfl, hb⟩; have H2 := rhide (H1.out.on hb); clear hb HIs H1; have x0 := H2.out.box.c0; have x1 := H2.out.box.c1; have x2 := H2.out.box.c2; have x3 := H2.out.box.c3; have x4 := H2.out.box.c4)
        | (go_at_call 40; refine (HW.out _ H2.out.mx).mono ?_; rintro e3 w3 ⟨rfl, hm, hb⟩; have H3 := rhide (H2.out.turn hm hb); clear hm hb HW H2)
        | fail)
      go_ret
      exact ⟨rfl, H3.out.mx, H3.out.but⟩
    · have e2 : vpE N M f c = 4 := by unfold vpE; rw [if_pos hco, if_neg hk]
      have e3 : vpM N M f c = M := by unfold vpM; rw [if_neg (by rw [e2]; decide)]
      rw [e2, e3]
      rw [show (Phead.isE N M f 6 == 0) = false by simp [hk]] at HIs
      clear e1 e2 e3 hk hco
      go_enter Tryz.func18, Tryz.ntmps18
      go_wp2_with (first
        | (go_at_call 8; refine (HC.out _ H0.out.mx.vt).mono ?_; rintro e1 w1 ⟨rfl, hb⟩; have H1 := rhide (H0.out.on hb); clear hb HC H0)
        | (go_at_call 28; refine (HIs.out _ H1.out.mx).mono ?_; rintro e2 w2 ⟨rfl, hb⟩; have H2 := rhide (H1.out.on hb); clear hb HIs H1)
        | fail)
      go_ret
      exact ⟨rfl, H2.out.mx, H2.out.but⟩
  · have e1 : vkE c = 1 := by unfold vkE; rw [if_neg hco]
    have e2 : vpE N M f c = 1 := by unfold vpE; rw [if_neg hco]
    have e3 : vpM N M f c = M := by unfold vpM; rw [if_neg (by rw [e2]; decide)]
    rw [e1] at HC
    rw [e2, e3]
    clear e1 e2 e3 HIs hco
    go_enter Tryz.func18, Tryz.ntmps18
    go_wp2_with (first
      | (go_at_call 8; refine (HC.out _ H0.out.mx.vt).mono ?_; rintro e1 w1 ⟨rfl, hb⟩; have H1 := rhide (H0.out.on hb); clear hb HC H0)
      | fail)
    go_ret
    exact ⟨rfl, H1.out.mx, H1.out.but⟩
end Go.Proofs.YtcoggdnpjpiacaaGreatDoor.Prcv
