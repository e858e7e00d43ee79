/- What the calls of package comp answer and do, for all arguments: Get, Make, Put, Hand. -/
import Derived.Test.YtikhbohkmogffaaDoorCmpE
namespace Go.Proofs.YtikhbohkmogffaaDoor.Pcomp
open Go.Proofs.YtikhbohkmogffaaDoor.Pbase Go.Proofs.YtikhbohkmogffaaDoor.Pfield Go.Proofs.YtikhbohkmogffaaDoor.Pmem
open Go.RowKit M
set_option linter.unusedVariables false

/-- A component in a block. -/
structure RowC (w : World) (B : Nat) (x : Cp) : Prop where
  row : w.heap[B]? = some (.cells #[.int .i64 x.tb, .int .i64 x.pg, .int .i64 x.l, .int .i64 x.e, .int .i64 x.fa, .int .i64 x.wh] 33 (0, 0))
section
variable {w w' : World} {B : Nat} {x : Cp}
theorem RowC.lt (h : RowC w B x) : B < w.heap.size := (Array.getElem?_eq_some_iff.1 h.row).1
theorem RowC.c0 (h : RowC w B x) : w.cell? ⟨B, 0, none⟩ = some (.int .i64 x.tb) := (cell_of_row _ _ _ _ _ _ h.row).trans rfl
theorem RowC.c1 (h : RowC w B x) : w.cell? ⟨B, 1, none⟩ = some (.int .i64 x.pg) := (cell_of_row _ _ _ _ _ _ h.row).trans rfl
theorem RowC.c2 (h : RowC w B x) : w.cell? ⟨B, 2, none⟩ = some (.int .i64 x.l) := (cell_of_row _ _ _ _ _ _ h.row).trans rfl
theorem RowC.c3 (h : RowC w B x) : w.cell? ⟨B, 3, none⟩ = some (.int .i64 x.e) := (cell_of_row _ _ _ _ _ _ h.row).trans rfl
theorem RowC.c4 (h : RowC w B x) : w.cell? ⟨B, 4, none⟩ = some (.int .i64 x.fa) := (cell_of_row _ _ _ _ _ _ h.row).trans rfl
theorem RowC.c5 (h : RowC w B x) : w.cell? ⟨B, 5, none⟩ = some (.int .i64 x.wh) := (cell_of_row _ _ _ _ _ _ h.row).trans rfl
theorem RowC.fz (h : RowC w B x) (j : Nat) : w.frozen? ⟨B, j, none⟩ = false := frozen_of_row _ _ _ _ _ h.row
theorem RowC.on (h : RowC w B x) (hB : Below w.heap.size w w') : RowC w' B x := ⟨(hB.block B h.lt).trans h.row⟩
theorem RowC.but {b : Nat} (h : RowC w B x) (hB : But b w w') (hn : B ≠ b) : RowC w' B x := ⟨(hB.block B h.lt hn).trans h.row⟩
theorem rowC_new (w : World) (x : Cp) : RowC (w.alloc (.cells #[.int .i64 x.tb, .int .i64 x.pg, .int .i64 x.l, .int .i64 x.e, .int .i64 x.fa, .int .i64 x.wh] 33)) w.heap.size x := ⟨heap_alloc_new w _⟩
end
/-! ### Get -/
structure GtI (w W : World) (p b N : Nat) (M : Nat → Nat → Int) : Prop where
  res : RowC W w.heap.size cp0
  mx : Mx W p b N M
  below : Below w.heap.size w W
theorem gtI_new {w : World} {p b N : Nat} {M : Nat → Nat → Int} (h : Mx w p b N M) : GtI w (w.alloc (.cells #[.int .i64 0, .int .i64 0, .int .i64 0, .int .i64 0, .int .i64 0, .int .i64 0] 33)) p b N M :=
  ⟨rowC_new w cp0, h.on (bal (Below.refl _ _) _), bal (Below.refl _ _) _⟩
theorem GtI.on {w W W' : World} {p b N : Nat} {M : Nat → Nat → Int} (h : GtI w W p b N M) (hB : Below W.heap.size W W') : GtI w W' p b N M :=
  ⟨h.res.on hB, h.mx.on hB, h.below.trans (hB.mono h.below.size)⟩
theorem isE_ok {N : Nat} {M : Nat → Nat → Int} {f : Int} {q : Int} (h : Phead.isE N M f q = 0) : okF N f = true := by
  cases hf : okF N f
  · exact absurd h (is_bad hf q)
  · rfl
theorem wd_fit {M : Nat → Nat → Int} (h : Fit M) (f : Int) : ∀ k, k < 6 → 0 ≤ wd (cpOf M f) k := fun k hk => by
  rw [wd_cpOf M f k hk]
  exact (h _ _).1
theorem it_new {w : World} {p b N : Nat} {M : Nat → Nat → Int} {f : Int} (h : MemIs w p b N M) : It ((w.alloc (.cells #[.pointer (some ⟨p, 0, none⟩)] 26)).alloc (.cells #[.int .i64 f] 3)) w.heap.size p b N M f := by
  have b0 := Boxed.new w 26 (.pointer (some ⟨p, 0, none⟩))
  have b1 := Boxed.new (w.alloc (.cells #[.pointer (some ⟨p, 0, none⟩)] 26)) 3 (.int .i64 f)
  rw [World.size_alloc] at b1
  exact ⟨b0.alloc _, b1, h.grown (bal (bal (Below.refl _ _) _) _)⟩
set_option maxRecDepth 100000 in
set_option maxHeartbeats 1000000 in
theorem get_any (p b N : Nat) (f : Int) (M : Nat → Nat → Int) (w : World) (hM : Mx w p b N M) :
    Calls Tryd.prog 13 #[.pointer (some ⟨p, 0, none⟩), .int .i64 f] w fun e w' => e = .returned (.tuple #[.agg #[.int .i64 (gtC N M f).tb, .int .i64 (gtC N M f).pg, .int .i64 (gtC N M f).l, .int .i64 (gtC N M f).e, .int .i64 (gtC N M f).fa, .int .i64 (gtC N M f).wh], .int .i64 (gtE N M f)]) ∧ Below w.heap.size w w' := by
  have HIs : Hid (∀ wc, Mx wc p b N M → Calls Tryd.prog 30 #[.pointer (some ⟨p, 0, none⟩), .int .i64 f] wc fun e w' => e = .returned (.bool (Phead.isE N M f 3 == 0)) ∧ Below wc.heap.size wc w') := fun wc h => isC_any p b N f M wc h
  have HN : Hid (∀ wc, Calls Tryd.prog 34 #[.pointer (some ⟨p, 0, none⟩), .int .i64 f] wc fun e w' => e = .returned (.func (.func 49) #[] #[.pointer (some ⟨wc.heap.size, 0, none⟩), .pointer (some ⟨wc.heap.size + 1, 0, none⟩)]) ∧ w' = (wc.alloc (.cells #[.pointer (some ⟨p, 0, none⟩)] 26)).alloc (.cells #[.int .i64 f] 3)) := fun wc => (callsIn_wide (n := 9)).1 (in_in 9 p f wc)
  have H0 := rhide (gtI_new hM)
  have n1 := hM.n1
  have n64 := hM.n64
  have hfit := wd_fit hM.fit f
  clear hM
  by_cases hk : Phead.isE N M f 3 = 0
  case neg =>
    have e1 : gtE N M f = 4 := by unfold gtE; rw [if_neg hk]
    have e2 : gtC N M f = cp0 := by unfold gtC; rw [if_neg (by rw [e1]; decide)]
    rw [e1, e2, show (Phead.isE N M f 3 == 0) = false by simp [hk]] at *
    clear hk e1 e2 HN hfit
    go_enter Tryd.func13, Tryd.ntmps13
    go_wp2_with (first
      | (go_at_call 30; refine (HIs.out _ H0.out.mx).mono ?_; rintro e1 w1 ⟨rfl, hb⟩; have H1 := rhide (H0.out.on hb); clear hb HIs H0; have x0 := H1.out.res.c0; have x1 := H1.out.res.c1; have x2 := H1.out.res.c2; have x3 := H1.out.res.c3; have x4 := H1.out.res.c4; have x5 := H1.out.res.c5; have z := H1.out.res.fz)
      | fail)
    refine bodyPost_ret (v := .tuple #[.agg #[.int .i64 0, .int .i64 0, .int .i64 0, .int .i64 0, .int .i64 0, .int .i64 0], .int .i64 4]) (by simp [results, Tryd.results13, go_sem, x0, x1, x2, x3, x4, x5]) rfl ⟨rfl, ?_⟩
    exact bst (bst (bst (bst (bst (bst H1.out.below (Nat.le_refl _) _ _) (Nat.le_refl _) _ _) (Nat.le_refl _) _ _) (Nat.le_refl _) _ _) (Nat.le_refl _) _ _) (Nat.le_refl _) _ _
  case pos =>
    have hf := isE_ok hk
    have HC : Hid (∀ wc B, TabC wc → It wc B p b N M f → Calls Tryd.prog 33 #[.func (.func 49) #[] #[.pointer (some ⟨B, 0, none⟩), .pointer (some ⟨B + 1, 0, none⟩)]] wc fun e W' => e = .returned (.tuple #[.agg #[.int .i64 (coX (cpOf M f)).tb, .int .i64 (coX (cpOf M f)).pg, .int .i64 (coX (cpOf M f)).l, .int .i64 (coX (cpOf M f)).e, .int .i64 (coX (cpOf M f)).fa, .int .i64 (coX (cpOf M f)).wh], .bool (coB (cpOf M f))]) ∧ Below wc.heap.size wc W') := fun wc B hT hI =>
      comp_any (cpOf M f) hfit 49 #[.pointer (some ⟨B, 0, none⟩), .pointer (some ⟨B + 1, 0, none⟩)] (fun W => It W B p b N M f) wc hT (fun X Y hB h => h.on hB hI.bf.lt hI.mem.lt.1 hI.mem.lt.2) (enters_of Tryd.func49 (by kernel_rfl) rfl) (in_stops 8 (by omega) B p b N M f wc n1 n64 hf hI)
    have e1 : gtE N M f = if coB (cpOf M f) = true then 0 else 12 := by unfold gtE; rw [if_pos hk]
    have e2 : gtC N M f = coX (cpOf M f) := by
      unfold gtC coX
      rw [e1]
      cases coB (cpOf M f) <;> rfl
    rw [e1, e2, show (Phead.isE N M f 3 == 0) = true by simp [hk]] at *
    have e3 : coB (cpOf M f) = false → coX (cpOf M f) = cp0 := coX_no
    clear hk e1 e2 hfit hf
    generalize coX (cpOf M f) = y at HC e3 ⊢
    generalize coB (cpOf M f) = R at HC e3 ⊢
    cases R
    · obtain rfl := e3 rfl
      clear e3
      go_enter Tryd.func13, Tryd.ntmps13
      go_wp2_with (first
        | (go_at_call 30; refine (HIs.out _ H0.out.mx).mono ?_; rintro e1 w1 ⟨rfl, hb⟩; have H1 := rhide (H0.out.on hb); clear hb HIs H0)
        | (go_at_call 34; refine (HN.out _).mono ?_; rintro e2 w2 ⟨rfl, hw⟩; have HT := rhide (show It w2 w1.heap.size p b N M f by rw [hw]; exact it_new H1.out.mx.mem); have H2 := rhide (H1.out.on (w := w) (W' := w2) (by rw [hw]; exact bal (bal (Below.refl _ _) _) _)); clear hw HN H1)
        | (go_at_call 33; refine (HC.out _ _ H2.out.mx.tb.tc HT.out).mono ?_; rintro e3 w3 ⟨rfl, hb⟩; have H3 := rhide (H2.out.on hb); clear hb HC HT H2; have H4 := rhide (H3.out.on (bal (Below.refl _ _) (.cells #[.int .i64 cp0.tb, .int .i64 cp0.pg, .int .i64 cp0.l, .int .i64 cp0.e, .int .i64 cp0.fa, .int .i64 cp0.wh] 33))); have x0 := H4.out.res.c0; have x1 := H4.out.res.c1; have x2 := H4.out.res.c2; have x3 := H4.out.res.c3; have x4 := H4.out.res.c4; have x5 := H4.out.res.c5; have z := H4.out.res.fz)
        | fail)
      refine bodyPost_ret (v := .tuple #[.agg #[.int .i64 0, .int .i64 0, .int .i64 0, .int .i64 0, .int .i64 0, .int .i64 0], .int .i64 12]) (by simp [results, Tryd.results13, go_sem, x0, x1, x2, x3, x4, x5]) rfl ⟨rfl, ?_⟩
      exact bst (bst (bst (bst (bst (bst H4.out.below (Nat.le_refl _) _ _) (Nat.le_refl _) _ _) (Nat.le_refl _) _ _) (Nat.le_refl _) _ _) (Nat.le_refl _) _ _) (Nat.le_refl _) _ _
    · clear e3
      go_enter Tryd.func13, Tryd.ntmps13
      go_wp2_with (first
        | (go_at_call 30; refine (HIs.out _ H0.out.mx).mono ?_; rintro e1 w1 ⟨rfl, hb⟩; have H1 := rhide (H0.out.on hb); clear hb HIs H0)
        | (go_at_call 34; refine (HN.out _).mono ?_; rintro e2 w2 ⟨rfl, hw⟩; have HT := rhide (show It w2 w1.heap.size p b N M f by rw [hw]; exact it_new H1.out.mx.mem); have H2 := rhide (H1.out.on (w := w) (W' := w2) (by rw [hw]; exact bal (bal (Below.refl _ _) _) _)); clear hw HN H1)
        | (go_at_call 33; refine (HC.out _ _ H2.out.mx.tb.tc HT.out).mono ?_; rintro e3 w3 ⟨rfl, hb⟩; have H3 := rhide (H2.out.on hb); clear hb HC HT H2; have H4 := rhide (H3.out.on (bal (Below.refl _ _) (.cells #[.int .i64 y.tb, .int .i64 y.pg, .int .i64 y.l, .int .i64 y.e, .int .i64 y.fa, .int .i64 y.wh] 33))); have x0 := H4.out.res.c0; have x1 := H4.out.res.c1; have x2 := H4.out.res.c2; have x3 := H4.out.res.c3; have x4 := H4.out.res.c4; have x5 := H4.out.res.c5; have z := H4.out.res.fz)
        | fail)
      refine bodyPost_ret (v := .tuple #[.agg #[.int .i64 y.tb, .int .i64 y.pg, .int .i64 y.l, .int .i64 y.e, .int .i64 y.fa, .int .i64 y.wh], .int .i64 0]) (by simp [results, Tryd.results13, go_sem, x0, x1, x2, x3, x4, x5]) rfl ⟨rfl, ?_⟩
      exact bst (bst (bst (bst (bst (bst H4.out.below (Nat.le_refl _) _ _) (Nat.le_refl _) _ _) (Nat.le_refl _) _ _) (Nat.le_refl _) _ _) (Nat.le_refl _) _ _) (Nat.le_refl _) _ _
/-! ### Make -/
/-- The component that was handed in, in a block of the call's own, and a memory. -/
structure Bx (w W : World) (p b N : Nat) (M : Nat → Nat → Int) (c : Cp) : Prop where
  mx : Mx W p b N M
  box : RowC W w.heap.size c
  but : But b w W
  lt : b < w.heap.size
theorem bx_new {w : World} {p b N : Nat} {M : Nat → Nat → Int} (h : Mx w p b N M) (c : Cp) : Bx w (w.alloc (.cells #[.int .i64 c.tb, .int .i64 c.pg, .int .i64 c.l, .int .i64 c.e, .int .i64 c.fa, .int .i64 c.wh] 33)) p b N M c :=
  ⟨h.on (bal (Below.refl _ _) _), rowC_new w c, But.of_below b (bal (Below.refl _ _) _), h.mem.lt.2⟩
theorem Bx.on {w W W' : World} {p b N : Nat} {M : Nat → Nat → Int} {c : Cp} (h : Bx w W p b N M c) (hB : Below W.heap.size W W') : Bx w W' p b N M c :=
  ⟨h.mx.on hB, h.box.on hB, h.but.trans (But.of_below b hB), h.lt⟩
theorem Bx.turn {w W W' : World} {p b N : Nat} {M M' : Nat → Nat → Int} {c : Cp} (h : Bx w W p b N M c) (hM : Mx W' p b N M') (hB : But b W W') : Bx w W' p b N M' c :=
  ⟨hM, h.box.but hB (Nat.ne_of_gt h.lt), h.but.trans hB, h.lt⟩
set_option maxRecDepth 100000 in
set_option maxHeartbeats 1000000 in
theorem make_any (p b N : Nat) (f : Int) (c : Cp) (M : Nat → Nat → Int) (w : World) (hM : Mx w p b N M) (hc : Fi c) :
    Calls Tryd.prog 7 #[.pointer (some ⟨p, 0, none⟩), .int .i64 f, .agg #[.int .i64 c.tb, .int .i64 c.pg, .int .i64 c.l, .int .i64 c.e, .int .i64 c.fa, .int .i64 c.wh]] w fun e w' => e = .returned (.int .i64 (mkE N f c)) ∧ Mx w' p b N (mkM N M f c) ∧ But b w w' := by
  have HC : Hid (∀ wc, Tc wc → Calls Tryd.prog 15 #[.agg #[.int .i64 c.tb, .int .i64 c.pg, .int .i64 c.l, .int .i64 c.e, .int .i64 c.fa, .int .i64 c.wh]] wc fun e w' => e = .returned (.int .i64 (ckE c)) ∧ Below wc.heap.size wc w') := fun wc h => check_any c hc wc h
  have HH : Hid (∀ wc, Mx wc p b N M → Calls Tryd.prog 24 #[.pointer (some ⟨p, 0, none⟩), .int .i64 f, .agg #[.int .i64 3, .int .i64 0, .bool false, .int .i64 0]] wc fun e w' => e = .returned (.int .i64 (errF N f)) ∧ Mx w' p b N (Phead.mkM N M f 3 0 false 0) ∧ But b wc w') := fun wc h => by
    have := (Phead.hmake_any p b N f 3 0 false 0 M wc h.n1 h.n64 h.mem h.tb.th)
    rw [made_err (by omega)] at this
    refine this.mono ?_
    rintro e w' ⟨rfl, h1, h2⟩
    exact ⟨rfl, h.but h1 (Phead.fit_mk h.fit N f 3 0 false 0) h2, h2⟩
  have H0 := rhide (bx_new hM c)
  clear hM hc
  by_cases hco : coB c = true
  · have e1 : ckE c = 0 := by unfold ckE; rw [if_pos hco]
    have e2 : mkE N f c = errF N f := by unfold mkE; rw [if_pos hco]
    have e3 : mkM N M f c = layF N (Phead.mkM N M f 3 0 false 0) f c.ws := by unfold mkM; rw [if_pos hco]
    rw [e1] at HC
    rw [e2, e3]
    clear e1 e2 e3
    generalize Phead.mkM N M f 3 0 false 0 = M1 at HH ⊢
    cases hf : okF N f
    · have e4 : errF N f = 1 := by unfold errF; rw [hf]; rfl
      rw [e4] at HH ⊢
      rw [lay_bad hf]
      clear e4 hf hco
      go_enter Tryd.func7, Tryd.ntmps7
      go_wp2_with (first
        | (go_at_call 15; refine (HC.out _ H0.out.mx.tb).mono ?_; rintro e1 w1 ⟨rfl, hb⟩; have H1 := rhide (H0.out.on hb); clear hb HC H0; have x0 := H1.out.box.c0; have x1 := H1.out.box.c1; have x2 := H1.out.box.c2; have x3 := H1.out.box.c3; have x4 := H1.out.box.c4; have x5 := H1.out.box.c5)
        | (go_at_call 24; refine (HH.out _ H1.out.mx).mono ?_; rintro e2 w2 ⟨rfl, hm, hb⟩; have H2 := rhide (H1.out.turn hm hb); clear hm hb HH H1)
        | fail)
      go_ret
      exact ⟨rfl, H2.out.mx, H2.out.but⟩
    · have e4 : errF N f = 0 := by unfold errF; rw [if_pos hf]
      rw [e4] at HH ⊢
      have HW : Hid (∀ wc, Mx wc p b N M1 → Calls Tryd.prog 25 #[.pointer (some ⟨p, 0, none⟩), .int .i64 f, .agg #[.int .i64 c.tb, .int .i64 c.pg, .int .i64 c.l, .int .i64 c.e, .int .i64 c.fa, .int .i64 c.wh]] wc fun e w' => e = .returned (.int .i64 0) ∧ Mx w' p b N (layF N M1 f c.ws) ∧ But b wc w') := fun wc h => write_any p b N f c M1 wc h ((coB_iff c).1 hco) hf
      clear e4 hf hco
      go_enter Tryd.func7, Tryd.ntmps7
      go_wp2_with (first
        | (go_at_call 15; refine (HC.out _ H0.out.mx.tb).mono ?_; rintro e1 w1 ⟨rfl, hb⟩; have H1 := rhide (H0.out.on hb); clear hb HC H0)
        | (go_at_call 24; refine (HH.out _ H1.out.mx).mono ?_; rintro e2 w2 ⟨rfl, hm, hb⟩; have H2 := rhide (H1.out.turn hm hb); clear hm hb HH H1; have x0 := H2.out.box.c0; have x1 := H2.out.box.c1; have x2 := H2.out.box.c2; have x3 := H2.out.box.c3; have x4 := H2.out.box.c4; have x5 := H2.out.box.c5)
        | (go_at_call 25; refine (HW.out _ H2.out.mx).mono ?_; rintro e3 w3 ⟨rfl, hm, hb⟩; have H3 := rhide (H2.out.turn hm hb); clear hm hb HW H2)
        | fail)
      go_ret
      exact ⟨rfl, H3.out.mx, H3.out.but⟩
  · have hco' : coB c = false := by simpa using hco
    have e1 : ckE c = 1 := by unfold ckE; rw [if_neg hco]
    have e2 : mkE N f c = 1 := by unfold mkE; rw [if_neg hco]
    have e3 : mkM N M f c = M := by unfold mkM; rw [if_neg hco]
    rw [e1] at HC
    rw [e2, e3]
    clear e1 e2 e3 HH hco hco'
    go_enter Tryd.func7, Tryd.ntmps7
    go_wp2_with (first
      | (go_at_call 15; refine (HC.out _ H0.out.mx.tb).mono ?_; rintro e1 w1 ⟨rfl, hb⟩; have H1 := rhide (H0.out.on hb); clear hb HC H0)
      | fail)
    go_ret
    exact ⟨rfl, H1.out.mx, H1.out.but⟩
/-! ### Put -/
set_option maxRecDepth 100000 in
set_option maxHeartbeats 1000000 in
theorem put_any (p b N : Nat) (f : Int) (c : Cp) (M : Nat → Nat → Int) (w : World) (hM : Mx w p b N M) (hc : Fi c) :
    Calls Tryd.prog 9 #[.pointer (some ⟨p, 0, none⟩), .int .i64 f, .agg #[.int .i64 c.tb, .int .i64 c.pg, .int .i64 c.l, .int .i64 c.e, .int .i64 c.fa, .int .i64 c.wh]] w fun e w' => e = .returned (.int .i64 (puE N M f c)) ∧ Mx w' p b N (puM N M f c) ∧ But b w w' := by
  have HC : Hid (∀ wc, Tc wc → Calls Tryd.prog 15 #[.agg #[.int .i64 c.tb, .int .i64 c.pg, .int .i64 c.l, .int .i64 c.e, .int .i64 c.fa, .int .i64 c.wh]] wc fun e w' => e = .returned (.int .i64 (ckE c)) ∧ Below wc.heap.size wc w') := fun wc h => check_any c hc wc h
  have HIs : Hid (∀ wc, Mx wc p b N M → Calls Tryd.prog 30 #[.pointer (some ⟨p, 0, none⟩), .int .i64 f] wc fun e w' => e = .returned (.bool (Phead.isE N M f 3 == 0)) ∧ Below wc.heap.size wc w') := fun wc h => isC_any p b N f M wc h
  have H0 := rhide (bx_new hM c)
  clear hM hc
  by_cases hco : coB c = true
  · have e1 : ckE c = 0 := by unfold ckE; rw [if_pos hco]
    rw [e1] at HC
    by_cases hk : Phead.isE N M f 3 = 0
    · have e2 : puE N M f c = 0 := by unfold puE; rw [if_pos hco, if_pos hk]
      have e3 : puM N M f c = layF N M f c.ws := by unfold puM; rw [if_pos e2]
      rw [e2, e3]
      have HW : Hid (∀ wc, Mx wc p b N M → Calls Tryd.prog 25 #[.pointer (some ⟨p, 0, none⟩), .int .i64 f, .agg #[.int .i64 c.tb, .int .i64 c.pg, .int .i64 c.l, .int .i64 c.e, .int .i64 c.fa, .int .i64 c.wh]] wc fun e w' => e = .returned (.int .i64 0) ∧ Mx w' p b N (layF N M f c.ws) ∧ But b wc w') := fun wc h => write_any p b N f c M wc h ((coB_iff c).1 hco) (isE_ok hk)
      rw [show (Phead.isE N M f 3 == 0) = true by simp [hk]] at HIs
      clear e1 e2 e3 hk hco
      go_enter Tryd.func9, Tryd.ntmps9
      go_wp2_with (first
        | (go_at_call 15; refine (HC.out _ H0.out.mx.tb).mono ?_; rintro e1 w1 ⟨rfl, hb⟩; have H1 := rhide (H0.out.on hb); clear hb HC H0)
        | (go_at_call 30; refine (HIs.out _ H1.out.mx).mono ?_; rintro e2 w2 ⟨rfl, hb⟩; have H2 := rhide (H1.out.on hb); clear hb HIs H1; have x0 := H2.out.box.c0; have x1 := H2.out.box.c1; have x2 := H2.out.box.c2; have x3 := H2.out.box.c3; have x4 := H2.out.box.c4; have x5 := H2.out.box.c5)
        | (go_at_call 25; refine (HW.out _ H2.out.mx).mono ?_; rintro e3 w3 ⟨rfl, hm, hb⟩; have H3 := rhide (H2.out.turn hm hb); clear hm hb HW H2)
        | fail)
      go_ret
      exact ⟨rfl, H3.out.mx, H3.out.but⟩
    · have e2 : puE N M f c = 4 := by unfold puE; rw [if_pos hco, if_neg hk]
      have e3 : puM N M f c = M := by unfold puM; rw [if_neg (by rw [e2]; decide)]
      rw [e2, e3]
      rw [show (Phead.isE N M f 3 == 0) = false by simp [hk]] at HIs
      clear e1 e2 e3 hk hco
      go_enter Tryd.func9, Tryd.ntmps9
      go_wp2_with (first
        | (go_at_call 15; refine (HC.out _ H0.out.mx.tb).mono ?_; rintro e1 w1 ⟨rfl, hb⟩; have H1 := rhide (H0.out.on hb); clear hb HC H0)
        | (go_at_call 30; refine (HIs.out _ H1.out.mx).mono ?_; rintro e2 w2 ⟨rfl, hb⟩; have H2 := rhide (H1.out.on hb); clear hb HIs H1)
        | fail)
      go_ret
      exact ⟨rfl, H2.out.mx, H2.out.but⟩
  · have e1 : ckE c = 1 := by unfold ckE; rw [if_neg hco]
    have e2 : puE N M f c = 1 := by unfold puE; rw [if_neg hco]
    have e3 : puM N M f c = M := by unfold puM; rw [if_neg (by rw [e2]; decide)]
    rw [e1] at HC
    rw [e2, e3]
    clear e1 e2 e3 HIs hco
    go_enter Tryd.func9, Tryd.ntmps9
    go_wp2_with (first
      | (go_at_call 15; refine (HC.out _ H0.out.mx.tb).mono ?_; rintro e1 w1 ⟨rfl, hb⟩; have H1 := rhide (H0.out.on hb); clear hb HC H0)
      | fail)
    go_ret
    exact ⟨rfl, H1.out.mx, H1.out.but⟩
end Go.Proofs.YtikhbohkmogffaaDoor.Pcomp
