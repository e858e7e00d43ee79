/- The walk of TcapSum over the program's contracts (written by mk_sum.py). -/
import Derived.Test.YtlnckhebikiclaaDoorTcpK
import Derived.Deep.DeepCutAuto
namespace Go.Proofs.YtlnckhebikiclaaDoor.Ptcap
open Go.Proofs.YtlnckhebikiclaaDoor.Pbase Go.Proofs.YtlnckhebikiclaaDoor.Pfield Go.Proofs.YtlnckhebikiclaaDoor.Play Go.Proofs.YtlnckhebikiclaaDoor.Pmem
open Go.RowKit M
set_option linter.unusedVariables false

theorem at_of_drop {ops : Array Oper} {i : Nat} {oi : Oper} {tl : List Oper} (h : ops.toList.drop i = oi :: tl) : ops[i]? = some oi := by
  have h1 : (ops.toList.drop i)[0]? = some oi := by rw [h]; rfl
  rw [List.getElem?_drop] at h1
  simpa using h1
/-- Operation i is wanted and yields its value in every world that meets S: it is taken first. -/
theorem takeV {P : Program} {ops : Array Oper} {Q : Exit → Act → World → Prop} {md : Region.Mode} {S : World → Prop} {i : Nat} {oi : Oper} {tl : List Oper} {v : Value} {fuel : Nat} {listed : Array Bool} {a : Act} {w : World}
    (hi : ops.toList.drop i = oi :: tl) (hs : Region.noSelect ops = true) (hf : Region.free md ops listed i = true) (hr : (Region.ready md ops listed).contains i = true)
    (hQ : ∀ c a w, Q (.panic c) (a.put oi.dst v) w → Q (.panic c) a w) (hw : Region.wanted oi (yielded ops a.tmps) = true) (hS : S w)
    (hy : ∀ w, S w → (execOp a.eval oi).run P w = .ok (.value v) w)
    (h : wpAnyH P md ops Q S fuel (listed.setIfInBounds i true) (a.put oi.dst v) w) : wpAnyH P md ops Q S (fuel + 1) listed a w :=
  wpAnyH_take (at_of_drop hi) hs hf hr hQ (Or.inl ⟨hw, hy⟩) hS h
/-- Operation i is not wanted. -/
theorem takeU {P : Program} {ops : Array Oper} {Q : Exit → Act → World → Prop} {md : Region.Mode} {S : World → Prop} {i : Nat} {oi : Oper} {tl : List Oper} {fuel : Nat} {listed : Array Bool} {a : Act} {w : World}
    (hi : ops.toList.drop i = oi :: tl) (hs : Region.noSelect ops = true) (hf : Region.free md ops listed i = true) (hr : (Region.ready md ops listed).contains i = true)
    (hQ : ∀ c a w, Q (.panic c) (a.put oi.dst undef) w → Q (.panic c) a w) (hw : Region.wanted oi (yielded ops a.tmps) = false) (hS : S w)
    (h : wpAnyH P md ops Q S fuel (listed.setIfInBounds i true) (a.put oi.dst undef) w) : wpAnyH P md ops Q S (fuel + 1) listed a w :=
  wpAnyH_take (at_of_drop hi) hs hf hr hQ (Or.inr ⟨hw, rfl⟩) hS h
/-- Operation i alone may come up. -/
theorem stepOne {P : Program} {ops : Array Oper} {Q : Exit → Act → World → Prop} {md : Region.Mode} {S : World → Prop} {i : Nat} {oi : Oper} {tl : List Oper} {fuel : Nat} {listed : Array Bool} {a : Act} {w : World}
    (hi : ops.toList.drop i = oi :: tl) (hr : Region.ready md ops listed = [i])
    (h : ∀ K' : Act → World → Prop, Shut (∀ a w, S w → (S w → wpAnyH P md ops Q S fuel (listed.setIfInBounds i true) a w) → K' a w) → if Region.wanted oi (yielded ops a.tmps) = true then Oper.wp P oi a w K' Q else K' (a.put oi.dst undef) w) :
    wpAnyH P md ops Q S (fuel + 1) listed a w :=
  wpAnyH_ready hr (by simp) (AllReadyH.cons (at_of_drop hi) h AllReadyH.nil)
set_option maxRecDepth 100000 in
set_option maxHeartbeats 4000000 in
theorem sum_no1 (a b : Bd) (n q k : Int) (w : World) (ha : Fb a) (HP : Hid (Pr2 w)) (hno : ¬ Bo a) :
    Calls Tryd.prog 4 #[.agg #[.bool a.inf, .int .i64 a.lf, .int .i64 a.pr], .agg #[.bool b.inf, .int .i64 b.lf, .int .i64 b.pr], .int .i64 n, .int .i64 q, .int .i64 k] w fun e w' => e = .returned (.bool true) ∧ Below w.heap.size w w' := by
  have H0 := rhide (tq_two w a b)
  obtain ⟨e1, e2⟩ := made_no (N := 2) (f := 0) hno
  obtain ⟨M1, hM1⟩ : ∃ M1, M1 = mkM 2 (fun _ _ => 0) 0 a := ⟨_, rfl⟩
  have HM : Hid (∀ wc p r x, Tq w wc p r (fun _ _ => 0) x → Calls Tryd.prog 7 #[.pointer (some ⟨p, 0, none⟩), .int .i64 0, .agg #[.bool a.inf, .int .i64 a.lf, .int .i64 a.pr]] wc fun e w' => e = .returned (.int .i64 1) ∧ Tq w w' p r M1 x) := fun wc p r x h => by
    have := HP.out.make wc p r _ 0 a ha h.mem h.fit h.below
    rw [e1, ← hM1] at this
    exact this.mono fun e w' ⟨q1, q2, q3⟩ => ⟨q1, h.pm q2 (by rw [hM1]; exact fit_mk h.fit 2 0 a) q3⟩
  have HC : Hid (∀ wc, Below w.heap.size w wc → Calls Tryd.prog 21 #[.agg #[.bool a.inf, .int .i64 a.lf, .int .i64 a.pr]] wc fun e w' => e = .returned (.int .i64 1) ∧ Below wc.heap.size wc w') := fun wc h => by
    have := HP.out.check wc a ha h
    rwa [e2] at this
  clear e1 e2 hno hM1 ha
  go_enter Tryd.func4, Tryd.ntmps4
  go_wp2_with (first
    | (go_at_call 25; refine (new_ok 2 _ (by omega) (by omega)).mono ?_; rintro r1 w1 ⟨rfl, hw⟩; rw [← hw] at H0; clear hw; have H1 := H0; clear H0; have x0 := H1.out.first.c0; have x1 := H1.out.first.c1; have x2 := H1.out.first.c2; have y0 := H1.out.second.c0; have y1 := H1.out.second.c1; have y2 := H1.out.second.c2)
    | (go_at_call 7; refine (HM.out _ _ _ _ H1.out).mono ?_; rintro r2 w2 ⟨rfl, hm⟩; have H2 := rhide hm; clear hm H1 HM x0 x1 x2 y0 y1 y2; have x0 := H2.out.first.c0; have x1 := H2.out.first.c1; have x2 := H2.out.first.c2)
    | (go_at_call 21; refine (HC.out _ H2.out.below).mono ?_; rintro r3 w3 ⟨rfl, hb⟩; have H3 := rhide (H2.out.on hb); clear hb HC H2)
    | (go_at_call 24; refine (HP.out.awake _ H3.out.below).mono ?_; rintro r6 w6 ⟨rfl, hb⟩; have H4 := rhide (H3.out.on hb); clear hb H3)
    | fail)
  go_ret
  exact ⟨rfl, H4.out.below⟩
set_option maxRecDepth 100000 in
set_option maxHeartbeats 4000000 in
theorem sum_no2 (a b : Bd) (n q k : Int) (w : World) (ha : Fb a) (hb : Fb b) (HP : Hid (Pr2 w)) (hyes : Bo a) (hno : ¬ Bo b) :
    Calls Tryd.prog 4 #[.agg #[.bool a.inf, .int .i64 a.lf, .int .i64 a.pr], .agg #[.bool b.inf, .int .i64 b.lf, .int .i64 b.pr], .int .i64 n, .int .i64 q, .int .i64 k] w fun e w' => e = .returned (.bool true) ∧ Below w.heap.size w w' := by
  have H0 := rhide (tq_two w a b)
  obtain ⟨e1, e2⟩ := made_no (N := 2) (f := 1) hno
  obtain ⟨e0, _⟩ := two_made (M := fun _ _ => 0) hyes hyes
  have e3 : ckE a = 0 := by unfold ckE; rw [if_pos (boB_yes hyes)]
  obtain ⟨M1, hM1⟩ : ∃ M1, M1 = mkM 2 (fun _ _ => 0) 0 a := ⟨_, rfl⟩
  obtain ⟨M2, hM2⟩ : ∃ M2, M2 = mkM 2 M1 1 b := ⟨_, rfl⟩
  have HM : Hid (∀ wc p r x, Tq w wc p r (fun _ _ => 0) x → Calls Tryd.prog 7 #[.pointer (some ⟨p, 0, none⟩), .int .i64 0, .agg #[.bool a.inf, .int .i64 a.lf, .int .i64 a.pr]] wc fun e w' => e = .returned (.int .i64 0) ∧ Tq w w' p r M1 x) := fun wc p r x h => by
    have := HP.out.make wc p r _ 0 a ha h.mem h.fit h.below
    rw [e0, ← hM1] at this
    exact this.mono fun e w' ⟨q1, q2, q3⟩ => ⟨q1, h.pm q2 (by rw [hM1]; exact fit_mk h.fit 2 0 a) q3⟩
  have HN : Hid (∀ wc p r x, Tq w wc p r M1 x → Calls Tryd.prog 7 #[.pointer (some ⟨p, 0, none⟩), .int .i64 1, .agg #[.bool b.inf, .int .i64 b.lf, .int .i64 b.pr]] wc fun e w' => e = .returned (.int .i64 1) ∧ Tq w w' p r M2 x) := fun wc p r x h => by
    have := HP.out.make wc p r _ 1 b hb h.mem h.fit h.below
    rw [e1, ← hM2] at this
    exact this.mono fun e w' ⟨q1, q2, q3⟩ => ⟨q1, h.pm q2 (by rw [hM2]; exact fit_mk h.fit 2 1 b) q3⟩
  have HC : Hid (∀ wc, Below w.heap.size w wc → Calls Tryd.prog 21 #[.agg #[.bool a.inf, .int .i64 a.lf, .int .i64 a.pr]] wc fun e w' => e = .returned (.int .i64 0) ∧ Below wc.heap.size wc w') := fun wc h => by
    have := HP.out.check wc a ha h
    rwa [e3] at this
  have HD : Hid (∀ wc, Below w.heap.size w wc → Calls Tryd.prog 21 #[.agg #[.bool b.inf, .int .i64 b.lf, .int .i64 b.pr]] wc fun e w' => e = .returned (.int .i64 1) ∧ Below wc.heap.size wc w') := fun wc h => by
    have := HP.out.check wc b hb h
    rwa [e2] at this
  clear e0 e1 e2 e3 hno hyes hM1 hM2 ha hb
  go_enter Tryd.func4, Tryd.ntmps4
  go_wp2_with (first
    | (go_at_call 25; refine (new_ok 2 _ (by omega) (by omega)).mono ?_; rintro r1 w1 ⟨rfl, hw⟩; rw [← hw] at H0; clear hw; have H1 := H0; clear H0; have x0 := H1.out.first.c0; have x1 := H1.out.first.c1; have x2 := H1.out.first.c2; have y0 := H1.out.second.c0; have y1 := H1.out.second.c1; have y2 := H1.out.second.c2)
    | (go_at_call 7; refine (HM.out _ _ _ _ H1.out).mono ?_; rintro r2 w2 ⟨rfl, hm⟩; have H2 := rhide hm; clear hm H1 HM x0 x1 x2 y0 y1 y2; have y0 := H2.out.second.c0; have y1 := H2.out.second.c1; have y2 := H2.out.second.c2)
    | (go_at_call 7; refine (HN.out _ _ _ _ H2.out).mono ?_; rintro r3 w3 ⟨rfl, hm⟩; have H3 := rhide hm; clear hm H2 HN y0 y1 y2; have x0 := H3.out.first.c0; have x1 := H3.out.first.c1; have x2 := H3.out.first.c2)
    | (go_at_call 21; refine (HC.out _ H3.out.below).mono ?_; rintro r4 w4 ⟨rfl, hb⟩; have H4 := rhide (H3.out.on hb); clear hb HC H3 x0 x1 x2; have y0 := H4.out.second.c0; have y1 := H4.out.second.c1; have y2 := H4.out.second.c2)
    | (go_at_call 21; refine (HD.out _ H4.out.below).mono ?_; rintro r5 w5 ⟨rfl, hb⟩; have H5 := rhide (H4.out.on hb); clear hb HD H4 y0 y1 y2)
    | (go_at_call 24; refine (HP.out.awake _ H5.out.below).mono ?_; rintro r6 w6 ⟨rfl, hb⟩; have H6 := rhide (H5.out.on hb); clear hb H5)
    | fail)
  go_ret
  exact ⟨rfl, H6.out.below⟩
/-- What the charge has made of it. -/
theorem sum_charge {M : Nat → Nat → Int} {A x : Bd} {k : Int} (h : Two M A x) : (chE 2 M 1 k ≠ 0 ∧ (k < 0 ∨ 1048576 < k) ∧ gtT 2 (chM 2 M 1 k) 1 = x) ∨ (chE 2 M 1 k = 0 ∧ x.inf = true ∧ chB 2 M 1 k = false ∧ gtT 2 (chM 2 M 1 k) 1 = x ∧ cnB 2 (chM 2 M 1 k) 1 = true) ∨ (chE 2 M 1 k = 0 ∧ x.inf = false ∧ x.lf - k < 0 ∧ chB 2 M 1 k = true ∧ gtT 2 (chM 2 M 1 k) 1 = ⟨false, 0, x.pr⟩ ∧ cnB 2 (chM 2 M 1 k) 1 = false) ∨ (chE 2 M 1 k = 0 ∧ x.inf = false ∧ (0 ≤ k ∧ x.lf - k = 0) ∧ chB 2 M 1 k = true ∧ gtT 2 (chM 2 M 1 k) 1 = ⟨false, 0, x.pr⟩ ∧ cnB 2 (chM 2 M 1 k) 1 = false) ∨ (chE 2 M 1 k = 0 ∧ x.inf = false ∧ (0 ≤ k ∧ 0 < x.lf - k) ∧ chB 2 M 1 k = false ∧ gtT 2 (chM 2 M 1 k) 1 = ⟨false, x.lf - k, x.pr⟩ ∧ cnB 2 (chM 2 M 1 k) 1 = true) := by
  rcases two_charge (k := k) h with ⟨h1, h2, h3⟩ | ⟨h1, h2, h3, h4⟩ | ⟨h1, h2, h3, h4⟩
  · left
    rw [h3]
    exact ⟨h1, by omega, h.t1⟩
  · right; left
    rw [h4, two_can h, h2]
    exact ⟨h1, rfl, h3, h.t1, rfl⟩
  · right; right
    have hc := two_can h4
    have hk0 := (ch_yes h1).1.1
    have ht := h4.t1
    unfold chX chN at hc ht
    unfold chN at h3
    rw [h2] at hc ht
    dsimp only at hc ht
    by_cases c1 : x.lf - k < 0
    · left
      rw [if_pos c1] at hc ht h3
      exact ⟨h1, h2, c1, by rw [h3]; rfl, ht, by rw [hc]; rfl⟩
    · rw [if_neg c1] at hc ht h3
      by_cases c2 : x.lf - k = 0
      · right; left
        rw [c2] at hc ht h3
        exact ⟨h1, h2, ⟨hk0, c2⟩, by rw [h3]; rfl, ht, by rw [hc]; rfl⟩
      · right; right
        refine ⟨h1, h2, ⟨hk0, by omega⟩, by rw [h3]; simp [c2], ht, by rw [hc]; simp; omega⟩
set_option maxRecDepth 100000 in
set_option maxHeartbeats 40000000 in
theorem sum_walk (a b : Bd) (n q k : Int) (w : World) (ha : Fb a) (hb : Fb b) (hn : In64 n) (hq : In64 q) (hk : In64 k) (HP : Hid (Pr2 w)) :
    Calls Tryd.prog 4 #[.agg #[.bool a.inf, .int .i64 a.lf, .int .i64 a.pr], .agg #[.bool b.inf, .int .i64 b.lf, .int .i64 b.pr], .int .i64 n, .int .i64 q, .int .i64 k] w fun e w' => e = .returned (.bool true) ∧ Below w.heap.size w w' := by
  by_cases ba : Bo a
  case neg => exact sum_no1 a b n q k w ha HP ba
  by_cases bb : Bo b
  case neg => exact sum_no2 a b n q k w ha hb HP ba bb
  have H0 := rhide (tq_two w a b)
  obtain ⟨e1, e2, h2⟩ := two_made (M := fun _ _ => 0) ba bb
  obtain ⟨M1, hM1⟩ : ∃ M1, M1 = mkM 2 (fun _ _ => 0) 0 a := ⟨_, rfl⟩
  obtain ⟨M2, hM2⟩ : ∃ M2, M2 = mkM 2 M1 1 b := ⟨_, rfl⟩
  obtain ⟨M3, hM3⟩ : ∃ M3, M3 = gvM 2 M2 0 1 n q := ⟨_, rfl⟩
  obtain ⟨M4, hM4⟩ : ∃ M4, M4 = chM 2 M3 1 k := ⟨_, rfl⟩
  obtain ⟨E, hE⟩ : ∃ E, E = gvE 2 M2 0 1 n q := ⟨_, rfl⟩
  obtain ⟨F, hF⟩ : ∃ F, F = chE 2 M3 1 k := ⟨_, rfl⟩
  obtain ⟨Z, hZ⟩ : ∃ Z, Z = chB 2 M3 1 k := ⟨_, rfl⟩
  obtain ⟨C, hC⟩ : ∃ C, C = cnB 2 M4 1 := ⟨_, rfl⟩
  obtain ⟨y, hy⟩ : ∃ y, y = gtT 2 M4 1 := ⟨_, rfl⟩
  obtain ⟨G, hG⟩ : ∃ G, G = gtE 2 M4 1 := ⟨_, rfl⟩
  obtain ⟨S0, hS0⟩ : ∃ S0, S0 = smK 2 M2 2 := ⟨_, rfl⟩
  obtain ⟨S1, hS1⟩ : ∃ S1, S1 = smK 2 M3 2 := ⟨_, rfl⟩
  rw [← hM1, ← hM2] at h2
  have s0 := two_sum h2
  rw [← hS0] at s0
  have hg := two_give (n := n) (p := q) h2
  rw [← hM3, ← hE] at hg
  have hg' : (∃ A x, Two M3 A x) ∧ ((E ≠ 0 ∧ S1 = S0) ∨ (E = 0 ∧ a.inf = true ∧ S1 = S0 + n) ∨ (E = 0 ∧ a.inf = false ∧ S1 = S0)) := by
    rcases hg with ⟨g1, g2⟩ | ⟨g1, g2, g3⟩
    · rw [hS1, g2]
      exact ⟨⟨a, b, h2⟩, .inl ⟨g1, hS0.symm⟩⟩
    · refine ⟨⟨_, _, g2⟩, .inr ?_⟩
      rw [← hS1] at g3
      cases hi : a.inf
      · rw [hi] at g3
        simp at g3
        exact .inr ⟨g1, rfl, by omega⟩
      · rw [hi] at g3
        simp at g3
        exact .inl ⟨g1, rfl, by omega⟩
  obtain ⟨⟨A, x, h3⟩, hgs⟩ := hg'
  have s1 := sm_bd 2 M3 2
  rw [← hS1] at s1
  have hc := sum_charge (k := k) h3
  rw [← hM4, ← hF, ← hZ, ← hC, ← hy] at hc
  have HM : Hid (∀ wc p r x, Tq w wc p r (fun _ _ => 0) x → Calls Tryd.prog 7 #[.pointer (some ⟨p, 0, none⟩), .int .i64 0, .agg #[.bool a.inf, .int .i64 a.lf, .int .i64 a.pr]] wc fun e w' => e = .returned (.int .i64 0) ∧ Tq w w' p r M1 x) := fun wc p r x h => by
    have := HP.out.make wc p r _ 0 a ha h.mem h.fit h.below
    rw [e1, ← hM1] at this
    exact this.mono fun e w' ⟨q1, q2, q3⟩ => ⟨q1, h.pm q2 (by rw [hM1]; exact fit_mk h.fit 2 0 a) q3⟩
  have HO : Hid (∀ wc p r x, Tq w wc p r M1 x → Calls Tryd.prog 7 #[.pointer (some ⟨p, 0, none⟩), .int .i64 1, .agg #[.bool b.inf, .int .i64 b.lf, .int .i64 b.pr]] wc fun e w' => e = .returned (.int .i64 0) ∧ Tq w w' p r M2 x) := fun wc p r x h => by
    have := HP.out.make wc p r _ 1 b hb h.mem h.fit h.below
    rw [show mkE 2 1 b = 0 from e2, ← hM2] at this
    exact this.mono fun e w' ⟨q1, q2, q3⟩ => ⟨q1, h.pm q2 (by rw [hM2]; exact fit_mk h.fit 2 1 b) q3⟩
  have HS0 : Hid (∀ wc p r x, Tq w wc p r M2 x → Calls Tryd.prog 19 #[.pointer (some ⟨p, 0, none⟩)] wc fun e w' => e = .returned (.int .i64 S0) ∧ Tq w w' p r M2 x) := fun wc p r x h => by
    have := HP.out.sum wc p r _ h.mem h.fit h.below
    rw [← hS0] at this
    exact this.mono fun e w' ⟨q1, q2⟩ => ⟨q1, h.on q2⟩
  have HGv : Hid (∀ wc p r x, Tq w wc p r M2 x → Calls Tryd.prog 11 #[.pointer (some ⟨p, 0, none⟩), .int .i64 0, .int .i64 1, .int .i64 n, .int .i64 q] wc fun e w' => e = .returned (.int .i64 E) ∧ Tq w w' p r M3 x) := fun wc p r x h => by
    have := HP.out.give wc p r _ 0 1 n q hn hq h.mem h.fit h.below
    rw [← hE, ← hM3] at this
    exact this.mono fun e w' ⟨q1, q2, q3⟩ => ⟨q1, h.pm q2 (by rw [hM3]; exact fit_gv h.fit 2 0 1 n q) q3⟩
  have HS1 : Hid (∀ wc p r x, Tq w wc p r M3 x → Calls Tryd.prog 19 #[.pointer (some ⟨p, 0, none⟩)] wc fun e w' => e = .returned (.int .i64 S1) ∧ Tq w w' p r M3 x) := fun wc p r x h => by
    have := HP.out.sum wc p r _ h.mem h.fit h.below
    rw [← hS1] at this
    exact this.mono fun e w' ⟨q1, q2⟩ => ⟨q1, h.on q2⟩
  have HG0 : Hid (∀ wc p r z, Tq w wc p r M3 z → Calls Tryd.prog 15 #[.pointer (some ⟨p, 0, none⟩), .int .i64 1] wc fun e w' => e = .returned (.tuple #[.agg #[.bool x.inf, .int .i64 x.lf, .int .i64 x.pr], .int .i64 0]) ∧ Tq w w' p r M3 z) := fun wc p r z h => by
    have := HP.out.get wc p r _ 1 h.mem h.fit h.below
    rw [h3.t1, h3.e1] at this
    exact this.mono fun e w' ⟨q1, q2⟩ => ⟨q1, h.on q2⟩
  have HCh : Hid (∀ wc p r z, Tq w wc p r M3 z → Calls Tryd.prog 13 #[.pointer (some ⟨p, 0, none⟩), .int .i64 1, .int .i64 k] wc fun e w' => e = .returned (.tuple #[.bool Z, .int .i64 F]) ∧ Tq w w' p r M4 z) := fun wc p r z h => by
    have := HP.out.charge wc p r _ 1 k hk h.mem h.fit h.below
    rw [← hF, ← hZ, ← hM4] at this
    exact this.mono fun e w' ⟨q1, q2, q3⟩ => ⟨q1, h.pm q2 (by rw [hM4]; exact fit_ch h.fit 2 1 k) q3⟩
  have HG1 : Hid (∀ wc p r z, Tq w wc p r M4 z → Calls Tryd.prog 15 #[.pointer (some ⟨p, 0, none⟩), .int .i64 1] wc fun e w' => e = .returned (.tuple #[.agg #[.bool y.inf, .int .i64 y.lf, .int .i64 y.pr], .int .i64 G]) ∧ Tq w w' p r M4 z) := fun wc p r z h => by
    have := HP.out.get wc p r _ 1 h.mem h.fit h.below
    rw [← hy, ← hG] at this
    exact this.mono fun e w' ⟨q1, q2⟩ => ⟨q1, h.on q2⟩
  have HN : Hid (∀ wc p r z, Tq w wc p r M4 z → Calls Tryd.prog 17 #[.pointer (some ⟨p, 0, none⟩), .int .i64 1] wc fun e w' => e = .returned (.bool C) ∧ Tq w w' p r M4 z) := fun wc p r z h => by
    have := HP.out.can wc p r _ 1 h.mem h.fit h.below
    rw [← hC] at this
    exact this.mono fun e w' ⟨q1, q2⟩ => ⟨q1, h.on q2⟩
  have bx : 0 ≤ x.lf ∧ x.lf ≤ 1048576 := by rw [← h3.t1]; exact (gt_bo 2 M3 1).1
  clear hM1 hM2 hM3 hM4 hE hF hZ hC hy hG hS0 hS1 hg h2 h3 e1 e2 ba bb hn hq ha hb
  go_enter Tryd.func4, Tryd.ntmps4
  go_upto_region 9 with (first
    | (go_at_call 25; refine (new_ok 2 _ (by omega) (by omega)).mono ?_; rintro r1 w1 ⟨rfl, hw⟩; rw [← hw] at H0; clear hw; have H1 := H0; clear H0; have x0 := H1.out.first.c0; have x1 := H1.out.first.c1; have x2 := H1.out.first.c2; have y0 := H1.out.second.c0; have y1 := H1.out.second.c1; have y2 := H1.out.second.c2)
    | (go_at_call 7; refine (HM.out _ _ _ _ H1.out).mono ?_; rintro r2 w2 ⟨rfl, hm⟩; have H2 := rhide hm; clear hm H1 HM x0 x1 x2 y0 y1 y2; have y0 := H2.out.second.c0; have y1 := H2.out.second.c1; have y2 := H2.out.second.c2)
    | (go_at_call 7; refine (HO.out _ _ _ _ H2.out).mono ?_; rintro r3 w3 ⟨rfl, hm⟩; have H3 := rhide hm; clear hm H2 HO y0 y1 y2)
    | (go_at_call 19; refine (HS0.out _ _ _ _ H3.out).mono ?_; rintro r4 w4 ⟨rfl, hm⟩; have H4 := rhide hm; clear hm H3 HS0)
    | (go_at_call 11; refine (HGv.out _ _ _ _ H4.out).mono ?_; rintro r5 w5 ⟨rfl, hm⟩; have H5 := rhide hm; clear hm H4 HGv)
    | (go_at_call 19; refine (HS1.out _ _ _ _ H5.out).mono ?_; rintro r6 w6 ⟨rfl, hm⟩; have H6 := rhide hm; clear hm H5 HS1; have x0 := H6.out.first.c0)
    | fail)
  go_cut [92] from 57 to 91 (fun v wc => v = .bool false ∧ wc = w6)
  case first =>
    clear hc HG0 HCh HG1 HN bx
    rcases hgs with ⟨g1, rfl⟩ | ⟨rfl, g2, rfl⟩ | ⟨rfl, g2, rfl⟩
    · have b1 : (E != 0) = true := by simp [g1]
      have b2 : (E == 0) = false := by simp [g1]
      have b3 : (S1 != S1) = false := by simp
      go_wp2_with fail
      go_meet
      exact ⟨rfl, rfl⟩
    · rw [g2] at x0
      have b3 : (S0 + n != S0) = false ∨ True := .inr trivial
      have b4 : wrap64 (S0 + n) = S0 + n := by unfold wrap64; omega
      have b5 : (S0 + n != S0 + n) = false := by simp
      clear b3
      go_wp2_with fail
      go_meet
      exact ⟨rfl, rfl⟩
    · rw [g2] at x0
      have b3 : (S1 != S1) = false := by simp
      go_wp2_with fail
      go_meet
      exact ⟨rfl, rfl⟩
  case rest =>
    obtain ⟨rfl, rfl⟩ := hcut
    clear x0 hgs s0 s1
    go_upto_region 12 with (first
      | (go_at_call 15; refine (HG0.out _ _ _ _ H6.out).mono ?_; rintro r7 w7 ⟨rfl, hm⟩; have H7 := rhide (hm.more x); clear hm H6 HG0)
      | fail)
    generalize w7.alloc _ = v7 at H7 ⊢
    generalize w7.heap.size = Dx at H7 ⊢
    go_upto_region 13 with (first
      | (go_at_call 13; refine (HCh.out _ _ _ _ H7.out).mono ?_; rintro r8 w8 ⟨rfl, hm⟩; have H8 := rhide hm; clear hm H7 HCh)
      | fail)
    go_upto_region 14 with (first
      | (go_at_call 15; refine (HG1.out _ _ _ _ H8.out).mono ?_; rintro r9 w9 ⟨rfl, hm⟩; have H9 := rhide (hm.more y); clear hm H8 HG1)
      | fail)
    generalize w9.alloc _ = v9 at H9 ⊢
    generalize w9.heap.size = Dy at H9 ⊢
    obtain ⟨xi, xl, xp⟩ := x
    have hex := eqlB ⟨xi, xl, xp⟩
    dsimp only at hc bx hex
    rcases hc with ⟨c1, c2, rfl⟩ | ⟨rfl, rfl, rfl, rfl, rfl⟩ | ⟨rfl, rfl, c1, rfl, rfl, rfl⟩ | ⟨rfl, rfl, c1, rfl, rfl, rfl⟩ | ⟨rfl, rfl, c1, rfl, rfl, rfl⟩
    · have b1 : (F != 0) = true := by simp [c1]
      have x0 : v9.cell? ⟨Dx, 0, none⟩ = some (.bool xi) := H9.out.second.c0
      have x1 : v9.cell? ⟨Dx, 1, none⟩ = some (.int .i64 xl) := H9.out.second.c1
      have x2 : v9.cell? ⟨Dx, 2, none⟩ = some (.int .i64 xp) := H9.out.second.c2
      have y0 : v9.cell? ⟨Dy, 0, none⟩ = some (.bool xi) := H9.out.first.c0
      have y1 : v9.cell? ⟨Dy, 1, none⟩ = some (.int .i64 xl) := H9.out.first.c1
      have y2 : v9.cell? ⟨Dy, 2, none⟩ = some (.int .i64 xp) := H9.out.first.c2
      clear HN bx
      by_cases c3 : k < 0
      · go_wp2_with (first
          | (go_at_call 24; refine (HP.out.awake _ H9.out.below).mono ?_; rintro e wB ⟨rfl, hb⟩; have HB := rhide (H9.out.on hb); clear hb H9)
          | fail)
        go_ret
        exact ⟨rfl, HB.out.below⟩
      · have c4 : 1048576 < k := by omega
        go_wp2_with (first
          | (go_at_call 24; refine (HP.out.awake _ H9.out.below).mono ?_; rintro e wB ⟨rfl, hb⟩; have HB := rhide (H9.out.on hb); clear hb H9)
          | fail)
        go_ret
        exact ⟨rfl, HB.out.below⟩
    · have bp : (xp == xp) = true := by simp
      have x0 : v9.cell? ⟨Dx, 0, none⟩ = some (.bool true) := H9.out.second.c0
      have x1 : v9.cell? ⟨Dx, 1, none⟩ = some (.int .i64 xl) := H9.out.second.c1
      have x2 : v9.cell? ⟨Dx, 2, none⟩ = some (.int .i64 xp) := H9.out.second.c2
      have y0 : v9.cell? ⟨Dy, 0, none⟩ = some (.bool true) := H9.out.first.c0
      have y1 : v9.cell? ⟨Dy, 1, none⟩ = some (.int .i64 xl) := H9.out.first.c1
      have y2 : v9.cell? ⟨Dy, 2, none⟩ = some (.int .i64 xp) := H9.out.first.c2
      go_upto_region 16 with fail
      refine wp_region_held_drew (S := (fun w' => w'.cell? ⟨Dx, 0, none⟩ = some (.bool true) ∧ w'.cell? ⟨Dx, 1, none⟩ = some (.int .i64 xl) ∧ w'.cell? ⟨Dx, 2, none⟩ = some (.int .i64 xp) ∧ w'.cell? ⟨Dy, 0, none⟩ = some (.bool true) ∧ w'.cell? ⟨Dy, 1, none⟩ = some (.int .i64 xl) ∧ w'.cell? ⟨Dy, 2, none⟩ = some (.int .i64 xp))) (by kernel_rfl) ?_ (fun hHeld => ?_)
      · (first | (refine ⟨?_, ?_, ?_, ?_, ?_, ?_⟩ <;> with_reducible assumption) | go_keep)
      refine takeV (i := 0) (v := ?_) rfl (by kernel_rfl) (by kernel_rfl) (by kernel_rfl) (fun _ _ _ h => h) (by rfl) (by assumption) ?_ ?_
      rotate_left
      · (intro w0 hSw; (try dsimp only at hSw); obtain ⟨sx0, sx1, sx2, sy0, sy1, sy2⟩ := hSw; go_simp; try (with_reducible rfl))
      try simp only [Act.put, List.setIfInBounds_toArray, List.set_cons_zero, List.set_cons_succ]
      refine takeV (i := 1) (v := ?_) rfl (by kernel_rfl) (by kernel_rfl) (by kernel_rfl) (fun _ _ _ h => h) (by rfl) (by assumption) ?_ ?_
      rotate_left
      · (intro w0 hSw; (try dsimp only at hSw); obtain ⟨sx0, sx1, sx2, sy0, sy1, sy2⟩ := hSw; go_simp; try (with_reducible rfl))
      try simp only [Act.put, List.setIfInBounds_toArray, List.set_cons_zero, List.set_cons_succ]
      refine takeV (i := 2) (v := ?_) rfl (by kernel_rfl) (by kernel_rfl) (by kernel_rfl) (fun _ _ _ h => h) (by rfl) (by assumption) ?_ ?_
      rotate_left
      · (intro w0 hSw; (try dsimp only at hSw); obtain ⟨sx0, sx1, sx2, sy0, sy1, sy2⟩ := hSw; go_simp; try (with_reducible rfl))
      try simp only [Act.put, List.setIfInBounds_toArray, List.set_cons_zero, List.set_cons_succ]
      refine takeV (i := 3) (v := ?_) rfl (by kernel_rfl) (by kernel_rfl) (by kernel_rfl) (fun _ _ _ h => h) (by rfl) (by assumption) ?_ ?_
      rotate_left
      · (intro w0 hSw; (try dsimp only at hSw); obtain ⟨sx0, sx1, sx2, sy0, sy1, sy2⟩ := hSw; go_simp; try (with_reducible rfl))
      try simp only [Act.put, List.setIfInBounds_toArray, List.set_cons_zero, List.set_cons_succ]
      refine takeV (i := 4) (v := ?_) rfl (by kernel_rfl) (by kernel_rfl) (by kernel_rfl) (fun _ _ _ h => h) (by rfl) (by assumption) ?_ ?_
      rotate_left
      · (intro w0 hSw; (try dsimp only at hSw); obtain ⟨sx0, sx1, sx2, sy0, sy1, sy2⟩ := hSw; go_simp; try (with_reducible rfl))
      try simp only [Act.put, List.setIfInBounds_toArray, List.set_cons_zero, List.set_cons_succ]
      refine takeV (i := 5) (v := ?_) rfl (by kernel_rfl) (by kernel_rfl) (by kernel_rfl) (fun _ _ _ h => h) (by rfl) (by assumption) ?_ ?_
      rotate_left
      · (intro w0 hSw; (try dsimp only at hSw); obtain ⟨sx0, sx1, sx2, sy0, sy1, sy2⟩ := hSw; go_simp; try (with_reducible rfl))
      try simp only [Act.put, List.setIfInBounds_toArray, List.set_cons_zero, List.set_cons_succ]
      refine takeV (i := 6) (v := ?_) rfl (by kernel_rfl) (by kernel_rfl) (by kernel_rfl) (fun _ _ _ h => h) (by rfl) (by assumption) ?_ ?_
      rotate_left
      · (intro w0 hSw; (try dsimp only at hSw); obtain ⟨sx0, sx1, sx2, sy0, sy1, sy2⟩ := hSw; go_simp; try (with_reducible rfl))
      try simp only [Act.put, List.setIfInBounds_toArray, List.set_cons_zero, List.set_cons_succ]
      refine takeV (i := 7) (v := ?_) rfl (by kernel_rfl) (by kernel_rfl) (by kernel_rfl) (fun _ _ _ h => h) (by rfl) (by assumption) ?_ ?_
      rotate_left
      · (intro w0 hSw; (try dsimp only at hSw); obtain ⟨sx0, sx1, sx2, sy0, sy1, sy2⟩ := hSw; go_simp; try (with_reducible rfl))
      try simp only [Act.put, List.setIfInBounds_toArray, List.set_cons_zero, List.set_cons_succ]
      refine takeV (i := 8) (v := ?_) rfl (by kernel_rfl) (by kernel_rfl) (by kernel_rfl) (fun _ _ _ h => h) (by rfl) (by assumption) ?_ ?_
      rotate_left
      · (intro w0 hSw; (try dsimp only at hSw); obtain ⟨sx0, sx1, sx2, sy0, sy1, sy2⟩ := hSw; go_simp; try (with_reducible rfl))
      try simp only [Act.put, List.setIfInBounds_toArray, List.set_cons_zero, List.set_cons_succ]
      refine takeV (i := 9) (v := ?_) rfl (by kernel_rfl) (by kernel_rfl) (by kernel_rfl) (fun _ _ _ h => h) (by rfl) (by assumption) ?_ ?_
      rotate_left
      · (intro w0 hSw; (try dsimp only at hSw); obtain ⟨sx0, sx1, sx2, sy0, sy1, sy2⟩ := hSw; go_simp; try (with_reducible rfl))
      try simp only [Act.put, List.setIfInBounds_toArray, List.set_cons_zero, List.set_cons_succ]
      refine takeV (i := 10) (v := ?_) rfl (by kernel_rfl) (by kernel_rfl) (by kernel_rfl) (fun _ _ _ h => h) (by rfl) (by assumption) ?_ ?_
      rotate_left
      · (intro w0 hSw; (try dsimp only at hSw); obtain ⟨sx0, sx1, sx2, sy0, sy1, sy2⟩ := hSw; go_simp; try (with_reducible rfl))
      try simp only [Act.put, List.setIfInBounds_toArray, List.set_cons_zero, List.set_cons_succ]
      refine takeV (i := 11) (v := ?_) rfl (by kernel_rfl) (by kernel_rfl) (by kernel_rfl) (fun _ _ _ h => h) (by rfl) (by assumption) ?_ ?_
      rotate_left
      · (intro w0 hSw; (try dsimp only at hSw); obtain ⟨sx0, sx1, sx2, sy0, sy1, sy2⟩ := hSw; go_simp; try (with_reducible rfl))
      try simp only [Act.put, List.setIfInBounds_toArray, List.set_cons_zero, List.set_cons_succ]
      refine takeU (i := 12) rfl (by kernel_rfl) (by kernel_rfl) (by kernel_rfl) (fun _ _ _ h => h) (by rfl) (by assumption) ?_
      try simp only [Act.put, List.setIfInBounds_toArray, List.set_cons_zero, List.set_cons_succ]
      refine takeU (i := 13) rfl (by kernel_rfl) (by kernel_rfl) (by kernel_rfl) (fun _ _ _ h => h) (by rfl) (by assumption) ?_
      try simp only [Act.put, List.setIfInBounds_toArray, List.set_cons_zero, List.set_cons_succ]
      refine takeU (i := 14) rfl (by kernel_rfl) (by kernel_rfl) (by kernel_rfl) (fun _ _ _ h => h) (by rfl) (by assumption) ?_
      try simp only [Act.put, List.setIfInBounds_toArray, List.set_cons_zero, List.set_cons_succ]
      refine takeU (i := 15) rfl (by kernel_rfl) (by kernel_rfl) (by kernel_rfl) (fun _ _ _ h => h) (by rfl) (by assumption) ?_
      try simp only [Act.put, List.setIfInBounds_toArray, List.set_cons_zero, List.set_cons_succ]
      refine takeU (i := 16) rfl (by kernel_rfl) (by kernel_rfl) (by kernel_rfl) (fun _ _ _ h => h) (by rfl) (by assumption) ?_
      try simp only [Act.put, List.setIfInBounds_toArray, List.set_cons_zero, List.set_cons_succ]
      refine takeU (i := 17) rfl (by kernel_rfl) (by kernel_rfl) (by kernel_rfl) (fun _ _ _ h => h) (by rfl) (by assumption) ?_
      try simp only [Act.put, List.setIfInBounds_toArray, List.set_cons_zero, List.set_cons_succ]
      refine takeU (i := 18) rfl (by kernel_rfl) (by kernel_rfl) (by kernel_rfl) (fun _ _ _ h => h) (by rfl) (by assumption) ?_
      try simp only [Act.put, List.setIfInBounds_toArray, List.set_cons_zero, List.set_cons_succ]
      refine takeU (i := 19) rfl (by kernel_rfl) (by kernel_rfl) (by kernel_rfl) (fun _ _ _ h => h) (by rfl) (by assumption) ?_
      try simp only [Act.put, List.setIfInBounds_toArray, List.set_cons_zero, List.set_cons_succ]
      refine takeU (i := 20) rfl (by kernel_rfl) (by kernel_rfl) (by kernel_rfl) (fun _ _ _ h => h) (by rfl) (by assumption) ?_
      try simp only [Act.put, List.setIfInBounds_toArray, List.set_cons_zero, List.set_cons_succ]
      refine takeU (i := 21) rfl (by kernel_rfl) (by kernel_rfl) (by kernel_rfl) (fun _ _ _ h => h) (by rfl) (by assumption) ?_
      try simp only [Act.put, List.setIfInBounds_toArray, List.set_cons_zero, List.set_cons_succ]
      refine takeU (i := 22) rfl (by kernel_rfl) (by kernel_rfl) (by kernel_rfl) (fun _ _ _ h => h) (by rfl) (by assumption) ?_
      try simp only [Act.put, List.setIfInBounds_toArray, List.set_cons_zero, List.set_cons_succ]
      refine takeU (i := 23) rfl (by kernel_rfl) (by kernel_rfl) (by kernel_rfl) (fun _ _ _ h => h) (by rfl) (by assumption) ?_
      try simp only [Act.put, List.setIfInBounds_toArray, List.set_cons_zero, List.set_cons_succ]
      refine takeU (i := 24) rfl (by kernel_rfl) (by kernel_rfl) (by kernel_rfl) (fun _ _ _ h => h) (by rfl) (by assumption) ?_
      try simp only [Act.put, List.setIfInBounds_toArray, List.set_cons_zero, List.set_cons_succ]
      refine takeU (i := 25) rfl (by kernel_rfl) (by kernel_rfl) (by kernel_rfl) (fun _ _ _ h => h) (by rfl) (by assumption) ?_
      try simp only [Act.put, List.setIfInBounds_toArray, List.set_cons_zero, List.set_cons_succ]
      refine takeU (i := 26) rfl (by kernel_rfl) (by kernel_rfl) (by kernel_rfl) (fun _ _ _ h => h) (by rfl) (by assumption) ?_
      try simp only [Act.put, List.setIfInBounds_toArray, List.set_cons_zero, List.set_cons_succ]
      refine takeU (i := 27) rfl (by kernel_rfl) (by kernel_rfl) (by kernel_rfl) (fun _ _ _ h => h) (by rfl) (by assumption) ?_
      try simp only [Act.put, List.setIfInBounds_toArray, List.set_cons_zero, List.set_cons_succ]
      refine takeU (i := 28) rfl (by kernel_rfl) (by kernel_rfl) (by kernel_rfl) (fun _ _ _ h => h) (by rfl) (by assumption) ?_
      try simp only [Act.put, List.setIfInBounds_toArray, List.set_cons_zero, List.set_cons_succ]
      refine takeU (i := 29) rfl (by kernel_rfl) (by kernel_rfl) (by kernel_rfl) (fun _ _ _ h => h) (by rfl) (by assumption) ?_
      try simp only [Act.put, List.setIfInBounds_toArray, List.set_cons_zero, List.set_cons_succ]
      refine takeU (i := 30) rfl (by kernel_rfl) (by kernel_rfl) (by kernel_rfl) (fun _ _ _ h => h) (by rfl) (by assumption) ?_
      try simp only [Act.put, List.setIfInBounds_toArray, List.set_cons_zero, List.set_cons_succ]
      refine takeU (i := 31) rfl (by kernel_rfl) (by kernel_rfl) (by kernel_rfl) (fun _ _ _ h => h) (by rfl) (by assumption) ?_
      try simp only [Act.put, List.setIfInBounds_toArray, List.set_cons_zero, List.set_cons_succ]
      refine takeV (i := 32) (v := ?_) rfl (by kernel_rfl) (by kernel_rfl) (by kernel_rfl) (fun _ _ _ h => h) (by rfl) (by assumption) ?_ ?_
      rotate_left
      · (intro w0 hSw; (try dsimp only at hSw); obtain ⟨sx0, sx1, sx2, sy0, sy1, sy2⟩ := hSw; go_simp; try (with_reducible rfl))
      try simp only [Act.put, List.setIfInBounds_toArray, List.set_cons_zero, List.set_cons_succ]
      refine takeV (i := 33) (v := ?_) rfl (by kernel_rfl) (by kernel_rfl) (by kernel_rfl) (fun _ _ _ h => h) (by rfl) (by assumption) ?_ ?_
      rotate_left
      · (intro w0 hSw; (try dsimp only at hSw); obtain ⟨sx0, sx1, sx2, sy0, sy1, sy2⟩ := hSw; go_simp; try (with_reducible rfl))
      try simp only [Act.put, List.setIfInBounds_toArray, List.set_cons_zero, List.set_cons_succ]
      refine takeV (i := 34) (v := ?_) rfl (by kernel_rfl) (by kernel_rfl) (by kernel_rfl) (fun _ _ _ h => h) (by rfl) (by assumption) ?_ ?_
      rotate_left
      · (intro w0 hSw; (try dsimp only at hSw); obtain ⟨sx0, sx1, sx2, sy0, sy1, sy2⟩ := hSw; go_simp; try (with_reducible rfl))
      try simp only [Act.put, List.setIfInBounds_toArray, List.set_cons_zero, List.set_cons_succ]
      refine takeV (i := 35) (v := ?_) rfl (by kernel_rfl) (by kernel_rfl) (by kernel_rfl) (fun _ _ _ h => h) (by rfl) (by assumption) ?_ ?_
      rotate_left
      · (intro w0 hSw; (try dsimp only at hSw); obtain ⟨sx0, sx1, sx2, sy0, sy1, sy2⟩ := hSw; go_simp; try (with_reducible rfl))
      try simp only [Act.put, List.setIfInBounds_toArray, List.set_cons_zero, List.set_cons_succ]
      refine takeV (i := 36) (v := ?_) rfl (by kernel_rfl) (by kernel_rfl) (by kernel_rfl) (fun _ _ _ h => h) (by rfl) (by assumption) ?_ ?_
      rotate_left
      · (intro w0 hSw; (try dsimp only at hSw); obtain ⟨sx0, sx1, sx2, sy0, sy1, sy2⟩ := hSw; go_simp; try (with_reducible rfl))
      try simp only [Act.put, List.setIfInBounds_toArray, List.set_cons_zero, List.set_cons_succ]
      refine takeV (i := 37) (v := ?_) rfl (by kernel_rfl) (by kernel_rfl) (by kernel_rfl) (fun _ _ _ h => h) (by rfl) (by assumption) ?_ ?_
      rotate_left
      · (intro w0 hSw; (try dsimp only at hSw); obtain ⟨sx0, sx1, sx2, sy0, sy1, sy2⟩ := hSw; go_simp; try (with_reducible rfl))
      try simp only [Act.put, List.setIfInBounds_toArray, List.set_cons_zero, List.set_cons_succ]
      refine takeV (i := 38) (v := ?_) rfl (by kernel_rfl) (by kernel_rfl) (by kernel_rfl) (fun _ _ _ h => h) (by rfl) (by assumption) ?_ ?_
      rotate_left
      · (intro w0 hSw; (try dsimp only at hSw); obtain ⟨sx0, sx1, sx2, sy0, sy1, sy2⟩ := hSw; go_simp; try (with_reducible rfl))
      try simp only [Act.put, List.setIfInBounds_toArray, List.set_cons_zero, List.set_cons_succ]
      refine takeV (i := 39) (v := ?_) rfl (by kernel_rfl) (by kernel_rfl) (by kernel_rfl) (fun _ _ _ h => h) (by rfl) (by assumption) ?_ ?_
      rotate_left
      · (intro w0 hSw; (try dsimp only at hSw); obtain ⟨sx0, sx1, sx2, sy0, sy1, sy2⟩ := hSw; go_simp; try (with_reducible rfl))
      try simp only [Act.put, List.setIfInBounds_toArray, List.set_cons_zero, List.set_cons_succ]
      refine takeV (i := 40) (v := ?_) rfl (by kernel_rfl) (by kernel_rfl) (by kernel_rfl) (fun _ _ _ h => h) (by rfl) (by assumption) ?_ ?_
      rotate_left
      · (intro w0 hSw; (try dsimp only at hSw); obtain ⟨sx0, sx1, sx2, sy0, sy1, sy2⟩ := hSw; go_simp; try (with_reducible rfl))
      try simp only [Act.put, List.setIfInBounds_toArray, List.set_cons_zero, List.set_cons_succ]
      refine takeV (i := 41) (v := ?_) rfl (by kernel_rfl) (by kernel_rfl) (by kernel_rfl) (fun _ _ _ h => h) (by rfl) (by assumption) ?_ ?_
      rotate_left
      · (intro w0 hSw; (try dsimp only at hSw); obtain ⟨sx0, sx1, sx2, sy0, sy1, sy2⟩ := hSw; go_simp; try (with_reducible rfl))
      try simp only [Act.put, List.setIfInBounds_toArray, List.set_cons_zero, List.set_cons_succ]
      refine takeV (i := 43) (v := ?_) rfl (by kernel_rfl) (by kernel_rfl) (by kernel_rfl) (fun _ _ _ h => h) (by rfl) (by assumption) ?_ ?_
      rotate_left
      · (intro w0 hSw; (try dsimp only at hSw); obtain ⟨sx0, sx1, sx2, sy0, sy1, sy2⟩ := hSw; go_simp; try (with_reducible rfl))
      try simp only [Act.put, List.setIfInBounds_toArray, List.set_cons_zero, List.set_cons_succ]
      refine takeV (i := 44) (v := ?_) rfl (by kernel_rfl) (by kernel_rfl) (by kernel_rfl) (fun _ _ _ h => h) (by rfl) (by assumption) ?_ ?_
      rotate_left
      · (intro w0 hSw; (try dsimp only at hSw); obtain ⟨sx0, sx1, sx2, sy0, sy1, sy2⟩ := hSw; go_simp; try (with_reducible rfl))
      try simp only [Act.put, List.setIfInBounds_toArray, List.set_cons_zero, List.set_cons_succ]
      refine stepOne (i := 42) rfl (by kernel_rfl) (fun K hK => ?_)
      go_simp
      (go_at_call 17; refine (HN.out _ _ _ _ (by first | exact H9.out | exact H9.out.on (Below.refl _ _).drew)).mono ?_; rintro e wA ⟨rfl, hm⟩; have HA := rhide hm; clear hm HN H9 x0 x1 x2 y0 y1 y2; have y0 := HA.out.first.c0; have y1 := HA.out.first.c1; have y2 := HA.out.first.c2; have x0 := HA.out.second.c0; have x1 := HA.out.second.c1; have x2 := HA.out.second.c2)
      go_wp2_with fail
      refine hK.out _ _ ?_ (fun hHeld => ?_)
      · (first | (refine ⟨?_, ?_, ?_, ?_, ?_, ?_⟩ <;> with_reducible assumption) | go_keep)
      clear hK K
      try simp only [Act.put, List.setIfInBounds_toArray, List.set_cons_zero, List.set_cons_succ]
      refine takeV (i := 45) (v := ?_) rfl (by kernel_rfl) (by kernel_rfl) (by kernel_rfl) (fun _ _ _ h => h) (by rfl) (by assumption) ?_ ?_
      rotate_left
      · (intro w0 hSw; (try dsimp only at hSw); obtain ⟨sx0, sx1, sx2, sy0, sy1, sy2⟩ := hSw; go_simp; try (with_reducible rfl))
      try simp only [Act.put, List.setIfInBounds_toArray, List.set_cons_zero, List.set_cons_succ]
      refine takeU (i := 46) rfl (by kernel_rfl) (by kernel_rfl) (by kernel_rfl) (fun _ _ _ h => h) (by rfl) (by assumption) ?_
      try simp only [Act.put, List.setIfInBounds_toArray, List.set_cons_zero, List.set_cons_succ]
      refine takeU (i := 47) rfl (by kernel_rfl) (by kernel_rfl) (by kernel_rfl) (fun _ _ _ h => h) (by rfl) (by assumption) ?_
      try simp only [Act.put, List.setIfInBounds_toArray, List.set_cons_zero, List.set_cons_succ]
      refine takeU (i := 48) rfl (by kernel_rfl) (by kernel_rfl) (by kernel_rfl) (fun _ _ _ h => h) (by rfl) (by assumption) ?_
      try simp only [Act.put, List.setIfInBounds_toArray, List.set_cons_zero, List.set_cons_succ]
      refine takeV (i := 49) (v := ?_) rfl (by kernel_rfl) (by kernel_rfl) (by kernel_rfl) (fun _ _ _ h => h) (by rfl) (by assumption) ?_ ?_
      rotate_left
      · (intro w0 hSw; (try dsimp only at hSw); obtain ⟨sx0, sx1, sx2, sy0, sy1, sy2⟩ := hSw; go_simp; try (with_reducible rfl))
      try simp only [Act.put, List.setIfInBounds_toArray, List.set_cons_zero, List.set_cons_succ]
      refine takeV (i := 50) (v := ?_) rfl (by kernel_rfl) (by kernel_rfl) (by kernel_rfl) (fun _ _ _ h => h) (by rfl) (by assumption) ?_ ?_
      rotate_left
      · (intro w0 hSw; (try dsimp only at hSw); obtain ⟨sx0, sx1, sx2, sy0, sy1, sy2⟩ := hSw; go_simp; try (with_reducible rfl))
      try simp only [Act.put, List.setIfInBounds_toArray, List.set_cons_zero, List.set_cons_succ]
      refine takeV (i := 51) (v := ?_) rfl (by kernel_rfl) (by kernel_rfl) (by kernel_rfl) (fun _ _ _ h => h) (by rfl) (by assumption) ?_ ?_
      rotate_left
      · (intro w0 hSw; (try dsimp only at hSw); obtain ⟨sx0, sx1, sx2, sy0, sy1, sy2⟩ := hSw; go_simp; try (with_reducible rfl))
      try simp only [Act.put, List.setIfInBounds_toArray, List.set_cons_zero, List.set_cons_succ]
      refine takeV (i := 52) (v := ?_) rfl (by kernel_rfl) (by kernel_rfl) (by kernel_rfl) (fun _ _ _ h => h) (by rfl) (by assumption) ?_ ?_
      rotate_left
      · (intro w0 hSw; (try dsimp only at hSw); obtain ⟨sx0, sx1, sx2, sy0, sy1, sy2⟩ := hSw; go_simp; try (with_reducible rfl))
      try simp only [Act.put, List.setIfInBounds_toArray, List.set_cons_zero, List.set_cons_succ]
      refine stepOne (i := 53) rfl (by kernel_rfl) (fun K hK => ?_)
      go_simp
      (go_at_call 24; refine (HP.out.awake _ (by first | exact HA.out.below | exact HA.out.below.drew)).mono ?_; rintro e wB ⟨rfl, hb⟩; have HB := rhide (HA.out.on hb); clear hb HA x0 x1 x2 y0 y1 y2; have y0 := HB.out.first.c0; have y1 := HB.out.first.c1; have y2 := HB.out.first.c2; have x0 := HB.out.second.c0; have x1 := HB.out.second.c1; have x2 := HB.out.second.c2)
      go_wp2_with fail
      refine hK.out _ _ ?_ (fun hHeld => ?_)
      · (first | (refine ⟨?_, ?_, ?_, ?_, ?_, ?_⟩ <;> with_reducible assumption) | go_keep)
      clear hK K
      try simp only [Act.put, List.setIfInBounds_toArray, List.set_cons_zero, List.set_cons_succ]
      refine takeV (i := 54) (v := ?_) rfl (by kernel_rfl) (by kernel_rfl) (by kernel_rfl) (fun _ _ _ h => h) (by rfl) (by assumption) ?_ ?_
      rotate_left
      · (intro w0 hSw; (try dsimp only at hSw); obtain ⟨sx0, sx1, sx2, sy0, sy1, sy2⟩ := hSw; go_simp; try (with_reducible rfl))
      try simp only [Act.put, List.setIfInBounds_toArray, List.set_cons_zero, List.set_cons_succ]
      refine takeV (i := 55) (v := ?_) rfl (by kernel_rfl) (by kernel_rfl) (by kernel_rfl) (fun _ _ _ h => h) (by rfl) (by assumption) ?_ ?_
      rotate_left
      · (intro w0 hSw; (try dsimp only at hSw); obtain ⟨sx0, sx1, sx2, sy0, sy1, sy2⟩ := hSw; go_simp; try (with_reducible rfl))
      try simp only [Act.put, List.setIfInBounds_toArray, List.set_cons_zero, List.set_cons_succ]
      refine wpAnyH_done (by kernel_rfl) ?_ _
      go_wp2
      go_ret
      exact ⟨rfl, HB.out.below⟩
    · have bp : (xp == xp) = true := by simp
      have hw : IntKind.i64.wrap (xl - k) = xl - k := by rw [IntKind.wrap_i64]; unfold In64 at hk; omega
      have hw' : wrap64 (xl - k) = xl - k := by unfold wrap64; unfold In64 at hk; omega
      have x0 : v9.cell? ⟨Dx, 0, none⟩ = some (.bool false) := H9.out.second.c0
      have x1 : v9.cell? ⟨Dx, 1, none⟩ = some (.int .i64 xl) := H9.out.second.c1
      have x2 : v9.cell? ⟨Dx, 2, none⟩ = some (.int .i64 xp) := H9.out.second.c2
      have y0 : v9.cell? ⟨Dy, 0, none⟩ = some (.bool false) := H9.out.first.c0
      have y1 : v9.cell? ⟨Dy, 1, none⟩ = some (.int .i64 0) := H9.out.first.c1
      have y2 : v9.cell? ⟨Dy, 2, none⟩ = some (.int .i64 xp) := H9.out.first.c2
      go_upto_region 16 with fail
      refine wp_region_held_drew (S := (fun w' => w'.cell? ⟨Dx, 0, none⟩ = some (.bool false) ∧ w'.cell? ⟨Dx, 1, none⟩ = some (.int .i64 xl) ∧ w'.cell? ⟨Dx, 2, none⟩ = some (.int .i64 xp) ∧ w'.cell? ⟨Dy, 0, none⟩ = some (.bool false) ∧ w'.cell? ⟨Dy, 1, none⟩ = some (.int .i64 0) ∧ w'.cell? ⟨Dy, 2, none⟩ = some (.int .i64 xp))) (by kernel_rfl) ?_ (fun hHeld => ?_)
      · (first | (refine ⟨?_, ?_, ?_, ?_, ?_, ?_⟩ <;> with_reducible assumption) | go_keep)
      refine takeV (i := 0) (v := ?_) rfl (by kernel_rfl) (by kernel_rfl) (by kernel_rfl) (fun _ _ _ h => h) (by rfl) (by assumption) ?_ ?_
      rotate_left
      · (intro w0 hSw; (try dsimp only at hSw); obtain ⟨sx0, sx1, sx2, sy0, sy1, sy2⟩ := hSw; go_simp; try (with_reducible rfl))
      try simp only [Act.put, List.setIfInBounds_toArray, List.set_cons_zero, List.set_cons_succ]
      refine takeV (i := 1) (v := ?_) rfl (by kernel_rfl) (by kernel_rfl) (by kernel_rfl) (fun _ _ _ h => h) (by rfl) (by assumption) ?_ ?_
      rotate_left
      · (intro w0 hSw; (try dsimp only at hSw); obtain ⟨sx0, sx1, sx2, sy0, sy1, sy2⟩ := hSw; go_simp; try (with_reducible rfl))
      try simp only [Act.put, List.setIfInBounds_toArray, List.set_cons_zero, List.set_cons_succ]
      refine takeV (i := 2) (v := ?_) rfl (by kernel_rfl) (by kernel_rfl) (by kernel_rfl) (fun _ _ _ h => h) (by rfl) (by assumption) ?_ ?_
      rotate_left
      · (intro w0 hSw; (try dsimp only at hSw); obtain ⟨sx0, sx1, sx2, sy0, sy1, sy2⟩ := hSw; go_simp; try (with_reducible rfl))
      try simp only [Act.put, List.setIfInBounds_toArray, List.set_cons_zero, List.set_cons_succ]
      refine takeU (i := 3) rfl (by kernel_rfl) (by kernel_rfl) (by kernel_rfl) (fun _ _ _ h => h) (by rfl) (by assumption) ?_
      try simp only [Act.put, List.setIfInBounds_toArray, List.set_cons_zero, List.set_cons_succ]
      refine takeU (i := 4) rfl (by kernel_rfl) (by kernel_rfl) (by kernel_rfl) (fun _ _ _ h => h) (by rfl) (by assumption) ?_
      try simp only [Act.put, List.setIfInBounds_toArray, List.set_cons_zero, List.set_cons_succ]
      refine takeU (i := 5) rfl (by kernel_rfl) (by kernel_rfl) (by kernel_rfl) (fun _ _ _ h => h) (by rfl) (by assumption) ?_
      try simp only [Act.put, List.setIfInBounds_toArray, List.set_cons_zero, List.set_cons_succ]
      refine takeV (i := 6) (v := ?_) rfl (by kernel_rfl) (by kernel_rfl) (by kernel_rfl) (fun _ _ _ h => h) (by rfl) (by assumption) ?_ ?_
      rotate_left
      · (intro w0 hSw; (try dsimp only at hSw); obtain ⟨sx0, sx1, sx2, sy0, sy1, sy2⟩ := hSw; go_simp; try (with_reducible rfl))
      try simp only [Act.put, List.setIfInBounds_toArray, List.set_cons_zero, List.set_cons_succ]
      refine takeV (i := 7) (v := ?_) rfl (by kernel_rfl) (by kernel_rfl) (by kernel_rfl) (fun _ _ _ h => h) (by rfl) (by assumption) ?_ ?_
      rotate_left
      · (intro w0 hSw; (try dsimp only at hSw); obtain ⟨sx0, sx1, sx2, sy0, sy1, sy2⟩ := hSw; go_simp; try (with_reducible rfl))
      try simp only [Act.put, List.setIfInBounds_toArray, List.set_cons_zero, List.set_cons_succ]
      refine takeU (i := 8) rfl (by kernel_rfl) (by kernel_rfl) (by kernel_rfl) (fun _ _ _ h => h) (by rfl) (by assumption) ?_
      try simp only [Act.put, List.setIfInBounds_toArray, List.set_cons_zero, List.set_cons_succ]
      refine takeU (i := 9) rfl (by kernel_rfl) (by kernel_rfl) (by kernel_rfl) (fun _ _ _ h => h) (by rfl) (by assumption) ?_
      try simp only [Act.put, List.setIfInBounds_toArray, List.set_cons_zero, List.set_cons_succ]
      refine takeV (i := 10) (v := ?_) rfl (by kernel_rfl) (by kernel_rfl) (by kernel_rfl) (fun _ _ _ h => h) (by rfl) (by assumption) ?_ ?_
      rotate_left
      · (intro w0 hSw; (try dsimp only at hSw); obtain ⟨sx0, sx1, sx2, sy0, sy1, sy2⟩ := hSw; go_simp; try (with_reducible rfl))
      try simp only [Act.put, List.setIfInBounds_toArray, List.set_cons_zero, List.set_cons_succ]
      refine takeV (i := 11) (v := ?_) rfl (by kernel_rfl) (by kernel_rfl) (by kernel_rfl) (fun _ _ _ h => h) (by rfl) (by assumption) ?_ ?_
      rotate_left
      · (intro w0 hSw; (try dsimp only at hSw); obtain ⟨sx0, sx1, sx2, sy0, sy1, sy2⟩ := hSw; go_simp; try (with_reducible rfl))
      try simp only [Act.put, List.setIfInBounds_toArray, List.set_cons_zero, List.set_cons_succ]
      refine takeV (i := 12) (v := ?_) rfl (by kernel_rfl) (by kernel_rfl) (by kernel_rfl) (fun _ _ _ h => h) (by rfl) (by assumption) ?_ ?_
      rotate_left
      · (intro w0 hSw; (try dsimp only at hSw); obtain ⟨sx0, sx1, sx2, sy0, sy1, sy2⟩ := hSw; go_simp; try (with_reducible rfl))
      try simp only [Act.put, List.setIfInBounds_toArray, List.set_cons_zero, List.set_cons_succ]
      refine takeV (i := 13) (v := ?_) rfl (by kernel_rfl) (by kernel_rfl) (by kernel_rfl) (fun _ _ _ h => h) (by rfl) (by assumption) ?_ ?_
      rotate_left
      · (intro w0 hSw; (try dsimp only at hSw); obtain ⟨sx0, sx1, sx2, sy0, sy1, sy2⟩ := hSw; go_simp; try (with_reducible rfl))
      try simp only [Act.put, List.setIfInBounds_toArray, List.set_cons_zero, List.set_cons_succ]
      refine takeV (i := 14) (v := ?_) rfl (by kernel_rfl) (by kernel_rfl) (by kernel_rfl) (fun _ _ _ h => h) (by rfl) (by assumption) ?_ ?_
      rotate_left
      · (intro w0 hSw; (try dsimp only at hSw); obtain ⟨sx0, sx1, sx2, sy0, sy1, sy2⟩ := hSw; go_simp; try (with_reducible rfl))
      try simp only [Act.put, List.setIfInBounds_toArray, List.set_cons_zero, List.set_cons_succ]
      refine takeV (i := 15) (v := ?_) rfl (by kernel_rfl) (by kernel_rfl) (by kernel_rfl) (fun _ _ _ h => h) (by rfl) (by assumption) ?_ ?_
      rotate_left
      · (intro w0 hSw; (try dsimp only at hSw); obtain ⟨sx0, sx1, sx2, sy0, sy1, sy2⟩ := hSw; go_simp; try (with_reducible rfl))
      try simp only [Act.put, List.setIfInBounds_toArray, List.set_cons_zero, List.set_cons_succ]
      refine takeV (i := 16) (v := ?_) rfl (by kernel_rfl) (by kernel_rfl) (by kernel_rfl) (fun _ _ _ h => h) (by rfl) (by assumption) ?_ ?_
      rotate_left
      · (intro w0 hSw; (try dsimp only at hSw); obtain ⟨sx0, sx1, sx2, sy0, sy1, sy2⟩ := hSw; go_simp; try (with_reducible rfl))
      try simp only [Act.put, List.setIfInBounds_toArray, List.set_cons_zero, List.set_cons_succ]
      refine takeV (i := 17) (v := ?_) rfl (by kernel_rfl) (by kernel_rfl) (by kernel_rfl) (fun _ _ _ h => h) (by rfl) (by assumption) ?_ ?_
      rotate_left
      · (intro w0 hSw; (try dsimp only at hSw); obtain ⟨sx0, sx1, sx2, sy0, sy1, sy2⟩ := hSw; go_simp; try (with_reducible rfl))
      try simp only [Act.put, List.setIfInBounds_toArray, List.set_cons_zero, List.set_cons_succ]
      refine takeV (i := 18) (v := ?_) rfl (by kernel_rfl) (by kernel_rfl) (by kernel_rfl) (fun _ _ _ h => h) (by rfl) (by assumption) ?_ ?_
      rotate_left
      · (intro w0 hSw; (try dsimp only at hSw); obtain ⟨sx0, sx1, sx2, sy0, sy1, sy2⟩ := hSw; go_simp; try (with_reducible rfl))
      try simp only [Act.put, List.setIfInBounds_toArray, List.set_cons_zero, List.set_cons_succ]
      refine takeV (i := 19) (v := ?_) rfl (by kernel_rfl) (by kernel_rfl) (by kernel_rfl) (fun _ _ _ h => h) (by rfl) (by assumption) ?_ ?_
      rotate_left
      · (intro w0 hSw; (try dsimp only at hSw); obtain ⟨sx0, sx1, sx2, sy0, sy1, sy2⟩ := hSw; go_simp; try (with_reducible rfl))
      try simp only [Act.put, List.setIfInBounds_toArray, List.set_cons_zero, List.set_cons_succ]
      refine takeV (i := 20) (v := ?_) rfl (by kernel_rfl) (by kernel_rfl) (by kernel_rfl) (fun _ _ _ h => h) (by rfl) (by assumption) ?_ ?_
      rotate_left
      · (intro w0 hSw; (try dsimp only at hSw); obtain ⟨sx0, sx1, sx2, sy0, sy1, sy2⟩ := hSw; go_simp; try (with_reducible rfl))
      try simp only [Act.put, List.setIfInBounds_toArray, List.set_cons_zero, List.set_cons_succ]
      refine takeV (i := 21) (v := ?_) rfl (by kernel_rfl) (by kernel_rfl) (by kernel_rfl) (fun _ _ _ h => h) (by rfl) (by assumption) ?_ ?_
      rotate_left
      · (intro w0 hSw; (try dsimp only at hSw); obtain ⟨sx0, sx1, sx2, sy0, sy1, sy2⟩ := hSw; go_simp; try (with_reducible rfl))
      try simp only [Act.put, List.setIfInBounds_toArray, List.set_cons_zero, List.set_cons_succ]
      refine takeV (i := 22) (v := ?_) rfl (by kernel_rfl) (by kernel_rfl) (by kernel_rfl) (fun _ _ _ h => h) (by rfl) (by assumption) ?_ ?_
      rotate_left
      · (intro w0 hSw; (try dsimp only at hSw); obtain ⟨sx0, sx1, sx2, sy0, sy1, sy2⟩ := hSw; go_simp; try (with_reducible rfl))
      try simp only [Act.put, List.setIfInBounds_toArray, List.set_cons_zero, List.set_cons_succ]
      refine takeV (i := 23) (v := ?_) rfl (by kernel_rfl) (by kernel_rfl) (by kernel_rfl) (fun _ _ _ h => h) (by rfl) (by assumption) ?_ ?_
      rotate_left
      · (intro w0 hSw; (try dsimp only at hSw); obtain ⟨sx0, sx1, sx2, sy0, sy1, sy2⟩ := hSw; go_simp; try (with_reducible rfl))
      try simp only [Act.put, List.setIfInBounds_toArray, List.set_cons_zero, List.set_cons_succ]
      refine takeV (i := 24) (v := ?_) rfl (by kernel_rfl) (by kernel_rfl) (by kernel_rfl) (fun _ _ _ h => h) (by rfl) (by assumption) ?_ ?_
      rotate_left
      · (intro w0 hSw; (try dsimp only at hSw); obtain ⟨sx0, sx1, sx2, sy0, sy1, sy2⟩ := hSw; go_simp; try (with_reducible rfl))
      try simp only [Act.put, List.setIfInBounds_toArray, List.set_cons_zero, List.set_cons_succ]
      refine takeV (i := 25) (v := ?_) rfl (by kernel_rfl) (by kernel_rfl) (by kernel_rfl) (fun _ _ _ h => h) (by rfl) (by assumption) ?_ ?_
      rotate_left
      · (intro w0 hSw; (try dsimp only at hSw); obtain ⟨sx0, sx1, sx2, sy0, sy1, sy2⟩ := hSw; go_simp; try (with_reducible rfl))
      try simp only [Act.put, List.setIfInBounds_toArray, List.set_cons_zero, List.set_cons_succ]
      refine takeV (i := 26) (v := ?_) rfl (by kernel_rfl) (by kernel_rfl) (by kernel_rfl) (fun _ _ _ h => h) (by rfl) (by assumption) ?_ ?_
      rotate_left
      · (intro w0 hSw; (try dsimp only at hSw); obtain ⟨sx0, sx1, sx2, sy0, sy1, sy2⟩ := hSw; go_simp; try (with_reducible rfl))
      try simp only [Act.put, List.setIfInBounds_toArray, List.set_cons_zero, List.set_cons_succ]
      refine takeV (i := 27) (v := ?_) rfl (by kernel_rfl) (by kernel_rfl) (by kernel_rfl) (fun _ _ _ h => h) (by rfl) (by assumption) ?_ ?_
      rotate_left
      · (intro w0 hSw; (try dsimp only at hSw); obtain ⟨sx0, sx1, sx2, sy0, sy1, sy2⟩ := hSw; go_simp; try (with_reducible rfl))
      try simp only [Act.put, List.setIfInBounds_toArray, List.set_cons_zero, List.set_cons_succ]
      refine takeV (i := 28) (v := ?_) rfl (by kernel_rfl) (by kernel_rfl) (by kernel_rfl) (fun _ _ _ h => h) (by rfl) (by assumption) ?_ ?_
      rotate_left
      · (intro w0 hSw; (try dsimp only at hSw); obtain ⟨sx0, sx1, sx2, sy0, sy1, sy2⟩ := hSw; go_simp; try (with_reducible rfl))
      try simp only [Act.put, List.setIfInBounds_toArray, List.set_cons_zero, List.set_cons_succ]
      refine takeV (i := 29) (v := ?_) rfl (by kernel_rfl) (by kernel_rfl) (by kernel_rfl) (fun _ _ _ h => h) (by rfl) (by assumption) ?_ ?_
      rotate_left
      · (intro w0 hSw; (try dsimp only at hSw); obtain ⟨sx0, sx1, sx2, sy0, sy1, sy2⟩ := hSw; go_simp; try (with_reducible rfl))
      try simp only [Act.put, List.setIfInBounds_toArray, List.set_cons_zero, List.set_cons_succ]
      refine takeV (i := 30) (v := ?_) rfl (by kernel_rfl) (by kernel_rfl) (by kernel_rfl) (fun _ _ _ h => h) (by rfl) (by assumption) ?_ ?_
      rotate_left
      · (intro w0 hSw; (try dsimp only at hSw); obtain ⟨sx0, sx1, sx2, sy0, sy1, sy2⟩ := hSw; go_simp; try (with_reducible rfl))
      try simp only [Act.put, List.setIfInBounds_toArray, List.set_cons_zero, List.set_cons_succ]
      refine takeV (i := 31) (v := ?_) rfl (by kernel_rfl) (by kernel_rfl) (by kernel_rfl) (fun _ _ _ h => h) (by rfl) (by assumption) ?_ ?_
      rotate_left
      · (intro w0 hSw; (try dsimp only at hSw); obtain ⟨sx0, sx1, sx2, sy0, sy1, sy2⟩ := hSw; go_simp; try (with_reducible rfl))
      try simp only [Act.put, List.setIfInBounds_toArray, List.set_cons_zero, List.set_cons_succ]
      refine takeV (i := 32) (v := ?_) rfl (by kernel_rfl) (by kernel_rfl) (by kernel_rfl) (fun _ _ _ h => h) (by rfl) (by assumption) ?_ ?_
      rotate_left
      · (intro w0 hSw; (try dsimp only at hSw); obtain ⟨sx0, sx1, sx2, sy0, sy1, sy2⟩ := hSw; go_simp; try (with_reducible rfl))
      try simp only [Act.put, List.setIfInBounds_toArray, List.set_cons_zero, List.set_cons_succ]
      refine takeV (i := 33) (v := ?_) rfl (by kernel_rfl) (by kernel_rfl) (by kernel_rfl) (fun _ _ _ h => h) (by rfl) (by assumption) ?_ ?_
      rotate_left
      · (intro w0 hSw; (try dsimp only at hSw); obtain ⟨sx0, sx1, sx2, sy0, sy1, sy2⟩ := hSw; go_simp; try (with_reducible rfl))
      try simp only [Act.put, List.setIfInBounds_toArray, List.set_cons_zero, List.set_cons_succ]
      refine takeV (i := 34) (v := ?_) rfl (by kernel_rfl) (by kernel_rfl) (by kernel_rfl) (fun _ _ _ h => h) (by rfl) (by assumption) ?_ ?_
      rotate_left
      · (intro w0 hSw; (try dsimp only at hSw); obtain ⟨sx0, sx1, sx2, sy0, sy1, sy2⟩ := hSw; go_simp; try (with_reducible rfl))
      try simp only [Act.put, List.setIfInBounds_toArray, List.set_cons_zero, List.set_cons_succ]
      refine takeV (i := 35) (v := ?_) rfl (by kernel_rfl) (by kernel_rfl) (by kernel_rfl) (fun _ _ _ h => h) (by rfl) (by assumption) ?_ ?_
      rotate_left
      · (intro w0 hSw; (try dsimp only at hSw); obtain ⟨sx0, sx1, sx2, sy0, sy1, sy2⟩ := hSw; go_simp; try (with_reducible rfl))
      try simp only [Act.put, List.setIfInBounds_toArray, List.set_cons_zero, List.set_cons_succ]
      refine takeV (i := 36) (v := ?_) rfl (by kernel_rfl) (by kernel_rfl) (by kernel_rfl) (fun _ _ _ h => h) (by rfl) (by assumption) ?_ ?_
      rotate_left
      · (intro w0 hSw; (try dsimp only at hSw); obtain ⟨sx0, sx1, sx2, sy0, sy1, sy2⟩ := hSw; go_simp; try (with_reducible rfl))
      try simp only [Act.put, List.setIfInBounds_toArray, List.set_cons_zero, List.set_cons_succ]
      refine takeV (i := 37) (v := ?_) rfl (by kernel_rfl) (by kernel_rfl) (by kernel_rfl) (fun _ _ _ h => h) (by rfl) (by assumption) ?_ ?_
      rotate_left
      · (intro w0 hSw; (try dsimp only at hSw); obtain ⟨sx0, sx1, sx2, sy0, sy1, sy2⟩ := hSw; go_simp; try (with_reducible rfl))
      try simp only [Act.put, List.setIfInBounds_toArray, List.set_cons_zero, List.set_cons_succ]
      refine takeV (i := 38) (v := ?_) rfl (by kernel_rfl) (by kernel_rfl) (by kernel_rfl) (fun _ _ _ h => h) (by rfl) (by assumption) ?_ ?_
      rotate_left
      · (intro w0 hSw; (try dsimp only at hSw); obtain ⟨sx0, sx1, sx2, sy0, sy1, sy2⟩ := hSw; go_simp; try (with_reducible rfl))
      try simp only [Act.put, List.setIfInBounds_toArray, List.set_cons_zero, List.set_cons_succ]
      refine takeV (i := 39) (v := ?_) rfl (by kernel_rfl) (by kernel_rfl) (by kernel_rfl) (fun _ _ _ h => h) (by rfl) (by assumption) ?_ ?_
      rotate_left
      · (intro w0 hSw; (try dsimp only at hSw); obtain ⟨sx0, sx1, sx2, sy0, sy1, sy2⟩ := hSw; go_simp; try (with_reducible rfl))
      try simp only [Act.put, List.setIfInBounds_toArray, List.set_cons_zero, List.set_cons_succ]
      refine takeV (i := 40) (v := ?_) rfl (by kernel_rfl) (by kernel_rfl) (by kernel_rfl) (fun _ _ _ h => h) (by rfl) (by assumption) ?_ ?_
      rotate_left
      · (intro w0 hSw; (try dsimp only at hSw); obtain ⟨sx0, sx1, sx2, sy0, sy1, sy2⟩ := hSw; go_simp; try (with_reducible rfl))
      try simp only [Act.put, List.setIfInBounds_toArray, List.set_cons_zero, List.set_cons_succ]
      refine takeV (i := 41) (v := ?_) rfl (by kernel_rfl) (by kernel_rfl) (by kernel_rfl) (fun _ _ _ h => h) (by rfl) (by assumption) ?_ ?_
      rotate_left
      · (intro w0 hSw; (try dsimp only at hSw); obtain ⟨sx0, sx1, sx2, sy0, sy1, sy2⟩ := hSw; go_simp; try (with_reducible rfl))
      try simp only [Act.put, List.setIfInBounds_toArray, List.set_cons_zero, List.set_cons_succ]
      refine takeV (i := 43) (v := ?_) rfl (by kernel_rfl) (by kernel_rfl) (by kernel_rfl) (fun _ _ _ h => h) (by rfl) (by assumption) ?_ ?_
      rotate_left
      · (intro w0 hSw; (try dsimp only at hSw); obtain ⟨sx0, sx1, sx2, sy0, sy1, sy2⟩ := hSw; go_simp; try (with_reducible rfl))
      try simp only [Act.put, List.setIfInBounds_toArray, List.set_cons_zero, List.set_cons_succ]
      refine takeV (i := 44) (v := ?_) rfl (by kernel_rfl) (by kernel_rfl) (by kernel_rfl) (fun _ _ _ h => h) (by rfl) (by assumption) ?_ ?_
      rotate_left
      · (intro w0 hSw; (try dsimp only at hSw); obtain ⟨sx0, sx1, sx2, sy0, sy1, sy2⟩ := hSw; go_simp; try (with_reducible rfl))
      try simp only [Act.put, List.setIfInBounds_toArray, List.set_cons_zero, List.set_cons_succ]
      refine stepOne (i := 42) rfl (by kernel_rfl) (fun K hK => ?_)
      go_simp
      (go_at_call 17; refine (HN.out _ _ _ _ (by first | exact H9.out | exact H9.out.on (Below.refl _ _).drew)).mono ?_; rintro e wA ⟨rfl, hm⟩; have HA := rhide hm; clear hm HN H9 x0 x1 x2 y0 y1 y2; have y0 := HA.out.first.c0; have y1 := HA.out.first.c1; have y2 := HA.out.first.c2; have x0 := HA.out.second.c0; have x1 := HA.out.second.c1; have x2 := HA.out.second.c2)
      go_wp2_with fail
      refine hK.out _ _ ?_ (fun hHeld => ?_)
      · (first | (refine ⟨?_, ?_, ?_, ?_, ?_, ?_⟩ <;> with_reducible assumption) | go_keep)
      clear hK K
      try simp only [Act.put, List.setIfInBounds_toArray, List.set_cons_zero, List.set_cons_succ]
      refine takeV (i := 45) (v := ?_) rfl (by kernel_rfl) (by kernel_rfl) (by kernel_rfl) (fun _ _ _ h => h) (by rfl) (by assumption) ?_ ?_
      rotate_left
      · (intro w0 hSw; (try dsimp only at hSw); obtain ⟨sx0, sx1, sx2, sy0, sy1, sy2⟩ := hSw; go_simp; try (with_reducible rfl))
      try simp only [Act.put, List.setIfInBounds_toArray, List.set_cons_zero, List.set_cons_succ]
      refine takeV (i := 46) (v := ?_) rfl (by kernel_rfl) (by kernel_rfl) (by kernel_rfl) (fun _ _ _ h => h) (by rfl) (by assumption) ?_ ?_
      rotate_left
      · (intro w0 hSw; (try dsimp only at hSw); obtain ⟨sx0, sx1, sx2, sy0, sy1, sy2⟩ := hSw; go_simp; try (with_reducible rfl))
      try simp only [Act.put, List.setIfInBounds_toArray, List.set_cons_zero, List.set_cons_succ]
      refine takeV (i := 47) (v := ?_) rfl (by kernel_rfl) (by kernel_rfl) (by kernel_rfl) (fun _ _ _ h => h) (by rfl) (by assumption) ?_ ?_
      rotate_left
      · (intro w0 hSw; (try dsimp only at hSw); obtain ⟨sx0, sx1, sx2, sy0, sy1, sy2⟩ := hSw; go_simp; try (with_reducible rfl))
      try simp only [Act.put, List.setIfInBounds_toArray, List.set_cons_zero, List.set_cons_succ]
      refine takeV (i := 48) (v := ?_) rfl (by kernel_rfl) (by kernel_rfl) (by kernel_rfl) (fun _ _ _ h => h) (by rfl) (by assumption) ?_ ?_
      rotate_left
      · (intro w0 hSw; (try dsimp only at hSw); obtain ⟨sx0, sx1, sx2, sy0, sy1, sy2⟩ := hSw; go_simp; try (with_reducible rfl))
      try simp only [Act.put, List.setIfInBounds_toArray, List.set_cons_zero, List.set_cons_succ]
      refine takeV (i := 49) (v := ?_) rfl (by kernel_rfl) (by kernel_rfl) (by kernel_rfl) (fun _ _ _ h => h) (by rfl) (by assumption) ?_ ?_
      rotate_left
      · (intro w0 hSw; (try dsimp only at hSw); obtain ⟨sx0, sx1, sx2, sy0, sy1, sy2⟩ := hSw; go_simp; try (with_reducible rfl))
      try simp only [Act.put, List.setIfInBounds_toArray, List.set_cons_zero, List.set_cons_succ]
      refine takeV (i := 50) (v := ?_) rfl (by kernel_rfl) (by kernel_rfl) (by kernel_rfl) (fun _ _ _ h => h) (by rfl) (by assumption) ?_ ?_
      rotate_left
      · (intro w0 hSw; (try dsimp only at hSw); obtain ⟨sx0, sx1, sx2, sy0, sy1, sy2⟩ := hSw; go_simp; try (with_reducible rfl))
      try simp only [Act.put, List.setIfInBounds_toArray, List.set_cons_zero, List.set_cons_succ]
      refine takeV (i := 51) (v := ?_) rfl (by kernel_rfl) (by kernel_rfl) (by kernel_rfl) (fun _ _ _ h => h) (by rfl) (by assumption) ?_ ?_
      rotate_left
      · (intro w0 hSw; (try dsimp only at hSw); obtain ⟨sx0, sx1, sx2, sy0, sy1, sy2⟩ := hSw; go_simp; try (with_reducible rfl))
      try simp only [Act.put, List.setIfInBounds_toArray, List.set_cons_zero, List.set_cons_succ]
      refine takeV (i := 52) (v := ?_) rfl (by kernel_rfl) (by kernel_rfl) (by kernel_rfl) (fun _ _ _ h => h) (by rfl) (by assumption) ?_ ?_
      rotate_left
      · (intro w0 hSw; (try dsimp only at hSw); obtain ⟨sx0, sx1, sx2, sy0, sy1, sy2⟩ := hSw; go_simp; try (with_reducible rfl))
      try simp only [Act.put, List.setIfInBounds_toArray, List.set_cons_zero, List.set_cons_succ]
      refine stepOne (i := 53) rfl (by kernel_rfl) (fun K hK => ?_)
      go_simp
      (go_at_call 24; refine (HP.out.awake _ (by first | exact HA.out.below | exact HA.out.below.drew)).mono ?_; rintro e wB ⟨rfl, hb⟩; have HB := rhide (HA.out.on hb); clear hb HA x0 x1 x2 y0 y1 y2; have y0 := HB.out.first.c0; have y1 := HB.out.first.c1; have y2 := HB.out.first.c2; have x0 := HB.out.second.c0; have x1 := HB.out.second.c1; have x2 := HB.out.second.c2)
      go_wp2_with fail
      refine hK.out _ _ ?_ (fun hHeld => ?_)
      · (first | (refine ⟨?_, ?_, ?_, ?_, ?_, ?_⟩ <;> with_reducible assumption) | go_keep)
      clear hK K
      try simp only [Act.put, List.setIfInBounds_toArray, List.set_cons_zero, List.set_cons_succ]
      refine takeV (i := 54) (v := ?_) rfl (by kernel_rfl) (by kernel_rfl) (by kernel_rfl) (fun _ _ _ h => h) (by rfl) (by assumption) ?_ ?_
      rotate_left
      · (intro w0 hSw; (try dsimp only at hSw); obtain ⟨sx0, sx1, sx2, sy0, sy1, sy2⟩ := hSw; go_simp; try (with_reducible rfl))
      try simp only [Act.put, List.setIfInBounds_toArray, List.set_cons_zero, List.set_cons_succ]
      refine takeV (i := 55) (v := ?_) rfl (by kernel_rfl) (by kernel_rfl) (by kernel_rfl) (fun _ _ _ h => h) (by rfl) (by assumption) ?_ ?_
      rotate_left
      · (intro w0 hSw; (try dsimp only at hSw); obtain ⟨sx0, sx1, sx2, sy0, sy1, sy2⟩ := hSw; go_simp; try (with_reducible rfl))
      try simp only [Act.put, List.setIfInBounds_toArray, List.set_cons_zero, List.set_cons_succ]
      refine wpAnyH_done (by kernel_rfl) ?_ _
      go_wp2
      go_ret
      exact ⟨rfl, HB.out.below⟩
    · have bp : (xp == xp) = true := by simp
      have hw : IntKind.i64.wrap (xl - k) = 0 := by rw [IntKind.wrap_i64]; omega
      have hw' : wrap64 (xl - k) = 0 := by unfold wrap64; omega
      clear c1
      have x0 : v9.cell? ⟨Dx, 0, none⟩ = some (.bool false) := H9.out.second.c0
      have x1 : v9.cell? ⟨Dx, 1, none⟩ = some (.int .i64 xl) := H9.out.second.c1
      have x2 : v9.cell? ⟨Dx, 2, none⟩ = some (.int .i64 xp) := H9.out.second.c2
      have y0 : v9.cell? ⟨Dy, 0, none⟩ = some (.bool false) := H9.out.first.c0
      have y1 : v9.cell? ⟨Dy, 1, none⟩ = some (.int .i64 0) := H9.out.first.c1
      have y2 : v9.cell? ⟨Dy, 2, none⟩ = some (.int .i64 xp) := H9.out.first.c2
      go_upto_region 16 with fail
      refine wp_region_held_drew (S := (fun w' => w'.cell? ⟨Dx, 0, none⟩ = some (.bool false) ∧ w'.cell? ⟨Dx, 1, none⟩ = some (.int .i64 xl) ∧ w'.cell? ⟨Dx, 2, none⟩ = some (.int .i64 xp) ∧ w'.cell? ⟨Dy, 0, none⟩ = some (.bool false) ∧ w'.cell? ⟨Dy, 1, none⟩ = some (.int .i64 0) ∧ w'.cell? ⟨Dy, 2, none⟩ = some (.int .i64 xp))) (by kernel_rfl) ?_ (fun hHeld => ?_)
      · (first | (refine ⟨?_, ?_, ?_, ?_, ?_, ?_⟩ <;> with_reducible assumption) | go_keep)
      refine takeV (i := 0) (v := ?_) rfl (by kernel_rfl) (by kernel_rfl) (by kernel_rfl) (fun _ _ _ h => h) (by rfl) (by assumption) ?_ ?_
      rotate_left
      · (intro w0 hSw; (try dsimp only at hSw); obtain ⟨sx0, sx1, sx2, sy0, sy1, sy2⟩ := hSw; go_simp; try (with_reducible rfl))
      try simp only [Act.put, List.setIfInBounds_toArray, List.set_cons_zero, List.set_cons_succ]
      refine takeV (i := 1) (v := ?_) rfl (by kernel_rfl) (by kernel_rfl) (by kernel_rfl) (fun _ _ _ h => h) (by rfl) (by assumption) ?_ ?_
      rotate_left
      · (intro w0 hSw; (try dsimp only at hSw); obtain ⟨sx0, sx1, sx2, sy0, sy1, sy2⟩ := hSw; go_simp; try (with_reducible rfl))
      try simp only [Act.put, List.setIfInBounds_toArray, List.set_cons_zero, List.set_cons_succ]
      refine takeV (i := 2) (v := ?_) rfl (by kernel_rfl) (by kernel_rfl) (by kernel_rfl) (fun _ _ _ h => h) (by rfl) (by assumption) ?_ ?_
      rotate_left
      · (intro w0 hSw; (try dsimp only at hSw); obtain ⟨sx0, sx1, sx2, sy0, sy1, sy2⟩ := hSw; go_simp; try (with_reducible rfl))
      try simp only [Act.put, List.setIfInBounds_toArray, List.set_cons_zero, List.set_cons_succ]
      refine takeU (i := 3) rfl (by kernel_rfl) (by kernel_rfl) (by kernel_rfl) (fun _ _ _ h => h) (by rfl) (by assumption) ?_
      try simp only [Act.put, List.setIfInBounds_toArray, List.set_cons_zero, List.set_cons_succ]
      refine takeU (i := 4) rfl (by kernel_rfl) (by kernel_rfl) (by kernel_rfl) (fun _ _ _ h => h) (by rfl) (by assumption) ?_
      try simp only [Act.put, List.setIfInBounds_toArray, List.set_cons_zero, List.set_cons_succ]
      refine takeU (i := 5) rfl (by kernel_rfl) (by kernel_rfl) (by kernel_rfl) (fun _ _ _ h => h) (by rfl) (by assumption) ?_
      try simp only [Act.put, List.setIfInBounds_toArray, List.set_cons_zero, List.set_cons_succ]
      refine takeV (i := 6) (v := ?_) rfl (by kernel_rfl) (by kernel_rfl) (by kernel_rfl) (fun _ _ _ h => h) (by rfl) (by assumption) ?_ ?_
      rotate_left
      · (intro w0 hSw; (try dsimp only at hSw); obtain ⟨sx0, sx1, sx2, sy0, sy1, sy2⟩ := hSw; go_simp; try (with_reducible rfl))
      try simp only [Act.put, List.setIfInBounds_toArray, List.set_cons_zero, List.set_cons_succ]
      refine takeV (i := 7) (v := ?_) rfl (by kernel_rfl) (by kernel_rfl) (by kernel_rfl) (fun _ _ _ h => h) (by rfl) (by assumption) ?_ ?_
      rotate_left
      · (intro w0 hSw; (try dsimp only at hSw); obtain ⟨sx0, sx1, sx2, sy0, sy1, sy2⟩ := hSw; go_simp; try (with_reducible rfl))
      try simp only [Act.put, List.setIfInBounds_toArray, List.set_cons_zero, List.set_cons_succ]
      refine takeU (i := 8) rfl (by kernel_rfl) (by kernel_rfl) (by kernel_rfl) (fun _ _ _ h => h) (by rfl) (by assumption) ?_
      try simp only [Act.put, List.setIfInBounds_toArray, List.set_cons_zero, List.set_cons_succ]
      refine takeU (i := 9) rfl (by kernel_rfl) (by kernel_rfl) (by kernel_rfl) (fun _ _ _ h => h) (by rfl) (by assumption) ?_
      try simp only [Act.put, List.setIfInBounds_toArray, List.set_cons_zero, List.set_cons_succ]
      refine takeV (i := 10) (v := ?_) rfl (by kernel_rfl) (by kernel_rfl) (by kernel_rfl) (fun _ _ _ h => h) (by rfl) (by assumption) ?_ ?_
      rotate_left
      · (intro w0 hSw; (try dsimp only at hSw); obtain ⟨sx0, sx1, sx2, sy0, sy1, sy2⟩ := hSw; go_simp; try (with_reducible rfl))
      try simp only [Act.put, List.setIfInBounds_toArray, List.set_cons_zero, List.set_cons_succ]
      refine takeV (i := 11) (v := ?_) rfl (by kernel_rfl) (by kernel_rfl) (by kernel_rfl) (fun _ _ _ h => h) (by rfl) (by assumption) ?_ ?_
      rotate_left
      · (intro w0 hSw; (try dsimp only at hSw); obtain ⟨sx0, sx1, sx2, sy0, sy1, sy2⟩ := hSw; go_simp; try (with_reducible rfl))
      try simp only [Act.put, List.setIfInBounds_toArray, List.set_cons_zero, List.set_cons_succ]
      refine takeV (i := 12) (v := ?_) rfl (by kernel_rfl) (by kernel_rfl) (by kernel_rfl) (fun _ _ _ h => h) (by rfl) (by assumption) ?_ ?_
      rotate_left
      · (intro w0 hSw; (try dsimp only at hSw); obtain ⟨sx0, sx1, sx2, sy0, sy1, sy2⟩ := hSw; go_simp; try (with_reducible rfl))
      try simp only [Act.put, List.setIfInBounds_toArray, List.set_cons_zero, List.set_cons_succ]
      refine takeV (i := 13) (v := ?_) rfl (by kernel_rfl) (by kernel_rfl) (by kernel_rfl) (fun _ _ _ h => h) (by rfl) (by assumption) ?_ ?_
      rotate_left
      · (intro w0 hSw; (try dsimp only at hSw); obtain ⟨sx0, sx1, sx2, sy0, sy1, sy2⟩ := hSw; go_simp; try (with_reducible rfl))
      try simp only [Act.put, List.setIfInBounds_toArray, List.set_cons_zero, List.set_cons_succ]
      refine takeV (i := 14) (v := ?_) rfl (by kernel_rfl) (by kernel_rfl) (by kernel_rfl) (fun _ _ _ h => h) (by rfl) (by assumption) ?_ ?_
      rotate_left
      · (intro w0 hSw; (try dsimp only at hSw); obtain ⟨sx0, sx1, sx2, sy0, sy1, sy2⟩ := hSw; go_simp; try (with_reducible rfl))
      try simp only [Act.put, List.setIfInBounds_toArray, List.set_cons_zero, List.set_cons_succ]
      refine takeV (i := 15) (v := ?_) rfl (by kernel_rfl) (by kernel_rfl) (by kernel_rfl) (fun _ _ _ h => h) (by rfl) (by assumption) ?_ ?_
      rotate_left
      · (intro w0 hSw; (try dsimp only at hSw); obtain ⟨sx0, sx1, sx2, sy0, sy1, sy2⟩ := hSw; go_simp; try (with_reducible rfl))
      try simp only [Act.put, List.setIfInBounds_toArray, List.set_cons_zero, List.set_cons_succ]
      refine takeV (i := 16) (v := ?_) rfl (by kernel_rfl) (by kernel_rfl) (by kernel_rfl) (fun _ _ _ h => h) (by rfl) (by assumption) ?_ ?_
      rotate_left
      · (intro w0 hSw; (try dsimp only at hSw); obtain ⟨sx0, sx1, sx2, sy0, sy1, sy2⟩ := hSw; go_simp; try (with_reducible rfl))
      try simp only [Act.put, List.setIfInBounds_toArray, List.set_cons_zero, List.set_cons_succ]
      refine takeV (i := 17) (v := ?_) rfl (by kernel_rfl) (by kernel_rfl) (by kernel_rfl) (fun _ _ _ h => h) (by rfl) (by assumption) ?_ ?_
      rotate_left
      · (intro w0 hSw; (try dsimp only at hSw); obtain ⟨sx0, sx1, sx2, sy0, sy1, sy2⟩ := hSw; go_simp; try (with_reducible rfl))
      try simp only [Act.put, List.setIfInBounds_toArray, List.set_cons_zero, List.set_cons_succ]
      refine takeV (i := 18) (v := ?_) rfl (by kernel_rfl) (by kernel_rfl) (by kernel_rfl) (fun _ _ _ h => h) (by rfl) (by assumption) ?_ ?_
      rotate_left
      · (intro w0 hSw; (try dsimp only at hSw); obtain ⟨sx0, sx1, sx2, sy0, sy1, sy2⟩ := hSw; go_simp; try (with_reducible rfl))
      try simp only [Act.put, List.setIfInBounds_toArray, List.set_cons_zero, List.set_cons_succ]
      refine takeV (i := 19) (v := ?_) rfl (by kernel_rfl) (by kernel_rfl) (by kernel_rfl) (fun _ _ _ h => h) (by rfl) (by assumption) ?_ ?_
      rotate_left
      · (intro w0 hSw; (try dsimp only at hSw); obtain ⟨sx0, sx1, sx2, sy0, sy1, sy2⟩ := hSw; go_simp; try (with_reducible rfl))
      try simp only [Act.put, List.setIfInBounds_toArray, List.set_cons_zero, List.set_cons_succ]
      refine takeV (i := 20) (v := ?_) rfl (by kernel_rfl) (by kernel_rfl) (by kernel_rfl) (fun _ _ _ h => h) (by rfl) (by assumption) ?_ ?_
      rotate_left
      · (intro w0 hSw; (try dsimp only at hSw); obtain ⟨sx0, sx1, sx2, sy0, sy1, sy2⟩ := hSw; go_simp; try (with_reducible rfl))
      try simp only [Act.put, List.setIfInBounds_toArray, List.set_cons_zero, List.set_cons_succ]
      refine takeV (i := 21) (v := ?_) rfl (by kernel_rfl) (by kernel_rfl) (by kernel_rfl) (fun _ _ _ h => h) (by rfl) (by assumption) ?_ ?_
      rotate_left
      · (intro w0 hSw; (try dsimp only at hSw); obtain ⟨sx0, sx1, sx2, sy0, sy1, sy2⟩ := hSw; go_simp; try (with_reducible rfl))
      try simp only [Act.put, List.setIfInBounds_toArray, List.set_cons_zero, List.set_cons_succ]
      refine takeV (i := 22) (v := ?_) rfl (by kernel_rfl) (by kernel_rfl) (by kernel_rfl) (fun _ _ _ h => h) (by rfl) (by assumption) ?_ ?_
      rotate_left
      · (intro w0 hSw; (try dsimp only at hSw); obtain ⟨sx0, sx1, sx2, sy0, sy1, sy2⟩ := hSw; go_simp; try (with_reducible rfl))
      try simp only [Act.put, List.setIfInBounds_toArray, List.set_cons_zero, List.set_cons_succ]
      refine takeV (i := 23) (v := ?_) rfl (by kernel_rfl) (by kernel_rfl) (by kernel_rfl) (fun _ _ _ h => h) (by rfl) (by assumption) ?_ ?_
      rotate_left
      · (intro w0 hSw; (try dsimp only at hSw); obtain ⟨sx0, sx1, sx2, sy0, sy1, sy2⟩ := hSw; go_simp; try (with_reducible rfl))
      try simp only [Act.put, List.setIfInBounds_toArray, List.set_cons_zero, List.set_cons_succ]
      refine takeV (i := 24) (v := ?_) rfl (by kernel_rfl) (by kernel_rfl) (by kernel_rfl) (fun _ _ _ h => h) (by rfl) (by assumption) ?_ ?_
      rotate_left
      · (intro w0 hSw; (try dsimp only at hSw); obtain ⟨sx0, sx1, sx2, sy0, sy1, sy2⟩ := hSw; go_simp; try (with_reducible rfl))
      try simp only [Act.put, List.setIfInBounds_toArray, List.set_cons_zero, List.set_cons_succ]
      refine takeV (i := 25) (v := ?_) rfl (by kernel_rfl) (by kernel_rfl) (by kernel_rfl) (fun _ _ _ h => h) (by rfl) (by assumption) ?_ ?_
      rotate_left
      · (intro w0 hSw; (try dsimp only at hSw); obtain ⟨sx0, sx1, sx2, sy0, sy1, sy2⟩ := hSw; go_simp; try (with_reducible rfl))
      try simp only [Act.put, List.setIfInBounds_toArray, List.set_cons_zero, List.set_cons_succ]
      refine takeV (i := 26) (v := ?_) rfl (by kernel_rfl) (by kernel_rfl) (by kernel_rfl) (fun _ _ _ h => h) (by rfl) (by assumption) ?_ ?_
      rotate_left
      · (intro w0 hSw; (try dsimp only at hSw); obtain ⟨sx0, sx1, sx2, sy0, sy1, sy2⟩ := hSw; go_simp; try (with_reducible rfl))
      try simp only [Act.put, List.setIfInBounds_toArray, List.set_cons_zero, List.set_cons_succ]
      refine takeV (i := 27) (v := ?_) rfl (by kernel_rfl) (by kernel_rfl) (by kernel_rfl) (fun _ _ _ h => h) (by rfl) (by assumption) ?_ ?_
      rotate_left
      · (intro w0 hSw; (try dsimp only at hSw); obtain ⟨sx0, sx1, sx2, sy0, sy1, sy2⟩ := hSw; go_simp; try (with_reducible rfl))
      try simp only [Act.put, List.setIfInBounds_toArray, List.set_cons_zero, List.set_cons_succ]
      refine takeV (i := 28) (v := ?_) rfl (by kernel_rfl) (by kernel_rfl) (by kernel_rfl) (fun _ _ _ h => h) (by rfl) (by assumption) ?_ ?_
      rotate_left
      · (intro w0 hSw; (try dsimp only at hSw); obtain ⟨sx0, sx1, sx2, sy0, sy1, sy2⟩ := hSw; go_simp; try (with_reducible rfl))
      try simp only [Act.put, List.setIfInBounds_toArray, List.set_cons_zero, List.set_cons_succ]
      refine takeV (i := 29) (v := ?_) rfl (by kernel_rfl) (by kernel_rfl) (by kernel_rfl) (fun _ _ _ h => h) (by rfl) (by assumption) ?_ ?_
      rotate_left
      · (intro w0 hSw; (try dsimp only at hSw); obtain ⟨sx0, sx1, sx2, sy0, sy1, sy2⟩ := hSw; go_simp; try (with_reducible rfl))
      try simp only [Act.put, List.setIfInBounds_toArray, List.set_cons_zero, List.set_cons_succ]
      refine takeV (i := 30) (v := ?_) rfl (by kernel_rfl) (by kernel_rfl) (by kernel_rfl) (fun _ _ _ h => h) (by rfl) (by assumption) ?_ ?_
      rotate_left
      · (intro w0 hSw; (try dsimp only at hSw); obtain ⟨sx0, sx1, sx2, sy0, sy1, sy2⟩ := hSw; go_simp; try (with_reducible rfl))
      try simp only [Act.put, List.setIfInBounds_toArray, List.set_cons_zero, List.set_cons_succ]
      refine takeV (i := 31) (v := ?_) rfl (by kernel_rfl) (by kernel_rfl) (by kernel_rfl) (fun _ _ _ h => h) (by rfl) (by assumption) ?_ ?_
      rotate_left
      · (intro w0 hSw; (try dsimp only at hSw); obtain ⟨sx0, sx1, sx2, sy0, sy1, sy2⟩ := hSw; go_simp; try (with_reducible rfl))
      try simp only [Act.put, List.setIfInBounds_toArray, List.set_cons_zero, List.set_cons_succ]
      refine takeV (i := 32) (v := ?_) rfl (by kernel_rfl) (by kernel_rfl) (by kernel_rfl) (fun _ _ _ h => h) (by rfl) (by assumption) ?_ ?_
      rotate_left
      · (intro w0 hSw; (try dsimp only at hSw); obtain ⟨sx0, sx1, sx2, sy0, sy1, sy2⟩ := hSw; go_simp; try (with_reducible rfl))
      try simp only [Act.put, List.setIfInBounds_toArray, List.set_cons_zero, List.set_cons_succ]
      refine takeV (i := 33) (v := ?_) rfl (by kernel_rfl) (by kernel_rfl) (by kernel_rfl) (fun _ _ _ h => h) (by rfl) (by assumption) ?_ ?_
      rotate_left
      · (intro w0 hSw; (try dsimp only at hSw); obtain ⟨sx0, sx1, sx2, sy0, sy1, sy2⟩ := hSw; go_simp; try (with_reducible rfl))
      try simp only [Act.put, List.setIfInBounds_toArray, List.set_cons_zero, List.set_cons_succ]
      refine takeV (i := 34) (v := ?_) rfl (by kernel_rfl) (by kernel_rfl) (by kernel_rfl) (fun _ _ _ h => h) (by rfl) (by assumption) ?_ ?_
      rotate_left
      · (intro w0 hSw; (try dsimp only at hSw); obtain ⟨sx0, sx1, sx2, sy0, sy1, sy2⟩ := hSw; go_simp; try (with_reducible rfl))
      try simp only [Act.put, List.setIfInBounds_toArray, List.set_cons_zero, List.set_cons_succ]
      refine takeV (i := 35) (v := ?_) rfl (by kernel_rfl) (by kernel_rfl) (by kernel_rfl) (fun _ _ _ h => h) (by rfl) (by assumption) ?_ ?_
      rotate_left
      · (intro w0 hSw; (try dsimp only at hSw); obtain ⟨sx0, sx1, sx2, sy0, sy1, sy2⟩ := hSw; go_simp; try (with_reducible rfl))
      try simp only [Act.put, List.setIfInBounds_toArray, List.set_cons_zero, List.set_cons_succ]
      refine takeV (i := 36) (v := ?_) rfl (by kernel_rfl) (by kernel_rfl) (by kernel_rfl) (fun _ _ _ h => h) (by rfl) (by assumption) ?_ ?_
      rotate_left
      · (intro w0 hSw; (try dsimp only at hSw); obtain ⟨sx0, sx1, sx2, sy0, sy1, sy2⟩ := hSw; go_simp; try (with_reducible rfl))
      try simp only [Act.put, List.setIfInBounds_toArray, List.set_cons_zero, List.set_cons_succ]
      refine takeV (i := 37) (v := ?_) rfl (by kernel_rfl) (by kernel_rfl) (by kernel_rfl) (fun _ _ _ h => h) (by rfl) (by assumption) ?_ ?_
      rotate_left
      · (intro w0 hSw; (try dsimp only at hSw); obtain ⟨sx0, sx1, sx2, sy0, sy1, sy2⟩ := hSw; go_simp; try (with_reducible rfl))
      try simp only [Act.put, List.setIfInBounds_toArray, List.set_cons_zero, List.set_cons_succ]
      refine takeV (i := 38) (v := ?_) rfl (by kernel_rfl) (by kernel_rfl) (by kernel_rfl) (fun _ _ _ h => h) (by rfl) (by assumption) ?_ ?_
      rotate_left
      · (intro w0 hSw; (try dsimp only at hSw); obtain ⟨sx0, sx1, sx2, sy0, sy1, sy2⟩ := hSw; go_simp; try (with_reducible rfl))
      try simp only [Act.put, List.setIfInBounds_toArray, List.set_cons_zero, List.set_cons_succ]
      refine takeV (i := 39) (v := ?_) rfl (by kernel_rfl) (by kernel_rfl) (by kernel_rfl) (fun _ _ _ h => h) (by rfl) (by assumption) ?_ ?_
      rotate_left
      · (intro w0 hSw; (try dsimp only at hSw); obtain ⟨sx0, sx1, sx2, sy0, sy1, sy2⟩ := hSw; go_simp; try (with_reducible rfl))
      try simp only [Act.put, List.setIfInBounds_toArray, List.set_cons_zero, List.set_cons_succ]
      refine takeV (i := 40) (v := ?_) rfl (by kernel_rfl) (by kernel_rfl) (by kernel_rfl) (fun _ _ _ h => h) (by rfl) (by assumption) ?_ ?_
      rotate_left
      · (intro w0 hSw; (try dsimp only at hSw); obtain ⟨sx0, sx1, sx2, sy0, sy1, sy2⟩ := hSw; go_simp; try (with_reducible rfl))
      try simp only [Act.put, List.setIfInBounds_toArray, List.set_cons_zero, List.set_cons_succ]
      refine takeV (i := 41) (v := ?_) rfl (by kernel_rfl) (by kernel_rfl) (by kernel_rfl) (fun _ _ _ h => h) (by rfl) (by assumption) ?_ ?_
      rotate_left
      · (intro w0 hSw; (try dsimp only at hSw); obtain ⟨sx0, sx1, sx2, sy0, sy1, sy2⟩ := hSw; go_simp; try (with_reducible rfl))
      try simp only [Act.put, List.setIfInBounds_toArray, List.set_cons_zero, List.set_cons_succ]
      refine takeV (i := 43) (v := ?_) rfl (by kernel_rfl) (by kernel_rfl) (by kernel_rfl) (fun _ _ _ h => h) (by rfl) (by assumption) ?_ ?_
      rotate_left
      · (intro w0 hSw; (try dsimp only at hSw); obtain ⟨sx0, sx1, sx2, sy0, sy1, sy2⟩ := hSw; go_simp; try (with_reducible rfl))
      try simp only [Act.put, List.setIfInBounds_toArray, List.set_cons_zero, List.set_cons_succ]
      refine takeV (i := 44) (v := ?_) rfl (by kernel_rfl) (by kernel_rfl) (by kernel_rfl) (fun _ _ _ h => h) (by rfl) (by assumption) ?_ ?_
      rotate_left
      · (intro w0 hSw; (try dsimp only at hSw); obtain ⟨sx0, sx1, sx2, sy0, sy1, sy2⟩ := hSw; go_simp; try (with_reducible rfl))
      try simp only [Act.put, List.setIfInBounds_toArray, List.set_cons_zero, List.set_cons_succ]
      refine stepOne (i := 42) rfl (by kernel_rfl) (fun K hK => ?_)
      go_simp
      (go_at_call 17; refine (HN.out _ _ _ _ (by first | exact H9.out | exact H9.out.on (Below.refl _ _).drew)).mono ?_; rintro e wA ⟨rfl, hm⟩; have HA := rhide hm; clear hm HN H9 x0 x1 x2 y0 y1 y2; have y0 := HA.out.first.c0; have y1 := HA.out.first.c1; have y2 := HA.out.first.c2; have x0 := HA.out.second.c0; have x1 := HA.out.second.c1; have x2 := HA.out.second.c2)
      go_wp2_with fail
      refine hK.out _ _ ?_ (fun hHeld => ?_)
      · (first | (refine ⟨?_, ?_, ?_, ?_, ?_, ?_⟩ <;> with_reducible assumption) | go_keep)
      clear hK K
      try simp only [Act.put, List.setIfInBounds_toArray, List.set_cons_zero, List.set_cons_succ]
      refine takeV (i := 45) (v := ?_) rfl (by kernel_rfl) (by kernel_rfl) (by kernel_rfl) (fun _ _ _ h => h) (by rfl) (by assumption) ?_ ?_
      rotate_left
      · (intro w0 hSw; (try dsimp only at hSw); obtain ⟨sx0, sx1, sx2, sy0, sy1, sy2⟩ := hSw; go_simp; try (with_reducible rfl))
      try simp only [Act.put, List.setIfInBounds_toArray, List.set_cons_zero, List.set_cons_succ]
      refine takeV (i := 46) (v := ?_) rfl (by kernel_rfl) (by kernel_rfl) (by kernel_rfl) (fun _ _ _ h => h) (by rfl) (by assumption) ?_ ?_
      rotate_left
      · (intro w0 hSw; (try dsimp only at hSw); obtain ⟨sx0, sx1, sx2, sy0, sy1, sy2⟩ := hSw; go_simp; try (with_reducible rfl))
      try simp only [Act.put, List.setIfInBounds_toArray, List.set_cons_zero, List.set_cons_succ]
      refine takeV (i := 47) (v := ?_) rfl (by kernel_rfl) (by kernel_rfl) (by kernel_rfl) (fun _ _ _ h => h) (by rfl) (by assumption) ?_ ?_
      rotate_left
      · (intro w0 hSw; (try dsimp only at hSw); obtain ⟨sx0, sx1, sx2, sy0, sy1, sy2⟩ := hSw; go_simp; try (with_reducible rfl))
      try simp only [Act.put, List.setIfInBounds_toArray, List.set_cons_zero, List.set_cons_succ]
      refine takeV (i := 48) (v := ?_) rfl (by kernel_rfl) (by kernel_rfl) (by kernel_rfl) (fun _ _ _ h => h) (by rfl) (by assumption) ?_ ?_
      rotate_left
      · (intro w0 hSw; (try dsimp only at hSw); obtain ⟨sx0, sx1, sx2, sy0, sy1, sy2⟩ := hSw; go_simp; try (with_reducible rfl))
      try simp only [Act.put, List.setIfInBounds_toArray, List.set_cons_zero, List.set_cons_succ]
      refine takeV (i := 49) (v := ?_) rfl (by kernel_rfl) (by kernel_rfl) (by kernel_rfl) (fun _ _ _ h => h) (by rfl) (by assumption) ?_ ?_
      rotate_left
      · (intro w0 hSw; (try dsimp only at hSw); obtain ⟨sx0, sx1, sx2, sy0, sy1, sy2⟩ := hSw; go_simp; try (with_reducible rfl))
      try simp only [Act.put, List.setIfInBounds_toArray, List.set_cons_zero, List.set_cons_succ]
      refine takeV (i := 50) (v := ?_) rfl (by kernel_rfl) (by kernel_rfl) (by kernel_rfl) (fun _ _ _ h => h) (by rfl) (by assumption) ?_ ?_
      rotate_left
      · (intro w0 hSw; (try dsimp only at hSw); obtain ⟨sx0, sx1, sx2, sy0, sy1, sy2⟩ := hSw; go_simp; try (with_reducible rfl))
      try simp only [Act.put, List.setIfInBounds_toArray, List.set_cons_zero, List.set_cons_succ]
      refine takeV (i := 51) (v := ?_) rfl (by kernel_rfl) (by kernel_rfl) (by kernel_rfl) (fun _ _ _ h => h) (by rfl) (by assumption) ?_ ?_
      rotate_left
      · (intro w0 hSw; (try dsimp only at hSw); obtain ⟨sx0, sx1, sx2, sy0, sy1, sy2⟩ := hSw; go_simp; try (with_reducible rfl))
      try simp only [Act.put, List.setIfInBounds_toArray, List.set_cons_zero, List.set_cons_succ]
      refine takeV (i := 52) (v := ?_) rfl (by kernel_rfl) (by kernel_rfl) (by kernel_rfl) (fun _ _ _ h => h) (by rfl) (by assumption) ?_ ?_
      rotate_left
      · (intro w0 hSw; (try dsimp only at hSw); obtain ⟨sx0, sx1, sx2, sy0, sy1, sy2⟩ := hSw; go_simp; try (with_reducible rfl))
      try simp only [Act.put, List.setIfInBounds_toArray, List.set_cons_zero, List.set_cons_succ]
      refine stepOne (i := 53) rfl (by kernel_rfl) (fun K hK => ?_)
      go_simp
      (go_at_call 24; refine (HP.out.awake _ (by first | exact HA.out.below | exact HA.out.below.drew)).mono ?_; rintro e wB ⟨rfl, hb⟩; have HB := rhide (HA.out.on hb); clear hb HA x0 x1 x2 y0 y1 y2; have y0 := HB.out.first.c0; have y1 := HB.out.first.c1; have y2 := HB.out.first.c2; have x0 := HB.out.second.c0; have x1 := HB.out.second.c1; have x2 := HB.out.second.c2)
      go_wp2_with fail
      refine hK.out _ _ ?_ (fun hHeld => ?_)
      · (first | (refine ⟨?_, ?_, ?_, ?_, ?_, ?_⟩ <;> with_reducible assumption) | go_keep)
      clear hK K
      try simp only [Act.put, List.setIfInBounds_toArray, List.set_cons_zero, List.set_cons_succ]
      refine takeV (i := 54) (v := ?_) rfl (by kernel_rfl) (by kernel_rfl) (by kernel_rfl) (fun _ _ _ h => h) (by rfl) (by assumption) ?_ ?_
      rotate_left
      · (intro w0 hSw; (try dsimp only at hSw); obtain ⟨sx0, sx1, sx2, sy0, sy1, sy2⟩ := hSw; go_simp; try (with_reducible rfl))
      try simp only [Act.put, List.setIfInBounds_toArray, List.set_cons_zero, List.set_cons_succ]
      refine takeV (i := 55) (v := ?_) rfl (by kernel_rfl) (by kernel_rfl) (by kernel_rfl) (fun _ _ _ h => h) (by rfl) (by assumption) ?_ ?_
      rotate_left
      · (intro w0 hSw; (try dsimp only at hSw); obtain ⟨sx0, sx1, sx2, sy0, sy1, sy2⟩ := hSw; go_simp; try (with_reducible rfl))
      try simp only [Act.put, List.setIfInBounds_toArray, List.set_cons_zero, List.set_cons_succ]
      refine wpAnyH_done (by kernel_rfl) ?_ _
      go_wp2
      go_ret
      exact ⟨rfl, HB.out.below⟩
    · have bp : (xp == xp) = true := by simp
      generalize hd : xl - k = d at H9 c1 ⊢
      have hw : IntKind.i64.wrap (xl - k) = d := by rw [IntKind.wrap_i64]; omega
      have hw' : wrap64 (xl - k) = d := by unfold wrap64; omega
      have b6 : (d == 0) = false := by simp; omega
      have b7 : (d == d) = true := by simp
      have c2 : 0 < d := c1.2
      have c3 : ¬ d < 0 := by omega
      clear c1 hd
      have x0 : v9.cell? ⟨Dx, 0, none⟩ = some (.bool false) := H9.out.second.c0
      have x1 : v9.cell? ⟨Dx, 1, none⟩ = some (.int .i64 xl) := H9.out.second.c1
      have x2 : v9.cell? ⟨Dx, 2, none⟩ = some (.int .i64 xp) := H9.out.second.c2
      have y0 : v9.cell? ⟨Dy, 0, none⟩ = some (.bool false) := H9.out.first.c0
      have y1 : v9.cell? ⟨Dy, 1, none⟩ = some (.int .i64 d) := H9.out.first.c1
      have y2 : v9.cell? ⟨Dy, 2, none⟩ = some (.int .i64 xp) := H9.out.first.c2
      go_upto_region 16 with fail
      refine wp_region_held_drew (S := (fun w' => w'.cell? ⟨Dx, 0, none⟩ = some (.bool false) ∧ w'.cell? ⟨Dx, 1, none⟩ = some (.int .i64 xl) ∧ w'.cell? ⟨Dx, 2, none⟩ = some (.int .i64 xp) ∧ w'.cell? ⟨Dy, 0, none⟩ = some (.bool false) ∧ w'.cell? ⟨Dy, 1, none⟩ = some (.int .i64 d) ∧ w'.cell? ⟨Dy, 2, none⟩ = some (.int .i64 xp))) (by kernel_rfl) ?_ (fun hHeld => ?_)
      · (first | (refine ⟨?_, ?_, ?_, ?_, ?_, ?_⟩ <;> with_reducible assumption) | go_keep)
      refine takeV (i := 0) (v := ?_) rfl (by kernel_rfl) (by kernel_rfl) (by kernel_rfl) (fun _ _ _ h => h) (by rfl) (by assumption) ?_ ?_
      rotate_left
      · (intro w0 hSw; (try dsimp only at hSw); obtain ⟨sx0, sx1, sx2, sy0, sy1, sy2⟩ := hSw; go_simp; try (with_reducible rfl))
      try simp only [Act.put, List.setIfInBounds_toArray, List.set_cons_zero, List.set_cons_succ]
      refine takeV (i := 1) (v := ?_) rfl (by kernel_rfl) (by kernel_rfl) (by kernel_rfl) (fun _ _ _ h => h) (by rfl) (by assumption) ?_ ?_
      rotate_left
      · (intro w0 hSw; (try dsimp only at hSw); obtain ⟨sx0, sx1, sx2, sy0, sy1, sy2⟩ := hSw; go_simp; try (with_reducible rfl))
      try simp only [Act.put, List.setIfInBounds_toArray, List.set_cons_zero, List.set_cons_succ]
      refine takeV (i := 2) (v := ?_) rfl (by kernel_rfl) (by kernel_rfl) (by kernel_rfl) (fun _ _ _ h => h) (by rfl) (by assumption) ?_ ?_
      rotate_left
      · (intro w0 hSw; (try dsimp only at hSw); obtain ⟨sx0, sx1, sx2, sy0, sy1, sy2⟩ := hSw; go_simp; try (with_reducible rfl))
      try simp only [Act.put, List.setIfInBounds_toArray, List.set_cons_zero, List.set_cons_succ]
      refine takeU (i := 3) rfl (by kernel_rfl) (by kernel_rfl) (by kernel_rfl) (fun _ _ _ h => h) (by rfl) (by assumption) ?_
      try simp only [Act.put, List.setIfInBounds_toArray, List.set_cons_zero, List.set_cons_succ]
      refine takeU (i := 4) rfl (by kernel_rfl) (by kernel_rfl) (by kernel_rfl) (fun _ _ _ h => h) (by rfl) (by assumption) ?_
      try simp only [Act.put, List.setIfInBounds_toArray, List.set_cons_zero, List.set_cons_succ]
      refine takeU (i := 5) rfl (by kernel_rfl) (by kernel_rfl) (by kernel_rfl) (fun _ _ _ h => h) (by rfl) (by assumption) ?_
      try simp only [Act.put, List.setIfInBounds_toArray, List.set_cons_zero, List.set_cons_succ]
      refine takeV (i := 6) (v := ?_) rfl (by kernel_rfl) (by kernel_rfl) (by kernel_rfl) (fun _ _ _ h => h) (by rfl) (by assumption) ?_ ?_
      rotate_left
      · (intro w0 hSw; (try dsimp only at hSw); obtain ⟨sx0, sx1, sx2, sy0, sy1, sy2⟩ := hSw; go_simp; try (with_reducible rfl))
      try simp only [Act.put, List.setIfInBounds_toArray, List.set_cons_zero, List.set_cons_succ]
      refine takeV (i := 7) (v := ?_) rfl (by kernel_rfl) (by kernel_rfl) (by kernel_rfl) (fun _ _ _ h => h) (by rfl) (by assumption) ?_ ?_
      rotate_left
      · (intro w0 hSw; (try dsimp only at hSw); obtain ⟨sx0, sx1, sx2, sy0, sy1, sy2⟩ := hSw; go_simp; try (with_reducible rfl))
      try simp only [Act.put, List.setIfInBounds_toArray, List.set_cons_zero, List.set_cons_succ]
      refine takeU (i := 8) rfl (by kernel_rfl) (by kernel_rfl) (by kernel_rfl) (fun _ _ _ h => h) (by rfl) (by assumption) ?_
      try simp only [Act.put, List.setIfInBounds_toArray, List.set_cons_zero, List.set_cons_succ]
      refine takeU (i := 9) rfl (by kernel_rfl) (by kernel_rfl) (by kernel_rfl) (fun _ _ _ h => h) (by rfl) (by assumption) ?_
      try simp only [Act.put, List.setIfInBounds_toArray, List.set_cons_zero, List.set_cons_succ]
      refine takeV (i := 10) (v := ?_) rfl (by kernel_rfl) (by kernel_rfl) (by kernel_rfl) (fun _ _ _ h => h) (by rfl) (by assumption) ?_ ?_
      rotate_left
      · (intro w0 hSw; (try dsimp only at hSw); obtain ⟨sx0, sx1, sx2, sy0, sy1, sy2⟩ := hSw; go_simp; try (with_reducible rfl))
      try simp only [Act.put, List.setIfInBounds_toArray, List.set_cons_zero, List.set_cons_succ]
      refine takeV (i := 11) (v := ?_) rfl (by kernel_rfl) (by kernel_rfl) (by kernel_rfl) (fun _ _ _ h => h) (by rfl) (by assumption) ?_ ?_
      rotate_left
      · (intro w0 hSw; (try dsimp only at hSw); obtain ⟨sx0, sx1, sx2, sy0, sy1, sy2⟩ := hSw; go_simp; try (with_reducible rfl))
      try simp only [Act.put, List.setIfInBounds_toArray, List.set_cons_zero, List.set_cons_succ]
      refine takeV (i := 12) (v := ?_) rfl (by kernel_rfl) (by kernel_rfl) (by kernel_rfl) (fun _ _ _ h => h) (by rfl) (by assumption) ?_ ?_
      rotate_left
      · (intro w0 hSw; (try dsimp only at hSw); obtain ⟨sx0, sx1, sx2, sy0, sy1, sy2⟩ := hSw; go_simp; try (with_reducible rfl))
      try simp only [Act.put, List.setIfInBounds_toArray, List.set_cons_zero, List.set_cons_succ]
      refine takeV (i := 13) (v := ?_) rfl (by kernel_rfl) (by kernel_rfl) (by kernel_rfl) (fun _ _ _ h => h) (by rfl) (by assumption) ?_ ?_
      rotate_left
      · (intro w0 hSw; (try dsimp only at hSw); obtain ⟨sx0, sx1, sx2, sy0, sy1, sy2⟩ := hSw; go_simp; try (with_reducible rfl))
      try simp only [Act.put, List.setIfInBounds_toArray, List.set_cons_zero, List.set_cons_succ]
      refine takeV (i := 14) (v := ?_) rfl (by kernel_rfl) (by kernel_rfl) (by kernel_rfl) (fun _ _ _ h => h) (by rfl) (by assumption) ?_ ?_
      rotate_left
      · (intro w0 hSw; (try dsimp only at hSw); obtain ⟨sx0, sx1, sx2, sy0, sy1, sy2⟩ := hSw; go_simp; try (with_reducible rfl))
      try simp only [Act.put, List.setIfInBounds_toArray, List.set_cons_zero, List.set_cons_succ]
      refine takeV (i := 15) (v := ?_) rfl (by kernel_rfl) (by kernel_rfl) (by kernel_rfl) (fun _ _ _ h => h) (by rfl) (by assumption) ?_ ?_
      rotate_left
      · (intro w0 hSw; (try dsimp only at hSw); obtain ⟨sx0, sx1, sx2, sy0, sy1, sy2⟩ := hSw; go_simp; try (with_reducible rfl))
      try simp only [Act.put, List.setIfInBounds_toArray, List.set_cons_zero, List.set_cons_succ]
      refine takeV (i := 16) (v := ?_) rfl (by kernel_rfl) (by kernel_rfl) (by kernel_rfl) (fun _ _ _ h => h) (by rfl) (by assumption) ?_ ?_
      rotate_left
      · (intro w0 hSw; (try dsimp only at hSw); obtain ⟨sx0, sx1, sx2, sy0, sy1, sy2⟩ := hSw; go_simp; try (with_reducible rfl))
      try simp only [Act.put, List.setIfInBounds_toArray, List.set_cons_zero, List.set_cons_succ]
      refine takeV (i := 17) (v := ?_) rfl (by kernel_rfl) (by kernel_rfl) (by kernel_rfl) (fun _ _ _ h => h) (by rfl) (by assumption) ?_ ?_
      rotate_left
      · (intro w0 hSw; (try dsimp only at hSw); obtain ⟨sx0, sx1, sx2, sy0, sy1, sy2⟩ := hSw; go_simp; try (with_reducible rfl))
      try simp only [Act.put, List.setIfInBounds_toArray, List.set_cons_zero, List.set_cons_succ]
      refine takeV (i := 18) (v := ?_) rfl (by kernel_rfl) (by kernel_rfl) (by kernel_rfl) (fun _ _ _ h => h) (by rfl) (by assumption) ?_ ?_
      rotate_left
      · (intro w0 hSw; (try dsimp only at hSw); obtain ⟨sx0, sx1, sx2, sy0, sy1, sy2⟩ := hSw; go_simp; try (with_reducible rfl))
      try simp only [Act.put, List.setIfInBounds_toArray, List.set_cons_zero, List.set_cons_succ]
      refine takeV (i := 19) (v := ?_) rfl (by kernel_rfl) (by kernel_rfl) (by kernel_rfl) (fun _ _ _ h => h) (by rfl) (by assumption) ?_ ?_
      rotate_left
      · (intro w0 hSw; (try dsimp only at hSw); obtain ⟨sx0, sx1, sx2, sy0, sy1, sy2⟩ := hSw; go_simp; try (with_reducible rfl))
      try simp only [Act.put, List.setIfInBounds_toArray, List.set_cons_zero, List.set_cons_succ]
      refine takeV (i := 20) (v := ?_) rfl (by kernel_rfl) (by kernel_rfl) (by kernel_rfl) (fun _ _ _ h => h) (by rfl) (by assumption) ?_ ?_
      rotate_left
      · (intro w0 hSw; (try dsimp only at hSw); obtain ⟨sx0, sx1, sx2, sy0, sy1, sy2⟩ := hSw; go_simp; try (with_reducible rfl))
      try simp only [Act.put, List.setIfInBounds_toArray, List.set_cons_zero, List.set_cons_succ]
      refine takeV (i := 21) (v := ?_) rfl (by kernel_rfl) (by kernel_rfl) (by kernel_rfl) (fun _ _ _ h => h) (by rfl) (by assumption) ?_ ?_
      rotate_left
      · (intro w0 hSw; (try dsimp only at hSw); obtain ⟨sx0, sx1, sx2, sy0, sy1, sy2⟩ := hSw; go_simp; try (with_reducible rfl))
      try simp only [Act.put, List.setIfInBounds_toArray, List.set_cons_zero, List.set_cons_succ]
      refine takeV (i := 22) (v := ?_) rfl (by kernel_rfl) (by kernel_rfl) (by kernel_rfl) (fun _ _ _ h => h) (by rfl) (by assumption) ?_ ?_
      rotate_left
      · (intro w0 hSw; (try dsimp only at hSw); obtain ⟨sx0, sx1, sx2, sy0, sy1, sy2⟩ := hSw; go_simp; try (with_reducible rfl))
      try simp only [Act.put, List.setIfInBounds_toArray, List.set_cons_zero, List.set_cons_succ]
      refine takeV (i := 23) (v := ?_) rfl (by kernel_rfl) (by kernel_rfl) (by kernel_rfl) (fun _ _ _ h => h) (by rfl) (by assumption) ?_ ?_
      rotate_left
      · (intro w0 hSw; (try dsimp only at hSw); obtain ⟨sx0, sx1, sx2, sy0, sy1, sy2⟩ := hSw; go_simp; try (with_reducible rfl))
      try simp only [Act.put, List.setIfInBounds_toArray, List.set_cons_zero, List.set_cons_succ]
      refine takeV (i := 24) (v := ?_) rfl (by kernel_rfl) (by kernel_rfl) (by kernel_rfl) (fun _ _ _ h => h) (by rfl) (by assumption) ?_ ?_
      rotate_left
      · (intro w0 hSw; (try dsimp only at hSw); obtain ⟨sx0, sx1, sx2, sy0, sy1, sy2⟩ := hSw; go_simp; try (with_reducible rfl))
      try simp only [Act.put, List.setIfInBounds_toArray, List.set_cons_zero, List.set_cons_succ]
      refine takeV (i := 25) (v := ?_) rfl (by kernel_rfl) (by kernel_rfl) (by kernel_rfl) (fun _ _ _ h => h) (by rfl) (by assumption) ?_ ?_
      rotate_left
      · (intro w0 hSw; (try dsimp only at hSw); obtain ⟨sx0, sx1, sx2, sy0, sy1, sy2⟩ := hSw; go_simp; try (with_reducible rfl))
      try simp only [Act.put, List.setIfInBounds_toArray, List.set_cons_zero, List.set_cons_succ]
      refine takeV (i := 26) (v := ?_) rfl (by kernel_rfl) (by kernel_rfl) (by kernel_rfl) (fun _ _ _ h => h) (by rfl) (by assumption) ?_ ?_
      rotate_left
      · (intro w0 hSw; (try dsimp only at hSw); obtain ⟨sx0, sx1, sx2, sy0, sy1, sy2⟩ := hSw; go_simp; try (with_reducible rfl))
      try simp only [Act.put, List.setIfInBounds_toArray, List.set_cons_zero, List.set_cons_succ]
      refine takeV (i := 27) (v := ?_) rfl (by kernel_rfl) (by kernel_rfl) (by kernel_rfl) (fun _ _ _ h => h) (by rfl) (by assumption) ?_ ?_
      rotate_left
      · (intro w0 hSw; (try dsimp only at hSw); obtain ⟨sx0, sx1, sx2, sy0, sy1, sy2⟩ := hSw; go_simp; try (with_reducible rfl))
      try simp only [Act.put, List.setIfInBounds_toArray, List.set_cons_zero, List.set_cons_succ]
      refine takeV (i := 28) (v := ?_) rfl (by kernel_rfl) (by kernel_rfl) (by kernel_rfl) (fun _ _ _ h => h) (by rfl) (by assumption) ?_ ?_
      rotate_left
      · (intro w0 hSw; (try dsimp only at hSw); obtain ⟨sx0, sx1, sx2, sy0, sy1, sy2⟩ := hSw; go_simp; try (with_reducible rfl))
      try simp only [Act.put, List.setIfInBounds_toArray, List.set_cons_zero, List.set_cons_succ]
      refine takeV (i := 29) (v := ?_) rfl (by kernel_rfl) (by kernel_rfl) (by kernel_rfl) (fun _ _ _ h => h) (by rfl) (by assumption) ?_ ?_
      rotate_left
      · (intro w0 hSw; (try dsimp only at hSw); obtain ⟨sx0, sx1, sx2, sy0, sy1, sy2⟩ := hSw; go_simp; try (with_reducible rfl))
      try simp only [Act.put, List.setIfInBounds_toArray, List.set_cons_zero, List.set_cons_succ]
      refine takeV (i := 30) (v := ?_) rfl (by kernel_rfl) (by kernel_rfl) (by kernel_rfl) (fun _ _ _ h => h) (by rfl) (by assumption) ?_ ?_
      rotate_left
      · (intro w0 hSw; (try dsimp only at hSw); obtain ⟨sx0, sx1, sx2, sy0, sy1, sy2⟩ := hSw; go_simp; try (with_reducible rfl))
      try simp only [Act.put, List.setIfInBounds_toArray, List.set_cons_zero, List.set_cons_succ]
      refine takeV (i := 31) (v := ?_) rfl (by kernel_rfl) (by kernel_rfl) (by kernel_rfl) (fun _ _ _ h => h) (by rfl) (by assumption) ?_ ?_
      rotate_left
      · (intro w0 hSw; (try dsimp only at hSw); obtain ⟨sx0, sx1, sx2, sy0, sy1, sy2⟩ := hSw; go_simp; try (with_reducible rfl))
      try simp only [Act.put, List.setIfInBounds_toArray, List.set_cons_zero, List.set_cons_succ]
      refine takeV (i := 32) (v := ?_) rfl (by kernel_rfl) (by kernel_rfl) (by kernel_rfl) (fun _ _ _ h => h) (by rfl) (by assumption) ?_ ?_
      rotate_left
      · (intro w0 hSw; (try dsimp only at hSw); obtain ⟨sx0, sx1, sx2, sy0, sy1, sy2⟩ := hSw; go_simp; try (with_reducible rfl))
      try simp only [Act.put, List.setIfInBounds_toArray, List.set_cons_zero, List.set_cons_succ]
      refine takeV (i := 33) (v := ?_) rfl (by kernel_rfl) (by kernel_rfl) (by kernel_rfl) (fun _ _ _ h => h) (by rfl) (by assumption) ?_ ?_
      rotate_left
      · (intro w0 hSw; (try dsimp only at hSw); obtain ⟨sx0, sx1, sx2, sy0, sy1, sy2⟩ := hSw; go_simp; try (with_reducible rfl))
      try simp only [Act.put, List.setIfInBounds_toArray, List.set_cons_zero, List.set_cons_succ]
      refine takeV (i := 34) (v := ?_) rfl (by kernel_rfl) (by kernel_rfl) (by kernel_rfl) (fun _ _ _ h => h) (by rfl) (by assumption) ?_ ?_
      rotate_left
      · (intro w0 hSw; (try dsimp only at hSw); obtain ⟨sx0, sx1, sx2, sy0, sy1, sy2⟩ := hSw; go_simp; try (with_reducible rfl))
      try simp only [Act.put, List.setIfInBounds_toArray, List.set_cons_zero, List.set_cons_succ]
      refine takeV (i := 35) (v := ?_) rfl (by kernel_rfl) (by kernel_rfl) (by kernel_rfl) (fun _ _ _ h => h) (by rfl) (by assumption) ?_ ?_
      rotate_left
      · (intro w0 hSw; (try dsimp only at hSw); obtain ⟨sx0, sx1, sx2, sy0, sy1, sy2⟩ := hSw; go_simp; try (with_reducible rfl))
      try simp only [Act.put, List.setIfInBounds_toArray, List.set_cons_zero, List.set_cons_succ]
      refine takeV (i := 36) (v := ?_) rfl (by kernel_rfl) (by kernel_rfl) (by kernel_rfl) (fun _ _ _ h => h) (by rfl) (by assumption) ?_ ?_
      rotate_left
      · (intro w0 hSw; (try dsimp only at hSw); obtain ⟨sx0, sx1, sx2, sy0, sy1, sy2⟩ := hSw; go_simp; try (with_reducible rfl))
      try simp only [Act.put, List.setIfInBounds_toArray, List.set_cons_zero, List.set_cons_succ]
      refine takeV (i := 37) (v := ?_) rfl (by kernel_rfl) (by kernel_rfl) (by kernel_rfl) (fun _ _ _ h => h) (by rfl) (by assumption) ?_ ?_
      rotate_left
      · (intro w0 hSw; (try dsimp only at hSw); obtain ⟨sx0, sx1, sx2, sy0, sy1, sy2⟩ := hSw; go_simp; try (with_reducible rfl))
      try simp only [Act.put, List.setIfInBounds_toArray, List.set_cons_zero, List.set_cons_succ]
      refine takeV (i := 38) (v := ?_) rfl (by kernel_rfl) (by kernel_rfl) (by kernel_rfl) (fun _ _ _ h => h) (by rfl) (by assumption) ?_ ?_
      rotate_left
      · (intro w0 hSw; (try dsimp only at hSw); obtain ⟨sx0, sx1, sx2, sy0, sy1, sy2⟩ := hSw; go_simp; try (with_reducible rfl))
      try simp only [Act.put, List.setIfInBounds_toArray, List.set_cons_zero, List.set_cons_succ]
      refine takeV (i := 39) (v := ?_) rfl (by kernel_rfl) (by kernel_rfl) (by kernel_rfl) (fun _ _ _ h => h) (by rfl) (by assumption) ?_ ?_
      rotate_left
      · (intro w0 hSw; (try dsimp only at hSw); obtain ⟨sx0, sx1, sx2, sy0, sy1, sy2⟩ := hSw; go_simp; try (with_reducible rfl))
      try simp only [Act.put, List.setIfInBounds_toArray, List.set_cons_zero, List.set_cons_succ]
      refine takeV (i := 40) (v := ?_) rfl (by kernel_rfl) (by kernel_rfl) (by kernel_rfl) (fun _ _ _ h => h) (by rfl) (by assumption) ?_ ?_
      rotate_left
      · (intro w0 hSw; (try dsimp only at hSw); obtain ⟨sx0, sx1, sx2, sy0, sy1, sy2⟩ := hSw; go_simp; try (with_reducible rfl))
      try simp only [Act.put, List.setIfInBounds_toArray, List.set_cons_zero, List.set_cons_succ]
      refine takeV (i := 41) (v := ?_) rfl (by kernel_rfl) (by kernel_rfl) (by kernel_rfl) (fun _ _ _ h => h) (by rfl) (by assumption) ?_ ?_
      rotate_left
      · (intro w0 hSw; (try dsimp only at hSw); obtain ⟨sx0, sx1, sx2, sy0, sy1, sy2⟩ := hSw; go_simp; try (with_reducible rfl))
      try simp only [Act.put, List.setIfInBounds_toArray, List.set_cons_zero, List.set_cons_succ]
      refine takeV (i := 43) (v := ?_) rfl (by kernel_rfl) (by kernel_rfl) (by kernel_rfl) (fun _ _ _ h => h) (by rfl) (by assumption) ?_ ?_
      rotate_left
      · (intro w0 hSw; (try dsimp only at hSw); obtain ⟨sx0, sx1, sx2, sy0, sy1, sy2⟩ := hSw; go_simp; try (with_reducible rfl))
      try simp only [Act.put, List.setIfInBounds_toArray, List.set_cons_zero, List.set_cons_succ]
      refine takeV (i := 44) (v := ?_) rfl (by kernel_rfl) (by kernel_rfl) (by kernel_rfl) (fun _ _ _ h => h) (by rfl) (by assumption) ?_ ?_
      rotate_left
      · (intro w0 hSw; (try dsimp only at hSw); obtain ⟨sx0, sx1, sx2, sy0, sy1, sy2⟩ := hSw; go_simp; try (with_reducible rfl))
      try simp only [Act.put, List.setIfInBounds_toArray, List.set_cons_zero, List.set_cons_succ]
      refine stepOne (i := 42) rfl (by kernel_rfl) (fun K hK => ?_)
      go_simp
      (go_at_call 17; refine (HN.out _ _ _ _ (by first | exact H9.out | exact H9.out.on (Below.refl _ _).drew)).mono ?_; rintro e wA ⟨rfl, hm⟩; have HA := rhide hm; clear hm HN H9 x0 x1 x2 y0 y1 y2; have y0 := HA.out.first.c0; have y1 := HA.out.first.c1; have y2 := HA.out.first.c2; have x0 := HA.out.second.c0; have x1 := HA.out.second.c1; have x2 := HA.out.second.c2)
      go_wp2_with fail
      refine hK.out _ _ ?_ (fun hHeld => ?_)
      · (first | (refine ⟨?_, ?_, ?_, ?_, ?_, ?_⟩ <;> with_reducible assumption) | go_keep)
      clear hK K
      try simp only [Act.put, List.setIfInBounds_toArray, List.set_cons_zero, List.set_cons_succ]
      refine takeV (i := 45) (v := ?_) rfl (by kernel_rfl) (by kernel_rfl) (by kernel_rfl) (fun _ _ _ h => h) (by rfl) (by assumption) ?_ ?_
      rotate_left
      · (intro w0 hSw; (try dsimp only at hSw); obtain ⟨sx0, sx1, sx2, sy0, sy1, sy2⟩ := hSw; go_simp; try (with_reducible rfl))
      try simp only [Act.put, List.setIfInBounds_toArray, List.set_cons_zero, List.set_cons_succ]
      refine takeV (i := 46) (v := ?_) rfl (by kernel_rfl) (by kernel_rfl) (by kernel_rfl) (fun _ _ _ h => h) (by rfl) (by assumption) ?_ ?_
      rotate_left
      · (intro w0 hSw; (try dsimp only at hSw); obtain ⟨sx0, sx1, sx2, sy0, sy1, sy2⟩ := hSw; go_simp; try (with_reducible rfl))
      try simp only [Act.put, List.setIfInBounds_toArray, List.set_cons_zero, List.set_cons_succ]
      refine takeV (i := 47) (v := ?_) rfl (by kernel_rfl) (by kernel_rfl) (by kernel_rfl) (fun _ _ _ h => h) (by rfl) (by assumption) ?_ ?_
      rotate_left
      · (intro w0 hSw; (try dsimp only at hSw); obtain ⟨sx0, sx1, sx2, sy0, sy1, sy2⟩ := hSw; go_simp; try (with_reducible rfl))
      try simp only [Act.put, List.setIfInBounds_toArray, List.set_cons_zero, List.set_cons_succ]
      refine takeV (i := 48) (v := ?_) rfl (by kernel_rfl) (by kernel_rfl) (by kernel_rfl) (fun _ _ _ h => h) (by rfl) (by assumption) ?_ ?_
      rotate_left
      · (intro w0 hSw; (try dsimp only at hSw); obtain ⟨sx0, sx1, sx2, sy0, sy1, sy2⟩ := hSw; go_simp; try (with_reducible rfl))
      try simp only [Act.put, List.setIfInBounds_toArray, List.set_cons_zero, List.set_cons_succ]
      refine takeV (i := 49) (v := ?_) rfl (by kernel_rfl) (by kernel_rfl) (by kernel_rfl) (fun _ _ _ h => h) (by rfl) (by assumption) ?_ ?_
      rotate_left
      · (intro w0 hSw; (try dsimp only at hSw); obtain ⟨sx0, sx1, sx2, sy0, sy1, sy2⟩ := hSw; go_simp; try (with_reducible rfl))
      try simp only [Act.put, List.setIfInBounds_toArray, List.set_cons_zero, List.set_cons_succ]
      refine takeV (i := 50) (v := ?_) rfl (by kernel_rfl) (by kernel_rfl) (by kernel_rfl) (fun _ _ _ h => h) (by rfl) (by assumption) ?_ ?_
      rotate_left
      · (intro w0 hSw; (try dsimp only at hSw); obtain ⟨sx0, sx1, sx2, sy0, sy1, sy2⟩ := hSw; go_simp; try (with_reducible rfl))
      try simp only [Act.put, List.setIfInBounds_toArray, List.set_cons_zero, List.set_cons_succ]
      refine takeV (i := 51) (v := ?_) rfl (by kernel_rfl) (by kernel_rfl) (by kernel_rfl) (fun _ _ _ h => h) (by rfl) (by assumption) ?_ ?_
      rotate_left
      · (intro w0 hSw; (try dsimp only at hSw); obtain ⟨sx0, sx1, sx2, sy0, sy1, sy2⟩ := hSw; go_simp; try (with_reducible rfl))
      try simp only [Act.put, List.setIfInBounds_toArray, List.set_cons_zero, List.set_cons_succ]
      refine takeV (i := 52) (v := ?_) rfl (by kernel_rfl) (by kernel_rfl) (by kernel_rfl) (fun _ _ _ h => h) (by rfl) (by assumption) ?_ ?_
      rotate_left
      · (intro w0 hSw; (try dsimp only at hSw); obtain ⟨sx0, sx1, sx2, sy0, sy1, sy2⟩ := hSw; go_simp; try (with_reducible rfl))
      try simp only [Act.put, List.setIfInBounds_toArray, List.set_cons_zero, List.set_cons_succ]
      refine stepOne (i := 53) rfl (by kernel_rfl) (fun K hK => ?_)
      go_simp
      (go_at_call 24; refine (HP.out.awake _ (by first | exact HA.out.below | exact HA.out.below.drew)).mono ?_; rintro e wB ⟨rfl, hb⟩; have HB := rhide (HA.out.on hb); clear hb HA x0 x1 x2 y0 y1 y2; have y0 := HB.out.first.c0; have y1 := HB.out.first.c1; have y2 := HB.out.first.c2; have x0 := HB.out.second.c0; have x1 := HB.out.second.c1; have x2 := HB.out.second.c2)
      go_wp2_with fail
      refine hK.out _ _ ?_ (fun hHeld => ?_)
      · (first | (refine ⟨?_, ?_, ?_, ?_, ?_, ?_⟩ <;> with_reducible assumption) | go_keep)
      clear hK K
      try simp only [Act.put, List.setIfInBounds_toArray, List.set_cons_zero, List.set_cons_succ]
      refine takeV (i := 54) (v := ?_) rfl (by kernel_rfl) (by kernel_rfl) (by kernel_rfl) (fun _ _ _ h => h) (by rfl) (by assumption) ?_ ?_
      rotate_left
      · (intro w0 hSw; (try dsimp only at hSw); obtain ⟨sx0, sx1, sx2, sy0, sy1, sy2⟩ := hSw; go_simp; try (with_reducible rfl))
      try simp only [Act.put, List.setIfInBounds_toArray, List.set_cons_zero, List.set_cons_succ]
      refine takeV (i := 55) (v := ?_) rfl (by kernel_rfl) (by kernel_rfl) (by kernel_rfl) (fun _ _ _ h => h) (by rfl) (by assumption) ?_ ?_
      rotate_left
      · (intro w0 hSw; (try dsimp only at hSw); obtain ⟨sx0, sx1, sx2, sy0, sy1, sy2⟩ := hSw; go_simp; try (with_reducible rfl))
      try simp only [Act.put, List.setIfInBounds_toArray, List.set_cons_zero, List.set_cons_succ]
      refine wpAnyH_done (by kernel_rfl) ?_ _
      go_wp2
      go_ret
      exact ⟨rfl, HB.out.below⟩
end Go.Proofs.YtlnckhebikiclaaDoor.Ptcap
