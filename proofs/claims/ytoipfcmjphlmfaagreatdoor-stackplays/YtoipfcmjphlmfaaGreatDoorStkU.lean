/- What the document's Pop, Ip and All of layer 19 answer and do, over its own memory. -/
import Derived.Test.YtoipfcmjphlmfaaGreatDoorStkT
import Derived.Test.YtoipfcmjphlmfaaGreatDoorStkE
import Derived.Maps.AppendAt
namespace Go.Proofs.YtoipfcmjphlmfaaGreatDoor.Pstack
open Go.Proofs.YtoipfcmjphlmfaaGreatDoor.Pbase Go.Proofs.YtoipfcmjphlmfaaGreatDoor.Pfield Go.Proofs.YtoipfcmjphlmfaaGreatDoor.Play Go.Proofs.YtoipfcmjphlmfaaGreatDoor.Pmem Go.Proofs.YtoipfcmjphlmfaaGreatDoor.Pthd
open Go.RowKit M
set_option linter.unusedVariables false

/-! ### stores into a block of the call's own -/
theorem rh_setv {w W : World} {base q N : Nat} {M : Nat → Nat → Int} (h : Rh w W base q N M) {B : Nat} {vs : List Value} {z : Int} (hv : RowV W B vs) (hz : vs[0]? = some (.int .i64 z)) (hD : w.heap.size ≤ B) (hb : base ≤ w.heap.size) (j : Nat) (v : Value) : Rh w (W.setCell ⟨B, j, none⟩ v) base q N M ∧ RowV (W.setCell ⟨B, j, none⟩ v) B (vs.set j v) :=
  ⟨rh_set h ((hv.cell 0).trans hz) hD hb j v, hv.set j v⟩
theorem RowR.v {W : World} {B : Nat} {x : Rc} (h : RowR W B x) : RowV W B [.int .i64 x.co, .int .i64 x.tb, .int .i64 x.pg, .int .i64 x.l, .int .i64 x.e, .int .i64 x.ip] := ⟨38, h.row⟩
theorem rh_six {w W : World} {base q N : Nat} {M : Nat → Nat → Int} (h : Rh w W base q N M) {x0 : Rc} (hr : RowR W w.heap.size x0) (hb : base ≤ w.heap.size) (x : Rc) : Rh w ((((((W.setCell ⟨w.heap.size, 0, none⟩ (.int .i64 x.co)).setCell ⟨w.heap.size, 1, none⟩ (.int .i64 x.tb)).setCell ⟨w.heap.size, 2, none⟩ (.int .i64 x.pg)).setCell ⟨w.heap.size, 3, none⟩ (.int .i64 x.l)).setCell ⟨w.heap.size, 4, none⟩ (.int .i64 x.e)).setCell ⟨w.heap.size, 5, none⟩ (.int .i64 x.ip)) base q N M := by
  obtain ⟨h0, r0⟩ := rh_setv h hr.v (z := x0.co) rfl (Nat.le_refl _) hb 0 (.int .i64 x.co)
  obtain ⟨h1, r1⟩ := rh_setv h0 r0 (z := x.co) rfl (Nat.le_refl _) hb 1 (.int .i64 x.tb)
  obtain ⟨h2, r2⟩ := rh_setv h1 r1 (z := x.co) rfl (Nat.le_refl _) hb 2 (.int .i64 x.pg)
  obtain ⟨h3, r3⟩ := rh_setv h2 r2 (z := x.co) rfl (Nat.le_refl _) hb 3 (.int .i64 x.l)
  obtain ⟨h4, r4⟩ := rh_setv h3 r3 (z := x.co) rfl (Nat.le_refl _) hb 4 (.int .i64 x.e)
  exact (rh_setv h4 r4 (z := x.co) rfl (Nat.le_refl _) hb 5 (.int .i64 x.ip)).1
/-! ### Pop -/
structure Dq (w W : World) (base q N : Nat) (M : Nat → Nat → Int) : Prop where
  rh : Rh w W base q N M
  res : RowR W w.heap.size rc0
theorem dq_new {w : World} {base q N : Nat} {M : Nat → Nat → Int} (h : Rx w base q N M) : Dq w (w.alloc (.cells #[.int .i64 0, .int .i64 0, .int .i64 0, .int .i64 0, .int .i64 0, .int .i64 0] 38)) base q N M :=
  ⟨(show Rh w w base q N M from ⟨h, Below.refl _ _, KeepX.refl _ _⟩).on (bal (Below.refl _ _) _), rowR_new w rc0⟩
theorem Dq.on {w W W' : World} {base q N : Nat} {M : Nat → Nat → Int} (h : Dq w W base q N M) (hB : Below W.heap.size W W') : Dq w W' base q N M := ⟨h.rh.on hB, h.res.on hB⟩
/-- And the record that was read, and the thread. -/
structure Dp (w W : World) (base q N : Nat) (M : Nat → Nat → Int) (A : Nat) (X : Rc) : Prop where
  dq : Dq w W base q N M
  rr : RowR W A X
  al : w.heap.size < A
theorem Dq.more {w W : World} {base q N : Nat} {M : Nat → Nat → Int} (h : Dq w W base q N M) (X : Rc) : Dp w (W.alloc (.cells #[.int .i64 X.co, .int .i64 X.tb, .int .i64 X.pg, .int .i64 X.l, .int .i64 X.e, .int .i64 X.ip] 38)) base q N M W.heap.size X := ⟨h.on (bal (Below.refl _ _) _), rowR_new W X, h.res.lt⟩
theorem Dp.on {w W W' : World} {base q N : Nat} {M : Nat → Nat → Int} {A : Nat} {X : Rc} (h : Dp w W base q N M A X) (hB : Below W.heap.size W W') : Dp w W' base q N M A X := ⟨h.dq.on hB, h.rr.on hB, h.al⟩
theorem Dp.turn {w W W' : World} {base q N : Nat} {M M' : Nat → Nat → Int} {A : Nat} {X : Rc} (h : Dp w W base q N M A X) (hR : Rx W' base q N M') (hB : Below base W W') (hK : KeepX q W W') : Dp w W' base q N M' A X :=
  ⟨⟨⟨hR, h.dq.rh.below.trans hB, h.dq.rh.kp.trans hK⟩, h.dq.res.keep hK.t⟩, h.rr.keep hK.t, h.al⟩
set_option maxRecDepth 100000 in
set_option maxHeartbeats 4000000 in
theorem rpop_any (base q N : Nat) (f : Int) (M : Nat → Nat → Int) (w : World) (h : Rx w base q N M) :
    Calls Tryz.prog 10 #[.pointer (some ⟨q, 0, none⟩), .int .i64 f] w fun e w' => e = .returned (.tuple #[.agg #[.int .i64 (tpX N M f).co, .int .i64 (tpX N M f).tb, .int .i64 (tpX N M f).pg, .int .i64 (tpX N M f).l, .int .i64 (tpX N M f).e, .int .i64 (tpX N M f).ip], .int .i64 (tpE N M f)]) ∧ Rx w' base q N (ppM N M f) ∧ Below base w w' ∧ KeepX q w w' := by
  have H0 := rhide (dq_new h)
  have HBs := rhide h.le
  have HT : Hid (∀ wc, Dq w wc base q N M → Calls Tryz.prog 14 #[.pointer (some ⟨q, 0, none⟩), .int .i64 f] wc fun e w' => e = .returned (.tuple #[.agg #[.int .i64 (tpX N M f).co, .int .i64 (tpX N M f).tb, .int .i64 (tpX N M f).pg, .int .i64 (tpX N M f).l, .int .i64 (tpX N M f).e, .int .i64 (tpX N M f).ip], .int .i64 (tpE N M f)]) ∧ Below wc.heap.size wc w') := fun wc h => rtop_any base q N f M wc h.rh.rx
  by_cases ht : tpE N M f = 0
  · obtain ⟨hg, hd1, _⟩ := tp_yes ht
    obtain ⟨hf, hde, h6⟩ := gt_dp hg
    obtain ⟨b1, b2⟩ := pp_put ht
    have HG : Hid (∀ A X wc, Dp w wc base q N M A X → Calls Tryz.prog 36 #[.pointer (some ⟨q, 0, none⟩), .int .i64 f] wc fun e w' => e = .returned (.tuple #[.agg #[.int .i64 (thOf M f).st, .int .i64 (thOf M f).co, .int .i64 (thOf M f).tc, .int .i64 (thOf M f).rc, .int .i64 ((dpN M f : Nat) : Int)], .int .i64 0]) ∧ Below wc.heap.size wc w') := fun A X wc h => by
      have := Pthd.rget_any base q N f M wc h.dq.rh.rx
      rwa [hg, (gt_yes hg).2.2, hde] at this
    have HPu : Hid (∀ A X wc, Dp w wc base q N M A X → Calls Tryz.prog 38 #[.pointer (some ⟨q, 0, none⟩), .int .i64 f, .agg #[.int .i64 (thOf M f).st, .int .i64 (thOf M f).co, .int .i64 (thOf M f).tc, .int .i64 (thOf M f).rc, .int .i64 (((dpN M f : Nat) : Int) - 1)]] wc fun e w' => e = .returned (.int .i64 0) ∧ Dp w w' base q N (ppM N M f) A X) := fun A X wc h => by
      have := Pthd.rput_any base q N f (dpX (thOf M f) ((dpN M f - 1 : Nat) : Int)) M wc h.dq.rh.rx
      rw [b1, b2] at this
      rw [show ((dpN M f : Nat) : Int) - 1 = ((dpN M f - 1 : Nat) : Int) by omega]
      exact this.mono fun e w' ⟨q1, q2, q3, q4⟩ => ⟨q1, h.turn q2 q3 q4⟩
    rw [ht] at HT ⊢
    generalize ppM N M f = M1 at HPu ⊢
    generalize thOf M f = y at HG HPu
    generalize tpX N M f = X at HT ⊢
    generalize dpN M f = d at HG HPu hd1 h6
    have hw : wrap64 ((d : Int) - 1) = (d : Int) - 1 := by unfold wrap64; omega
    clear b1 b2 hde hf hg ht h hd1 h6
    go_enter Tryz.func10, Tryz.ntmps10
    go_upto_region 6 with (first
      | (go_at_call 14; refine (HT.out _ H0.out).mono ?_; rintro e1 w1 ⟨rfl, hb⟩; have H1 := rhide ((H0.out.on hb).more X); clear hb H0 HT)
      | (go_at_call 36; refine (HG.out _ _ _ H1.out).mono ?_; rintro e2 w2 ⟨rfl, hb⟩; have H2 := rhide (H1.out.on hb); clear hb H1 HG)
      | fail)
    have H3 := rhide (H2.out.on (bal (Below.refl w2.heap.size w2) (.cells #[.int .i64 y.st, .int .i64 y.co, .int .i64 y.tc, .int .i64 y.rc, .int .i64 ((d : Int) - 1)] 34)))
    have HT3 : Hid (RowT _ w2.heap.size (dpX y ((d : Int) - 1))) := rowT_new w2 (dpX y ((d : Int) - 1))
    have HT4 : Hid (RowT (w2.alloc (.cells #[.int .i64 y.st, .int .i64 y.co, .int .i64 y.tc, .int .i64 y.rc, .int .i64 ((d : Int) - 1)] 34)) w2.heap.size (dpX y ((d : Int) - 1))) := HT3
    clear HT3 H2
    generalize w2.alloc _ = v at H3 HT4 ⊢
    generalize w2.heap.size = D at HT4 ⊢
    generalize w1.heap.size = A at H3 ⊢
    have x0 := H3.out.dq.res.c0
    have x1 := H3.out.dq.res.c1
    have x2 := H3.out.dq.res.c2
    have x3 := H3.out.dq.res.c3
    have x4 := H3.out.dq.res.c4
    have x5 := H3.out.dq.res.c5
    have z := H3.out.dq.res.fz
    have r0 := H3.out.rr.c0
    have r1 := H3.out.rr.c1
    have r2 := H3.out.rr.c2
    have r3 := H3.out.rr.c3
    have r4 := H3.out.rr.c4
    have r5 := H3.out.rr.c5
    have u0 : v.cell? ⟨D, 0, none⟩ = some (.int .i64 y.st) := HT4.out.c0
    have u1 : v.cell? ⟨D, 1, none⟩ = some (.int .i64 y.co) := HT4.out.c1
    have u2 : v.cell? ⟨D, 2, none⟩ = some (.int .i64 y.tc) := HT4.out.c2
    have u3 : v.cell? ⟨D, 3, none⟩ = some (.int .i64 y.rc) := HT4.out.c3
    have u4 : v.cell? ⟨D, 4, none⟩ = some (.int .i64 ((d : Int) - 1)) := HT4.out.c4
    go_region_with (first
      | (go_at_call 38; refine (HPu.out _ _ _ (by first | exact H3.out | exact H3.out.on (Below.refl _ _).drew)).mono ?_; rintro e4 w4 ⟨rfl, hw⟩; have H4 := rhide hw; clear hw HPu H3 x0 x1 x2 x3 x4 x5 r0 r1 r2 r3 r4 r5 z; have x0 := H4.out.dq.res.c0; have x1 := H4.out.dq.res.c1; have x2 := H4.out.dq.res.c2; have x3 := H4.out.dq.res.c3; have x4 := H4.out.dq.res.c4; have x5 := H4.out.dq.res.c5; have z := H4.out.dq.res.fz; have r0 := H4.out.rr.c0; have r1 := H4.out.rr.c1; have r2 := H4.out.rr.c2; have r3 := H4.out.rr.c3; have r4 := H4.out.rr.c4; have r5 := H4.out.rr.c5)
      | fail)
    all_goals
      go_wp2
      refine bodyPost_ret (v := .tuple #[.agg #[.int .i64 X.co, .int .i64 X.tb, .int .i64 X.pg, .int .i64 X.l, .int .i64 X.e, .int .i64 X.ip], .int .i64 0]) (by simp [results, Tryz.results10, go_sem, x0, x1, x2, x3, x4, x5]) rfl ⟨rfl, ?_⟩
      have H5 := rh_six H4.out.dq.rh H4.out.dq.res HBs.out X
      exact ⟨H5.rx, H5.below, H5.kp⟩
  · have e2 : ppM N M f = M := by unfold ppM; rw [if_neg ht]
    rw [e2, show tpX N M f = rc0 by unfold tpX; rw [if_neg ht]]
    rw [show tpX N M f = rc0 by unfold tpX; rw [if_neg ht]] at HT
    generalize tpE N M f = E at HT ht ⊢
    have hE : (E != 0) = true := by simp [ht]
    clear e2 h ht
    go_enter Tryz.func10, Tryz.ntmps10
    go_wp2_with (first
      | (go_at_call 14; refine (HT.out _ H0.out).mono ?_; rintro e1 w1 ⟨rfl, hb⟩; have H1 := rhide ((H0.out.on hb).on (bal (Below.refl _ _) (.cells #[.int .i64 rc0.co, .int .i64 rc0.tb, .int .i64 rc0.pg, .int .i64 rc0.l, .int .i64 rc0.e, .int .i64 rc0.ip] 38))); clear hb H0 HT; have x0 := H1.out.res.c0; have x1 := H1.out.res.c1; have x2 := H1.out.res.c2; have x3 := H1.out.res.c3; have x4 := H1.out.res.c4; have x5 := H1.out.res.c5; have z := H1.out.res.fz)
      | fail)
    refine bodyPost_ret (v := .tuple #[.agg #[.int .i64 0, .int .i64 0, .int .i64 0, .int .i64 0, .int .i64 0, .int .i64 0], .int .i64 E]) (by simp [results, Tryz.results10, go_sem, x0, x1, x2, x3, x4, x5]) rfl ⟨rfl, ?_⟩
    have H5 := rh_six H1.out.rh H1.out.res HBs.out rc0
    exact ⟨H5.rx, H5.below, H5.kp⟩
/-! ### Ip -/
theorem tp_ro {N : Nat} {M : Nat → Nat → Int} {f : Int} (hF : Fit M) (h : tpE N M f = 0) : Ro (tpX N M f) := by
  obtain ⟨hg, hd, hr⟩ := tp_yes h
  unfold rcE rdE at hr
  split at hr
  · rename_i hb
    have e : tpX N M f = rdR (M f.toNat (17 + 2 * (dpN M f - 1))) (M f.toNat (18 + 2 * (dpN M f - 1))) := by
      unfold tpX rcX rdX
      rw [if_pos h, if_pos hb]
    rw [e]
    exact rd_ro (hF _ _) (hF _ _).1 hb
  · exact absurd hr (by decide)
theorem ip_ro {x : Rc} {p : Int} (h : Ro x) (hp : 0 ≤ p ∧ p ≤ 1073741824) : Ro (ipX x p) := by
  unfold Ro at h ⊢
  unfold ipX
  dsimp only
  omega
/-- The document's memory, and the record that was read. -/
structure Di (w W : World) (base q N : Nat) (M : Nat → Nat → Int) (A : Nat) (X : Rc) : Prop where
  rh : Rh w W base q N M
  rr : RowR W A X
  al : w.heap.size ≤ A
theorem rh_self {w : World} {base q N : Nat} {M : Nat → Nat → Int} (h : Rx w base q N M) : Rh w w base q N M := ⟨h, Below.refl _ _, KeepX.refl _ _⟩
theorem di_new {w W : World} {base q N : Nat} {M : Nat → Nat → Int} (h : Rh w W base q N M) (hs : w.heap.size ≤ W.heap.size) (X : Rc) : Di w (W.alloc (.cells #[.int .i64 X.co, .int .i64 X.tb, .int .i64 X.pg, .int .i64 X.l, .int .i64 X.e, .int .i64 X.ip] 38)) base q N M W.heap.size X := ⟨h.on (bal (Below.refl _ _) _), rowR_new W X, hs⟩
theorem Di.on {w W W' : World} {base q N : Nat} {M : Nat → Nat → Int} {A : Nat} {X : Rc} (h : Di w W base q N M A X) (hB : Below W.heap.size W W') : Di w W' base q N M A X := ⟨h.rh.on hB, h.rr.on hB, h.al⟩
theorem Di.set {w W : World} {base q N : Nat} {M : Nat → Nat → Int} {A : Nat} {X : Rc} (h : Di w W base q N M A X) (hb : base ≤ w.heap.size) (p : Int) : Di w (W.setCell ⟨A, 5, none⟩ (.int .i64 p)) base q N M A (ipX X p) := by
  refine ⟨rh_set h.rh h.rr.c0 h.al hb 5 _, ⟨?_⟩, h.al⟩
  rw [heap_setCell_same _ _ _ _ _ _ h.rr.row]
  rfl
set_option maxRecDepth 100000 in
set_option maxHeartbeats 2000000 in
theorem rip_any (base q N : Nat) (f p : Int) (M : Nat → Nat → Int) (w : World) (h : Rx w base q N M) :
    Calls Tryz.prog 12 #[.pointer (some ⟨q, 0, none⟩), .int .i64 f, .int .i64 p] w fun e w' => e = .returned (.int .i64 (ipE N M f p)) ∧ Rx w' base q N (ipM N M f p) ∧ Below base w w' ∧ KeepX q w w' := by
  have H0 := rhide (rh_self h)
  have HBs := rhide h.le
  have HT : Hid (∀ wc, Rh w wc base q N M → Calls Tryz.prog 14 #[.pointer (some ⟨q, 0, none⟩), .int .i64 f] wc fun e w' => e = .returned (.tuple #[.agg #[.int .i64 (tpX N M f).co, .int .i64 (tpX N M f).tb, .int .i64 (tpX N M f).pg, .int .i64 (tpX N M f).l, .int .i64 (tpX N M f).e, .int .i64 (tpX N M f).ip], .int .i64 (tpE N M f)]) ∧ Below wc.heap.size wc w') := fun wc h => rtop_any base q N f M wc h.rx
  by_cases ht : tpE N M f = 0
  · obtain ⟨hg, hd1, _⟩ := tp_yes ht
    obtain ⟨hf, hde, h6⟩ := gt_dp hg
    have HI : Hid (∀ wc, Calls Tryz.prog 43 #[.int .i64 p, .int .i64 0, .int .i64 1073741824] wc fun e w' => e = .returned (.bool (ipB p)) ∧ w' = wc) := fun wc => in_any p 0 1073741824 wc
    rw [ht] at HT
    cases hq : ipB p
    · have e1 : ipE N M f p = 1 := by unfold ipE; rw [if_pos ht, hq]; rfl
      have e2 : ipM N M f p = M := by unfold ipM; rw [if_neg (by rw [e1]; decide)]
      rw [e1, e2]
      rw [hq] at HI
      generalize tpX N M f = X at HT
      clear e1 e2 hq hg hd1 hf hde h6 ht h
      go_enter Tryz.func12, Tryz.ntmps12
      go_wp2_with (first
        | (go_at_call 14; refine (HT.out _ H0.out).mono ?_; rintro e1 w1 ⟨rfl, hb⟩; have H1 := rhide ((H0.out.on hb).on (bal (Below.refl _ _) (.cells #[.int .i64 X.co, .int .i64 X.tb, .int .i64 X.pg, .int .i64 X.l, .int .i64 X.e, .int .i64 X.ip] 38))); clear hb H0 HT)
        | (go_at_call 43; refine (HI.out _).mono ?_; rintro e2 w2 ⟨rfl, hw⟩; subst w2)
        | fail)
      go_ret
      exact ⟨rfl, H1.out.rx, H1.out.below, H1.out.kp⟩
    · have e1 : ipE N M f p = 0 := by unfold ipE; rw [if_pos ht, if_pos hq]
      have hro := ip_ro (tp_ro h.fit ht) ((ipB_iff p).1 hq)
      have HG : Hid (∀ A X wc, Di w wc base q N M A X → Calls Tryz.prog 36 #[.pointer (some ⟨q, 0, none⟩), .int .i64 f] wc fun e w' => e = .returned (.tuple #[.agg #[.int .i64 (thOf M f).st, .int .i64 (thOf M f).co, .int .i64 (thOf M f).tc, .int .i64 (thOf M f).rc, .int .i64 ((dpN M f : Nat) : Int)], .int .i64 0]) ∧ Below wc.heap.size wc w') := fun A X wc h => by
        have := Pthd.rget_any base q N f M wc h.rh.rx
        rwa [hg, (gt_yes hg).2.2, hde] at this
      have HL : Hid (∀ A X wc, Di w wc base q N M A X → Calls Tryz.prog 37 #[.pointer (some ⟨q, 0, none⟩), .int .i64 f, .int .i64 (((dpN M f : Nat) : Int) - 1), .agg #[.int .i64 (ipX (tpX N M f) p).co, .int .i64 (ipX (tpX N M f) p).tb, .int .i64 (ipX (tpX N M f) p).pg, .int .i64 (ipX (tpX N M f) p).l, .int .i64 (ipX (tpX N M f) p).e, .int .i64 (ipX (tpX N M f) p).ip]] wc fun e w' => e = .returned (.tuple #[]) ∧ Rh w w' base q N (ipM N M f p)) := fun A X wc hd => by
        have := rly_any base q N f (dpN M f - 1) (ipX (tpX N M f) p) M wc hd.rh.rx hro (by omega)
        rw [ip_lay h.fit e1] at this
        rw [show ((dpN M f : Nat) : Int) - 1 = ((dpN M f - 1 : Nat) : Int) by omega]
        exact this.mono fun e w' ⟨q1, q2, q3, q4⟩ => ⟨q1, q2, hd.rh.below.trans q3, hd.rh.kp.trans q4⟩
      rw [e1]
      rw [hq] at HI
      generalize ipM N M f p = M1 at HL ⊢
      generalize thOf M f = y at HG
      generalize tpX N M f = X at HT HL
      generalize dpN M f = d at HG HL hd1 h6
      have hw : wrap64 ((d : Int) - 1) = (d : Int) - 1 := by unfold wrap64; omega
      have HSz := rhide (Nat.le_refl w.heap.size)
      clear e1 hq hg hd1 hf hde h6 ht h hro
      go_enter Tryz.func12, Tryz.ntmps12
      go_upto_region 7 with (first
        | (go_at_call 14; refine (HT.out _ H0.out).mono ?_; rintro e1 w1 ⟨rfl, hb⟩; have H1 := rhide (di_new (H0.out.on hb) hb.size X); clear hb H0 HT)
        | (go_at_call 43; refine (HI.out _).mono ?_; rintro e2 w2 ⟨rfl, hw⟩; subst w2)
        | (go_at_call 36; refine (HG.out _ _ _ H1.out).mono ?_; rintro e3 w3 ⟨rfl, hb⟩; have H2 := rhide (H1.out.on hb); clear hb H1 HG)
        | fail)
      have HT4 : Hid (RowT (w3.alloc (.cells #[.int .i64 y.st, .int .i64 y.co, .int .i64 y.tc, .int .i64 y.rc, .int .i64 (d : Int)] 34)) w3.heap.size (dpX y (d : Int))) := rowT_new w3 (dpX y (d : Int))
      have H3 := rhide (H2.out.on (bal (Below.refl w3.heap.size w3) (.cells #[.int .i64 y.st, .int .i64 y.co, .int .i64 y.tc, .int .i64 y.rc, .int .i64 (d : Int)] 34)))
      have hne : w1.heap.size ≠ w3.heap.size := Nat.ne_of_lt H2.out.rr.lt
      clear H2
      generalize w3.alloc _ = v at H3 HT4 ⊢
      generalize w3.heap.size = D at HT4 hne ⊢
      generalize w1.heap.size = A at H3 hne ⊢
      have x0 := H3.out.rr.c0
      have x1 := H3.out.rr.c1
      have x2 := H3.out.rr.c2
      have x3 := H3.out.rr.c3
      have x4 := H3.out.rr.c4
      have x5 := H3.out.rr.c5
      have z5 := H3.out.rr.fz 5
      have u4 : v.cell? ⟨D, 4, none⟩ = some (.int .i64 (d : Int)) := HT4.out.c4
      have H4 := rhide (H3.out.set HBs.out p)
      have hne' : D ≠ A := fun e => hne e.symm
      go_wp2_with (first
        | (go_at_call 37; refine (HL.out _ _ _ H4.out).mono ?_; rintro e5 w5 ⟨rfl, hw⟩; have H5 := rhide hw; clear hw HL H4)
        | fail)
      go_ret
      exact ⟨rfl, H5.out.rx, H5.out.below, H5.out.kp⟩
  · have e1 : ipE N M f p = tpE N M f := by unfold ipE; rw [if_neg ht]
    have e2 : ipM N M f p = M := by unfold ipM; rw [if_neg (by rw [e1]; exact ht)]
    rw [e1, e2]
    generalize tpX N M f = X at HT
    generalize tpE N M f = E at HT ht ⊢
    have hE : (E != 0) = true := by simp [ht]
    clear e1 e2 h ht
    go_enter Tryz.func12, Tryz.ntmps12
    go_wp2_with (first
      | (go_at_call 14; refine (HT.out _ H0.out).mono ?_; rintro e1 w1 ⟨rfl, hb⟩; have H1 := rhide ((H0.out.on hb).on (bal (Below.refl _ _) (.cells #[.int .i64 X.co, .int .i64 X.tb, .int .i64 X.pg, .int .i64 X.l, .int .i64 X.e, .int .i64 X.ip] 38))); clear hb H0 HT)
      | fail)
    go_ret
    exact ⟨rfl, H1.out.rx, H1.out.below, H1.out.kp⟩
/-! ### All -/
theorem own_ge6 {w : World} {base : Nat} {e : TypeId} {v : Value} {n : Nat} {xs : List Value} (h : w.ownsRow base e 6 v n xs) : ∀ k, v.ownBlock = some k → base ≤ k := fun k hk => (h.lt k hk).1
theorem own_neT {w : World} {D base : Nat} {y : Th} {v : Value} {n : Nat} {xs : List Value} (h : w.ownsRow base 38 6 v n xs) (ht : RowT w D y) : v.ownBlock ≠ some D := by
  intro e
  rcases h.2 with ⟨rfl, _⟩ | ⟨g, cap, cur, rfl, hb, hg, _⟩
  · cases e
  · obtain rfl : g = D := Option.some.inj e
    have hr := ht.row
    rw [hg] at hr
    simp only [Option.some.injEq, Obj.cells.injEq] at hr
    exact absurd hr.2.1 (by decide)
/-- The document's memory, the thread that was read, and the list that grows. -/
structure Ra (w0 w : World) (base q N : Nat) (M : Nat → Nat → Int) (f : Int) (d D : Nat) (y : Th) (v : Value) (k : Nat) : Prop where
  rx : Rx w base q N M
  below : Below w0.heap.size w0 w
  row : w.ownsRow w0.heap.size 38 6 v k (recsOf M f (upto d k))
  th : RowT w D y
theorem Ra.on {w0 w w' : World} {base q N : Nat} {M : Nat → Nat → Int} {f : Int} {d D : Nat} {y : Th} {v : Value} {k : Nat} (h : Ra w0 w base q N M f d D y v k) (hB : Below w.heap.size w w') : Ra w0 w' base q N M f d D y v k :=
  ⟨h.rx.grown hB, h.below.trans (hB.mono h.below.size), h.row.kept (grown_none hB) (by cases hv : v.ownBlock <;> simp), h.th.on hB⟩
theorem Ra.step {w0 w w1 : World} {base q N : Nat} {M : Nat → Nat → Int} {f : Int} {d D : Nat} {y : Th} {v v' : Value} {k : Nat} {o : Obj} (h0 : Rx w0 base q N M) (h : Ra w0 w base q N M f d D y v k) (hk : k < d) (hown : w1.ownsRow w0.heap.size 38 6 v' (k + 1) (recsOf M f (upto d k) ++ cells6 M f k)) (hg : (w.alloc o).grownBy w1 v.ownBlock) : Ra w0 w1 base q N M f d D y v' (k + 1) := by
  have hB : Below w0.heap.size w0 w1 := (bal h.below o).grown hg (by have := h.below.size; simp; omega) (own_ge6 h.row)
  have hn := own_neT h.row h.th
  have ht := (h.th.on (bal (Below.refl _ _) o)).row
  exact ⟨h0.grown hB, hB, by rw [upto_succ hk, recsOf_snoc]; exact hown, ⟨(hg.block D (Array.getElem?_eq_some_iff.1 ht).1 (fun e => hn e.symm)).trans ht⟩⟩
set_option maxRecDepth 100000 in
set_option maxHeartbeats 2000000 in
theorem rall_in (base q N d : Nat) (f : Int) (y : Th) (M : Nat → Nat → Int) (w : World) (h : Rx w base q N M) (hd : d ≤ 6) (hf : okF N f = true)
    (HG : Hid (Calls Tryz.prog 36 #[.pointer (some ⟨q, 0, none⟩), .int .i64 f] w fun e w' => e = .returned (.tuple #[.agg #[.int .i64 y.st, .int .i64 y.co, .int .i64 y.tc, .int .i64 y.rc, .int .i64 (d : Int)], .int .i64 0]) ∧ Below w.heap.size w w')) :
    Calls Tryz.prog 16 #[.pointer (some ⟨q, 0, none⟩), .int .i64 f] w fun e w' =>
      (((∀ j : Nat, j < d → rcE M f j = 0) ∧ ∃ v, e = .returned (.tuple #[v, .int .i64 0]) ∧ w'.ownsRow w.heap.size 38 6 v d (recsOf M f (upto d d))) ∨
       (∃ x : Nat, x < d ∧ rcE M f x ≠ 0 ∧ e = .returned (.tuple #[.slice none 0 0, .int .i64 (rcE M f x)]))) ∧ Below w.heap.size w w' := by
  obtain ⟨it, hi, hz0, hz1, hz2⟩ := info_parts infoFrame
  have HR := rhide h
  have HF := rhide (And.intro hd hf)
  clear h
  go_enter Tryz.func16, Tryz.ntmps16
  go_wp2_with (first
    | (go_at_call 36; refine HG.out.mono ?_; rintro e1 w1 ⟨rfl, hb⟩; have H0 := rhide hb; clear hb HG)
    | fail)
  have H1 : Hid (Ra w (w1.alloc (.cells #[.int .i64 y.st, .int .i64 y.co, .int .i64 y.tc, .int .i64 y.rc, .int .i64 (d : Int)] 34)) base q N M f d w1.heap.size (dpX y (d : Int)) (.slice none 0 0) 0) := ⟨HR.out.grown (bal H0.out _), bal H0.out _, World.ownsRow_nil _ _ _ _, rowT_new w1 (dpX y (d : Int))⟩
  clear H0
  generalize w1.alloc _ = v0 at H1 ⊢
  generalize w1.heap.size = D at H1 ⊢
  go_loopw [8, 9] (fun v i wr => ∃ k : Nat, k ≤ d ∧ i = .int .i64 k ∧ (∀ j : Nat, j < k → rcE M f j = 0) ∧ Ra w wr base q N M f d D (dpX y (d : Int)) v k) (fun _ i _ => d - (intOf i).toNat)
  case atStart => exact ⟨0, by omega, rfl, fun j hj => by omega, H1.out⟩
  case round =>
    obtain ⟨k, hk, rfl, hok, hI⟩ := hrel
    have HI := rhide hI
    have HO : Hid (∀ j : Nat, j < k → rcE M f j = 0) := hok
    obtain ⟨av, cv, rfl⟩ := ownsRow_slice hI.row
    have u4 : wr.cell? ⟨D, 4, none⟩ = some (.int .i64 (d : Int)) := hI.th.c4
    clear hI hok H1
    by_cases hlt : k < d
    · have hki : (k : Int) < (d : Int) := by omega
      have HRd : Hid (∀ wc, Rx wc base q N M → Calls Tryz.prog 44 #[.pointer (some ⟨q, 0, none⟩), .int .i64 f, .int .i64 (k : Int)] wc fun e w' => e = .returned (.tuple #[.agg #[.int .i64 (rcX M f k).co, .int .i64 (rcX M f k).tb, .int .i64 (rcX M f k).pg, .int .i64 (rcX M f k).l, .int .i64 (rcX M f k).e, .int .i64 (rcX M f k).ip], .int .i64 (rcE M f k)]) ∧ Below wc.heap.size wc w') := fun wc h => rrd_any base q N f k M wc h HF.out.2 (by omega)
      obtain ⟨E, hE⟩ : ∃ E, E = rcE M f k := ⟨_, rfl⟩
      rw [← hE] at HRd
      have HE : Hid (E = rcE M f k) := hE
      clear hE
      go_upto_region 9 with (first
        | (go_at_call 44; refine (HRd.out _ HI.out.rx).mono ?_; rintro e1 w2 ⟨rfl, hb⟩; have H1 := rhide (HI.out.on hb); clear hb HRd HI u4)
        | fail)
      have H2 := H1.out.on (bal (Below.refl w2.heap.size w2) (.cells #[.int .i64 (rcX M f k).co, .int .i64 (rcX M f k).tb, .int .i64 (rcX M f k).pg, .int .i64 (rcX M f k).l, .int .i64 (rcX M f k).e, .int .i64 (rcX M f k).ip] 38))
      have hx := rowR_new w2 (rcX M f k)
      generalize w2.alloc _ = v1 at H2 hx ⊢
      generalize w2.heap.size = A at hx ⊢
      have H3 := rhide H2
      clear H1 H2
      by_cases h0 : E = 0
      · subst h0
        have x0 := hx.c0
        have x1 := hx.c1
        have x2 := hx.c2
        have x3 := hx.c3
        have x4 := hx.c4
        have x5 := hx.c5
        have hsz : w.heap.size ≤ v1.heap.size := H3.out.below.size
        clear hx
        go_wp2_with (first
          | (at_builtin; refine wpList_append_own _ rfl _ _ 25 rfl w.heap.size 38 it (.agg #[.int .i64 0, .int .i64 0, .int .i64 0, .int .i64 0, .int .i64 0, .int .i64 0]) 6 48 Tryz.underlying25 hi hz0 hz1 hz2 rfl (by decide) _ _ _ rfl (H3.out.row.alloc _) ⟨v1.heap.size, 0, none⟩ 1 1 (cells6 M f k) rfl rfl (six_new v1 _ _ _ _ _ _ _) (six_one M f k) (by unfold maxLen; omega) (by omega) (by simp; omega) ?_; intro v' w4 hown hgrow _; have H4 := rhide (H3.out.step HR.out hlt hown hgrow); clear hown hgrow)
          | fail)
        go_roundw
        case rel =>
          refine ⟨k + 1, by omega, by go_num, fun j hj => ?_, H4.out⟩
          by_cases e : j = k
          · subst e; exact HE.out.symm
          · exact HO.out j (by omega)
        case measure => simp [intOf]; omega
      · have hne : (E != 0) = true := by simp [h0]
        clear hx
        go_wp2
        go_ret2
        exact ⟨.inr ⟨k, hlt, by rw [← HE.out]; exact h0, by rw [← HE.out]; rfl⟩, H3.out.below⟩
    · obtain rfl : k = d := by omega
      go_wp2
      go_ret2
      exact ⟨.inl ⟨HO.out, _, rfl, HI.out.row⟩, HI.out.below⟩
set_option maxRecDepth 100000 in
theorem rall_no (base q N : Nat) (f E : Int) (y : Th) (w : World) (hE0 : E ≠ 0)
    (HG : Hid (Calls Tryz.prog 36 #[.pointer (some ⟨q, 0, none⟩), .int .i64 f] w fun e w' => e = .returned (.tuple #[.agg #[.int .i64 y.st, .int .i64 y.co, .int .i64 y.tc, .int .i64 y.rc, .int .i64 y.de], .int .i64 E]) ∧ Below w.heap.size w w')) :
    Calls Tryz.prog 16 #[.pointer (some ⟨q, 0, none⟩), .int .i64 f] w fun e w' => e = .returned (.tuple #[.slice none 0 0, .int .i64 E]) ∧ Below w.heap.size w w' := by
  have hE : (E != 0) = true := by simp [hE0]
  clear hE0
  go_enter Tryz.func16, Tryz.ntmps16
  go_wp2_with (first
    | (go_at_call 36; refine HG.out.mono ?_; rintro e1 w1 ⟨rfl, hb⟩; have H0 := rhide hb; clear hb HG)
    | fail)
  go_ret2
  exact ⟨rfl, bal H0.out _⟩
theorem rall_any (base q N : Nat) (f : Int) (M : Nat → Nat → Int) (w : World) (h : Rx w base q N M) :
    Calls Tryz.prog 16 #[.pointer (some ⟨q, 0, none⟩), .int .i64 f] w fun e w' => ∃ v, e = .returned (.tuple #[v, .int .i64 (alE N M f)]) ∧ Recs w' w.heap.size v (alL N M f) ∧ Below w.heap.size w w' := by
  have hG := Pthd.rget_any base q N f M w h
  by_cases hg : gtE N M f = 0
  · obtain ⟨hf, hde, h6⟩ := gt_dp hg
    rw [hg, (gt_yes hg).2.2, hde] at hG
    refine (rall_in base q N (dpN M f) f (thOf M f) M w h h6 hf hG).mono ?_
    rintro e w' ⟨h | ⟨x, hx, hx0, rfl⟩, hB⟩
    · obtain ⟨h1, v, rfl, hv⟩ := h
      obtain ⟨e1, e2⟩ := al_yes hg h1
      rw [e1, e2]
      exact ⟨v, rfl, recs_of_own hv, hB⟩
    · obtain ⟨e1, e2⟩ := al_no hg hx hx0
      rw [e1, e2]
      exact ⟨_, rfl, recs_nil _ _, hB⟩
  · obtain ⟨e1, e2⟩ := al_err hg
    rw [e1, e2]
    exact (rall_no base q N f (gtE N M f) (gtT N M f) w hg hG).mono fun e w' ⟨q1, q2⟩ => ⟨_, q1, recs_nil _ _, q2⟩
end Go.Proofs.YtoipfcmjphlmfaaGreatDoor.Pstack
