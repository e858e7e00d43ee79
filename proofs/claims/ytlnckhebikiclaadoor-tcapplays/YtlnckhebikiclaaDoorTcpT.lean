/- What the document's Charge and Give of layer 20 answer and do, over its own memory. -/
import Derived.Test.YtlnckhebikiclaaDoorTcpS
import Derived.Deep.RegionWith
namespace Go.Proofs.YtlnckhebikiclaaDoor.Ptcap
open Go.Proofs.YtlnckhebikiclaaDoor.Pbase Go.Proofs.YtlnckhebikiclaaDoor.Play Go.Proofs.YtlnckhebikiclaaDoor.Pmem
open Go.RowKit
set_option linter.unusedVariables false

/-- The document's memory and what was laid since. -/
structure Rh (w W : World) (base q N : Nat) (M : Nat → Nat → Int) : Prop where
  rx : Rx W base q N M
  below : Below base w W
  kp : KeepX q w W
theorem Rh.on {w W W' : World} {base q N : Nat} {M : Nat → Nat → Int} (h : Rh w W base q N M) (hB : Below W.heap.size W W') : Rh w W' base q N M := ⟨h.rx.grown hB, h.below.trans (hB.mono h.rx.le), h.kp.trans (KeepX.below hB)⟩
theorem rh_self {w : World} {base q N : Nat} {M : Nat → Nat → Int} (h : Rx w base q N M) : Rh w w base q N M := ⟨h, Below.refl _ _, KeepX.refl _ _⟩
/-! ### Charge -/
/-- And a budget in a block. -/
structure Rc (w W : World) (base q N : Nat) (M : Nat → Nat → Int) (D : Nat) (x : Bd) : Prop where
  rh : Rh w W base q N M
  row : RowB W D x
theorem Rc.on {w W W' : World} {base q N : Nat} {M : Nat → Nat → Int} {D : Nat} {x : Bd} (h : Rc w W base q N M D x) (hB : Below W.heap.size W W') : Rc w W' base q N M D x := ⟨h.rh.on hB, h.row.on hB⟩
theorem Rc.turn {w W W' : World} {base q N : Nat} {M M' : Nat → Nat → Int} {D : Nat} {x : Bd} (h : Rc w W base q N M D x) (hR : Rx W' base q N M') (hB : Below base W W') (hK : KeepX q W W') : Rc w W' base q N M' D x := ⟨⟨hR, h.rh.below.trans hB, h.rh.kp.trans hK⟩, ⟨hK.t _ _ _ (by decide) h.row.row⟩⟩
set_option maxRecDepth 100000 in
set_option maxHeartbeats 2000000 in
theorem rcharge_any (base q N : Nat) (f n : Int) (M : Nat → Nat → Int) (w : World) (h : Rx w base q N M) :
    Calls Tryd.prog 14 #[.pointer (some ⟨q, 0, none⟩), .int .i64 f, .int .i64 n] w fun e w' => e = .returned (.tuple #[.bool (chB N M f n), .int .i64 (chE N M f n)]) ∧ Rx w' base q N (chM N M f n) ∧ Below base w w' ∧ KeepX q w w' := by
  have H0 := rhide (rh_self h)
  have HI : Hid (∀ wc, Calls Tryd.prog 42 #[.int .i64 n, .int .i64 0, .int .i64 1048576] wc fun e w' => e = .returned (.bool (chA n)) ∧ w' = wc) := fun wc => in_any n 0 1048576 wc
  have HG : Hid (∀ wc, Rh w wc base q N M → Calls Tryd.prog 16 #[.pointer (some ⟨q, 0, none⟩), .int .i64 f] wc fun e w' => e = .returned (.tuple #[.agg #[.bool (gtT N M f).inf, .int .i64 (gtT N M f).lf, .int .i64 (gtT N M f).pr], .int .i64 (gtE N M f)]) ∧ Below wc.heap.size wc w') := fun wc h => rget_any base q N f M wc h.rx
  cases hn : chA n
  · have e1 : chE N M f n = 1 := by unfold chE; rw [hn]; rfl
    have e2 : chB N M f n = false := by unfold chB; rw [if_neg (by rw [e1]; decide)]
    have e3 : chM N M f n = M := by unfold chM; rw [if_neg (fun e => by rw [e1] at e; exact absurd e.1 (by decide))]
    rw [e1, e2, e3]
    rw [hn] at HI
    clear e1 e2 e3 hn h HG
    go_enter Tryd.func14, Tryd.ntmps14
    go_wp2_with (first
      | (go_at_call 42; refine (HI.out _).mono ?_; rintro e1 w1 ⟨rfl, hw⟩; subst w1)
      | fail)
    go_ret2
    exact ⟨rfl, H0.out.rx, H0.out.below, H0.out.kp⟩
  rw [hn] at HI
  have e0 : chE N M f n = gtE N M f := by unfold chE; rw [if_pos hn]
  by_cases hg : gtE N M f = 0
  · obtain ⟨_, _, hbo, ht⟩ := gt_yes hg
    rw [hg, ht] at HG
    have ec : chE N M f n = 0 := e0.trans hg
    cases hi : (bdOf M f).inf
    · obtain ⟨p1, p2⟩ := ch_put ec hi
      have eb : chB N M f n = decide (chN (bdOf M f).lf n = 0) := by unfold chB; rw [if_pos ec, hi]; simp
      have HPu : Hid (∀ D x wc, Rc w wc base q N M D x → Calls Tryd.prog 10 #[.pointer (some ⟨q, 0, none⟩), .int .i64 f, .agg #[.bool (chX (bdOf M f) n).inf, .int .i64 (chX (bdOf M f) n).lf, .int .i64 (chX (bdOf M f) n).pr]] wc fun e w' => e = .returned (.int .i64 0) ∧ Rc w w' base q N (chM N M f n) D x) := fun D x wc h => by
        have := rput_any base q N f (chX (bdOf M f) n) M wc h.rh.rx
        rw [p1, p2] at this
        exact this.mono fun e w' ⟨q1, q2, q3, q4⟩ => ⟨q1, h.turn q2 q3 q4⟩
      rw [ec, eb]
      have hnb := (chA_iff n).1 hn
      unfold chX at HPu
      generalize chM N M f n = M1 at HPu ⊢
      unfold Bo at hbo
      generalize bdOf M f = y at HG HPu hi hbo ⊢
      obtain ⟨i, l, p⟩ := y
      dsimp only at hi hbo HPu
      subst hi
      have hw : wrap64 (l - n) = l - n := by unfold wrap64; omega
      have hmx : max (l - n) 0 = chN l n := by unfold chN; split <;> omega
      clear e0 hg ht ec p1 p2 eb hn h hnb hbo
      go_enter Tryd.func14, Tryd.ntmps14
      go_upto_region 9 with (first
        | (go_at_call 42; refine (HI.out _).mono ?_; rintro e1 w1 ⟨rfl, hw⟩; subst w1)
        | (go_at_call 16; refine (HG.out _ H0.out).mono ?_; rintro e2 w2 ⟨rfl, hb⟩; have H2 := rhide (H0.out.on hb); clear hb HG H0)
        | fail)
      rw [show (if l - n < 0 then 0 else l - n) = chN l n from rfl]
      have H3 : Hid (Rc w (w2.alloc (.cells #[.bool false, .int .i64 (chN l n), .int .i64 p] 33)) base q N M w2.heap.size ⟨false, chN l n, p⟩) := ⟨H2.out.on (bal (Below.refl _ _) _), rowB_new w2 ⟨false, chN l n, p⟩⟩
      have HZ : Hid ((chN l n == 0) = decide (chN l n = 0)) := by
        show (chN l n == 0) = decide (chN l n = 0)
        by_cases hh : chN l n = 0 <;> simp [hh]
      clear H2 hmx
      generalize w2.alloc _ = v at H3 ⊢
      generalize w2.heap.size = D at H3 ⊢
      generalize hcn : chN l n = c at HPu H3 HZ ⊢
      have HQ := rhide hcn
      clear hcn
      have x0 : v.cell? ⟨D, 0, none⟩ = some (.bool false) := H3.out.row.c0
      have x1 : v.cell? ⟨D, 1, none⟩ = some (.int .i64 c) := H3.out.row.c1
      have x2 : v.cell? ⟨D, 2, none⟩ = some (.int .i64 p) := H3.out.row.c2
      go_region_held3 (fun w' => w'.cell? ⟨D, 0, none⟩ = some (.bool false) ∧ w'.cell? ⟨D, 1, none⟩ = some (.int .i64 c) ∧ w'.cell? ⟨D, 2, none⟩ = some (.int .i64 p)) (first | (refine ⟨?_, ?_, ?_⟩ <;> with_reducible assumption) | go_keep)
      (first
        | (go_at_call 10; refine (HPu.out _ _ _ (by first | exact H3.out | exact H3.out.on (Below.refl _ _).drew)).mono ?_; rintro e4 w4 ⟨rfl, hw⟩; have H4 := rhide hw; clear hw HPu H3 x0 x1 x2; have x0 : w4.cell? ⟨D, 0, none⟩ = some (.bool false) := H4.out.row.c0; have x1 : w4.cell? ⟨D, 1, none⟩ = some (.int .i64 c) := H4.out.row.c1; have x2 : w4.cell? ⟨D, 2, none⟩ = some (.int .i64 p) := H4.out.row.c2)
        | fail)
      all_goals
        go_wp2
        go_ret2
        refine ⟨by rw [HZ.out, HQ.out]; rfl, ?_⟩
        first
          | exact ⟨H4.out.rh.rx, H4.out.rh.below, H4.out.rh.kp⟩
          | exact ⟨(H4.out.on (Below.refl _ _).drew).rh.rx, (H4.out.on (Below.refl _ _).drew).rh.below, (H4.out.on (Below.refl _ _).drew).rh.kp⟩
    · have eb : chB N M f n = false := by unfold chB; rw [if_pos ec, hi]; rfl
      have em : chM N M f n = M := by unfold chM; rw [if_neg (fun e => by rw [hi] at e; exact absurd e.2 (by decide))]
      rw [ec, eb, em]
      generalize bdOf M f = y at HG hi
      obtain ⟨i, l, p⟩ := y
      dsimp only at hi
      subst hi
      clear e0 hg ht ec eb em hn h hbo
      go_enter Tryd.func14, Tryd.ntmps14
      go_wp2_with (first
        | (go_at_call 42; refine (HI.out _).mono ?_; rintro e1 w1 ⟨rfl, hw⟩; subst w1)
        | (go_at_call 16; refine (HG.out _ H0.out).mono ?_; rintro e2 w2 ⟨rfl, hb⟩; have H2 := rhide ((H0.out.on hb).on (bal (Below.refl _ _) (.cells #[.bool true, .int .i64 l, .int .i64 p] 33))); clear hb HG H0)
        | fail)
      go_ret2
      exact ⟨rfl, H2.out.rx, H2.out.below, H2.out.kp⟩
  · have ec : chE N M f n ≠ 0 := by rw [e0]; exact hg
    have eb : chB N M f n = false := by unfold chB; rw [if_neg ec]
    have em : chM N M f n = M := by unfold chM; rw [if_neg (fun e => ec e.1)]
    rw [eb, em, e0]
    generalize gtE N M f = E at HG hg ⊢
    generalize gtT N M f = y at HG
    have hE : (E != 0) = true := by simp [hg]
    clear e0 hg ec eb em hn h
    go_enter Tryd.func14, Tryd.ntmps14
    go_wp2_with (first
      | (go_at_call 42; refine (HI.out _).mono ?_; rintro e1 w1 ⟨rfl, hw⟩; subst w1)
      | (go_at_call 16; refine (HG.out _ H0.out).mono ?_; rintro e2 w2 ⟨rfl, hb⟩; have H2 := rhide ((H0.out.on hb).on (bal (Below.refl _ _) (.cells #[.bool y.inf, .int .i64 y.lf, .int .i64 y.pr] 33))); clear hb HG H0)
      | fail)
    go_ret2
    exact ⟨rfl, H2.out.rx, H2.out.below, H2.out.kp⟩
/-! ### Give -/
/-- A store into a block of a budget that a call laid itself leaves the document's memory, and all that was there. -/
theorem ref_apartB {w w' : World} {base q N : Nat} {M : Nat → Nat → Int} {B : Nat} {z : Bool} (h : RefIs w base q N M) (hN : 1 ≤ N) (hB : w.cell? ⟨B, 0, none⟩ = some (.bool z)) (hk : ∀ k, k ≠ B → w'.heap[k]? = w.heap[k]?) : RefIs w' base q N M := by
  obtain ⟨hb, v0, hv, r, cc, h1, h2, h3⟩ := h
  rcases h1.2 with ⟨_, e⟩ | ⟨g, cap, cur, e, hg, hh, rest⟩
  · omega
  · refine ⟨hb, v0, ?_, r, cc, ⟨h1.1, .inr ⟨g, cap, cur, e, hg, ?_, rest⟩⟩, fun j hj => ?_, h3⟩
    · rw [hk q (by rintro rfl; rw [cell_of_row _ _ _ _ _ _ hv, e] at hB; simp at hB)]; exact hv
    · subst e
      rw [hk g (by rintro rfl; rw [h1.cellAt 0 (by omega)] at hB; simp at hB)]; exact hh
    · obtain ⟨hbj, cu, hc, hw⟩ := h2 j hj
      refine ⟨hbj, cu, ?_, hw⟩
      rw [hk (r j) (by intro e; rw [← e, cell_of_row _ _ _ _ _ _ hc, hw 0 (by omega)] at hB; simp at hB)]; exact hc
theorem keepX_ownB {q : Nat} {a w : World} (h : KeepX q a w) {D : Nat} (hD : a.heap.size ≤ D) (j : Nat) (v : Value) : KeepX q a (w.setCell ⟨D, j, none⟩ v) := by
  have eo : ∀ b k, b ≠ D → (w.setCell ⟨D, j, none⟩ v).cell? ⟨b, k, none⟩ = w.cell? ⟨b, k, none⟩ := fun b k hb => World.cell?_of_block (heap_setCell_other _ _ _ _ hb)
  refine ⟨fun B cs t ht e => ?_, by rw [World.size_setCell]; exact h.size, fun T hT => ?_⟩
  · have hl := (Array.getElem?_eq_some_iff.1 e).1
    rw [heap_setCell_other _ _ _ _ (by show B ≠ D; omega)]
    exact h.t B cs t ht e
  · have hTa := hT.1
    obtain ⟨⟨t0, tp, t1⟩, u1⟩ := h.up T hT
    refine ⟨⟨by rw [World.size_setCell]; exact t0, tp, fun g n cap e => ?_⟩, fun i h1 h2 => (heap_setCell_other _ _ _ _ (by show i ≠ D; omega)).trans (u1 i h1 h2)⟩
    rw [eo q 0 (by omega)] at e
    obtain ⟨a1, a2⟩ := t1 g n cap e
    refine ⟨a1, fun f x l c hf e2 => ?_⟩
    rw [eo g f (by omega)] at e2
    exact a2 f x l c hf e2
theorem rh_setB {w W : World} {base q N : Nat} {M : Nat → Nat → Int} (h : Rh w W base q N M) {D : Nat} {z : Bool} (hz : W.cell? ⟨D, 0, none⟩ = some (.bool z)) (hD : w.heap.size ≤ D) (hb : base ≤ w.heap.size) (j : Nat) (v : Value) : Rh w (W.setCell ⟨D, j, none⟩ v) base q N M :=
  ⟨⟨ref_apartB h.rx.ref h.rx.n1 hz (fun k hk => heap_setCell_other _ _ _ _ hk), h.rx.fit, h.rx.n1, h.rx.n64⟩, h.below.setCell (p := ⟨D, j, none⟩) (by show base ≤ D; omega) v, keepX_ownB h.kp hD j v⟩
/-- The document's memory and two budgets of the call's own. -/
structure Rv (w W : World) (base q N : Nat) (M : Nat → Nat → Int) (A B : Nat) (x y : Bd) : Prop where
  rh : Rh w W base q N M
  ra : RowB W A x
  rb : RowB W B y
  la : w.heap.size ≤ A
  lt : A < B
theorem Rv.turn {w W W' : World} {base q N : Nat} {M M' : Nat → Nat → Int} {A B : Nat} {x y : Bd} (h : Rv w W base q N M A B x y) (hR : Rx W' base q N M') (hB : Below base W W') (hK : KeepX q W W') : Rv w W' base q N M' A B x y := ⟨⟨hR, h.rh.below.trans hB, h.rh.kp.trans hK⟩, ⟨hK.t _ _ _ (by decide) h.ra.row⟩, ⟨hK.t _ _ _ (by decide) h.rb.row⟩, h.la, h.lt⟩
theorem Rv.setA {w W : World} {base q N : Nat} {M : Nat → Nat → Int} {A B : Nat} {x y : Bd} (h : Rv w W base q N M A B x y) (hb : base ≤ w.heap.size) (v : Int) : Rv w (W.setCell ⟨A, 1, none⟩ (.int .i64 v)) base q N M A B ⟨x.inf, v, x.pr⟩ y := by
  have := h.lt
  refine ⟨rh_setB h.rh h.ra.c0 h.la hb 1 _, ⟨?_⟩, ⟨?_⟩, h.la, h.lt⟩
  · rw [heap_setCell_same _ _ _ _ _ _ h.ra.row]
    rfl
  · rw [heap_setCell_other _ _ _ _ (by show B ≠ A; omega)]
    exact h.rb.row
theorem Rv.setB1 {w W : World} {base q N : Nat} {M : Nat → Nat → Int} {A B : Nat} {x y : Bd} (h : Rv w W base q N M A B x y) (hb : base ≤ w.heap.size) (v : Int) : Rv w (W.setCell ⟨B, 1, none⟩ (.int .i64 v)) base q N M A B x ⟨y.inf, v, y.pr⟩ := by
  have := h.lt
  have := h.la
  refine ⟨rh_setB h.rh h.rb.c0 (by omega) hb 1 _, ⟨?_⟩, ⟨?_⟩, h.la, h.lt⟩
  · rw [heap_setCell_other _ _ _ _ (by show A ≠ B; omega)]
    exact h.ra.row
  · rw [heap_setCell_same _ _ _ _ _ _ h.rb.row]
    rfl
theorem Rv.setB2 {w W : World} {base q N : Nat} {M : Nat → Nat → Int} {A B : Nat} {x y : Bd} (h : Rv w W base q N M A B x y) (hb : base ≤ w.heap.size) (v : Int) : Rv w (W.setCell ⟨B, 2, none⟩ (.int .i64 v)) base q N M A B x ⟨y.inf, y.lf, v⟩ := by
  have := h.lt
  have := h.la
  refine ⟨rh_setB h.rh h.rb.c0 (by omega) hb 2 _, ⟨?_⟩, ⟨?_⟩, h.la, h.lt⟩
  · rw [heap_setCell_other _ _ _ _ (by show A ≠ B; omega)]
    exact h.ra.row
  · rw [heap_setCell_same _ _ _ _ _ _ h.rb.row]
    rfl
theorem gvA_in (f g n p : Int) : gvA f g n p = (Play.inB n 1 1048576 && Play.inB p 0 255 && decide (f ≠ g)) := rfl
theorem gv_no {N : Nat} {M : Nat → Nat → Int} {f g n p : Int} (h : gvE N M f g n p ≠ 0) : gvM N M f g n p = M := by unfold gvM; rw [if_neg h]
set_option maxRecDepth 100000 in
set_option maxHeartbeats 2000000 in
/-- Where the arguments are refused. -/
theorem rgive_arg (base q N : Nat) (f g n p : Int) (M : Nat → Nat → Int) (w : World) (h : Rx w base q N M) (ha : gvA f g n p = false) :
    Calls Tryd.prog 12 #[.pointer (some ⟨q, 0, none⟩), .int .i64 f, .int .i64 g, .int .i64 n, .int .i64 p] w fun e w' => e = .returned (.int .i64 1) ∧ w' = w := by
  have I0 : Hid (∀ wc, Calls Tryd.prog 42 #[.int .i64 n, .int .i64 1, .int .i64 1048576] wc fun e w' => e = .returned (.bool (Play.inB n 1 1048576)) ∧ w' = wc) := fun wc => in_any n 1 1048576 wc
  have I1 : Hid (∀ wc, Calls Tryd.prog 42 #[.int .i64 p, .int .i64 0, .int .i64 255] wc fun e w' => e = .returned (.bool (Play.inB p 0 255)) ∧ w' = wc) := fun wc => in_any p 0 255 wc
  rw [gvA_in] at ha
  generalize Play.inB n 1 1048576 = R0 at I0 ha
  generalize Play.inB p 0 255 = R1 at I1 ha
  have hc : R0 = false ∨ (R0 = true ∧ R1 = false) ∨ (R0 = true ∧ R1 = true ∧ (f == g) = true) := by
    cases R0 <;> cases R1 <;> simp at ha ⊢
    exact ha
  clear ha h
  rcases hc with rfl | ⟨rfl, rfl⟩ | ⟨rfl, rfl, hfg⟩
  all_goals
    go_enter Tryd.func12, Tryd.ntmps12
    go_wp2_with (first
      | (go_at_call 42; refine (I0.out _).mono ?_; rintro e0 w0 ⟨rfl, hw⟩; subst hw; clear I0)
      | (go_at_call 42; refine (I1.out _).mono ?_; rintro e1 w1 ⟨rfl, hw⟩; subst hw; clear I1)
      | fail)
    go_ret
    exact ⟨rfl, rfl⟩
set_option maxRecDepth 100000 in
set_option maxHeartbeats 4000000 in
theorem rgive_any (base q N : Nat) (f g n p : Int) (M : Nat → Nat → Int) (w : World) (h : Rx w base q N M) :
    Calls Tryd.prog 12 #[.pointer (some ⟨q, 0, none⟩), .int .i64 f, .int .i64 g, .int .i64 n, .int .i64 p] w fun e w' => e = .returned (.int .i64 (gvE N M f g n p)) ∧ Rx w' base q N (gvM N M f g n p) ∧ Below base w w' ∧ KeepX q w w' := by
  cases ha : gvA f g n p
  · have e1 : gvE N M f g n p = 1 := by unfold gvE; rw [ha]; rfl
    rw [e1, gv_no (by rw [e1]; decide)]
    refine (rgive_arg base q N f g n p M w h ha).mono ?_
    rintro e w' ⟨rfl, rfl⟩
    exact ⟨rfl, h, Below.refl _ _, KeepX.refl _ _⟩
  obtain ⟨an, ap, afg⟩ := (gvA_iff f g n p).1 ha
  have I0 : Hid (∀ wc, Calls Tryd.prog 42 #[.int .i64 n, .int .i64 1, .int .i64 1048576] wc fun e w' => e = .returned (.bool true) ∧ w' = wc) := fun wc => by
    have := in_any n 1 1048576 wc
    rwa [show Play.inB n 1 1048576 = true by unfold Play.inB; simp; omega] at this
  have I1 : Hid (∀ wc, Calls Tryd.prog 42 #[.int .i64 p, .int .i64 0, .int .i64 255] wc fun e w' => e = .returned (.bool true) ∧ w' = wc) := fun wc => by
    have := in_any p 0 255 wc
    rwa [show Play.inB p 0 255 = true by unfold Play.inB; simp; omega] at this
  have hfg : (f == g) = false := by simp [afg]
  have H0 := rhide (rh_self h)
  have HBs := rhide h.le
  have HG : Hid (∀ wc, Rh w wc base q N M → Calls Tryd.prog 16 #[.pointer (some ⟨q, 0, none⟩), .int .i64 f] wc fun e w' => e = .returned (.tuple #[.agg #[.bool (gtT N M f).inf, .int .i64 (gtT N M f).lf, .int .i64 (gtT N M f).pr], .int .i64 (gtE N M f)]) ∧ Below wc.heap.size wc w') := fun wc h => rget_any base q N f M wc h.rx
  have HH : Hid (∀ wc, Rh w wc base q N M → Calls Tryd.prog 16 #[.pointer (some ⟨q, 0, none⟩), .int .i64 g] wc fun e w' => e = .returned (.tuple #[.agg #[.bool (gtT N M g).inf, .int .i64 (gtT N M g).lf, .int .i64 (gtT N M g).pr], .int .i64 (gtE N M g)]) ∧ Below wc.heap.size wc w') := fun wc h => rget_any base q N g M wc h.rx
  by_cases hf : gtE N M f = 0
  case neg =>
    have e1 : gvE N M f g n p = gtE N M f := by unfold gvE; rw [if_pos ha, if_neg hf]
    rw [gv_no (by rw [e1]; exact hf), e1]
    generalize gtT N M f = x at HG
    generalize gtE N M f = E at HG hf ⊢
    have hE : (E != 0) = true := by simp [hf]
    clear e1 hf ha an ap afg h HH
    go_enter Tryd.func12, Tryd.ntmps12
    go_wp2_with (first
      | (go_at_call 42; refine (I0.out _).mono ?_; rintro e0 w0 ⟨rfl, hw⟩; subst w0; clear I0)
      | (go_at_call 42; refine (I1.out _).mono ?_; rintro e1 w1 ⟨rfl, hw⟩; subst w1; clear I1)
      | (go_at_call 16; refine (HG.out _ H0.out).mono ?_; rintro e2 w2 ⟨rfl, hb⟩; have H2 := rhide ((H0.out.on hb).on (bal (Below.refl _ _) (.cells #[.bool x.inf, .int .i64 x.lf, .int .i64 x.pr] 33))); clear hb HG H0)
      | fail)
    go_ret
    exact ⟨rfl, H2.out.rx, H2.out.below, H2.out.kp⟩
  by_cases hg : gtE N M g = 0
  case neg =>
    have e1 : gvE N M f g n p = gtE N M g := by unfold gvE; rw [if_pos ha, if_pos hf, if_neg hg]
    rw [gv_no (by rw [e1]; exact hg), e1]
    rw [hf] at HG
    generalize gtT N M f = x at HG
    generalize gtT N M g = y at HH
    generalize gtE N M g = E at HH hg ⊢
    have hE : (E != 0) = true := by simp [hg]
    clear e1 hf hg ha an ap afg h
    go_enter Tryd.func12, Tryd.ntmps12
    go_wp2_with (first
      | (go_at_call 42; refine (I0.out _).mono ?_; rintro e0 w0 ⟨rfl, hw⟩; subst w0; clear I0)
      | (go_at_call 42; refine (I1.out _).mono ?_; rintro e1 w1 ⟨rfl, hw⟩; subst w1; clear I1)
      | (go_at_call 16; refine (HG.out _ H0.out).mono ?_; rintro e2 w2 ⟨rfl, hb⟩; have H2 := rhide ((H0.out.on hb).on (bal (Below.refl _ _) (.cells #[.bool x.inf, .int .i64 x.lf, .int .i64 x.pr] 33))); clear hb HG H0)
      | (go_at_call 16; refine (HH.out _ H2.out).mono ?_; rintro e3 w3 ⟨rfl, hb⟩; have H3 := rhide ((H2.out.on hb).on (bal (Below.refl _ _) (.cells #[.bool y.inf, .int .i64 y.lf, .int .i64 y.pr] 33))); clear hb HH H2)
      | fail)
    go_ret
    exact ⟨rfl, H3.out.rx, H3.out.below, H3.out.kp⟩
  have bf := (gt_yes hf).2.2.1
  have bg := (gt_yes hg).2.2.1
  have e0 : gvE N M f g n p = gvT (bdOf M f) (bdOf M g) n := by unfold gvE; rw [if_pos ha, if_pos hf, if_pos hg]
  rw [hf, (gt_yes hf).2.2.2] at HG
  rw [hg, (gt_yes hg).2.2.2] at HH
  have HPu : gvE N M f g n p = 0 → Hid (∀ A B x y wc, Rv w wc base q N M A B x y → Calls Tryd.prog 10 #[.pointer (some ⟨q, 0, none⟩), .int .i64 f, .agg #[.bool (gvX (bdOf M f) n).inf, .int .i64 (gvX (bdOf M f) n).lf, .int .i64 (gvX (bdOf M f) n).pr]] wc fun e w' => e = .returned (.int .i64 0) ∧ Rv w w' base q N (puM N M f (gvX (bdOf M f) n)) A B x y) := fun e A B x y wc hh => by
    have := rput_any base q N f (gvX (bdOf M f) n) M wc hh.rh.rx
    rw [(gv_put e).1] at this
    exact this.mono fun e w' ⟨q1, q2, q3, q4⟩ => ⟨q1, hh.turn q2 q3 q4⟩
  have HPv : gvE N M f g n p = 0 → Hid (∀ wc, Rh w wc base q N (puM N M f (gvX (bdOf M f) n)) → Calls Tryd.prog 10 #[.pointer (some ⟨q, 0, none⟩), .int .i64 g, .agg #[.bool (gvY (bdOf M g) n p).inf, .int .i64 (gvY (bdOf M g) n p).lf, .int .i64 (gvY (bdOf M g) n p).pr]] wc fun e w' => e = .returned (.int .i64 0) ∧ Rh w w' base q N (gvM N M f g n p)) := fun e wc hh => by
    have := rput_any base q N g (gvY (bdOf M g) n p) (puM N M f (gvX (bdOf M f) n)) wc hh.rx
    rw [(gv_put e).2.1, (gv_put e).2.2] at this
    exact this.mono fun e w' ⟨q1, q2, q3, q4⟩ => ⟨q1, q2, hh.below.trans q3, hh.kp.trans q4⟩
  by_cases hz : gvE N M f g n p = 0
  case neg =>
    rw [gv_no hz, e0]
    rw [e0] at hz
    clear HPu HPv e0 hf hg ha h afg ap
    generalize bdOf M f = x at HG bf hz ⊢
    generalize bdOf M g = y at HH bg hz ⊢
    obtain ⟨i, l, pr⟩ := x
    obtain ⟨i', l', pr'⟩ := y
    unfold Bo at bf bg
    dsimp only at bf bg
    have hw : wrap64 (l' + n) = l' + n := by unfold wrap64; omega
    have hc : (i' = true ∧ gvT ⟨i, l, pr⟩ ⟨i', l', pr'⟩ n = 4) ∨ (i' = false ∧ i = false ∧ l < n ∧ gvT ⟨i, l, pr⟩ ⟨i', l', pr'⟩ n = 11) ∨ (i' = false ∧ i = true ∧ 1048576 < l' + n ∧ gvT ⟨i, l, pr⟩ ⟨i', l', pr'⟩ n = 11) ∨ (i' = false ∧ i = false ∧ ¬ l < n ∧ 1048576 < l' + n ∧ gvT ⟨i, l, pr⟩ ⟨i', l', pr'⟩ n = 11) := by
      unfold gvT at hz ⊢
      dsimp only at hz ⊢
      cases i' <;> cases i <;> simp at hz ⊢ <;> omega
    clear hz bf bg an
    rcases hc with ⟨rfl, e⟩ | ⟨rfl, rfl, c1, e⟩ | ⟨rfl, rfl, c1, e⟩ | ⟨rfl, rfl, c1, c2, e⟩
    · rw [e]
      clear e
      go_enter Tryd.func12, Tryd.ntmps12
      go_wp2_with (first
        | (go_at_call 42; refine (I0.out _).mono ?_; rintro e0 w0 ⟨rfl, hw⟩; subst w0; clear I0)
        | (go_at_call 42; refine (I1.out _).mono ?_; rintro e1 w1 ⟨rfl, hw⟩; subst w1; clear I1)
        | (go_at_call 16; refine (HG.out _ H0.out).mono ?_; rintro e2 w2 ⟨rfl, hb⟩; have H2 := rhide (And.intro ((H0.out.on hb).on (bal (Below.refl _ _) (.cells #[.bool i, .int .i64 l, .int .i64 pr] 33))) (rowB_new w2 ⟨i, l, pr⟩)); clear hb HG H0)
        | (go_at_call 16; refine (HH.out _ H2.out.1).mono ?_; rintro e3 w3 ⟨rfl, hb⟩; have H3 := rhide ((H2.out.1.on hb).on (bal (Below.refl _ _) (.cells #[.bool true, .int .i64 l', .int .i64 pr'] 33))); have HR := rhide (H2.out.2.on hb); clear hb HH H2; have x0 : w3.cell? ⟨w2.heap.size, 0, none⟩ = some (.bool i) := HR.out.c0; have x1 : w3.cell? ⟨w2.heap.size, 1, none⟩ = some (.int .i64 l) := HR.out.c1; have xl := HR.out.lt)
        | fail)
      go_ret
      exact ⟨rfl, H3.out.rx, H3.out.below, H3.out.kp⟩
    · rw [e]
      clear e
      go_enter Tryd.func12, Tryd.ntmps12
      go_wp2_with (first
        | (go_at_call 42; refine (I0.out _).mono ?_; rintro e0 w0 ⟨rfl, hw⟩; subst w0; clear I0)
        | (go_at_call 42; refine (I1.out _).mono ?_; rintro e1 w1 ⟨rfl, hw⟩; subst w1; clear I1)
        | (go_at_call 16; refine (HG.out _ H0.out).mono ?_; rintro e2 w2 ⟨rfl, hb⟩; have H2 := rhide (And.intro ((H0.out.on hb).on (bal (Below.refl _ _) (.cells #[.bool false, .int .i64 l, .int .i64 pr] 33))) (rowB_new w2 ⟨false, l, pr⟩)); clear hb HG H0)
        | (go_at_call 16; refine (HH.out _ H2.out.1).mono ?_; rintro e3 w3 ⟨rfl, hb⟩; have H3 := rhide ((H2.out.1.on hb).on (bal (Below.refl _ _) (.cells #[.bool false, .int .i64 l', .int .i64 pr'] 33))); have HR := rhide (H2.out.2.on hb); clear hb HH H2; have x0 : w3.cell? ⟨w2.heap.size, 0, none⟩ = some (.bool false) := HR.out.c0; have x1 : w3.cell? ⟨w2.heap.size, 1, none⟩ = some (.int .i64 l) := HR.out.c1; have xl := HR.out.lt)
        | fail)
      go_ret
      exact ⟨rfl, H3.out.rx, H3.out.below, H3.out.kp⟩
    · rw [e]
      clear e
      go_enter Tryd.func12, Tryd.ntmps12
      go_wp2_with (first
        | (go_at_call 42; refine (I0.out _).mono ?_; rintro e0 w0 ⟨rfl, hw⟩; subst w0; clear I0)
        | (go_at_call 42; refine (I1.out _).mono ?_; rintro e1 w1 ⟨rfl, hw⟩; subst w1; clear I1)
        | (go_at_call 16; refine (HG.out _ H0.out).mono ?_; rintro e2 w2 ⟨rfl, hb⟩; have H2 := rhide (And.intro ((H0.out.on hb).on (bal (Below.refl _ _) (.cells #[.bool true, .int .i64 l, .int .i64 pr] 33))) (rowB_new w2 ⟨true, l, pr⟩)); clear hb HG H0)
        | (go_at_call 16; refine (HH.out _ H2.out.1).mono ?_; rintro e3 w3 ⟨rfl, hb⟩; have H3 := rhide ((H2.out.1.on hb).on (bal (Below.refl _ _) (.cells #[.bool false, .int .i64 l', .int .i64 pr'] 33))); have HR := rhide (H2.out.2.on hb); clear hb HH H2; have x0 : w3.cell? ⟨w2.heap.size, 0, none⟩ = some (.bool true) := HR.out.c0; have x1 : w3.cell? ⟨w2.heap.size, 1, none⟩ = some (.int .i64 l) := HR.out.c1; have xl := HR.out.lt)
        | fail)
      go_ret
      exact ⟨rfl, H3.out.rx, H3.out.below, H3.out.kp⟩
    · rw [e]
      clear e
      go_enter Tryd.func12, Tryd.ntmps12
      go_wp2_with (first
        | (go_at_call 42; refine (I0.out _).mono ?_; rintro e0 w0 ⟨rfl, hw⟩; subst w0; clear I0)
        | (go_at_call 42; refine (I1.out _).mono ?_; rintro e1 w1 ⟨rfl, hw⟩; subst w1; clear I1)
        | (go_at_call 16; refine (HG.out _ H0.out).mono ?_; rintro e2 w2 ⟨rfl, hb⟩; have H2 := rhide (And.intro ((H0.out.on hb).on (bal (Below.refl _ _) (.cells #[.bool false, .int .i64 l, .int .i64 pr] 33))) (rowB_new w2 ⟨false, l, pr⟩)); clear hb HG H0)
        | (go_at_call 16; refine (HH.out _ H2.out.1).mono ?_; rintro e3 w3 ⟨rfl, hb⟩; have H3 := rhide ((H2.out.1.on hb).on (bal (Below.refl _ _) (.cells #[.bool false, .int .i64 l', .int .i64 pr'] 33))); have HR := rhide (H2.out.2.on hb); clear hb HH H2; have x0 : w3.cell? ⟨w2.heap.size, 0, none⟩ = some (.bool false) := HR.out.c0; have x1 : w3.cell? ⟨w2.heap.size, 1, none⟩ = some (.int .i64 l) := HR.out.c1; have xl := HR.out.lt)
        | fail)
      go_ret
      exact ⟨rfl, H3.out.rx, H3.out.below, H3.out.kp⟩
  case pos =>
    obtain ⟨_, _, _, hig, hif, hmx⟩ := gv_yes hz
    have HPu := HPu hz
    have HPv := HPv hz
    rw [hz]
    clear hz e0 hf hg ha h afg
    generalize gvM N M f g n p = M2 at HPv ⊢
    generalize puM N M f (gvX (bdOf M f) n) = M1 at HPu HPv
    generalize bdOf M f = x at HG bf HPu hif
    generalize bdOf M g = y at HH bg HPv hig hmx
    obtain ⟨i, l, pr⟩ := x
    obtain ⟨i', l', pr'⟩ := y
    unfold Bo at bf bg
    unfold gvX at HPu
    unfold gvY at HPv
    dsimp only at bf bg HPu HPv hig hif hmx
    subst hig
    have hw : wrap64 (l' + n) = l' + n := by unfold wrap64; omega
    have hw2 : wrap64 (l - n) = l - n := by unfold wrap64; omega
    have c2 : ¬ 1048576 < l' + n := by omega
    cases i
    · have c1 : ¬ l < n := fun e => hif ⟨rfl, e⟩
      clear bf bg an ap hif hmx
      revert HPu
      intro HPu
      have HPu' : Hid (∀ A B x y wc, Rv w wc base q N M A B x y → Calls Tryd.prog 10 #[.pointer (some ⟨q, 0, none⟩), .int .i64 f, .agg #[.bool false, .int .i64 (l - n), .int .i64 pr]] wc fun e w' => e = .returned (.int .i64 0) ∧ Rv w w' base q N M1 A B x y) := HPu
      clear HPu
      go_enter Tryd.func12, Tryd.ntmps12
      go_upto_region 13 with (first
        | (go_at_call 42; refine (I0.out _).mono ?_; rintro e0 w0 ⟨rfl, hw⟩; subst w0; clear I0)
        | (go_at_call 42; refine (I1.out _).mono ?_; rintro e1 w1 ⟨rfl, hw⟩; subst w1; clear I1)
        | (go_at_call 16; refine (HG.out _ H0.out).mono ?_; rintro e2 w2 ⟨rfl, hb⟩; have H2 := rhide (And.intro ((H0.out.on hb).on (bal (Below.refl _ _) (.cells #[.bool false, .int .i64 l, .int .i64 pr] 33))) (And.intro (rowB_new w2 ⟨false, l, pr⟩) hb.size)); clear hb HG H0)
        | (go_at_call 16; refine (HH.out _ H2.out.1).mono ?_; rintro e3 w3 ⟨rfl, hb⟩; have H3 : Hid (Rv w (w3.alloc (.cells #[.bool false, .int .i64 l', .int .i64 pr'] 33)) base q N M w2.heap.size w3.heap.size ⟨false, l, pr⟩ ⟨false, l', pr'⟩) := ⟨(H2.out.1.on hb).on (bal (Below.refl _ _) _), (H2.out.2.1.on hb).on (bal (Below.refl _ _) _), rowB_new w3 ⟨false, l', pr'⟩, H2.out.2.2, (H2.out.2.1.on hb).lt⟩; have HR := rhide (H2.out.2.1.on hb); clear hb HH H2; have x0 : w3.cell? ⟨w2.heap.size, 0, none⟩ = some (.bool false) := HR.out.c0; have x1 : w3.cell? ⟨w2.heap.size, 1, none⟩ = some (.int .i64 l) := HR.out.c1; have xl := HR.out.lt)
        | fail)
      clear x0 x1 xl HR
      generalize w3.alloc _ = v at H3 ⊢
      generalize w3.heap.size = B at H3 ⊢
      generalize w2.heap.size = A at H3 ⊢
      have hAB : ¬ A = B := Nat.ne_of_lt H3.out.lt
      have hBA : ¬ B = A := Nat.ne_of_gt H3.out.lt
      have x0 : v.cell? ⟨A, 0, none⟩ = some (.bool false) := H3.out.ra.c0
      have x1 : v.cell? ⟨A, 1, none⟩ = some (.int .i64 l) := H3.out.ra.c1
      have x2 : v.cell? ⟨A, 2, none⟩ = some (.int .i64 pr) := H3.out.ra.c2
      have y0 : v.cell? ⟨B, 0, none⟩ = some (.bool false) := H3.out.rb.c0
      have y1 : v.cell? ⟨B, 1, none⟩ = some (.int .i64 l') := H3.out.rb.c1
      have y2 : v.cell? ⟨B, 2, none⟩ = some (.int .i64 pr') := H3.out.rb.c2
      have zA := H3.out.ra.fz
      have zB := H3.out.rb.fz
      have H4 := rhide (((H3.out.setA HBs.out (l - n)).setB1 HBs.out (l' + n)).setB2 HBs.out p)
      dsimp only at H4
      go_wp2_with (first
        | (go_at_call 10; refine (HPu'.out _ _ _ _ _ H4.out).mono ?_; rintro e5 w5 ⟨rfl, hw⟩; have H5 := rhide hw; clear hw HPu' H4 H3 x0 x1 x2 y0 y1 y2 zA zB; have y0 : w5.cell? ⟨B, 0, none⟩ = some (.bool false) := H5.out.rb.c0; have y1 : w5.cell? ⟨B, 1, none⟩ = some (.int .i64 (l' + n)) := H5.out.rb.c1; have y2 : w5.cell? ⟨B, 2, none⟩ = some (.int .i64 p) := H5.out.rb.c2)
        | (go_at_call 10; refine (HPv.out _ H5.out.rh).mono ?_; rintro e6 w6 ⟨rfl, hw⟩; have H6 := rhide hw; clear hw HPv H5)
        | fail)
      go_ret
      exact ⟨rfl, H6.out.rx, H6.out.below, H6.out.kp⟩
    · clear bf bg an ap hif hmx
      have HPu' : Hid (∀ A B x y wc, Rv w wc base q N M A B x y → Calls Tryd.prog 10 #[.pointer (some ⟨q, 0, none⟩), .int .i64 f, .agg #[.bool true, .int .i64 (l), .int .i64 pr]] wc fun e w' => e = .returned (.int .i64 0) ∧ Rv w w' base q N M1 A B x y) := HPu
      clear HPu
      go_enter Tryd.func12, Tryd.ntmps12
      go_upto_region 13 with (first
        | (go_at_call 42; refine (I0.out _).mono ?_; rintro e0 w0 ⟨rfl, hw⟩; subst w0; clear I0)
        | (go_at_call 42; refine (I1.out _).mono ?_; rintro e1 w1 ⟨rfl, hw⟩; subst w1; clear I1)
        | (go_at_call 16; refine (HG.out _ H0.out).mono ?_; rintro e2 w2 ⟨rfl, hb⟩; have H2 := rhide (And.intro ((H0.out.on hb).on (bal (Below.refl _ _) (.cells #[.bool true, .int .i64 l, .int .i64 pr] 33))) (And.intro (rowB_new w2 ⟨true, l, pr⟩) hb.size)); clear hb HG H0)
        | (go_at_call 16; refine (HH.out _ H2.out.1).mono ?_; rintro e3 w3 ⟨rfl, hb⟩; have H3 : Hid (Rv w (w3.alloc (.cells #[.bool false, .int .i64 l', .int .i64 pr'] 33)) base q N M w2.heap.size w3.heap.size ⟨true, l, pr⟩ ⟨false, l', pr'⟩) := ⟨(H2.out.1.on hb).on (bal (Below.refl _ _) _), (H2.out.2.1.on hb).on (bal (Below.refl _ _) _), rowB_new w3 ⟨false, l', pr'⟩, H2.out.2.2, (H2.out.2.1.on hb).lt⟩; have HR := rhide (H2.out.2.1.on hb); clear hb HH H2; have x0 : w3.cell? ⟨w2.heap.size, 0, none⟩ = some (.bool true) := HR.out.c0; have x1 : w3.cell? ⟨w2.heap.size, 1, none⟩ = some (.int .i64 l) := HR.out.c1; have xl := HR.out.lt)
        | fail)
      clear x0 x1 xl HR
      generalize w3.alloc _ = v at H3 ⊢
      generalize w3.heap.size = B at H3 ⊢
      generalize w2.heap.size = A at H3 ⊢
      have hAB : ¬ A = B := Nat.ne_of_lt H3.out.lt
      have hBA : ¬ B = A := Nat.ne_of_gt H3.out.lt
      have x0 : v.cell? ⟨A, 0, none⟩ = some (.bool true) := H3.out.ra.c0
      have x1 : v.cell? ⟨A, 1, none⟩ = some (.int .i64 l) := H3.out.ra.c1
      have x2 : v.cell? ⟨A, 2, none⟩ = some (.int .i64 pr) := H3.out.ra.c2
      have y0 : v.cell? ⟨B, 0, none⟩ = some (.bool false) := H3.out.rb.c0
      have y1 : v.cell? ⟨B, 1, none⟩ = some (.int .i64 l') := H3.out.rb.c1
      have y2 : v.cell? ⟨B, 2, none⟩ = some (.int .i64 pr') := H3.out.rb.c2
      have zA := H3.out.ra.fz
      have zB := H3.out.rb.fz
      have H4 := rhide ((H3.out.setB1 HBs.out (l' + n)).setB2 HBs.out p)
      dsimp only at H4
      go_wp2_with (first
        | (go_at_call 10; refine (HPu'.out _ _ _ _ _ H4.out).mono ?_; rintro e5 w5 ⟨rfl, hw⟩; have H5 := rhide hw; clear hw HPu' H4 H3 x0 x1 x2 y0 y1 y2 zA zB; have y0 : w5.cell? ⟨B, 0, none⟩ = some (.bool false) := H5.out.rb.c0; have y1 : w5.cell? ⟨B, 1, none⟩ = some (.int .i64 (l' + n)) := H5.out.rb.c1; have y2 : w5.cell? ⟨B, 2, none⟩ = some (.int .i64 p) := H5.out.rb.c2)
        | (go_at_call 10; refine (HPv.out _ H5.out.rh).mono ?_; rintro e6 w6 ⟨rfl, hw⟩; have H6 := rhide hw; clear hw HPv H5)
        | fail)
      go_ret
      exact ⟨rfl, H6.out.rx, H6.out.below, H6.out.kp⟩
end Go.Proofs.YtlnckhebikiclaaDoor.Ptcap
