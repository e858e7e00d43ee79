/- What the document's Top, Push, Pop and Ip of layer 19 answer and do, over its own memory (written by mk_doc.py). -/
import Derived.Test.YtoipfcmjphlmfaaGreatDoorStkS
import Derived.Deep.RegionWith
namespace Go.Proofs.YtoipfcmjphlmfaaGreatDoor.Pstack
open Go.Proofs.YtoipfcmjphlmfaaGreatDoor.Pbase Go.Proofs.YtoipfcmjphlmfaaGreatDoor.Pfield Go.Proofs.YtoipfcmjphlmfaaGreatDoor.Play Go.Proofs.YtoipfcmjphlmfaaGreatDoor.Pmem Go.Proofs.YtoipfcmjphlmfaaGreatDoor.Pthd
open Go.RowKit M
set_option linter.unusedVariables false

theorem rowT_keep {w w' : World} {B : Nat} {x : Th} (h : RowT w B x) (k : KeepT w w') : RowT w' B x := ⟨k _ _ _ (by decide) h.row⟩
/-- A store into a block of numbers that a call laid itself leaves the document's memory, and all that was there. -/
theorem ref_apart {w w' : World} {base q N : Nat} {M : Nat → Nat → Int} {B : Nat} {z : Int} (h : RefIs w base q N M) (hN : 1 ≤ N) (hB : w.cell? ⟨B, 0, none⟩ = some (.int .i64 z)) (hk : ∀ k, k ≠ B → w'.heap[k]? = w.heap[k]?) : RefIs w' base q N M := by
  obtain ⟨hb, v0, hv, r, cc, h1, h2, h3⟩ := h
  rcases h1.2 with ⟨_, e⟩ | ⟨g, cap, cur, e, hg, hh, rest⟩
  · omega
  · refine ⟨hb, v0, ?_, r, cc, ⟨h1.1, .inr ⟨g, cap, cur, e, hg, ?_, rest⟩⟩, fun j hj => ?_, h3⟩
    · rw [hk q (by rintro rfl; rw [cell_of_row _ _ _ _ _ _ hv, e] at hB; simp at hB)]; exact hv
    · subst e
      rw [hk g (by rintro rfl; rw [h1.cellAt 0 (by omega)] at hB; simp at hB)]; exact hh
    · obtain ⟨hbj, cu, hc, hw⟩ := h2 j hj
      refine ⟨hbj, cu, ?_, hw⟩
      rw [hk (r j) (by intro e; rw [← e, cell_of_row _ _ _ _ _ _ hc, hw 0 (by omega)] at hB; simp at hB)]; exact hc
theorem keepX_own {q : Nat} {a w : World} (h : KeepX q a w) {D : Nat} (hD : a.heap.size ≤ D) (j : Nat) (v : Value) : KeepX q a (w.setCell ⟨D, j, none⟩ v) := by
  have eo : ∀ b k, b ≠ D → (w.setCell ⟨D, j, none⟩ v).cell? ⟨b, k, none⟩ = w.cell? ⟨b, k, none⟩ := fun b k hb => World.cell?_of_block (heap_setCell_other _ _ _ _ hb)
  refine ⟨fun B cs t ht e => ?_, by rw [World.size_setCell]; exact h.size, fun T hT => ?_⟩
  · have hl := (Array.getElem?_eq_some_iff.1 e).1
    rw [heap_setCell_other _ _ _ _ (by show B ≠ D; omega)]
    exact h.t B cs t ht e
  · have hTa := hT.1
    obtain ⟨⟨t0, tp, t1⟩, u1⟩ := h.up T hT
    refine ⟨⟨by rw [World.size_setCell]; exact t0, tp, fun g n cap e => ?_⟩, fun i h1 h2 => (heap_setCell_other _ _ _ _ (by show i ≠ D; omega)).trans (u1 i h1 h2)⟩
    rw [eo q 0 (by omega)] at e
    obtain ⟨a1, a2⟩ := t1 g n cap e
    refine ⟨a1, fun f x l c hf e2 => ?_⟩
    rw [eo g f (by omega)] at e2
    exact a2 f x l c hf e2
theorem rh_set {w W : World} {base q N : Nat} {M : Nat → Nat → Int} (h : Rh w W base q N M) {D : Nat} {z : Int} (hz : W.cell? ⟨D, 0, none⟩ = some (.int .i64 z)) (hD : w.heap.size ≤ D) (hb : base ≤ w.heap.size) (j : Nat) (v : Value) : Rh w (W.setCell ⟨D, j, none⟩ v) base q N M :=
  ⟨⟨ref_apart h.rx.ref h.rx.n1 hz (fun k hk => heap_setCell_other _ _ _ _ hk), h.rx.fit, h.rx.n1, h.rx.n64⟩, h.below.setCell (p := ⟨D, j, none⟩) (by show base ≤ D; omega) v, keepX_own h.kp hD j v⟩
/-- The last record, whatever it is. -/
theorem tp_rc {N : Nat} {M : Nat → Nat → Int} {f : Int} {k : Nat} (hg : gtE N M f = 0) (hd : dpN M f = k + 1) : tpE N M f = rcE M f k ∧ tpX N M f = rcX M f k := by
  have e : tpE N M f = rcE M f k := by
    unfold tpE
    rw [if_pos hg, hd, if_neg (by omega), Nat.add_sub_cancel]
  refine ⟨e, ?_⟩
  unfold tpX
  rw [e, hd, Nat.add_sub_cancel]
  split
  · rfl
  · rename_i hne
    unfold rcE rdE at hne
    unfold rcX rdX
    split at hne
    · exact absurd rfl hne
    · rename_i hb
      rw [if_neg hb]
/-! ### Top -/
set_option maxRecDepth 100000 in
set_option maxHeartbeats 2000000 in
theorem rtop_any (base q N : Nat) (f : Int) (M : Nat → Nat → Int) (w : World) (h : Rx w base q N M) :
    Calls Tryz.prog 14 #[.pointer (some ⟨q, 0, none⟩), .int .i64 f] w fun e w' => e = .returned (.tuple #[.agg #[.int .i64 (tpX N M f).co, .int .i64 (tpX N M f).tb, .int .i64 (tpX N M f).pg, .int .i64 (tpX N M f).l, .int .i64 (tpX N M f).e, .int .i64 (tpX N M f).ip], .int .i64 (tpE N M f)]) ∧ Below w.heap.size w w' := by
  have H0 := rhide (rq_new h)
  have HG : Hid (∀ wc, Rq w wc base q N M → Calls Tryz.prog 36 #[.pointer (some ⟨q, 0, none⟩), .int .i64 f] wc fun e w' => e = .returned (.tuple #[.agg #[.int .i64 (gtT N M f).st, .int .i64 (gtT N M f).co, .int .i64 (gtT N M f).tc, .int .i64 (gtT N M f).rc, .int .i64 (gtT N M f).de], .int .i64 (gtE N M f)]) ∧ Below wc.heap.size wc w') := fun wc h => Pthd.rget_any base q N f M wc h.rx
  by_cases hg : gtE N M f = 0
  · obtain ⟨hf, hde, h6⟩ := gt_dp hg
    rw [hg, (gt_yes hg).2.2, hde] at HG
    generalize hy : thOf M f = y at HG
    by_cases hd : dpN M f = 0
    · have e1 : tpE N M f = 8 := by unfold tpE; rw [if_pos hg, if_pos hd]
      have e2 : tpX N M f = rc0 := by unfold tpX; rw [if_neg (by rw [e1]; decide)]
      rw [e1, e2]
      rw [hd] at HG
      push_cast at HG
      clear e1 e2 hd hde h6 hf hg hy h
      go_enter Tryz.func14, Tryz.ntmps14
      go_wp2_with (first
        | (go_at_call 36; refine (HG.out _ H0.out).mono ?_; rintro e1 w1 ⟨rfl, hb⟩; have H1 := rhide ((H0.out.on hb).on (bal (Below.refl _ _) (.cells #[.int .i64 y.st, .int .i64 y.co, .int .i64 y.tc, .int .i64 y.rc, .int .i64 0] 34))); clear hb H0 HG; have x0 := H1.out.res.c0; have x1 := H1.out.res.c1; have x2 := H1.out.res.c2; have x3 := H1.out.res.c3; have x4 := H1.out.res.c4; have x5 := H1.out.res.c5; have z := H1.out.res.fz)
        | fail)
      refine bodyPost_ret (v := .tuple #[.agg #[.int .i64 0, .int .i64 0, .int .i64 0, .int .i64 0, .int .i64 0, .int .i64 0], .int .i64 8]) (by simp [results, Tryz.results14, go_sem, x0, x1, x2, x3, x4, x5]) rfl ⟨rfl, ?_⟩
      exact bst (bst (bst (bst (bst (bst H1.out.below (Nat.le_refl _) _ _) (Nat.le_refl _) _ _) (Nat.le_refl _) _ _) (Nat.le_refl _) _ _) (Nat.le_refl _) _ _) (Nat.le_refl _) _ _
    · obtain ⟨k, hk⟩ : ∃ k, dpN M f = k + 1 := ⟨dpN M f - 1, by omega⟩
      obtain ⟨e1, e2⟩ := tp_rc hg hk
      rw [e1, e2]
      have HR : Hid (∀ wc, Rq w wc base q N M → Calls Tryz.prog 44 #[.pointer (some ⟨q, 0, none⟩), .int .i64 f, .int .i64 (k : Int)] wc fun e w' => e = .returned (.tuple #[.agg #[.int .i64 (rcX M f k).co, .int .i64 (rcX M f k).tb, .int .i64 (rcX M f k).pg, .int .i64 (rcX M f k).l, .int .i64 (rcX M f k).e, .int .i64 (rcX M f k).ip], .int .i64 (rcE M f k)]) ∧ Below wc.heap.size wc w') := fun wc h => rrd_any base q N f k M wc h.rx hf (by omega)
      rw [hk] at HG
      push_cast at HG
      have hw : wrap64 ((k : Int) + 1 - 1) = (k : Int) := by unfold wrap64; omega
      have hw' : wrap64 (k : Int) = (k : Int) := by unfold wrap64; omega
      have h0 : (((k : Int) + 1 == 0) = false) := by simp; omega
      generalize rcX M f k = X at HR ⊢
      generalize rcE M f k = E at HR ⊢
      clear e1 e2 hd hde hf hg hy h hk
      go_enter Tryz.func14, Tryz.ntmps14
      go_wp2_with (first
        | (go_at_call 36; refine (HG.out _ H0.out).mono ?_; rintro e1 w1 ⟨rfl, hb⟩; have H1 := rhide ((H0.out.on hb).on (bal (Below.refl _ _) (.cells #[.int .i64 y.st, .int .i64 y.co, .int .i64 y.tc, .int .i64 y.rc, .int .i64 ((k : Int) + 1)] 34))); clear hb H0 HG)
        | (go_at_call 44; refine (HR.out _ H1.out).mono ?_; rintro e2 w2 ⟨rfl, hb⟩; have H2 := rhide (H1.out.on hb); clear hb H1 HR; have x0 := H2.out.res.c0; have x1 := H2.out.res.c1; have x2 := H2.out.res.c2; have x3 := H2.out.res.c3; have x4 := H2.out.res.c4; have x5 := H2.out.res.c5; have z := H2.out.res.fz)
        | fail)
      refine bodyPost_ret (v := .tuple #[.agg #[.int .i64 X.co, .int .i64 X.tb, .int .i64 X.pg, .int .i64 X.l, .int .i64 X.e, .int .i64 X.ip], .int .i64 E]) (by simp [results, Tryz.results14, go_sem, x0, x1, x2, x3, x4, x5]) rfl ⟨rfl, ?_⟩
      exact bst (bst (bst (bst (bst (bst H2.out.below (Nat.le_refl _) _ _) (Nat.le_refl _) _ _) (Nat.le_refl _) _ _) (Nat.le_refl _) _ _) (Nat.le_refl _) _ _) (Nat.le_refl _) _ _
  · have e1 : tpE N M f = gtE N M f := by unfold tpE; rw [if_neg hg]
    have e2 : tpX N M f = rc0 := by unfold tpX; rw [if_neg (by rw [e1]; exact hg)]
    rw [e1, e2]
    generalize gtT N M f = y at HG
    generalize gtE N M f = E at HG hg ⊢
    have hE : (E != 0) = true := by simp [hg]
    clear e1 e2 hg h
    go_enter Tryz.func14, Tryz.ntmps14
    go_wp2_with (first
      | (go_at_call 36; refine (HG.out _ H0.out).mono ?_; rintro e1 w1 ⟨rfl, hb⟩; have H1 := rhide ((H0.out.on hb).on (bal (Below.refl _ _) (.cells #[.int .i64 y.st, .int .i64 y.co, .int .i64 y.tc, .int .i64 y.rc, .int .i64 y.de] 34))); clear hb H0 HG; have x0 := H1.out.res.c0; have x1 := H1.out.res.c1; have x2 := H1.out.res.c2; have x3 := H1.out.res.c3; have x4 := H1.out.res.c4; have x5 := H1.out.res.c5; have z := H1.out.res.fz)
      | fail)
    refine bodyPost_ret (v := .tuple #[.agg #[.int .i64 0, .int .i64 0, .int .i64 0, .int .i64 0, .int .i64 0, .int .i64 0], .int .i64 E]) (by simp [results, Tryz.results14, go_sem, x0, x1, x2, x3, x4, x5]) rfl ⟨rfl, ?_⟩
    exact bst (bst (bst (bst (bst (bst H1.out.below (Nat.le_refl _) _ _) (Nat.le_refl _) _ _) (Nat.le_refl _) _ _) (Nat.le_refl _) _ _) (Nat.le_refl _) _ _) (Nat.le_refl _) _ _
/-! ### Push -/
/-- The document's memory, the record that was handed in, the thread that was read. -/
structure Pq (w W : World) (base q N : Nat) (M : Nat → Nat → Int) (x : Rc) (D : Nat) (y : Th) : Prop where
  ls : Ls w W base q N M x
  th : RowT W D y
  dl : w.heap.size ≤ D
theorem Pq.turn {w W W' : World} {base q N : Nat} {M M' : Nat → Nat → Int} {x : Rc} {D : Nat} {y : Th} (h : Pq w W base q N M x D y) (hR : Rx W' base q N M') (hB : Below base W W') (hK : KeepX q W W') : Pq w W' base q N M' x D y := ⟨h.ls.turn hR.ref hR.fit hB hK, rowT_keep h.th hK.t, h.dl⟩
theorem Ls.more {w W : World} {base q N : Nat} {M : Nat → Nat → Int} {x : Rc} (h : Ls w W base q N M x) (y : Th) : Pq w (W.alloc (.cells #[.int .i64 y.st, .int .i64 y.co, .int .i64 y.tc, .int .i64 y.rc, .int .i64 y.de] 34)) base q N M x W.heap.size y := ⟨h.on (bal (Below.refl _ _) _), rowT_new W y, h.rh.kp.size⟩
set_option maxRecDepth 100000 in
set_option maxHeartbeats 2000000 in
theorem rpush_any (base q N : Nat) (f : Int) (x : Rc) (M : Nat → Nat → Int) (w : World) (h : Rx w base q N M) :
    Calls Tryz.prog 8 #[.pointer (some ⟨q, 0, none⟩), .int .i64 f, .agg #[.int .i64 x.co, .int .i64 x.tb, .int .i64 x.pg, .int .i64 x.l, .int .i64 x.e, .int .i64 x.ip]] w fun e w' => e = .returned (.int .i64 (psE N M f x)) ∧ Rx w' base q N (psM N M f x) ∧ Below base w w' ∧ KeepX q w w' := by
  have H0 := rhide (ls_new h x)
  have HBs := rhide h.le
  have HRt : Hid (∀ wc, Calls Tryz.prog 35 #[.agg #[.int .i64 x.co, .int .i64 x.tb, .int .i64 x.pg, .int .i64 x.l, .int .i64 x.e, .int .i64 x.ip]] wc fun e w' => e = .returned (.bool (roB x)) ∧ Below wc.heap.size wc w') := fun wc => rright_any x wc
  have HG : Hid (∀ wc, Ls w wc base q N M x → Calls Tryz.prog 36 #[.pointer (some ⟨q, 0, none⟩), .int .i64 f] wc fun e w' => e = .returned (.tuple #[.agg #[.int .i64 (gtT N M f).st, .int .i64 (gtT N M f).co, .int .i64 (gtT N M f).tc, .int .i64 (gtT N M f).rc, .int .i64 (gtT N M f).de], .int .i64 (gtE N M f)]) ∧ Below wc.heap.size wc w') := fun wc h => Pthd.rget_any base q N f M wc h.rh.rx
  by_cases hx : Ro x
  case neg =>
    have e1 : psE N M f x = 1 := by unfold psE; rw [roB_no hx]; rfl
    have e2 : psM N M f x = M := by unfold psM; rw [if_neg (by rw [e1]; decide)]
    rw [e1, e2]
    rw [roB_no hx] at HRt
    clear e1 e2 hx h HG
    go_enter Tryz.func8, Tryz.ntmps8
    go_wp2_with (first
      | (go_at_call 35; refine (HRt.out _).mono ?_; rintro e1 w1 ⟨rfl, hb⟩; have H1 := rhide (H0.out.on hb); clear hb H0 HRt)
      | fail)
    go_ret
    exact ⟨rfl, H1.out.rh.rx, H1.out.rh.below, H1.out.rh.kp⟩
  case pos =>
  rw [roB_yes hx] at HRt
  by_cases hg : gtE N M f = 0
  · obtain ⟨hf, hde, h6⟩ := gt_dp hg
    rw [hg, (gt_yes hg).2.2, hde] at HG
    by_cases hd : dpN M f = 6
    · have e1 : psE N M f x = 8 := by unfold psE; rw [if_pos (roB_yes hx), if_pos hg, if_pos hd]
      have e2 : psM N M f x = M := by unfold psM; rw [if_neg (by rw [e1]; decide)]
      rw [e1, e2]
      rw [hd] at HG
      push_cast at HG
      generalize thOf M f = y at HG
      clear e1 e2 hd hde h6 hf hg hx h
      go_enter Tryz.func8, Tryz.ntmps8
      go_wp2_with (first
        | (go_at_call 35; refine (HRt.out _).mono ?_; rintro e1 w1 ⟨rfl, hb⟩; have H1 := rhide (H0.out.on hb); clear hb H0 HRt)
        | (go_at_call 36; refine (HG.out _ H1.out).mono ?_; rintro e2 w2 ⟨rfl, hb⟩; have H2 := rhide ((H1.out.on hb).on (bal (Below.refl _ _) (.cells #[.int .i64 y.st, .int .i64 y.co, .int .i64 y.tc, .int .i64 y.rc, .int .i64 6] 34))); clear hb H1 HG)
        | fail)
      go_ret
      exact ⟨rfl, H2.out.rh.rx, H2.out.rh.below, H2.out.rh.kp⟩
    · have e1 : psE N M f x = 0 := by unfold psE; rw [if_pos (roB_yes hx), if_pos hg, if_neg hd]
      obtain ⟨b1, b2⟩ := ps_put e1
      have HLy : Hid (∀ wc, Rx wc base q N M → Calls Tryz.prog 37 #[.pointer (some ⟨q, 0, none⟩), .int .i64 f, .int .i64 ((dpN M f : Nat) : Int), .agg #[.int .i64 x.co, .int .i64 x.tb, .int .i64 x.pg, .int .i64 x.l, .int .i64 x.e, .int .i64 x.ip]] wc fun e w' => e = .returned (.tuple #[]) ∧ Rx w' base q N (lyR N M f (dpN M f) x) ∧ Below base wc w' ∧ KeepX q wc w') := fun wc h => rly_any base q N f (dpN M f) x M wc h hx (by omega)
      have HPu : Hid (∀ wc, Rx wc base q N (lyR N M f (dpN M f) x) → Calls Tryz.prog 38 #[.pointer (some ⟨q, 0, none⟩), .int .i64 f, .agg #[.int .i64 (thOf M f).st, .int .i64 (thOf M f).co, .int .i64 (thOf M f).tc, .int .i64 (thOf M f).rc, .int .i64 (((dpN M f : Nat) : Int) + 1)]] wc fun e w' => e = .returned (.int .i64 0) ∧ Rx w' base q N (psM N M f x) ∧ Below base wc w' ∧ KeepX q wc w') := fun wc h => by
        have := Pthd.rput_any base q N f (dpX (thOf M f) ((dpN M f + 1 : Nat) : Int)) (lyR N M f (dpN M f) x) wc h
        rw [b1, b2] at this
        push_cast at this
        exact this
      rw [e1]
      generalize psM N M f x = M2 at HPu ⊢
      generalize lyR N M f (dpN M f) x = M1 at HLy HPu
      generalize thOf M f = y at HG HPu
      generalize dpN M f = d at HG HLy HPu hd h6
      have hw : wrap64 ((d : Int) + 1) = (d : Int) + 1 := by unfold wrap64; omega
      have hd6 : ((d : Int) == 6) = false := by simp; omega
      clear e1 b1 b2 hde hf hg hx h hd
      go_enter Tryz.func8, Tryz.ntmps8
      go_upto_region 8 with (first
        | (go_at_call 35; refine (HRt.out _).mono ?_; rintro e1 w1 ⟨rfl, hb⟩; have H1 := rhide (H0.out.on hb); clear hb H0 HRt)
        | (go_at_call 36; refine (HG.out _ H1.out).mono ?_; rintro e2 w2 ⟨rfl, hb⟩; have H2 := rhide ((H1.out.on hb).more (dpX y (d : Int))); clear hb H1 HG)
        | fail)
      have H2' : Hid (Pq w (w2.alloc (.cells #[.int .i64 y.st, .int .i64 y.co, .int .i64 y.tc, .int .i64 y.rc, .int .i64 (d : Int)] 34)) base q N M x w2.heap.size (dpX y (d : Int))) := H2
      clear H2
      generalize w2.alloc _ = v at H2' ⊢
      generalize w2.heap.size = D at H2' ⊢
      have x0 := H2'.out.ls.box.c0
      have x1 := H2'.out.ls.box.c1
      have x2 := H2'.out.ls.box.c2
      have x3 := H2'.out.ls.box.c3
      have x4 := H2'.out.ls.box.c4
      have x5 := H2'.out.ls.box.c5
      have y4 : v.cell? ⟨D, 4, none⟩ = some (.int .i64 (d : Int)) := H2'.out.th.c4
      go_upto_region 9 with (first
        | (go_at_call 37; refine (HLy.out _ H2'.out.ls.rh.rx).mono ?_; rintro e3 w3 ⟨rfl, hr, hb, hk⟩; have H3 := rhide (H2'.out.turn hr hb hk); clear hr hb hk H2' HLy x0 x1 x2 x3 x4 x5 y4)
        | fail)
      have y0 : w3.cell? ⟨D, 0, none⟩ = some (.int .i64 y.st) := H3.out.th.c0
      have y1 : w3.cell? ⟨D, 1, none⟩ = some (.int .i64 y.co) := H3.out.th.c1
      have y2 : w3.cell? ⟨D, 2, none⟩ = some (.int .i64 y.tc) := H3.out.th.c2
      have y3 : w3.cell? ⟨D, 3, none⟩ = some (.int .i64 y.rc) := H3.out.th.c3
      have y4 : w3.cell? ⟨D, 4, none⟩ = some (.int .i64 (d : Int)) := H3.out.th.c4
      have z4 := H3.out.th.fz 4
      have H4 : Hid (Rh w (w3.setCell ⟨D, 4, none⟩ (.int .i64 ((d : Int) + 1))) base q N M1) := rh_set H3.out.ls.rh H3.out.th.c0 H3.out.dl HBs.out 4 _
      go_wp2_with (first
        | (go_at_call 38; refine (HPu.out _ H4.out.rx).mono ?_; rintro e4 w4 ⟨rfl, hr, hb, hk⟩; have H5 := rhide (And.intro hr (And.intro (H4.out.below.trans hb) (H4.out.kp.trans hk))); clear hr hb hk H4 HPu H3)
        | fail)
      go_ret
      exact ⟨rfl, H5.out⟩
  · have e1 : psE N M f x = gtE N M f := by unfold psE; rw [if_pos (roB_yes hx), if_neg hg]
    have e2 : psM N M f x = M := by unfold psM; rw [if_neg (by rw [e1]; exact hg)]
    rw [e1, e2]
    generalize gtT N M f = y at HG
    generalize gtE N M f = E at HG hg ⊢
    have hE : (E != 0) = true := by simp [hg]
    clear e1 e2 hg h hx
    go_enter Tryz.func8, Tryz.ntmps8
    go_wp2_with (first
      | (go_at_call 35; refine (HRt.out _).mono ?_; rintro e1 w1 ⟨rfl, hb⟩; have H1 := rhide (H0.out.on hb); clear hb H0 HRt)
      | (go_at_call 36; refine (HG.out _ H1.out).mono ?_; rintro e2 w2 ⟨rfl, hb⟩; have H2 := rhide ((H1.out.on hb).on (bal (Below.refl _ _) (.cells #[.int .i64 y.st, .int .i64 y.co, .int .i64 y.tc, .int .i64 y.rc, .int .i64 y.de] 34))); clear hb H1 HG)
      | fail)
    go_ret
    exact ⟨rfl, H2.out.rh.rx, H2.out.rh.below, H2.out.rh.kp⟩
end Go.Proofs.YtoipfcmjphlmfaaGreatDoor.Pstack
