/- What the steps of a walk that call others answer and do. -/
import Derived.Test.YtgcaodfcodalfaaGreatDoorCtbB
namespace Go.Proofs.YtgcaodfcodalfaaGreatDoor.Pcaptbl
open Go.Proofs.YtgcaodfcodalfaaGreatDoor.Pbase Go.Proofs.YtgcaodfcodalfaaGreatDoor.Pmem Go.Proofs.YtgcaodfcodalfaaGreatDoor.Pradix Go.Proofs.YtgcaodfcodalfaaGreatDoor.Pslot
open Go.RowKit
set_option linter.unusedVariables false

section
variable {w0 w : World} {p b N : Nat} {M : Nat → Nat → Int} {B : Nat} {v : Wk}
theorem drew3 {w : World} {p0 p1 p2 : Addr} {a b c : Option Value} (h0 : w.cell? p0 = a) (h1 : w.cell? p1 = b) (h2 : w.cell? p2 = c) : w.drew.cell? p0 = a ∧ w.drew.cell? p1 = b ∧ w.drew.cell? p2 = c := ⟨h0, h1, h2⟩
theorem drew2 {w : World} {p0 p1 : Addr} {a b : Option Value} (h0 : w.cell? p0 = a) (h1 : w.cell? p1 = b) : w.drew.cell? p0 = a ∧ w.drew.cell? p1 = b := ⟨h0, h1⟩
/-- What the slot has, what the frame begins with, are written into it. -/
theorem wi_have (h : Wi w0 w p b N M B v) (k r t l e x : Int) : Wi w0 ((((((w.setCell ⟨B, 10, none⟩ (.int .i64 k)).setCell ⟨B, 11, none⟩ (.int .i64 r)).setCell ⟨B, 12, none⟩ (.int .i64 t)).setCell ⟨B, 13, none⟩ (.int .i64 l)).setCell ⟨B, 14, none⟩ (.int .i64 e)).setCell ⟨B, 15, none⟩ (.int .i64 x)) p b N M B { v with k := k, r := r, t := t, l := l, e := e, x := x } :=
  (((((h.set { v with k := k } 10 _ rfl rfl).set { v with k := k, r := r } 11 _ rfl rfl).set { v with k := k, r := r, t := t } 12 _ rfl rfl).set { v with k := k, r := r, t := t, l := l } 13 _ rfl rfl).set { v with k := k, r := r, t := t, l := l, e := e } 14 _ rfl rfl).set { v with k := k, r := r, t := t, l := l, e := e, x := x } 15 _ rfl rfl
theorem wi_is (h : Wi w0 w p b N M B v) (k l : Int) (z : Bool) (t : Int) : Wi w0 ((((w.setCell ⟨B, 6, none⟩ (.int .i64 k)).setCell ⟨B, 7, none⟩ (.int .i64 l)).setCell ⟨B, 8, none⟩ (.bool z)).setCell ⟨B, 9, none⟩ (.int .i64 t)) p b N M B { v with hk := k, hl := l, hz := z, ht := t } :=
  (((h.set { v with hk := k } 6 _ rfl rfl).set { v with hk := k, hl := l } 7 _ rfl rfl).set { v with hk := k, hl := l, hz := z } 8 _ rfl rfl).set { v with hk := k, hl := l, hz := z, ht := t } 9 _ rfl rfl
theorem wi_have3 (h : Wi w0 w p b N M B v) (k r t l e x : Int) : (((((((w.setCell ⟨B, 10, none⟩ (.int .i64 k)).setCell ⟨B, 11, none⟩ (.int .i64 r)).setCell ⟨B, 12, none⟩ (.int .i64 t)).setCell ⟨B, 13, none⟩ (.int .i64 l)).setCell ⟨B, 14, none⟩ (.int .i64 e)).setCell ⟨B, 15, none⟩ (.int .i64 x)).cell? ⟨B, 0, none⟩ = some (.pointer (some ⟨p, 0, none⟩)) ∧ ((((((w.setCell ⟨B, 10, none⟩ (.int .i64 k)).setCell ⟨B, 11, none⟩ (.int .i64 r)).setCell ⟨B, 12, none⟩ (.int .i64 t)).setCell ⟨B, 13, none⟩ (.int .i64 l)).setCell ⟨B, 14, none⟩ (.int .i64 e)).setCell ⟨B, 15, none⟩ (.int .i64 x)).cell? ⟨B, 3, none⟩ = some (.int .i64 v.fr) ∧ ((((((w.setCell ⟨B, 10, none⟩ (.int .i64 k)).setCell ⟨B, 11, none⟩ (.int .i64 r)).setCell ⟨B, 12, none⟩ (.int .i64 t)).setCell ⟨B, 13, none⟩ (.int .i64 l)).setCell ⟨B, 14, none⟩ (.int .i64 e)).setCell ⟨B, 15, none⟩ (.int .i64 x)).cell? ⟨B, 4, none⟩ = some (.int .i64 v.at_)) :=
  ⟨(wi_have h k r t l e x).c0, (wi_have h k r t l e x).c3, (wi_have h k r t l e x).c4⟩
theorem but6 {w1 : World} (h : But B w w1) (a0 a1 a2 a3 a4 a5 : Nat) (x0 x1 x2 x3 x4 x5 : Value) : But B w ((((((w1.setCell ⟨B, a0, none⟩ x0).setCell ⟨B, a1, none⟩ x1).setCell ⟨B, a2, none⟩ x2).setCell ⟨B, a3, none⟩ x3).setCell ⟨B, a4, none⟩ x4).setCell ⟨B, a5, none⟩ x5) :=
  but_own (but_own (but_own (but_own (but_own (but_own h _ _) _ _) _ _) _ _) _ _) _ _
set_option maxRecDepth 100000 in
set_option maxHeartbeats 1000000 in
theorem read_any (h : Wi w0 w p b N M B v) : Calls Tryz.prog 53 #[.pointer (some ⟨B, 0, none⟩)] w fun x w' => x = .returned (.int .i64 (stRead N M v).2) ∧ Wi w0 w' p b N M B (stRead N M v).1 ∧ But B w w' := by
  have HI : Hid (Wi w0 w p b N M B v) := h
  have c0 := h.c0
  have c3 := h.c3
  have c4 := h.c4
  clear h
  unfold stRead stSee
  have HG : Hid (∀ wc, Below w.heap.size w wc → Calls Tryz.prog 79 #[.pointer (some ⟨p, 0, none⟩), .int .i64 v.fr, .int .i64 v.at_] wc fun x w' => x = .returned (.tuple #[.agg #[.int .i64 (sC N M v.fr v.at_ 0), .int .i64 (sC N M v.fr v.at_ 1), .int .i64 (sC N M v.fr v.at_ 2), .int .i64 (sC N M v.fr v.at_ 3), .int .i64 (sC N M v.fr v.at_ 4), .int .i64 (sC N M v.fr v.at_ 5)], .int .i64 (sE N M v.fr v.at_)]) ∧ Below wc.heap.size wc w') := fun wc hb => sget_any p b N v.fr v.at_ M wc (HI.out.on hb).mx.mt
  generalize sC N M v.fr v.at_ 0 = C0 at HG ⊢
  generalize sC N M v.fr v.at_ 1 = C1 at HG ⊢
  generalize sC N M v.fr v.at_ 2 = C2 at HG ⊢
  generalize sC N M v.fr v.at_ 3 = C3 at HG ⊢
  generalize sC N M v.fr v.at_ 4 = C4 at HG ⊢
  generalize sC N M v.fr v.at_ 5 = C5 at HG ⊢
  generalize sE N M v.fr v.at_ = E at HG ⊢
  go_enter Tryz.func53, Tryz.ntmps53
  go_upto_region 2 with fail
  go_region_held3 (fun w' => w'.cell? ⟨B, 0, none⟩ = some (.pointer (some ⟨p, 0, none⟩)) ∧ w'.cell? ⟨B, 3, none⟩ = some (.int .i64 v.fr) ∧ w'.cell? ⟨B, 4, none⟩ = some (.int .i64 v.at_)) (first | with_reducible exact ⟨by assumption, by assumption, by assumption⟩ | with_reducible exact drew3 c0 c3 c4 | with_reducible exact wi_have3 H1.out C0 C1 C2 C3 C4 C5)
  (first
    | (go_at_call 79; refine (HG.out _ (by first | exact Below.refl _ _ | exact (Below.refl _ _).drew)).mono ?_; rintro e1 w1 ⟨rfl, hb⟩; have hb1 : Below w.heap.size w w1 := (by first | exact hb | exact (Below.refl _ _).drew.trans hb); have H1 : Hid (Wi w0 w1 p b N M B v) := HI.out.on hb1; have HB : Hid (But B w w1) := But.of_below B hb1; clear hb hb1 c0 c3 c4; have c0 := H1.out.c0; have c3 := H1.out.c3; have c4 := H1.out.c4; have z0 := H1.out.fz 10; have z1 := H1.out.fz 11; have z2 := H1.out.fz 12; have z3 := H1.out.fz 13; have z4 := H1.out.fz 14; have z5 := H1.out.fz 15; have y0 := H1.out.c10; have y1 := H1.out.c11; have y2 := H1.out.c12; have y3 := H1.out.c13; have y4 := H1.out.c14; have y5 := H1.out.c15)
    | fail)
  go_wp2
  go_ret
  exact ⟨rfl, wi_have H1.out _ _ _ _ _ _, but6 HB.out _ _ _ _ _ _ _ _ _ _ _ _⟩
/-! ### the frame's level -/
theorem wi_al2 (h : Wi w0 w p b N M B v) (o : Obj) : (w.alloc o).cell? ⟨B, 0, none⟩ = some (.pointer (some ⟨p, 0, none⟩)) ∧ (w.alloc o).cell? ⟨B, 3, none⟩ = some (.int .i64 v.fr) :=
  ⟨(h.on (bal (Below.refl _ _) o)).c0, (h.on (bal (Below.refl _ _) o)).c3⟩
theorem in_laid {w1 : World} (h : Wi w0 w1 p b N M B v) (hB : But B w w1) (k l : Int) (z : Bool) (t : Int) : Wi w0 (w1.alloc (.cells #[.int .i64 k, .int .i64 l, .bool z, .int .i64 t] 78)) p b N M B v ∧ Phead.Box4 (w1.alloc (.cells #[.int .i64 k, .int .i64 l, .bool z, .int .i64 t] 78)) w1.heap.size k l z t ∧ But B w (w1.alloc (.cells #[.int .i64 k, .int .i64 l, .bool z, .int .i64 t] 78)) :=
  ⟨h.on (bal (Below.refl _ _) _), Phead.box4_new w1 k l z t 78, hB.trans (But.of_below B (bal (Below.refl _ _) _))⟩
theorem box4_row {w : World} {D : Nat} {k l t : Int} {z : Bool} (h : w.heap[D]? = some (.cells #[.int .i64 k, .int .i64 l, .bool z, .int .i64 t] 78 (0, 0))) : Phead.Box4 w D k l z t :=
  ⟨(Array.getElem?_eq_some_iff.1 h).1, (cell_of_row _ _ _ _ _ _ h).trans rfl, (cell_of_row _ _ _ _ _ _ h).trans rfl, (cell_of_row _ _ _ _ _ _ h).trans rfl, (cell_of_row _ _ _ _ _ _ h).trans rfl, fun j => frozen_of_row _ _ _ _ _ h⟩
/-- The head's variable may be laid ahead of the call. -/
theorem in_first {w1 : World} (h : Wi w0 w1 p b N M B v) (hI : Wi w0 w p b N M B v) (hB : But B w w1) (hx : w1.heap[w.heap.size]? = some (.cells #[.int .i64 0, .int .i64 0, .bool false, .int .i64 0] 78 (0, 0))) (k l : Int) (z : Bool) (t : Int) :
    Wi w0 ((((w1.setCell ⟨w.heap.size, 0, none⟩ (.int .i64 k)).setCell ⟨w.heap.size, 1, none⟩ (.int .i64 l)).setCell ⟨w.heap.size, 2, none⟩ (.bool z)).setCell ⟨w.heap.size, 3, none⟩ (.int .i64 t)) p b N M B v ∧ Phead.Box4 ((((w1.setCell ⟨w.heap.size, 0, none⟩ (.int .i64 k)).setCell ⟨w.heap.size, 1, none⟩ (.int .i64 l)).setCell ⟨w.heap.size, 2, none⟩ (.bool z)).setCell ⟨w.heap.size, 3, none⟩ (.int .i64 t)) w.heap.size k l z t ∧ But B w ((((w1.setCell ⟨w.heap.size, 0, none⟩ (.int .i64 k)).setCell ⟨w.heap.size, 1, none⟩ (.int .i64 l)).setCell ⟨w.heap.size, 2, none⟩ (.bool z)).setCell ⟨w.heap.size, 3, none⟩ (.int .i64 t)) := by
  have hq : But w.heap.size w1 ((((w1.setCell ⟨w.heap.size, 0, none⟩ (.int .i64 k)).setCell ⟨w.heap.size, 1, none⟩ (.int .i64 l)).setCell ⟨w.heap.size, 2, none⟩ (.bool z)).setCell ⟨w.heap.size, 3, none⟩ (.int .i64 t)) := but_own (but_own (but_own (but_own (But.refl _ _) _ _) _ _) _ _) _ _
  refine ⟨h.but hq hI.below.size (Nat.ne_of_lt hI.lt), box4_row ((heap_setCell_same _ _ _ _ _ _ (heap_setCell_same _ _ _ _ _ _ (heap_setCell_same _ _ _ _ _ _ (heap_setCell_same _ _ _ _ _ _ hx)))).trans rfl), but_new (but_new (but_new (but_new hB (Nat.le_refl _) _ _) (Nat.le_refl _) _ _) (Nat.le_refl _) _ _) (Nat.le_refl _) _ _⟩
set_option maxRecDepth 100000 in
set_option maxHeartbeats 1000000 in
theorem in_any (l : Int) (h : Wi w0 w p b N M B v) : Calls Tryz.prog 78 #[.pointer (some ⟨B, 0, none⟩), .int .i64 l] w fun x w' => x = .returned (.int .i64 (stIn N M l v).2) ∧ Wi w0 w' p b N M B (stIn N M l v).1 ∧ But B w w' := by
  have HI : Hid (Wi w0 w p b N M B v) := h
  have c0 := h.c0
  have c3 := h.c3
  clear h
  unfold stIn tbB
  have HG : Hid (∀ wc, Below w.heap.size w wc → Calls Tryz.prog 59 #[.pointer (some ⟨p, 0, none⟩), .int .i64 v.fr] wc fun x w' => x = .returned (.tuple #[.agg #[.int .i64 (Phead.ghK N M v.fr), .int .i64 (Phead.ghL N M v.fr), .bool (Phead.ghZ N M v.fr), .int .i64 (Phead.ghT N M v.fr)], .int .i64 (Phead.ghE N M v.fr)]) ∧ Below wc.heap.size wc w') := fun wc hb => Phead.hget_any p b N v.fr M wc (HI.out.on hb).mx.mt.n1 (HI.out.on hb).mx.mt.n64 (HI.out.on hb).mx.mt.mem (HI.out.on hb).mx.th (HI.out.on hb).mx.mt.fit
  generalize Phead.ghK N M v.fr = K at HG ⊢
  generalize Phead.ghL N M v.fr = L at HG ⊢
  generalize Phead.ghZ N M v.fr = Z at HG ⊢
  generalize Phead.ghT N M v.fr = T at HG ⊢
  generalize Phead.ghE N M v.fr = E at HG ⊢
  obtain ⟨R, hR⟩ : ∃ R, (if (decide (E = 0) && decide (K = 1) && decide (L = l)) = true then ({ v with hk := K, hl := L, hz := Z, ht := T }, (0 : Int)) else (v, 4)) = R := ⟨_, rfl⟩
  rw [hR]
  have HR : Hid ((if (decide (E = 0) && decide (K = 1) && decide (L = l)) = true then ({ v with hk := K, hl := L, hz := Z, ht := T }, (0 : Int)) else (v, 4)) = R) := hR
  clear hR
  go_enter Tryz.func78, Tryz.ntmps78
  go_upto_region 1 with fail
  go_region_held3 (fun w' => w'.cell? ⟨B, 0, none⟩ = some (.pointer (some ⟨p, 0, none⟩)) ∧ w'.cell? ⟨B, 3, none⟩ = some (.int .i64 v.fr)) (first | with_reducible exact ⟨by assumption, by assumption⟩ | with_reducible exact drew2 c0 c3 | with_reducible exact wi_al2 H1.out _ | with_reducible exact drew2 (wi_al2 HI.out _).1 (wi_al2 HI.out _).2 | with_reducible exact ⟨(in_first H1.out HI.out HB.out HX.out K L Z T).1.c0, (in_first H1.out HI.out HB.out HX.out K L Z T).1.c3⟩)
  (first
    | (go_at_call 59; refine (HG.out _ (by first | exact Below.refl _ _ | exact (Below.refl _ _).drew | exact (bal (Below.refl _ _) _).drew)).mono ?_; rintro e1 w1 ⟨rfl, hb⟩; have hb1 : Below w.heap.size w w1 := (by first | exact hb | exact (Below.refl _ _).drew.trans hb | exact (bal (Below.refl _ _) _).drew.trans (hb.mono (by simp))); (first | (have HX : Hid (w1.heap[w.heap.size]? = some (.cells #[.int .i64 0, .int .i64 0, .bool false, .int .i64 0] 78 (0, 0))) := (hb.block w.heap.size (by simp)).trans (heap_alloc_new w _); have q0 := (box4_row HX.out).c0; have q1 := (box4_row HX.out).c1; have q2 := (box4_row HX.out).c2; have q3 := (box4_row HX.out).c3; have f0 := (box4_row HX.out).fz 0; have f1 := (box4_row HX.out).fz 1; have f2 := (box4_row HX.out).fz 2; have f3 := (box4_row HX.out).fz 3) | skip); have H1 : Hid (Wi w0 w1 p b N M B v) := HI.out.on hb1; have HB : Hid (But B w w1) := But.of_below B hb1; clear hb hb1 c0 c3; have c0 := H1.out.c0; have c3 := H1.out.c3)
    | fail)
  all_goals (first
    | (have HL := in_first H1.out HI.out HB.out HX.out K L Z T; clear HX q0 q1 q2 q3 f0 f1 f2 f3; generalize World.setCell _ _ _ = w2 at HL ⊢; obtain ⟨D, hD⟩ : ∃ D, D = w.heap.size := ⟨_, rfl⟩; rw [← hD] at HL ⊢; clear hD)
    | (have HL := in_laid H1.out HB.out K L Z T; generalize w1.alloc _ = w2 at HL ⊢; generalize w1.heap.size = D at HL ⊢))
  all_goals (
    have H2 : Hid (Wi w0 w2 p b N M B v) := HL.1
    have HB2 : Hid (But B w w2) := HL.2.2
    have x0 := HL.2.1.c0
    have x1 := HL.2.1.c1
    have x2 := HL.2.1.c2
    have x3 := HL.2.1.c3
    clear HL c0 c3 H1 HB HG
    by_cases hE : E = 0
    · subst hE
      by_cases hK : K = 1
      · subst hK
        by_cases hl : L = l
        · subst hl
          have c6 := H2.out.c6
          have c7 := H2.out.c7
          have c8 := H2.out.c8
          have c9 := H2.out.c9
          have z6 := H2.out.fz 6
          have z7 := H2.out.fz 7
          have z8 := H2.out.fz 8
          have z9 := H2.out.fz 9
          go_wp2
          go_ret
          have hr := HR.out; rw [if_pos (by simp)] at hr; subst hr; exact ⟨rfl, wi_is H2.out _ _ _ _, but_own (but_own (but_own (but_own HB2.out _ _) _ _) _ _) _ _⟩
        · have hl' : (L != l) = true := by simp [hl]
          go_wp2
          go_ret
          have hr := HR.out; rw [if_neg (by simp [hl])] at hr; subst hr
          exact ⟨rfl, H2.out, HB2.out⟩
      · have hK' : (K != 1) = true := by simp [hK]
        go_wp2
        go_ret
        have hr := HR.out; rw [if_neg (by simp [hK])] at hr; subst hr
        exact ⟨rfl, H2.out, HB2.out⟩
    · have hE' : (E != 0) = true := by simp [hE]
      go_wp2
      go_ret
      have hr := HR.out; rw [if_neg (by simp [hE])] at hr; subst hr
      exact ⟨rfl, H2.out, HB2.out⟩)
theorem inRoot_any (h : Wi w0 w p b N M B v) : Calls Tryz.prog 51 #[.pointer (some ⟨B, 0, none⟩)] w fun x w' => x = .returned (.int .i64 (stIn N M 0 v).2) ∧ Wi w0 w' p b N M B (stIn N M 0 v).1 ∧ But B w w' := by
  have HI : Hid (Wi w0 w p b N M B v) := h
  clear h
  generalize hs : stIn N M 0 v = s
  have HS : Hid (stIn N M 0 v = s) := hs
  clear hs
  go_enter Tryz.func51, Tryz.ntmps51
  go_wp2_with (first
    | (go_at_call 78; refine (in_any 0 HI.out).mono ?_; rintro e1 w1 ⟨rfl, hb⟩; rw [HS.out] at hb; rw [HS.out]; have H1 : Hid (Wi w0 w1 p b N M B s.1 ∧ But B w w1) := hb; clear hb)
    | fail)
  go_ret
  exact ⟨rfl, H1.out⟩
theorem inLeaf_any (h : Wi w0 w p b N M B v) : Calls Tryz.prog 52 #[.pointer (some ⟨B, 0, none⟩)] w fun x w' => x = .returned (.int .i64 (stIn N M 1 v).2) ∧ Wi w0 w' p b N M B (stIn N M 1 v).1 ∧ But B w w' := by
  have HI : Hid (Wi w0 w p b N M B v) := h
  clear h
  generalize hs : stIn N M 1 v = s
  have HS : Hid (stIn N M 1 v = s) := hs
  clear hs
  go_enter Tryz.func52, Tryz.ntmps52
  go_wp2_with (first
    | (go_at_call 78; refine (in_any 1 HI.out).mono ?_; rintro e1 w1 ⟨rfl, hb⟩; rw [HS.out] at hb; rw [HS.out]; have H1 : Hid (Wi w0 w1 p b N M B s.1 ∧ But B w w1) := hb; clear hb)
    | fail)
  go_ret
  exact ⟨rfl, H1.out⟩
/-! ### from the root's slot to the leaf -/
theorem keep_fr (h : Wi w0 w p b N M B v) (x : Int) : (w.setCell ⟨B, 3, none⟩ (.int .i64 x)).cell? ⟨B, 12, none⟩ = some (.int .i64 v.t) ∧ (w.setCell ⟨B, 3, none⟩ (.int .i64 x)).cell? ⟨B, 5, none⟩ = some (.int .i64 v.lo) :=
  ⟨(h.set { v with fr := x } 3 _ rfl rfl).c12, (h.set { v with fr := x } 3 _ rfl rfl).c5⟩
theorem wi_fr_at (h : Wi w0 w p b N M B v) (x y : Int) : Wi w0 ((w.setCell ⟨B, 3, none⟩ (.int .i64 x)).setCell ⟨B, 4, none⟩ (.int .i64 y)) p b N M B { v with fr := x, at_ := y } :=
  (h.set { v with fr := x } 3 _ rfl rfl).set { v with fr := x, at_ := y } 4 _ rfl rfl
theorem keep_fr_at (h : Wi w0 w p b N M B v) (x y : Int) : ((w.setCell ⟨B, 3, none⟩ (.int .i64 x)).setCell ⟨B, 4, none⟩ (.int .i64 y)).cell? ⟨B, 12, none⟩ = some (.int .i64 v.t) ∧ ((w.setCell ⟨B, 3, none⟩ (.int .i64 x)).setCell ⟨B, 4, none⟩ (.int .i64 y)).cell? ⟨B, 5, none⟩ = some (.int .i64 v.lo) :=
  ⟨(wi_fr_at h x y).c12, (wi_fr_at h x y).c5⟩
set_option maxRecDepth 100000 in
set_option maxHeartbeats 1000000 in
theorem descend_any (h : Wi w0 w p b N M B v) : Calls Tryz.prog 70 #[.pointer (some ⟨B, 0, none⟩)] w fun x w' => x = .returned (.int .i64 (stDesc N M v).2) ∧ Wi w0 w' p b N M B (stDesc N M v).1 ∧ But B w w' := by
  have HR : Hid (Calls Tryz.prog 53 #[.pointer (some ⟨B, 0, none⟩)] w fun x w' => x = .returned (.int .i64 (sE N M v.fr v.at_)) ∧ Wi w0 w' p b N M B (stSee N M v) ∧ But B w w') := read_any h
  clear h
  unfold stDesc
  by_cases hE : sE N M v.fr v.at_ = 0
  · by_cases hK : sC N M v.fr v.at_ 0 = 3
    · rw [if_pos ⟨hE, hK⟩]
      rw [hE] at HR
      have hk : (stSee N M v).k = 3 := hK
      have ht : sC N M v.fr v.at_ 2 = (stSee N M v).t := rfl
      have hlo : v.lo = (stSee N M v).lo := rfl
      rw [ht, hlo]
      clear ht hlo hE hK
      generalize stSee N M v = u at HR hk ⊢
      have hl : (stLeaf u).2 = 0 := by simp [stLeaf, hk]
      go_enter Tryz.func70, Tryz.ntmps70
      go_upto_region 3 with (first
        | (go_at_call 53; refine HR.out.mono ?_; rintro e1 w1 ⟨rfl, hb⟩; have H1 : Hid (Wi w0 w1 p b N M B u ∧ But B w w1) := hb; clear hb HR)
        | (go_at_call 56; refine (hasLeaf_any H1.out.1).mono ?_; rintro e2 w2 ⟨rfl, _, hw2⟩; subst w2; rw [hl])
        | fail)
      have c12 := H1.out.1.c12
      have c5 := H1.out.1.c5
      have c3 := H1.out.1.c3
      have c4 := H1.out.1.c4
      have z3 := H1.out.1.fz 3
      have z4 := H1.out.1.fz 4
      go_region_held3 (fun w' => w'.cell? ⟨B, 12, none⟩ = some (.int .i64 u.t) ∧ w'.cell? ⟨B, 5, none⟩ = some (.int .i64 u.lo)) (first | with_reducible exact ⟨by assumption, by assumption⟩ | with_reducible exact drew2 c12 c5 | with_reducible exact drew2 (keep_fr H1.out.1 u.t).1 (keep_fr H1.out.1 u.t).2 | with_reducible exact drew2 (keep_fr_at H1.out.1 u.t u.lo).1 (keep_fr_at H1.out.1 u.t u.lo).2)
      (fail)
      go_wp2
      go_ret
      exact ⟨rfl, (wi_fr_at H1.out.1 _ _).on (Below.refl _ _).drew, (but_own (but_own H1.out.2 _ _) _ _).drew⟩
    · rw [if_neg (fun h => hK h.2)]
      rw [hE] at HR
      have hk : ¬ (stSee N M v).k = 3 := hK
      clear hE hK
      generalize stSee N M v = u at HR hk ⊢
      have hl : (stLeaf u).2 = 3 := by simp [stLeaf, hk]
      go_enter Tryz.func70, Tryz.ntmps70
      go_wp2_with (first
        | (go_at_call 53; refine HR.out.mono ?_; rintro e1 w1 ⟨rfl, hb⟩; have H1 : Hid (Wi w0 w1 p b N M B u ∧ But B w w1) := hb; clear hb HR)
        | (go_at_call 56; refine (hasLeaf_any H1.out.1).mono ?_; rintro e2 w2 ⟨rfl, _, hw2⟩; subst w2; rw [hl])
        | fail)
      go_ret
      exact ⟨rfl, H1.out⟩
  · rw [if_neg (fun h => hE h.1)]
    generalize stSee N M v = u at HR ⊢
    generalize sE N M v.fr v.at_ = E at HR hE
    have hE' : (E != 0) = true := by simp [hE]
    go_enter Tryz.func70, Tryz.ntmps70
    go_wp2_with (first
      | (go_at_call 53; refine HR.out.mono ?_; rintro e1 w1 ⟨rfl, hb⟩; have H1 : Hid (Wi w0 w1 p b N M B u ∧ But B w w1) := hb; clear hb HR)
      | fail)
    go_ret
    exact ⟨rfl, H1.out⟩
end
end Go.Proofs.YtgcaodfcodalfaaGreatDoor.Pcaptbl
