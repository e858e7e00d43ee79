/- The walk of CompBack. -/
import Derived.Test.YtikhbohkmogffaaDoorCmpL
namespace Go.Proofs.YtikhbohkmogffaaDoor.Pcomp
open Go.Proofs.YtikhbohkmogffaaDoor.Pbase Go.Proofs.YtikhbohkmogffaaDoor.Pfield Go.Proofs.YtikhbohkmogffaaDoor.Pmem
open Go.RowKit M
set_option linter.unusedVariables false

/-- What is asked of to and at comes out as what Hand answers. -/
def Tst (tt wh h : Int) : Prop := (h = 0 ∧ 0 ≤ tt ∧ tt < 64 ∧ 0 ≤ wh ∧ wh ≤ 1073741824) ∨ (h = 1 ∧ ¬ 0 ≤ tt) ∨ (h = 1 ∧ 0 ≤ tt ∧ ¬ tt < 64) ∨ (h = 1 ∧ 0 ≤ tt ∧ tt < 64 ∧ ¬ 0 ≤ wh) ∨ (h = 1 ∧ 0 ≤ tt ∧ tt < 64 ∧ 0 ≤ wh ∧ ¬ wh ≤ 1073741824)
theorem tst_any (tt wh : Int) : Tst tt wh (if haB tt wh = true then 0 else 1) := by
  unfold Tst
  by_cases h : haB tt wh = true
  · rw [if_pos h]
    have := (haB_iff tt wh).1 h
    omega
  · rw [if_neg h]
    have : ¬ ((0 ≤ tt ∧ tt ≤ 63) ∧ 0 ≤ wh ∧ wh ≤ 1073741824) := fun e => h ((haB_iff tt wh).2 e)
    omega
theorem Qs.fifth {w0 w : World} {p b N : Nat} {M : Nat → Nat → Int} {x : List (Nat × Cp)} {D : Nat} {c1 c2 c3 c4 : Nat × Cp} {y : Cp} (h : Qs w0 w p b N M (c1 :: c2 :: c3 :: c4 :: (D, y) :: x)) : RowC w D y := (h.bx _ (List.mem_cons_of_mem _ (List.mem_cons_of_mem _ (List.mem_cons_of_mem _ (List.mem_cons_of_mem _ (List.mem_cons_self ..)))))).1
/-- What was read behind Hand, with the two parts put back. -/
def bk (c : Cp) (q z : Int) : Cp := ⟨c.tb, c.pg, c.l, c.e, q, z⟩
set_option maxRecDepth 100000 in
set_option maxHeartbeats 4000000 in
theorem back_yes (c d y : Cp) (tt wh h q z P : Int) (M1 M2 M3 : Nat → Nat → Int) (w : World) (hT : Tc w) (hts : Tst tt wh h) (hq : h = 0 → tt + 1 = q ∧ wh = z) (hP : P = 0 ∧ d = y ∨ P = 1)
    (HMk : Hid (∀ wc p b, Mx wc p b 1 (fun _ _ => 0) → Calls Tryd.prog 7 #[.pointer (some ⟨p, 0, none⟩), .int .i64 0, .agg #[.int .i64 c.tb, .int .i64 c.pg, .int .i64 c.l, .int .i64 c.e, .int .i64 c.fa, .int .i64 c.wh]] wc fun e w' => e = .returned (.int .i64 0) ∧ Mx w' p b 1 M1 ∧ But b wc w'))
    (HG1 : Hid (∀ wc p b, Mx wc p b 1 M1 → Calls Tryd.prog 13 #[.pointer (some ⟨p, 0, none⟩), .int .i64 0] wc fun e w' => e = .returned (.tuple #[.agg #[.int .i64 c.tb, .int .i64 c.pg, .int .i64 c.l, .int .i64 c.e, .int .i64 c.fa, .int .i64 c.wh], .int .i64 0]) ∧ Below wc.heap.size wc w'))
    (HH : Hid (∀ wc p b, Mx wc p b 1 M1 → Calls Tryd.prog 11 #[.pointer (some ⟨p, 0, none⟩), .int .i64 0, .int .i64 tt, .int .i64 wh] wc fun e w' => e = .returned (.int .i64 h) ∧ Mx w' p b 1 M2 ∧ But b wc w'))
    (HG2 : Hid (∀ wc p b, Mx wc p b 1 M2 → Calls Tryd.prog 13 #[.pointer (some ⟨p, 0, none⟩), .int .i64 0] wc fun e w' => e = .returned (.tuple #[.agg #[.int .i64 c.tb, .int .i64 c.pg, .int .i64 c.l, .int .i64 c.e, .int .i64 q, .int .i64 z], .int .i64 0]) ∧ Below wc.heap.size wc w'))
    (HP : Hid (∀ wc p b, Mx wc p b 1 M2 → Calls Tryd.prog 9 #[.pointer (some ⟨p, 0, none⟩), .int .i64 0, .agg #[.int .i64 d.tb, .int .i64 d.pg, .int .i64 d.l, .int .i64 d.e, .int .i64 d.fa, .int .i64 d.wh]] wc fun e w' => e = .returned (.int .i64 P) ∧ Mx w' p b 1 M3 ∧ But b wc w'))
    (HG3 : Hid (∀ wc p b, Mx wc p b 1 M3 → Calls Tryd.prog 13 #[.pointer (some ⟨p, 0, none⟩), .int .i64 0] wc fun e w' => e = .returned (.tuple #[.agg #[.int .i64 y.tb, .int .i64 y.pg, .int .i64 y.l, .int .i64 y.e, .int .i64 y.fa, .int .i64 y.wh], .int .i64 0]) ∧ Below wc.heap.size wc w'))
    (HCk : Hid (∀ wc, Tc wc → Calls Tryd.prog 15 #[.agg #[.int .i64 d.tb, .int .i64 d.pg, .int .i64 d.l, .int .i64 d.e, .int .i64 d.fa, .int .i64 d.wh]] wc fun e w' => e = .returned (.int .i64 P) ∧ Below wc.heap.size wc w')) :
    Calls Tryd.prog 4 #[.agg #[.int .i64 c.tb, .int .i64 c.pg, .int .i64 c.l, .int .i64 c.e, .int .i64 c.fa, .int .i64 c.wh], .agg #[.int .i64 d.tb, .int .i64 d.pg, .int .i64 d.l, .int .i64 d.e, .int .i64 d.fa, .int .i64 d.wh], .int .i64 tt, .int .i64 wh] w fun e w' => e = .returned (.bool true) ∧ Below w.heap.size w w' := by
  have H0 := rhide (qs_two hT c d)
  have hnc := neqP c
  have hec := eqlP c
  have hed := eqlP d
  clear hT
  rcases hts with ⟨rfl, t1, t2, t3, t4⟩ | ⟨rfl, t1⟩ | ⟨rfl, t1, t2⟩ | ⟨rfl, t1, t2, t3⟩ | ⟨rfl, t1, t2, t3, t4⟩ <;> rcases hP with ⟨rfl, rfl⟩ | rfl
  all_goals
    first
      | (obtain ⟨rfl, rfl⟩ := hq rfl; have t5 : wrap64 (tt + 1) = tt + 1 := (by unfold wrap64; omega); clear hq)
      | clear hq
    go_enter Tryd.func4, Tryd.ntmps4
    go_wp2_with (first
      | (go_at_call 19; refine (new_ok 1 _ (by omega) (by omega)).mono ?_; rintro r1 w1 ⟨rfl, hw⟩; rw [← hw] at H0; clear hw; have H1 := H0; clear H0; have x0 := H1.out.first.c0; have x1 := H1.out.first.c1; have x2 := H1.out.first.c2; have x3 := H1.out.first.c3; have x4 := H1.out.first.c4; have x5 := H1.out.first.c5)
      | (go_at_call 7; refine (HMk.out _ _ _ H1.out.own.mx).mono ?_; rintro r2 w2 ⟨rfl, hm, hb⟩; have H2 := rhide (H1.out.but hm hb); clear hm hb H1 HMk x0 x1 x2 x3 x4 x5)
      | (go_at_call 13; refine (HG1.out _ _ _ H2.out.own.mx).mono ?_; rintro r3 w3 ⟨rfl, hb⟩; have H3 := rhide ((H2.out.on hb).more c); clear hb HG1 H2)
      | (go_at_call 11; refine (HH.out _ _ _ H3.out.own.mx).mono ?_; rintro r4 w4 ⟨rfl, hm, hb⟩; have H4 := rhide (H3.out.but hm hb); clear hm hb HH H3)
      | (go_at_call 13; refine (HG2.out _ _ _ H4.out.own.mx).mono ?_; rintro r5 w5 ⟨rfl, hb⟩; have H5 := rhide (H4.out.on hb); clear hb HG2 H4; obtain ⟨q', hq'⟩ : ∃ q', q' = (by first | exact q | exact tt + 1) := ⟨_, rfl⟩; obtain ⟨z', hz'⟩ : ∃ z', z' = (by first | exact z | exact wh) := ⟨_, rfl⟩; have Ha : Hid (Qs w (w5.alloc (.cells #[.int .i64 c.tb, .int .i64 c.pg, .int .i64 c.l, .int .i64 c.e, .int .i64 q', .int .i64 z'] 33)) _ _ _ _ _) := H5.out.more (bk c q' z'); have H6 := rhide (H5.out.more c); have Hb : Hid (Qs w (w5.alloc (.cells #[.int .i64 c.tb, .int .i64 c.pg, .int .i64 c.l, .int .i64 c.e, .int .i64 c.fa, .int .i64 z'] 33)) _ _ _ _ _) := H5.out.more (bk c c.fa z'); rw [hq', hz'] at Ha; rw [hz'] at Hb; clear hq' hz'; have v5 := Hb.out.third.c5; clear H5; have x0 := Ha.out.second.c0; have x1 := Ha.out.second.c1; have x2 := Ha.out.second.c2; have x3 := Ha.out.second.c3; have x4 := Ha.out.second.c4; have x5 := Ha.out.second.c5; have y0 := Ha.out.third.c0; have y1 := Ha.out.third.c1; have y2 := Ha.out.third.c2; have y3 := Ha.out.third.c3; have y4 := Ha.out.third.c4; have y5 := Ha.out.third.c5; have z0 := H6.out.fourth.c0; have z1 := H6.out.fourth.c1; have z2 := H6.out.fourth.c2; have z3 := H6.out.fourth.c3; have z4 := H6.out.fourth.c4; have z5 := H6.out.fourth.c5)
      | (go_at_call 9; refine (HP.out _ _ _ H6.out.own.mx).mono ?_; rintro r6 w6 ⟨rfl, hm, hb⟩; have H7 := rhide (H6.out.but hm hb); clear hm hb HP H6 Ha Hb v5 x0 x1 x2 x3 x4 x5 y0 y1 y2 y3 y4 y5 z0 z1 z2 z3 z4 z5)
      | (go_at_call 13; refine (HG3.out _ _ _ H7.out.own.mx).mono ?_; rintro r7 w7 ⟨rfl, hb⟩; have H8 := rhide ((H7.out.on hb).more (by first | exact y | exact d)); clear hb HG3 H7; have x0 := H8.out.second.c0; have x1 := H8.out.second.c1; have x2 := H8.out.second.c2; have x3 := H8.out.second.c3; have x4 := H8.out.second.c4; have x5 := H8.out.second.c5; have z0 := H8.out.fifth.c0; have z1 := H8.out.fifth.c1; have z2 := H8.out.fifth.c2; have z3 := H8.out.fifth.c3; have z4 := H8.out.fifth.c4; have z5 := H8.out.fifth.c5; have y0 := H8.out.fourth.c0; have y1 := H8.out.fourth.c1; have y2 := H8.out.fourth.c2; have y3 := H8.out.fourth.c3; have y4 := H8.out.fourth.c4; have y5 := H8.out.fourth.c5)
      | (go_at_call 15; refine (HCk.out _ H8.out.own.mx.tb).mono ?_; rintro r8 w8 ⟨rfl, hb⟩; have H9 := rhide (H8.out.on hb); clear hb HCk H8 x0 x1 x2 x3 x4 x5 y0 y1 y2 y3 y4 y5 z0 z1 z2 z3 z4 z5; have x0 := H9.out.first.c0; have x1 := H9.out.first.c1; have x2 := H9.out.first.c2; have x3 := H9.out.first.c3; have x4 := H9.out.first.c4; have x5 := H9.out.first.c5; have y0 := H9.out.fifth.c0; have y1 := H9.out.fifth.c1; have y2 := H9.out.fifth.c2; have y3 := H9.out.fifth.c3; have y4 := H9.out.fifth.c4; have y5 := H9.out.fifth.c5)
      | (go_at_call 18; refine (awake_any _ H9.out.own.mx.tb).mono ?_; rintro r9 w9 ⟨rfl, hb⟩; have HZ := rhide (H9.out.on hb); clear hb H9)
      | fail)
    go_ret
    exact ⟨rfl, HZ.out.own.below⟩
end Go.Proofs.YtikhbohkmogffaaDoor.Pcomp
