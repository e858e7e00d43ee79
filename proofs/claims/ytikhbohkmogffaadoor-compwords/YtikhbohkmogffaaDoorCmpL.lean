/- A memory of the call's own and components in blocks beside it; the tables out of the rows' condition; the walk of CompBack. -/
import Derived.Test.YtikhbohkmogffaaDoorCmpH
namespace Go.Proofs.YtikhbohkmogffaaDoor.Pcomp
open Go.Proofs.YtikhbohkmogffaaDoor.Pbase Go.Proofs.YtikhbohkmogffaaDoor.Pfield Go.Proofs.YtikhbohkmogffaaDoor.Pmem
open Go.RowKit M
set_option linter.unusedVariables false

theorem mx_new {w : World} (h : Tc w) {N : Nat} (h1 : 1 ≤ N) (h2 : N ≤ 64) : Mx (newW w N) (w.heap.size + 1) w.heap.size N fun _ _ => 0 :=
  ⟨newW_is w N, h.on (newW_below w N), Fit.zero, h1, h2⟩
structure Own (w0 w : World) (p b N : Nat) (M : Nat → Nat → Int) : Prop where
  mx : Mx w p b N M
  below : Below w0.heap.size w0 w
  lo : w0.heap.size ≤ b
theorem Own.on {w0 w w' : World} {p b N : Nat} {M : Nat → Nat → Int} (h : Own w0 w p b N M) (hB : Below w.heap.size w w') : Own w0 w' p b N M := ⟨h.mx.on hB, h.below.trans (hB.mono h.below.size), h.lo⟩
theorem Own.but {w0 w w' : World} {p b N : Nat} {M M' : Nat → Nat → Int} (h : Own w0 w p b N M) (hm : Mx w' p b N M') (hB : But b w w') : Own w0 w' p b N M' := ⟨hm, h.below.trans (hB.below h.lo h.below.size), h.lo⟩
/-- Components in blocks beside it. -/
structure Qs (w0 w : World) (p b N : Nat) (M : Nat → Nat → Int) (x : List (Nat × Cp)) : Prop where
  own : Own w0 w p b N M
  bx : ∀ c ∈ x, RowC w c.1 c.2 ∧ c.1 ≠ b
section
variable {w0 w w' : World} {p b N : Nat} {M M' : Nat → Nat → Int} {x : List (Nat × Cp)}
theorem Qs.on (h : Qs w0 w p b N M x) (hB : Below w.heap.size w w') : Qs w0 w' p b N M x := ⟨h.own.on hB, fun c hc => ⟨(h.bx c hc).1.on hB, (h.bx c hc).2⟩⟩
theorem Qs.but (h : Qs w0 w p b N M x) (hm : Mx w' p b N M') (hB : But b w w') : Qs w0 w' p b N M' x := ⟨h.own.but hm hB, fun c hc => ⟨(h.bx c hc).1.but hB (h.bx c hc).2, (h.bx c hc).2⟩⟩
theorem Qs.more (h : Qs w0 w p b N M x) (y : Cp) : Qs w0 (w.alloc (.cells #[.int .i64 y.tb, .int .i64 y.pg, .int .i64 y.l, .int .i64 y.e, .int .i64 y.fa, .int .i64 y.wh] 33)) p b N M ((w.heap.size, y) :: x) := by
  refine ⟨h.own.on (bal (Below.refl _ _) _), fun c hc => ?_⟩
  rcases List.mem_cons.1 hc with rfl | hc
  · exact ⟨rowC_new w y, Nat.ne_of_gt h.own.mx.mem.lt.2⟩
  · exact ⟨(h.bx c hc).1.on (bal (Below.refl _ _) _), (h.bx c hc).2⟩
theorem Qs.first {D : Nat} {y : Cp} (h : Qs w0 w p b N M ((D, y) :: x)) : RowC w D y := (h.bx _ (List.mem_cons_self ..)).1
theorem Qs.second {D : Nat} {c : Nat × Cp} {y : Cp} (h : Qs w0 w p b N M (c :: (D, y) :: x)) : RowC w D y := (h.bx _ (List.mem_cons_of_mem _ (List.mem_cons_self ..))).1
theorem Qs.third {D : Nat} {c c' : Nat × Cp} {y : Cp} (h : Qs w0 w p b N M (c :: c' :: (D, y) :: x)) : RowC w D y := (h.bx _ (List.mem_cons_of_mem _ (List.mem_cons_of_mem _ (List.mem_cons_self ..)))).1
theorem Qs.fourth {D : Nat} {c c' c'' : Nat × Cp} {y : Cp} (h : Qs w0 w p b N M (c :: c' :: c'' :: (D, y) :: x)) : RowC w D y := (h.bx _ (List.mem_cons_of_mem _ (List.mem_cons_of_mem _ (List.mem_cons_of_mem _ (List.mem_cons_self ..))))).1
end
theorem qs_one {w : World} (h : Tc w) (c : Cp) : Qs w (newW (w.alloc (.cells #[.int .i64 c.tb, .int .i64 c.pg, .int .i64 c.l, .int .i64 c.e, .int .i64 c.fa, .int .i64 c.wh] 33)) 1) (w.heap.size + 1 + 1) (w.heap.size + 1) 1 (fun _ _ => 0) [(w.heap.size, c)] := by
  have hb := bal (Below.refl w.heap.size w) (.cells #[.int .i64 c.tb, .int .i64 c.pg, .int .i64 c.l, .int .i64 c.e, .int .i64 c.fa, .int .i64 c.wh] 33)
  have hm := mx_new (h.on hb) (N := 1) (by omega) (by omega)
  have hn := newW_below (w.alloc (.cells #[.int .i64 c.tb, .int .i64 c.pg, .int .i64 c.l, .int .i64 c.e, .int .i64 c.fa, .int .i64 c.wh] 33)) 1
  have r1 := rowC_new w c
  simp only [World.size_alloc] at hm
  refine ⟨⟨hm, hb.trans (hn.mono hb.size), by omega⟩, fun x hx => ?_⟩
  simp only [List.mem_cons, List.not_mem_nil, or_false] at hx
  rcases hx with rfl
  exact ⟨r1.on hn, by show w.heap.size ≠ w.heap.size + 1; omega⟩
theorem qs_two {w : World} (h : Tc w) (c d : Cp) : Qs w (newW ((w.alloc (.cells #[.int .i64 c.tb, .int .i64 c.pg, .int .i64 c.l, .int .i64 c.e, .int .i64 c.fa, .int .i64 c.wh] 33)).alloc (.cells #[.int .i64 d.tb, .int .i64 d.pg, .int .i64 d.l, .int .i64 d.e, .int .i64 d.fa, .int .i64 d.wh] 33)) 1) (w.heap.size + 1 + 1 + 1) (w.heap.size + 1 + 1) 1 (fun _ _ => 0) [(w.heap.size, c), (w.heap.size + 1, d)] := by
  have hb := bal (bal (Below.refl w.heap.size w) (.cells #[.int .i64 c.tb, .int .i64 c.pg, .int .i64 c.l, .int .i64 c.e, .int .i64 c.fa, .int .i64 c.wh] 33)) (.cells #[.int .i64 d.tb, .int .i64 d.pg, .int .i64 d.l, .int .i64 d.e, .int .i64 d.fa, .int .i64 d.wh] 33)
  have hm := mx_new (h.on hb) (N := 1) (by omega) (by omega)
  have hn := newW_below ((w.alloc (.cells #[.int .i64 c.tb, .int .i64 c.pg, .int .i64 c.l, .int .i64 c.e, .int .i64 c.fa, .int .i64 c.wh] 33)).alloc (.cells #[.int .i64 d.tb, .int .i64 d.pg, .int .i64 d.l, .int .i64 d.e, .int .i64 d.fa, .int .i64 d.wh] 33)) 1
  have r1 := (rowC_new w c).on (bal (Below.refl _ _) (.cells #[.int .i64 d.tb, .int .i64 d.pg, .int .i64 d.l, .int .i64 d.e, .int .i64 d.fa, .int .i64 d.wh] 33))
  have r2 := rowC_new (w.alloc (.cells #[.int .i64 c.tb, .int .i64 c.pg, .int .i64 c.l, .int .i64 c.e, .int .i64 c.fa, .int .i64 c.wh] 33)) d
  simp only [World.size_alloc] at hm r2
  refine ⟨⟨hm, hb.trans (hn.mono hb.size), by omega⟩, fun x hx => ?_⟩
  simp only [List.mem_cons, List.not_mem_nil, or_false] at hx
  rcases hx with rfl | rfl
  · exact ⟨r1.on hn, by show w.heap.size ≠ w.heap.size + 1 + 1; omega⟩
  · exact ⟨r2.on hn, by show w.heap.size + 1 ≠ w.heap.size + 1 + 1; omega⟩
set_option maxRecDepth 100000 in
set_option maxHeartbeats 4000000 in
theorem back_no (c d : Cp) (tt wh : Int) (w : World) (hc : Fi c) (hT : Tc w) (hno : ¬ Co c) :
    Calls Tryd.prog 4 #[.agg #[.int .i64 c.tb, .int .i64 c.pg, .int .i64 c.l, .int .i64 c.e, .int .i64 c.fa, .int .i64 c.wh], .agg #[.int .i64 d.tb, .int .i64 d.pg, .int .i64 d.l, .int .i64 d.e, .int .i64 d.fa, .int .i64 d.wh], .int .i64 tt, .int .i64 wh] w fun e w' => e = .returned (.bool true) ∧ Below w.heap.size w w' := by
  have H0 := rhide (qs_two hT c d)
  obtain ⟨e1, e2⟩ := made_no (N := 1) (f := 0) hno
  have HMk : Hid (∀ wc p b, Mx wc p b 1 (fun _ _ => 0) → Calls Tryd.prog 7 #[.pointer (some ⟨p, 0, none⟩), .int .i64 0, .agg #[.int .i64 c.tb, .int .i64 c.pg, .int .i64 c.l, .int .i64 c.e, .int .i64 c.fa, .int .i64 c.wh]] wc fun e w' => e = .returned (.int .i64 1) ∧ Mx w' p b 1 (mkM 1 (fun _ _ => 0) 0 c) ∧ But b wc w') := fun wc p b h => by
    have := make_any p b 1 0 c _ wc h hc
    rwa [e1] at this
  have HCk : Hid (∀ wc, Tc wc → Calls Tryd.prog 15 #[.agg #[.int .i64 c.tb, .int .i64 c.pg, .int .i64 c.l, .int .i64 c.e, .int .i64 c.fa, .int .i64 c.wh]] wc fun e w' => e = .returned (.int .i64 1) ∧ Below wc.heap.size wc w') := fun wc h => by
    have := check_any c hc wc h
    rwa [e2] at this
  clear e1 e2 hno hT hc
  generalize mkM 1 (fun _ _ => 0) 0 c = M1 at HMk
  go_enter Tryd.func4, Tryd.ntmps4
  go_wp2_with (first
    | (go_at_call 19; refine (new_ok 1 _ (by omega) (by omega)).mono ?_; rintro r1 w1 ⟨rfl, hw⟩; rw [← hw] at H0; clear hw; have H1 := H0; clear H0; have x0 := H1.out.first.c0; have x1 := H1.out.first.c1; have x2 := H1.out.first.c2; have x3 := H1.out.first.c3; have x4 := H1.out.first.c4; have x5 := H1.out.first.c5)
    | (go_at_call 7; refine (HMk.out _ _ _ H1.out.own.mx).mono ?_; rintro r2 w2 ⟨rfl, hm, hb⟩; have H2 := rhide (H1.out.but hm hb); clear hm hb H1 HMk x0 x1 x2 x3 x4 x5; have x0 := H2.out.first.c0; have x1 := H2.out.first.c1; have x2 := H2.out.first.c2; have x3 := H2.out.first.c3; have x4 := H2.out.first.c4; have x5 := H2.out.first.c5)
    | (go_at_call 15; refine (HCk.out _ H2.out.own.mx.tb).mono ?_; rintro r3 w3 ⟨rfl, hb⟩; have H3 := rhide (H2.out.on hb); clear hb HCk H2)
    | (go_at_call 18; refine (awake_any _ H3.out.own.mx.tb).mono ?_; rintro r6 w6 ⟨rfl, hb⟩; have H4 := rhide (H3.out.on hb); clear hb H3)
    | fail)
  go_ret
  exact ⟨rfl, H4.out.own.below⟩
end Go.Proofs.YtikhbohkmogffaaDoor.Pcomp
