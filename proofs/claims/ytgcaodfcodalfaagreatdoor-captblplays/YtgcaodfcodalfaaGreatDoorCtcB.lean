/- The other acts of the statement CaptblPlays. -/
import Derived.Test.YtgcaodfcodalfaaGreatDoorCtcA
namespace Go.Proofs.YtgcaodfcodalfaaGreatDoor.Pcaptbl
open Go.Proofs.YtgcaodfcodalfaaGreatDoor.Pbase Go.Proofs.YtgcaodfcodalfaaGreatDoor.Pmem Go.Proofs.YtgcaodfcodalfaaGreatDoor.Pradix Go.Proofs.YtgcaodfcodalfaaGreatDoor.Pslot
open Go.RowKit
set_option linter.unusedVariables false

section
variable {w0 w : World} {M : Nat → Nat → Int}
set_option maxRecDepth 100000 in
set_option maxHeartbeats 2000000 in
theorem act_drop (a b c k r t l e x : Int) (hb : -9223372036854775808 ≤ b ∧ b ≤ 9223372036854775807) (h : Pl w0 w M) : Calls Tryz.prog 5 #[.pointer (some ⟨w0.heap.size + 1, 0, none⟩), .pointer (some ⟨w0.heap.size + 2, 0, none⟩), .int .i64 3, .int .i64 a, .int .i64 b, .int .i64 c, .agg #[.int .i64 k, .int .i64 r, .int .i64 t, .int .i64 l, .int .i64 e, .int .i64 x]] w fun y w' => y = .returned (.bool true) ∧ ∃ M', Pl w0 w' M' := by
  have HI := rhide (ac_new h k r t l e x)
  clear h
  have HB := rhide hb
  clear hb
  generalize hC0 : drC 4 M a b c 0 = C0
  have HC0 := rhide hC0
  generalize hC1 : drC 4 M a b c 1 = C1
  have HC1 := rhide hC1
  generalize hC2 : drC 4 M a b c 2 = C2
  have HC2 := rhide hC2
  generalize hC3 : drC 4 M a b c 3 = C3
  have HC3 := rhide hC3
  generalize hC4 : drC 4 M a b c 4 = C4
  have HC4 := rhide hC4
  generalize hC5 : drC 4 M a b c 5 = C5
  have HC5 := rhide hC5
  generalize hE : drE 4 M a b c = E
  have HE := rhide hE
  generalize hM' : drM 4 M a b c = M'
  have HM' := rhide hM'
  have heq := eqlC C0 C1 C2 C3 C4 C5
  have bE : (E == E) = true := by simp
  clear hE hM' hC0 hC1 hC2 hC3 hC4 hC5
  go_enter Tryz.func5, Tryz.ntmps5
  go_upto_region 8 with fail
  generalize w.alloc _ = w1 at HI ⊢
  generalize w.heap.size = X at HI ⊢
  go_upto_region 9 with (first
    | (go_at_call 18; refine (drop_any _ _ 4 a b c M _ HI.out.pl.mx HB.out).mono ?_; rintro e2 w2 ⟨rfl, hm, hB⟩; rw [HC0.out, HC1.out, HC2.out, HC3.out, HC4.out, HC5.out, HE.out]; rw [HM'.out] at hm; have H2 := rhide (HI.out.half hm hB); clear hm hB)
    | fail)
  have H3 := rhide (H2.out.more C0 C1 C2 C3 C4 C5 32)
  clear H2
  generalize w2.alloc _ = w3 at H3 ⊢
  generalize w2.heap.size = Y at H3 ⊢
  go_upto_region 10 with (first
    | (go_at_call 19; refine (rdrop_any _ _ 4 a b c M _ H3.out.rx).mono ?_; rintro e4 w4 ⟨rfl, hr, hB, hK⟩; rw [HC0.out, HC1.out, HC2.out, HC3.out, HC4.out, HC5.out, HE.out]; rw [HM'.out] at hr; have H4 := rhide (H3.out.turn hr hB hK); clear hr hB hK)
    | fail)
  have H5 := rhide (H4.out.more C0 C1 C2 C3 C4 C5 32)
  clear H4
  generalize w4.alloc _ = w5 at H5 ⊢
  generalize w4.heap.size = Z at H5 ⊢
  have z0 := H5.out.first.c0
  have z1 := H5.out.first.c1
  have z2 := H5.out.first.c2
  have z3 := H5.out.first.c3
  have z4 := H5.out.first.c4
  have z5 := H5.out.first.c5
  have y0 := H5.out.second.c0
  have y1 := H5.out.second.c1
  have y2 := H5.out.second.c2
  have y3 := H5.out.second.c3
  have y4 := H5.out.second.c4
  have y5 := H5.out.second.c5
  go_wp2
  go_ret
  exact ⟨rfl, _, H5.out.pl⟩
set_option maxRecDepth 100000 in
set_option maxHeartbeats 2000000 in
theorem act_cons (a b c k r t l e x : Int) (R : Int) (hR : b.tmod 17 = R) (h : Pl w0 w M) : Calls Tryz.prog 5 #[.pointer (some ⟨w0.heap.size + 1, 0, none⟩), .pointer (some ⟨w0.heap.size + 2, 0, none⟩), .int .i64 4, .int .i64 a, .int .i64 b, .int .i64 c, .agg #[.int .i64 k, .int .i64 r, .int .i64 t, .int .i64 l, .int .i64 e, .int .i64 x]] w fun y w' => y = .returned (.bool true) ∧ ∃ M', Pl w0 w' M' := by
  have HI := rhide (ac_new h k r t l e x)
  clear h
  generalize hE : coE 4 M a R t c = E
  have HE := rhide hE
  generalize hM' : coM 4 M a R t c = M'
  have HM' := rhide hM'
  have bE : (E == E) = true := by simp
  clear hE hM'
  go_enter Tryz.func5, Tryz.ntmps5
  go_upto_region 12 with fail
  generalize w.alloc _ = w1 at HI ⊢
  generalize w.heap.size = X at HI ⊢
  have x2 := HI.out.first.c2
  go_region_held3 (fun w' => w'.cell? ⟨X, 2, none⟩ = some (.int .i64 t)) (first | with_reducible exact bx2 H3.out.first | with_reducible exact bx2 H2.out.first | with_reducible exact bx2 (HI.out.on (Below.refl _ _).drew).first)
  (first
    | (go_at_call 20; refine (cons_any _ _ 4 a R t c M _ (by first | exact (HI.out.on (Below.refl _ _).drew).pl.mx | exact HI.out.pl.mx)).mono ?_; rintro e2 w2 ⟨rfl, hm, hB⟩; rw [HE.out]; rw [HM'.out] at hm; have H2 := rhide (HI.out.half hm (by first | exact hB | exact (But.of_below _ (Below.refl _ _).drew).trans hB)); clear hm hB)
    | (go_at_call 21; refine (rcons_any _ _ 4 a R t c M _ (by first | exact (H2.out.on (Below.refl _ _).drew).rx | exact H2.out.rx)).mono ?_; rintro e3 w3 ⟨rfl, hr, hB, hK⟩; rw [HE.out]; rw [HM'.out] at hr; have H3 := rhide (H2.out.turn hr (by first | exact hB | exact ((Below.refl _ _).drew).trans hB) (by first | exact hK | exact (Keep.of_below (Below.refl _ _).drew).trans hK)); clear hr hB hK)
    | fail)
  go_wp2
  go_ret
  exact ⟨rfl, _, H3.out.pl⟩
set_option maxRecDepth 100000 in
set_option maxHeartbeats 2000000 in
theorem act_decons (a b c k r t l e x : Int) (R : Int) (hR : b.tmod 17 = R) (h : Pl w0 w M) : Calls Tryz.prog 5 #[.pointer (some ⟨w0.heap.size + 1, 0, none⟩), .pointer (some ⟨w0.heap.size + 2, 0, none⟩), .int .i64 5, .int .i64 a, .int .i64 b, .int .i64 c, .agg #[.int .i64 k, .int .i64 r, .int .i64 t, .int .i64 l, .int .i64 e, .int .i64 x]] w fun y w' => y = .returned (.bool true) ∧ ∃ M', Pl w0 w' M' := by
  have HI := rhide (ac_new h k r t l e x)
  clear h
  generalize hF : deF 4 M a R c x = F
  have HF := rhide hF
  generalize hE : deE 4 M a R c x = E
  have HE := rhide hE
  generalize hM' : deM 4 M a R c x = M'
  have HM' := rhide hM'
  have bE : (E == E) = true := by simp
  have bF : (F == F) = true := by simp
  clear hE hM' hF
  go_enter Tryz.func5, Tryz.ntmps5
  go_upto_region 14 with fail
  generalize w.alloc _ = w1 at HI ⊢
  generalize w.heap.size = X at HI ⊢
  have x0 := HI.out.first.c0
  have x1 := HI.out.first.c1
  have x2 := HI.out.first.c2
  have x3 := HI.out.first.c3
  have x4 := HI.out.first.c4
  have x5 := HI.out.first.c5
  go_wp2_with (first
    | (go_at_call 22; refine (decons_any _ _ 4 a R c x M _ HI.out.pl.mx).mono ?_; rintro e2 w2 ⟨rfl, hm, hB⟩; rw [HF.out, HE.out]; rw [HM'.out] at hm; have H2 := rhide (HI.out.half hm hB); clear hm hB x0 x1 x2 x3 x4 x5; have x0 := H2.out.first.c0; have x1 := H2.out.first.c1; have x2 := H2.out.first.c2; have x3 := H2.out.first.c3; have x4 := H2.out.first.c4; have x5 := H2.out.first.c5)
    | (go_at_call 23; refine (rdecons_any _ _ 4 a R c x M _ H2.out.rx).mono ?_; rintro e3 w3 ⟨rfl, hr, hB, hK⟩; rw [HF.out, HE.out]; rw [HM'.out] at hr; have H3 := rhide (H2.out.turn hr hB hK); clear hr hB hK)
    | fail)
  go_ret
  exact ⟨rfl, _, H3.out.pl⟩
set_option maxRecDepth 100000 in
set_option maxHeartbeats 2000000 in
theorem act_look (a b c k r t l e x : Int) (hb : -9223372036854775808 ≤ b ∧ b ≤ 9223372036854775807) (h : Pl w0 w M) : Calls Tryz.prog 5 #[.pointer (some ⟨w0.heap.size + 1, 0, none⟩), .pointer (some ⟨w0.heap.size + 2, 0, none⟩), .int .i64 6, .int .i64 a, .int .i64 b, .int .i64 c, .agg #[.int .i64 k, .int .i64 r, .int .i64 t, .int .i64 l, .int .i64 e, .int .i64 x]] w fun y w' => y = .returned (.bool true) ∧ ∃ M', Pl w0 w' M' := by
  have HI := rhide (ac_new h k r t l e x)
  clear h
  have HB := rhide hb
  clear hb
  generalize hC0 : lkC 4 M a b 0 = C0
  have HC0 := rhide hC0
  generalize hC1 : lkC 4 M a b 1 = C1
  have HC1 := rhide hC1
  generalize hC2 : lkC 4 M a b 2 = C2
  have HC2 := rhide hC2
  generalize hC3 : lkC 4 M a b 3 = C3
  have HC3 := rhide hC3
  generalize hC4 : lkC 4 M a b 4 = C4
  have HC4 := rhide hC4
  generalize hC5 : lkC 4 M a b 5 = C5
  have HC5 := rhide hC5
  generalize hE : lkE 4 M a b = E
  have HE := rhide hE
  generalize hG : frE 4 M a c = G
  have HG := rhide hG
  generalize hM' : frM 4 M a c = M'
  have HM' := rhide hM'
  have heq := eqlC C0 C1 C2 C3 C4 C5
  have bE : (E == E) = true := by simp
  have bG : (G == G) = true := by simp
  clear hE hM' hG hC0 hC1 hC2 hC3 hC4 hC5
  go_enter Tryz.func5, Tryz.ntmps5
  go_upto_region 17 with fail
  generalize w.alloc _ = w1 at HI ⊢
  generalize w.heap.size = X at HI ⊢
  go_upto_region 18 with (first
    | (go_at_call 24; refine (clook_any _ _ 4 a b M _ HI.out.pl.mx HB.out).mono ?_; rintro e2 w2 ⟨rfl, hB⟩; rw [HC0.out, HC1.out, HC2.out, HC3.out, HC4.out, HC5.out, HE.out]; have H2 := rhide (HI.out.on hB); clear hB)
    | fail)
  have H3 := rhide (H2.out.more C0 C1 C2 C3 C4 C5 32)
  clear H2
  generalize w2.alloc _ = w3 at H3 ⊢
  generalize w2.heap.size = Y at H3 ⊢
  go_upto_region 19 with (first
    | (go_at_call 25; refine (rlook_any _ _ 4 a b M _ H3.out.pl.rx).mono ?_; rintro e4 w4 ⟨rfl, hB⟩; rw [HC0.out, HC1.out, HC2.out, HC3.out, HC4.out, HC5.out, HE.out]; have H4 := rhide (H3.out.on hB); clear hB)
    | fail)
  have H5 := rhide (H4.out.more C0 C1 C2 C3 C4 C5 32)
  clear H4
  generalize w4.alloc _ = w5 at H5 ⊢
  generalize w4.heap.size = Z at H5 ⊢
  have z0 := H5.out.first.c0
  have z1 := H5.out.first.c1
  have z2 := H5.out.first.c2
  have z3 := H5.out.first.c3
  have z4 := H5.out.first.c4
  have z5 := H5.out.first.c5
  have y0 := H5.out.second.c0
  have y1 := H5.out.second.c1
  have y2 := H5.out.second.c2
  have y3 := H5.out.second.c3
  have y4 := H5.out.second.c4
  have y5 := H5.out.second.c5
  go_wp2_with (first
    | (go_at_call 26; refine (freeze_any _ _ 4 a c M _ H5.out.pl.mx).mono ?_; rintro e6 w6 ⟨rfl, hm, hB⟩; rw [HG.out]; rw [HM'.out] at hm; have H6 := rhide (H5.out.half hm hB); clear hm hB y0 y1 y2 y3 y4 y5 z0 z1 z2 z3 z4 z5)
    | (go_at_call 27; refine (rfreeze_any _ _ 4 a c M _ H6.out.rx).mono ?_; rintro e7 w7 ⟨rfl, hr, hB⟩; rw [HG.out]; rw [HM'.out] at hr; have H7 := rhide (H6.out.turn0 hr hB); clear hr hB)
    | fail)
  go_ret
  exact ⟨rfl, _, H7.out⟩
end
end Go.Proofs.YtgcaodfcodalfaaGreatDoor.Pcaptbl
