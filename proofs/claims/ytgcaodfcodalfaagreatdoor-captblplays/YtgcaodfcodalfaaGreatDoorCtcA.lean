/- One act of the statement CaptblPlays: the program and the document answer the same, and leave the same words. -/
import Derived.Test.YtgcaodfcodalfaaGreatDoorCtbZ
import Derived.Test.YtgcaodfcodalfaaGreatDoorCtbQ
namespace Go.Proofs.YtgcaodfcodalfaaGreatDoor.Pcaptbl
open Go.Proofs.YtgcaodfcodalfaaGreatDoor.Pbase Go.Proofs.YtgcaodfcodalfaaGreatDoor.Pmem Go.Proofs.YtgcaodfcodalfaaGreatDoor.Pradix Go.Proofs.YtgcaodfcodalfaaGreatDoor.Pslot
open Go.RowKit
set_option linter.unusedVariables false

/-! ### both memories, and what lies beside them -/
structure Pl (w0 w : World) (M : Nat → Nat → Int) : Prop where
  both : Both w0 w 4 M
  fit : Fit M
  tb : Tb w0
theorem Pl.on {w0 w w' : World} {M : Nat → Nat → Int} (h : Pl w0 w M) (hB : Below w.heap.size w w') : Pl w0 w' M := ⟨h.both.grown hB, h.fit, h.tb⟩
theorem Pl.mx {w0 w : World} {M : Nat → Nat → Int} (h : Pl w0 w M) : Mx w (w0.heap.size + 1) w0.heap.size 4 M :=
  ⟨⟨h.both.mem, h.tb.tm.on h.both.below, h.tb.tw.on h.both.below, h.fit, by omega, by omega⟩, h.tb.th.on h.both.below, h.tb.ts.on h.both.below⟩
theorem Pl.rx {w0 w : World} {M : Nat → Nat → Int} (h : Pl w0 w M) : Rx w (w0.heap.size + 2) (w0.heap.size + 2) 4 M := ⟨h.both.ref, h.fit, by omega, by omega⟩
/-- Blocks with capabilities beside them. -/
structure Ac (w0 w : World) (M : Nat → Nat → Int) (x : List (Nat × S6)) : Prop where
  pl : Pl w0 w M
  bx : ∀ c ∈ x, Bx w c.1 c.2 ∧ c.1 ≠ w0.heap.size
/-- The program has turned, the document has not yet. -/
structure Ah (w0 w : World) (M M' : Nat → Nat → Int) (x : List (Nat × S6)) : Prop where
  half : Half w0 w 4 M M'
  fit : Fit M
  fit' : Fit M'
  tb : Tb w0
  bx : ∀ c ∈ x, Bx w c.1 c.2 ∧ c.1 ≠ w0.heap.size
section
variable {w0 w w' : World} {M M' : Nat → Nat → Int} {x : List (Nat × S6)}
theorem Ac.on (h : Ac w0 w M x) (hB : Below w.heap.size w w') : Ac w0 w' M x := ⟨h.pl.on hB, fun c hc => ⟨(h.bx c hc).1.on hB, (h.bx c hc).2⟩⟩
theorem Ah.on (h : Ah w0 w M M' x) (hB : Below w.heap.size w w') : Ah w0 w' M M' x := ⟨h.half.grown hB, h.fit, h.fit', h.tb, fun c hc => ⟨(h.bx c hc).1.on hB, (h.bx c hc).2⟩⟩
theorem Ac.more (h : Ac w0 w M x) (k r t l e a : Int) (ty : TypeId) : Ac w0 (w.alloc (.cells #[.int .i64 k, .int .i64 r, .int .i64 t, .int .i64 l, .int .i64 e, .int .i64 a] ty)) M ((w.heap.size, (k, r, t, l, e, a)) :: x) := by
  refine ⟨h.pl.on (bal (Below.refl _ _) _), fun c hc => ?_⟩
  rcases List.mem_cons.1 hc with rfl | hc
  · exact ⟨Pcap.box6_new w k r t l e a ty, Nat.ne_of_gt h.pl.both.mem.lt.2⟩
  · exact ⟨(h.bx c hc).1.on (bal (Below.refl _ _) _), (h.bx c hc).2⟩
theorem Ah.more (h : Ah w0 w M M' x) (k r t l e a : Int) (ty : TypeId) : Ah w0 (w.alloc (.cells #[.int .i64 k, .int .i64 r, .int .i64 t, .int .i64 l, .int .i64 e, .int .i64 a] ty)) M M' ((w.heap.size, (k, r, t, l, e, a)) :: x) := by
  refine ⟨h.half.grown (bal (Below.refl _ _) _), h.fit, h.fit', h.tb, fun c hc => ?_⟩
  rcases List.mem_cons.1 hc with rfl | hc
  · exact ⟨Pcap.box6_new w k r t l e a ty, Nat.ne_of_gt h.half.mem.lt.2⟩
  · exact ⟨(h.bx c hc).1.on (bal (Below.refl _ _) _), (h.bx c hc).2⟩
/-- The program's call. -/
theorem Ac.half (h : Ac w0 w M x) (hm : Mx w' (w0.heap.size + 1) w0.heap.size 4 M') (hB : But w0.heap.size w w') : Ah w0 w' M M' x :=
  ⟨h.pl.both.half hm.mt.mem hB, h.pl.fit, hm.mt.fit, h.pl.tb, fun c hc => ⟨box6_but (h.bx c hc).1 hB (h.bx c hc).2, (h.bx c hc).2⟩⟩
theorem Ah.rx (h : Ah w0 w M M' x) : Rx w (w0.heap.size + 2) (w0.heap.size + 2) 4 M := ⟨h.half.ref, h.fit, by omega, by omega⟩
/-- The document's. -/
theorem Ah.turn (h : Ah w0 w M M' x) (hr : Rx w' (w0.heap.size + 2) (w0.heap.size + 2) 4 M') (hB : Below (w0.heap.size + 2) w w') (hK : Keep w w') : Ac w0 w' M' x :=
  ⟨⟨h.half.turn hr.ref hB, h.fit', h.tb⟩, fun c hc => ⟨hK.box (h.bx c hc).1, (h.bx c hc).2⟩⟩
theorem Ah.turn0 (h : Ah w0 w M M' x) (hr : Rx w' (w0.heap.size + 2) (w0.heap.size + 2) 4 M') (hB : Below (w0.heap.size + 2) w w') : Pl w0 w' M' := ⟨h.half.turn hr.ref hB, h.fit', h.tb⟩
theorem Ac.first {D : Nat} {y : S6} (h : Ac w0 w M ((D, y) :: x)) : Bx w D y := (h.bx _ (List.mem_cons_self ..)).1
theorem Ac.second {D : Nat} {c : Nat × S6} {y : S6} (h : Ac w0 w M (c :: (D, y) :: x)) : Bx w D y := (h.bx _ (List.mem_cons_of_mem _ (List.mem_cons_self ..))).1
theorem Ah.first {D : Nat} {y : S6} (h : Ah w0 w M M' ((D, y) :: x)) : Bx w D y := (h.bx _ (List.mem_cons_self ..)).1
end
theorem bx6 {w : World} {B : Nat} {k r t l e x : Int} (h : Bx w B (k, r, t, l, e, x)) : w.cell? ⟨B, 0, none⟩ = some (.int .i64 k) ∧ w.cell? ⟨B, 1, none⟩ = some (.int .i64 r) ∧ w.cell? ⟨B, 2, none⟩ = some (.int .i64 t) ∧ w.cell? ⟨B, 3, none⟩ = some (.int .i64 l) ∧ w.cell? ⟨B, 4, none⟩ = some (.int .i64 e) ∧ w.cell? ⟨B, 5, none⟩ = some (.int .i64 x) := ⟨h.c0, h.c1, h.c2, h.c3, h.c4, h.c5⟩
theorem bx2 {w : World} {B : Nat} {k r t l e x : Int} (h : Bx w B (k, r, t, l, e, x)) : w.cell? ⟨B, 2, none⟩ = some (.int .i64 t) := h.c2
theorem ac_new {w0 w : World} {M : Nat → Nat → Int} (h : Pl w0 w M) (k r t l e x : Int) : Ac w0 (w.alloc (.cells #[.int .i64 k, .int .i64 r, .int .i64 t, .int .i64 l, .int .i64 e, .int .i64 x] 32)) M [(w.heap.size, (k, r, t, l, e, x))] :=
  (⟨h, fun c hc => by cases hc⟩ : Ac w0 w M []).more k r t l e x 32

/-! ### the acts -/
section
variable {w0 w : World} {M : Nat → Nat → Int}
set_option maxRecDepth 100000 in
set_option maxHeartbeats 2000000 in
theorem act_make (a b c k r t l e x : Int) (h : Pl w0 w M) : Calls Tryz.prog 5 #[.pointer (some ⟨w0.heap.size + 1, 0, none⟩), .pointer (some ⟨w0.heap.size + 2, 0, none⟩), .int .i64 0, .int .i64 a, .int .i64 b, .int .i64 c, .agg #[.int .i64 k, .int .i64 r, .int .i64 t, .int .i64 l, .int .i64 e, .int .i64 x]] w fun y w' => y = .returned (.bool true) ∧ ∃ M', Pl w0 w' M' := by
  have HI := rhide (ac_new h k r t l e x)
  clear h
  go_enter Tryz.func5, Tryz.ntmps5
  go_upto_region 3 with fail
  generalize w.alloc _ = w1 at HI ⊢
  generalize w.heap.size = X at HI ⊢
  go_wp2_with (first
    | (go_at_call 12; refine (make_any _ _ 4 a c M _ HI.out.pl.mx).mono ?_; rintro e2 w2 ⟨rfl, hm, hB⟩; have H2 := rhide (HI.out.half hm hB); clear hm hB)
    | (go_at_call 13; refine (rmake_any _ _ 4 a c M _ H2.out.rx).mono ?_; rintro e3 w3 ⟨rfl, hr, hB⟩; have H3 := rhide (H2.out.turn0 hr hB); clear hr hB)
    | fail)
  go_ret
  exact ⟨by simp, _, H3.out⟩
set_option maxRecDepth 100000 in
set_option maxHeartbeats 2000000 in
theorem act_put1 (a b c k r t l e x : Int) (hb : -9223372036854775808 ≤ b ∧ b ≤ 9223372036854775807) (h : Pl w0 w M) : Calls Tryz.prog 5 #[.pointer (some ⟨w0.heap.size + 1, 0, none⟩), .pointer (some ⟨w0.heap.size + 2, 0, none⟩), .int .i64 1, .int .i64 a, .int .i64 b, .int .i64 c, .agg #[.int .i64 k, .int .i64 r, .int .i64 t, .int .i64 l, .int .i64 e, .int .i64 x]] w fun y w' => y = .returned (.bool true) ∧ ∃ M', Pl w0 w' M' := by
  have HI := rhide (ac_new h k r t l e x)
  clear h
  have HB := rhide hb
  clear hb
  have bE : (ptE 4 M a b k r t l e x c == ptE 4 M a b k r t l e x c) = true := by simp
  generalize hPE : ptE 4 M a b k r t l e x c = E at bE
  have HPE := rhide hPE
  generalize hPM : ptM 4 M a b k r t l e x c = M'
  have HPM := rhide hPM
  have bR : (roE 4 M' a b c == roE 4 M' a b c) = true := by simp
  generalize hRE : roE 4 M' a b c = R at bR
  have HRE := rhide hRE
  clear hPE hPM hRE
  go_enter Tryz.func5, Tryz.ntmps5
  go_upto_region 6 with fail
  generalize w.alloc _ = w1 at HI ⊢
  generalize w.heap.size = X at HI ⊢
  have x0 := HI.out.first.c0
  have x1 := HI.out.first.c1
  have x2 := HI.out.first.c2
  have x3 := HI.out.first.c3
  have x4 := HI.out.first.c4
  have x5 := HI.out.first.c5
  go_region_held3 (fun w' => w'.cell? ⟨X, 0, none⟩ = some (.int .i64 k) ∧ w'.cell? ⟨X, 1, none⟩ = some (.int .i64 r) ∧ w'.cell? ⟨X, 2, none⟩ = some (.int .i64 t) ∧ w'.cell? ⟨X, 3, none⟩ = some (.int .i64 l) ∧ w'.cell? ⟨X, 4, none⟩ = some (.int .i64 e) ∧ w'.cell? ⟨X, 5, none⟩ = some (.int .i64 x)) (first | with_reducible exact bx6 H5.out.first | with_reducible exact bx6 H4.out.first | with_reducible exact bx6 H3.out.first | with_reducible exact bx6 H2.out.first | with_reducible exact bx6 (HI.out.on (Below.refl _ _).drew).first)
  (first
    | (go_at_call 14; refine (cput_any _ _ 4 a b k r t l e x c M _ (by first | exact (HI.out.on (Below.refl _ _).drew).pl.mx | exact HI.out.pl.mx) HB.out).mono ?_; rintro e2 w2 ⟨rfl, hm, hB⟩; rw [HPE.out]; rw [HPM.out] at hm; have H2 := rhide (HI.out.half hm (by first | exact hB | exact (But.of_below _ (Below.refl _ _).drew).trans hB)); clear hm hB)
    | (go_at_call 15; refine (rput_any _ _ 4 a b k r t l e x c M _ (by first | exact (H2.out.on (Below.refl _ _).drew).rx | exact H2.out.rx)).mono ?_; rintro e3 w3 ⟨rfl, hr, hB, hK⟩; rw [HPE.out]; rw [HPM.out] at hr; have H3 := rhide (H2.out.turn hr (by first | exact hB | exact ((Below.refl _ _).drew).trans hB) (by first | exact hK | exact (Keep.of_below (Below.refl _ _).drew).trans hK)); clear hr hB hK)
    | (go_at_call 16; refine (croom_any _ _ 4 a b c M' _ (by first | exact (H3.out.on (Below.refl _ _).drew).pl.mx | exact H3.out.pl.mx) HB.out).mono ?_; rintro e4 w4 ⟨rfl, hB⟩; rw [HRE.out]; have H4 := rhide (H3.out.on (by first | exact hB | exact ((Below.refl _ _).drew).trans hB)); clear hB)
    | (go_at_call 17; refine (rroom_any _ _ 4 a b c M' _ (by first | exact (H4.out.on (Below.refl _ _).drew).pl.rx | exact H4.out.pl.rx)).mono ?_; rintro e5 w5 ⟨rfl, hB⟩; rw [HRE.out]; have H5 := rhide (H4.out.on (by first | exact hB | exact ((Below.refl _ _).drew).trans hB)); clear hB)
    | fail)
  go_wp2
  go_ret
  exact ⟨rfl, _, H5.out.pl⟩
set_option maxRecDepth 100000 in
set_option maxHeartbeats 2000000 in
theorem act_put2 (a b c k r t l e x : Int) (hb : -9223372036854775808 ≤ b ∧ b ≤ 9223372036854775807) (h : Pl w0 w M) : Calls Tryz.prog 5 #[.pointer (some ⟨w0.heap.size + 1, 0, none⟩), .pointer (some ⟨w0.heap.size + 2, 0, none⟩), .int .i64 2, .int .i64 a, .int .i64 b, .int .i64 c, .agg #[.int .i64 k, .int .i64 r, .int .i64 t, .int .i64 l, .int .i64 e, .int .i64 x]] w fun y w' => y = .returned (.bool true) ∧ ∃ M', Pl w0 w' M' := by
  have HI := rhide (ac_new h k r t l e x)
  clear h
  have HB := rhide hb
  clear hb
  have bE : (ptE 4 M a b k r t l e x c == ptE 4 M a b k r t l e x c) = true := by simp
  generalize hPE : ptE 4 M a b k r t l e x c = E at bE
  have HPE := rhide hPE
  generalize hPM : ptM 4 M a b k r t l e x c = M'
  have HPM := rhide hPM
  have bR : (roE 4 M' a b c == roE 4 M' a b c) = true := by simp
  generalize hRE : roE 4 M' a b c = R at bR
  have HRE := rhide hRE
  clear hPE hPM hRE
  go_enter Tryz.func5, Tryz.ntmps5
  go_upto_region 6 with fail
  generalize w.alloc _ = w1 at HI ⊢
  generalize w.heap.size = X at HI ⊢
  have x0 := HI.out.first.c0
  have x1 := HI.out.first.c1
  have x2 := HI.out.first.c2
  have x3 := HI.out.first.c3
  have x4 := HI.out.first.c4
  have x5 := HI.out.first.c5
  go_region_held3 (fun w' => w'.cell? ⟨X, 0, none⟩ = some (.int .i64 k) ∧ w'.cell? ⟨X, 1, none⟩ = some (.int .i64 r) ∧ w'.cell? ⟨X, 2, none⟩ = some (.int .i64 t) ∧ w'.cell? ⟨X, 3, none⟩ = some (.int .i64 l) ∧ w'.cell? ⟨X, 4, none⟩ = some (.int .i64 e) ∧ w'.cell? ⟨X, 5, none⟩ = some (.int .i64 x)) (first | with_reducible exact bx6 H5.out.first | with_reducible exact bx6 H4.out.first | with_reducible exact bx6 H3.out.first | with_reducible exact bx6 H2.out.first | with_reducible exact bx6 (HI.out.on (Below.refl _ _).drew).first)
  (first
    | (go_at_call 14; refine (cput_any _ _ 4 a b k r t l e x c M _ (by first | exact (HI.out.on (Below.refl _ _).drew).pl.mx | exact HI.out.pl.mx) HB.out).mono ?_; rintro e2 w2 ⟨rfl, hm, hB⟩; rw [HPE.out]; rw [HPM.out] at hm; have H2 := rhide (HI.out.half hm (by first | exact hB | exact (But.of_below _ (Below.refl _ _).drew).trans hB)); clear hm hB)
    | (go_at_call 15; refine (rput_any _ _ 4 a b k r t l e x c M _ (by first | exact (H2.out.on (Below.refl _ _).drew).rx | exact H2.out.rx)).mono ?_; rintro e3 w3 ⟨rfl, hr, hB, hK⟩; rw [HPE.out]; rw [HPM.out] at hr; have H3 := rhide (H2.out.turn hr (by first | exact hB | exact ((Below.refl _ _).drew).trans hB) (by first | exact hK | exact (Keep.of_below (Below.refl _ _).drew).trans hK)); clear hr hB hK)
    | (go_at_call 16; refine (croom_any _ _ 4 a b c M' _ (by first | exact (H3.out.on (Below.refl _ _).drew).pl.mx | exact H3.out.pl.mx) HB.out).mono ?_; rintro e4 w4 ⟨rfl, hB⟩; rw [HRE.out]; have H4 := rhide (H3.out.on (by first | exact hB | exact ((Below.refl _ _).drew).trans hB)); clear hB)
    | (go_at_call 17; refine (rroom_any _ _ 4 a b c M' _ (by first | exact (H4.out.on (Below.refl _ _).drew).pl.rx | exact H4.out.pl.rx)).mono ?_; rintro e5 w5 ⟨rfl, hB⟩; rw [HRE.out]; have H5 := rhide (H4.out.on (by first | exact hB | exact ((Below.refl _ _).drew).trans hB)); clear hB)
    | fail)
  go_wp2
  go_ret
  exact ⟨rfl, _, H5.out.pl⟩
end
end Go.Proofs.YtgcaodfcodalfaaGreatDoor.Pcaptbl
