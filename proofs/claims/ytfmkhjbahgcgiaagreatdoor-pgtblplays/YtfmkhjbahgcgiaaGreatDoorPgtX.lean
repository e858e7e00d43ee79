/- One act of the statement PgtblPlays: the program and the document answer the same, and leave the same words. -/
import Derived.Test.YtfmkhjbahgcgiaaGreatDoorPgtL
import Derived.Test.YtfmkhjbahgcgiaaGreatDoorPgtE
import Derived.Test.YtfmkhjbahgcgiaaGreatDoorPgtT
import Derived.Test.YtfmkhjbahgcgiaaGreatDoorBunMem
namespace Go.Proofs.YtfmkhjbahgcgiaaGreatDoor.Ppgtbl
open Go.Proofs.YtfmkhjbahgcgiaaGreatDoor.Pbase Go.Proofs.YtfmkhjbahgcgiaaGreatDoor.Pmem Go.Proofs.YtfmkhjbahgcgiaaGreatDoor.Pradix
open Go.RowKit
set_option linter.unusedVariables false

/-! ### both memories, and what lies beside them -/
structure Pl (w0 w : World) (M : Nat → Nat → Int) : Prop where
  both : Both w0 w 4 M
  fit : Fit M
  tb : Tb w0
theorem Pl.on {w0 w w' : World} {M : Nat → Nat → Int} (h : Pl w0 w M) (hB : Below w.heap.size w w') : Pl w0 w' M := ⟨h.both.grown hB, h.fit, h.tb⟩
theorem Pl.mx {w0 w : World} {M : Nat → Nat → Int} (h : Pl w0 w M) : Mx w (w0.heap.size + 1) w0.heap.size 4 M :=
  ⟨h.both.mem, h.tb.on h.both.below, h.fit, by omega, by omega⟩
theorem Pl.rx {w0 w : World} {M : Nat → Nat → Int} (h : Pl w0 w M) : Rx w (w0.heap.size + 2) (w0.heap.size + 2) 4 M := ⟨h.both.ref, h.fit, by omega, by omega⟩
/-- Blocks with mappings beside them. -/
structure Ac (w0 w : World) (M : Nat → Nat → Int) (x : List (Nat × P4)) : Prop where
  pl : Pl w0 w M
  bx : ∀ c ∈ x, Bx w c.1 c.2 ∧ c.1 ≠ w0.heap.size
/-- The program has turned, the document has not yet. -/
structure Ah (w0 w : World) (M M' : Nat → Nat → Int) (x : List (Nat × P4)) : Prop where
  half : Half w0 w 4 M M'
  fit : Fit M
  fit' : Fit M'
  tb : Tb w0
  bx : ∀ c ∈ x, Bx w c.1 c.2 ∧ c.1 ≠ w0.heap.size
section
variable {w0 w w' : World} {M M' : Nat → Nat → Int} {x : List (Nat × P4)}
theorem ac_new (h : Pl w0 w M) : Ac w0 w M [] := ⟨h, fun c hc => by cases hc⟩
theorem Ac.on (h : Ac w0 w M x) (hB : Below w.heap.size w w') : Ac w0 w' M x := ⟨h.pl.on hB, fun c hc => ⟨(h.bx c hc).1.on hB, (h.bx c hc).2⟩⟩
theorem Ah.on (h : Ah w0 w M M' x) (hB : Below w.heap.size w w') : Ah w0 w' M M' x := ⟨h.half.grown hB, h.fit, h.fit', h.tb, fun c hc => ⟨(h.bx c hc).1.on hB, (h.bx c hc).2⟩⟩
theorem Ac.more (h : Ac w0 w M x) (o : Bool) (f r t : Int) (ty : TypeId) : Ac w0 (w.alloc (.cells #[.bool o, .int .i64 f, .int .i64 r, .int .i64 t] ty)) M ((w.heap.size, (o, f, r, t)) :: x) := by
  refine ⟨h.pl.on (bal (Below.refl _ _) _), fun c hc => ?_⟩
  rcases List.mem_cons.1 hc with rfl | hc
  · exact ⟨Ppte.boxP_new w o f r t ty, Nat.ne_of_gt h.pl.both.mem.lt.2⟩
  · exact ⟨(h.bx c hc).1.on (bal (Below.refl _ _) _), (h.bx c hc).2⟩
theorem Ah.more (h : Ah w0 w M M' x) (o : Bool) (f r t : Int) (ty : TypeId) : Ah w0 (w.alloc (.cells #[.bool o, .int .i64 f, .int .i64 r, .int .i64 t] ty)) M M' ((w.heap.size, (o, f, r, t)) :: x) := by
  refine ⟨h.half.grown (bal (Below.refl _ _) _), h.fit, h.fit', h.tb, fun c hc => ?_⟩
  rcases List.mem_cons.1 hc with rfl | hc
  · exact ⟨Ppte.boxP_new w o f r t ty, Nat.ne_of_gt h.half.mem.lt.2⟩
  · exact ⟨(h.bx c hc).1.on (bal (Below.refl _ _) _), (h.bx c hc).2⟩
/-- The program's call. -/
theorem Ac.half (h : Ac w0 w M x) (hm : Mx w' (w0.heap.size + 1) w0.heap.size 4 M') (hB : But w0.heap.size w w') : Ah w0 w' M M' x :=
  ⟨h.pl.both.half hm.mem hB, h.pl.fit, hm.fit, h.pl.tb, fun c hc => ⟨boxP_but (h.bx c hc).1 hB (h.bx c hc).2, (h.bx c hc).2⟩⟩
theorem Ah.rx (h : Ah w0 w M M' x) : Rx w (w0.heap.size + 2) (w0.heap.size + 2) 4 M := ⟨h.half.ref, h.fit, by omega, by omega⟩
/-- The document's. -/
theorem Ah.turn (h : Ah w0 w M M' x) (hr : Rx w' (w0.heap.size + 2) (w0.heap.size + 2) 4 M') (hB : Below (w0.heap.size + 2) w w') (hK : Keep w w') : Ac w0 w' M' x :=
  ⟨⟨h.half.turn hr.ref hB, h.fit', h.tb⟩, fun c hc => ⟨hK.box (h.bx c hc).1, (h.bx c hc).2⟩⟩
theorem Ah.turn0 (h : Ah w0 w M M' x) (hr : Rx w' (w0.heap.size + 2) (w0.heap.size + 2) 4 M') (hB : Below (w0.heap.size + 2) w w') : Pl w0 w' M' := ⟨h.half.turn hr.ref hB, h.fit', h.tb⟩
theorem Ac.first {D : Nat} {o : Bool} {f r t : Int} (h : Ac w0 w M ((D, (o, f, r, t)) :: x)) : Ppte.BoxP w D o f r t := (h.bx _ (List.mem_cons_self ..)).1
theorem Ac.second {D : Nat} {c : Nat × P4} {o : Bool} {f r t : Int} (h : Ac w0 w M (c :: (D, (o, f, r, t)) :: x)) : Ppte.BoxP w D o f r t := (h.bx _ (List.mem_cons_of_mem _ (List.mem_cons_self ..))).1
theorem Ac.third {D : Nat} {c c' : Nat × P4} {o : Bool} {f r t : Int} (h : Ac w0 w M (c :: c' :: (D, (o, f, r, t)) :: x)) : Ppte.BoxP w D o f r t := (h.bx _ (List.mem_cons_of_mem _ (List.mem_cons_of_mem _ (List.mem_cons_self ..)))).1
theorem Ac.fourth {D : Nat} {c c' c'' : Nat × P4} {o : Bool} {f r t : Int} (h : Ac w0 w M (c :: c' :: c'' :: (D, (o, f, r, t)) :: x)) : Ppte.BoxP w D o f r t := (h.bx _ (List.mem_cons_of_mem _ (List.mem_cons_of_mem _ (List.mem_cons_of_mem _ (List.mem_cons_self ..))))).1
end
/-! ### any act -/
set_option maxRecDepth 100000 in
set_option maxHeartbeats 8000000 in
theorem act_any {w0 w : World} {M : Nat → Nat → Int} (k : Nat) (hk : k < 7) (a b c d : Int) (h : Pl w0 w M) :
    Calls Tryz.prog 5 #[.pointer (some ⟨w0.heap.size + 1, 0, none⟩), .pointer (some ⟨w0.heap.size + 2, 0, none⟩), .int .i64 (k : Int), .int .i64 a, .int .i64 b, .int .i64 c, .int .i64 d] w fun y w' => y = .returned (.bool true) ∧ ∃ M', Pl w0 w' M' := by
  have H0 := rhide (ac_new h)
  clear h
  generalize hO1 : wkO 4 M a b = O1
  have HO1 := rhide hO1
  generalize hF1 : wkF 4 M a b = F1
  have HF1 := rhide hF1
  generalize hR1 : wkR 4 M a b = R1
  have HR1 := rhide hR1
  generalize hT1 : wkT 4 M a b = T1
  have HT1 := rhide hT1
  generalize hE1 : wkE 4 M a b = E1
  have HE1 := rhide hE1
  generalize hO2 : raO 4 M a b = O2
  have HO2 := rhide hO2
  generalize hF2 : raF 4 M a b = F2
  have HF2 := rhide hF2
  generalize hR2 : raR 4 M a b = R2
  have HR2 := rhide hR2
  generalize hT2 : raT 4 M a b = T2
  have HT2 := rhide hT2
  generalize hE2 : raE 4 M a b = E2
  have HE2 := rhide hE2
  generalize hN3 : usN 4 M a = N3
  have HN3 := rhide hN3
  generalize hE3 : usE 4 M a = E3
  have HE3 := rhide hE3
  clear hO1 hF1 hR1 hT1 hE1 hO2 hF2 hR2 hT2 hE2 hN3 hE3
  have hneq1 := Ppte.neqP O1 F1 R1 T1
  have hneq2 := Ppte.neqP O2 F2 R2 T2
  have bE1 : (E1 != E1) = false := by simp
  have bE2 : (E2 != E2) = false := by simp
  have bN3 : (N3 != N3) = false := by simp
  have bE3 : (E3 != E3) = false := by simp
  go_enter Tryz.func5, Tryz.ntmps5
  go_upto_region 2 with (first
    | (go_at_call 12; refine (pwalk_any _ _ 4 a b M _ H0.out.pl.mx).mono ?_; rintro e1 w1 ⟨rfl, hb⟩; rw [HO1.out, HF1.out, HR1.out, HT1.out, HE1.out]; have H1 := (H0.out.on hb).more O1 F1 R1 T1 42; clear hb H0)
    | fail)
  generalize w1.alloc _ = w2 at H1 ⊢
  generalize w1.heap.size = D1 at H1 ⊢
  have H2 := rhide H1
  clear H1
  go_upto_region 3 with (first
    | (go_at_call 13; refine (rwalk_any _ _ 4 a b M _ H2.out.pl.rx).mono ?_; rintro e3 w3 ⟨rfl, hb⟩; rw [HO1.out, HF1.out, HR1.out, HT1.out, HE1.out]; have H3 := (H2.out.on hb).more O1 F1 R1 T1 42; clear hb H2)
    | fail)
  generalize w3.alloc _ = w4 at H3 ⊢
  generalize w3.heap.size = D2 at H3 ⊢
  have H4 := rhide H3
  clear H3
  go_upto_region 4 with (first
    | (go_at_call 14; refine (raw_any _ _ 4 a b M _ H4.out.pl.mx).mono ?_; rintro e5 w5 ⟨rfl, hb⟩; rw [HO2.out, HF2.out, HR2.out, HT2.out, HE2.out]; have H5 := (H4.out.on hb).more O2 F2 R2 T2 42; clear hb H4)
    | fail)
  generalize w5.alloc _ = w6 at H5 ⊢
  generalize w5.heap.size = D3 at H5 ⊢
  have H6 := rhide H5
  clear H5
  go_upto_region 5 with (first
    | (go_at_call 15; refine (rraw_any _ _ 4 a b M _ H6.out.pl.rx).mono ?_; rintro e7 w7 ⟨rfl, hb⟩; rw [HO2.out, HF2.out, HR2.out, HT2.out, HE2.out]; have H7 := (H6.out.on hb).more O2 F2 R2 T2 42; clear hb H6)
    | fail)
  generalize w7.alloc _ = w8 at H7 ⊢
  generalize w7.heap.size = D4 at H7 ⊢
  have H8 := rhide H7
  clear H7
  go_upto_region 7 with (first
    | (go_at_call 16; refine (used_any _ _ 4 a M _ H8.out.pl.mx).mono ?_; rintro e9 w9 ⟨rfl, hb⟩; rw [HN3.out, HE3.out]; have H9 := rhide (H8.out.on hb); clear hb H8)
    | (go_at_call 17; refine (rused_any _ _ 4 a M _ H9.out.pl.rx).mono ?_; rintro e10 w10 ⟨rfl, hb⟩; rw [HN3.out, HE3.out]; have H10 := rhide (H9.out.on hb); clear hb H9)
    | fail)
  have x0 := H10.out.fourth.c0
  have x1 := H10.out.fourth.c1
  have x2 := H10.out.fourth.c2
  have x3 := H10.out.fourth.c3
  have y0 := H10.out.third.c0
  have y1 := H10.out.third.c1
  have y2 := H10.out.third.c2
  have y3 := H10.out.third.c3
  have z0 := H10.out.second.c0
  have z1 := H10.out.second.c1
  have z2 := H10.out.second.c2
  have z3 := H10.out.second.c3
  have v0 := H10.out.first.c0
  have v1 := H10.out.first.c1
  have v2 := H10.out.first.c2
  have v3 := H10.out.first.c3
  go_upto_region 9 with fail
  clear x0 x1 x2 x3 y0 y1 y2 y3 z0 z1 z2 z3 v0 v1 v2 v3 hneq1 hneq2 bE1 bE2 bN3 bE3 HO1 HF1 HR1 HT1 HE1 HO2 HF2 HR2 HT2 HE2 HN3 HE3
  have H11 := rhide (ac_new H10.out.pl)
  clear H10
  obtain ⟨R, hR⟩ : ∃ R, b.tmod 33 = R := ⟨_, rfl⟩
  match k, hk with
  | 0, _ =>
    generalize hE : Phead.errP 4 a 2 c false 0 = E
    have HE := rhide hE
    have bE : (E == E) = true := by simp
    clear hE
    go_wp2_with (first
      | (go_at_call 18; refine (make_any _ _ 4 a c M _ H11.out.pl.mx).mono ?_; rintro e12 w12 ⟨rfl, hm, hB⟩; rw [HE.out]; have H12 := rhide (H11.out.half hm hB); clear hm hB)
      | (go_at_call 19; refine (rmake_any _ _ 4 a c M _ H12.out.rx).mono ?_; rintro e13 w13 ⟨rfl, hr, hB⟩; rw [HE.out]; have H13 := rhide (H12.out.turn0 hr hB); clear hr hB)
      | fail)
    go_ret
    exact ⟨rfl, _, H13.out⟩
  | 1, _ =>
    generalize hE : maE 4 M a b c d c = E
    have HE := rhide hE
    generalize hM' : maM 4 M a b c d c = M'
    have HM' := rhide hM'
    have bE : (E == E) = true := by simp
    clear hE hM'
    go_wp2_with (first
      | (go_at_call 20; refine (map_any _ _ 4 a b c d c M _ H11.out.pl.mx).mono ?_; rintro e12 w12 ⟨rfl, hm, hB⟩; rw [HE.out]; rw [HM'.out] at hm; have H12 := rhide (H11.out.half hm hB); clear hm hB)
      | (go_at_call 21; refine (rmap_any _ _ 4 a b c d c M _ H12.out.rx).mono ?_; rintro e13 w13 ⟨rfl, hr, hB, hK⟩; rw [HE.out]; rw [HM'.out] at hr; have H13 := rhide (H12.out.turn hr hB hK); clear hr hB hK)
      | fail)
    go_ret
    exact ⟨rfl, _, H13.out.pl⟩
  | 2, _ =>
    generalize hE : maE 4 M a b c d c = E
    have HE := rhide hE
    generalize hM' : maM 4 M a b c d c = M'
    have HM' := rhide hM'
    have bE : (E == E) = true := by simp
    clear hE hM'
    go_wp2_with (first
      | (go_at_call 20; refine (map_any _ _ 4 a b c d c M _ H11.out.pl.mx).mono ?_; rintro e12 w12 ⟨rfl, hm, hB⟩; rw [HE.out]; rw [HM'.out] at hm; have H12 := rhide (H11.out.half hm hB); clear hm hB)
      | (go_at_call 21; refine (rmap_any _ _ 4 a b c d c M _ H12.out.rx).mono ?_; rintro e13 w13 ⟨rfl, hr, hB, hK⟩; rw [HE.out]; rw [HM'.out] at hr; have H13 := rhide (H12.out.turn hr hB hK); clear hr hB hK)
      | fail)
    go_ret
    exact ⟨rfl, _, H13.out.pl⟩
  | 3, _ =>
    generalize hO : unO 4 M a b d = O
    have HO := rhide hO
    generalize hF : unF 4 M a b d = F
    have HF := rhide hF
    generalize hP : unR 4 M a b d = P
    have HP := rhide hP
    generalize hT : unT 4 M a b d = T
    have HT := rhide hT
    generalize hE : unE 4 M a b d = E
    have HE := rhide hE
    generalize hM' : unM 4 M a b d = M'
    have HM' := rhide hM'
    have heq := Ppte.eqlP O F P T
    have bE : (E == E) = true := by simp
    clear hO hF hP hT hE hM'
    go_upto_region 17 with (first
      | (go_at_call 22; refine (unmap_any _ _ 4 a b d M _ H11.out.pl.mx).mono ?_; rintro e12 w12 ⟨rfl, hm, hB⟩; rw [HO.out, HF.out, HP.out, HT.out, HE.out]; rw [HM'.out] at hm; have H12 := (H11.out.half hm hB).more O F P T 42; clear hm hB)
      | fail)
    generalize w12.alloc _ = w13 at H12 ⊢
    generalize w12.heap.size = Y at H12 ⊢
    have H13 := rhide H12
    clear H12
    go_upto_region 18 with (first
      | (go_at_call 23; refine (runmap_any _ _ 4 a b d M _ H13.out.rx).mono ?_; rintro e14 w14 ⟨rfl, hr, hB, hK⟩; rw [HO.out, HF.out, HP.out, HT.out, HE.out]; rw [HM'.out] at hr; have H14 := (H13.out.turn hr hB hK).more O F P T 42; clear hr hB hK)
      | fail)
    generalize w14.alloc _ = w15 at H14 ⊢
    generalize w14.heap.size = Z at H14 ⊢
    have H15 := rhide H14
    clear H14
    have z0 := H15.out.first.c0
    have z1 := H15.out.first.c1
    have z2 := H15.out.first.c2
    have z3 := H15.out.first.c3
    have y0 := H15.out.second.c0
    have y1 := H15.out.second.c1
    have y2 := H15.out.second.c2
    have y3 := H15.out.second.c3
    go_wp2
    go_ret
    exact ⟨rfl, _, H15.out.pl⟩
  | 4, _ =>
    generalize hE : coE 4 M a R c d = E
    have HE := rhide hE
    generalize hM' : coM 4 M a R c d = M'
    have HM' := rhide hM'
    have bE : (E == E) = true := by simp
    clear hE hM'
    go_wp2_with (first
      | (go_at_call 24; refine (cons_any _ _ 4 a R c d M _ H11.out.pl.mx).mono ?_; rintro e12 w12 ⟨rfl, hm, hB⟩; rw [HE.out]; rw [HM'.out] at hm; have H12 := rhide (H11.out.half hm hB); clear hm hB)
      | (go_at_call 25; refine (rcons_any _ _ 4 a R c d M _ H12.out.rx).mono ?_; rintro e13 w13 ⟨rfl, hr, hB, hK⟩; rw [HE.out]; rw [HM'.out] at hr; have H13 := rhide (H12.out.turn hr hB hK); clear hr hB hK)
      | fail)
    go_ret
    exact ⟨rfl, _, H13.out.pl⟩
  | 5, _ =>
    generalize hF : deF 4 M a R d = F
    have HF := rhide hF
    generalize hE : deE 4 M a R d = E
    have HE := rhide hE
    generalize hM' : deM 4 M a R d = M'
    have HM' := rhide hM'
    have bE : (E == E) = true := by simp
    have bF : (F == F) = true := by simp
    clear hE hM' hF
    go_wp2_with (first
      | (go_at_call 26; refine (decons_any _ _ 4 a R d M _ H11.out.pl.mx).mono ?_; rintro e12 w12 ⟨rfl, hm, hB⟩; rw [HF.out, HE.out]; rw [HM'.out] at hm; have H12 := rhide (H11.out.half hm hB); clear hm hB)
      | (go_at_call 27; refine (rdecons_any _ _ 4 a R d M _ H12.out.rx).mono ?_; rintro e13 w13 ⟨rfl, hr, hB, hK⟩; rw [HF.out, HE.out]; rw [HM'.out] at hr; have H13 := rhide (H12.out.turn hr hB hK); clear hr hB hK)
      | fail)
    go_ret
    exact ⟨rfl, _, H13.out.pl⟩
  | 6, _ =>
    go_wp2
    go_ret
    exact ⟨rfl, _, H11.out.pl⟩
end Go.Proofs.YtfmkhjbahgcgiaaGreatDoor.Ppgtbl
