/- The document's Find, Load and Store of an access, for every argument. -/
import Derived.Test.YthcgdgpflhdchaaGreatDoorAccR
import Derived.BigQuiet
import Derived.Deep.CutBlock
namespace Go.Proofs.YthcgdgpflhdchaaGreatDoor.Paccess
open Go.Proofs.YthcgdgpflhdchaaGreatDoor.Pbase Go.Proofs.YthcgdgpflhdchaaGreatDoor.Pmem
open Go.RowKit
set_option linter.unusedVariables false

theorem dhide {q : Prop} (h : q) : Hid q := h
/-! ### a key and a mapping beside them -/
structure Rf (w0 w : World) (base q N : Nat) (M : Nat → Nat → Int) (qt R : Nat) (S : List Ptlb.En) (sp pg : Int) : Prop where
  rj : Rj w base q N M qt R S
  below : Below w0.heap.size w0 w
  k0 : w.cell? ⟨w0.heap.size, 0, none⟩ = some (.int .i64 sp)
  k1 : w.cell? ⟨w0.heap.size, 1, none⟩ = some (.int .i64 pg)
/-- A mapping's whole block. -/
def Pb (w : World) (D : Nat) (o : Bool) (f r t : Int) : Prop := w.heap[D]? = some (.cells #[.bool o, .int .i64 f, .int .i64 r, .int .i64 t] 57 (0, 0))
structure Rfp (w0 w : World) (base q N : Nat) (M : Nat → Nat → Int) (qt R : Nat) (S : List Ptlb.En) (sp pg : Int) (D : Nat) (o : Bool) (f r t : Int) : Prop where
  rf : Rf w0 w base q N M qt R S sp pg
  row : Pb w D o f r t
  ne : w0.heap.size < D
section
variable {w0 w w' : World} {base q N : Nat} {M : Nat → Nat → Int} {qt R : Nat} {S : List Ptlb.En} {sp pg : Int} {D : Nat} {o : Bool} {f r t : Int}
theorem Pb.lt (h : Pb w D o f r t) : D < w.heap.size := (Array.getElem?_eq_some_iff.1 h).1
theorem Pb.on (h : Pb w D o f r t) (hB : Below w.heap.size w w') : Pb w' D o f r t := (hB.block D h.lt).trans h
theorem Pb.other (h : Pb w D o f r t) (k : Ptlb.Other w w') : Pb w' D o f r t :=
  (k.block D h.lt (fun c fr e => by rw [Pb] at h; rw [h] at e; cases e) (fun c fr e => by rw [Pb] at h; rw [h] at e; cases e)).trans h
theorem Pb.c0 (h : Pb w D o f r t) : w.cell? ⟨D, 0, none⟩ = some (.bool o) := by rw [cell_of_row w D 0 _ _ _ h]; rfl
theorem Pb.c1 (h : Pb w D o f r t) : w.cell? ⟨D, 1, none⟩ = some (.int .i64 f) := by rw [cell_of_row w D 1 _ _ _ h]; rfl
theorem Pb.c2 (h : Pb w D o f r t) : w.cell? ⟨D, 2, none⟩ = some (.int .i64 r) := by rw [cell_of_row w D 2 _ _ _ h]; rfl
theorem Pb.c3 (h : Pb w D o f r t) : w.cell? ⟨D, 3, none⟩ = some (.int .i64 t) := by rw [cell_of_row w D 3 _ _ _ h]; rfl
theorem Pb.fz (h : Pb w D o f r t) (j : Nat) : w.frozen? ⟨D, j, none⟩ = false := frozen_of_row w D j _ _ h
theorem Pb.put4 (h : Pb w D o f r t) (o' : Bool) (f' r' t' : Int) : Pb ((((w.setCell ⟨D, 0, none⟩ (.bool o')).setCell ⟨D, 1, none⟩ (.int .i64 f')).setCell ⟨D, 2, none⟩ (.int .i64 r')).setCell ⟨D, 3, none⟩ (.int .i64 t')) D o' f' r' t' :=
  heap_setCell_same _ _ _ _ _ _ (heap_setCell_same _ _ _ _ _ _ (heap_setCell_same _ _ _ _ _ _ (heap_setCell_same _ _ _ _ _ _ h)))
theorem Rf.on (h : Rf w0 w base q N M qt R S sp pg) (hB : Below w.heap.size w w') : Rf w0 w' base q N M qt R S sp pg :=
  ⟨h.rj.on hB, h.below.trans (hB.mono h.below.size), Ptlb.keeps hB h.k0, Ptlb.keeps hB h.k1⟩
theorem rf_new (h : Rj w base q N M qt R S) (sp pg : Int) : Rf w (w.alloc (.cells #[.int .i64 sp, .int .i64 pg] 55)) base q N M qt R S sp pg :=
  ⟨h.on (bal (Below.refl _ _) _), bal (Below.refl _ _) _, by simp, by simp⟩
theorem Rf.more (h : Rf w0 w base q N M qt R S sp pg) (o : Bool) (f r t : Int) : Rfp w0 (w.alloc (.cells #[.bool o, .int .i64 f, .int .i64 r, .int .i64 t] 57)) base q N M qt R S sp pg w.heap.size o f r t :=
  ⟨h.on (bal (Below.refl _ _) _), heap_alloc_new w _, World.block_lt_of_cell? w _ h.k0⟩
theorem Rfp.on (h : Rfp w0 w base q N M qt R S sp pg D o f r t) (hB : Below w.heap.size w w') : Rfp w0 w' base q N M qt R S sp pg D o f r t := ⟨h.rf.on hB, h.row.on hB, h.ne⟩
/-- What is walked to is laid in its place. -/
theorem Rfp.put4 (h : Rfp w0 w base q N M qt R S sp pg D o f r t) (h0 : Rj w0 base q N M qt R S) (o' : Bool) (f' r' t' : Int) : Rfp w0 ((((w.setCell ⟨D, 0, none⟩ (.bool o')).setCell ⟨D, 1, none⟩ (.int .i64 f')).setCell ⟨D, 2, none⟩ (.int .i64 r')).setCell ⟨D, 3, none⟩ (.int .i64 t')) base q N M qt R S sp pg D o' f' r' t' := by
  have hn := h.ne
  have hB : Below w0.heap.size w0 ((((w.setCell ⟨D, 0, none⟩ (.bool o')).setCell ⟨D, 1, none⟩ (.int .i64 f')).setCell ⟨D, 2, none⟩ (.int .i64 r')).setCell ⟨D, 3, none⟩ (.int .i64 t')) := bst (bst (bst (bst h.rf.below (by omega) _ _) (by omega) _ _) (by omega) _ _) (by omega) _ _
  have hk := Ppgtbl.rput4_other w D (.bool o') (.int .i64 f') (.int .i64 r') (.int .i64 t') w0.heap.size (by omega)
  have hr := h.row.put4 o' f' r' t'
  generalize (((w.setCell ⟨D, 0, none⟩ (.bool o')).setCell ⟨D, 1, none⟩ (.int .i64 f')).setCell ⟨D, 2, none⟩ (.int .i64 r')).setCell ⟨D, 3, none⟩ (.int .i64 t') = w10 at hB hk hr ⊢
  have e : ∀ j, w10.cell? ⟨w0.heap.size, j, none⟩ = w.cell? ⟨w0.heap.size, j, none⟩ := fun j => World.cell?_of_block (w := w) hk
  exact ⟨⟨h0.on hB, hB, (e 0).trans h.rf.k0, (e 1).trans h.rf.k1⟩, hr, hn⟩
/-- What the document's calls leave, behind blocks that they made. -/
theorem rf_end (h : Rf w0 w base q N M qt R S sp pg) (hb : base ≤ w0.heap.size) : Rj w base q N M qt R S ∧ Below base w0 w ∧ Doc w0 w := ⟨h.rj, h.below.mono hb, Doc.of_below h.below⟩
end
/-- Behind a Put. -/
structure Rd (w0 w : World) (base q N : Nat) (M : Nat → Nat → Int) (qt R : Nat) (S : List Ptlb.En) (D : Nat) (o : Bool) (f r t : Int) : Prop where
  rj : Rj w base q N M qt R S
  below : Below base w0 w
  doc : Doc w0 w
  row : Pb w D o f r t
theorem Rd.on {w0 w w' : World} {base q N : Nat} {M : Nat → Nat → Int} {qt R : Nat} {S : List Ptlb.En} {D : Nat} {o : Bool} {f r t : Int} (h : Rd w0 w base q N M qt R S D o f r t) (hB : Below w.heap.size w w') : Rd w0 w' base q N M qt R S D o f r t :=
  ⟨h.rj.on hB, h.below.trans (hB.mono h.rj.le), h.doc.trans (Doc.of_below hB), h.row.on hB⟩
theorem Rfp.rd {w0 w : World} {base q N : Nat} {M : Nat → Nat → Int} {qt R : Nat} {S : List Ptlb.En} {sp pg : Int} {D : Nat} {o : Bool} {f r t : Int} (h : Rfp w0 w base q N M qt R S sp pg D o f r t) (hb : base ≤ w0.heap.size) : Rd w0 w base q N M qt R S D o f r t :=
  ⟨h.rf.rj, h.rf.below.mono hb, Doc.of_below h.rf.below, h.row⟩
theorem Rd.put {w0 w w' : World} {base q N : Nat} {M : Nat → Nat → Int} {qt R : Nat} {S S' : List Ptlb.En} {D : Nat} {o : Bool} {f r t : Int} (h : Rd w0 w base q N M qt R S D o f r t) (ht : ∃ ao cap, Ptlb.RefIs base w' qt R ao cap S') (hO : Ptlb.Other w w') (hB : Below base w w') (hl : S'.length ≤ R) : Rd w0 w' base q N M qt R S' D o f r t :=
  ⟨h.rj.tlb ht hO hl, h.below.trans hB, h.doc.trans (Doc.of_other hO), h.row.other hO⟩
/-! ### Find -/
theorem rac_zero {N : Nat} {M : Nat → Nat → Int} {S : List Ptlb.En} {sp a r : Int} (h : acE N M S sp a r ≠ 0) : acF N M S sp a r = 0 ∧ acA N M S sp a r = 0 := by
  unfold acF acA
  rw [if_neg h, if_neg h]
  exact ⟨rfl, rfl⟩
theorem ra_range {a : Int} (ha : Pradix.pgE a = 0) : 0 ≤ a ∧ a ≤ 32767 := by
  rcases Classical.em (0 ≤ a ∧ a ≤ 32767) with k | k
  · exact k
  · rw [(Pradix.pg_no k).1] at ha; exact absurd ha (by decide)
set_option maxRecDepth 100000 in
set_option maxHeartbeats 4000000 in
theorem rfind_any (base q N : Nat) (M : Nat → Nat → Int) (qt R : Nat) (S : List Ptlb.En) (sp a r : Int) (w : World) (h : Rj w base q N M qt R S) :
    Calls Tryz.prog 14 #[.pointer (some ⟨q, 0, none⟩), .pointer (some ⟨qt, 0, none⟩), .int .i64 sp, .int .i64 a, .int .i64 r] w fun x w' => x = .returned (.tuple #[.int .i64 (acF N M S sp a r), .int .i64 (acA N M S sp a r), .int .i64 (acE N M S sp a r)]) ∧ Rj w' base q N M qt R (acS R N M S sp a) ∧ Below base w w' ∧ Doc w w' := by
  have HA := dhide h
  have HU : Hid (Calls Tryz.prog 30 #[.int .i64 a] w fun e w' => e = .returned (.tuple #[.int .i64 (Pradix.nuA a), .int .i64 (Pradix.pgE a)]) ∧ w' = w) := Pradix.rnumber_any a w
  have HL := dhide h.le
  clear h
  by_cases ha : Pradix.pgE a = 0
  case neg =>
    obtain ⟨e1, e2⟩ := acE_bad (N := N) (M := M) (S := S) (sp := sp) ha R r
    obtain ⟨e3, e4⟩ := rac_zero (show acE N M S sp a r ≠ 0 by rw [e2]; exact ha)
    rw [e1, e2, e3, e4]
    generalize Pradix.pgE a = E at HU ha ⊢
    generalize Pradix.nuA a = B at HU
    have hE' : (E != 0) = true := by simp [ha]
    clear e1 e2 e3 e4 ha
    go_enter Tryz.func14, Tryz.ntmps14
    go_wp2_with (first
      | (go_at_call 30; refine HU.out.mono ?_; rintro e1 w1 ⟨rfl, hw⟩; subst w1)
      | fail)
    go_ret3
    exact ⟨rfl, HA.out, Below.refl _ _, Doc.of_below (Below.refl _ _)⟩
  rw [ha] at HU
  have hrange := ra_range ha
  obtain ⟨A, hA0⟩ : ∃ A, A = a % 32 := ⟨_, rfl⟩
  have hA : a.tmod 32 = A := by rw [hA0, Int.tmod_eq_emod_of_nonneg hrange.1]
  have hw : wrap64 (4 + A) = 4 + A := by unfold wrap64; omega
  have hw1 : wrap64 A = A := by unfold wrap64; omega
  have HE := dhide (rf_new HA.out sp (Pradix.nuA a))
  have HG : Hid (∀ wc, Rj wc base q N M qt R S → Calls Tryz.prog 31 #[.pointer (some ⟨qt, 0, none⟩), .agg #[.int .i64 sp, .int .i64 (Pradix.nuA a)]] wc fun x w' => x = .returned (.tuple #[.agg #[.bool (Ptlb.ptK S (acK sp a)).1, .int .i64 (Ptlb.ptK S (acK sp a)).2.1, .int .i64 (Ptlb.ptK S (acK sp a)).2.2.1, .int .i64 (Ptlb.ptK S (acK sp a)).2.2.2], .bool (Ptlb.hasK S (acK sp a))]) ∧ Below wc.heap.size wc w') := fun wc hc => by
    obtain ⟨ao, cap, ht⟩ := hc.tl
    exact Ptlb.rget_any base qt cap R ao S (acK sp a) wc ht (by have := hc.len; have := hc.r8; omega)
  have HW : Hid (∀ wc, Calls Tryz.prog 34 #[.agg #[.bool (acP N M S sp a).1, .int .i64 (acP N M S sp a).2.1, .int .i64 (acP N M S sp a).2.2.1, .int .i64 (acP N M S sp a).2.2.2], .int .i64 r] wc fun e w' => e = .returned (.bool (acB N M S sp a r)) ∧ Below wc.heap.size wc w') := fun wc => Ppte.rallows_any _ _ _ _ r wc
  have HB : Hid ((acB N M S sp a r = true ∧ acW N M S sp a = 0 → acF N M S sp a r = (acP N M S sp a).2.1 ∧ acA N M S sp a r = 4 + A ∧ acE N M S sp a r = 0) ∧ (acB N M S sp a r = false ∧ acW N M S sp a = 0 → acF N M S sp a r = 0 ∧ acA N M S sp a r = 0 ∧ acE N M S sp a r = 5)) := by
    refine ⟨fun ⟨h1, h2⟩ => ?_, fun ⟨h1, h2⟩ => ?_⟩
    · have e0 : acE N M S sp a r = 0 := by unfold acE; rw [if_pos ha, if_pos h2, if_pos h1]
      refine ⟨?_, ?_, e0⟩
      · unfold acF; rw [if_pos e0]
      · unfold acA; rw [if_pos e0, hA0]
    · have e0 : acE N M S sp a r = 5 := by unfold acE; rw [if_pos ha, if_pos h2, if_neg (by rw [h1]; decide)]
      obtain ⟨e3, e4⟩ := rac_zero (show acE N M S sp a r ≠ 0 by rw [e0]; decide)
      exact ⟨e3, e4, e0⟩
  clear hA0 hrange
  by_cases hh : Ptlb.hasK S (acK sp a) = true
  · obtain ⟨e1, e2, _⟩ := ac_has (N := N) (M := M) ha hh R 0
    have e0 : acW N M S sp a = 0 := by unfold acW; rw [if_pos hh]
    rw [e1]
    rw [e2] at HW HB
    rw [e0] at HB
    rw [hh] at HG
    clear e0 e1 e2 ha hh
    generalize Ptlb.ptK S (acK sp a) = v at HG HW HB
    obtain ⟨O, F, P, Z⟩ := v
    dsimp only at HG HW HB
    generalize Pradix.nuA a = pg at HU HG HE
    cases hB : acB N M S sp a r
    · obtain ⟨e3, e4, e5⟩ := HB.out.2 ⟨hB, rfl⟩
      rw [e3, e4, e5]
      rw [hB] at HW
      clear e3 e4 e5 hB HB
      go_enter Tryz.func14, Tryz.ntmps14
      have k0 := HE.out.k0
      have k1 := HE.out.k1
      go_upto_region 6 with (first
        | (go_at_call 30; refine HU.out.mono ?_; rintro e1 w1 ⟨rfl, hw⟩; subst w1)
        | (go_at_call 31; refine (HG.out _ HE.out.rj).mono ?_; rintro e2 w2 ⟨rfl, hb⟩; have H2 := (HE.out.on hb).more O F P Z; clear hb HE)
        | fail)
      clear k0 k1
      generalize w2.alloc _ = w3 at H2 ⊢
      generalize w2.heap.size = D at H2 ⊢
      have H3 := dhide (H2.rd HL.out)
      clear H2
      have y0 := H3.out.row.c0
      have y1 := H3.out.row.c1
      have y2 := H3.out.row.c2
      have y3 := H3.out.row.c3
      go_wp2_with (first
        | (go_at_call 34; refine (HW.out _).mono ?_; rintro e4 w4 ⟨rfl, hb⟩; have H4 := dhide (H3.out.on hb); clear hb H3)
        | fail)
      go_ret3
      exact ⟨rfl, H4.out.rj, H4.out.below, H4.out.doc⟩
    · obtain ⟨e3, e4, e5⟩ := HB.out.1 ⟨hB, rfl⟩
      rw [e3, e4, e5]
      rw [hB] at HW
      clear e3 e4 e5 hB HB
      go_enter Tryz.func14, Tryz.ntmps14
      have k0 := HE.out.k0
      have k1 := HE.out.k1
      go_upto_region 6 with (first
        | (go_at_call 30; refine HU.out.mono ?_; rintro e1 w1 ⟨rfl, hw⟩; subst w1)
        | (go_at_call 31; refine (HG.out _ HE.out.rj).mono ?_; rintro e2 w2 ⟨rfl, hb⟩; have H2 := (HE.out.on hb).more O F P Z; clear hb HE)
        | fail)
      clear k0 k1
      generalize w2.alloc _ = w3 at H2 ⊢
      generalize w2.heap.size = D at H2 ⊢
      have H3 := dhide (H2.rd HL.out)
      clear H2
      have y0 := H3.out.row.c0
      have y1 := H3.out.row.c1
      have y2 := H3.out.row.c2
      have y3 := H3.out.row.c3
      go_wp2_with (first
        | (go_at_call 34; refine (HW.out _).mono ?_; rintro e4 w4 ⟨rfl, hb⟩; have H4 := dhide (H3.out.on hb); clear y0 y1 y2 y3; have y1 := H4.out.row.c1; clear hb H3)
        | fail)
      go_ret3
      exact ⟨by first | rfl | (rw [hw]; rfl), H4.out.rj, H4.out.below, H4.out.doc⟩
  have hn : Ptlb.hasK S (acK sp a) = false := by simpa using hh
  clear hh
  have HF : Hid (∀ wc, Ppgtbl.Rx wc base q N M → Calls Tryz.prog 32 #[.pointer (some ⟨q, 0, none⟩), .int .i64 sp, .int .i64 (Pradix.nuA a)] wc fun x w' => x = .returned (.tuple #[.agg #[.bool (acV N M sp a).1, .int .i64 (acV N M sp a).2.1, .int .i64 (acV N M sp a).2.2.1, .int .i64 (acV N M sp a).2.2.2], .int .i64 (Ppgtbl.wkE N M sp (Pradix.nuA a))]) ∧ Below wc.heap.size wc w') := fun wc hc => Ppgtbl.rwalk_any base q N sp (Pradix.nuA a) M wc hc
  have hq : Ptlb.ptK S (acK sp a) = Ptlb.pt0 := (Ptlb.findS_none S (acK sp a) 0 hn).2.1
  have e0 : acW N M S sp a = Ppgtbl.wkE N M sp (Pradix.nuA a) := by unfold acW; rw [if_neg (by rw [hn]; decide)]
  have eP : acP N M S sp a = acV N M sp a := by unfold acP; rw [if_neg (by rw [hn]; decide)]
  rw [hn, hq] at HG
  simp only [Ptlb.pt0] at HG
  by_cases hE : Ppgtbl.wkE N M sp (Pradix.nuA a) = 0
  case neg =>
    obtain ⟨e1, e2⟩ := ac_none (N := N) (M := M) ha hn hE R r
    obtain ⟨e3, e4⟩ := rac_zero (show acE N M S sp a r ≠ 0 by rw [e2]; exact hE)
    rw [e1, e2, e3, e4]
    clear e0 e1 e2 e3 e4 eP hq hn ha HB HW
    generalize acV N M sp a = v at HF
    obtain ⟨O, F, P, Z⟩ := v
    dsimp only at HF
    generalize Ppgtbl.wkE N M sp (Pradix.nuA a) = E at HF hE ⊢
    have hE' : (E != 0) = true := by simp [hE]
    clear hE
    generalize Pradix.nuA a = pg at HU HG HE HF
    go_enter Tryz.func14, Tryz.ntmps14
    have k0 := HE.out.k0
    have k1 := HE.out.k1
    go_upto_region 6 with (first
      | (go_at_call 30; refine HU.out.mono ?_; rintro e1 w1 ⟨rfl, hw⟩; subst w1)
      | (go_at_call 31; refine (HG.out _ HE.out.rj).mono ?_; rintro e2 w2 ⟨rfl, hb⟩; have H2 := (HE.out.on hb).more false 0 0 0; clear hb HE)
      | fail)
    clear k0 k1
    generalize w2.alloc _ = w3 at H2 ⊢
    generalize w2.heap.size = D at H2 ⊢
    have H3 := dhide H2
    clear H2
    go_upto_region 7 with fail
    go_wp2_with (first
      | (go_at_call 32; refine (HF.out _ H3.out.rf.rj.rx).mono ?_; rintro e4 w4 ⟨rfl, hb⟩; have H4 := dhide (H3.out.on hb); clear hb H3; have y0 := H4.out.row.c0; have y1 := H4.out.row.c1; have y2 := H4.out.row.c2; have y3 := H4.out.row.c3; have z0 := H4.out.row.fz; have yl := H4.out.row.lt)
      | fail)
    go_ret3
    exact ⟨rfl, rf_end (H4.out.put4 HA.out O F P Z).rf HL.out⟩
  obtain ⟨e1, _, _⟩ := ac_new (N := N) (M := M) ha hn hE R 0
  rw [e1]
  rw [eP] at HW HB
  rw [e0, hE] at HB
  rw [hE] at HF
  have HP : Hid (∀ wc, Rj wc base q N M qt R S → Calls Tryz.prog 33 #[.pointer (some ⟨qt, 0, none⟩), .agg #[.int .i64 sp, .int .i64 (Pradix.nuA a)], .agg #[.bool (acV N M sp a).1, .int .i64 (acV N M sp a).2.1, .int .i64 (acV N M sp a).2.2.1, .int .i64 (acV N M sp a).2.2.2]] wc fun x w' => x = .returned (.tuple #[]) ∧ (∃ ao cap, Ptlb.RefIs base w' qt R ao cap (Ptlb.putS R S (acK sp a) (acV N M sp a))) ∧ Ptlb.Other wc w' ∧ Below base wc w') := fun wc hc => by
    obtain ⟨ao, cap, ht⟩ := hc.tl
    exact (Ptlb.rput_any base qt cap R ao S (acK sp a) (acV N M sp a) wc ht hc.le hc.len hc.r8).mono fun x w' ⟨h1, h2, h3, h4⟩ => ⟨h1, h2, h3, h4 base (Nat.le_refl _)⟩
  have HN : Hid ((Ptlb.putS R S (acK sp a) (acV N M sp a)).length ≤ R) := Ptlb.len_putS HA.out.len _ _
  generalize Ptlb.putS R S (acK sp a) (acV N M sp a) = S' at HP HN ⊢
  clear e0 e1 eP hq hn ha hE
  generalize acV N M sp a = v at HF HP HW HB
  obtain ⟨O, F, P, Z⟩ := v
  dsimp only at HF HP HW HB
  generalize Pradix.nuA a = pg at HU HG HE HF HP
  cases hB : acB N M S sp a r
  · obtain ⟨e3, e4, e5⟩ := HB.out.2 ⟨hB, rfl⟩
    rw [e3, e4, e5]
    rw [hB] at HW
    clear e3 e4 e5 hB HB
    go_enter Tryz.func14, Tryz.ntmps14
    have k0 := HE.out.k0
    have k1 := HE.out.k1
    go_upto_region 6 with (first
      | (go_at_call 30; refine HU.out.mono ?_; rintro e1 w1 ⟨rfl, hw⟩; subst w1)
      | (go_at_call 31; refine (HG.out _ HE.out.rj).mono ?_; rintro e2 w2 ⟨rfl, hb⟩; have H2 := (HE.out.on hb).more false 0 0 0; clear hb HE)
      | fail)
    clear k0 k1
    generalize w2.alloc _ = w3 at H2 ⊢
    generalize w2.heap.size = D at H2 ⊢
    have H3 := dhide H2
    clear H2
    go_upto_region 8 with (first
      | (go_at_call 32; refine (HF.out _ H3.out.rf.rj.rx).mono ?_; rintro e4 w4 ⟨rfl, hb⟩; have H4 := dhide (H3.out.on hb); clear hb H3; have y0 := H4.out.row.c0; have y1 := H4.out.row.c1; have y2 := H4.out.row.c2; have y3 := H4.out.row.c3; have z0 := H4.out.row.fz; have yl := H4.out.row.lt)
      | fail)
    have H5 := H4.out.put4 HA.out O F P Z
    clear y0 y1 y2 y3 z0 yl
    generalize (((w4.setCell ⟨D, 0, none⟩ (.bool O)).setCell ⟨D, 1, none⟩ (.int .i64 F)).setCell ⟨D, 2, none⟩ (.int .i64 P)).setCell ⟨D, 3, none⟩ (.int .i64 Z) = w5 at H5 ⊢
    have H6 := dhide H5
    clear H5 H4
    have k0 := H6.out.rf.k0
    have k1 := H6.out.rf.k1
    have y0 := H6.out.row.c0
    have y1 := H6.out.row.c1
    have y2 := H6.out.row.c2
    have y3 := H6.out.row.c3
    go_wp2_with (first
      | (go_at_call 33; refine (HP.out _ H6.out.rf.rj).mono ?_; rintro e7 w7 ⟨rfl, ht, hO, hb⟩; have H7 := dhide ((H6.out.rd HL.out).put ht hO hb HN.out); clear ht hO hb H6 k0 k1 y0 y1 y2 y3; have y0 := H7.out.row.c0; have y1 := H7.out.row.c1; have y2 := H7.out.row.c2; have y3 := H7.out.row.c3)
      | (go_at_call 34; refine (HW.out _).mono ?_; rintro e8 w8 ⟨rfl, hb⟩; have H8 := dhide (H7.out.on hb); clear hb H7 y0 y1 y2 y3)
      | fail)
    go_ret3
    exact ⟨rfl, H8.out.rj, H8.out.below, H8.out.doc⟩
  · obtain ⟨e3, e4, e5⟩ := HB.out.1 ⟨hB, rfl⟩
    rw [e3, e4, e5]
    rw [hB] at HW
    clear e3 e4 e5 hB HB
    go_enter Tryz.func14, Tryz.ntmps14
    have k0 := HE.out.k0
    have k1 := HE.out.k1
    go_upto_region 6 with (first
      | (go_at_call 30; refine HU.out.mono ?_; rintro e1 w1 ⟨rfl, hw⟩; subst w1)
      | (go_at_call 31; refine (HG.out _ HE.out.rj).mono ?_; rintro e2 w2 ⟨rfl, hb⟩; have H2 := (HE.out.on hb).more false 0 0 0; clear hb HE)
      | fail)
    clear k0 k1
    generalize w2.alloc _ = w3 at H2 ⊢
    generalize w2.heap.size = D at H2 ⊢
    have H3 := dhide H2
    clear H2
    go_upto_region 8 with (first
      | (go_at_call 32; refine (HF.out _ H3.out.rf.rj.rx).mono ?_; rintro e4 w4 ⟨rfl, hb⟩; have H4 := dhide (H3.out.on hb); clear hb H3; have y0 := H4.out.row.c0; have y1 := H4.out.row.c1; have y2 := H4.out.row.c2; have y3 := H4.out.row.c3; have z0 := H4.out.row.fz; have yl := H4.out.row.lt)
      | fail)
    have H5 := H4.out.put4 HA.out O F P Z
    clear y0 y1 y2 y3 z0 yl
    generalize (((w4.setCell ⟨D, 0, none⟩ (.bool O)).setCell ⟨D, 1, none⟩ (.int .i64 F)).setCell ⟨D, 2, none⟩ (.int .i64 P)).setCell ⟨D, 3, none⟩ (.int .i64 Z) = w5 at H5 ⊢
    have H6 := dhide H5
    clear H5 H4
    have k0 := H6.out.rf.k0
    have k1 := H6.out.rf.k1
    have y0 := H6.out.row.c0
    have y1 := H6.out.row.c1
    have y2 := H6.out.row.c2
    have y3 := H6.out.row.c3
    go_wp2_with (first
      | (go_at_call 33; refine (HP.out _ H6.out.rf.rj).mono ?_; rintro e7 w7 ⟨rfl, ht, hO, hb⟩; have H7 := dhide ((H6.out.rd HL.out).put ht hO hb HN.out); clear ht hO hb H6 k0 k1 y0 y1 y2 y3; have y0 := H7.out.row.c0; have y1 := H7.out.row.c1; have y2 := H7.out.row.c2; have y3 := H7.out.row.c3)
      | (go_at_call 34; refine (HW.out _).mono ?_; rintro e8 w8 ⟨rfl, hb⟩; have H8 := dhide (H7.out.on hb); clear hb H7 y0 y1 y2 y3; have y1 := H8.out.row.c1)
      | fail)
    go_ret3
    exact ⟨by first | rfl | (rw [hw]; rfl), H8.out.rj, H8.out.below, H8.out.doc⟩
/-! ### Load, Store -/
set_option maxRecDepth 100000 in
set_option maxHeartbeats 2000000 in
theorem rload_acc (base q N : Nat) (M : Nat → Nat → Int) (qt R : Nat) (S : List Ptlb.En) (sp a : Int) (w : World) (h : Rj w base q N M qt R S) :
    Calls Tryz.prog 10 #[.pointer (some ⟨q, 0, none⟩), .pointer (some ⟨qt, 0, none⟩), .int .i64 sp, .int .i64 a] w fun x w' => x = .returned (.tuple #[.int .u64 (loW N M S sp a), .int .i64 (loE N M S sp a)]) ∧ Rj w' base q N M qt R (acS R N M S sp a) ∧ Below base w w' ∧ Doc w w' := by
  have HF := dhide (rfind_any base q N M qt R S sp a 1 w h)
  clear h
  by_cases hE : acE N M S sp a 1 = 0
  case neg =>
    obtain ⟨e1, e2⟩ := load_no hE
    rw [e1, e2]
    generalize acF N M S sp a 1 = F at HF
    generalize acA N M S sp a 1 = A at HF
    generalize acE N M S sp a 1 = E at HF hE ⊢
    generalize acS R N M S sp a = S' at HF ⊢
    have hE' : (E != 0) = true := by simp [hE]
    clear e1 e2 hE
    go_enter Tryz.func10, Tryz.ntmps10
    go_wp2_with (first
      | (go_at_call 14; refine HF.out.mono ?_; rintro e1 w1 ⟨rfl, hb⟩; have H1 := dhide hb; clear hb)
      | fail)
    go_ret2
    exact ⟨rfl, H1.out⟩
  have e1 : loE N M S sp a = errW N (acF N M S sp a 1) (acA N M S sp a 1) := by unfold loE; rw [if_pos hE]
  have e2 : loW N M S sp a = ldM N M (acF N M S sp a 1) (acA N M S sp a 1) := by unfold loW; rw [if_pos hE]
  rw [e1, e2]
  rw [hE] at HF
  clear e1 e2 hE
  generalize acF N M S sp a 1 = F at HF ⊢
  generalize acA N M S sp a 1 = A at HF ⊢
  generalize acS R N M S sp a = S' at HF ⊢
  go_enter Tryz.func10, Tryz.ntmps10
  go_wp2_with (first
    | (go_at_call 14; refine HF.out.mono ?_; rintro e1 w1 ⟨rfl, hb⟩; have H1 := dhide hb; clear hb)
    | (go_at_call 23; refine (rload_any base q N F A M _ H1.out.1.rx.n1 H1.out.1.rx.n64 H1.out.1.rx.ref).mono ?_; rintro e2 w2 ⟨rfl, hw⟩; subst w2)
    | fail)
  go_ret2
  exact ⟨rfl, H1.out⟩
set_option maxRecDepth 100000 in
set_option maxHeartbeats 2000000 in
theorem rstore_acc (base q N : Nat) (M : Nat → Nat → Int) (qt R : Nat) (S : List Ptlb.En) (sp a v : Int) (w : World) (h : Rj w base q N M qt R S) (hv : 0 ≤ v ∧ v ≤ 18446744073709551615) :
    Calls Tryz.prog 8 #[.pointer (some ⟨q, 0, none⟩), .pointer (some ⟨qt, 0, none⟩), .int .i64 sp, .int .i64 a, .int .u64 v] w fun x w' => x = .returned (.int .i64 (soE N M S sp a)) ∧ Rj w' base q N (soM N M S sp a v) qt R (acS R N M S sp a) ∧ Below base w w' ∧ Doc w w' := by
  have HF := dhide (rfind_any base q N M qt R S sp a 2 w h)
  have HV := dhide hv
  clear h hv
  by_cases hE : acE N M S sp a 2 = 0
  case neg =>
    obtain ⟨e1, e2⟩ := store_no (v := v) hE
    rw [e1, e2]
    generalize acF N M S sp a 2 = F at HF
    generalize acA N M S sp a 2 = A at HF
    generalize acE N M S sp a 2 = E at HF hE ⊢
    generalize acS R N M S sp a = S' at HF ⊢
    have hE' : (E != 0) = true := by simp [hE]
    clear e1 e2 hE
    go_enter Tryz.func8, Tryz.ntmps8
    go_wp2_with (first
      | (go_at_call 14; refine HF.out.mono ?_; rintro e1 w1 ⟨rfl, hb⟩; have H1 := dhide hb; clear hb)
      | fail)
    go_ret
    exact ⟨rfl, H1.out⟩
  have e1 : soE N M S sp a = errW N (acF N M S sp a 2) (acA N M S sp a 2) := by unfold soE; rw [if_pos hE]
  have e2 : soM N M S sp a v = stW N M (acF N M S sp a 2) (acA N M S sp a 2) v := by unfold soM; rw [if_pos hE]
  rw [e1, e2]
  rw [hE] at HF
  clear e1 e2 hE
  generalize acF N M S sp a 2 = F at HF ⊢
  generalize acA N M S sp a 2 = A at HF ⊢
  generalize acS R N M S sp a = S' at HF ⊢
  go_enter Tryz.func8, Tryz.ntmps8
  go_wp2_with (first
    | (go_at_call 14; refine HF.out.mono ?_; rintro e1 w1 ⟨rfl, hb⟩; have H1 := dhide hb; clear hb)
    | (go_at_call 21; refine (wstore_any base q N F A v M _ H1.out.1.rx.n1 H1.out.1.rx.n64 H1.out.1.rx.ref).mono ?_; rintro e2 w2 ⟨rfl, hr, hb, hs⟩; have H2 := dhide (And.intro (H1.out.1.mem hr (H1.out.1.rx.fit.st N F A v HV.out) hs) (And.intro (H1.out.2.1.trans hb) (H1.out.2.2.trans hs.1))); clear hr hb hs)
    | fail)
  go_ret
  exact ⟨rfl, H2.out⟩
end Go.Proofs.YthcgdgpflhdchaaGreatDoor.Paccess
