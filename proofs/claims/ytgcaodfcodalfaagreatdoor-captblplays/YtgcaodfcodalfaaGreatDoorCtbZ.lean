/- The document's Drop. -/
import Derived.Test.YtgcaodfcodalfaaGreatDoorCtbY
namespace Go.Proofs.YtgcaodfcodalfaaGreatDoor.Pcaptbl
open Go.Proofs.YtgcaodfcodalfaaGreatDoor.Pbase Go.Proofs.YtgcaodfcodalfaaGreatDoor.Pmem Go.Proofs.YtgcaodfcodalfaaGreatDoor.Pradix Go.Proofs.YtgcaodfcodalfaaGreatDoor.Pslot
open Go.RowKit
set_option linter.unusedVariables false

/-- A block that begins with a number is none of the document's memory. -/
theorem ref_apart {w w' : World} {base q N : Nat} {M : Nat → Nat → Int} {B : Nat} {z : Int} (h : RefIs w base q N M) (hN : 1 ≤ N) (hB : w.cell? ⟨B, 0, none⟩ = some (.int .i64 z)) (hk : ∀ k, k ≠ B → w'.heap[k]? = w.heap[k]?) : RefIs w' base q N M := by
  obtain ⟨hb, v0, hv, r, cc, h1, h2, h3⟩ := h
  rcases h1.2 with ⟨_, e⟩ | ⟨g, cap, cur, e, hg, hh, rest⟩
  · omega
  · refine ⟨hb, v0, ?_, r, cc, ⟨h1.1, .inr ⟨g, cap, cur, e, hg, ?_, rest⟩⟩, fun j hj => ?_, h3⟩
    · rw [hk q (by rintro rfl; rw [cell_of_row _ _ _ _ _ _ hv, e] at hB; simp at hB)]; exact hv
    · subst e
      rw [hk g (by rintro rfl; rw [h1.cellAt 0 (by omega)] at hB; simp at hB)]; exact hh
    · obtain ⟨hbj, cu, hc, hw⟩ := h2 j hj
      refine ⟨hbj, cu, ?_, hw⟩
      rw [hk (r j) (by intro e; rw [← e, cell_of_row _ _ _ _ _ _ hc, hw 0 (by omega)] at hB; simp at hB)]; exact hc
theorem set6_other (w9 : World) (B : Nat) (C0 C1 C2 C3 C4 C5 : Int) (k : Nat) (hk : k ≠ B) : ((((((w9.setCell ⟨B, 0, none⟩ (.int .i64 C0)).setCell ⟨B, 1, none⟩ (.int .i64 C1)).setCell ⟨B, 2, none⟩ (.int .i64 C2)).setCell ⟨B, 3, none⟩ (.int .i64 C3)).setCell ⟨B, 4, none⟩ (.int .i64 C4)).setCell ⟨B, 5, none⟩ (.int .i64 C5)).heap[k]? = w9.heap[k]? := by
  rw [heap_setCell_other _ _ _ _ hk, heap_setCell_other _ _ _ _ hk, heap_setCell_other _ _ _ _ hk, heap_setCell_other _ _ _ _ hk, heap_setCell_other _ _ _ _ hk, heap_setCell_other _ _ _ _ hk]
/-- The document's memory, a result's block and a capability's behind it. -/
structure Rd (w0 w : World) (base q N : Nat) (M : Nat → Nat → Int) (D : Nat) (k r t l e c : Int) : Prop where
  rb : Rb w0 w base q N M D k r t l e c
  res : Pcap.Box6 w w0.heap.size 0 0 0 0 0 0
  ne : D ≠ w0.heap.size
theorem Rd.on {w0 w w' : World} {base q N : Nat} {M : Nat → Nat → Int} {D : Nat} {k r t l e c : Int} (h : Rd w0 w base q N M D k r t l e c) (hB : Below w.heap.size w w') : Rd w0 w' base q N M D k r t l e c := ⟨h.rb.on hB, h.res.on hB, h.ne⟩
theorem rdrop_laid {w w2 : World} {base q N : Nat} {M : Nat → Nat → Int} (h : Rx w base q N M) (hb : Below w.heap.size w w2) (hx : Pcap.Box6 w2 w.heap.size 0 0 0 0 0 0) (k r t l e c : Int) : Rd w (w2.alloc (.cells #[.int .i64 k, .int .i64 r, .int .i64 t, .int .i64 l, .int .i64 e, .int .i64 c] 32)) base q N M w2.heap.size k r t l e c :=
  ⟨rb_laid h hb k r t l e c, hx.on (bal (Below.refl _ _) _), Nat.ne_of_gt hx.lt⟩
/-- What the capability's block has stays, behind the slot's Put and behind what is stored into the result. -/
theorem rdrop_keep {w0 w7 w9 : World} {base q N : Nat} {M : Nat → Nat → Int} {D : Nat} {C0 C1 C2 C3 C4 C5 : Int} (h : Rd w0 w7 base q N M D C0 C1 C2 C3 C4 C5) (hK : Keep w7 w9) :
    w9.cell? ⟨D, 0, none⟩ = some (.int .i64 C0) ∧ w9.cell? ⟨D, 1, none⟩ = some (.int .i64 C1) ∧ w9.cell? ⟨D, 2, none⟩ = some (.int .i64 C2) ∧ w9.cell? ⟨D, 3, none⟩ = some (.int .i64 C3) ∧ w9.cell? ⟨D, 4, none⟩ = some (.int .i64 C4) ∧ w9.cell? ⟨D, 5, none⟩ = some (.int .i64 C5) :=
  ⟨(hK.box h.rb.box).c0, (hK.box h.rb.box).c1, (hK.box h.rb.box).c2, (hK.box h.rb.box).c3, (hK.box h.rb.box).c4, (hK.box h.rb.box).c5⟩
theorem rdrop_set {w0 w7 w9 : World} {base q N : Nat} {M : Nat → Nat → Int} {D : Nat} {C0 C1 C2 C3 C4 C5 : Int} (h : Rd w0 w7 base q N M D C0 C1 C2 C3 C4 C5) (hK : Keep w7 w9) :
    ((((((w9.setCell ⟨w0.heap.size, 0, none⟩ (.int .i64 C0)).setCell ⟨w0.heap.size, 1, none⟩ (.int .i64 C1)).setCell ⟨w0.heap.size, 2, none⟩ (.int .i64 C2)).setCell ⟨w0.heap.size, 3, none⟩ (.int .i64 C3)).setCell ⟨w0.heap.size, 4, none⟩ (.int .i64 C4)).setCell ⟨w0.heap.size, 5, none⟩ (.int .i64 C5)).cell? ⟨D, 0, none⟩ = some (.int .i64 C0) ∧ ((((((w9.setCell ⟨w0.heap.size, 0, none⟩ (.int .i64 C0)).setCell ⟨w0.heap.size, 1, none⟩ (.int .i64 C1)).setCell ⟨w0.heap.size, 2, none⟩ (.int .i64 C2)).setCell ⟨w0.heap.size, 3, none⟩ (.int .i64 C3)).setCell ⟨w0.heap.size, 4, none⟩ (.int .i64 C4)).setCell ⟨w0.heap.size, 5, none⟩ (.int .i64 C5)).cell? ⟨D, 1, none⟩ = some (.int .i64 C1) ∧ ((((((w9.setCell ⟨w0.heap.size, 0, none⟩ (.int .i64 C0)).setCell ⟨w0.heap.size, 1, none⟩ (.int .i64 C1)).setCell ⟨w0.heap.size, 2, none⟩ (.int .i64 C2)).setCell ⟨w0.heap.size, 3, none⟩ (.int .i64 C3)).setCell ⟨w0.heap.size, 4, none⟩ (.int .i64 C4)).setCell ⟨w0.heap.size, 5, none⟩ (.int .i64 C5)).cell? ⟨D, 2, none⟩ = some (.int .i64 C2) ∧ ((((((w9.setCell ⟨w0.heap.size, 0, none⟩ (.int .i64 C0)).setCell ⟨w0.heap.size, 1, none⟩ (.int .i64 C1)).setCell ⟨w0.heap.size, 2, none⟩ (.int .i64 C2)).setCell ⟨w0.heap.size, 3, none⟩ (.int .i64 C3)).setCell ⟨w0.heap.size, 4, none⟩ (.int .i64 C4)).setCell ⟨w0.heap.size, 5, none⟩ (.int .i64 C5)).cell? ⟨D, 3, none⟩ = some (.int .i64 C3) ∧ ((((((w9.setCell ⟨w0.heap.size, 0, none⟩ (.int .i64 C0)).setCell ⟨w0.heap.size, 1, none⟩ (.int .i64 C1)).setCell ⟨w0.heap.size, 2, none⟩ (.int .i64 C2)).setCell ⟨w0.heap.size, 3, none⟩ (.int .i64 C3)).setCell ⟨w0.heap.size, 4, none⟩ (.int .i64 C4)).setCell ⟨w0.heap.size, 5, none⟩ (.int .i64 C5)).cell? ⟨D, 4, none⟩ = some (.int .i64 C4) ∧ ((((((w9.setCell ⟨w0.heap.size, 0, none⟩ (.int .i64 C0)).setCell ⟨w0.heap.size, 1, none⟩ (.int .i64 C1)).setCell ⟨w0.heap.size, 2, none⟩ (.int .i64 C2)).setCell ⟨w0.heap.size, 3, none⟩ (.int .i64 C3)).setCell ⟨w0.heap.size, 4, none⟩ (.int .i64 C4)).setCell ⟨w0.heap.size, 5, none⟩ (.int .i64 C5)).cell? ⟨D, 5, none⟩ = some (.int .i64 C5) := by
  have hx := hK.box h.rb.box
  have hq : But w0.heap.size w9 ((((((w9.setCell ⟨w0.heap.size, 0, none⟩ (.int .i64 C0)).setCell ⟨w0.heap.size, 1, none⟩ (.int .i64 C1)).setCell ⟨w0.heap.size, 2, none⟩ (.int .i64 C2)).setCell ⟨w0.heap.size, 3, none⟩ (.int .i64 C3)).setCell ⟨w0.heap.size, 4, none⟩ (.int .i64 C4)).setCell ⟨w0.heap.size, 5, none⟩ (.int .i64 C5)) := but_own (but_own (but_own (but_own (but_own (but_own (But.refl _ _) _ _) _ _) _ _) _ _) _ _) _ _
  exact ⟨(hq.cell hx.lt h.ne).trans hx.c0, (hq.cell hx.lt h.ne).trans hx.c1, (hq.cell hx.lt h.ne).trans hx.c2, (hq.cell hx.lt h.ne).trans hx.c3, (hq.cell hx.lt h.ne).trans hx.c4, (hq.cell hx.lt h.ne).trans hx.c5⟩
theorem rdrop_end {w w9 : World} {base q N : Nat} {M M' : Nat → Nat → Int} {x : Int} (hM : Rx w base q N M) (h : Rx w9 base q N M' ∧ Below base w w9 ∧ Keep w w9) (hx : w9.cell? ⟨w.heap.size, 0, none⟩ = some (.int .i64 x)) (C0 C1 C2 C3 C4 C5 : Int) : Rx ((((((w9.setCell ⟨w.heap.size, 0, none⟩ (.int .i64 C0)).setCell ⟨w.heap.size, 1, none⟩ (.int .i64 C1)).setCell ⟨w.heap.size, 2, none⟩ (.int .i64 C2)).setCell ⟨w.heap.size, 3, none⟩ (.int .i64 C3)).setCell ⟨w.heap.size, 4, none⟩ (.int .i64 C4)).setCell ⟨w.heap.size, 5, none⟩ (.int .i64 C5)) base q N M' ∧ Below base w ((((((w9.setCell ⟨w.heap.size, 0, none⟩ (.int .i64 C0)).setCell ⟨w.heap.size, 1, none⟩ (.int .i64 C1)).setCell ⟨w.heap.size, 2, none⟩ (.int .i64 C2)).setCell ⟨w.heap.size, 3, none⟩ (.int .i64 C3)).setCell ⟨w.heap.size, 4, none⟩ (.int .i64 C4)).setCell ⟨w.heap.size, 5, none⟩ (.int .i64 C5)) ∧ Keep w ((((((w9.setCell ⟨w.heap.size, 0, none⟩ (.int .i64 C0)).setCell ⟨w.heap.size, 1, none⟩ (.int .i64 C1)).setCell ⟨w.heap.size, 2, none⟩ (.int .i64 C2)).setCell ⟨w.heap.size, 3, none⟩ (.int .i64 C3)).setCell ⟨w.heap.size, 4, none⟩ (.int .i64 C4)).setCell ⟨w.heap.size, 5, none⟩ (.int .i64 C5)) := by
  have ho := set6_other w9 w.heap.size C0 C1 C2 C3 C4 C5
  have hb : Below base w9 ((((((w9.setCell ⟨w.heap.size, 0, none⟩ (.int .i64 C0)).setCell ⟨w.heap.size, 1, none⟩ (.int .i64 C1)).setCell ⟨w.heap.size, 2, none⟩ (.int .i64 C2)).setCell ⟨w.heap.size, 3, none⟩ (.int .i64 C3)).setCell ⟨w.heap.size, 4, none⟩ (.int .i64 C4)).setCell ⟨w.heap.size, 5, none⟩ (.int .i64 C5)) := ((((((Below.refl base w9).setCell (p := ⟨_, _, none⟩) (rx_le hM) _).setCell (p := ⟨_, _, none⟩) (rx_le hM) _).setCell (p := ⟨_, _, none⟩) (rx_le hM) _).setCell (p := ⟨_, _, none⟩) (rx_le hM) _).setCell (p := ⟨_, _, none⟩) (rx_le hM) _).setCell (p := ⟨_, _, none⟩) (rx_le hM) _
  exact ⟨h.1.turn (ref_apart h.1.ref h.1.n1 hx ho) h.1.fit, h.2.1.trans hb, Nat.le_trans h.2.2.1 hb.size, fun B z hB => (ho B (Nat.ne_of_lt (World.block_lt_of_cell? w _ hB))).trans (h.2.2.2 B z hB)⟩
set_option maxRecDepth 100000 in
set_option maxHeartbeats 1000000 in
theorem rdrop_any (base q N : Nat) (root a now : Int) (M : Nat → Nat → Int) (w : World) (h : Rx w base q N M) : Calls Tryz.prog 19 #[.pointer (some ⟨q, 0, none⟩), .int .i64 root, .int .i64 a, .int .i64 now] w fun x w' => x = .returned (.tuple #[.agg #[.int .i64 (drC N M root a now 0), .int .i64 (drC N M root a now 1), .int .i64 (drC N M root a now 2), .int .i64 (drC N M root a now 3), .int .i64 (drC N M root a now 4), .int .i64 (drC N M root a now 5)], .int .i64 (drE N M root a now)]) ∧ Rx w' base q N (drM N M root a now) ∧ Below base w w' ∧ Keep w w' := by
  have HM := rhide h
  cases ht : tiB now
  case false =>
    have e1 : drE N M root a now = 1 := by simp [drE, ht]
    have e2 : drM N M root a now = M := by simp [drM, e1]
    have e3 : ∀ j, drC N M root a now j = 0 := fun j => by simp [drC, e1]
    simp only [e3]
    rw [e1, e2]
    clear h e1 e2 e3
    have HB := rhide (bal (Below.refl w.heap.size w) (.cells #[.int .i64 0, .int .i64 0, .int .i64 0, .int .i64 0, .int .i64 0, .int .i64 0] 32))
    go_enter Tryz.func19, Tryz.ntmps19
    go_wp2_with (first
      | (go_at_call 49; refine (rtime_any now _).mono ?_; rintro e0 w0 ⟨rfl, hw⟩; subst w0; rw [ht])
      | fail)
    refine bodyPost_ret (v := .tuple #[.agg #[.int .i64 0, .int .i64 0, .int .i64 0, .int .i64 0, .int .i64 0, .int .i64 0], .int .i64 1]) (by simp [results, Tryz.results19, go_sem]) rfl ⟨rfl, rx_same HM.out HB.out⟩
  have e1 : drE N M root a now = dgE N M root a := by simp [drE, dgE, ht]
  have e2 : drM N M root a now = if dgE N M root a = 0 then pM N M (lfF N M root a) (lfI N M root a) 1 0 0 0 0 now else M := by simp only [drM, e1]
  have e3 : ∀ j, drC N M root a now j = if dgE N M root a = 0 then lkC N M root a j else 0 := fun j => by simp only [drC, e1]
  have e4 : lkE N M root a = 0 → pE N (lfF N M root a) (lfI N M root a) 1 0 0 0 0 now = 0 := fun hh => lk_put (rt_quiet ht) hh
  have e5 : dgE N M root a = if lkE N M root a = 0 then if lfZ N M root a = true then 6 else 0 else lkE N M root a := rfl
  have HL := rhide (rlook_any base q N root a M _ (h.grown (bal (Below.refl _ _) (.cells #[.int .i64 0, .int .i64 0, .int .i64 0, .int .i64 0, .int .i64 0, .int .i64 0] 32))))
  simp only [e3]
  rw [e1, e2]
  clear e1 e2 e3 h
  by_cases hE : lkE N M root a = 0
  case neg =>
    rw [if_neg hE] at e5
    rw [e5]
    simp only [if_neg hE]
    clear e4 e5
    generalize lkC N M root a 0 = C0 at HL
    generalize lkC N M root a 1 = C1 at HL
    generalize lkC N M root a 2 = C2 at HL
    generalize lkC N M root a 3 = C3 at HL
    generalize lkC N M root a 4 = C4 at HL
    generalize lkC N M root a 5 = C5 at HL
    generalize lkE N M root a = E at HL hE ⊢
    have hE' : (E != 0) = true := by simp [hE]
    go_enter Tryz.func19, Tryz.ntmps19
    go_upto_region 4 with (first
      | (go_at_call 49; refine (rtime_any now _).mono ?_; rintro e0 w0 ⟨rfl, hw⟩; subst w0; rw [ht])
      | (go_at_call 25; refine HL.out.mono ?_; rintro e1 w1 ⟨rfl, hb⟩; have H1 := rhide (rlk_res hb); clear hb HL)
      | fail)
    have H2 := rdrop_laid HM.out H1.out.1 H1.out.2 C0 C1 C2 C3 C4 C5
    generalize w1.alloc _ = w2 at H2 ⊢
    generalize w1.heap.size = D at H2 ⊢
    have H3 := rhide H2
    clear H2 H1
    have x0 := H3.out.res.c0
    have x1 := H3.out.res.c1
    have x2 := H3.out.res.c2
    have x3 := H3.out.res.c3
    have x4 := H3.out.res.c4
    have x5 := H3.out.res.c5
    have z0 := H3.out.res.fz 0
    have z1 := H3.out.res.fz 1
    have z2 := H3.out.res.fz 2
    have z3 := H3.out.res.fz 3
    have z4 := H3.out.res.fz 4
    have z5 := H3.out.res.fz 5
    go_wp2
    refine bodyPost_ret (v := .tuple #[.agg #[.int .i64 0, .int .i64 0, .int .i64 0, .int .i64 0, .int .i64 0, .int .i64 0], .int .i64 E]) (by simp [results, Tryz.results19, go_sem, x0, x1, x2, x3, x4, x5]) rfl ⟨rfl, ?_⟩
    exact rx_same HM.out (bst (bst (bst (bst (bst (bst H3.out.rb.below (Nat.le_refl _) _ _) (Nat.le_refl _) _ _) (Nat.le_refl _) _ _) (Nat.le_refl _) _ _) (Nat.le_refl _) _ _) (Nat.le_refl _) _ _)
  rw [if_pos hE] at e5
  rw [hE] at HL
  have HP := rhide (e4 hE)
  have HF := rhide (fun wc hb => leaf_any base q N root a M wc (HM.out.grown (w' := wc) hb))
  clear e4
  obtain ⟨Z, hZ⟩ : ∃ Z, lfZ N M root a = Z := ⟨_, rfl⟩
  rw [hZ] at e5 HF
  have he0 : lfE N M root a = 0 := by
    unfold lkE at hE
    by_cases h0 : lfE N M root a = 0
    · exact h0
    · rw [if_neg h0] at hE; exact hE
  clear hZ hE
  rw [he0] at HF
  clear he0
  generalize lkC N M root a 0 = C0 at HL ⊢
  generalize lkC N M root a 1 = C1 at HL ⊢
  generalize lkC N M root a 2 = C2 at HL ⊢
  generalize lkC N M root a 3 = C3 at HL ⊢
  generalize lkC N M root a 4 = C4 at HL ⊢
  generalize lkC N M root a 5 = C5 at HL ⊢
  generalize lfF N M root a = F at HF HP ⊢
  generalize lfI N M root a = I at HF HP ⊢
  cases Z
  case true =>
    rw [if_pos rfl] at e5
    rw [e5]
    simp only [show ¬ (6 : Int) = 0 by decide, if_false]
    clear e5
    go_enter Tryz.func19, Tryz.ntmps19
    go_upto_region 4 with (first
      | (go_at_call 49; refine (rtime_any now _).mono ?_; rintro e0 w0 ⟨rfl, hw⟩; subst w0; rw [ht])
      | (go_at_call 25; refine HL.out.mono ?_; rintro e1 w1 ⟨rfl, hb⟩; have H1 := rhide (rlk_res hb); clear hb HL)
      | fail)
    have H2 := rdrop_laid HM.out H1.out.1 H1.out.2 C0 C1 C2 C3 C4 C5
    generalize w1.alloc _ = w2 at H2 ⊢
    generalize w1.heap.size = D at H2 ⊢
    have H3 := rhide H2
    clear H2 H1
    go_wp2_with (first
      | (go_at_call 40; refine (HF.out _ H3.out.rb.below).mono ?_; rintro e4 w4 ⟨rfl, hb⟩; have H4 := rhide (H3.out.on hb); clear hb H3; have x0 := H4.out.res.c0; have x1 := H4.out.res.c1; have x2 := H4.out.res.c2; have x3 := H4.out.res.c3; have x4 := H4.out.res.c4; have x5 := H4.out.res.c5; have z0 := H4.out.res.fz 0; have z1 := H4.out.res.fz 1; have z2 := H4.out.res.fz 2; have z3 := H4.out.res.fz 3; have z4 := H4.out.res.fz 4; have z5 := H4.out.res.fz 5)
      | fail)
    refine bodyPost_ret (v := .tuple #[.agg #[.int .i64 0, .int .i64 0, .int .i64 0, .int .i64 0, .int .i64 0, .int .i64 0], .int .i64 6]) (by simp [results, Tryz.results19, go_sem, x0, x1, x2, x3, x4, x5]) rfl ⟨rfl, ?_⟩
    exact rx_same HM.out (bst (bst (bst (bst (bst (bst H4.out.rb.below (Nat.le_refl _) _ _) (Nat.le_refl _) _ _) (Nat.le_refl _) _ _) (Nat.le_refl _) _ _) (Nat.le_refl _) _ _) (Nat.le_refl _) _ _)
  rw [if_neg (by decide)] at e5
  rw [e5]
  simp only [if_true]
  clear e5
  go_enter Tryz.func19, Tryz.ntmps19
  go_upto_region 4 with (first
    | (go_at_call 49; refine (rtime_any now _).mono ?_; rintro e0 w0 ⟨rfl, hw⟩; subst w0; rw [ht])
    | (go_at_call 25; refine HL.out.mono ?_; rintro e1 w1 ⟨rfl, hb⟩; have H1 := rhide (rlk_res hb); clear hb HL)
    | fail)
  have H2 := rdrop_laid HM.out H1.out.1 H1.out.2 C0 C1 C2 C3 C4 C5
  generalize w1.alloc _ = w2 at H2 ⊢
  generalize w1.heap.size = D at H2 ⊢
  have H3 := rhide H2
  clear H2 H1
  go_upto_region 9 with (first
    | (go_at_call 40; refine (HF.out _ H3.out.rb.below).mono ?_; rintro e4 w4 ⟨rfl, hb⟩; have H4 := rhide (H3.out.on hb); clear hb H3)
    | fail)
  go_region_held3 (fun w' => w'.cell? ⟨D, 0, none⟩ = some (.int .i64 C0) ∧ w'.cell? ⟨D, 1, none⟩ = some (.int .i64 C1) ∧ w'.cell? ⟨D, 2, none⟩ = some (.int .i64 C2) ∧ w'.cell? ⟨D, 3, none⟩ = some (.int .i64 C3) ∧ w'.cell? ⟨D, 4, none⟩ = some (.int .i64 C4) ∧ w'.cell? ⟨D, 5, none⟩ = some (.int .i64 C5)) (first | with_reducible exact rdrop_set H4.out KP.out | with_reducible exact rdrop_keep H4.out KP.out | with_reducible exact rdrop_keep H4.out (Keep.of_below (Below.refl _ _).drew))
  (first
    | (go_at_call 41; refine (kput_any base q N F I 1 0 0 0 0 now M _ HM.out.n1 HM.out.n64 (by first | exact (H4.out.on (Below.refl _ _).drew).rb.rx.ref | exact H4.out.rb.rx.ref)).mono ?_; rintro e9 w9 ⟨rfl, hR9, hB9, hK9⟩; rw [HP.out]; have KP : Hid (Keep w4 w9) := (by first | exact hK9 | exact (Keep.of_below (Below.refl _ _).drew).trans hK9); have H9 := rhide (rx_put HM.out H4.out.rb.below hR9 (fit_pM HM.out.fit N F I 1 0 0 0 0 now) (by first | exact hB9 | exact ((Below.refl _ _).drew).trans hB9) KP.out); have HX := rhide (KP.out.box H4.out.res); clear hR9 hB9 hK9; have x0 := HX.out.c0; have x1 := HX.out.c1; have x2 := HX.out.c2; have x3 := HX.out.c3; have x4 := HX.out.c4; have x5 := HX.out.c5; have z0 := HX.out.fz 0; have z1 := HX.out.fz 1; have z2 := HX.out.fz 2; have z3 := HX.out.fz 3; have z4 := HX.out.fz 4; have z5 := HX.out.fz 5)
    | fail)
  go_wp2
  refine bodyPost_ret (v := .tuple #[.agg #[.int .i64 C0, .int .i64 C1, .int .i64 C2, .int .i64 C3, .int .i64 C4, .int .i64 C5], .int .i64 0]) (by simp [results, Tryz.results19, go_sem, x0, x1, x2, x3, x4, x5]) rfl ⟨rfl, ?_⟩
  exact rdrop_end HM.out H9.out HX.out.c0 C0 C1 C2 C3 C4 C5
end Go.Proofs.YtgcaodfcodalfaaGreatDoor.Pcaptbl
