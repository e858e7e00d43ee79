/- What Drop of package captbl answers and does, for every argument, over a memory that New made. -/
import Derived.Test.YtgcaodfcodalfaaGreatDoorCtbI
namespace Go.Proofs.YtgcaodfcodalfaaGreatDoor.Pcaptbl
open Go.Proofs.YtgcaodfcodalfaaGreatDoor.Pbase Go.Proofs.YtgcaodfcodalfaaGreatDoor.Pmem Go.Proofs.YtgcaodfcodalfaaGreatDoor.Pradix Go.Proofs.YtgcaodfcodalfaaGreatDoor.Pslot
open Go.RowKit
set_option linter.unusedVariables false

/-- What the walk saw last stays, behind what is laid, put, and stored into the result. -/
theorem hv_but {w0 w1 w2 : World} {p b N : Nat} {M : Nat → Nat → Int} {B : Nat} {u : Wk} (h : Wi w0 w1 p b N M B u) (hB : But b w1 w2) : w2.cell? ⟨B, 10, none⟩ = some (.int .i64 u.k) ∧ w2.cell? ⟨B, 11, none⟩ = some (.int .i64 u.r) ∧ w2.cell? ⟨B, 12, none⟩ = some (.int .i64 u.t) ∧ w2.cell? ⟨B, 13, none⟩ = some (.int .i64 u.l) ∧ w2.cell? ⟨B, 14, none⟩ = some (.int .i64 u.e) ∧ w2.cell? ⟨B, 15, none⟩ = some (.int .i64 u.x) := by
  have hn : B ≠ b := Nat.ne_of_gt (Nat.lt_of_lt_of_le h.mx0.mt.mem.lt.2 h.lo)
  exact ⟨(hB.cell h.lt hn).trans h.c10, (hB.cell h.lt hn).trans h.c11, (hB.cell h.lt hn).trans h.c12, (hB.cell h.lt hn).trans h.c13, (hB.cell h.lt hn).trans h.c14, (hB.cell h.lt hn).trans h.c15⟩
theorem hv_set {w0 w1 w2 : World} {p b N : Nat} {M : Nat → Nat → Int} {B D : Nat} {u : Wk} (h : Wi w0 w1 p b N M B u) (hB : But b w1 w2) (hD : B ≠ D) (y0 y1 y2 y3 y4 y5 : Int) : ((((((w2.setCell ⟨D, 0, none⟩ (.int .i64 y0)).setCell ⟨D, 1, none⟩ (.int .i64 y1)).setCell ⟨D, 2, none⟩ (.int .i64 y2)).setCell ⟨D, 3, none⟩ (.int .i64 y3)).setCell ⟨D, 4, none⟩ (.int .i64 y4)).setCell ⟨D, 5, none⟩ (.int .i64 y5)).cell? ⟨B, 10, none⟩ = some (.int .i64 u.k) ∧ ((((((w2.setCell ⟨D, 0, none⟩ (.int .i64 y0)).setCell ⟨D, 1, none⟩ (.int .i64 y1)).setCell ⟨D, 2, none⟩ (.int .i64 y2)).setCell ⟨D, 3, none⟩ (.int .i64 y3)).setCell ⟨D, 4, none⟩ (.int .i64 y4)).setCell ⟨D, 5, none⟩ (.int .i64 y5)).cell? ⟨B, 11, none⟩ = some (.int .i64 u.r) ∧ ((((((w2.setCell ⟨D, 0, none⟩ (.int .i64 y0)).setCell ⟨D, 1, none⟩ (.int .i64 y1)).setCell ⟨D, 2, none⟩ (.int .i64 y2)).setCell ⟨D, 3, none⟩ (.int .i64 y3)).setCell ⟨D, 4, none⟩ (.int .i64 y4)).setCell ⟨D, 5, none⟩ (.int .i64 y5)).cell? ⟨B, 12, none⟩ = some (.int .i64 u.t) ∧ ((((((w2.setCell ⟨D, 0, none⟩ (.int .i64 y0)).setCell ⟨D, 1, none⟩ (.int .i64 y1)).setCell ⟨D, 2, none⟩ (.int .i64 y2)).setCell ⟨D, 3, none⟩ (.int .i64 y3)).setCell ⟨D, 4, none⟩ (.int .i64 y4)).setCell ⟨D, 5, none⟩ (.int .i64 y5)).cell? ⟨B, 13, none⟩ = some (.int .i64 u.l) ∧ ((((((w2.setCell ⟨D, 0, none⟩ (.int .i64 y0)).setCell ⟨D, 1, none⟩ (.int .i64 y1)).setCell ⟨D, 2, none⟩ (.int .i64 y2)).setCell ⟨D, 3, none⟩ (.int .i64 y3)).setCell ⟨D, 4, none⟩ (.int .i64 y4)).setCell ⟨D, 5, none⟩ (.int .i64 y5)).cell? ⟨B, 14, none⟩ = some (.int .i64 u.e) ∧ ((((((w2.setCell ⟨D, 0, none⟩ (.int .i64 y0)).setCell ⟨D, 1, none⟩ (.int .i64 y1)).setCell ⟨D, 2, none⟩ (.int .i64 y2)).setCell ⟨D, 3, none⟩ (.int .i64 y3)).setCell ⟨D, 4, none⟩ (.int .i64 y4)).setCell ⟨D, 5, none⟩ (.int .i64 y5)).cell? ⟨B, 15, none⟩ = some (.int .i64 u.x) := by
  have hq : But D w2 ((((((w2.setCell ⟨D, 0, none⟩ (.int .i64 y0)).setCell ⟨D, 1, none⟩ (.int .i64 y1)).setCell ⟨D, 2, none⟩ (.int .i64 y2)).setCell ⟨D, 3, none⟩ (.int .i64 y3)).setCell ⟨D, 4, none⟩ (.int .i64 y4)).setCell ⟨D, 5, none⟩ (.int .i64 y5)) := but_own (but_own (but_own (but_own (but_own (but_own (But.refl _ _) _ _) _ _) _ _) _ _) _ _) _ _
  have hl : B < w2.heap.size := Nat.lt_of_lt_of_le h.lt hB.size
  obtain ⟨a0, a1, a2, a3, a4, a5⟩ := hv_but h hB
  exact ⟨(hq.cell hl hD).trans a0, (hq.cell hl hD).trans a1, (hq.cell hl hD).trans a2, (hq.cell hl hD).trans a3, (hq.cell hl hD).trans a4, (hq.cell hl hD).trans a5⟩
theorem res_but {w w1 w2 : World} {p b N : Nat} {M : Nat → Nat → Int} {u : Wk} (h : LkI w w1 p b N M u) (hb : b < w.heap.size) (hB : But b w1 w2) : Pcap.Box6 w2 w.heap.size 0 0 0 0 0 0 := box6_but h.res hB (Nat.ne_of_gt hb)
set_option maxRecDepth 100000 in
set_option maxHeartbeats 1000000 in
theorem drop_any (p b N : Nat) (root a now : Int) (M : Nat → Nat → Int) (w : World) (h : Mx w p b N M) (ha : -9223372036854775808 ≤ a ∧ a ≤ 9223372036854775807) : Calls Tryz.prog 18 #[.pointer (some ⟨p, 0, none⟩), .int .i64 root, .int .i64 a, .int .i64 now] w fun x w' => x = .returned (.tuple #[.agg #[.int .i64 (drC N M root a now 0), .int .i64 (drC N M root a now 1), .int .i64 (drC N M root a now 2), .int .i64 (drC N M root a now 3), .int .i64 (drC N M root a now 4), .int .i64 (drC N M root a now 5)], .int .i64 (drE N M root a now)]) ∧ Mx w' p b N (drM N M root a now) ∧ But b w w' := by
  have HM : Hid (Mx w p b N M) := h
  have hmf : ∀ (fn : Fn) (first cap : Array Value) (w : World), (Instr.makeFunc fn first cap).run Tryz.prog w = .ok (.func fn first cap) w := fun _ _ _ _ => rfl
  cases ht : tiB now
  case false =>
    have e1 : drE N M root a now = 1 := by simp [drE, ht]
    have e2 : drM N M root a now = M := by simp [drM, e1]
    have e3 : ∀ j, drC N M root a now j = 0 := fun j => by simp [drC, e1]
    simp only [e3]
    rw [e1, e2]
    clear h ha e1 e2 e3
    have HB : Hid (Below w.heap.size w (w.alloc (.cells #[.int .i64 0, .int .i64 0, .int .i64 0, .int .i64 0, .int .i64 0, .int .i64 0] 32))) := bal (Below.refl _ _) _
    go_enter Tryz.func18, Tryz.ntmps18
    go_wp2_with (first
      | (go_at_call 44; refine (isTime_any now _).mono ?_; rintro e1 w1 ⟨rfl, hw⟩; subst w1; rw [ht])
      | fail)
    refine bodyPost_ret (v := .tuple #[.agg #[.int .i64 0, .int .i64 0, .int .i64 0, .int .i64 0, .int .i64 0, .int .i64 0], .int .i64 1]) (by simp [results, Tryz.results18, go_sem]) rfl ⟨rfl, HM.out.on HB.out, But.of_below b HB.out⟩
  have e1 : drE N M root a now = dgE N M root a := by simp [drE, dgE, ht]
  have e2 : drM N M root a now = if dgE N M root a = 0 then pM N M (lfF N M root a) (lfI N M root a) 1 0 0 0 0 now else M := by simp only [drM, e1]
  have e3 : ∀ j, drC N M root a now j = if dgE N M root a = 0 then lkC N M root a j else 0 := fun j => by simp only [drC, e1]
  have e4 : dgE N M root a = 0 → pE N (lfF N M root a) (lfI N M root a) 1 0 0 0 0 now = 0 := fun hh => lk_put (rt_quiet ht) (by
    unfold dgE at hh
    by_cases h0 : lkE N M root a = 0
    · exact h0
    · rw [if_neg h0] at hh; exact hh)
  simp only [e3]
  rw [e1, e2]
  obtain ⟨u, hL, hok⟩ := drop_laid (root := root) h ha
  have hbl := h.mt.mem.lt.2
  clear e1 e2 e3 h ha
  by_cases hE : dgE N M root a = 0
  case neg =>
    simp only [if_neg hE]
    have HL := hide hL
    clear hL hok e4
    generalize dgE N M root a = E at HL hE ⊢
    have hE' : (E != 0) = true := by simp [hE]
    go_enter Tryz.func18, Tryz.ntmps18
    go_wp2_with (first
      | (go_at_call 44; refine (isTime_any now _).mono ?_; rintro e1 w1 ⟨rfl, hw⟩; subst w1; rw [ht])
      | (go_at_call 45; refine (HL.out _).mono ?_; rintro e2 w2 ⟨rfl, hb⟩; have H2 : Hid (LkI w w2 p b N M u) := hb; clear hb HL; have x0 := H2.out.res.c0; have x1 := H2.out.res.c1; have x2 := H2.out.res.c2; have x3 := H2.out.res.c3; have x4 := H2.out.res.c4; have x5 := H2.out.res.c5; have z0 := H2.out.res.fz 0; have z1 := H2.out.res.fz 1; have z2 := H2.out.res.fz 2; have z3 := H2.out.res.fz 3; have z4 := H2.out.res.fz 4; have z5 := H2.out.res.fz 5)
      | fail)
    refine bodyPost_ret (v := .tuple #[.agg #[.int .i64 0, .int .i64 0, .int .i64 0, .int .i64 0, .int .i64 0, .int .i64 0], .int .i64 E]) (by simp [results, Tryz.results18, go_sem, x0, x1, x2, x3, x4, x5]) rfl ⟨rfl, ?_⟩
    have hb : Below w.heap.size w ((((((w2.setCell ⟨w.heap.size, 0, none⟩ (.int .i64 0)).setCell ⟨w.heap.size, 1, none⟩ (.int .i64 0)).setCell ⟨w.heap.size, 2, none⟩ (.int .i64 0)).setCell ⟨w.heap.size, 3, none⟩ (.int .i64 0)).setCell ⟨w.heap.size, 4, none⟩ (.int .i64 0)).setCell ⟨w.heap.size, 5, none⟩ (.int .i64 0)) := bst (bst (bst (bst (bst (bst H2.out.below (Nat.le_refl _) _ _) (Nat.le_refl _) _ _) (Nat.le_refl _) _ _) (Nat.le_refl _) _ _) (Nat.le_refl _) _ _) (Nat.le_refl _) _ _
    exact ⟨HM.out.on hb, But.of_below b hb⟩
  obtain ⟨⟨h0, h1, h2, h3, h4, h5⟩, h6, h7⟩ := hok hE
  simp only [if_pos hE]
  rw [← h0, ← h1, ← h2, ← h3, ← h4, ← h5]
  rw [hE] at hL ⊢
  have HL := hide hL
  have HU := hide (And.intro h6 h7)
  have HP := hide (e4 hE)
  have HBL := hide hbl
  have HDN : Hid (w.heap.size + 1 ≠ w.heap.size) := (by omega : w.heap.size + 1 ≠ w.heap.size)
  clear hL hok e4 hE hbl h0 h1 h2 h3 h4 h5 h6 h7
  go_enter Tryz.func18, Tryz.ntmps18
  go_upto_region 7 with (first
    | (go_at_call 44; refine (isTime_any now _).mono ?_; rintro e1 w1 ⟨rfl, hw⟩; subst w1; rw [ht])
    | (go_at_call 45; refine (HL.out _).mono ?_; rintro e2 w2 ⟨rfl, hb⟩; have H2 : Hid (LkI w w2 p b N M u) := hb; clear hb HL)
    | fail)
  go_region_held3 (fun w' => w'.cell? ⟨w.heap.size + 1, 10, none⟩ = some (.int .i64 u.k) ∧ w'.cell? ⟨w.heap.size + 1, 11, none⟩ = some (.int .i64 u.r) ∧ w'.cell? ⟨w.heap.size + 1, 12, none⟩ = some (.int .i64 u.t) ∧ w'.cell? ⟨w.heap.size + 1, 13, none⟩ = some (.int .i64 u.l) ∧ w'.cell? ⟨w.heap.size + 1, 14, none⟩ = some (.int .i64 u.e) ∧ w'.cell? ⟨w.heap.size + 1, 15, none⟩ = some (.int .i64 u.x)) (first | with_reducible exact hv_set H2.out.wi HB5.out HDN.out u.k u.r u.t u.l u.e u.x | with_reducible exact hv_but H2.out.wi HB3.out | with_reducible exact hv_but H2.out.wi HB5.out | with_reducible exact hv_but H2.out.wi (But.of_below b (Below.refl _ _).drew))
  (first
    | (go_at_call 48; refine (was_any now _).mono ?_; rintro e3 w3 ⟨rfl, hb⟩; have hb3 : Below w2.heap.size w2 w3 := (by first | exact hb | exact (Below.refl _ _).drew.trans hb); have HB3 : Hid (But b w2 w3) := But.of_below b hb3; have H3 : Hid (LkI w w3 p b N M u) := ⟨H2.out.wi.on hb3⟩; clear hb hb3)
    | (go_at_call 38; refine (wput_any 1 0 0 0 0 now (by first | exact H3.out.wi | exact H3.out.wi.on (Below.refl _ _).drew)).mono ?_; rintro e5 w5 ⟨rfl, hm, hb⟩; rw [HU.out.1, HU.out.2] at hm ⊢; rw [HP.out]; have HB4 : Hid (But b w3 w5) := (by first | exact hb | exact (But.of_below b (Below.refl _ _).drew).trans hb); have HB5 : Hid (But b w2 w5) := HB3.out.trans HB4.out; clear HB3; have H5 : Hid (Mx w5 p b N (pM N M (lfF N M root a) (lfI N M root a) 1 0 0 0 0 now)) := hm; have HX : Hid (Pcap.Box6 w5 w.heap.size 0 0 0 0 0 0) := res_but H2.out HBL.out HB5.out; clear hm hb; have x0 := HX.out.c0; have x1 := HX.out.c1; have x2 := HX.out.c2; have x3 := HX.out.c3; have x4 := HX.out.c4; have x5 := HX.out.c5; have z0 := HX.out.fz 0; have z1 := HX.out.fz 1; have z2 := HX.out.fz 2; have z3 := HX.out.fz 3; have z4 := HX.out.fz 4; have z5 := HX.out.fz 5)
    | fail)
  go_wp2
  refine bodyPost_ret (v := .tuple #[.agg #[.int .i64 u.k, .int .i64 u.r, .int .i64 u.t, .int .i64 u.l, .int .i64 u.e, .int .i64 u.x], .int .i64 0]) (by simp [results, Tryz.results18, go_sem, x0, x1, x2, x3, x4, x5]) rfl ⟨rfl, ?_⟩
  have hs : Below w.heap.size w5 ((((((w5.setCell ⟨w.heap.size, 0, none⟩ (.int .i64 u.k)).setCell ⟨w.heap.size, 1, none⟩ (.int .i64 u.r)).setCell ⟨w.heap.size, 2, none⟩ (.int .i64 u.t)).setCell ⟨w.heap.size, 3, none⟩ (.int .i64 u.l)).setCell ⟨w.heap.size, 4, none⟩ (.int .i64 u.e)).setCell ⟨w.heap.size, 5, none⟩ (.int .i64 u.x)) := ((((((Below.refl w.heap.size w5).setCell (p := ⟨_, _, none⟩) (Nat.le_refl _) _).setCell (p := ⟨_, _, none⟩) (Nat.le_refl _) _).setCell (p := ⟨_, _, none⟩) (Nat.le_refl _) _).setCell (p := ⟨_, _, none⟩) (Nat.le_refl _) _).setCell (p := ⟨_, _, none⟩) (Nat.le_refl _) _).setCell (p := ⟨_, _, none⟩) (Nat.le_refl _) _
  have hB : But b w ((((((w5.setCell ⟨w.heap.size, 0, none⟩ (.int .i64 u.k)).setCell ⟨w.heap.size, 1, none⟩ (.int .i64 u.r)).setCell ⟨w.heap.size, 2, none⟩ (.int .i64 u.t)).setCell ⟨w.heap.size, 3, none⟩ (.int .i64 u.l)).setCell ⟨w.heap.size, 4, none⟩ (.int .i64 u.e)).setCell ⟨w.heap.size, 5, none⟩ (.int .i64 u.x)) := but_on ((But.of_below b H2.out.below).trans HB5.out) hs
  exact ⟨HM.out.but (H5.out.mt.mem.below hs HM.out.mt.mem.lt.1 HM.out.mt.mem.lt.2) H5.out.mt.fit hB, hB⟩
end Go.Proofs.YtgcaodfcodalfaaGreatDoor.Pcaptbl
