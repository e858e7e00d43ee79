/- What Can, Sum and change (with each of its two closures) of package tcap answer and do, for all arguments (written by mk_change.py). -/
import Derived.Test.YtlnckhebikiclaaDoorTcpC
import Derived.Deep.RegionHeld3
namespace Go.Proofs.YtlnckhebikiclaaDoor.Ptcap
open Go.Proofs.YtlnckhebikiclaaDoor.Pbase Go.Proofs.YtlnckhebikiclaaDoor.Pfield Go.Proofs.YtlnckhebikiclaaDoor.Play Go.Proofs.YtlnckhebikiclaaDoor.Pmem
open Go.RowKit M
set_option linter.unusedVariables false

/-! ### Can -/
set_option maxRecDepth 100000 in
set_option maxHeartbeats 1000000 in
theorem can_any (p b N : Nat) (f : Int) (M : Nat → Nat → Int) (w : World) (hM : Mx w p b N M) :
    Calls Tryd.prog 17 #[.pointer (some ⟨p, 0, none⟩), .int .i64 f] w fun e w' => e = .returned (.bool (cnB N M f)) ∧ Below w.heap.size w w' := by
  have HG : Hid (Calls Tryd.prog 15 #[.pointer (some ⟨p, 0, none⟩), .int .i64 f] w fun e w' => e = .returned (.tuple #[.agg #[.bool (gtT N M f).inf, .int .i64 (gtT N M f).lf, .int .i64 (gtT N M f).pr], .int .i64 (gtE N M f)]) ∧ Below w.heap.size w w') := get_any p b N f M w hM
  have hl := (gt_bo N M f).1
  have HS : Hid (∀ wc, Calls Tryd.prog 43 #[.agg #[.bool (gtT N M f).inf, .int .i64 (gtT N M f).lf, .int .i64 (gtT N M f).pr]] wc fun e w' => e = .returned (.bool (!(gtT N M f).inf && decide ((gtT N M f).lf = 0))) ∧ Below wc.heap.size wc w') := fun wc => spent_any _ wc
  have e : cnB N M f = (decide (gtE N M f = 0) && !(!(gtT N M f).inf && decide ((gtT N M f).lf = 0))) := by
    unfold cnB
    have : decide (0 < (gtT N M f).lf) = !decide ((gtT N M f).lf = 0) := by
      by_cases h0 : (gtT N M f).lf = 0
      · rw [h0]; rfl
      · rw [decide_eq_false h0, decide_eq_true (by omega)]; rfl
    rw [this]
    cases (gtT N M f).inf <;> rfl
  rw [e]
  clear e hl hM
  generalize (!(gtT N M f).inf && decide ((gtT N M f).lf = 0)) = R at HS ⊢
  generalize gtE N M f = E at HG ⊢
  generalize gtT N M f = y at HG HS
  by_cases hE : E = 0
  · subst hE
    go_enter Tryd.func17, Tryd.ntmps17
    go_wp2_with (first
      | (go_at_call 15; refine HG.out.mono ?_; rintro e1 w1 ⟨rfl, hb⟩; have H1 := rhide (bal hb (.cells #[.bool y.inf, .int .i64 y.lf, .int .i64 y.pr] 33)); clear hb HG)
      | (go_at_call 43; refine (HS.out _).mono ?_; rintro e2 w2 ⟨rfl, hb⟩; have H2 := rhide (H1.out.trans (hb.mono H1.out.size)); clear hb HS H1)
      | fail)
    go_ret
    exact ⟨by simp, H2.out⟩
  · have hE' : (E == 0) = false := by simp [hE]
    rw [show decide (E = 0) = false by simp [hE]]
    clear hE HS
    go_enter Tryd.func17, Tryd.ntmps17
    go_wp2_with (first
      | (go_at_call 15; refine HG.out.mono ?_; rintro e1 w1 ⟨rfl, hb⟩; have H1 := rhide (bal hb (.cells #[.bool y.inf, .int .i64 y.lf, .int .i64 y.pr] 33)); clear hb HG)
      | fail)
    go_ret
    exact ⟨rfl, H1.out⟩
/-! ### Sum -/
set_option maxRecDepth 100000 in
set_option maxHeartbeats 1000000 in
theorem sum_any (p b N : Nat) (M : Nat → Nat → Int) (w : World) (hM : Mx w p b N M) :
    Calls Tryd.prog 19 #[.pointer (some ⟨p, 0, none⟩)] w fun e w' => e = .returned (.int .i64 (smK N M N)) ∧ Below w.heap.size w w' := by
  have HM := rhide hM
  have HL : Hid (Calls Tryd.prog 47 #[.pointer (some ⟨p, 0, none⟩)] w fun e w' => e = .returned (.int .i64 N) ∧ w' = w) := len_some p b N w hM.n64 hM.mem.cell
  have n1 := hM.n1
  have n64 := hM.n64
  clear hM
  go_enter Tryd.func19, Tryd.ntmps19
  go_wp2_with (first
    | (go_at_call 47; refine HL.out.mono ?_; rintro e1 w1 ⟨rfl, hw⟩; subst w1; clear HL)
    | fail)
  go_loopw [3, 9] (fun n i wr => ∃ k : Nat, k ≤ N ∧ i = .int .i64 k ∧ n = .int .i64 (smK N M k) ∧ Below w.heap.size w wr) (fun _ i _ => N - (intOf i).toNat)
  case atStart => exact ⟨0, by omega, rfl, rfl, Below.refl _ _⟩
  case round =>
    obtain ⟨k, hk, rfl, rfl, hB⟩ := hrel
    have HB := rhide hB
    have HX : Hid (Mx wr p b N M) := HM.out.on hB
    clear hB
    by_cases hlt : k < N
    · have hki : (k : Int) < (N : Int) := by omega
      have HG : Hid (Calls Tryd.prog 15 #[.pointer (some ⟨p, 0, none⟩), .int .i64 (k : Int)] wr fun e w' => e = .returned (.tuple #[.agg #[.bool (gtT N M (k : Nat)).inf, .int .i64 (gtT N M (k : Nat)).lf, .int .i64 (gtT N M (k : Nat)).pr], .int .i64 (gtE N M (k : Nat))]) ∧ Below wr.heap.size wr w') := get_any p b N (k : Nat) M wr HX.out
      have hsm := sm_bd N M k
      have hbo := (gt_bo N M (k : Nat)).1
      have HS : Hid (smK N M (k + 1) = smK N M k + (gtT N M (k : Nat)).lf) := rfl
      have hwk : wrap64 ((k : Int) + 1) = (k : Int) + 1 := by unfold wrap64; omega
      by_cases hE : gtE N M (k : Nat) = 0
      · rw [hE] at HG
        generalize gtT N M (k : Nat) = y at HG HS hbo
        generalize smK N M k = n at HS hsm ⊢
        have hw : wrap64 (n + y.lf) = n + y.lf := by unfold wrap64; omega
        clear hE hsm hbo
        go_wp2_with (first
          | (go_at_call 15; refine HG.out.mono ?_; rintro e1 w1 ⟨rfl, hb⟩; have H1 : Hid (Below w.heap.size w (w1.alloc (.cells #[.bool y.inf, .int .i64 y.lf, .int .i64 y.pr] 33))) := bal (HB.out.trans (hb.mono HB.out.size)) _; clear hb HG)
          | fail)
        go_roundw
        case rel => exact ⟨k + 1, by omega, by go_num, by rw [HS.out, hw], H1.out⟩
        case measure => simp [intOf]; omega
      · have hz : (gtT N M (k : Nat)).lf = 0 := by rw [gt_no hE]; rfl
        generalize gtT N M (k : Nat) = y at HG HS hbo hz
        generalize gtE N M (k : Nat) = E at HG hE
        generalize smK N M k = n at HS hsm ⊢
        have hE' : (E == 0) = false := by simp [hE]
        have HZ := rhide hz
        clear hE hsm hbo hz
        go_wp2_with (first
          | (go_at_call 15; refine HG.out.mono ?_; rintro e1 w1 ⟨rfl, hb⟩; have H1 : Hid (Below w.heap.size w (w1.alloc (.cells #[.bool y.inf, .int .i64 y.lf, .int .i64 y.pr] 33))) := bal (HB.out.trans (hb.mono HB.out.size)) _; clear hb HG)
          | fail)
        go_roundw
        case rel => exact ⟨k + 1, by omega, by go_num, by rw [HS.out, HZ.out, Int.add_zero], H1.out⟩
        case measure => simp [intOf]; omega
    · obtain rfl : k = N := by omega
      go_wp2
      go_ret
      exact ⟨rfl, HB.out⟩
/-! ### change -/
theorem kept {w w' : World} {q j : Nat} {v : Value} (hB : Below w.heap.size w w') (h : w.cell? ⟨q, j, none⟩ = some v) : w'.cell? ⟨q, j, none⟩ = some v :=
  (World.cell?_of_block (hB.block q (World.block_lt_of_cell? w _ h))).trans h
theorem but_on {b : Nat} {w W W' : World} (h : But b w W) (k : Below w.heap.size W W') : But b w W' :=
  ⟨k.os.trans h.os, k.tape.trans h.tape, k.output.trans h.output, Nat.le_trans h.size k.size, fun i hi hn => (k.block i hi).trans (h.block i hi hn)⟩
/-- A result, a budget in a block and a memory. -/
structure ChI (w W : World) (p b N : Nat) (M : Nat → Nat → Int) (B : Nat) (x : Bd) : Prop where
  m0 : Mx w p b N M
  res : RowB W w.heap.size bd0
  box : RowB W B x
  below : Below w.heap.size w W
  ne : w.heap.size < B
section
variable {w W W' : World} {p b N : Nat} {M M' : Nat → Nat → Int} {B : Nat} {x y : Bd}
theorem GtI.more (h0 : Mx w p b N M) (h : GtI w W p b N M) (x : Bd) : ChI w (W.alloc (.cells #[.bool x.inf, .int .i64 x.lf, .int .i64 x.pr] 33)) p b N M W.heap.size x :=
  ⟨h0, h.res.on (bal (Below.refl _ _) _), rowB_new W x, bal h.below _, h.res.lt⟩
theorem ChI.mx (h : ChI w W p b N M B x) : Mx W p b N M := h.m0.on h.below
theorem ChI.turn (h : ChI w W p b N M B x) (hx : RowB W' B y) (hB : But B W W') : ChI w W' p b N M B y :=
  ⟨h.m0, h.res.but hB (Nat.ne_of_lt h.ne), hx, h.below.trans (hB.below (Nat.le_of_lt h.ne) h.below.size), h.ne⟩
theorem ChI.on (h : ChI w W p b N M B x) (hB : Below W.heap.size W W') : ChI w W' p b N M B x :=
  ⟨h.m0, h.res.on hB, h.box.on hB, h.below.trans (hB.mono h.below.size), h.ne⟩
theorem ch_but (h : ChI w W p b N M B x) (hB : But b W W') : W'.cell? ⟨B, 0, none⟩ = some (.bool x.inf) ∧ W'.cell? ⟨B, 1, none⟩ = some (.int .i64 x.lf) ∧ W'.cell? ⟨B, 2, none⟩ = some (.int .i64 x.pr) := by
  have hb := h.m0.mem.lt.2
  have hr := h.box.but hB (by have := h.ne; omega)
  exact ⟨hr.c0, hr.c1, hr.c2⟩
theorem set3_other (w : World) (q : Nat) (x y z : Value) (B : Nat) (h : B ≠ q) : (((w.setCell ⟨q, 0, none⟩ x).setCell ⟨q, 1, none⟩ y).setCell ⟨q, 2, none⟩ z).heap[B]? = w.heap[B]? :=
  ((heap_setCell_other _ _ _ _ h).trans (heap_setCell_other _ _ _ _ h)).trans (heap_setCell_other _ _ _ _ h)
theorem ch_put3 (h : ChI w W p b N M B x) (hB : But b W W') (x' y' z' : Value) : (((W'.setCell ⟨w.heap.size, 0, none⟩ x').setCell ⟨w.heap.size, 1, none⟩ y').setCell ⟨w.heap.size, 2, none⟩ z').cell? ⟨B, 0, none⟩ = some (.bool x.inf) ∧ (((W'.setCell ⟨w.heap.size, 0, none⟩ x').setCell ⟨w.heap.size, 1, none⟩ y').setCell ⟨w.heap.size, 2, none⟩ z').cell? ⟨B, 1, none⟩ = some (.int .i64 x.lf) ∧ (((W'.setCell ⟨w.heap.size, 0, none⟩ x').setCell ⟨w.heap.size, 1, none⟩ y').setCell ⟨w.heap.size, 2, none⟩ z').cell? ⟨B, 2, none⟩ = some (.int .i64 x.pr) := by
  have hd := set3_other W' w.heap.size x' y' z' B (Nat.ne_of_gt h.ne)
  have hk := ch_but h hB
  generalize ((W'.setCell ⟨w.heap.size, 0, none⟩ x').setCell ⟨w.heap.size, 1, none⟩ y').setCell ⟨w.heap.size, 2, none⟩ z' = w10 at hd ⊢
  have e : ∀ j, w10.cell? ⟨B, j, none⟩ = W'.cell? ⟨B, j, none⟩ := fun j => World.cell?_of_block (w := W') hd
  exact ⟨(e 0).trans hk.1, (e 1).trans hk.2.1, (e 2).trans hk.2.2⟩
/-- The result's block is no part of the memory. -/
theorem ch_end (h0 : Mx w p b N M) (hm : Mx W p b N M') (hB : But b w W) (x y z : Value) : Mx (((W.setCell ⟨w.heap.size, 0, none⟩ x).setCell ⟨w.heap.size, 1, none⟩ y).setCell ⟨w.heap.size, 2, none⟩ z) p b N M' ∧ But b w (((W.setCell ⟨w.heap.size, 0, none⟩ x).setCell ⟨w.heap.size, 1, none⟩ y).setCell ⟨w.heap.size, 2, none⟩ z) := by
  have ho := set3_other W w.heap.size x y z
  have l1 := h0.mem.lt.1
  have l2 := h0.mem.lt.2
  have hb := but_on hB ((((Below.refl w.heap.size W).setCell (p := ⟨w.heap.size, 0, none⟩) (Nat.le_refl _) x).setCell (p := ⟨w.heap.size, 1, none⟩) (Nat.le_refl _) y).setCell (p := ⟨w.heap.size, 2, none⟩) (Nat.le_refl _) z)
  exact ⟨h0.but (hm.mem.on (ho p (by omega)) (ho b (by omega))) hm.fit hb, hb⟩
end
set_option maxRecDepth 100000 in
set_option maxHeartbeats 4000000 in
theorem change_no (p b N : Nat) (f : Int) (v : Value) (M : Nat → Nat → Int) (w : World) (hM : Mx w p b N M) (hg : gtE N M f ≠ 0) :
    Calls Tryd.prog 39 #[.pointer (some ⟨p, 0, none⟩), .int .i64 f, v] w fun e w' => e = .returned (.tuple #[.agg #[.bool false, .int .i64 0, .int .i64 0], .int .i64 (gtE N M f)]) ∧ Below w.heap.size w w' := by
  have H0 := rhide (gtI_new hM)
  have HG : Hid (∀ wc, Mx wc p b N M → Calls Tryd.prog 15 #[.pointer (some ⟨p, 0, none⟩), .int .i64 f] wc fun e w' => e = .returned (.tuple #[.agg #[.bool (gtT N M f).inf, .int .i64 (gtT N M f).lf, .int .i64 (gtT N M f).pr], .int .i64 (gtE N M f)]) ∧ Below wc.heap.size wc w') := fun wc h => get_any p b N f M wc h
  clear hM
  generalize gtE N M f = E at HG hg ⊢
  generalize gtT N M f = y at HG
  have hE : (E != 0) = true := by simp [hg]
  clear hg
  go_enter Tryd.func39, Tryd.ntmps39
  go_wp2_with (first
    | (go_at_call 15; refine (HG.out _ H0.out.mx).mono ?_; rintro e1 w1 ⟨rfl, hb⟩; have H1 := rhide ((H0.out.on hb).on (bal (Below.refl _ _) (.cells #[.bool y.inf, .int .i64 y.lf, .int .i64 y.pr] 33))); clear hb HG H0; have x0 := H1.out.res.c0; have x1 := H1.out.res.c1; have x2 := H1.out.res.c2; have z := H1.out.res.fz)
    | fail)
  refine bodyPost_ret (v := .tuple #[.agg #[.bool false, .int .i64 0, .int .i64 0], .int .i64 E]) (by simp [results, Tryd.results39, go_sem, x0, x1, x2]) rfl ⟨rfl, ?_⟩
  exact bst (bst (bst H1.out.below (Nat.le_refl _) _ _) (Nat.le_refl _) _ _) (Nat.le_refl _) _ _
set_option maxRecDepth 100000 in
set_option maxHeartbeats 4000000 in
theorem change_less (p b N : Nat) (f : Int) (n : Int) (D : Nat) (M : Nat → Nat → Int) (w : World) (hM : Mx w p b N M) (hg : gtE N M f = 0) (hn : 0 ≤ n ∧ n ≤ 1048576) (hD : w.cell? ⟨D, 0, none⟩ = some (.int .i64 n)) (hnew : Bo (chX (bdOf M f) n)) :
    Calls Tryd.prog 39 #[.pointer (some ⟨p, 0, none⟩), .int .i64 f, .func (.func 61) #[] #[.pointer (some ⟨D, 0, none⟩)]] w fun e w' => e = .returned (.tuple #[.agg #[.bool (chX (bdOf M f) n).inf, .int .i64 (chX (bdOf M f) n).lf, .int .i64 (chX (bdOf M f) n).pr], .int .i64 0]) ∧ Mx w' p b N (layF N M f (chX (bdOf M f) n).ws) ∧ But b w w' := by
  have HM := rhide hM
  have H0 := rhide (gtI_new hM)
  obtain ⟨g1, _, hbo, g2⟩ := gt_yes hg
  have HG : Hid (∀ wc, Mx wc p b N M → Calls Tryd.prog 15 #[.pointer (some ⟨p, 0, none⟩), .int .i64 f] wc fun e w' => e = .returned (.tuple #[.agg #[.bool (bdOf M f).inf, .int .i64 (bdOf M f).lf, .int .i64 (bdOf M f).pr], .int .i64 0]) ∧ Below wc.heap.size wc w') := fun wc h => by
    have := get_any p b N f M wc h
    rwa [g2, hg] at this
  have HBy : Hid (∀ wc B, w.heap.size < B → RowB wc B (bdOf M f) → Below w.heap.size w wc → Calls Tryd.prog 61 #[.pointer (some ⟨B, 0, none⟩), .pointer (some ⟨D, 0, none⟩)] wc fun e w' => e = .returned (.tuple #[]) ∧ RowB w' B (chX (bdOf M f) n) ∧ But B wc w') := fun wc B hlt hR hB => less1_any B D _ n hn hbo.1 wc hR (kept hB hD)
  have HW : Hid (∀ wc, Mx wc p b N M → Calls Tryd.prog 31 #[.pointer (some ⟨p, 0, none⟩), .int .i64 f, .agg #[.bool (chX (bdOf M f) n).inf, .int .i64 (chX (bdOf M f) n).lf, .int .i64 (chX (bdOf M f) n).pr]] wc fun e w' => e = .returned (.int .i64 0) ∧ Mx w' p b N (layF N M f (chX (bdOf M f) n).ws) ∧ But b wc w') := fun wc h => write_any p b N f _ M wc h hnew (isE_ok g1)
  clear hM hg g1 g2 hbo hnew hn hD
  generalize layF N M f (chX (bdOf M f) n).ws = M1 at HW ⊢
  generalize chX (bdOf M f) n = y at HBy HW ⊢
  generalize bdOf M f = x at HG HBy
  go_enter Tryd.func39, Tryd.ntmps39
  go_upto_region 4 with (first
    | (go_at_call 15; refine (HG.out _ H0.out.mx).mono ?_; rintro e1 w1 ⟨rfl, hb⟩; have H1 := GtI.more HM.out (H0.out.on hb) x; clear hb HG H0)
    | fail)
  generalize w1.alloc _ = w2 at H1 ⊢
  generalize w1.heap.size = B at H1 ⊢
  have H2 := rhide H1
  clear H1
  go_upto_region 5 with (first
    | (go_at_call 61; refine (HBy.out _ _ H2.out.ne H2.out.box H2.out.below).mono ?_; rintro e3 w3 ⟨rfl, hx, hb⟩; have H3 := rhide (H2.out.turn hx hb); clear hx hb HBy H2)
    | fail)
  go_region_held3 (fun w' => w'.cell? ⟨B, 0, none⟩ = some (.bool y.inf) ∧ w'.cell? ⟨B, 1, none⟩ = some (.int .i64 y.lf) ∧ w'.cell? ⟨B, 2, none⟩ = some (.int .i64 y.pr)) (first | with_reducible exact ch_put3 H3.out HB9.out _ _ _ | with_reducible exact ch_but H3.out HB9.out | with_reducible exact ch_but H3.out (But.of_below b (Below.refl _ _).drew))
  (first
    | (go_at_call 31; refine (HW.out _ (by first | exact (H3.out.on (Below.refl _ _).drew).mx | exact H3.out.mx)).mono ?_; rintro e9 w9 ⟨rfl, hm9, hb9⟩; have HB9 : Hid (But b w3 w9) := (by first | exact hb9 | exact (But.of_below b (Below.refl _ _).drew).trans hb9); have HT9 := rhide hm9; clear hm9 hb9; have HX : Hid (RowB w9 w.heap.size bd0) := H3.out.res.but HB9.out (Nat.ne_of_gt H3.out.m0.mem.lt.2); have x0 := HX.out.c0; have x1 := HX.out.c1; have x2 := HX.out.c2; have z0 := HX.out.fz)
    | fail)
  go_wp2
  refine bodyPost_ret (v := .tuple #[.agg #[.bool y.inf, .int .i64 y.lf, .int .i64 y.pr], .int .i64 0]) (by simp [results, Tryd.results39, go_sem, x0, x1, x2]) rfl ⟨rfl, ?_⟩
  exact ch_end HM.out HT9.out ((But.of_below b H3.out.below).trans HB9.out) _ _ _
set_option maxRecDepth 100000 in
set_option maxHeartbeats 4000000 in
theorem change_more (p b N : Nat) (f : Int) (n k : Int) (D E : Nat) (M : Nat → Nat → Int) (w : World) (hM : Mx w p b N M) (hg : gtE N M f = 0) (hn : 0 ≤ n ∧ n ≤ 1048576) (hD : w.cell? ⟨D, 0, none⟩ = some (.int .i64 n)) (hE : w.cell? ⟨E, 0, none⟩ = some (.int .i64 k)) (hnew : Bo (gvY (bdOf M f) n k)) :
    Calls Tryd.prog 39 #[.pointer (some ⟨p, 0, none⟩), .int .i64 f, .func (.func 62) #[] #[.pointer (some ⟨D, 0, none⟩), .pointer (some ⟨E, 0, none⟩)]] w fun e w' => e = .returned (.tuple #[.agg #[.bool (gvY (bdOf M f) n k).inf, .int .i64 (gvY (bdOf M f) n k).lf, .int .i64 (gvY (bdOf M f) n k).pr], .int .i64 0]) ∧ Mx w' p b N (layF N M f (gvY (bdOf M f) n k).ws) ∧ But b w w' := by
  have HM := rhide hM
  have H0 := rhide (gtI_new hM)
  obtain ⟨g1, _, hbo, g2⟩ := gt_yes hg
  have HG : Hid (∀ wc, Mx wc p b N M → Calls Tryd.prog 15 #[.pointer (some ⟨p, 0, none⟩), .int .i64 f] wc fun e w' => e = .returned (.tuple #[.agg #[.bool (bdOf M f).inf, .int .i64 (bdOf M f).lf, .int .i64 (bdOf M f).pr], .int .i64 0]) ∧ Below wc.heap.size wc w') := fun wc h => by
    have := get_any p b N f M wc h
    rwa [g2, hg] at this
  have HBy : Hid (∀ wc B, w.heap.size < B → RowB wc B (bdOf M f) → Below w.heap.size w wc → Calls Tryd.prog 62 #[.pointer (some ⟨B, 0, none⟩), .pointer (some ⟨D, 0, none⟩), .pointer (some ⟨E, 0, none⟩)] wc fun e w' => e = .returned (.tuple #[]) ∧ RowB w' B (gvY (bdOf M f) n k) ∧ But B wc w') := fun wc B hlt hR hB => more1_any B D E _ n k hn hbo.1 wc hR (kept hB hD) (kept hB hE) (by have := World.block_lt_of_cell? w _ hD; dsimp only at this; omega) (by have := World.block_lt_of_cell? w _ hE; dsimp only at this; omega)
  have HW : Hid (∀ wc, Mx wc p b N M → Calls Tryd.prog 31 #[.pointer (some ⟨p, 0, none⟩), .int .i64 f, .agg #[.bool (gvY (bdOf M f) n k).inf, .int .i64 (gvY (bdOf M f) n k).lf, .int .i64 (gvY (bdOf M f) n k).pr]] wc fun e w' => e = .returned (.int .i64 0) ∧ Mx w' p b N (layF N M f (gvY (bdOf M f) n k).ws) ∧ But b wc w') := fun wc h => write_any p b N f _ M wc h hnew (isE_ok g1)
  clear hM hg g1 g2 hbo hnew hn hD hE
  generalize layF N M f (gvY (bdOf M f) n k).ws = M1 at HW ⊢
  generalize gvY (bdOf M f) n k = y at HBy HW ⊢
  generalize bdOf M f = x at HG HBy
  go_enter Tryd.func39, Tryd.ntmps39
  go_upto_region 4 with (first
    | (go_at_call 15; refine (HG.out _ H0.out.mx).mono ?_; rintro e1 w1 ⟨rfl, hb⟩; have H1 := GtI.more HM.out (H0.out.on hb) x; clear hb HG H0)
    | fail)
  generalize w1.alloc _ = w2 at H1 ⊢
  generalize w1.heap.size = B at H1 ⊢
  have H2 := rhide H1
  clear H1
  go_upto_region 5 with (first
    | (go_at_call 62; refine (HBy.out _ _ H2.out.ne H2.out.box H2.out.below).mono ?_; rintro e3 w3 ⟨rfl, hx, hb⟩; have H3 := rhide (H2.out.turn hx hb); clear hx hb HBy H2)
    | fail)
  go_region_held3 (fun w' => w'.cell? ⟨B, 0, none⟩ = some (.bool y.inf) ∧ w'.cell? ⟨B, 1, none⟩ = some (.int .i64 y.lf) ∧ w'.cell? ⟨B, 2, none⟩ = some (.int .i64 y.pr)) (first | with_reducible exact ch_put3 H3.out HB9.out _ _ _ | with_reducible exact ch_but H3.out HB9.out | with_reducible exact ch_but H3.out (But.of_below b (Below.refl _ _).drew))
  (first
    | (go_at_call 31; refine (HW.out _ (by first | exact (H3.out.on (Below.refl _ _).drew).mx | exact H3.out.mx)).mono ?_; rintro e9 w9 ⟨rfl, hm9, hb9⟩; have HB9 : Hid (But b w3 w9) := (by first | exact hb9 | exact (But.of_below b (Below.refl _ _).drew).trans hb9); have HT9 := rhide hm9; clear hm9 hb9; have HX : Hid (RowB w9 w.heap.size bd0) := H3.out.res.but HB9.out (Nat.ne_of_gt H3.out.m0.mem.lt.2); have x0 := HX.out.c0; have x1 := HX.out.c1; have x2 := HX.out.c2; have z0 := HX.out.fz)
    | fail)
  go_wp2
  refine bodyPost_ret (v := .tuple #[.agg #[.bool y.inf, .int .i64 y.lf, .int .i64 y.pr], .int .i64 0]) (by simp [results, Tryd.results39, go_sem, x0, x1, x2]) rfl ⟨rfl, ?_⟩
  exact ch_end HM.out HT9.out ((But.of_below b H3.out.below).trans HB9.out) _ _ _
end Go.Proofs.YtlnckhebikiclaaDoor.Ptcap
