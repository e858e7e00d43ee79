/- The parts of package tcap that touch no memory: wordsOf, budgetOf, spent, refusal, Check; the closures of less and more. -/
import Derived.Test.YtiapfapmgjngpaaGreatDoorTcpF
import Derived.Test.YtiapfapmgjngpaaGreatDoorBunLay
import Derived.Deep.RegionHeld3
import Derived.BigRegion
namespace Go.Proofs.YtiapfapmgjngpaaGreatDoor.Ptcap
open Go.Proofs.YtiapfapmgjngpaaGreatDoor.Pbase Go.Proofs.YtiapfapmgjngpaaGreatDoor.Pfield Go.Proofs.YtiapfapmgjngpaaGreatDoor.Play Go.Proofs.YtiapfapmgjngpaaGreatDoor.Pmem
open Go.RowKit
set_option linter.unusedVariables false

/-! ### a budget's words -/
/-- Are these words a budget's? -/
def wB (a b c : Int) : Bool := decide (a ≤ 1) && boB ⟨decide (a = 1), b, c⟩
def wX (a b c : Int) : Bd := if wB a b c = true then ⟨decide (a = 1), b, c⟩ else bd0
theorem wX_no {a b c : Int} (h : wB a b c = false) : wX a b c = bd0 := by unfold wX; rw [h]; rfl
theorem wX_yes {a b c : Int} (h : wB a b c = true) : wX a b c = ⟨decide (a = 1), b, c⟩ := by unfold wX; rw [if_pos h]
theorem wB_w {c : Bd} (h : Fb c) : wB (bz c.inf) (asW c.lf) (asW c.pr) = boB c := by
  obtain ⟨h1, h2⟩ := h
  have e : decide (bz c.inf ≤ 1) = true := by have := bz_bd c.inf; simp; omega
  have e1 : decide (bz c.inf = 1) = c.inf := by cases c.inf <;> rfl
  unfold wB
  rw [e, e1, Bool.true_and]
  have key : Bo ⟨c.inf, asW c.lf, asW c.pr⟩ ↔ Bo c := by
    unfold Bo
    dsimp only
    constructor
    · rintro ⟨q1, q2, q3⟩
      have e2 := asW_low h1 (by omega) q1.2
      have e3 := asW_low h2 (by omega) q2.2
      rw [e2.1] at q1 q3
      rw [e3.1] at q2
      exact ⟨q1, q2, q3⟩
    · rintro ⟨q1, q2, q3⟩
      have e2 : asW c.lf = c.lf := by unfold asW; rw [if_pos q1.1]
      have e3 : asW c.pr = c.pr := by unfold asW; rw [if_pos q2.1]
      rw [e2, e3]
      exact ⟨q1, q2, q3⟩
  by_cases hb : Bo c
  · rw [boB_yes hb, boB_yes (key.2 hb)]
  · rw [boB_no hb, boB_no (fun h => hb (key.1 h))]
/-! ### wordsOf -/
set_option maxRecDepth 100000 in
set_option maxHeartbeats 1000000 in
theorem words_in (c : Bd) (w : World) : Calls Tryz.prog 247 #[.agg #[.bool c.inf, .int .i64 c.lf, .int .i64 c.pr]] w fun e w' => e = .returned (.agg #[.int .u64 (bz c.inf), .int .u64 (IntKind.u64.wrap c.lf), .int .u64 (IntKind.u64.wrap c.pr)]) ∧ Below w.heap.size w w' := by
  obtain ⟨i, l, p⟩ := c
  dsimp only
  cases i
  · go_enter Tryz.func247, Tryz.ntmps247
    go_wp2
    exact bodyPost_ret (v := .agg #[.int .u64 0, .int .u64 (IntKind.u64.wrap l), .int .u64 (IntKind.u64.wrap p)]) (by simp [results, Tryz.results247, go_sem]) rfl ⟨rfl, bal (bal (bal (Below.refl _ _) _) _) _⟩
  · go_enter Tryz.func247, Tryz.ntmps247
    go_wp2
    exact bodyPost_ret (v := .agg #[.int .u64 1, .int .u64 (IntKind.u64.wrap l), .int .u64 (IntKind.u64.wrap p)]) (by simp [results, Tryz.results247, go_sem]) rfl ⟨rfl, bal (bal (bal (Below.refl _ _) _) _) _⟩
theorem words_any (c : Bd) (hc : Fb c) (w : World) : Calls Tryz.prog 247 #[.agg #[.bool c.inf, .int .i64 c.lf, .int .i64 c.pr]] w fun e w' => e = .returned (.agg #[.int .u64 (bz c.inf), .int .u64 (asW c.lf), .int .u64 (asW c.pr)]) ∧ Below w.heap.size w w' := by
  have := words_in c w
  rwa [asW_eq hc.1, asW_eq hc.2] at this
theorem words_bo (c : Bd) (hc : Bo c) (w : World) : Calls Tryz.prog 247 #[.agg #[.bool c.inf, .int .i64 c.lf, .int .i64 c.pr]] w fun e w' => e = .returned (.agg #[.int .u64 (bz c.inf), .int .u64 c.lf, .int .u64 c.pr]) ∧ Below w.heap.size w w' := by
  have := words_any c hc.fb w
  unfold Bo at hc
  rwa [show asW c.lf = c.lf by unfold asW; rw [if_pos hc.1.1], show asW c.pr = c.pr by unfold asW; rw [if_pos hc.2.1.1]] at this
/-! ### budgetOf -/
theorem wB_one {b c : Int} : wB 1 b c = boB ⟨true, b, c⟩ := rfl
theorem wB_nil {b c : Int} : wB 0 b c = boB ⟨false, b, c⟩ := rfl
theorem wB_more {a b c : Int} (h : ¬ a ≤ 1) : wB a b c = false := by
  unfold wB
  rw [decide_eq_false h]
  rfl
set_option maxRecDepth 100000 in
set_option maxHeartbeats 1000000 in
theorem budget_any (a b c : Int) (ha : 0 ≤ a) (hb : 0 ≤ b) (hc : 0 ≤ c) (w : World) : Calls Tryz.prog 246 #[.agg #[.int .u64 a, .int .u64 b, .int .u64 c]] w fun e w' => e = .returned (.tuple #[.agg #[.bool (wX a b c).inf, .int .i64 (wX a b c).lf, .int .i64 (wX a b c).pr], .bool (wB a b c)]) ∧ Below w.heap.size w w' := by
  by_cases h1 : a ≤ 1
  case neg =>
    have e := wB_more (b := b) (c := c) h1
    have g1 : (a == 1) = false := by simp; omega
    have g0 : (a == 0) = false := by simp; omega
    rw [wX_no e, e]
    clear e h1
    go_enter Tryz.func246, Tryz.ntmps246
    go_wp2
    exact bodyPost_ret (v := .tuple #[.agg #[.bool false, .int .i64 0, .int .i64 0], .bool false]) (by simp [results, Tryz.results246, go_sem]) rfl ⟨rfl, bal (bal (Below.refl _ _) _) _⟩
  rcases (show a = 0 ∨ a = 1 by omega) with rfl | rfl
  · by_cases hr : Bo ⟨false, b, c⟩
    · have e : wB 0 b c = true := boB_yes hr
      rw [wX_yes e, e]
      unfold Bo at hr
      dsimp only at hr ⊢
      have g1 : ¬ 1048576 < b := by omega
      have g2 : ¬ 255 < c := by omega
      have u1 : IntKind.i64.wrap b = b := wrapi_small hb (by omega)
      have u2 : IntKind.i64.wrap c = c := wrapi_small hc (by omega)
      clear e hr h1 ha hb hc
      go_enter Tryz.func246, Tryz.ntmps246
      go_wp2
      exact bodyPost_ret (v := .tuple #[.agg #[.bool false, .int .i64 b, .int .i64 c], .bool true]) (by simp [results, Tryz.results246, go_sem]) rfl ⟨rfl, bal (bal (Below.refl _ _) _) _⟩
    · have e : wB 0 b c = false := boB_no hr
      rw [wX_no e, e]
      have g : 1048576 < b ∨ (¬ 1048576 < b ∧ 255 < c) := by
        unfold Bo at hr
        dsimp only at hr
        simp at hr
        omega
      clear e hr h1 ha hb hc
      rcases g with g1 | ⟨g1, g2⟩
      all_goals
        go_enter Tryz.func246, Tryz.ntmps246
        go_wp2
        exact bodyPost_ret (v := .tuple #[.agg #[.bool false, .int .i64 0, .int .i64 0], .bool false]) (by simp [results, Tryz.results246, go_sem]) rfl ⟨rfl, bal (bal (Below.refl _ _) _) _⟩
  · by_cases hr : Bo ⟨true, b, c⟩
    · have e : wB 1 b c = true := boB_yes hr
      rw [wX_yes e, e]
      unfold Bo at hr
      dsimp only at hr ⊢
      simp at hr
      have g1 : ¬ 0 < b := by omega
      have g2 : ¬ 255 < c := by omega
      have u1 : IntKind.i64.wrap b = b := wrapi_small hb (by omega)
      have u2 : IntKind.i64.wrap c = c := wrapi_small hc (by omega)
      clear e hr h1 ha hb hc
      go_enter Tryz.func246, Tryz.ntmps246
      go_wp2
      exact bodyPost_ret (v := .tuple #[.agg #[.bool true, .int .i64 b, .int .i64 c], .bool true]) (by simp [results, Tryz.results246, go_sem]) rfl ⟨rfl, bal (bal (Below.refl _ _) _) _⟩
    · have e : wB 1 b c = false := boB_no hr
      rw [wX_no e, e]
      have g : 0 < b ∨ (¬ 0 < b ∧ 255 < c) := by
        unfold Bo at hr
        dsimp only at hr
        simp at hr
        omega
      clear e hr h1 ha hb hc
      rcases g with g1 | ⟨g1, g2⟩
      all_goals
        go_enter Tryz.func246, Tryz.ntmps246
        go_wp2
        exact bodyPost_ret (v := .tuple #[.agg #[.bool false, .int .i64 0, .int .i64 0], .bool false]) (by simp [results, Tryz.results246, go_sem]) rfl ⟨rfl, bal (bal (Below.refl _ _) _) _⟩
/-! ### Check -/
set_option maxRecDepth 100000 in
set_option maxHeartbeats 1000000 in
theorem check_any (c : Bd) (hc : Fb c) (w : World) : Calls Tryz.prog 171 #[.agg #[.bool c.inf, .int .i64 c.lf, .int .i64 c.pr]] w fun e w' => e = .returned (.int .i64 (ckE c)) ∧ Below w.heap.size w w' := by
  have HO : Hid (∀ wc, Calls Tryz.prog 247 #[.agg #[.bool c.inf, .int .i64 c.lf, .int .i64 c.pr]] wc fun e w' => e = .returned (.agg #[.int .u64 (bz c.inf), .int .u64 (asW c.lf), .int .u64 (asW c.pr)]) ∧ Below wc.heap.size wc w') := fun wc => words_any c hc wc
  have HT : Hid (∀ wc, Calls Tryz.prog 246 #[.agg #[.int .u64 (bz c.inf), .int .u64 (asW c.lf), .int .u64 (asW c.pr)]] wc fun e w' => e = .returned (.tuple #[.agg #[.bool (wX (bz c.inf) (asW c.lf) (asW c.pr)).inf, .int .i64 (wX (bz c.inf) (asW c.lf) (asW c.pr)).lf, .int .i64 (wX (bz c.inf) (asW c.lf) (asW c.pr)).pr], .bool (boB c)]) ∧ Below wc.heap.size wc w') := fun wc => by
    have := budget_any (bz c.inf) (asW c.lf) (asW c.pr) (bz_bd c.inf).1 (asW_fit hc.1).1 (asW_fit hc.2).1 wc
    rwa [wB_w hc] at this
  clear hc
  generalize wX (bz c.inf) (asW c.lf) (asW c.pr) = y at HT
  generalize bz c.inf = i at HO HT
  generalize asW c.lf = l at HO HT
  generalize asW c.pr = p at HO HT
  have e : ckE c = if boB c = true then 0 else 1 := rfl
  rw [e]
  generalize boB c = R at HT
  have Hw : Hid (Below w.heap.size w (w.alloc (.cells #[.bool c.inf, .int .i64 c.lf, .int .i64 c.pr] 140))) := bal (Below.refl _ _) _
  cases R
  all_goals
    go_enter Tryz.func171, Tryz.ntmps171
    go_wp2_with (first
      | (go_at_call 247; refine (HO.out _).mono ?_; rintro e1 w1 ⟨rfl, hb⟩; have H1 : Hid (Below w.heap.size w w1) := Hw.out.trans (hb.mono Hw.out.size); clear hb HO Hw)
      | (go_at_call 246; refine (HT.out _).mono ?_; rintro e2 w2 ⟨rfl, hb⟩; have H2 : Hid (Below w.heap.size w w2) := H1.out.trans (hb.mono H1.out.size); clear hb HT H1)
      | fail)
    go_ret
    exact ⟨rfl, bal H2.out _⟩
/-! ### spent -/
/-! ### refusal -/
/-! ### the closures -/
theorem but_set {b : Nat} (w : World) (j : Nat) (v : Value) : But b w (w.setCell ⟨b, j, none⟩ v) := by
  have h := (Below.refl b w).setCell (p := ⟨b, j, none⟩) (Nat.le_refl _) v
  exact ⟨h.os, h.tape, h.output, h.size, fun i _ hn => heap_setCell_other _ _ _ _ hn⟩
theorem RowB.set1 {w : World} {B : Nat} {x : Bd} (h : RowB w B x) (v : Int) : RowB (w.setCell ⟨B, 1, none⟩ (.int .i64 v)) B ⟨x.inf, v, x.pr⟩ := by
  refine ⟨?_⟩
  rw [heap_setCell_same _ _ _ _ _ _ h.row]
  simp
theorem RowB.set2 {w : World} {B : Nat} {x : Bd} (h : RowB w B x) (v : Int) : RowB (w.setCell ⟨B, 2, none⟩ (.int .i64 v)) B ⟨x.inf, x.lf, v⟩ := by
  refine ⟨?_⟩
  rw [heap_setCell_same _ _ _ _ _ _ h.row]
  simp
theorem RowB.drew {w : World} {B : Nat} {x : Bd} (h : RowB w B x) : RowB w.drew B x := ⟨h.row⟩
end Go.Proofs.YtiapfapmgjngpaaGreatDoor.Ptcap
