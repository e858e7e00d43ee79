import Derived.Test.YtkkclcihjojphaaGreatDoorPkF
set_option linter.unusedVariables false
set_option linter.unusedSimpArgs false
set_option maxRecDepth 100000
set_option maxHeartbeats 20000000
namespace Go.Proofs.YtkkclcihjojphaaGreatDoor
namespace Ptcap
open Pbase Play Pmem Go.RowKit
structure Bd where
 inf : Bool
 lf : Int
 pr : Int
def bd0 : Bd := ⟨false, 0, 0⟩
def bz (b : Bool) : Int := if b = true then 1 else 0
def Bd.ws (x : Bd) : List Int := [bz x.inf, x.lf, x.pr]
def Bo (x : Bd) : Prop := (0 <= x.lf /\ x.lf <= 1048576) /\ (0 <= x.pr /\ x.pr <= 255) /\ (x.inf = true -> x.lf = 0)
def boB (x : Bd) : Bool := (decide (0 <= x.lf) && decide (x.lf <= 1048576)) && (decide (0 <= x.pr) && decide (x.pr <= 255)) && (!x.inf || decide (x.lf = 0))
theorem boB_iff (x : Bd) : boB x = true ↔ Bo x := by
 unfold boB Bo
 cases x.inf <;> simp <;> omega
theorem boB_yes {x : Bd} (h : Bo x) : boB x = true := (boB_iff x).2 h
theorem boB_no {x : Bd} (h : ¬ Bo x) : boB x = false := Bool.eq_false_iff.2 fun e => h ((boB_iff x).1 e)
theorem bz_bd (b : Bool) : 0 <= bz b /\ bz b <= 1 := by cases b <;> decide
theorem Bo.fit {x : Bd} (h : Bo x) : ∀ v ∈ x.ws, 0 <= v /\ v <= 18446744073709551615 := by
 unfold Bo at h
 have := bz_bd x.inf
 intro v hv
 simp only [Bd.ws, List.mem_cons, List.not_mem_nil, or_false] at hv
 rcases hv with rfl | rfl | rfl <;> omega
theorem ws_fit {x : Bd} (h : Bo x) : ∀ v ∈ x.ws, 0 <= v /\ v <= 9223372036854775807 := by
 unfold Bo at h
 have := bz_bd x.inf
 intro v hv
 simp only [Bd.ws, List.mem_cons, List.not_mem_nil, or_false] at hv
 rcases hv with rfl | rfl | rfl <;> omega
theorem ws_len (x : Bd) : x.ws.length = 3 := rfl
def Fb (x : Bd) : Prop := In64 x.lf /\ In64 x.pr
theorem Bo.fb {x : Bd} (h : Bo x) : Fb x := by
 unfold Bo at h
 unfold Fb In64
 omega
def ckE (x : Bd) : Int := if boB x = true then 0 else 1
def mkE (N : Nat) (f : Int) (x : Bd) : Int := if boB x = true then errF N f else 1
def mkM (N : Nat) (M : Nat -> Nat -> Int) (f : Int) (x : Bd) : Nat -> Nat -> Int := if boB x = true then layF N (Phead.mkM N M f 5 0 false 0) f x.ws else M
structure RowB (w : World) (B : Nat) (x : Bd) : Prop where
 row : w.heap[B]? = some (.cells #[.bool x.inf, .int .i64 x.lf, .int .i64 x.pr] 175 (0, 0))
section
variable {w w' : World} {B : Nat} {x : Bd}
theorem RowB.lt (h : RowB w B x) : B < w.heap.size := (Array.getElem?_eq_some_iff.1 h.row).1
theorem RowB.c0 (h : RowB w B x) : w.cell? ⟨B, 0, none⟩ = some (.bool x.inf) := (cell_of_row _ _ _ _ _ _ h.row).trans rfl
theorem RowB.c1 (h : RowB w B x) : w.cell? ⟨B, 1, none⟩ = some (.int .i64 x.lf) := (cell_of_row _ _ _ _ _ _ h.row).trans rfl
theorem RowB.c2 (h : RowB w B x) : w.cell? ⟨B, 2, none⟩ = some (.int .i64 x.pr) := (cell_of_row _ _ _ _ _ _ h.row).trans rfl
theorem RowB.on (h : RowB w B x) (hB : Below w.heap.size w w') : RowB w' B x := ⟨(hB.block B h.lt).trans h.row⟩
theorem RowB.but {b : Nat} (h : RowB w B x) (hB : But b w w') (hn : B ≠ b) : RowB w' B x := ⟨(hB.block B h.lt hn).trans h.row⟩
theorem rowB_new (w : World) (x : Bd) : RowB (w.alloc (.cells #[.bool x.inf, .int .i64 x.lf, .int .i64 x.pr] 175)) w.heap.size x := ⟨heap_alloc_new w _⟩
end
end Ptcap
namespace Ptcap
open Pbase Pfield Play Pmem Go.RowKit
def wB (a b c : Int) : Bool := decide (a <= 1) && boB ⟨decide (a = 1), b, c⟩
def wX (a b c : Int) : Bd := if wB a b c = true then ⟨decide (a = 1), b, c⟩ else bd0
theorem wX_no {a b c : Int} (h : wB a b c = false) : wX a b c = bd0 := by unfold wX; rw [h]; rfl
theorem wX_yes {a b c : Int} (h : wB a b c = true) : wX a b c = ⟨decide (a = 1), b, c⟩ := by unfold wX; rw [if_pos h]
theorem wB_w {c : Bd} (h : Fb c) : wB (bz c.inf) (asW c.lf) (asW c.pr) = boB c := by
 obtain ⟨h1, h2⟩ := h
 have e : decide (bz c.inf <= 1) = true := by have := bz_bd c.inf; simp; omega
 have e1 : decide (bz c.inf = 1) = c.inf := by cases c.inf <;> rfl
 unfold wB
 rw [e, e1, Bool.true_and]
 have key : Bo ⟨c.inf, asW c.lf, asW c.pr⟩ ↔ Bo c := by
  unfold Bo
  dsimp only
  constructor
  · rintro ⟨q1, q2, q3⟩
    have e2 := asW_low h1 (by omega) q1.2
    have e3 := asW_low h2 (by omega) q2.2
    rw [e2.1] at q1 q3
    rw [e3.1] at q2
    exact ⟨q1, q2, q3⟩
  · rintro ⟨q1, q2, q3⟩
    have e2 : asW c.lf = c.lf := by unfold asW; rw [if_pos q1.1]
    have e3 : asW c.pr = c.pr := by unfold asW; rw [if_pos q2.1]
    rw [e2, e3]
    exact ⟨q1, q2, q3⟩
 by_cases hb : Bo c
 · rw [boB_yes hb, boB_yes (key.2 hb)]
 · rw [boB_no hb, boB_no (fun h => hb (key.1 h))]
theorem words_in (c : Bd) (w : World) : Calls Tryz.prog 243 #[.agg #[.bool c.inf, .int .i64 c.lf, .int .i64 c.pr]] w fun e w' => e = .returned (.agg #[.int .u64 (bz c.inf), .int .u64 (IntKind.u64.wrap c.lf), .int .u64 (IntKind.u64.wrap c.pr)]) /\ Below w.heap.size w w' := by
 obtain ⟨i, l, p⟩ := c
 dsimp only
 cases i
 · go_enter Tryz.func243, Tryz.ntmps243
   go_wp2
   exact bodyPost_ret (v := .agg #[.int .u64 0, .int .u64 (IntKind.u64.wrap l), .int .u64 (IntKind.u64.wrap p)]) (by simp [results, Tryz.results243, go_sem]) rfl ⟨rfl, bal (bal (bal (Below.refl _ _) _) _) _⟩
 · go_enter Tryz.func243, Tryz.ntmps243
   go_wp2
   exact bodyPost_ret (v := .agg #[.int .u64 1, .int .u64 (IntKind.u64.wrap l), .int .u64 (IntKind.u64.wrap p)]) (by simp [results, Tryz.results243, go_sem]) rfl ⟨rfl, bal (bal (bal (Below.refl _ _) _) _) _⟩
theorem words_any (c : Bd) (hc : Fb c) (w : World) : Calls Tryz.prog 243 #[.agg #[.bool c.inf, .int .i64 c.lf, .int .i64 c.pr]] w fun e w' => e = .returned (.agg #[.int .u64 (bz c.inf), .int .u64 (asW c.lf), .int .u64 (asW c.pr)]) /\ Below w.heap.size w w' := by
 have := words_in c w
 rwa [asW_eq hc.1, asW_eq hc.2] at this
theorem words_bo (c : Bd) (hc : Bo c) (w : World) : Calls Tryz.prog 243 #[.agg #[.bool c.inf, .int .i64 c.lf, .int .i64 c.pr]] w fun e w' => e = .returned (.agg #[.int .u64 (bz c.inf), .int .u64 c.lf, .int .u64 c.pr]) /\ Below w.heap.size w w' := by
 have := words_any c hc.fb w
 unfold Bo at hc
 rwa [show asW c.lf = c.lf by unfold asW; rw [if_pos hc.1.1], show asW c.pr = c.pr by unfold asW; rw [if_pos hc.2.1.1]] at this
theorem wB_more {a b c : Int} (h : ¬ a <= 1) : wB a b c = false := by
 unfold wB
 rw [decide_eq_false h]
 rfl
theorem budget_any (a b c : Int) (ha : 0 <= a) (hb : 0 <= b) (hc : 0 <= c) (w : World) : Calls Tryz.prog 242 #[.agg #[.int .u64 a, .int .u64 b, .int .u64 c]] w fun e w' => e = .returned (.tuple #[.agg #[.bool (wX a b c).inf, .int .i64 (wX a b c).lf, .int .i64 (wX a b c).pr], .bool (wB a b c)]) /\ Below w.heap.size w w' := by
 by_cases h1 : a <= 1
 case neg =>
  have e := wB_more (b := b) (c := c) h1
  have g1 : (a == 1) = false := by simp; omega
  have g0 : (a == 0) = false := by simp; omega
  rw [wX_no e, e]
  clear e h1
  go_enter Tryz.func242, Tryz.ntmps242
  go_wp2
  exact bodyPost_ret (v := .tuple #[.agg #[.bool false, .int .i64 0, .int .i64 0], .bool false]) (by simp [results, Tryz.results242, go_sem]) rfl ⟨rfl, bal (bal (Below.refl _ _) _) _⟩
 rcases (show a = 0 \/ a = 1 by omega) with rfl | rfl
 · by_cases hr : Bo ⟨false, b, c⟩
   · have e : wB 0 b c = true := boB_yes hr
     rw [wX_yes e, e]
     unfold Bo at hr
     dsimp only at hr ⊢
     have g1 : ¬ 1048576 < b := by omega
     have g2 : ¬ 255 < c := by omega
     have u1 : IntKind.i64.wrap b = b := wrapi_small hb (by omega)
     have u2 : IntKind.i64.wrap c = c := wrapi_small hc (by omega)
     clear e hr h1 ha hb hc
     go_enter Tryz.func242, Tryz.ntmps242
     go_wp2
     exact bodyPost_ret (v := .tuple #[.agg #[.bool false, .int .i64 b, .int .i64 c], .bool true]) (by simp [results, Tryz.results242, go_sem]) rfl ⟨rfl, bal (bal (Below.refl _ _) _) _⟩
   · have e : wB 0 b c = false := boB_no hr
     rw [wX_no e, e]
     have g : 1048576 < b \/ (¬ 1048576 < b /\ 255 < c) := by
      unfold Bo at hr
      dsimp only at hr
      simp at hr
      omega
     clear e hr h1 ha hb hc
     rcases g with g1 | ⟨g1, g2⟩
     all_goals
      go_enter Tryz.func242, Tryz.ntmps242
      go_wp2
      exact bodyPost_ret (v := .tuple #[.agg #[.bool false, .int .i64 0, .int .i64 0], .bool false]) (by simp [results, Tryz.results242, go_sem]) rfl ⟨rfl, bal (bal (Below.refl _ _) _) _⟩
 · by_cases hr : Bo ⟨true, b, c⟩
   · have e : wB 1 b c = true := boB_yes hr
     rw [wX_yes e, e]
     unfold Bo at hr
     dsimp only at hr ⊢
     simp at hr
     have g1 : ¬ 0 < b := by omega
     have g2 : ¬ 255 < c := by omega
     have u1 : IntKind.i64.wrap b = b := wrapi_small hb (by omega)
     have u2 : IntKind.i64.wrap c = c := wrapi_small hc (by omega)
     clear e hr h1 ha hb hc
     go_enter Tryz.func242, Tryz.ntmps242
     go_wp2
     exact bodyPost_ret (v := .tuple #[.agg #[.bool true, .int .i64 b, .int .i64 c], .bool true]) (by simp [results, Tryz.results242, go_sem]) rfl ⟨rfl, bal (bal (Below.refl _ _) _) _⟩
   · have e : wB 1 b c = false := boB_no hr
     rw [wX_no e, e]
     have g : 0 < b \/ (¬ 0 < b /\ 255 < c) := by
      unfold Bo at hr
      dsimp only at hr
      simp at hr
      omega
     clear e hr h1 ha hb hc
     rcases g with g1 | ⟨g1, g2⟩
     all_goals
      go_enter Tryz.func242, Tryz.ntmps242
      go_wp2
      exact bodyPost_ret (v := .tuple #[.agg #[.bool false, .int .i64 0, .int .i64 0], .bool false]) (by simp [results, Tryz.results242, go_sem]) rfl ⟨rfl, bal (bal (Below.refl _ _) _) _⟩
theorem check_any (c : Bd) (hc : Fb c) (w : World) : Calls Tryz.prog 191 #[.agg #[.bool c.inf, .int .i64 c.lf, .int .i64 c.pr]] w fun e w' => e = .returned (.int .i64 (ckE c)) /\ Below w.heap.size w w' := by
 have HO : Hid (∀ wc, Calls Tryz.prog 243 #[.agg #[.bool c.inf, .int .i64 c.lf, .int .i64 c.pr]] wc fun e w' => e = .returned (.agg #[.int .u64 (bz c.inf), .int .u64 (asW c.lf), .int .u64 (asW c.pr)]) /\ Below wc.heap.size wc w') := fun wc => words_any c hc wc
 have HT : Hid (∀ wc, Calls Tryz.prog 242 #[.agg #[.int .u64 (bz c.inf), .int .u64 (asW c.lf), .int .u64 (asW c.pr)]] wc fun e w' => e = .returned (.tuple #[.agg #[.bool (wX (bz c.inf) (asW c.lf) (asW c.pr)).inf, .int .i64 (wX (bz c.inf) (asW c.lf) (asW c.pr)).lf, .int .i64 (wX (bz c.inf) (asW c.lf) (asW c.pr)).pr], .bool (boB c)]) /\ Below wc.heap.size wc w') := fun wc => by
  have := budget_any (bz c.inf) (asW c.lf) (asW c.pr) (bz_bd c.inf).1 (asW_fit hc.1).1 (asW_fit hc.2).1 wc
  rwa [wB_w hc] at this
 clear hc
 generalize wX (bz c.inf) (asW c.lf) (asW c.pr) = y at HT
 generalize bz c.inf = i at HO HT
 generalize asW c.lf = l at HO HT
 generalize asW c.pr = p at HO HT
 have e : ckE c = if boB c = true then 0 else 1 := rfl
 rw [e]
 generalize boB c = R at HT
 have Hw : Hid (Below w.heap.size w (w.alloc (.cells #[.bool c.inf, .int .i64 c.lf, .int .i64 c.pr] 175))) := bal (Below.refl _ _) _
 cases R
 all_goals
  go_enter Tryz.func191, Tryz.ntmps191
  go_wp2_with (first
   | (go_at_call 243; refine (HO.out _).mono ?_; rintro e1 w1 ⟨rfl, hb⟩; have H1 : Hid (Below w.heap.size w w1) := Hw.out.trans (hb.mono Hw.out.size); clear hb HO Hw)
   | (go_at_call 242; refine (HT.out _).mono ?_; rintro e2 w2 ⟨rfl, hb⟩; have H2 : Hid (Below w.heap.size w w2) := H1.out.trans (hb.mono H1.out.size); clear hb HT H1)
   | fail)
  go_ret
  exact ⟨rfl, bal H2.out _⟩
end Ptcap
namespace Ptcap
open Pbase Pfield Play Pmem Go.RowKit M
structure Mx (w : World) (p b N : Nat) (M : Nat -> Nat -> Int) : Prop where
 mem : MemIs w p b N M
 tb : Phead.TabW w
 fit : Fit M
 n1 : 1 <= N
 n64 : N <= 64
theorem Mx.on {w w' : World} {p b N : Nat} {M : Nat -> Nat -> Int} (h : Mx w p b N M) (hB : Below w.heap.size w w') : Mx w' p b N M :=
 ⟨h.mem.grown hB, h.tb.on hB, h.fit, h.n1, h.n64⟩
theorem Mx.but {w w' : World} {p b N : Nat} {M M' : Nat -> Nat -> Int} (h : Mx w p b N M) (hM : MemIs w' p b N M') (hF : Fit M') (hB : But b w w') : Mx w' p b N M' :=
 ⟨hM, h.tb.but hB (Phead.tab_ne h.mem h.tb), hF, h.n1, h.n64⟩
theorem wix0 (x y z : Int) : ∀ w : World, (Instr.index 368 (.agg #[.int .u64 x, .int .u64 y, .int .u64 z]) (.int .i64 0)).run Tryz.prog w = .ok (.int .u64 x) w := fun _ => by kernel_rfl
theorem wix1 (x y z : Int) : ∀ w : World, (Instr.index 368 (.agg #[.int .u64 x, .int .u64 y, .int .u64 z]) (.int .i64 1)).run Tryz.prog w = .ok (.int .u64 y) w := fun _ => by kernel_rfl
theorem wix2 (x y z : Int) : ∀ w : World, (Instr.index 368 (.agg #[.int .u64 x, .int .u64 y, .int .u64 z]) (.int .i64 2)).run Tryz.prog w = .ok (.int .u64 z) w := fun _ => by kernel_rfl
structure WrI (w W : World) (p b N : Nat) (M : Nat -> Nat -> Int) : Prop where
 mem : MemIs W p b N M
 but : But b w W
theorem WrI.turn {w W : World} {p b N : Nat} {M M' : Nat -> Nat -> Int} (h : WrI w W p b N M) (he : M' = M') : WrI w (W.setRow b (cellsM N M')) p b N M' := ⟨h.mem.set M', h.but.setRow _⟩
def laK (N : Nat) (M : Nat -> Nat -> Int) (f : Int) (c : Bd) (k : Nat) : Nat -> Nat -> Int := layF N M f (c.ws.take k)
theorem laK0 (N : Nat) (M : Nat -> Nat -> Int) (f : Int) (c : Bd) : stW N (laK N M f c 0) f 4 (bz c.inf) = laK N M f c 1 := lay_step (l := c.ws.take 0) (by show 0 < 32; omega) (bz c.inf)
theorem laK1 (N : Nat) (M : Nat -> Nat -> Int) (f : Int) (c : Bd) : stW N (laK N M f c 1) f 5 c.lf = laK N M f c 2 := lay_step (l := c.ws.take 1) (by show 1 < 32; omega) c.lf
theorem laK2 (N : Nat) (M : Nat -> Nat -> Int) (f : Int) (c : Bd) : stW N (laK N M f c 2) f 6 c.pr = laK N M f c 3 := lay_step (l := c.ws.take 2) (by show 2 < 32; omega) c.pr
theorem write_any (p b N : Nat) (f : Int) (c : Bd) (M : Nat -> Nat -> Int) (w : World) (hM : Mx w p b N M) (hc : Bo c) (hf : okF N f = true) :
 Calls Tryz.prog 192 #[.pointer (some ⟨p, 0, none⟩), .int .i64 f, .agg #[.bool c.inf, .int .i64 c.lf, .int .i64 c.pr]] w fun e w' => e = .returned (.int .i64 0) /\ Mx w' p b N (layF N M f c.ws) /\ But b w w' := by
 have HO : Hid (∀ wc, Calls Tryz.prog 243 #[.agg #[.bool c.inf, .int .i64 c.lf, .int .i64 c.pr]] wc fun e w' => e = .returned (.agg #[.int .u64 (bz c.inf), .int .u64 c.lf, .int .u64 c.pr]) /\ Below wc.heap.size wc w') := fun wc => words_bo c hc wc
 have hS : ∀ (k : Nat) (v : Int) (M1 : Nat -> Nat -> Int), k < 3 -> ∀ wc, WrI w wc p b N M1 -> Calls Tryz.prog 57 #[.pointer (some ⟨p, 0, none⟩), .int .i64 f, .int .i64 ((4 + k : Nat) : Int), .int .u64 v] wc fun e w' => e = .returned (.int .i64 0) /\ WrI w w' p b N (stW N M1 f ((4 + k : Nat) : Int) v) := fun k v M1 hk wc h => by
  have := store_any p b N f ((4 + k : Nat) : Int) v M1 wc hM.n1 hM.n64 h.mem
  have ho : okW N f ((4 + k : Nat) : Int) = true := by unfold okW; rw [hf]; simp; omega
  rw [show errW N f ((4 + k : Nat) : Int) = 0 by unfold errW; rw [ho]; rfl] at this
  exact this.mono fun e w' ⟨h1, h2⟩ => ⟨h1, by rw [h2]; exact h.turn rfl⟩
 have HS0 : Hid (∀ wc, WrI w wc p b N (laK N M f c 0) -> Calls Tryz.prog 57 #[.pointer (some ⟨p, 0, none⟩), .int .i64 f, .int .i64 4, .int .u64 (bz c.inf)] wc fun e w' => e = .returned (.int .i64 0) /\ WrI w w' p b N (laK N M f c 1)) := fun wc h => by
  have := hS 0 (bz c.inf) _ (by omega) wc h
  rwa [show ((4 + 0 : Nat) : Int) = 4 from rfl, laK0] at this
 have i0 := wix0 (bz c.inf) c.lf c.pr
 have HS1 : Hid (∀ wc, WrI w wc p b N (laK N M f c 1) -> Calls Tryz.prog 57 #[.pointer (some ⟨p, 0, none⟩), .int .i64 f, .int .i64 5, .int .u64 c.lf] wc fun e w' => e = .returned (.int .i64 0) /\ WrI w w' p b N (laK N M f c 2)) := fun wc h => by
  have := hS 1 c.lf _ (by omega) wc h
  rwa [show ((4 + 1 : Nat) : Int) = 5 from rfl, laK1] at this
 have i1 := wix1 (bz c.inf) c.lf c.pr
 have HS2 : Hid (∀ wc, WrI w wc p b N (laK N M f c 2) -> Calls Tryz.prog 57 #[.pointer (some ⟨p, 0, none⟩), .int .i64 f, .int .i64 6, .int .u64 c.pr] wc fun e w' => e = .returned (.int .i64 0) /\ WrI w w' p b N (laK N M f c 3)) := fun wc h => by
  have := hS 2 c.pr _ (by omega) wc h
  rwa [show ((4 + 2 : Nat) : Int) = 6 from rfl, laK2] at this
 have i2 := wix2 (bz c.inf) c.lf c.pr
 have Hw : Hid (WrI w (w.alloc (.cells #[.bool c.inf, .int .i64 c.lf, .int .i64 c.pr] 175)) p b N (laK N M f c 0)) := by
  have e : laK N M f c 0 = M := lay_nil N M f
  rw [e]
  exact ⟨hM.mem.grown (bal (Below.refl _ _) _), But.of_below b (bal (Below.refl _ _) _)⟩
 have HE : Hid (∀ W, WrI w W p b N (laK N M f c 3) -> Mx W p b N (layF N M f c.ws) /\ But b w W) := fun W h => ⟨hM.but h.mem (fit_lay hM.fit N f hc.fit) h.but, h.but⟩
 clear hS hM hf hc
 generalize layF N M f c.ws = M5 at HE ⊢
 generalize laK N M f c = K at *
 generalize bz c.inf = I at *
 go_enter Tryz.func192, Tryz.ntmps192
 go_wp2_with (first
  | (go_at_call 243; refine (HO.out _).mono ?_; rintro e1 w1 ⟨rfl, hb⟩; have H1 : Hid (WrI w w1 p b N (K 0)) := ⟨Hw.out.mem.grown hb, Hw.out.but.trans (But.of_below b hb)⟩; clear hb HO Hw)
  | fail)
 go_loopw [12] (fun i wr => ∃ k : Nat, k <= 3 /\ i = .int .i64 k /\ WrI w wr p b N (K k)) (fun i _ => 3 - (intOf i).toNat)
 case atStart => exact ⟨0, by omega, rfl, H1.out⟩
 case round =>
  obtain ⟨k, hk, rfl, hI⟩ := hrel
  have HI := rhide hI
  clear hI H1
  rcases (show k = 0 \/ k = 1 \/ k = 2 \/ k = 3 by omega) with rfl | rfl | rfl | rfl
  · go_wp2_with (first
     | (go_at_call 57; refine (HS0.out _ HI.out).mono ?_; rintro e2 w2 ⟨rfl, hw⟩; have H2 := rhide hw; clear hw)
     | fail)
    go_roundw
    case rel => exact ⟨0 + 1, by omega, rfl, H2.out⟩
    case measure => simp [intOf]
  · go_wp2_with (first
     | (go_at_call 57; refine (HS1.out _ HI.out).mono ?_; rintro e2 w2 ⟨rfl, hw⟩; have H2 := rhide hw; clear hw)
     | fail)
    go_roundw
    case rel => exact ⟨1 + 1, by omega, rfl, H2.out⟩
    case measure => simp [intOf]
  · go_wp2_with (first
     | (go_at_call 57; refine (HS2.out _ HI.out).mono ?_; rintro e2 w2 ⟨rfl, hw⟩; have H2 := rhide hw; clear hw)
     | fail)
    go_roundw
    case rel => exact ⟨2 + 1, by omega, rfl, H2.out⟩
    case measure => simp [intOf]
  · go_wp2
    go_ret
    exact ⟨rfl, (HE.out _ HI.out).1, (HE.out _ HI.out).2⟩
structure Bx (w W : World) (p b N : Nat) (M : Nat -> Nat -> Int) (c : Bd) : Prop where
 mx : Mx W p b N M
 box : RowB W w.heap.size c
 but : But b w W
 lt : b < w.heap.size
theorem bx_new {w : World} {p b N : Nat} {M : Nat -> Nat -> Int} (h : Mx w p b N M) (c : Bd) : Bx w (w.alloc (.cells #[.bool c.inf, .int .i64 c.lf, .int .i64 c.pr] 175)) p b N M c :=
 ⟨h.on (bal (Below.refl _ _) _), rowB_new w c, But.of_below b (bal (Below.refl _ _) _), h.mem.lt.2⟩
theorem Bx.on {w W W' : World} {p b N : Nat} {M : Nat -> Nat -> Int} {c : Bd} (h : Bx w W p b N M c) (hB : Below W.heap.size W W') : Bx w W' p b N M c :=
 ⟨h.mx.on hB, h.box.on hB, h.but.trans (But.of_below b hB), h.lt⟩
theorem Bx.turn {w W W' : World} {p b N : Nat} {M M' : Nat -> Nat -> Int} {c : Bd} (h : Bx w W p b N M c) (hM : Mx W' p b N M') (hB : But b W W') : Bx w W' p b N M' c :=
 ⟨hM, h.box.but hB (Nat.ne_of_gt h.lt), h.but.trans hB, h.lt⟩
theorem make_any (p b N : Nat) (f : Int) (c : Bd) (M : Nat -> Nat -> Int) (w : World) (hM : Mx w p b N M) (hc : Fb c) :
 Calls Tryz.prog 120 #[.pointer (some ⟨p, 0, none⟩), .int .i64 f, .agg #[.bool c.inf, .int .i64 c.lf, .int .i64 c.pr]] w fun e w' => e = .returned (.int .i64 (mkE N f c)) /\ Mx w' p b N (mkM N M f c) /\ But b w w' := by
 have HC : Hid (∀ wc, Calls Tryz.prog 191 #[.agg #[.bool c.inf, .int .i64 c.lf, .int .i64 c.pr]] wc fun e w' => e = .returned (.int .i64 (ckE c)) /\ Below wc.heap.size wc w') := fun wc => check_any c hc wc
 have HH : Hid (∀ wc, Mx wc p b N M -> Calls Tryz.prog 177 #[.pointer (some ⟨p, 0, none⟩), .int .i64 f, .agg #[.int .i64 5, .int .i64 0, .bool false, .int .i64 0]] wc fun e w' => e = .returned (.int .i64 (errF N f)) /\ Mx w' p b N (Phead.mkM N M f 5 0 false 0) /\ But b wc w') := fun wc h => by
  have := (Phead.hmake_any p b N f 5 0 false 0 M wc h.n1 h.n64 h.mem h.tb)
  rw [made_err (by omega)] at this
  refine this.mono ?_
  rintro e w' ⟨rfl, h1, h2⟩
  exact ⟨rfl, h.but h1 (Phead.fit_mk h.fit N f 5 0 false 0) h2, h2⟩
 have H0 := rhide (bx_new hM c)
 clear hM hc
 by_cases hco : boB c = true
 · have e1 : ckE c = 0 := by unfold ckE; rw [if_pos hco]
   have e2 : mkE N f c = errF N f := by unfold mkE; rw [if_pos hco]
   have e3 : mkM N M f c = layF N (Phead.mkM N M f 5 0 false 0) f c.ws := by unfold mkM; rw [if_pos hco]
   rw [e1] at HC
   rw [e2, e3]
   clear e1 e2 e3
   generalize Phead.mkM N M f 5 0 false 0 = M1 at HH ⊢
   cases hf : okF N f
   · have e4 : errF N f = 1 := by unfold errF; rw [hf]; rfl
     rw [e4] at HH ⊢
     rw [lay_bad hf]
     clear e4 hf hco
     go_enter Tryz.func120, Tryz.ntmps120
     go_wp2_with (first
      | (go_at_call 191; refine (HC.out _).mono ?_; rintro e1 w1 ⟨rfl, hb⟩; have H1 := rhide (H0.out.on hb); clear hb HC H0; have x0 := H1.out.box.c0; have x1 := H1.out.box.c1; have x2 := H1.out.box.c2)
      | (go_at_call 177; refine (HH.out _ H1.out.mx).mono ?_; rintro e2 w2 ⟨rfl, hm, hb⟩; have H2 := rhide (H1.out.turn hm hb); clear hm hb HH H1)
      | fail)
     go_ret
     exact ⟨rfl, H2.out.mx, H2.out.but⟩
   · have e4 : errF N f = 0 := by unfold errF; rw [if_pos hf]
     rw [e4] at HH ⊢
     have HW : Hid (∀ wc, Mx wc p b N M1 -> Calls Tryz.prog 192 #[.pointer (some ⟨p, 0, none⟩), .int .i64 f, .agg #[.bool c.inf, .int .i64 c.lf, .int .i64 c.pr]] wc fun e w' => e = .returned (.int .i64 0) /\ Mx w' p b N (layF N M1 f c.ws) /\ But b wc w') := fun wc h => write_any p b N f c M1 wc h ((boB_iff c).1 hco) hf
     clear e4 hf hco
     go_enter Tryz.func120, Tryz.ntmps120
     go_wp2_with (first
      | (go_at_call 191; refine (HC.out _).mono ?_; rintro e1 w1 ⟨rfl, hb⟩; have H1 := rhide (H0.out.on hb); clear hb HC H0)
      | (go_at_call 177; refine (HH.out _ H1.out.mx).mono ?_; rintro e2 w2 ⟨rfl, hm, hb⟩; have H2 := rhide (H1.out.turn hm hb); clear hm hb HH H1; have x0 := H2.out.box.c0; have x1 := H2.out.box.c1; have x2 := H2.out.box.c2)
      | (go_at_call 192; refine (HW.out _ H2.out.mx).mono ?_; rintro e3 w3 ⟨rfl, hm, hb⟩; have H3 := rhide (H2.out.turn hm hb); clear hm hb HW H2)
      | fail)
     go_ret
     exact ⟨rfl, H3.out.mx, H3.out.but⟩
 · have e1 : ckE c = 1 := by unfold ckE; rw [if_neg hco]
   have e2 : mkE N f c = 1 := by unfold mkE; rw [if_neg hco]
   have e3 : mkM N M f c = M := by unfold mkM; rw [if_neg hco]
   rw [e1] at HC
   rw [e2, e3]
   clear e1 e2 e3 HH hco
   go_enter Tryz.func120, Tryz.ntmps120
   go_wp2_with (first
    | (go_at_call 191; refine (HC.out _).mono ?_; rintro e1 w1 ⟨rfl, hb⟩; have H1 := rhide (H0.out.on hb); clear hb HC H0)
    | fail)
   go_ret
   exact ⟨rfl, H1.out.mx, H1.out.but⟩
end Ptcap
namespace Ptcap
open Pbase Play Pmem Go.RowKit
theorem boB_in (c : Bd) : boB c = (Play.inB c.lf 0 1048576 && Play.inB c.pr 0 255 && (!c.inf || decide (c.lf = 0))) := rfl
theorem right_any (c : Bd) (w : World) : Calls Tryz.prog 193 #[.agg #[.bool c.inf, .int .i64 c.lf, .int .i64 c.pr]] w fun e w' => e = .returned (.bool (boB c)) /\ Below w.heap.size w w' := by
 have I0 : Hid (∀ wc, Calls Tryz.prog 240 #[.int .i64 c.lf, .int .i64 0, .int .i64 1048576] wc fun e w' => e = .returned (.bool (Play.inB c.lf 0 1048576)) /\ w' = wc) := fun wc => in_any c.lf 0 1048576 wc
 have I1 : Hid (∀ wc, Calls Tryz.prog 240 #[.int .i64 c.pr, .int .i64 0, .int .i64 255] wc fun e w' => e = .returned (.bool (Play.inB c.pr 0 255)) /\ w' = wc) := fun wc => in_any c.pr 0 255 wc
 rw [boB_in]
 generalize Play.inB c.lf 0 1048576 = R0 at I0 ⊢
 generalize Play.inB c.pr 0 255 = R1 at I1 ⊢
 obtain ⟨i, l, p⟩ := c
 cases R0
 · show Calls Tryz.prog 193 _ w fun e w' => e = .returned (.bool false) /\ Below w.heap.size w w'
   go_enter Tryz.func193, Tryz.ntmps193
   go_wp2_with (first
    | (go_at_call 240; refine (I0.out _).mono ?_; rintro e0 w0 ⟨rfl, hw⟩; subst hw; clear I0)
    | (go_at_call 240; refine (I1.out _).mono ?_; rintro e1 w1 ⟨rfl, hw⟩; subst hw; clear I1)
    | fail)
   go_ret
   exact ⟨rfl, bal (Below.refl _ _) _⟩
 cases R1
 · show Calls Tryz.prog 193 _ w fun e w' => e = .returned (.bool false) /\ Below w.heap.size w w'
   go_enter Tryz.func193, Tryz.ntmps193
   go_wp2_with (first
    | (go_at_call 240; refine (I0.out _).mono ?_; rintro e0 w0 ⟨rfl, hw⟩; subst hw; clear I0)
    | (go_at_call 240; refine (I1.out _).mono ?_; rintro e1 w1 ⟨rfl, hw⟩; subst hw; clear I1)
    | fail)
   go_ret
   exact ⟨rfl, bal (Below.refl _ _) _⟩
 cases i
 · show Calls Tryz.prog 193 _ w fun e w' => e = .returned (.bool true) /\ Below w.heap.size w w'
   go_enter Tryz.func193, Tryz.ntmps193
   go_wp2_with (first
    | (go_at_call 240; refine (I0.out _).mono ?_; rintro e0 w0 ⟨rfl, hw⟩; subst hw; clear I0)
    | (go_at_call 240; refine (I1.out _).mono ?_; rintro e1 w1 ⟨rfl, hw⟩; subst hw; clear I1)
    | fail)
   go_ret
   exact ⟨rfl, bal (Below.refl _ _) _⟩
 · show Calls Tryz.prog 193 _ w fun e w' => e = .returned (.bool (decide (l = 0))) /\ Below w.heap.size w w'
   by_cases hl : l = 0
   · subst hl
     go_enter Tryz.func193, Tryz.ntmps193
     go_wp2_with (first
      | (go_at_call 240; refine (I0.out _).mono ?_; rintro e0 w0 ⟨rfl, hw⟩; subst hw; clear I0)
      | (go_at_call 240; refine (I1.out _).mono ?_; rintro e1 w1 ⟨rfl, hw⟩; subst hw; clear I1)
      | fail)
     go_ret
     exact ⟨rfl, bal (Below.refl _ _) _⟩
   · rw [show decide (l = 0) = false by simp [hl]]
     have hl' : (l == 0) = false := by simp [hl]
     clear hl
     go_enter Tryz.func193, Tryz.ntmps193
     go_wp2_with (first
      | (go_at_call 240; refine (I0.out _).mono ?_; rintro e0 w0 ⟨rfl, hw⟩; subst hw; clear I0)
      | (go_at_call 240; refine (I1.out _).mono ?_; rintro e1 w1 ⟨rfl, hw⟩; subst hw; clear I1)
      | fail)
     go_ret
     exact ⟨rfl, bal (Below.refl _ _) _⟩
theorem rwords_any (c : Bd) (w : World) : Calls Tryz.prog 194 #[.agg #[.bool c.inf, .int .i64 c.lf, .int .i64 c.pr]] w fun e w' => e = .returned (.slice (some ⟨w.heap.size + 1, 0, none⟩) 3 3) /\ Nums w' (w.heap.size + 1) c.ws /\ Below w.heap.size w w' := by
 obtain ⟨i, l, p⟩ := c
 cases i
 · go_enter Tryz.func194, Tryz.ntmps194
   go_wp2
   go_ret
   refine ⟨rfl, ?_, bal (bal (Below.refl _ _) _) _⟩
   have e := heap_alloc_new (w.alloc (.cells #[.bool false, .int .i64 l, .int .i64 p] 175)) (.cells #[.int .i64 0, .int .i64 l, .int .i64 p] 3)
   rw [World.size_alloc] at e
   refine ⟨_, e, fun j hj => ?_⟩
   rw [ws_len] at hj
   rcases (show j = 0 \/ j = 1 \/ j = 2 by omega) with rfl | rfl | rfl <;> rfl
 · go_enter Tryz.func194, Tryz.ntmps194
   go_wp2
   go_ret
   refine ⟨rfl, ?_, bal (bal (Below.refl _ _) _) _⟩
   have e := heap_alloc_new (w.alloc (.cells #[.bool true, .int .i64 l, .int .i64 p] 175)) (.cells #[.int .i64 1, .int .i64 l, .int .i64 p] 3)
   rw [World.size_alloc] at e
   refine ⟨_, e, fun j hj => ?_⟩
   rw [ws_len] at hj
   rcases (show j = 0 \/ j = 1 \/ j = 2 by omega) with rfl | rfl | rfl <;> rfl
structure Rb (w W : World) (base q N : Nat) (M : Nat -> Nat -> Int) (c : Bd) : Prop where
 rx : Rx W base q N M
 box : RowB W w.heap.size c
 below : Below base w W
 kp : KeepX q w W
theorem rb_new {w : World} {base q N : Nat} {M : Nat -> Nat -> Int} (h : Rx w base q N M) (c : Bd) : Rb w (w.alloc (.cells #[.bool c.inf, .int .i64 c.lf, .int .i64 c.pr] 175)) base q N M c :=
 ⟨h.grown (bal (Below.refl _ _) _), rowB_new w c, (bal (Below.refl _ _) _).mono h.le, KeepX.below (bal (Below.refl _ _) _)⟩
theorem Rb.on {w W W' : World} {base q N : Nat} {M : Nat -> Nat -> Int} {c : Bd} (h : Rb w W base q N M c) (hB : Below W.heap.size W W') : Rb w W' base q N M c :=
 ⟨h.rx.grown hB, h.box.on hB, h.below.trans (hB.mono h.rx.le), h.kp.trans (KeepX.below hB)⟩
theorem Rb.turn {w W W' : World} {base q N : Nat} {M M' : Nat -> Nat -> Int} {c : Bd} (h : Rb w W base q N M c) (hR : RefIs W' base q N M') (hF : Fit M') (hB : Below base W W') (hK : KeepX q W W') : Rb w W' base q N M' c :=
 ⟨h.rx.turn hR hF, ⟨hK.t _ _ _ (by decide) h.box.row⟩, h.below.trans hB, h.kp.trans hK⟩
theorem rmake_any (base q N : Nat) (f : Int) (c : Bd) (M : Nat -> Nat -> Int) (w : World) (h : Rx w base q N M) : Calls Tryz.prog 121 #[.pointer (some ⟨q, 0, none⟩), .int .i64 f, .agg #[.bool c.inf, .int .i64 c.lf, .int .i64 c.pr]] w fun x w' => x = .returned (.int .i64 (mkE N f c)) /\ Rx w' base q N (mkM N M f c) /\ Below base w w' /\ KeepX q w w' := by
 have HR : Hid (∀ w1, Calls Tryz.prog 193 #[.agg #[.bool c.inf, .int .i64 c.lf, .int .i64 c.pr]] w1 fun e w' => e = .returned (.bool (boB c)) /\ Below w1.heap.size w1 w') := fun w1 => right_any c w1
 have H0 := rhide (rb_new h c)
 have n1 := h.n1
 have n64 := h.n64
 clear h
 by_cases hco : boB c = true
 · have e2 : mkE N f c = errF N f := by unfold mkE; rw [if_pos hco]
   have e3 : mkM N M f c = layF N (Phead.mkM N M f 5 0 false 0) f c.ws := by unfold mkM; rw [if_pos hco]
   rw [hco] at HR
   have HH : Hid (∀ wc, Rb w wc base q N M c -> Calls Tryz.prog 179 #[.pointer (some ⟨q, 0, none⟩), .int .i64 f, .agg #[.int .i64 5, .int .i64 0, .bool false, .int .i64 0]] wc fun e w' => e = .returned (.int .i64 (errF N f)) /\ Rb w w' base q N (Phead.mkM N M f 5 0 false 0) c) := fun wc h => by
    have := Phead.hrmake_k base q N f 5 0 false 0 M wc n1 n64 h.rx.ref
    rw [made_err (by omega)] at this
    refine this.mono ?_
    rintro e w' ⟨rfl, h1, h2, h3⟩
    exact ⟨rfl, h.turn h1 (Phead.fit_mk h.rx.fit N f 5 0 false 0) h2 h3⟩
   rw [e2, e3]
   clear e2 e3
   generalize Phead.mkM N M f 5 0 false 0 = M1 at HH ⊢
   cases hf : okF N f
   · have e4 : errF N f = 1 := by unfold errF; rw [hf]; rfl
     rw [e4] at HH ⊢
     rw [lay_bad hf]
     clear e4 hf hco
     go_enter Tryz.func121, Tryz.ntmps121
     go_wp2_with (first
      | (go_at_call 193; refine (HR.out _).mono ?_; rintro e1 w1 ⟨rfl, hb⟩; have H1 := rhide (H0.out.on hb); clear hb HR H0)
      | (go_at_call 179; refine (HH.out _ H1.out).mono ?_; rintro e2 w2 ⟨rfl, hb⟩; have H2 := rhide hb; clear hb HH H1)
      | fail)
     go_ret
     exact ⟨rfl, H2.out.rx, H2.out.below, H2.out.kp⟩
   · have e4 : errF N f = 0 := by unfold errF; rw [if_pos hf]
     rw [e4] at HH ⊢
     have HC : Hid (Bo c) := (boB_iff c).1 hco
     clear e4 hf hco
     go_enter Tryz.func121, Tryz.ntmps121
     go_wp2_with (first
      | (go_at_call 193; refine (HR.out _).mono ?_; rintro e1 w1 ⟨rfl, hb⟩; have H1 := rhide (H0.out.on hb); clear hb HR H0)
      | (go_at_call 179; refine (HH.out _ H1.out).mono ?_; rintro e2 w2 ⟨rfl, hb⟩; have H2 := rhide hb; clear hb HH H1; have x0 := H2.out.box.c0; have x1 := H2.out.box.c1; have x2 := H2.out.box.c2)
      | (go_at_call 194; refine (rwords_any c _).mono ?_; rintro e3 w3 ⟨rfl, hl, hb⟩; have H3 := rhide (H2.out.on hb); have HL := rhide hl; clear hl hb H2 x0 x1 x2)
      | (go_at_call 189; refine (rlay_any base q N _ 3 f c.ws M1 _ H3.out.rx HL.out (by rw [ws_len]; omega) (ws_fit HC.out)).mono ?_; rintro e4 w4 ⟨rfl, hx, hb, hk⟩; have H4 := rhide (And.intro hx (And.intro (H3.out.below.trans hb) (H3.out.kp.trans hk))); clear hx hb hk H3 HL)
      | fail)
     go_ret
     exact ⟨rfl, H4.out⟩
 · have e2 : mkE N f c = 1 := by unfold mkE; rw [if_neg hco]
   have e3 : mkM N M f c = M := by unfold mkM; rw [if_neg hco]
   rw [show boB c = false by simpa using hco] at HR
   rw [e2, e3]
   clear e2 e3 hco
   go_enter Tryz.func121, Tryz.ntmps121
   go_wp2_with (first
    | (go_at_call 193; refine (HR.out _).mono ?_; rintro e1 w1 ⟨rfl, hb⟩; have H1 := rhide (H0.out.on hb); clear hb HR H0)
    | fail)
   go_ret
   exact ⟨rfl, H1.out.rx, H1.out.below, H1.out.kp⟩
end Ptcap
end Go.Proofs.YtkkclcihjojphaaGreatDoor
