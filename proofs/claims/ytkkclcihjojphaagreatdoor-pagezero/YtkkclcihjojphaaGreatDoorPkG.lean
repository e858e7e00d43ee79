import Derived.Test.YtkkclcihjojphaaGreatDoorPkF
set_option linter.unusedVariables false
set_option linter.unusedSimpArgs false
set_option maxRecDepth 100000
set_option maxHeartbeats 20000000
namespace Go.Proofs.YtkkclcihjojphaaGreatDoor
namespace Pqrcv
open Pbase Pfield Play Pmem Pring Go.RowKit M
structure Rv where
 th : Int
 pa : Int
 co : Int
 wa : Bool
 lo : Int
def rv0 : Rv := ⟨0, 0, 0, false, 0⟩
def vz (b : Bool) : Int := if b = true then 1 else 0
theorem vz_bd (b : Bool) : 0 <= vz b /\ vz b <= 1 := by cases b <;> decide
def Rv.ws (x : Rv) : List Int := [x.th, x.pa, x.co, vz x.wa, x.lo, 0, 0, 0]
def Vo (x : Rv) : Prop := (0 <= x.th /\ x.th <= 63) /\ (0 <= x.pa /\ x.pa <= 64) /\ (0 <= x.co /\ x.co <= 255) /\ (0 <= x.lo /\ x.lo <= 255)
def voB (x : Rv) : Bool := (decide (0 <= x.th) && decide (x.th <= 63)) && (decide (0 <= x.pa) && decide (x.pa <= 64)) && (decide (0 <= x.co) && decide (x.co <= 255)) && (decide (0 <= x.lo) && decide (x.lo <= 255))
theorem voB_iff (x : Rv) : voB x = true ↔ Vo x := by
 unfold voB Vo
 simp
 omega
theorem vs_fit {x : Rv} (h : Vo x) : ∀ v ∈ x.ws, 0 <= v /\ v <= 9223372036854775807 := by
 unfold Vo at h
 have := vz_bd x.wa
 intro v hv
 simp only [Rv.ws, List.mem_cons, List.not_mem_nil, or_false] at hv
 rcases hv with rfl | rfl | rfl | rfl | rfl | rfl | rfl | rfl <;> omega
theorem Vo.fit {x : Rv} (h : Vo x) : ∀ v ∈ x.ws, 0 <= v /\ v <= 18446744073709551615 := fun v hv => by
 have := vs_fit h v hv
 omega
theorem vs_len (x : Rv) : x.ws.length = 8 := rfl
def Fv (x : Rv) : Prop := In64 x.th /\ In64 x.pa /\ In64 x.co /\ In64 x.lo
def vkE (x : Rv) : Int := if voB x = true then 0 else 1
def vmE (N : Nat) (f : Int) (x : Rv) : Int := if voB x = true then errF N f else 1
def vmM (N : Nat) (M : Nat -> Nat -> Int) (f : Int) (x : Rv) : Nat -> Nat -> Int := if voB x = true then layF N (Phead.mkM N M f 6 0 false 0) f x.ws else M
end Pqrcv
namespace Pqrcv
open Pbase Pfield Play Pmem Go.RowKit M
structure Mx (w : World) (p b N : Nat) (M : Nat -> Nat -> Int) : Prop where
 mem : MemIs w p b N M
 hd : Phead.TabW w
 fit : Fit M
 n1 : 1 <= N
 n64 : N <= 64
theorem Mx.on {w w' : World} {p b N : Nat} {M : Nat -> Nat -> Int} (h : Mx w p b N M) (hB : Below w.heap.size w w') : Mx w' p b N M :=
 ⟨h.mem.grown hB, h.hd.on hB, h.fit, h.n1, h.n64⟩
theorem Mx.but {w w' : World} {p b N : Nat} {M M' : Nat -> Nat -> Int} (h : Mx w p b N M) (hM : MemIs w' p b N M') (hF : Fit M') (hB : But b w w') : Mx w' p b N M' :=
 ⟨hM, h.hd.but hB (Phead.tab_ne h.mem h.hd), hF, h.n1, h.n64⟩
end Pqrcv
namespace Pqrcv
open Pbase Pfield Play Pmem Pring Go.RowKit M
structure RowW (w : World) (B : Nat) (x : Rv) : Prop where
 row : w.heap[B]? = some (.cells #[.int .i64 x.th, .int .i64 x.pa, .int .i64 x.co, .bool x.wa, .int .i64 x.lo] 193 (0, 0))
section
variable {w w' : World} {B : Nat} {x : Rv}
theorem RowW.lt (h : RowW w B x) : B < w.heap.size := (Array.getElem?_eq_some_iff.1 h.row).1
theorem RowW.c0 (h : RowW w B x) : w.cell? ⟨B, 0, none⟩ = some (.int .i64 x.th) := (cell_of_row _ _ _ _ _ _ h.row).trans rfl
theorem RowW.c1 (h : RowW w B x) : w.cell? ⟨B, 1, none⟩ = some (.int .i64 x.pa) := (cell_of_row _ _ _ _ _ _ h.row).trans rfl
theorem RowW.c2 (h : RowW w B x) : w.cell? ⟨B, 2, none⟩ = some (.int .i64 x.co) := (cell_of_row _ _ _ _ _ _ h.row).trans rfl
theorem RowW.c3 (h : RowW w B x) : w.cell? ⟨B, 3, none⟩ = some (.bool x.wa) := (cell_of_row _ _ _ _ _ _ h.row).trans rfl
theorem RowW.c4 (h : RowW w B x) : w.cell? ⟨B, 4, none⟩ = some (.int .i64 x.lo) := (cell_of_row _ _ _ _ _ _ h.row).trans rfl
theorem RowW.fz (h : RowW w B x) (j : Nat) : w.frozen? ⟨B, j, none⟩ = false := frozen_of_row _ _ _ _ _ h.row
theorem RowW.on (h : RowW w B x) (hB : Below w.heap.size w w') : RowW w' B x := ⟨(hB.block B h.lt).trans h.row⟩
theorem RowW.but {b : Nat} (h : RowW w B x) (hB : But b w w') (hn : B ≠ b) : RowW w' B x := ⟨(hB.block B h.lt hn).trans h.row⟩
theorem RowW.keep (h : RowW w B x) (k : KeepT w w') : RowW w' B x := ⟨k _ _ _ (by decide) h.row⟩
theorem rowW_new (w : World) (x : Rv) : RowW (w.alloc (.cells #[.int .i64 x.th, .int .i64 x.pa, .int .i64 x.co, .bool x.wa, .int .i64 x.lo] 193)) w.heap.size x := ⟨heap_alloc_new w _⟩
end
structure TabV (w : World) : Prop where
 lt : 5 < w.heap.size
 row : ∃ t fr, w.heap[(5 : Nat)]? = some (.cells #[.int .u64 63, .int .u64 64, .int .u64 255, .int .u64 1, .int .u64 255, .int .u64 0, .int .u64 0, .int .u64 0] t fr)
theorem TabV.on {w w' : World} (h : TabV w) (hB : Below w.heap.size w w') : TabV w' :=
 ⟨Nat.lt_of_lt_of_le h.lt hB.size, by obtain ⟨t, fr, hr⟩ := h.row; exact ⟨t, fr, (hB.block 5 h.lt).trans hr⟩⟩
theorem TabV.but {w w' : World} {b : Nat} (h : TabV w) (hB : But b w w') (hn : 5 ≠ b) : TabV w' :=
 ⟨Nat.lt_of_lt_of_le h.lt hB.size, by obtain ⟨t, fr, hr⟩ := h.row; exact ⟨t, fr, (hB.block 5 h.lt hn).trans hr⟩⟩
theorem tabV_ne {w : World} {p b N : Nat} {M : Nat -> Nat -> Int} (hM : MemIs w p b N M) (hN : 1 <= N) (hW : TabV w) : 5 ≠ b := by
 intro e
 obtain ⟨t, fr, hr⟩ := hW.row
 rw [e, hM.row] at hr
 simp only [Option.some.injEq, Obj.cells.injEq] at hr
 have := congrArg Array.size hr.1
 rw [cellsM_size] at this
 simp at this
 omega
theorem TabV.at {w : World} (h : TabV w) (j : Nat) : w.cell? ⟨5, j, none⟩ = (#[.int .u64 63, .int .u64 64, .int .u64 255, .int .u64 1, .int .u64 255, .int .u64 0, .int .u64 0, .int .u64 0] : Array Value)[j]? := by
 obtain ⟨t, fr, hr⟩ := h.row
 exact cell_of_row _ _ j _ _ _ hr
def wvB (a : Nat -> Int) : Bool := (decide (a 3 <= 1) && decide (a 5 = 0) && decide (a 6 = 0) && decide (a 7 = 0)) && voB ⟨a 0, a 1, a 2, decide (a 3 = 1), a 4⟩
def wvX (a : Nat -> Int) : Rv := if wvB a = true then ⟨a 0, a 1, a 2, decide (a 3 = 1), a 4⟩ else rv0
theorem wvX_no {a : Nat -> Int} (h : wvB a = false) : wvX a = rv0 := by unfold wvX; rw [h]; rfl
theorem wvX_yes {a : Nat -> Int} (h : wvB a = true) : wvX a = ⟨a 0, a 1, a 2, decide (a 3 = 1), a 4⟩ := by unfold wvX; rw [if_pos h]
theorem wvB_iff {a : Nat -> Int} (h0 : ∀ j, 0 <= a j) : wvB a = true ↔ a 0 <= 63 /\ a 1 <= 64 /\ a 2 <= 255 /\ a 3 <= 1 /\ a 4 <= 255 /\ a 5 <= 0 /\ a 6 <= 0 /\ a 7 <= 0 := by
 unfold wvB
 rw [Bool.and_eq_true, voB_iff]
 simp only [Bool.and_eq_true, decide_eq_true_eq]
 unfold Vo
 dsimp only
 have q0 := h0 0
 have q1 := h0 1
 have q2 := h0 2
 have q3 := h0 3
 have q4 := h0 4
 have q5 := h0 5
 have q6 := h0 6
 have q7 := h0 7
 omega
def wsF (c : Rv) : Nat -> Int
 | 0 => asW c.th
 | 1 => asW c.pa
 | 2 => asW c.co
 | 3 => vz c.wa
 | 4 => asW c.lo
 | _ => 0
theorem wsF_pos {c : Rv} (h : Fv c) (j : Nat) : 0 <= wsF c j := by
 obtain ⟨h1, h2, h3, h4⟩ := h
 match j with
 | 0 => exact (asW_fit h1).1
 | 1 => exact (asW_fit h2).1
 | 2 => exact (asW_fit h3).1
 | 3 => exact (vz_bd c.wa).1
 | 4 => exact (asW_fit h4).1
 | n + 5 => exact Int.le_refl 0
theorem asW_of {x c : Int} (h : In64 x) (hc : c <= 1073741824) (h0 : 0 <= c) : asW x <= c ↔ 0 <= x /\ x <= c := by
 constructor
 · intro q
   obtain ⟨e, q0⟩ := asW_low h hc q
   rw [e] at q
   exact ⟨q0, q⟩
 · rintro ⟨q0, q⟩
   unfold asW
   rw [if_pos q0]
   exact q
theorem wvB_w {c : Rv} (h : Fv c) : wvB (wsF c) = voB c := by
 have key : wvB (wsF c) = true ↔ voB c = true := by
  rw [wvB_iff (wsF_pos h), voB_iff]
  obtain ⟨h1, h2, h3, h4⟩ := h
  show asW c.th <= 63 /\ asW c.pa <= 64 /\ asW c.co <= 255 /\ vz c.wa <= 1 /\ asW c.lo <= 255 /\ (0 : Int) <= 0 /\ (0 : Int) <= 0 /\ (0 : Int) <= 0 ↔ _
  rw [asW_of h1 (by omega) (by omega), asW_of h2 (by omega) (by omega), asW_of h3 (by omega) (by omega), asW_of h4 (by omega) (by omega)]
  have := vz_bd c.wa
  unfold Vo
  omega
 cases h1 : voB c
 · exact Bool.eq_false_iff.2 fun e => by rw [key.1 e] at h1; cases h1
 · exact key.2 h1
theorem wsF_vo {c : Rv} (h : Vo c) : wsF c 0 = c.th /\ wsF c 1 = c.pa /\ wsF c 2 = c.co /\ wsF c 4 = c.lo := by
 unfold Vo at h
 refine ⟨?_, ?_, ?_, ?_⟩ <;> show asW _ = _ <;> unfold asW <;> rw [if_pos (by omega)]
theorem Vo.fv {c : Rv} (h : Vo c) : Fv c := by
 unfold Vo at h
 unfold Fv In64
 omega
theorem words_in (c : Rv) (w : World) : Calls Tryz.prog 259 #[.agg #[.int .i64 c.th, .int .i64 c.pa, .int .i64 c.co, .bool c.wa, .int .i64 c.lo]] w fun e w' => e = .returned (.agg #[.int .u64 (IntKind.u64.wrap c.th), .int .u64 (IntKind.u64.wrap c.pa), .int .u64 (IntKind.u64.wrap c.co), .int .u64 (vz c.wa), .int .u64 (IntKind.u64.wrap c.lo), .int .u64 0, .int .u64 0, .int .u64 0]) /\ Below w.heap.size w w' := by
 obtain ⟨t, p, k, i, l⟩ := c
 dsimp only
 cases i
 · go_enter Tryz.func259, Tryz.ntmps259
   go_wp2
   exact bodyPost_ret (v := .agg #[.int .u64 (IntKind.u64.wrap t), .int .u64 (IntKind.u64.wrap p), .int .u64 (IntKind.u64.wrap k), .int .u64 0, .int .u64 (IntKind.u64.wrap l), .int .u64 0, .int .u64 0, .int .u64 0]) (by simp [results, Tryz.results259, go_sem]) rfl ⟨rfl, bal (bal (bal (Below.refl _ _) _) _) _⟩
 · go_enter Tryz.func259, Tryz.ntmps259
   go_wp2
   exact bodyPost_ret (v := .agg #[.int .u64 (IntKind.u64.wrap t), .int .u64 (IntKind.u64.wrap p), .int .u64 (IntKind.u64.wrap k), .int .u64 1, .int .u64 (IntKind.u64.wrap l), .int .u64 0, .int .u64 0, .int .u64 0]) (by simp [results, Tryz.results259, go_sem]) rfl ⟨rfl, bal (bal (bal (Below.refl _ _) _) _) _⟩
theorem words_any (c : Rv) (hc : Fv c) (w : World) : Calls Tryz.prog 259 #[.agg #[.int .i64 c.th, .int .i64 c.pa, .int .i64 c.co, .bool c.wa, .int .i64 c.lo]] w fun e w' => e = .returned (.agg #[.int .u64 (wsF c 0), .int .u64 (wsF c 1), .int .u64 (wsF c 2), .int .u64 (wsF c 3), .int .u64 (wsF c 4), .int .u64 (wsF c 5), .int .u64 (wsF c 6), .int .u64 (wsF c 7)]) /\ Below w.heap.size w w' := by
 have := words_in c w
 obtain ⟨h1, h2, h3, h4⟩ := hc
 rwa [asW_eq h1, asW_eq h2, asW_eq h3, asW_eq h4] at this
theorem vix0 (a0 a1 a2 a3 a4 a5 a6 a7 : Int) : ∀ w : World, (Instr.index 388 (.agg #[.int .u64 a0, .int .u64 a1, .int .u64 a2, .int .u64 a3, .int .u64 a4, .int .u64 a5, .int .u64 a6, .int .u64 a7]) (.int .i64 0)).run Tryz.prog w = .ok (.int .u64 a0) w := fun _ => by kernel_rfl
theorem vix1 (a0 a1 a2 a3 a4 a5 a6 a7 : Int) : ∀ w : World, (Instr.index 388 (.agg #[.int .u64 a0, .int .u64 a1, .int .u64 a2, .int .u64 a3, .int .u64 a4, .int .u64 a5, .int .u64 a6, .int .u64 a7]) (.int .i64 1)).run Tryz.prog w = .ok (.int .u64 a1) w := fun _ => by kernel_rfl
theorem vix2 (a0 a1 a2 a3 a4 a5 a6 a7 : Int) : ∀ w : World, (Instr.index 388 (.agg #[.int .u64 a0, .int .u64 a1, .int .u64 a2, .int .u64 a3, .int .u64 a4, .int .u64 a5, .int .u64 a6, .int .u64 a7]) (.int .i64 2)).run Tryz.prog w = .ok (.int .u64 a2) w := fun _ => by kernel_rfl
theorem vix3 (a0 a1 a2 a3 a4 a5 a6 a7 : Int) : ∀ w : World, (Instr.index 388 (.agg #[.int .u64 a0, .int .u64 a1, .int .u64 a2, .int .u64 a3, .int .u64 a4, .int .u64 a5, .int .u64 a6, .int .u64 a7]) (.int .i64 3)).run Tryz.prog w = .ok (.int .u64 a3) w := fun _ => by kernel_rfl
theorem vix4 (a0 a1 a2 a3 a4 a5 a6 a7 : Int) : ∀ w : World, (Instr.index 388 (.agg #[.int .u64 a0, .int .u64 a1, .int .u64 a2, .int .u64 a3, .int .u64 a4, .int .u64 a5, .int .u64 a6, .int .u64 a7]) (.int .i64 4)).run Tryz.prog w = .ok (.int .u64 a4) w := fun _ => by kernel_rfl
theorem vix5 (a0 a1 a2 a3 a4 a5 a6 a7 : Int) : ∀ w : World, (Instr.index 388 (.agg #[.int .u64 a0, .int .u64 a1, .int .u64 a2, .int .u64 a3, .int .u64 a4, .int .u64 a5, .int .u64 a6, .int .u64 a7]) (.int .i64 5)).run Tryz.prog w = .ok (.int .u64 a5) w := fun _ => by kernel_rfl
theorem vix6 (a0 a1 a2 a3 a4 a5 a6 a7 : Int) : ∀ w : World, (Instr.index 388 (.agg #[.int .u64 a0, .int .u64 a1, .int .u64 a2, .int .u64 a3, .int .u64 a4, .int .u64 a5, .int .u64 a6, .int .u64 a7]) (.int .i64 6)).run Tryz.prog w = .ok (.int .u64 a6) w := fun _ => by kernel_rfl
theorem vix7 (a0 a1 a2 a3 a4 a5 a6 a7 : Int) : ∀ w : World, (Instr.index 388 (.agg #[.int .u64 a0, .int .u64 a1, .int .u64 a2, .int .u64 a3, .int .u64 a4, .int .u64 a5, .int .u64 a6, .int .u64 a7]) (.int .i64 7)).run Tryz.prog w = .ok (.int .u64 a7) w := fun _ => by kernel_rfl
structure RoI (w W : World) (a0 a1 a2 a3 a4 a5 a6 a7 : Int) : Prop where
 src : RowV W w.heap.size [.int .u64 a0, .int .u64 a1, .int .u64 a2, .int .u64 a3, .int .u64 a4, .int .u64 a5, .int .u64 a6, .int .u64 a7]
 res : RowW W (w.heap.size + 1) rv0
 tab : TabV W
 below : Below w.heap.size w W
theorem ro_new {w : World} (hT : TabV w) (a0 a1 a2 a3 a4 a5 a6 a7 : Int) : RoI w ((w.alloc (.cells #[.int .u64 a0, .int .u64 a1, .int .u64 a2, .int .u64 a3, .int .u64 a4, .int .u64 a5, .int .u64 a6, .int .u64 a7] 388)).alloc (.cells #[.int .i64 0, .int .i64 0, .int .i64 0, .bool false, .int .i64 0] 193)) a0 a1 a2 a3 a4 a5 a6 a7 := by
 have b0 := rowV_new w [.int .u64 a0, .int .u64 a1, .int .u64 a2, .int .u64 a3, .int .u64 a4, .int .u64 a5, .int .u64 a6, .int .u64 a7] 388
 have b1 := rowW_new (w.alloc (.cells #[.int .u64 a0, .int .u64 a1, .int .u64 a2, .int .u64 a3, .int .u64 a4, .int .u64 a5, .int .u64 a6, .int .u64 a7] 388)) rv0
 simp only [World.size_alloc] at b1
 exact ⟨b0.on (bal (Below.refl _ _) _), b1, hT.on (bal (bal (Below.refl _ _) _) _), bal (bal (Below.refl _ _) _) _⟩
theorem ro_yes (a0 a1 a2 a3 a4 a5 a6 a7 : Int) (h0 : 0 <= a0 /\ a0 <= 63) (h1 : 0 <= a1 /\ a1 <= 64) (h2 : 0 <= a2 /\ a2 <= 255) (h3 : 0 <= a3 /\ a3 <= 1) (h4 : 0 <= a4 /\ a4 <= 255) (h5 : 0 <= a5 /\ a5 <= 0) (h6 : 0 <= a6 /\ a6 <= 0) (h7 : 0 <= a7 /\ a7 <= 0) (w : World) (hT : TabV w) : Calls Tryz.prog 258 #[.agg #[.int .u64 a0, .int .u64 a1, .int .u64 a2, .int .u64 a3, .int .u64 a4, .int .u64 a5, .int .u64 a6, .int .u64 a7]] w fun e w' => e = .returned (.tuple #[.agg #[.int .i64 a0, .int .i64 a1, .int .i64 a2, .bool (a3 == 1), .int .i64 a4], .bool true]) /\ Below w.heap.size w w' := by
 have H0 := rhide (ro_new hT a0 a1 a2 a3 a4 a5 a6 a7)
 have i0 := vix0 a0 a1 a2 a3 a4 a5 a6 a7
 have g0 : ¬ 63 < a0 := by omega
 have i1 := vix1 a0 a1 a2 a3 a4 a5 a6 a7
 have g1 : ¬ 64 < a1 := by omega
 have i2 := vix2 a0 a1 a2 a3 a4 a5 a6 a7
 have g2 : ¬ 255 < a2 := by omega
 have i3 := vix3 a0 a1 a2 a3 a4 a5 a6 a7
 have g3 : ¬ 1 < a3 := by omega
 have i4 := vix4 a0 a1 a2 a3 a4 a5 a6 a7
 have g4 : ¬ 255 < a4 := by omega
 have i5 := vix5 a0 a1 a2 a3 a4 a5 a6 a7
 have g5 : ¬ 0 < a5 := by omega
 have i6 := vix6 a0 a1 a2 a3 a4 a5 a6 a7
 have g6 : ¬ 0 < a6 := by omega
 have i7 := vix7 a0 a1 a2 a3 a4 a5 a6 a7
 have g7 : ¬ 0 < a7 := by omega
 have u0 : IntKind.i64.wrap a0 = a0 := wrapi_small (by omega) (by omega)
 have u1 : IntKind.i64.wrap a1 = a1 := wrapi_small (by omega) (by omega)
 have u2 : IntKind.i64.wrap a2 = a2 := wrapi_small (by omega) (by omega)
 have u4 : IntKind.i64.wrap a4 = a4 := wrapi_small (by omega) (by omega)
 clear hT h0 h1 h2 h3 h4 h5 h6 h7
 go_enter Tryz.func258, Tryz.ntmps258
 go_upto_region 1 with fail
 generalize (w.alloc _).alloc _ = w1 at H0 ⊢
 have x0 : w1.cell? ⟨w.heap.size, 0, none⟩ = some (.int .u64 a0) := H0.out.src.cell 0
 have x1 : w1.cell? ⟨w.heap.size, 1, none⟩ = some (.int .u64 a1) := H0.out.src.cell 1
 have x2 : w1.cell? ⟨w.heap.size, 2, none⟩ = some (.int .u64 a2) := H0.out.src.cell 2
 have x3 : w1.cell? ⟨w.heap.size, 3, none⟩ = some (.int .u64 a3) := H0.out.src.cell 3
 have x4 : w1.cell? ⟨w.heap.size, 4, none⟩ = some (.int .u64 a4) := H0.out.src.cell 4
 have x5 : w1.cell? ⟨w.heap.size, 5, none⟩ = some (.int .u64 a5) := H0.out.src.cell 5
 have x6 : w1.cell? ⟨w.heap.size, 6, none⟩ = some (.int .u64 a6) := H0.out.src.cell 6
 have x7 : w1.cell? ⟨w.heap.size, 7, none⟩ = some (.int .u64 a7) := H0.out.src.cell 7
 go_wp2
 clear x0 x1 x2 x3 x4 x5 x6 x7
 go_loopw [7] (fun i wr => ∃ k : Nat, k <= 8 /\ i = .int .i64 k /\ RoI w wr a0 a1 a2 a3 a4 a5 a6 a7) (fun i _ => 8 - (intOf i).toNat)
 case atStart => exact ⟨0, by omega, rfl, H0.out⟩
 case round =>
  obtain ⟨k, hk, rfl, hI⟩ := hrel
  have HI := rhide hI
  clear hI H0
  rcases (show k = 0 \/ k = 1 \/ k = 2 \/ k = 3 \/ k = 4 \/ k = 5 \/ k = 6 \/ k = 7 \/ k = 8 by omega) with rfl | rfl | rfl | rfl | rfl | rfl | rfl | rfl | rfl
  · have y : wr.cell? ⟨5, 0, none⟩ = some (.int .u64 63) := HI.out.tab.at 0
    go_wp2
    go_roundw
    case rel => exact ⟨0 + 1, by omega, rfl, HI.out⟩
    case measure => simp [intOf]
  · have y : wr.cell? ⟨5, 1, none⟩ = some (.int .u64 64) := HI.out.tab.at 1
    go_wp2
    go_roundw
    case rel => exact ⟨1 + 1, by omega, rfl, HI.out⟩
    case measure => simp [intOf]
  · have y : wr.cell? ⟨5, 2, none⟩ = some (.int .u64 255) := HI.out.tab.at 2
    go_wp2
    go_roundw
    case rel => exact ⟨2 + 1, by omega, rfl, HI.out⟩
    case measure => simp [intOf]
  · have y : wr.cell? ⟨5, 3, none⟩ = some (.int .u64 1) := HI.out.tab.at 3
    go_wp2
    go_roundw
    case rel => exact ⟨3 + 1, by omega, rfl, HI.out⟩
    case measure => simp [intOf]
  · have y : wr.cell? ⟨5, 4, none⟩ = some (.int .u64 255) := HI.out.tab.at 4
    go_wp2
    go_roundw
    case rel => exact ⟨4 + 1, by omega, rfl, HI.out⟩
    case measure => simp [intOf]
  · have y : wr.cell? ⟨5, 5, none⟩ = some (.int .u64 0) := HI.out.tab.at 5
    go_wp2
    go_roundw
    case rel => exact ⟨5 + 1, by omega, rfl, HI.out⟩
    case measure => simp [intOf]
  · have y : wr.cell? ⟨5, 6, none⟩ = some (.int .u64 0) := HI.out.tab.at 6
    go_wp2
    go_roundw
    case rel => exact ⟨6 + 1, by omega, rfl, HI.out⟩
    case measure => simp [intOf]
  · have y : wr.cell? ⟨5, 7, none⟩ = some (.int .u64 0) := HI.out.tab.at 7
    go_wp2
    go_roundw
    case rel => exact ⟨7 + 1, by omega, rfl, HI.out⟩
    case measure => simp [intOf]
  · have x0 : wr.cell? ⟨w.heap.size, 0, none⟩ = some (.int .u64 a0) := HI.out.src.cell 0
    have x1 : wr.cell? ⟨w.heap.size, 1, none⟩ = some (.int .u64 a1) := HI.out.src.cell 1
    have x2 : wr.cell? ⟨w.heap.size, 2, none⟩ = some (.int .u64 a2) := HI.out.src.cell 2
    have x3 : wr.cell? ⟨w.heap.size, 3, none⟩ = some (.int .u64 a3) := HI.out.src.cell 3
    have x4 : wr.cell? ⟨w.heap.size, 4, none⟩ = some (.int .u64 a4) := HI.out.src.cell 4
    have y0 := HI.out.res.c0
    have y1 := HI.out.res.c1
    have y2 := HI.out.res.c2
    have y3 := HI.out.res.c3
    have y4 := HI.out.res.c4
    have z := HI.out.res.fz
    go_wp2
    refine bodyPost_ret (v := .tuple #[.agg #[.int .i64 a0, .int .i64 a1, .int .i64 a2, .bool (a3 == 1), .int .i64 a4], .bool true]) (by simp [results, Tryz.results258, go_sem, y0, y1, y2, y3, y4]) rfl ⟨rfl, ?_⟩
    exact bst (bst (bst (bst (bst HI.out.below (by omega) _ _) (by omega) _ _) (by omega) _ _) (by omega) _ _) (by omega) _ _
theorem ro_no (a0 a1 a2 a3 a4 a5 a6 a7 : Int) (hn : ¬ (a0 <= 63 /\ a1 <= 64 /\ a2 <= 255 /\ a3 <= 1 /\ a4 <= 255 /\ a5 <= 0 /\ a6 <= 0 /\ a7 <= 0)) (w : World) (hT : TabV w) : Calls Tryz.prog 258 #[.agg #[.int .u64 a0, .int .u64 a1, .int .u64 a2, .int .u64 a3, .int .u64 a4, .int .u64 a5, .int .u64 a6, .int .u64 a7]] w fun e w' => e = .returned (.tuple #[.agg #[.int .i64 0, .int .i64 0, .int .i64 0, .bool false, .int .i64 0], .bool false]) /\ Below w.heap.size w w' := by
 have H0 := rhide (ro_new hT a0 a1 a2 a3 a4 a5 a6 a7)
 have HN := rhide hn
 have i0 := vix0 a0 a1 a2 a3 a4 a5 a6 a7
 have i1 := vix1 a0 a1 a2 a3 a4 a5 a6 a7
 have i2 := vix2 a0 a1 a2 a3 a4 a5 a6 a7
 have i3 := vix3 a0 a1 a2 a3 a4 a5 a6 a7
 have i4 := vix4 a0 a1 a2 a3 a4 a5 a6 a7
 have i5 := vix5 a0 a1 a2 a3 a4 a5 a6 a7
 have i6 := vix6 a0 a1 a2 a3 a4 a5 a6 a7
 have i7 := vix7 a0 a1 a2 a3 a4 a5 a6 a7
 clear hT hn
 go_enter Tryz.func258, Tryz.ntmps258
 go_upto_region 1 with fail
 generalize (w.alloc _).alloc _ = w1 at H0 ⊢
 have x0 : w1.cell? ⟨w.heap.size, 0, none⟩ = some (.int .u64 a0) := H0.out.src.cell 0
 have x1 : w1.cell? ⟨w.heap.size, 1, none⟩ = some (.int .u64 a1) := H0.out.src.cell 1
 have x2 : w1.cell? ⟨w.heap.size, 2, none⟩ = some (.int .u64 a2) := H0.out.src.cell 2
 have x3 : w1.cell? ⟨w.heap.size, 3, none⟩ = some (.int .u64 a3) := H0.out.src.cell 3
 have x4 : w1.cell? ⟨w.heap.size, 4, none⟩ = some (.int .u64 a4) := H0.out.src.cell 4
 have x5 : w1.cell? ⟨w.heap.size, 5, none⟩ = some (.int .u64 a5) := H0.out.src.cell 5
 have x6 : w1.cell? ⟨w.heap.size, 6, none⟩ = some (.int .u64 a6) := H0.out.src.cell 6
 have x7 : w1.cell? ⟨w.heap.size, 7, none⟩ = some (.int .u64 a7) := H0.out.src.cell 7
 go_wp2
 clear x0 x1 x2 x3 x4 x5 x6 x7
 go_loopw [7] (fun i wr => ∃ k : Nat, k <= 8 /\ i = .int .i64 k /\ RoI w wr a0 a1 a2 a3 a4 a5 a6 a7 /\ (0 < k -> a0 <= 63) /\ (1 < k -> a1 <= 64) /\ (2 < k -> a2 <= 255) /\ (3 < k -> a3 <= 1) /\ (4 < k -> a4 <= 255) /\ (5 < k -> a5 <= 0) /\ (6 < k -> a6 <= 0) /\ (7 < k -> a7 <= 0)) (fun i _ => 8 - (intOf i).toNat)
 case atStart => exact ⟨0, by omega, rfl, H0.out, fun h => absurd h (by omega), fun h => absurd h (by omega), fun h => absurd h (by omega), fun h => absurd h (by omega), fun h => absurd h (by omega), fun h => absurd h (by omega), fun h => absurd h (by omega), fun h => absurd h (by omega)⟩
 case round =>
  obtain ⟨k, hk, rfl, hI, hJ⟩ := hrel
  have HI := rhide hI
  have HJ := rhide hJ
  clear hI hJ H0
  rcases (show k = 0 \/ k = 1 \/ k = 2 \/ k = 3 \/ k = 4 \/ k = 5 \/ k = 6 \/ k = 7 \/ k = 8 by omega) with rfl | rfl | rfl | rfl | rfl | rfl | rfl | rfl | rfl
  · have y : wr.cell? ⟨5, 0, none⟩ = some (.int .u64 63) := HI.out.tab.at 0
    by_cases hg : 63 < a0
    · have z := HI.out.res.fz
      have y0 := HI.out.res.c0
      have y1 := HI.out.res.c1
      have y2 := HI.out.res.c2
      have y3 := HI.out.res.c3
      have y4 := HI.out.res.c4
      go_wp2
      refine bodyPost_ret (v := .tuple #[.agg #[.int .i64 0, .int .i64 0, .int .i64 0, .bool false, .int .i64 0], .bool false]) (by simp [results, Tryz.results258, go_sem, y0, y1, y2, y3, y4]) rfl ⟨rfl, ?_⟩
      exact bst (bst (bst (bst (bst HI.out.below (by omega) _ _) (by omega) _ _) (by omega) _ _) (by omega) _ _) (by omega) _ _
    · have HG : Hid (a0 <= 63) := (show a0 <= 63 by omega)
      go_wp2
      go_roundw
      case rel => exact ⟨0 + 1, by omega, rfl, HI.out, fun _ => HG.out, fun h => absurd h (by omega), fun h => absurd h (by omega), fun h => absurd h (by omega), fun h => absurd h (by omega), fun h => absurd h (by omega), fun h => absurd h (by omega), fun h => absurd h (by omega)⟩
      case measure => simp [intOf]
  · have y : wr.cell? ⟨5, 1, none⟩ = some (.int .u64 64) := HI.out.tab.at 1
    by_cases hg : 64 < a1
    · have z := HI.out.res.fz
      have y0 := HI.out.res.c0
      have y1 := HI.out.res.c1
      have y2 := HI.out.res.c2
      have y3 := HI.out.res.c3
      have y4 := HI.out.res.c4
      go_wp2
      refine bodyPost_ret (v := .tuple #[.agg #[.int .i64 0, .int .i64 0, .int .i64 0, .bool false, .int .i64 0], .bool false]) (by simp [results, Tryz.results258, go_sem, y0, y1, y2, y3, y4]) rfl ⟨rfl, ?_⟩
      exact bst (bst (bst (bst (bst HI.out.below (by omega) _ _) (by omega) _ _) (by omega) _ _) (by omega) _ _) (by omega) _ _
    · have HG : Hid (a1 <= 64) := (show a1 <= 64 by omega)
      go_wp2
      go_roundw
      case rel => exact ⟨1 + 1, by omega, rfl, HI.out, fun _ => HJ.out.1 (by omega), fun _ => HG.out, fun h => absurd h (by omega), fun h => absurd h (by omega), fun h => absurd h (by omega), fun h => absurd h (by omega), fun h => absurd h (by omega), fun h => absurd h (by omega)⟩
      case measure => simp [intOf]
  · have y : wr.cell? ⟨5, 2, none⟩ = some (.int .u64 255) := HI.out.tab.at 2
    by_cases hg : 255 < a2
    · have z := HI.out.res.fz
      have y0 := HI.out.res.c0
      have y1 := HI.out.res.c1
      have y2 := HI.out.res.c2
      have y3 := HI.out.res.c3
      have y4 := HI.out.res.c4
      go_wp2
      refine bodyPost_ret (v := .tuple #[.agg #[.int .i64 0, .int .i64 0, .int .i64 0, .bool false, .int .i64 0], .bool false]) (by simp [results, Tryz.results258, go_sem, y0, y1, y2, y3, y4]) rfl ⟨rfl, ?_⟩
      exact bst (bst (bst (bst (bst HI.out.below (by omega) _ _) (by omega) _ _) (by omega) _ _) (by omega) _ _) (by omega) _ _
    · have HG : Hid (a2 <= 255) := (show a2 <= 255 by omega)
      go_wp2
      go_roundw
      case rel => exact ⟨2 + 1, by omega, rfl, HI.out, fun _ => HJ.out.1 (by omega), fun _ => HJ.out.2.1 (by omega), fun _ => HG.out, fun h => absurd h (by omega), fun h => absurd h (by omega), fun h => absurd h (by omega), fun h => absurd h (by omega), fun h => absurd h (by omega)⟩
      case measure => simp [intOf]
  · have y : wr.cell? ⟨5, 3, none⟩ = some (.int .u64 1) := HI.out.tab.at 3
    by_cases hg : 1 < a3
    · have z := HI.out.res.fz
      have y0 := HI.out.res.c0
      have y1 := HI.out.res.c1
      have y2 := HI.out.res.c2
      have y3 := HI.out.res.c3
      have y4 := HI.out.res.c4
      go_wp2
      refine bodyPost_ret (v := .tuple #[.agg #[.int .i64 0, .int .i64 0, .int .i64 0, .bool false, .int .i64 0], .bool false]) (by simp [results, Tryz.results258, go_sem, y0, y1, y2, y3, y4]) rfl ⟨rfl, ?_⟩
      exact bst (bst (bst (bst (bst HI.out.below (by omega) _ _) (by omega) _ _) (by omega) _ _) (by omega) _ _) (by omega) _ _
    · have HG : Hid (a3 <= 1) := (show a3 <= 1 by omega)
      go_wp2
      go_roundw
      case rel => exact ⟨3 + 1, by omega, rfl, HI.out, fun _ => HJ.out.1 (by omega), fun _ => HJ.out.2.1 (by omega), fun _ => HJ.out.2.2.1 (by omega), fun _ => HG.out, fun h => absurd h (by omega), fun h => absurd h (by omega), fun h => absurd h (by omega), fun h => absurd h (by omega)⟩
      case measure => simp [intOf]
  · have y : wr.cell? ⟨5, 4, none⟩ = some (.int .u64 255) := HI.out.tab.at 4
    by_cases hg : 255 < a4
    · have z := HI.out.res.fz
      have y0 := HI.out.res.c0
      have y1 := HI.out.res.c1
      have y2 := HI.out.res.c2
      have y3 := HI.out.res.c3
      have y4 := HI.out.res.c4
      go_wp2
      refine bodyPost_ret (v := .tuple #[.agg #[.int .i64 0, .int .i64 0, .int .i64 0, .bool false, .int .i64 0], .bool false]) (by simp [results, Tryz.results258, go_sem, y0, y1, y2, y3, y4]) rfl ⟨rfl, ?_⟩
      exact bst (bst (bst (bst (bst HI.out.below (by omega) _ _) (by omega) _ _) (by omega) _ _) (by omega) _ _) (by omega) _ _
    · have HG : Hid (a4 <= 255) := (show a4 <= 255 by omega)
      go_wp2
      go_roundw
      case rel => exact ⟨4 + 1, by omega, rfl, HI.out, fun _ => HJ.out.1 (by omega), fun _ => HJ.out.2.1 (by omega), fun _ => HJ.out.2.2.1 (by omega), fun _ => HJ.out.2.2.2.1 (by omega), fun _ => HG.out, fun h => absurd h (by omega), fun h => absurd h (by omega), fun h => absurd h (by omega)⟩
      case measure => simp [intOf]
  · have y : wr.cell? ⟨5, 5, none⟩ = some (.int .u64 0) := HI.out.tab.at 5
    by_cases hg : 0 < a5
    · have z := HI.out.res.fz
      have y0 := HI.out.res.c0
      have y1 := HI.out.res.c1
      have y2 := HI.out.res.c2
      have y3 := HI.out.res.c3
      have y4 := HI.out.res.c4
      go_wp2
      refine bodyPost_ret (v := .tuple #[.agg #[.int .i64 0, .int .i64 0, .int .i64 0, .bool false, .int .i64 0], .bool false]) (by simp [results, Tryz.results258, go_sem, y0, y1, y2, y3, y4]) rfl ⟨rfl, ?_⟩
      exact bst (bst (bst (bst (bst HI.out.below (by omega) _ _) (by omega) _ _) (by omega) _ _) (by omega) _ _) (by omega) _ _
    · have HG : Hid (a5 <= 0) := (show a5 <= 0 by omega)
      go_wp2
      go_roundw
      case rel => exact ⟨5 + 1, by omega, rfl, HI.out, fun _ => HJ.out.1 (by omega), fun _ => HJ.out.2.1 (by omega), fun _ => HJ.out.2.2.1 (by omega), fun _ => HJ.out.2.2.2.1 (by omega), fun _ => HJ.out.2.2.2.2.1 (by omega), fun _ => HG.out, fun h => absurd h (by omega), fun h => absurd h (by omega)⟩
      case measure => simp [intOf]
  · have y : wr.cell? ⟨5, 6, none⟩ = some (.int .u64 0) := HI.out.tab.at 6
    by_cases hg : 0 < a6
    · have z := HI.out.res.fz
      have y0 := HI.out.res.c0
      have y1 := HI.out.res.c1
      have y2 := HI.out.res.c2
      have y3 := HI.out.res.c3
      have y4 := HI.out.res.c4
      go_wp2
      refine bodyPost_ret (v := .tuple #[.agg #[.int .i64 0, .int .i64 0, .int .i64 0, .bool false, .int .i64 0], .bool false]) (by simp [results, Tryz.results258, go_sem, y0, y1, y2, y3, y4]) rfl ⟨rfl, ?_⟩
      exact bst (bst (bst (bst (bst HI.out.below (by omega) _ _) (by omega) _ _) (by omega) _ _) (by omega) _ _) (by omega) _ _
    · have HG : Hid (a6 <= 0) := (show a6 <= 0 by omega)
      go_wp2
      go_roundw
      case rel => exact ⟨6 + 1, by omega, rfl, HI.out, fun _ => HJ.out.1 (by omega), fun _ => HJ.out.2.1 (by omega), fun _ => HJ.out.2.2.1 (by omega), fun _ => HJ.out.2.2.2.1 (by omega), fun _ => HJ.out.2.2.2.2.1 (by omega), fun _ => HJ.out.2.2.2.2.2.1 (by omega), fun _ => HG.out, fun h => absurd h (by omega)⟩
      case measure => simp [intOf]
  · have y : wr.cell? ⟨5, 7, none⟩ = some (.int .u64 0) := HI.out.tab.at 7
    by_cases hg : 0 < a7
    · have z := HI.out.res.fz
      have y0 := HI.out.res.c0
      have y1 := HI.out.res.c1
      have y2 := HI.out.res.c2
      have y3 := HI.out.res.c3
      have y4 := HI.out.res.c4
      go_wp2
      refine bodyPost_ret (v := .tuple #[.agg #[.int .i64 0, .int .i64 0, .int .i64 0, .bool false, .int .i64 0], .bool false]) (by simp [results, Tryz.results258, go_sem, y0, y1, y2, y3, y4]) rfl ⟨rfl, ?_⟩
      exact bst (bst (bst (bst (bst HI.out.below (by omega) _ _) (by omega) _ _) (by omega) _ _) (by omega) _ _) (by omega) _ _
    · have HG : Hid (a7 <= 0) := (show a7 <= 0 by omega)
      go_wp2
      go_roundw
      case rel => exact ⟨7 + 1, by omega, rfl, HI.out, fun _ => HJ.out.1 (by omega), fun _ => HJ.out.2.1 (by omega), fun _ => HJ.out.2.2.1 (by omega), fun _ => HJ.out.2.2.2.1 (by omega), fun _ => HJ.out.2.2.2.2.1 (by omega), fun _ => HJ.out.2.2.2.2.2.1 (by omega), fun _ => HJ.out.2.2.2.2.2.2.1 (by omega), fun _ => HG.out⟩
      case measure => simp [intOf]
  · exact absurd ⟨HJ.out.1 (by omega), HJ.out.2.1 (by omega), HJ.out.2.2.1 (by omega), HJ.out.2.2.2.1 (by omega), HJ.out.2.2.2.2.1 (by omega), HJ.out.2.2.2.2.2.1 (by omega), HJ.out.2.2.2.2.2.2.1 (by omega), HJ.out.2.2.2.2.2.2.2 (by omega)⟩ HN.out
theorem ro_any (a : Nat -> Int) (h0 : ∀ j, 0 <= a j) (w : World) (hT : TabV w) : Calls Tryz.prog 258 #[.agg #[.int .u64 (a 0), .int .u64 (a 1), .int .u64 (a 2), .int .u64 (a 3), .int .u64 (a 4), .int .u64 (a 5), .int .u64 (a 6), .int .u64 (a 7)]] w fun e w' => e = .returned (.tuple #[.agg #[.int .i64 (wvX a).th, .int .i64 (wvX a).pa, .int .i64 (wvX a).co, .bool (wvX a).wa, .int .i64 (wvX a).lo], .bool (wvB a)]) /\ Below w.heap.size w w' := by
 by_cases h : wvB a = true
 · rw [wvX_yes h, h]
   obtain ⟨q0, q1, q2, q3, q4, q5, q6, q7⟩ := (wvB_iff h0).1 h
   have := ro_yes (a 0) (a 1) (a 2) (a 3) (a 4) (a 5) (a 6) (a 7) ⟨h0 0, q0⟩ ⟨h0 1, q1⟩ ⟨h0 2, q2⟩ ⟨h0 3, q3⟩ ⟨h0 4, q4⟩ ⟨h0 5, q5⟩ ⟨h0 6, q6⟩ ⟨h0 7, q7⟩ w hT
   rwa [show (a 3 == 1) = decide (a 3 = 1) by cases hx : decide (a 3 = 1) <;> simp at hx <;> simp [hx]] at this
 · have h' := Bool.eq_false_iff.2 h
   rw [wvX_no h', h']
   exact ro_no (a 0) (a 1) (a 2) (a 3) (a 4) (a 5) (a 6) (a 7) (fun q => h ((wvB_iff h0).2 q)) w hT
theorem check_any (c : Rv) (hc : Fv c) (w : World) (hT : TabV w) : Calls Tryz.prog 216 #[.agg #[.int .i64 c.th, .int .i64 c.pa, .int .i64 c.co, .bool c.wa, .int .i64 c.lo]] w fun e w' => e = .returned (.int .i64 (vkE c)) /\ Below w.heap.size w w' := by
 have HO : Hid (∀ wc, Calls Tryz.prog 259 #[.agg #[.int .i64 c.th, .int .i64 c.pa, .int .i64 c.co, .bool c.wa, .int .i64 c.lo]] wc fun e w' => e = .returned (.agg #[.int .u64 (wsF c 0), .int .u64 (wsF c 1), .int .u64 (wsF c 2), .int .u64 (wsF c 3), .int .u64 (wsF c 4), .int .u64 (wsF c 5), .int .u64 (wsF c 6), .int .u64 (wsF c 7)]) /\ Below wc.heap.size wc w') := fun wc => words_any c hc wc
 have HR : Hid (∀ wc, TabV wc -> Calls Tryz.prog 258 #[.agg #[.int .u64 (wsF c 0), .int .u64 (wsF c 1), .int .u64 (wsF c 2), .int .u64 (wsF c 3), .int .u64 (wsF c 4), .int .u64 (wsF c 5), .int .u64 (wsF c 6), .int .u64 (wsF c 7)]] wc fun e w' => e = .returned (.tuple #[.agg #[.int .i64 (wvX (wsF c)).th, .int .i64 (wvX (wsF c)).pa, .int .i64 (wvX (wsF c)).co, .bool (wvX (wsF c)).wa, .int .i64 (wvX (wsF c)).lo], .bool (voB c)]) /\ Below wc.heap.size wc w') := fun wc h => by
  have := ro_any (wsF c) (wsF_pos hc) wc h
  rwa [wvB_w hc] at this
 have Hw : Hid (TabV (w.alloc (.cells #[.int .i64 c.th, .int .i64 c.pa, .int .i64 c.co, .bool c.wa, .int .i64 c.lo] 193)) /\ Below w.heap.size w (w.alloc (.cells #[.int .i64 c.th, .int .i64 c.pa, .int .i64 c.co, .bool c.wa, .int .i64 c.lo] 193))) := ⟨hT.on (bal (Below.refl _ _) _), bal (Below.refl _ _) _⟩
 clear hc hT
 generalize wvX (wsF c) = y at HR
 generalize wsF c 0 = a0 at HO HR
 generalize wsF c 1 = a1 at HO HR
 generalize wsF c 2 = a2 at HO HR
 generalize wsF c 3 = a3 at HO HR
 generalize wsF c 4 = a4 at HO HR
 generalize wsF c 5 = a5 at HO HR
 generalize wsF c 6 = a6 at HO HR
 generalize wsF c 7 = a7 at HO HR
 have e : vkE c = if voB c = true then 0 else 1 := rfl
 rw [e]
 generalize voB c = R at HR
 cases R
 all_goals
  go_enter Tryz.func216, Tryz.ntmps216
  go_wp2_with (first
   | (go_at_call 259; refine (HO.out _).mono ?_; rintro e1 w1 ⟨rfl, hb⟩; have H1 : Hid (TabV w1 /\ Below w.heap.size w w1) := ⟨Hw.out.1.on hb, Hw.out.2.trans (hb.mono Hw.out.2.size)⟩; clear hb HO Hw)
   | (go_at_call 258; refine (HR.out _ H1.out.1).mono ?_; rintro e2 w2 ⟨rfl, hb⟩; have H2 : Hid (Below w.heap.size w w2) := H1.out.2.trans (hb.mono H1.out.2.size); clear hb HR H1)
   | fail)
  go_ret
  exact ⟨rfl, bal H2.out _⟩
structure Mv (w : World) (p b N : Nat) (M : Nat -> Nat -> Int) : Prop where
 mx : Mx w p b N M
 vt : TabV w
theorem Mv.on {w w' : World} {p b N : Nat} {M : Nat -> Nat -> Int} (h : Mv w p b N M) (hB : Below w.heap.size w w') : Mv w' p b N M := ⟨h.mx.on hB, h.vt.on hB⟩
theorem Mv.but {w w' : World} {p b N : Nat} {M M' : Nat -> Nat -> Int} (h : Mv w p b N M) (hM : MemIs w' p b N M') (hF : Fit M') (hB : But b w w') : Mv w' p b N M' :=
 ⟨h.mx.but hM hF hB, h.vt.but hB (tabV_ne h.mx.mem h.mx.n1 h.vt)⟩
structure WrI (w W : World) (p b N : Nat) (M : Nat -> Nat -> Int) : Prop where
 mem : MemIs W p b N M
 but : But b w W
theorem WrI.turn {w W : World} {p b N : Nat} {M : Nat -> Nat -> Int} (h : WrI w W p b N M) (M' : Nat -> Nat -> Int) : WrI w (W.setRow b (cellsM N M')) p b N M' := ⟨h.mem.set M', h.but.setRow _⟩
def laK (N : Nat) (M : Nat -> Nat -> Int) (f : Int) (c : Rv) (k : Nat) : Nat -> Nat -> Int := layF N M f (c.ws.take k)
theorem laK0 (N : Nat) (M : Nat -> Nat -> Int) (f : Int) (c : Rv) : stW N (laK N M f c 0) f 4 c.th = laK N M f c 1 := lay_step (l := c.ws.take 0) (by show 0 < 32; omega) c.th
theorem laK1 (N : Nat) (M : Nat -> Nat -> Int) (f : Int) (c : Rv) : stW N (laK N M f c 1) f 5 c.pa = laK N M f c 2 := lay_step (l := c.ws.take 1) (by show 1 < 32; omega) c.pa
theorem laK2 (N : Nat) (M : Nat -> Nat -> Int) (f : Int) (c : Rv) : stW N (laK N M f c 2) f 6 c.co = laK N M f c 3 := lay_step (l := c.ws.take 2) (by show 2 < 32; omega) c.co
theorem laK3 (N : Nat) (M : Nat -> Nat -> Int) (f : Int) (c : Rv) : stW N (laK N M f c 3) f 7 (vz c.wa) = laK N M f c 4 := lay_step (l := c.ws.take 3) (by show 3 < 32; omega) (vz c.wa)
theorem laK4 (N : Nat) (M : Nat -> Nat -> Int) (f : Int) (c : Rv) : stW N (laK N M f c 4) f 8 c.lo = laK N M f c 5 := lay_step (l := c.ws.take 4) (by show 4 < 32; omega) c.lo
theorem laK5 (N : Nat) (M : Nat -> Nat -> Int) (f : Int) (c : Rv) : stW N (laK N M f c 5) f 9 0 = laK N M f c 6 := lay_step (l := c.ws.take 5) (by show 5 < 32; omega) 0
theorem laK6 (N : Nat) (M : Nat -> Nat -> Int) (f : Int) (c : Rv) : stW N (laK N M f c 6) f 10 0 = laK N M f c 7 := lay_step (l := c.ws.take 6) (by show 6 < 32; omega) 0
theorem laK7 (N : Nat) (M : Nat -> Nat -> Int) (f : Int) (c : Rv) : stW N (laK N M f c 7) f 11 0 = laK N M f c 8 := lay_step (l := c.ws.take 7) (by show 7 < 32; omega) 0
theorem words_vo (c : Rv) (hc : Vo c) (w : World) : Calls Tryz.prog 259 #[.agg #[.int .i64 c.th, .int .i64 c.pa, .int .i64 c.co, .bool c.wa, .int .i64 c.lo]] w fun e w' => e = .returned (.agg #[.int .u64 c.th, .int .u64 c.pa, .int .u64 c.co, .int .u64 (vz c.wa), .int .u64 c.lo, .int .u64 0, .int .u64 0, .int .u64 0]) /\ Below w.heap.size w w' := by
 have := words_any c hc.fv w
 obtain ⟨e0, e1, e2, e4⟩ := wsF_vo hc
 rwa [e0, e1, e2, e4, show wsF c 3 = vz c.wa from rfl, show wsF c 5 = 0 from rfl, show wsF c 6 = 0 from rfl, show wsF c 7 = 0 from rfl] at this
theorem write_any (p b N : Nat) (f : Int) (c : Rv) (M : Nat -> Nat -> Int) (w : World) (hM : Mv w p b N M) (hc : Vo c) (hf : okF N f = true) :
 Calls Tryz.prog 217 #[.pointer (some ⟨p, 0, none⟩), .int .i64 f, .agg #[.int .i64 c.th, .int .i64 c.pa, .int .i64 c.co, .bool c.wa, .int .i64 c.lo]] w fun e w' => e = .returned (.int .i64 0) /\ Mv w' p b N (layF N M f c.ws) /\ But b w w' := by
 have HO : Hid (∀ wc, Calls Tryz.prog 259 #[.agg #[.int .i64 c.th, .int .i64 c.pa, .int .i64 c.co, .bool c.wa, .int .i64 c.lo]] wc fun e w' => e = .returned (.agg #[.int .u64 c.th, .int .u64 c.pa, .int .u64 c.co, .int .u64 (vz c.wa), .int .u64 c.lo, .int .u64 0, .int .u64 0, .int .u64 0]) /\ Below wc.heap.size wc w') := fun wc => words_vo c hc wc
 have hS : ∀ (k : Nat) (v : Int) (M1 : Nat -> Nat -> Int), k < 8 -> ∀ wc, WrI w wc p b N M1 -> Calls Tryz.prog 57 #[.pointer (some ⟨p, 0, none⟩), .int .i64 f, .int .i64 ((4 + k : Nat) : Int), .int .u64 v] wc fun e w' => e = .returned (.int .i64 0) /\ WrI w w' p b N (stW N M1 f ((4 + k : Nat) : Int) v) := fun k v M1 hk wc h => by
  have := store_any p b N f ((4 + k : Nat) : Int) v M1 wc hM.mx.n1 hM.mx.n64 h.mem
  have ho : okW N f ((4 + k : Nat) : Int) = true := by unfold okW; rw [hf]; simp; omega
  rw [show errW N f ((4 + k : Nat) : Int) = 0 by unfold errW; rw [ho]; rfl] at this
  exact this.mono fun e w' ⟨h1, h2⟩ => ⟨h1, by rw [h2]; exact h.turn _⟩
 have HS0 : Hid (∀ wc, WrI w wc p b N (laK N M f c 0) -> Calls Tryz.prog 57 #[.pointer (some ⟨p, 0, none⟩), .int .i64 f, .int .i64 4, .int .u64 c.th] wc fun e w' => e = .returned (.int .i64 0) /\ WrI w w' p b N (laK N M f c 1)) := fun wc h => by
  have := hS 0 c.th _ (by omega) wc h
  rwa [show ((4 + 0 : Nat) : Int) = 4 from rfl, laK0] at this
 have i0 := vix0 c.th c.pa c.co (vz c.wa) c.lo 0 0 0
 have HS1 : Hid (∀ wc, WrI w wc p b N (laK N M f c 1) -> Calls Tryz.prog 57 #[.pointer (some ⟨p, 0, none⟩), .int .i64 f, .int .i64 5, .int .u64 c.pa] wc fun e w' => e = .returned (.int .i64 0) /\ WrI w w' p b N (laK N M f c 2)) := fun wc h => by
  have := hS 1 c.pa _ (by omega) wc h
  rwa [show ((4 + 1 : Nat) : Int) = 5 from rfl, laK1] at this
 have i1 := vix1 c.th c.pa c.co (vz c.wa) c.lo 0 0 0
 have HS2 : Hid (∀ wc, WrI w wc p b N (laK N M f c 2) -> Calls Tryz.prog 57 #[.pointer (some ⟨p, 0, none⟩), .int .i64 f, .int .i64 6, .int .u64 c.co] wc fun e w' => e = .returned (.int .i64 0) /\ WrI w w' p b N (laK N M f c 3)) := fun wc h => by
  have := hS 2 c.co _ (by omega) wc h
  rwa [show ((4 + 2 : Nat) : Int) = 6 from rfl, laK2] at this
 have i2 := vix2 c.th c.pa c.co (vz c.wa) c.lo 0 0 0
 have HS3 : Hid (∀ wc, WrI w wc p b N (laK N M f c 3) -> Calls Tryz.prog 57 #[.pointer (some ⟨p, 0, none⟩), .int .i64 f, .int .i64 7, .int .u64 (vz c.wa)] wc fun e w' => e = .returned (.int .i64 0) /\ WrI w w' p b N (laK N M f c 4)) := fun wc h => by
  have := hS 3 (vz c.wa) _ (by omega) wc h
  rwa [show ((4 + 3 : Nat) : Int) = 7 from rfl, laK3] at this
 have i3 := vix3 c.th c.pa c.co (vz c.wa) c.lo 0 0 0
 have HS4 : Hid (∀ wc, WrI w wc p b N (laK N M f c 4) -> Calls Tryz.prog 57 #[.pointer (some ⟨p, 0, none⟩), .int .i64 f, .int .i64 8, .int .u64 c.lo] wc fun e w' => e = .returned (.int .i64 0) /\ WrI w w' p b N (laK N M f c 5)) := fun wc h => by
  have := hS 4 c.lo _ (by omega) wc h
  rwa [show ((4 + 4 : Nat) : Int) = 8 from rfl, laK4] at this
 have i4 := vix4 c.th c.pa c.co (vz c.wa) c.lo 0 0 0
 have HS5 : Hid (∀ wc, WrI w wc p b N (laK N M f c 5) -> Calls Tryz.prog 57 #[.pointer (some ⟨p, 0, none⟩), .int .i64 f, .int .i64 9, .int .u64 0] wc fun e w' => e = .returned (.int .i64 0) /\ WrI w w' p b N (laK N M f c 6)) := fun wc h => by
  have := hS 5 0 _ (by omega) wc h
  rwa [show ((4 + 5 : Nat) : Int) = 9 from rfl, laK5] at this
 have i5 := vix5 c.th c.pa c.co (vz c.wa) c.lo 0 0 0
 have HS6 : Hid (∀ wc, WrI w wc p b N (laK N M f c 6) -> Calls Tryz.prog 57 #[.pointer (some ⟨p, 0, none⟩), .int .i64 f, .int .i64 10, .int .u64 0] wc fun e w' => e = .returned (.int .i64 0) /\ WrI w w' p b N (laK N M f c 7)) := fun wc h => by
  have := hS 6 0 _ (by omega) wc h
  rwa [show ((4 + 6 : Nat) : Int) = 10 from rfl, laK6] at this
 have i6 := vix6 c.th c.pa c.co (vz c.wa) c.lo 0 0 0
 have HS7 : Hid (∀ wc, WrI w wc p b N (laK N M f c 7) -> Calls Tryz.prog 57 #[.pointer (some ⟨p, 0, none⟩), .int .i64 f, .int .i64 11, .int .u64 0] wc fun e w' => e = .returned (.int .i64 0) /\ WrI w w' p b N (laK N M f c 8)) := fun wc h => by
  have := hS 7 0 _ (by omega) wc h
  rwa [show ((4 + 7 : Nat) : Int) = 11 from rfl, laK7] at this
 have i7 := vix7 c.th c.pa c.co (vz c.wa) c.lo 0 0 0
 have Hw : Hid (WrI w (w.alloc (.cells #[.int .i64 c.th, .int .i64 c.pa, .int .i64 c.co, .bool c.wa, .int .i64 c.lo] 193)) p b N (laK N M f c 0)) := by
  have e : laK N M f c 0 = M := lay_nil N M f
  rw [e]
  exact ⟨hM.mx.mem.grown (bal (Below.refl _ _) _), But.of_below b (bal (Below.refl _ _) _)⟩
 have HE : Hid (∀ W, WrI w W p b N (laK N M f c 8) -> Mv W p b N (layF N M f c.ws) /\ But b w W) := fun W h => ⟨hM.but h.mem (fit_lay hM.mx.fit N f hc.fit) h.but, h.but⟩
 clear hS hM hf hc
 generalize layF N M f c.ws = M5 at HE ⊢
 generalize laK N M f c = K at *
 generalize vz c.wa = I at *
 go_enter Tryz.func217, Tryz.ntmps217
 go_wp2_with (first
  | (go_at_call 259; refine (HO.out _).mono ?_; rintro e1 w1 ⟨rfl, hb⟩; have H1 : Hid (WrI w w1 p b N (K 0)) := ⟨Hw.out.mem.grown hb, Hw.out.but.trans (But.of_below b hb)⟩; clear hb HO Hw)
  | fail)
 go_loopw [12] (fun i wr => ∃ k : Nat, k <= 8 /\ i = .int .i64 k /\ WrI w wr p b N (K k)) (fun i _ => 8 - (intOf i).toNat)
 case atStart => exact ⟨0, by omega, rfl, H1.out⟩
 case round =>
  obtain ⟨k, hk, rfl, hI⟩ := hrel
  have HI := rhide hI
  clear hI H1
  rcases (show k = 0 \/ k = 1 \/ k = 2 \/ k = 3 \/ k = 4 \/ k = 5 \/ k = 6 \/ k = 7 \/ k = 8 by omega) with rfl | rfl | rfl | rfl | rfl | rfl | rfl | rfl | rfl
  · clear HS1 HS2 HS3 HS4 HS5 HS6 HS7
    go_wp2_with (first
     | (go_at_call 57; refine (HS0.out _ HI.out).mono ?_; rintro e2 w2 ⟨rfl, hw⟩; have H2 := rhide hw; clear hw)
     | fail)
    go_roundw
    case rel => exact ⟨0 + 1, by omega, rfl, H2.out⟩
    case measure => simp [intOf]
  · clear HS0 HS2 HS3 HS4 HS5 HS6 HS7
    go_wp2_with (first
     | (go_at_call 57; refine (HS1.out _ HI.out).mono ?_; rintro e2 w2 ⟨rfl, hw⟩; have H2 := rhide hw; clear hw)
     | fail)
    go_roundw
    case rel => exact ⟨1 + 1, by omega, rfl, H2.out⟩
    case measure => simp [intOf]
  · clear HS0 HS1 HS3 HS4 HS5 HS6 HS7
    go_wp2_with (first
     | (go_at_call 57; refine (HS2.out _ HI.out).mono ?_; rintro e2 w2 ⟨rfl, hw⟩; have H2 := rhide hw; clear hw)
     | fail)
    go_roundw
    case rel => exact ⟨2 + 1, by omega, rfl, H2.out⟩
    case measure => simp [intOf]
  · clear HS0 HS1 HS2 HS4 HS5 HS6 HS7
    go_wp2_with (first
     | (go_at_call 57; refine (HS3.out _ HI.out).mono ?_; rintro e2 w2 ⟨rfl, hw⟩; have H2 := rhide hw; clear hw)
     | fail)
    go_roundw
    case rel => exact ⟨3 + 1, by omega, rfl, H2.out⟩
    case measure => simp [intOf]
  · clear HS0 HS1 HS2 HS3 HS5 HS6 HS7
    go_wp2_with (first
     | (go_at_call 57; refine (HS4.out _ HI.out).mono ?_; rintro e2 w2 ⟨rfl, hw⟩; have H2 := rhide hw; clear hw)
     | fail)
    go_roundw
    case rel => exact ⟨4 + 1, by omega, rfl, H2.out⟩
    case measure => simp [intOf]
  · clear HS0 HS1 HS2 HS3 HS4 HS6 HS7
    go_wp2_with (first
     | (go_at_call 57; refine (HS5.out _ HI.out).mono ?_; rintro e2 w2 ⟨rfl, hw⟩; have H2 := rhide hw; clear hw)
     | fail)
    go_roundw
    case rel => exact ⟨5 + 1, by omega, rfl, H2.out⟩
    case measure => simp [intOf]
  · clear HS0 HS1 HS2 HS3 HS4 HS5 HS7
    go_wp2_with (first
     | (go_at_call 57; refine (HS6.out _ HI.out).mono ?_; rintro e2 w2 ⟨rfl, hw⟩; have H2 := rhide hw; clear hw)
     | fail)
    go_roundw
    case rel => exact ⟨6 + 1, by omega, rfl, H2.out⟩
    case measure => simp [intOf]
  · clear HS0 HS1 HS2 HS3 HS4 HS5 HS6
    go_wp2_with (first
     | (go_at_call 57; refine (HS7.out _ HI.out).mono ?_; rintro e2 w2 ⟨rfl, hw⟩; have H2 := rhide hw; clear hw)
     | fail)
    go_roundw
    case rel => exact ⟨7 + 1, by omega, rfl, H2.out⟩
    case measure => simp [intOf]
  · go_wp2
    go_ret
    exact ⟨rfl, (HE.out _ HI.out).1, (HE.out _ HI.out).2⟩
structure Bx (w W : World) (p b N : Nat) (M : Nat -> Nat -> Int) (c : Rv) : Prop where
 mx : Mv W p b N M
 box : RowW W w.heap.size c
 but : But b w W
 lt : b < w.heap.size
theorem bx_new {w : World} {p b N : Nat} {M : Nat -> Nat -> Int} (h : Mv w p b N M) (c : Rv) : Bx w (w.alloc (.cells #[.int .i64 c.th, .int .i64 c.pa, .int .i64 c.co, .bool c.wa, .int .i64 c.lo] 193)) p b N M c :=
 ⟨h.on (bal (Below.refl _ _) _), rowW_new w c, But.of_below b (bal (Below.refl _ _) _), h.mx.mem.lt.2⟩
theorem Bx.on {w W W' : World} {p b N : Nat} {M : Nat -> Nat -> Int} {c : Rv} (h : Bx w W p b N M c) (hB : Below W.heap.size W W') : Bx w W' p b N M c :=
 ⟨h.mx.on hB, h.box.on hB, h.but.trans (But.of_below b hB), h.lt⟩
theorem Bx.turn {w W W' : World} {p b N : Nat} {M M' : Nat -> Nat -> Int} {c : Rv} (h : Bx w W p b N M c) (hM : Mv W' p b N M') (hB : But b W W') : Bx w W' p b N M' c :=
 ⟨hM, h.box.but hB (Nat.ne_of_gt h.lt), h.but.trans hB, h.lt⟩
theorem make_any (p b N : Nat) (f : Int) (c : Rv) (M : Nat -> Nat -> Int) (w : World) (hM : Mv w p b N M) (hc : Fv c) :
 Calls Tryz.prog 132 #[.pointer (some ⟨p, 0, none⟩), .int .i64 f, .agg #[.int .i64 c.th, .int .i64 c.pa, .int .i64 c.co, .bool c.wa, .int .i64 c.lo]] w fun e w' => e = .returned (.int .i64 (vmE N f c)) /\ Mv w' p b N (vmM N M f c) /\ But b w w' := by
 have HC : Hid (∀ wc, TabV wc -> Calls Tryz.prog 216 #[.agg #[.int .i64 c.th, .int .i64 c.pa, .int .i64 c.co, .bool c.wa, .int .i64 c.lo]] wc fun e w' => e = .returned (.int .i64 (vkE c)) /\ Below wc.heap.size wc w') := fun wc hT => check_any c hc wc hT
 have HH : Hid (∀ wc, Mv wc p b N M -> Calls Tryz.prog 177 #[.pointer (some ⟨p, 0, none⟩), .int .i64 f, .agg #[.int .i64 6, .int .i64 0, .bool false, .int .i64 0]] wc fun e w' => e = .returned (.int .i64 (errF N f)) /\ Mv w' p b N (Phead.mkM N M f 6 0 false 0) /\ But b wc w') := fun wc h => by
  have := (Phead.hmake_any p b N f 6 0 false 0 M wc h.mx.n1 h.mx.n64 h.mx.mem h.mx.hd)
  rw [made_err (by omega)] at this
  refine this.mono ?_
  rintro e w' ⟨rfl, h1, h2⟩
  exact ⟨rfl, h.but h1 (Phead.fit_mk h.mx.fit N f 6 0 false 0) h2, h2⟩
 have H0 := rhide (bx_new hM c)
 clear hM hc
 by_cases hco : voB c = true
 · have e1 : vkE c = 0 := by unfold vkE; rw [if_pos hco]
   have e2 : vmE N f c = errF N f := by unfold vmE; rw [if_pos hco]
   have e3 : vmM N M f c = layF N (Phead.mkM N M f 6 0 false 0) f c.ws := by unfold vmM; rw [if_pos hco]
   rw [e1] at HC
   rw [e2, e3]
   clear e1 e2 e3
   generalize Phead.mkM N M f 6 0 false 0 = M1 at HH ⊢
   cases hf : okF N f
   · have e4 : errF N f = 1 := by unfold errF; rw [hf]; rfl
     rw [e4] at HH ⊢
     rw [lay_bad hf]
     clear e4 hf hco
     go_enter Tryz.func132, Tryz.ntmps132
     go_wp2_with (first
      | (go_at_call 216; refine (HC.out _ H0.out.mx.vt).mono ?_; rintro e1 w1 ⟨rfl, hb⟩; have H1 := rhide (H0.out.on hb); clear hb HC H0; have x0 := H1.out.box.c0; have x1 := H1.out.box.c1; have x2 := H1.out.box.c2; have x3 := H1.out.box.c3; have x4 := H1.out.box.c4)
      | (go_at_call 177; refine (HH.out _ H1.out.mx).mono ?_; rintro e2 w2 ⟨rfl, hm, hb⟩; have H2 := rhide (H1.out.turn hm hb); clear hm hb HH H1)
      | fail)
     go_ret
     exact ⟨rfl, H2.out.mx, H2.out.but⟩
   · have e4 : errF N f = 0 := by unfold errF; rw [if_pos hf]
     rw [e4] at HH ⊢
     have HW : Hid (∀ wc, Mv wc p b N M1 -> Calls Tryz.prog 217 #[.pointer (some ⟨p, 0, none⟩), .int .i64 f, .agg #[.int .i64 c.th, .int .i64 c.pa, .int .i64 c.co, .bool c.wa, .int .i64 c.lo]] wc fun e w' => e = .returned (.int .i64 0) /\ Mv w' p b N (layF N M1 f c.ws) /\ But b wc w') := fun wc h => write_any p b N f c M1 wc h ((voB_iff c).1 hco) hf
     clear e4 hf hco
     go_enter Tryz.func132, Tryz.ntmps132
     go_wp2_with (first
      | (go_at_call 216; refine (HC.out _ H0.out.mx.vt).mono ?_; rintro e1 w1 ⟨rfl, hb⟩; have H1 := rhide (H0.out.on hb); clear hb HC H0)
      | (go_at_call 177; refine (HH.out _ H1.out.mx).mono ?_; rintro e2 w2 ⟨rfl, hm, hb⟩; have H2 := rhide (H1.out.turn hm hb); clear hm hb HH H1; have x0 := H2.out.box.c0; have x1 := H2.out.box.c1; have x2 := H2.out.box.c2; have x3 := H2.out.box.c3; have x4 := H2.out.box.c4)
      | (go_at_call 217; refine (HW.out _ H2.out.mx).mono ?_; rintro e3 w3 ⟨rfl, hm, hb⟩; have H3 := rhide (H2.out.turn hm hb); clear hm hb HW H2)
      | fail)
     go_ret
     exact ⟨rfl, H3.out.mx, H3.out.but⟩
 · have e1 : vkE c = 1 := by unfold vkE; rw [if_neg hco]
   have e2 : vmE N f c = 1 := by unfold vmE; rw [if_neg hco]
   have e3 : vmM N M f c = M := by unfold vmM; rw [if_neg hco]
   rw [e1] at HC
   rw [e2, e3]
   clear e1 e2 e3 HH hco
   go_enter Tryz.func132, Tryz.ntmps132
   go_wp2_with (first
    | (go_at_call 216; refine (HC.out _ H0.out.mx.vt).mono ?_; rintro e1 w1 ⟨rfl, hb⟩; have H1 := rhide (H0.out.on hb); clear hb HC H0)
    | fail)
   go_ret
   exact ⟨rfl, H1.out.mx, H1.out.but⟩
end Pqrcv
namespace Pqrcv
open Pbase Pfield Play Pmem Go.RowKit Go.ChangeShapes Go.WideShapes Go.Deep
theorem cellsU64 : Tryz.prog.cellsOf 83 = 1 := by kernel_rfl
theorem array_words {w : World} {fuel n : Nat} {t : TypeId} {cs : List Value} {zs : List Int} {p : List MemPlace} (ht : Tryz.prog.underlying t = some (.array n 83)) (hn : Tryz.prog.cellsOf t = n)
 (h : DataW.trod (fun _ => ()) Tryz.prog w 0 (fun _ => true) false fuel t cs = some (.agg (zs.map fun z => .lit (.int .u64 z)), p)) : zs.length = n /\ cs.length = n /\ ∀ j, j < n -> cs[j]? = some (.int .u64 (zs[j]?.getD 0)) := by
 obtain ⟨xs, m, _, hx, hl, hxl, hel⟩ := DataW.trod_array ht h
 simp only [Prod.mk.injEq, DataW.agg.injEq] at hx
 have hz : zs.length = n := by have := congrArg List.length hx.1; simpa [hxl] using this
 refine ⟨hz, hl.trans hn, fun j hj => ?_⟩
 have hj' := hel j hj
 have hxj : j < xs.length := by omega
 rw [List.getElem?_eq_getElem hxj, cellsU64, Nat.mul_one] at hj'
 obtain ⟨k, e1, e2, _⟩ := DataW.trod_int Tryz.underlying83 hj'
 have hjc : j < cs.length := by omega
 rw [List.drop_eq_getElem_cons hjc, List.take_succ_cons, List.take_zero, List.cons.injEq] at e1
 rw [List.getElem?_eq_getElem hjc, e1.1]
 have hh := congrArg (fun l => l[j]?) hx.1
 simp [hxj, show j < zs.length by omega] at hh
 rw [e2] at hh
 simp at hh
 simp [show j < zs.length by omega, hh]
def mostL : List Int := [63, 64, 255, 1, 255, 0, 0, 0]
theorem gTmost : (Tryz.prog.globals[(5 : Nat)]?).map (·.type) = some 388 := by kernel_rfl
theorem cellsWords : Tryz.prog.cellsOf 388 = 8 := by kernel_rfl
theorem most_datum :  (Rows.laid_palanquin_rcv_most : DataW Unit) = .agg (mostL.map fun z => .lit (.int .u64 z)) := rfl
theorem tabV_of {W : World} {g : Nat} {t : TypeId} {cs : Array Value} {fuel : Nat} {p : List MemPlace} {n : String} (hn : Tryz.prog.globalNamed n = some 5) (hg : Tryz.prog.globalNamed n = some g) (ht : (Tryz.prog.globals[g]?).map (·.type) = some t) (hv : W.var? Tryz.prog n = some cs)
 (hd : DataW.trod (fun _ => ()) Tryz.prog W 0 (fun _ => true) false fuel t cs.toList = some (Rows.laid_palanquin_rcv_most, p)) : TabV W := by
 obtain rfl := Option.some.inj (hn.symm.trans hg)
 obtain rfl := Option.some.inj (gTmost.symm.trans ht)
 obtain ⟨t1, fr, hb⟩ := var_block hg hv
 refine ⟨block_lt hb, t1, fr, ?_⟩
 rw [most_datum] at hd
 obtain ⟨_, hl, hc⟩ := array_words Tryz.underlying388 cellsWords hd
 obtain ⟨cl⟩ := cs
 simp only at hl hc hb
 match cl, hl with
 | [v0, v1, v2, v3, v4, v5, v6, v7], _ =>
   have g0 := hc 0 (by omega)
   have g1 := hc 1 (by omega)
   have g2 := hc 2 (by omega)
   have g3 := hc 3 (by omega)
   have g4 := hc 4 (by omega)
   have g5 := hc 5 (by omega)
   have g6 := hc 6 (by omega)
   have g7 := hc 7 (by omega)
   simp [mostL] at g0 g1 g2 g3 g4 g5 g6 g7
   rw [hb, g0, g1, g2, g3, g4, g5, g6, g7]
end Pqrcv
namespace Pqrcv
open Pbase Pfield Play Pmem Pring Go.RowKit M
theorem voB_in (c : Rv) : voB c = (Play.inB c.th 0 63 && Play.inB c.pa 0 64 && Play.inB c.co 0 255 && Play.inB c.lo 0 255) := rfl
theorem vright_any (c : Rv) (w : World) : Calls Tryz.prog 218 #[.agg #[.int .i64 c.th, .int .i64 c.pa, .int .i64 c.co, .bool c.wa, .int .i64 c.lo]] w fun e w' => e = .returned (.bool (voB c)) /\ Below w.heap.size w w' := by
 have I0 : Hid (∀ wc, Calls Tryz.prog 240 #[.int .i64 c.th, .int .i64 0, .int .i64 63] wc fun e w' => e = .returned (.bool (Play.inB c.th 0 63)) /\ w' = wc) := fun wc => in_any c.th 0 63 wc
 have I1 : Hid (∀ wc, Calls Tryz.prog 240 #[.int .i64 c.pa, .int .i64 0, .int .i64 64] wc fun e w' => e = .returned (.bool (Play.inB c.pa 0 64)) /\ w' = wc) := fun wc => in_any c.pa 0 64 wc
 have I2 : Hid (∀ wc, Calls Tryz.prog 240 #[.int .i64 c.co, .int .i64 0, .int .i64 255] wc fun e w' => e = .returned (.bool (Play.inB c.co 0 255)) /\ w' = wc) := fun wc => in_any c.co 0 255 wc
 have I3 : Hid (∀ wc, Calls Tryz.prog 240 #[.int .i64 c.lo, .int .i64 0, .int .i64 255] wc fun e w' => e = .returned (.bool (Play.inB c.lo 0 255)) /\ w' = wc) := fun wc => in_any c.lo 0 255 wc
 rw [voB_in]
 generalize Play.inB c.th 0 63 = R0 at I0 ⊢
 generalize Play.inB c.pa 0 64 = R1 at I1 ⊢
 generalize Play.inB c.co 0 255 = R2 at I2 ⊢
 generalize Play.inB c.lo 0 255 = R3 at I3 ⊢
 cases R0
 · show Calls Tryz.prog 218 _ w fun e w' => e = .returned (.bool false) /\ Below w.heap.size w w'
   go_enter Tryz.func218, Tryz.ntmps218
   go_wp2_with (first
    | (go_at_call 240; refine (I0.out _).mono ?_; rintro e0 w0 ⟨rfl, hw⟩; subst hw; clear I0)
    | (go_at_call 240; refine (I1.out _).mono ?_; rintro e1 w1 ⟨rfl, hw⟩; subst hw; clear I1)
    | (go_at_call 240; refine (I2.out _).mono ?_; rintro e2 w2 ⟨rfl, hw⟩; subst hw; clear I2)
    | (go_at_call 240; refine (I3.out _).mono ?_; rintro e3 w3 ⟨rfl, hw⟩; subst hw; clear I3)
    | fail)
   go_ret
   exact ⟨rfl, bal (Below.refl _ _) _⟩
 cases R1
 · show Calls Tryz.prog 218 _ w fun e w' => e = .returned (.bool false) /\ Below w.heap.size w w'
   go_enter Tryz.func218, Tryz.ntmps218
   go_wp2_with (first
    | (go_at_call 240; refine (I0.out _).mono ?_; rintro e0 w0 ⟨rfl, hw⟩; subst hw; clear I0)
    | (go_at_call 240; refine (I1.out _).mono ?_; rintro e1 w1 ⟨rfl, hw⟩; subst hw; clear I1)
    | (go_at_call 240; refine (I2.out _).mono ?_; rintro e2 w2 ⟨rfl, hw⟩; subst hw; clear I2)
    | (go_at_call 240; refine (I3.out _).mono ?_; rintro e3 w3 ⟨rfl, hw⟩; subst hw; clear I3)
    | fail)
   go_ret
   exact ⟨rfl, bal (Below.refl _ _) _⟩
 cases R2
 · show Calls Tryz.prog 218 _ w fun e w' => e = .returned (.bool false) /\ Below w.heap.size w w'
   go_enter Tryz.func218, Tryz.ntmps218
   go_wp2_with (first
    | (go_at_call 240; refine (I0.out _).mono ?_; rintro e0 w0 ⟨rfl, hw⟩; subst hw; clear I0)
    | (go_at_call 240; refine (I1.out _).mono ?_; rintro e1 w1 ⟨rfl, hw⟩; subst hw; clear I1)
    | (go_at_call 240; refine (I2.out _).mono ?_; rintro e2 w2 ⟨rfl, hw⟩; subst hw; clear I2)
    | (go_at_call 240; refine (I3.out _).mono ?_; rintro e3 w3 ⟨rfl, hw⟩; subst hw; clear I3)
    | fail)
   go_ret
   exact ⟨rfl, bal (Below.refl _ _) _⟩
 cases R3
 · show Calls Tryz.prog 218 _ w fun e w' => e = .returned (.bool false) /\ Below w.heap.size w w'
   go_enter Tryz.func218, Tryz.ntmps218
   go_wp2_with (first
    | (go_at_call 240; refine (I0.out _).mono ?_; rintro e0 w0 ⟨rfl, hw⟩; subst hw; clear I0)
    | (go_at_call 240; refine (I1.out _).mono ?_; rintro e1 w1 ⟨rfl, hw⟩; subst hw; clear I1)
    | (go_at_call 240; refine (I2.out _).mono ?_; rintro e2 w2 ⟨rfl, hw⟩; subst hw; clear I2)
    | (go_at_call 240; refine (I3.out _).mono ?_; rintro e3 w3 ⟨rfl, hw⟩; subst hw; clear I3)
    | fail)
   go_ret
   exact ⟨rfl, bal (Below.refl _ _) _⟩
 · show Calls Tryz.prog 218 _ w fun e w' => e = .returned (.bool true) /\ Below w.heap.size w w'
   go_enter Tryz.func218, Tryz.ntmps218
   go_wp2_with (first
    | (go_at_call 240; refine (I0.out _).mono ?_; rintro e0 w0 ⟨rfl, hw⟩; subst hw; clear I0)
    | (go_at_call 240; refine (I1.out _).mono ?_; rintro e1 w1 ⟨rfl, hw⟩; subst hw; clear I1)
    | (go_at_call 240; refine (I2.out _).mono ?_; rintro e2 w2 ⟨rfl, hw⟩; subst hw; clear I2)
    | (go_at_call 240; refine (I3.out _).mono ?_; rintro e3 w3 ⟨rfl, hw⟩; subst hw; clear I3)
    | fail)
   go_ret
   exact ⟨rfl, bal (Below.refl _ _) _⟩
theorem vwords_any (c : Rv) (w : World) : Calls Tryz.prog 219 #[.agg #[.int .i64 c.th, .int .i64 c.pa, .int .i64 c.co, .bool c.wa, .int .i64 c.lo]] w fun e w' => e = .returned (.slice (some ⟨w.heap.size + 1, 0, none⟩) 8 8) /\ Nums w' (w.heap.size + 1) c.ws /\ Below w.heap.size w w' := by
 obtain ⟨t, p, c, i, l⟩ := c
 cases i
 · go_enter Tryz.func219, Tryz.ntmps219
   go_wp2
   go_ret
   refine ⟨rfl, ?_, bal (bal (Below.refl _ _) _) _⟩
   have e := heap_alloc_new (w.alloc (.cells #[.int .i64 t, .int .i64 p, .int .i64 c, .bool false, .int .i64 l] 193)) (.cells #[.int .i64 t, .int .i64 p, .int .i64 c, .int .i64 0, .int .i64 l, .int .i64 0, .int .i64 0, .int .i64 0] 3)
   rw [World.size_alloc] at e
   refine ⟨_, e, fun j hj => ?_⟩
   rw [vs_len] at hj
   rcases (show j = 0 \/ j = 1 \/ j = 2 \/ j = 3 \/ j = 4 \/ j = 5 \/ j = 6 \/ j = 7 by omega) with rfl | rfl | rfl | rfl | rfl | rfl | rfl | rfl <;> rfl
 · go_enter Tryz.func219, Tryz.ntmps219
   go_wp2
   go_ret
   refine ⟨rfl, ?_, bal (bal (Below.refl _ _) _) _⟩
   have e := heap_alloc_new (w.alloc (.cells #[.int .i64 t, .int .i64 p, .int .i64 c, .bool true, .int .i64 l] 193)) (.cells #[.int .i64 t, .int .i64 p, .int .i64 c, .int .i64 1, .int .i64 l, .int .i64 0, .int .i64 0, .int .i64 0] 3)
   rw [World.size_alloc] at e
   refine ⟨_, e, fun j hj => ?_⟩
   rw [vs_len] at hj
   rcases (show j = 0 \/ j = 1 \/ j = 2 \/ j = 3 \/ j = 4 \/ j = 5 \/ j = 6 \/ j = 7 by omega) with rfl | rfl | rfl | rfl | rfl | rfl | rfl | rfl <;> rfl
structure Db (w W : World) (base q N : Nat) (M : Nat -> Nat -> Int) (c : Rv) : Prop where
 dh : Dh w W base q N M
 box : RowW W w.heap.size c
theorem db_new {w : World} {base q N : Nat} {M : Nat -> Nat -> Int} (h : Rx w base q N M) (c : Rv) : Db w (w.alloc (.cells #[.int .i64 c.th, .int .i64 c.pa, .int .i64 c.co, .bool c.wa, .int .i64 c.lo] 193)) base q N M c := ⟨(dh_self h).on (bal (Below.refl _ _) _), rowW_new w c⟩
theorem Db.on {w W W' : World} {base q N : Nat} {M : Nat -> Nat -> Int} {c : Rv} (h : Db w W base q N M c) (hB : Below W.heap.size W W') : Db w W' base q N M c := ⟨h.dh.on hB, h.box.on hB⟩
theorem Db.turn {w W W' : World} {base q N : Nat} {M M' : Nat -> Nat -> Int} {c : Rv} (h : Db w W base q N M c) (hR : RefIs W' base q N M') (hF : Fit M') (hB : Below base W W') (hK : KeepX q W W') : Db w W' base q N M' c := ⟨h.dh.turn hR hF hB hK, h.box.keep hK.t⟩
theorem vmake_any (base q N : Nat) (f : Int) (c : Rv) (M : Nat -> Nat -> Int) (w : World) (h : Rx w base q N M) : Calls Tryz.prog 133 #[.pointer (some ⟨q, 0, none⟩), .int .i64 f, .agg #[.int .i64 c.th, .int .i64 c.pa, .int .i64 c.co, .bool c.wa, .int .i64 c.lo]] w fun x w' => x = .returned (.int .i64 (vmE N f c)) /\ Dh w w' base q N (vmM N M f c) := by
 have HR : Hid (∀ w1, Calls Tryz.prog 218 #[.agg #[.int .i64 c.th, .int .i64 c.pa, .int .i64 c.co, .bool c.wa, .int .i64 c.lo]] w1 fun e w' => e = .returned (.bool (voB c)) /\ Below w1.heap.size w1 w') := fun w1 => vright_any c w1
 have H0 := rhide (db_new h c)
 have n1 := h.n1
 have n64 := h.n64
 clear h
 by_cases hco : voB c = true
 · have e2 : vmE N f c = errF N f := by unfold vmE; rw [if_pos hco]
   have e3 : vmM N M f c = layF N (Phead.mkM N M f 6 0 false 0) f c.ws := by unfold vmM; rw [if_pos hco]
   rw [hco] at HR
   have HH : Hid (∀ wc, Db w wc base q N M c -> Calls Tryz.prog 179 #[.pointer (some ⟨q, 0, none⟩), .int .i64 f, .agg #[.int .i64 6, .int .i64 0, .bool false, .int .i64 0]] wc fun e w' => e = .returned (.int .i64 (errF N f)) /\ Db w w' base q N (Phead.mkM N M f 6 0 false 0) c) := fun wc h => by
    have := Phead.hrmake_k base q N f 6 0 false 0 M wc n1 n64 h.dh.rx.ref
    rw [made_err (by omega)] at this
    refine this.mono ?_
    rintro e w' ⟨rfl, h1, h2, h3⟩
    exact ⟨rfl, h.turn h1 (Phead.fit_mk h.dh.rx.fit N f 6 0 false 0) h2 h3⟩
   rw [e2, e3]
   clear e2 e3
   generalize Phead.mkM N M f 6 0 false 0 = M1 at HH ⊢
   cases hf : okF N f
   · have e4 : errF N f = 1 := by unfold errF; rw [hf]; rfl
     rw [e4] at HH ⊢
     rw [lay_bad hf]
     clear e4 hf hco
     go_enter Tryz.func133, Tryz.ntmps133
     go_wp2_with (first
      | (go_at_call 218; refine (HR.out _).mono ?_; rintro e1 w1 ⟨rfl, hb⟩; have H1 := rhide (H0.out.on hb); clear hb HR H0)
      | (go_at_call 179; refine (HH.out _ H1.out).mono ?_; rintro e2 w2 ⟨rfl, hb⟩; have H2 := rhide hb; clear hb HH H1)
      | fail)
     go_ret
     exact ⟨rfl, H2.out.dh⟩
   · have e4 : errF N f = 0 := by unfold errF; rw [if_pos hf]
     rw [e4] at HH ⊢
     have HC : Hid (Vo c) := (voB_iff c).1 hco
     clear e4 hf hco
     go_enter Tryz.func133, Tryz.ntmps133
     go_wp2_with (first
      | (go_at_call 218; refine (HR.out _).mono ?_; rintro e1 w1 ⟨rfl, hb⟩; have H1 := rhide (H0.out.on hb); clear hb HR H0)
      | (go_at_call 179; refine (HH.out _ H1.out).mono ?_; rintro e2 w2 ⟨rfl, hb⟩; have H2 := rhide hb; clear hb HH H1; have x0 := H2.out.box.c0; have x1 := H2.out.box.c1; have x2 := H2.out.box.c2; have x3 := H2.out.box.c3; have x4 := H2.out.box.c4)
      | (go_at_call 219; refine (vwords_any c _).mono ?_; rintro e3 w3 ⟨rfl, hl, hb⟩; have H3 := rhide (H2.out.on hb); have HL := rhide hl; clear hl hb H2 x0 x1 x2 x3 x4)
      | (go_at_call 189; refine (rlay_any base q N _ 8 f c.ws M1 _ H3.out.dh.rx HL.out (by rw [vs_len]; omega) (vs_fit HC.out)).mono ?_; rintro e4 w4 ⟨rfl, hx, hb, hk⟩; have H4 : Hid (Dh w w4 base q N (layF N M1 f c.ws)) := H3.out.dh.trans ⟨hx, hb, hk⟩; clear hx hb hk H3 HL)
      | fail)
     go_ret
     exact ⟨rfl, H4.out⟩
 · have e2 : vmE N f c = 1 := by unfold vmE; rw [if_neg hco]
   have e3 : vmM N M f c = M := by unfold vmM; rw [if_neg hco]
   rw [show voB c = false by simpa using hco] at HR
   rw [e2, e3]
   clear e2 e3 hco
   go_enter Tryz.func133, Tryz.ntmps133
   go_wp2_with (first
    | (go_at_call 218; refine (HR.out _).mono ?_; rintro e1 w1 ⟨rfl, hb⟩; have H1 := rhide (H0.out.on hb); clear hb HR H0)
    | fail)
   go_ret
   exact ⟨rfl, H1.out.dh⟩
end Pqrcv
end Go.Proofs.YtkkclcihjojphaaGreatDoor
