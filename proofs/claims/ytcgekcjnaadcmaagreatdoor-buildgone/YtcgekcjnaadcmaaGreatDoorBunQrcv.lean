/- Texts on finished packages, joined. -/
import Derived.Test.YtcgekcjnaadcmaaGreatDoorBunPring
import Derived.Test.YtcgekcjnaadcmaaGreatDoorBunLay
import Derived.Test.YtcgekcjnaadcmaaGreatDoorBunHead
import Derived.Deep.RegionHeld3

/- Plain words on endpoints: which are right, their words, what is answered and done. No program is named here. -/
namespace Go.Proofs.YtcgekcjnaadcmaaGreatDoor.Pqrcv
open Go.Proofs.YtcgekcjnaadcmaaGreatDoor.Pbase Go.Proofs.YtcgekcjnaadcmaaGreatDoor.Pfield Go.Proofs.YtcgekcjnaadcmaaGreatDoor.Play Go.Proofs.YtcgekcjnaadcmaaGreatDoor.Pmem Go.Proofs.YtcgekcjnaadcmaaGreatDoor.Pring
open Go.RowKit M
set_option linter.unusedVariables false

/-! ### endpoints -/
structure Rv where
  th : Int
  pa : Int
  co : Int
  wa : Bool
  lo : Int
def rv0 : Rv := ⟨0, 0, 0, false, 0⟩
def vz (b : Bool) : Int := if b = true then 1 else 0
theorem vz_bd (b : Bool) : 0 ≤ vz b ∧ vz b ≤ 1 := by cases b <;> decide
def Rv.ws (x : Rv) : List Int := [x.th, x.pa, x.co, vz x.wa, x.lo, 0, 0, 0]
def Vo (x : Rv) : Prop := (0 ≤ x.th ∧ x.th ≤ 63) ∧ (0 ≤ x.pa ∧ x.pa ≤ 64) ∧ (0 ≤ x.co ∧ x.co ≤ 255) ∧ (0 ≤ x.lo ∧ x.lo ≤ 255)
def voB (x : Rv) : Bool := (decide (0 ≤ x.th) && decide (x.th ≤ 63)) && (decide (0 ≤ x.pa) && decide (x.pa ≤ 64)) && (decide (0 ≤ x.co) && decide (x.co ≤ 255)) && (decide (0 ≤ x.lo) && decide (x.lo ≤ 255))
theorem voB_iff (x : Rv) : voB x = true ↔ Vo x := by
  unfold voB Vo
  simp
  omega
theorem vs_fit {x : Rv} (h : Vo x) : ∀ v ∈ x.ws, 0 ≤ v ∧ v ≤ 9223372036854775807 := by
  unfold Vo at h
  have := vz_bd x.wa
  intro v hv
  simp only [Rv.ws, List.mem_cons, List.not_mem_nil, or_false] at hv
  rcases hv with rfl | rfl | rfl | rfl | rfl | rfl | rfl | rfl <;> omega
theorem Vo.fit {x : Rv} (h : Vo x) : ∀ v ∈ x.ws, 0 ≤ v ∧ v ≤ 18446744073709551615 := fun v hv => by
  have := vs_fit h v hv
  omega
def Fv (x : Rv) : Prop := In64 x.th ∧ In64 x.pa ∧ In64 x.co ∧ In64 x.lo
/-- What Check answers. -/
def vkE (x : Rv) : Int := if voB x = true then 0 else 1
/-- The endpoint that a frame's words are, and whether they are one's. -/
def rvOf (M : Nat → Nat → Int) (f : Int) : Rv := ⟨M f.toNat 4, M f.toNat 5, M f.toNat 6, decide (M f.toNat 7 = 1), M f.toNat 8⟩
def rvB (M : Nat → Nat → Int) (f : Int) : Bool := (decide (M f.toNat 7 ≤ 1) && decide (M f.toNat 9 = 0) && decide (M f.toNat 10 = 0) && decide (M f.toNat 11 = 0)) && voB (rvOf M f)
/-- Get. -/
def vgE (N : Nat) (M : Nat → Nat → Int) (f : Int) : Int := if Phead.isE N M f 6 = 0 then if rvB M f = true then 0 else 12 else 4
def vgX (N : Nat) (M : Nat → Nat → Int) (f : Int) : Rv := if vgE N M f = 0 then rvOf M f else rv0
/-- Make. -/
def vmE (N : Nat) (f : Int) (x : Rv) : Int := if voB x = true then errF N f else 1
def vmM (N : Nat) (M : Nat → Nat → Int) (f : Int) (x : Rv) : Nat → Nat → Int := if voB x = true then layF N (Phead.mkM N M f 6 0 false 0) f x.ws else M
/-! ### small facts -/
/-! ### Tell: which way -/
/-! ### words that fit -/
end Go.Proofs.YtcgekcjnaadcmaaGreatDoor.Pqrcv

/- A memory with head's table. -/
namespace Go.Proofs.YtcgekcjnaadcmaaGreatDoor.Pqrcv
open Go.Proofs.YtcgekcjnaadcmaaGreatDoor.Pbase Go.Proofs.YtcgekcjnaadcmaaGreatDoor.Pfield Go.Proofs.YtcgekcjnaadcmaaGreatDoor.Play Go.Proofs.YtcgekcjnaadcmaaGreatDoor.Pmem
open Go.RowKit M
set_option linter.unusedVariables false

structure Mx (w : World) (p b N : Nat) (M : Nat → Nat → Int) : Prop where
  mem : MemIs w p b N M
  hd : Phead.TabW w
  fit : Fit M
  n1 : 1 ≤ N
  n64 : N ≤ 64
theorem Mx.on {w w' : World} {p b N : Nat} {M : Nat → Nat → Int} (h : Mx w p b N M) (hB : Below w.heap.size w w') : Mx w' p b N M :=
  ⟨h.mem.grown hB, h.hd.on hB, h.fit, h.n1, h.n64⟩
theorem Mx.but {w w' : World} {p b N : Nat} {M M' : Nat → Nat → Int} (h : Mx w p b N M) (hM : MemIs w' p b N M') (hF : Fit M') (hB : But b w w') : Mx w' p b N M' :=
  ⟨hM, h.hd.but hB (Phead.tab_ne h.mem h.hd), hF, h.n1, h.n64⟩
end Go.Proofs.YtcgekcjnaadcmaaGreatDoor.Pqrcv

/- Endpoints in blocks. -/
namespace Go.Proofs.YtcgekcjnaadcmaaGreatDoor.Pqrcv
open Go.Proofs.YtcgekcjnaadcmaaGreatDoor.Pbase Go.Proofs.YtcgekcjnaadcmaaGreatDoor.Pfield Go.Proofs.YtcgekcjnaadcmaaGreatDoor.Play Go.Proofs.YtcgekcjnaadcmaaGreatDoor.Pmem Go.Proofs.YtcgekcjnaadcmaaGreatDoor.Pring
open Go.RowKit M
set_option linter.unusedVariables false

/-- An endpoint in a block. -/
structure RowW (w : World) (B : Nat) (x : Rv) : Prop where
  row : w.heap[B]? = some (.cells #[.int .i64 x.th, .int .i64 x.pa, .int .i64 x.co, .bool x.wa, .int .i64 x.lo] 40 (0, 0))
section
variable {w w' : World} {B : Nat} {x : Rv}
theorem RowW.lt (h : RowW w B x) : B < w.heap.size := (Array.getElem?_eq_some_iff.1 h.row).1
theorem RowW.c0 (h : RowW w B x) : w.cell? ⟨B, 0, none⟩ = some (.int .i64 x.th) := (cell_of_row _ _ _ _ _ _ h.row).trans rfl
theorem RowW.c1 (h : RowW w B x) : w.cell? ⟨B, 1, none⟩ = some (.int .i64 x.pa) := (cell_of_row _ _ _ _ _ _ h.row).trans rfl
theorem RowW.c2 (h : RowW w B x) : w.cell? ⟨B, 2, none⟩ = some (.int .i64 x.co) := (cell_of_row _ _ _ _ _ _ h.row).trans rfl
theorem RowW.c3 (h : RowW w B x) : w.cell? ⟨B, 3, none⟩ = some (.bool x.wa) := (cell_of_row _ _ _ _ _ _ h.row).trans rfl
theorem RowW.c4 (h : RowW w B x) : w.cell? ⟨B, 4, none⟩ = some (.int .i64 x.lo) := (cell_of_row _ _ _ _ _ _ h.row).trans rfl
theorem RowW.fz (h : RowW w B x) (j : Nat) : w.frozen? ⟨B, j, none⟩ = false := frozen_of_row _ _ _ _ _ h.row
theorem RowW.on (h : RowW w B x) (hB : Below w.heap.size w w') : RowW w' B x := ⟨(hB.block B h.lt).trans h.row⟩
theorem RowW.but {b : Nat} (h : RowW w B x) (hB : But b w w') (hn : B ≠ b) : RowW w' B x := ⟨(hB.block B h.lt hn).trans h.row⟩
theorem rowW_new (w : World) (x : Rv) : RowW (w.alloc (.cells #[.int .i64 x.th, .int .i64 x.pa, .int .i64 x.co, .bool x.wa, .int .i64 x.lo] 40)) w.heap.size x := ⟨heap_alloc_new w _⟩
end
end Go.Proofs.YtcgekcjnaadcmaaGreatDoor.Pqrcv

/- The table of package rcv; what wordsOf, rcvOf and Check of it answer (written by mk_prog.py). -/
namespace Go.Proofs.YtcgekcjnaadcmaaGreatDoor.Pqrcv
open Go.Proofs.YtcgekcjnaadcmaaGreatDoor.Pbase Go.Proofs.YtcgekcjnaadcmaaGreatDoor.Pfield Go.Proofs.YtcgekcjnaadcmaaGreatDoor.Play Go.Proofs.YtcgekcjnaadcmaaGreatDoor.Pmem Go.Proofs.YtcgekcjnaadcmaaGreatDoor.Pring
open Go.RowKit M
set_option linter.unusedVariables false

/-! ### the table -/
structure TabV (w : World) : Prop where
  lt : 0 < w.heap.size
  row : ∃ t fr, w.heap[(0 : Nat)]? = some (.cells #[.int .u64 63, .int .u64 64, .int .u64 255, .int .u64 1, .int .u64 255, .int .u64 0, .int .u64 0, .int .u64 0] t fr)
theorem TabV.on {w w' : World} (h : TabV w) (hB : Below w.heap.size w w') : TabV w' :=
  ⟨Nat.lt_of_lt_of_le h.lt hB.size, by obtain ⟨t, fr, hr⟩ := h.row; exact ⟨t, fr, (hB.block 0 h.lt).trans hr⟩⟩
theorem TabV.but {w w' : World} {b : Nat} (h : TabV w) (hB : But b w w') (hn : 0 ≠ b) : TabV w' :=
  ⟨Nat.lt_of_lt_of_le h.lt hB.size, by obtain ⟨t, fr, hr⟩ := h.row; exact ⟨t, fr, (hB.block 0 h.lt hn).trans hr⟩⟩
theorem tabV_ne {w : World} {p b N : Nat} {M : Nat → Nat → Int} (hM : MemIs w p b N M) (hN : 1 ≤ N) (hW : TabV w) : 0 ≠ b := by
  intro e
  obtain ⟨t, fr, hr⟩ := hW.row
  rw [e, hM.row] at hr
  simp only [Option.some.injEq, Obj.cells.injEq] at hr
  have := congrArg Array.size hr.1
  rw [cellsM_size] at this
  simp at this
  omega
theorem TabV.at {w : World} (h : TabV w) (j : Nat) : w.cell? ⟨0, j, none⟩ = (#[.int .u64 63, .int .u64 64, .int .u64 255, .int .u64 1, .int .u64 255, .int .u64 0, .int .u64 0, .int .u64 0] : Array Value)[j]? := by
  obtain ⟨t, fr, hr⟩ := h.row
  exact cell_of_row _ _ j _ _ _ hr
/-! ### an endpoint's words -/
def msK : Nat → Int
  | 0 => 63
  | 1 => 64
  | 2 => 255
  | 3 => 1
  | 4 => 255
  | _ => 0
/-- Are these words an endpoint's? -/
def wvB (a : Nat → Int) : Bool := (decide (a 3 ≤ 1) && decide (a 5 = 0) && decide (a 6 = 0) && decide (a 7 = 0)) && voB ⟨a 0, a 1, a 2, decide (a 3 = 1), a 4⟩
def wvX (a : Nat → Int) : Rv := if wvB a = true then ⟨a 0, a 1, a 2, decide (a 3 = 1), a 4⟩ else rv0
theorem wvX_no {a : Nat → Int} (h : wvB a = false) : wvX a = rv0 := by unfold wvX; rw [h]; rfl
theorem wvX_yes {a : Nat → Int} (h : wvB a = true) : wvX a = ⟨a 0, a 1, a 2, decide (a 3 = 1), a 4⟩ := by unfold wvX; rw [if_pos h]
theorem wvB_iff {a : Nat → Int} (h0 : ∀ j, 0 ≤ a j) : wvB a = true ↔ a 0 ≤ 63 ∧ a 1 ≤ 64 ∧ a 2 ≤ 255 ∧ a 3 ≤ 1 ∧ a 4 ≤ 255 ∧ a 5 ≤ 0 ∧ a 6 ≤ 0 ∧ a 7 ≤ 0 := by
  unfold wvB
  rw [Bool.and_eq_true, voB_iff]
  simp only [Bool.and_eq_true, decide_eq_true_eq]
  unfold Vo
  dsimp only
  have q0 := h0 0
  have q1 := h0 1
  have q2 := h0 2
  have q3 := h0 3
  have q4 := h0 4
  have q5 := h0 5
  have q6 := h0 6
  have q7 := h0 7
  omega
/-- The words of any endpoint. -/
def wsF (c : Rv) : Nat → Int
  | 0 => asW c.th
  | 1 => asW c.pa
  | 2 => asW c.co
  | 3 => vz c.wa
  | 4 => asW c.lo
  | _ => 0
theorem wsF_pos {c : Rv} (h : Fv c) (j : Nat) : 0 ≤ wsF c j := by
  obtain ⟨h1, h2, h3, h4⟩ := h
  match j with
  | 0 => exact (asW_fit h1).1
  | 1 => exact (asW_fit h2).1
  | 2 => exact (asW_fit h3).1
  | 3 => exact (vz_bd c.wa).1
  | 4 => exact (asW_fit h4).1
  | n + 5 => exact Int.le_refl 0
theorem asW_of {x c : Int} (h : In64 x) (hc : c ≤ 1073741824) (h0 : 0 ≤ c) : asW x ≤ c ↔ 0 ≤ x ∧ x ≤ c := by
  constructor
  · intro q
    obtain ⟨e, q0⟩ := asW_low h hc q
    rw [e] at q
    exact ⟨q0, q⟩
  · rintro ⟨q0, q⟩
    unfold asW
    rw [if_pos q0]
    exact q
theorem wvB_w {c : Rv} (h : Fv c) : wvB (wsF c) = voB c := by
  have key : wvB (wsF c) = true ↔ voB c = true := by
    rw [wvB_iff (wsF_pos h), voB_iff]
    obtain ⟨h1, h2, h3, h4⟩ := h
    show asW c.th ≤ 63 ∧ asW c.pa ≤ 64 ∧ asW c.co ≤ 255 ∧ vz c.wa ≤ 1 ∧ asW c.lo ≤ 255 ∧ (0 : Int) ≤ 0 ∧ (0 : Int) ≤ 0 ∧ (0 : Int) ≤ 0 ↔ _
    rw [asW_of h1 (by omega) (by omega), asW_of h2 (by omega) (by omega), asW_of h3 (by omega) (by omega), asW_of h4 (by omega) (by omega)]
    have := vz_bd c.wa
    unfold Vo
    omega
  cases h1 : voB c
  · exact Bool.eq_false_iff.2 fun e => by rw [key.1 e] at h1; cases h1
  · exact key.2 h1
/-- A right endpoint's words are its parts. -/
theorem wsF_vo {c : Rv} (h : Vo c) : wsF c 0 = c.th ∧ wsF c 1 = c.pa ∧ wsF c 2 = c.co ∧ wsF c 4 = c.lo := by
  unfold Vo at h
  refine ⟨?_, ?_, ?_, ?_⟩ <;> show asW _ = _ <;> unfold asW <;> rw [if_pos (by omega)]
theorem Vo.fv {c : Rv} (h : Vo c) : Fv c := by
  unfold Vo at h
  unfold Fv In64
  omega
/-! ### wordsOf -/
set_option maxRecDepth 100000 in
set_option maxHeartbeats 1000000 in
theorem words_in (c : Rv) (w : World) : Calls Tryz.prog 157 #[.agg #[.int .i64 c.th, .int .i64 c.pa, .int .i64 c.co, .bool c.wa, .int .i64 c.lo]] w fun e w' => e = .returned (.agg #[.int .u64 (IntKind.u64.wrap c.th), .int .u64 (IntKind.u64.wrap c.pa), .int .u64 (IntKind.u64.wrap c.co), .int .u64 (vz c.wa), .int .u64 (IntKind.u64.wrap c.lo), .int .u64 0, .int .u64 0, .int .u64 0]) ∧ Below w.heap.size w w' := by
  obtain ⟨t, p, k, i, l⟩ := c
  dsimp only
  cases i
  · go_enter Tryz.func157, Tryz.ntmps157
    go_wp2
    exact bodyPost_ret (v := .agg #[.int .u64 (IntKind.u64.wrap t), .int .u64 (IntKind.u64.wrap p), .int .u64 (IntKind.u64.wrap k), .int .u64 0, .int .u64 (IntKind.u64.wrap l), .int .u64 0, .int .u64 0, .int .u64 0]) (by simp [results, Tryz.results157, go_sem]) rfl ⟨rfl, bal (bal (bal (Below.refl _ _) _) _) _⟩
  · go_enter Tryz.func157, Tryz.ntmps157
    go_wp2
    exact bodyPost_ret (v := .agg #[.int .u64 (IntKind.u64.wrap t), .int .u64 (IntKind.u64.wrap p), .int .u64 (IntKind.u64.wrap k), .int .u64 1, .int .u64 (IntKind.u64.wrap l), .int .u64 0, .int .u64 0, .int .u64 0]) (by simp [results, Tryz.results157, go_sem]) rfl ⟨rfl, bal (bal (bal (Below.refl _ _) _) _) _⟩
theorem words_any (c : Rv) (hc : Fv c) (w : World) : Calls Tryz.prog 157 #[.agg #[.int .i64 c.th, .int .i64 c.pa, .int .i64 c.co, .bool c.wa, .int .i64 c.lo]] w fun e w' => e = .returned (.agg #[.int .u64 (wsF c 0), .int .u64 (wsF c 1), .int .u64 (wsF c 2), .int .u64 (wsF c 3), .int .u64 (wsF c 4), .int .u64 (wsF c 5), .int .u64 (wsF c 6), .int .u64 (wsF c 7)]) ∧ Below w.heap.size w w' := by
  have := words_in c w
  obtain ⟨h1, h2, h3, h4⟩ := hc
  rwa [asW_eq h1, asW_eq h2, asW_eq h3, asW_eq h4] at this
/-! ### rcvOf -/
theorem vix0 (a0 a1 a2 a3 a4 a5 a6 a7 : Int) : ∀ w : World, (Instr.index 106 (.agg #[.int .u64 a0, .int .u64 a1, .int .u64 a2, .int .u64 a3, .int .u64 a4, .int .u64 a5, .int .u64 a6, .int .u64 a7]) (.int .i64 0)).run Tryz.prog w = .ok (.int .u64 a0) w := fun _ => by kernel_rfl
theorem vix1 (a0 a1 a2 a3 a4 a5 a6 a7 : Int) : ∀ w : World, (Instr.index 106 (.agg #[.int .u64 a0, .int .u64 a1, .int .u64 a2, .int .u64 a3, .int .u64 a4, .int .u64 a5, .int .u64 a6, .int .u64 a7]) (.int .i64 1)).run Tryz.prog w = .ok (.int .u64 a1) w := fun _ => by kernel_rfl
theorem vix2 (a0 a1 a2 a3 a4 a5 a6 a7 : Int) : ∀ w : World, (Instr.index 106 (.agg #[.int .u64 a0, .int .u64 a1, .int .u64 a2, .int .u64 a3, .int .u64 a4, .int .u64 a5, .int .u64 a6, .int .u64 a7]) (.int .i64 2)).run Tryz.prog w = .ok (.int .u64 a2) w := fun _ => by kernel_rfl
theorem vix3 (a0 a1 a2 a3 a4 a5 a6 a7 : Int) : ∀ w : World, (Instr.index 106 (.agg #[.int .u64 a0, .int .u64 a1, .int .u64 a2, .int .u64 a3, .int .u64 a4, .int .u64 a5, .int .u64 a6, .int .u64 a7]) (.int .i64 3)).run Tryz.prog w = .ok (.int .u64 a3) w := fun _ => by kernel_rfl
theorem vix4 (a0 a1 a2 a3 a4 a5 a6 a7 : Int) : ∀ w : World, (Instr.index 106 (.agg #[.int .u64 a0, .int .u64 a1, .int .u64 a2, .int .u64 a3, .int .u64 a4, .int .u64 a5, .int .u64 a6, .int .u64 a7]) (.int .i64 4)).run Tryz.prog w = .ok (.int .u64 a4) w := fun _ => by kernel_rfl
theorem vix5 (a0 a1 a2 a3 a4 a5 a6 a7 : Int) : ∀ w : World, (Instr.index 106 (.agg #[.int .u64 a0, .int .u64 a1, .int .u64 a2, .int .u64 a3, .int .u64 a4, .int .u64 a5, .int .u64 a6, .int .u64 a7]) (.int .i64 5)).run Tryz.prog w = .ok (.int .u64 a5) w := fun _ => by kernel_rfl
theorem vix6 (a0 a1 a2 a3 a4 a5 a6 a7 : Int) : ∀ w : World, (Instr.index 106 (.agg #[.int .u64 a0, .int .u64 a1, .int .u64 a2, .int .u64 a3, .int .u64 a4, .int .u64 a5, .int .u64 a6, .int .u64 a7]) (.int .i64 6)).run Tryz.prog w = .ok (.int .u64 a6) w := fun _ => by kernel_rfl
theorem vix7 (a0 a1 a2 a3 a4 a5 a6 a7 : Int) : ∀ w : World, (Instr.index 106 (.agg #[.int .u64 a0, .int .u64 a1, .int .u64 a2, .int .u64 a3, .int .u64 a4, .int .u64 a5, .int .u64 a6, .int .u64 a7]) (.int .i64 7)).run Tryz.prog w = .ok (.int .u64 a7) w := fun _ => by kernel_rfl
structure RoI (w W : World) (a0 a1 a2 a3 a4 a5 a6 a7 : Int) : Prop where
  src : RowV W w.heap.size [.int .u64 a0, .int .u64 a1, .int .u64 a2, .int .u64 a3, .int .u64 a4, .int .u64 a5, .int .u64 a6, .int .u64 a7]
  res : RowW W (w.heap.size + 1) rv0
  tab : TabV W
  below : Below w.heap.size w W
theorem ro_new {w : World} (hT : TabV w) (a0 a1 a2 a3 a4 a5 a6 a7 : Int) : RoI w ((w.alloc (.cells #[.int .u64 a0, .int .u64 a1, .int .u64 a2, .int .u64 a3, .int .u64 a4, .int .u64 a5, .int .u64 a6, .int .u64 a7] 106)).alloc (.cells #[.int .i64 0, .int .i64 0, .int .i64 0, .bool false, .int .i64 0] 40)) a0 a1 a2 a3 a4 a5 a6 a7 := by
  have b0 := rowV_new w [.int .u64 a0, .int .u64 a1, .int .u64 a2, .int .u64 a3, .int .u64 a4, .int .u64 a5, .int .u64 a6, .int .u64 a7] 106
  have b1 := rowW_new (w.alloc (.cells #[.int .u64 a0, .int .u64 a1, .int .u64 a2, .int .u64 a3, .int .u64 a4, .int .u64 a5, .int .u64 a6, .int .u64 a7] 106)) rv0
  simp only [World.size_alloc] at b1
  exact ⟨b0.on (bal (Below.refl _ _) _), b1, hT.on (bal (bal (Below.refl _ _) _) _), bal (bal (Below.refl _ _) _) _⟩
set_option maxRecDepth 100000 in
set_option maxHeartbeats 2000000 in
theorem ro_yes (a0 a1 a2 a3 a4 a5 a6 a7 : Int) (h0 : 0 ≤ a0 ∧ a0 ≤ 63) (h1 : 0 ≤ a1 ∧ a1 ≤ 64) (h2 : 0 ≤ a2 ∧ a2 ≤ 255) (h3 : 0 ≤ a3 ∧ a3 ≤ 1) (h4 : 0 ≤ a4 ∧ a4 ≤ 255) (h5 : 0 ≤ a5 ∧ a5 ≤ 0) (h6 : 0 ≤ a6 ∧ a6 ≤ 0) (h7 : 0 ≤ a7 ∧ a7 ≤ 0) (w : World) (hT : TabV w) : Calls Tryz.prog 59 #[.agg #[.int .u64 a0, .int .u64 a1, .int .u64 a2, .int .u64 a3, .int .u64 a4, .int .u64 a5, .int .u64 a6, .int .u64 a7]] w fun e w' => e = .returned (.tuple #[.agg #[.int .i64 a0, .int .i64 a1, .int .i64 a2, .bool (a3 == 1), .int .i64 a4], .bool true]) ∧ Below w.heap.size w w' := by
  have H0 := rhide (ro_new hT a0 a1 a2 a3 a4 a5 a6 a7)
  have i0 := vix0 a0 a1 a2 a3 a4 a5 a6 a7
  have g0 : ¬ 63 < a0 := by omega
  have i1 := vix1 a0 a1 a2 a3 a4 a5 a6 a7
  have g1 : ¬ 64 < a1 := by omega
  have i2 := vix2 a0 a1 a2 a3 a4 a5 a6 a7
  have g2 : ¬ 255 < a2 := by omega
  have i3 := vix3 a0 a1 a2 a3 a4 a5 a6 a7
  have g3 : ¬ 1 < a3 := by omega
  have i4 := vix4 a0 a1 a2 a3 a4 a5 a6 a7
  have g4 : ¬ 255 < a4 := by omega
  have i5 := vix5 a0 a1 a2 a3 a4 a5 a6 a7
  have g5 : ¬ 0 < a5 := by omega
  have i6 := vix6 a0 a1 a2 a3 a4 a5 a6 a7
  have g6 : ¬ 0 < a6 := by omega
  have i7 := vix7 a0 a1 a2 a3 a4 a5 a6 a7
  have g7 : ¬ 0 < a7 := by omega
  have u0 : IntKind.i64.wrap a0 = a0 := wrapi_small (by omega) (by omega)
  have u1 : IntKind.i64.wrap a1 = a1 := wrapi_small (by omega) (by omega)
  have u2 : IntKind.i64.wrap a2 = a2 := wrapi_small (by omega) (by omega)
  have u4 : IntKind.i64.wrap a4 = a4 := wrapi_small (by omega) (by omega)
  clear hT h0 h1 h2 h3 h4 h5 h6 h7
  go_enter Tryz.func59, Tryz.ntmps59
  go_upto_region 1 with fail
  generalize (w.alloc _).alloc _ = w1 at H0 ⊢
  have x0 : w1.cell? ⟨w.heap.size, 0, none⟩ = some (.int .u64 a0) := H0.out.src.cell 0
  have x1 : w1.cell? ⟨w.heap.size, 1, none⟩ = some (.int .u64 a1) := H0.out.src.cell 1
  have x2 : w1.cell? ⟨w.heap.size, 2, none⟩ = some (.int .u64 a2) := H0.out.src.cell 2
  have x3 : w1.cell? ⟨w.heap.size, 3, none⟩ = some (.int .u64 a3) := H0.out.src.cell 3
  have x4 : w1.cell? ⟨w.heap.size, 4, none⟩ = some (.int .u64 a4) := H0.out.src.cell 4
  have x5 : w1.cell? ⟨w.heap.size, 5, none⟩ = some (.int .u64 a5) := H0.out.src.cell 5
  have x6 : w1.cell? ⟨w.heap.size, 6, none⟩ = some (.int .u64 a6) := H0.out.src.cell 6
  have x7 : w1.cell? ⟨w.heap.size, 7, none⟩ = some (.int .u64 a7) := H0.out.src.cell 7
  go_wp2
  clear x0 x1 x2 x3 x4 x5 x6 x7
  go_loopw [7] (fun i wr => ∃ k : Nat, k ≤ 8 ∧ i = .int .i64 k ∧ RoI w wr a0 a1 a2 a3 a4 a5 a6 a7) (fun i _ => 8 - (intOf i).toNat)
  case atStart => exact ⟨0, by omega, rfl, H0.out⟩
  case round =>
    obtain ⟨k, hk, rfl, hI⟩ := hrel
    have HI := rhide hI
    clear hI H0
    rcases (show k = 0 ∨ k = 1 ∨ k = 2 ∨ k = 3 ∨ k = 4 ∨ k = 5 ∨ k = 6 ∨ k = 7 ∨ k = 8 by omega) with rfl | rfl | rfl | rfl | rfl | rfl | rfl | rfl | rfl
    · have y : wr.cell? ⟨0, 0, none⟩ = some (.int .u64 63) := HI.out.tab.at 0
      go_wp2
      go_roundw
      case rel => exact ⟨0 + 1, by omega, rfl, HI.out⟩
      case measure => simp [intOf]
    · have y : wr.cell? ⟨0, 1, none⟩ = some (.int .u64 64) := HI.out.tab.at 1
      go_wp2
      go_roundw
      case rel => exact ⟨1 + 1, by omega, rfl, HI.out⟩
      case measure => simp [intOf]
    · have y : wr.cell? ⟨0, 2, none⟩ = some (.int .u64 255) := HI.out.tab.at 2
      go_wp2
      go_roundw
      case rel => exact ⟨2 + 1, by omega, rfl, HI.out⟩
      case measure => simp [intOf]
    · have y : wr.cell? ⟨0, 3, none⟩ = some (.int .u64 1) := HI.out.tab.at 3
      go_wp2
      go_roundw
      case rel => exact ⟨3 + 1, by omega, rfl, HI.out⟩
      case measure => simp [intOf]
    · have y : wr.cell? ⟨0, 4, none⟩ = some (.int .u64 255) := HI.out.tab.at 4
      go_wp2
      go_roundw
      case rel => exact ⟨4 + 1, by omega, rfl, HI.out⟩
      case measure => simp [intOf]
    · have y : wr.cell? ⟨0, 5, none⟩ = some (.int .u64 0) := HI.out.tab.at 5
      go_wp2
      go_roundw
      case rel => exact ⟨5 + 1, by omega, rfl, HI.out⟩
      case measure => simp [intOf]
    · have y : wr.cell? ⟨0, 6, none⟩ = some (.int .u64 0) := HI.out.tab.at 6
      go_wp2
      go_roundw
      case rel => exact ⟨6 + 1, by omega, rfl, HI.out⟩
      case measure => simp [intOf]
    · have y : wr.cell? ⟨0, 7, none⟩ = some (.int .u64 0) := HI.out.tab.at 7
      go_wp2
      go_roundw
      case rel => exact ⟨7 + 1, by omega, rfl, HI.out⟩
      case measure => simp [intOf]
    · have x0 : wr.cell? ⟨w.heap.size, 0, none⟩ = some (.int .u64 a0) := HI.out.src.cell 0
      have x1 : wr.cell? ⟨w.heap.size, 1, none⟩ = some (.int .u64 a1) := HI.out.src.cell 1
      have x2 : wr.cell? ⟨w.heap.size, 2, none⟩ = some (.int .u64 a2) := HI.out.src.cell 2
      have x3 : wr.cell? ⟨w.heap.size, 3, none⟩ = some (.int .u64 a3) := HI.out.src.cell 3
      have x4 : wr.cell? ⟨w.heap.size, 4, none⟩ = some (.int .u64 a4) := HI.out.src.cell 4
      have y0 := HI.out.res.c0
      have y1 := HI.out.res.c1
      have y2 := HI.out.res.c2
      have y3 := HI.out.res.c3
      have y4 := HI.out.res.c4
      have z := HI.out.res.fz
      go_wp2
      refine bodyPost_ret (v := .tuple #[.agg #[.int .i64 a0, .int .i64 a1, .int .i64 a2, .bool (a3 == 1), .int .i64 a4], .bool true]) (by simp [results, Tryz.results59, go_sem, y0, y1, y2, y3, y4]) rfl ⟨rfl, ?_⟩
      exact bst (bst (bst (bst (bst HI.out.below (by omega) _ _) (by omega) _ _) (by omega) _ _) (by omega) _ _) (by omega) _ _
set_option maxRecDepth 100000 in
set_option maxHeartbeats 2000000 in
theorem ro_no (a0 a1 a2 a3 a4 a5 a6 a7 : Int) (hn : ¬ (a0 ≤ 63 ∧ a1 ≤ 64 ∧ a2 ≤ 255 ∧ a3 ≤ 1 ∧ a4 ≤ 255 ∧ a5 ≤ 0 ∧ a6 ≤ 0 ∧ a7 ≤ 0)) (w : World) (hT : TabV w) : Calls Tryz.prog 59 #[.agg #[.int .u64 a0, .int .u64 a1, .int .u64 a2, .int .u64 a3, .int .u64 a4, .int .u64 a5, .int .u64 a6, .int .u64 a7]] w fun e w' => e = .returned (.tuple #[.agg #[.int .i64 0, .int .i64 0, .int .i64 0, .bool false, .int .i64 0], .bool false]) ∧ Below w.heap.size w w' := by
  have H0 := rhide (ro_new hT a0 a1 a2 a3 a4 a5 a6 a7)
  have HN := rhide hn
  have i0 := vix0 a0 a1 a2 a3 a4 a5 a6 a7
  have i1 := vix1 a0 a1 a2 a3 a4 a5 a6 a7
  have i2 := vix2 a0 a1 a2 a3 a4 a5 a6 a7
  have i3 := vix3 a0 a1 a2 a3 a4 a5 a6 a7
  have i4 := vix4 a0 a1 a2 a3 a4 a5 a6 a7
  have i5 := vix5 a0 a1 a2 a3 a4 a5 a6 a7
  have i6 := vix6 a0 a1 a2 a3 a4 a5 a6 a7
  have i7 := vix7 a0 a1 a2 a3 a4 a5 a6 a7
  clear hT hn
  go_enter Tryz.func59, Tryz.ntmps59
  go_upto_region 1 with fail
  generalize (w.alloc _).alloc _ = w1 at H0 ⊢
  have x0 : w1.cell? ⟨w.heap.size, 0, none⟩ = some (.int .u64 a0) := H0.out.src.cell 0
  have x1 : w1.cell? ⟨w.heap.size, 1, none⟩ = some (.int .u64 a1) := H0.out.src.cell 1
  have x2 : w1.cell? ⟨w.heap.size, 2, none⟩ = some (.int .u64 a2) := H0.out.src.cell 2
  have x3 : w1.cell? ⟨w.heap.size, 3, none⟩ = some (.int .u64 a3) := H0.out.src.cell 3
  have x4 : w1.cell? ⟨w.heap.size, 4, none⟩ = some (.int .u64 a4) := H0.out.src.cell 4
  have x5 : w1.cell? ⟨w.heap.size, 5, none⟩ = some (.int .u64 a5) := H0.out.src.cell 5
  have x6 : w1.cell? ⟨w.heap.size, 6, none⟩ = some (.int .u64 a6) := H0.out.src.cell 6
  have x7 : w1.cell? ⟨w.heap.size, 7, none⟩ = some (.int .u64 a7) := H0.out.src.cell 7
  go_wp2
  clear x0 x1 x2 x3 x4 x5 x6 x7
  go_loopw [7] (fun i wr => ∃ k : Nat, k ≤ 8 ∧ i = .int .i64 k ∧ RoI w wr a0 a1 a2 a3 a4 a5 a6 a7 ∧ (0 < k → a0 ≤ 63) ∧ (1 < k → a1 ≤ 64) ∧ (2 < k → a2 ≤ 255) ∧ (3 < k → a3 ≤ 1) ∧ (4 < k → a4 ≤ 255) ∧ (5 < k → a5 ≤ 0) ∧ (6 < k → a6 ≤ 0) ∧ (7 < k → a7 ≤ 0)) (fun i _ => 8 - (intOf i).toNat)
  case atStart => exact ⟨0, by omega, rfl, H0.out, fun h => absurd h (by omega), fun h => absurd h (by omega), fun h => absurd h (by omega), fun h => absurd h (by omega), fun h => absurd h (by omega), fun h => absurd h (by omega), fun h => absurd h (by omega), fun h => absurd h (by omega)⟩
  case round =>
    obtain ⟨k, hk, rfl, hI, hJ⟩ := hrel
    have HI := rhide hI
    have HJ := rhide hJ
    clear hI hJ H0
    rcases (show k = 0 ∨ k = 1 ∨ k = 2 ∨ k = 3 ∨ k = 4 ∨ k = 5 ∨ k = 6 ∨ k = 7 ∨ k = 8 by omega) with rfl | rfl | rfl | rfl | rfl | rfl | rfl | rfl | rfl
    · have y : wr.cell? ⟨0, 0, none⟩ = some (.int .u64 63) := HI.out.tab.at 0
      by_cases hg : 63 < a0
      · have z := HI.out.res.fz
        have y0 := HI.out.res.c0
        have y1 := HI.out.res.c1
        have y2 := HI.out.res.c2
        have y3 := HI.out.res.c3
        have y4 := HI.out.res.c4
        go_wp2
        refine bodyPost_ret (v := .tuple #[.agg #[.int .i64 0, .int .i64 0, .int .i64 0, .bool false, .int .i64 0], .bool false]) (by simp [results, Tryz.results59, go_sem, y0, y1, y2, y3, y4]) rfl ⟨rfl, ?_⟩
        exact bst (bst (bst (bst (bst HI.out.below (by omega) _ _) (by omega) _ _) (by omega) _ _) (by omega) _ _) (by omega) _ _
      · have HG : Hid (a0 ≤ 63) := (show a0 ≤ 63 by omega)
        go_wp2
        go_roundw
        case rel => exact ⟨0 + 1, by omega, rfl, HI.out, fun _ => HG.out, fun h => absurd h (by omega), fun h => absurd h (by omega), fun h => absurd h (by omega), fun h => absurd h (by omega), fun h => absurd h (by omega), fun h => absurd h (by omega), fun h => absurd h (by omega)⟩
        case measure => simp [intOf]
    · have y : wr.cell? ⟨0, 1, none⟩ = some (.int .u64 64) := HI.out.tab.at 1
      by_cases hg : 64 < a1
      · have z := HI.out.res.fz
        have y0 := HI.out.res.c0
        have y1 := HI.out.res.c1
        have y2 := HI.out.res.c2
        have y3 := HI.out.res.c3
        have y4 := HI.out.res.c4
        go_wp2
        refine bodyPost_ret (v := .tuple #[.agg #[.int .i64 0, .int .i64 0, .int .i64 0, .bool false, .int .i64 0], .bool false]) (by simp [results, Tryz.results59, go_sem, y0, y1, y2, y3, y4]) rfl ⟨rfl, ?_⟩
        exact bst (bst (bst (bst (bst HI.out.below (by omega) _ _) (by omega) _ _) (by omega) _ _) (by omega) _ _) (by omega) _ _
      · have HG : Hid (a1 ≤ 64) := (show a1 ≤ 64 by omega)
        go_wp2
        go_roundw
        case rel => exact ⟨1 + 1, by omega, rfl, HI.out, fun _ => HJ.out.1 (by omega), fun _ => HG.out, fun h => absurd h (by omega), fun h => absurd h (by omega), fun h => absurd h (by omega), fun h => absurd h (by omega), fun h => absurd h (by omega), fun h => absurd h (by omega)⟩
        case measure => simp [intOf]
    · have y : wr.cell? ⟨0, 2, none⟩ = some (.int .u64 255) := HI.out.tab.at 2
      by_cases hg : 255 < a2
      · have z := HI.out.res.fz
        have y0 := HI.out.res.c0
        have y1 := HI.out.res.c1
        have y2 := HI.out.res.c2
        have y3 := HI.out.res.c3
        have y4 := HI.out.res.c4
        go_wp2
        refine bodyPost_ret (v := .tuple #[.agg #[.int .i64 0, .int .i64 0, .int .i64 0, .bool false, .int .i64 0], .bool false]) (by simp [results, Tryz.results59, go_sem, y0, y1, y2, y3, y4]) rfl ⟨rfl, ?_⟩
        exact bst (bst (bst (bst (bst HI.out.below (by omega) _ _) (by omega) _ _) (by omega) _ _) (by omega) _ _) (by omega) _ _
      · have HG : Hid (a2 ≤ 255) := (show a2 ≤ 255 by omega)
        go_wp2
        go_roundw
        case rel => exact ⟨2 + 1, by omega, rfl, HI.out, fun _ => HJ.out.1 (by omega), fun _ => HJ.out.2.1 (by omega), fun _ => HG.out, fun h => absurd h (by omega), fun h => absurd h (by omega), fun h => absurd h (by omega), fun h => absurd h (by omega), fun h => absurd h (by omega)⟩
        case measure => simp [intOf]
    · have y : wr.cell? ⟨0, 3, none⟩ = some (.int .u64 1) := HI.out.tab.at 3
      by_cases hg : 1 < a3
      · have z := HI.out.res.fz
        have y0 := HI.out.res.c0
        have y1 := HI.out.res.c1
        have y2 := HI.out.res.c2
        have y3 := HI.out.res.c3
        have y4 := HI.out.res.c4
        go_wp2
        refine bodyPost_ret (v := .tuple #[.agg #[.int .i64 0, .int .i64 0, .int .i64 0, .bool false, .int .i64 0], .bool false]) (by simp [results, Tryz.results59, go_sem, y0, y1, y2, y3, y4]) rfl ⟨rfl, ?_⟩
        exact bst (bst (bst (bst (bst HI.out.below (by omega) _ _) (by omega) _ _) (by omega) _ _) (by omega) _ _) (by omega) _ _
      · have HG : Hid (a3 ≤ 1) := (show a3 ≤ 1 by omega)
        go_wp2
        go_roundw
        case rel => exact ⟨3 + 1, by omega, rfl, HI.out, fun _ => HJ.out.1 (by omega), fun _ => HJ.out.2.1 (by omega), fun _ => HJ.out.2.2.1 (by omega), fun _ => HG.out, fun h => absurd h (by omega), fun h => absurd h (by omega), fun h => absurd h (by omega), fun h => absurd h (by omega)⟩
        case measure => simp [intOf]
    · have y : wr.cell? ⟨0, 4, none⟩ = some (.int .u64 255) := HI.out.tab.at 4
      by_cases hg : 255 < a4
      · have z := HI.out.res.fz
        have y0 := HI.out.res.c0
        have y1 := HI.out.res.c1
        have y2 := HI.out.res.c2
        have y3 := HI.out.res.c3
        have y4 := HI.out.res.c4
        go_wp2
        refine bodyPost_ret (v := .tuple #[.agg #[.int .i64 0, .int .i64 0, .int .i64 0, .bool false, .int .i64 0], .bool false]) (by simp [results, Tryz.results59, go_sem, y0, y1, y2, y3, y4]) rfl ⟨rfl, ?_⟩
        exact bst (bst (bst (bst (bst HI.out.below (by omega) _ _) (by omega) _ _) (by omega) _ _) (by omega) _ _) (by omega) _ _
      · have HG : Hid (a4 ≤ 255) := (show a4 ≤ 255 by omega)
        go_wp2
        go_roundw
        case rel => exact ⟨4 + 1, by omega, rfl, HI.out, fun _ => HJ.out.1 (by omega), fun _ => HJ.out.2.1 (by omega), fun _ => HJ.out.2.2.1 (by omega), fun _ => HJ.out.2.2.2.1 (by omega), fun _ => HG.out, fun h => absurd h (by omega), fun h => absurd h (by omega), fun h => absurd h (by omega)⟩
        case measure => simp [intOf]
    · have y : wr.cell? ⟨0, 5, none⟩ = some (.int .u64 0) := HI.out.tab.at 5
      by_cases hg : 0 < a5
      · have z := HI.out.res.fz
        have y0 := HI.out.res.c0
        have y1 := HI.out.res.c1
        have y2 := HI.out.res.c2
        have y3 := HI.out.res.c3
        have y4 := HI.out.res.c4
        go_wp2
        refine bodyPost_ret (v := .tuple #[.agg #[.int .i64 0, .int .i64 0, .int .i64 0, .bool false, .int .i64 0], .bool false]) (by simp [results, Tryz.results59, go_sem, y0, y1, y2, y3, y4]) rfl ⟨rfl, ?_⟩
        exact bst (bst (bst (bst (bst HI.out.below (by omega) _ _) (by omega) _ _) (by omega) _ _) (by omega) _ _) (by omega) _ _
      · have HG : Hid (a5 ≤ 0) := (show a5 ≤ 0 by omega)
        go_wp2
        go_roundw
        case rel => exact ⟨5 + 1, by omega, rfl, HI.out, fun _ => HJ.out.1 (by omega), fun _ => HJ.out.2.1 (by omega), fun _ => HJ.out.2.2.1 (by omega), fun _ => HJ.out.2.2.2.1 (by omega), fun _ => HJ.out.2.2.2.2.1 (by omega), fun _ => HG.out, fun h => absurd h (by omega), fun h => absurd h (by omega)⟩
        case measure => simp [intOf]
    · have y : wr.cell? ⟨0, 6, none⟩ = some (.int .u64 0) := HI.out.tab.at 6
      by_cases hg : 0 < a6
      · have z := HI.out.res.fz
        have y0 := HI.out.res.c0
        have y1 := HI.out.res.c1
        have y2 := HI.out.res.c2
        have y3 := HI.out.res.c3
        have y4 := HI.out.res.c4
        go_wp2
        refine bodyPost_ret (v := .tuple #[.agg #[.int .i64 0, .int .i64 0, .int .i64 0, .bool false, .int .i64 0], .bool false]) (by simp [results, Tryz.results59, go_sem, y0, y1, y2, y3, y4]) rfl ⟨rfl, ?_⟩
        exact bst (bst (bst (bst (bst HI.out.below (by omega) _ _) (by omega) _ _) (by omega) _ _) (by omega) _ _) (by omega) _ _
      · have HG : Hid (a6 ≤ 0) := (show a6 ≤ 0 by omega)
        go_wp2
        go_roundw
        case rel => exact ⟨6 + 1, by omega, rfl, HI.out, fun _ => HJ.out.1 (by omega), fun _ => HJ.out.2.1 (by omega), fun _ => HJ.out.2.2.1 (by omega), fun _ => HJ.out.2.2.2.1 (by omega), fun _ => HJ.out.2.2.2.2.1 (by omega), fun _ => HJ.out.2.2.2.2.2.1 (by omega), fun _ => HG.out, fun h => absurd h (by omega)⟩
        case measure => simp [intOf]
    · have y : wr.cell? ⟨0, 7, none⟩ = some (.int .u64 0) := HI.out.tab.at 7
      by_cases hg : 0 < a7
      · have z := HI.out.res.fz
        have y0 := HI.out.res.c0
        have y1 := HI.out.res.c1
        have y2 := HI.out.res.c2
        have y3 := HI.out.res.c3
        have y4 := HI.out.res.c4
        go_wp2
        refine bodyPost_ret (v := .tuple #[.agg #[.int .i64 0, .int .i64 0, .int .i64 0, .bool false, .int .i64 0], .bool false]) (by simp [results, Tryz.results59, go_sem, y0, y1, y2, y3, y4]) rfl ⟨rfl, ?_⟩
        exact bst (bst (bst (bst (bst HI.out.below (by omega) _ _) (by omega) _ _) (by omega) _ _) (by omega) _ _) (by omega) _ _
      · have HG : Hid (a7 ≤ 0) := (show a7 ≤ 0 by omega)
        go_wp2
        go_roundw
        case rel => exact ⟨7 + 1, by omega, rfl, HI.out, fun _ => HJ.out.1 (by omega), fun _ => HJ.out.2.1 (by omega), fun _ => HJ.out.2.2.1 (by omega), fun _ => HJ.out.2.2.2.1 (by omega), fun _ => HJ.out.2.2.2.2.1 (by omega), fun _ => HJ.out.2.2.2.2.2.1 (by omega), fun _ => HJ.out.2.2.2.2.2.2.1 (by omega), fun _ => HG.out⟩
        case measure => simp [intOf]
    · exact absurd ⟨HJ.out.1 (by omega), HJ.out.2.1 (by omega), HJ.out.2.2.1 (by omega), HJ.out.2.2.2.1 (by omega), HJ.out.2.2.2.2.1 (by omega), HJ.out.2.2.2.2.2.1 (by omega), HJ.out.2.2.2.2.2.2.1 (by omega), HJ.out.2.2.2.2.2.2.2 (by omega)⟩ HN.out
theorem ro_any (a : Nat → Int) (h0 : ∀ j, 0 ≤ a j) (w : World) (hT : TabV w) : Calls Tryz.prog 59 #[.agg #[.int .u64 (a 0), .int .u64 (a 1), .int .u64 (a 2), .int .u64 (a 3), .int .u64 (a 4), .int .u64 (a 5), .int .u64 (a 6), .int .u64 (a 7)]] w fun e w' => e = .returned (.tuple #[.agg #[.int .i64 (wvX a).th, .int .i64 (wvX a).pa, .int .i64 (wvX a).co, .bool (wvX a).wa, .int .i64 (wvX a).lo], .bool (wvB a)]) ∧ Below w.heap.size w w' := by
  by_cases h : wvB a = true
  · rw [wvX_yes h, h]
    obtain ⟨q0, q1, q2, q3, q4, q5, q6, q7⟩ := (wvB_iff h0).1 h
    have := ro_yes (a 0) (a 1) (a 2) (a 3) (a 4) (a 5) (a 6) (a 7) ⟨h0 0, q0⟩ ⟨h0 1, q1⟩ ⟨h0 2, q2⟩ ⟨h0 3, q3⟩ ⟨h0 4, q4⟩ ⟨h0 5, q5⟩ ⟨h0 6, q6⟩ ⟨h0 7, q7⟩ w hT
    rwa [show (a 3 == 1) = decide (a 3 = 1) by cases hx : decide (a 3 = 1) <;> simp at hx <;> simp [hx]] at this
  · have h' := Bool.eq_false_iff.2 h
    rw [wvX_no h', h']
    exact ro_no (a 0) (a 1) (a 2) (a 3) (a 4) (a 5) (a 6) (a 7) (fun q => h ((wvB_iff h0).2 q)) w hT
/-! ### Check -/
set_option maxRecDepth 100000 in
set_option maxHeartbeats 1000000 in
theorem check_any (c : Rv) (hc : Fv c) (w : World) (hT : TabV w) : Calls Tryz.prog 112 #[.agg #[.int .i64 c.th, .int .i64 c.pa, .int .i64 c.co, .bool c.wa, .int .i64 c.lo]] w fun e w' => e = .returned (.int .i64 (vkE c)) ∧ Below w.heap.size w w' := by
  have HO : Hid (∀ wc, Calls Tryz.prog 157 #[.agg #[.int .i64 c.th, .int .i64 c.pa, .int .i64 c.co, .bool c.wa, .int .i64 c.lo]] wc fun e w' => e = .returned (.agg #[.int .u64 (wsF c 0), .int .u64 (wsF c 1), .int .u64 (wsF c 2), .int .u64 (wsF c 3), .int .u64 (wsF c 4), .int .u64 (wsF c 5), .int .u64 (wsF c 6), .int .u64 (wsF c 7)]) ∧ Below wc.heap.size wc w') := fun wc => words_any c hc wc
  have HR : Hid (∀ wc, TabV wc → Calls Tryz.prog 59 #[.agg #[.int .u64 (wsF c 0), .int .u64 (wsF c 1), .int .u64 (wsF c 2), .int .u64 (wsF c 3), .int .u64 (wsF c 4), .int .u64 (wsF c 5), .int .u64 (wsF c 6), .int .u64 (wsF c 7)]] wc fun e w' => e = .returned (.tuple #[.agg #[.int .i64 (wvX (wsF c)).th, .int .i64 (wvX (wsF c)).pa, .int .i64 (wvX (wsF c)).co, .bool (wvX (wsF c)).wa, .int .i64 (wvX (wsF c)).lo], .bool (voB c)]) ∧ Below wc.heap.size wc w') := fun wc h => by
    have := ro_any (wsF c) (wsF_pos hc) wc h
    rwa [wvB_w hc] at this
  have Hw : Hid (TabV (w.alloc (.cells #[.int .i64 c.th, .int .i64 c.pa, .int .i64 c.co, .bool c.wa, .int .i64 c.lo] 40)) ∧ Below w.heap.size w (w.alloc (.cells #[.int .i64 c.th, .int .i64 c.pa, .int .i64 c.co, .bool c.wa, .int .i64 c.lo] 40))) := ⟨hT.on (bal (Below.refl _ _) _), bal (Below.refl _ _) _⟩
  clear hc hT
  generalize wvX (wsF c) = y at HR
  generalize wsF c 0 = a0 at HO HR
  generalize wsF c 1 = a1 at HO HR
  generalize wsF c 2 = a2 at HO HR
  generalize wsF c 3 = a3 at HO HR
  generalize wsF c 4 = a4 at HO HR
  generalize wsF c 5 = a5 at HO HR
  generalize wsF c 6 = a6 at HO HR
  generalize wsF c 7 = a7 at HO HR
  have e : vkE c = if voB c = true then 0 else 1 := rfl
  rw [e]
  generalize voB c = R at HR
  cases R
  all_goals
    go_enter Tryz.func112, Tryz.ntmps112
    go_wp2_with (first
      | (go_at_call 157; refine (HO.out _).mono ?_; rintro e1 w1 ⟨rfl, hb⟩; have H1 : Hid (TabV w1 ∧ Below w.heap.size w w1) := ⟨Hw.out.1.on hb, Hw.out.2.trans (hb.mono Hw.out.2.size)⟩; clear hb HO Hw)
      | (go_at_call 59; refine (HR.out _ H1.out.1).mono ?_; rintro e2 w2 ⟨rfl, hb⟩; have H2 : Hid (Below w.heap.size w w2) := H1.out.2.trans (hb.mono H1.out.2.size); clear hb HR H1)
      | fail)
    go_ret
    exact ⟨rfl, bal H2.out _⟩
end Go.Proofs.YtcgekcjnaadcmaaGreatDoor.Pqrcv

/- A memory with all tables; what isRcv, read and write of package rcv answer and do (written by mk_prog.py). -/
namespace Go.Proofs.YtcgekcjnaadcmaaGreatDoor.Pqrcv
open Go.Proofs.YtcgekcjnaadcmaaGreatDoor.Pbase Go.Proofs.YtcgekcjnaadcmaaGreatDoor.Pfield Go.Proofs.YtcgekcjnaadcmaaGreatDoor.Play Go.Proofs.YtcgekcjnaadcmaaGreatDoor.Pmem Go.Proofs.YtcgekcjnaadcmaaGreatDoor.Pring
open Go.RowKit M
set_option linter.unusedVariables false

/-- A memory and the three tables. -/
structure Mv (w : World) (p b N : Nat) (M : Nat → Nat → Int) : Prop where
  mx : Mx w p b N M
  vt : TabV w
theorem Mv.on {w w' : World} {p b N : Nat} {M : Nat → Nat → Int} (h : Mv w p b N M) (hB : Below w.heap.size w w') : Mv w' p b N M := ⟨h.mx.on hB, h.vt.on hB⟩
theorem Mv.but {w w' : World} {p b N : Nat} {M M' : Nat → Nat → Int} (h : Mv w p b N M) (hM : MemIs w' p b N M') (hF : Fit M') (hB : But b w w') : Mv w' p b N M' :=
  ⟨h.mx.but hM hF hB, h.vt.but hB (tabV_ne h.mx.mem h.mx.n1 h.vt)⟩
/-! ### isRcv -/
set_option maxRecDepth 100000 in
theorem isR_any (p b N : Nat) (f : Int) (M : Nat → Nat → Int) (w : World) (hM : Mv w p b N M) : Calls Tryz.prog 57 #[.pointer (some ⟨p, 0, none⟩), .int .i64 f] w fun e w' => e = .returned (.bool (Phead.isE N M f 6 == 0)) ∧ Below w.heap.size w w' := by
  have HI : Hid (Calls Tryz.prog 89 #[.pointer (some ⟨p, 0, none⟩), .int .i64 f, .int .i64 6] w fun e w' => e = .returned (.int .i64 (Phead.isE N M f 6)) ∧ Below w.heap.size w w') := Phead.his_any p b N f 6 M w hM.mx.n1 hM.mx.n64 hM.mx.mem hM.mx.hd hM.mx.fit
  clear hM
  generalize Phead.isE N M f 6 = E at HI ⊢
  go_enter Tryz.func57, Tryz.ntmps57
  go_wp2_with (first
    | (go_at_call 89; refine HI.out.mono ?_; rintro e1 w1 ⟨rfl, hb⟩; have H1 := rhide hb; clear hb HI)
    | fail)
  go_ret
  exact ⟨rfl, H1.out⟩
/-! ### read -/
/-- The words that were read, k of them. -/
def rdL (x0 x1 x2 x3 x4 x5 x6 x7 : Int) : Nat → List Value
  | 0 => [.int .u64 0, .int .u64 0, .int .u64 0, .int .u64 0, .int .u64 0, .int .u64 0, .int .u64 0, .int .u64 0]
  | 1 => [.int .u64 x0, .int .u64 0, .int .u64 0, .int .u64 0, .int .u64 0, .int .u64 0, .int .u64 0, .int .u64 0]
  | 2 => [.int .u64 x0, .int .u64 x1, .int .u64 0, .int .u64 0, .int .u64 0, .int .u64 0, .int .u64 0, .int .u64 0]
  | 3 => [.int .u64 x0, .int .u64 x1, .int .u64 x2, .int .u64 0, .int .u64 0, .int .u64 0, .int .u64 0, .int .u64 0]
  | 4 => [.int .u64 x0, .int .u64 x1, .int .u64 x2, .int .u64 x3, .int .u64 0, .int .u64 0, .int .u64 0, .int .u64 0]
  | 5 => [.int .u64 x0, .int .u64 x1, .int .u64 x2, .int .u64 x3, .int .u64 x4, .int .u64 0, .int .u64 0, .int .u64 0]
  | 6 => [.int .u64 x0, .int .u64 x1, .int .u64 x2, .int .u64 x3, .int .u64 x4, .int .u64 x5, .int .u64 0, .int .u64 0]
  | 7 => [.int .u64 x0, .int .u64 x1, .int .u64 x2, .int .u64 x3, .int .u64 x4, .int .u64 x5, .int .u64 x6, .int .u64 0]
  | _ => [.int .u64 x0, .int .u64 x1, .int .u64 x2, .int .u64 x3, .int .u64 x4, .int .u64 x5, .int .u64 x6, .int .u64 x7]
structure RdI (w W : World) (p b N : Nat) (M : Nat → Nat → Int) (x0 x1 x2 x3 x4 x5 x6 x7 : Int) (k : Nat) : Prop where
  res : RowV W w.heap.size (rdL x0 x1 x2 x3 x4 x5 x6 x7 0)
  all : RowV W (w.heap.size + 1) (rdL x0 x1 x2 x3 x4 x5 x6 x7 k)
  mem : MemIs W p b N M
  below : Below w.heap.size w W
theorem rd_new {w : World} {p b N : Nat} {M : Nat → Nat → Int} (x0 x1 x2 x3 x4 x5 x6 x7 : Int) (h : MemIs w p b N M) : RdI w ((w.alloc (.cells #[.int .u64 0, .int .u64 0, .int .u64 0, .int .u64 0, .int .u64 0, .int .u64 0, .int .u64 0, .int .u64 0] 106)).alloc (.cells #[.int .u64 0, .int .u64 0, .int .u64 0, .int .u64 0, .int .u64 0, .int .u64 0, .int .u64 0, .int .u64 0] 106)) p b N M x0 x1 x2 x3 x4 x5 x6 x7 0 := by
  have b0 := rowV_new w (rdL x0 x1 x2 x3 x4 x5 x6 x7 0) 106
  have b1 := rowV_new (w.alloc (.cells #[.int .u64 0, .int .u64 0, .int .u64 0, .int .u64 0, .int .u64 0, .int .u64 0, .int .u64 0, .int .u64 0] 106)) (rdL x0 x1 x2 x3 x4 x5 x6 x7 0) 106
  simp only [World.size_alloc] at b1
  exact ⟨b0.on (bal (Below.refl _ _) _), b1, h.grown (bal (bal (Below.refl _ _) _) _), bal (bal (Below.refl _ _) _) _⟩
theorem RdI.step {w W : World} {p b N : Nat} {M : Nat → Nat → Int} {x0 x1 x2 x3 x4 x5 x6 x7 : Int} {k j : Nat} (h : RdI w W p b N M x0 x1 x2 x3 x4 x5 x6 x7 k) (hp : p < w.heap.size) (hb : b < w.heap.size) (i : Nat) (v : Value) (hv : (rdL x0 x1 x2 x3 x4 x5 x6 x7 k).set i v = rdL x0 x1 x2 x3 x4 x5 x6 x7 j) : RdI w (W.setCell ⟨w.heap.size + 1, i, none⟩ v) p b N M x0 x1 x2 x3 x4 x5 x6 x7 j :=
  ⟨h.res.other (by omega) _ _, by rw [← hv]; exact h.all.set i v, h.mem.on (heap_setCell_other _ _ _ _ (by show p ≠ w.heap.size + 1; omega)) (heap_setCell_other _ _ _ _ (by show b ≠ w.heap.size + 1; omega)), bst h.below (by omega) _ _⟩
set_option maxRecDepth 100000 in
set_option maxHeartbeats 2000000 in
theorem read_any (p b N : Nat) (f : Int) (M : Nat → Nat → Int) (w : World) (hM : Mv w p b N M) (hf : okF N f = true) : Calls Tryz.prog 58 #[.pointer (some ⟨p, 0, none⟩), .int .i64 f] w fun e w' => e = .returned (.tuple #[.agg #[.int .u64 (M f.toNat 4), .int .u64 (M f.toNat 5), .int .u64 (M f.toNat 6), .int .u64 (M f.toNat 7), .int .u64 (M f.toNat 8), .int .u64 (M f.toNat 9), .int .u64 (M f.toNat 10), .int .u64 (M f.toNat 11)], .int .i64 0]) ∧ Below w.heap.size w w' := by
  have hL : ∀ k : Nat, k < 8 → ∀ wc, MemIs wc p b N M → Calls Tryz.prog 118 #[.pointer (some ⟨p, 0, none⟩), .int .i64 f, .int .i64 ((4 + k : Nat) : Int)] wc fun e w' => e = .returned (.tuple #[.int .u64 (M f.toNat (4 + k)), .int .i64 0]) ∧ w' = wc := fun k hk wc h => by
    have := Pmem.load_any p b N f ((4 + k : Nat) : Int) M wc hM.mx.n1 hM.mx.n64 h
    have ho : okW N f ((4 + k : Nat) : Int) = true := by unfold okW; rw [hf]; simp; omega
    rwa [show errW N f ((4 + k : Nat) : Int) = 0 by unfold errW; rw [ho]; rfl, show ldM N M f ((4 + k : Nat) : Int) = M f.toNat (4 + k) by unfold ldM; rw [ho]; rfl] at this
  have HL0 : Hid (∀ wc, MemIs wc p b N M → Calls Tryz.prog 118 #[.pointer (some ⟨p, 0, none⟩), .int .i64 f, .int .i64 4] wc fun e w' => e = .returned (.tuple #[.int .u64 (M f.toNat 4), .int .i64 0]) ∧ w' = wc) := hL 0 (by omega)
  have HL1 : Hid (∀ wc, MemIs wc p b N M → Calls Tryz.prog 118 #[.pointer (some ⟨p, 0, none⟩), .int .i64 f, .int .i64 5] wc fun e w' => e = .returned (.tuple #[.int .u64 (M f.toNat 5), .int .i64 0]) ∧ w' = wc) := hL 1 (by omega)
  have HL2 : Hid (∀ wc, MemIs wc p b N M → Calls Tryz.prog 118 #[.pointer (some ⟨p, 0, none⟩), .int .i64 f, .int .i64 6] wc fun e w' => e = .returned (.tuple #[.int .u64 (M f.toNat 6), .int .i64 0]) ∧ w' = wc) := hL 2 (by omega)
  have HL3 : Hid (∀ wc, MemIs wc p b N M → Calls Tryz.prog 118 #[.pointer (some ⟨p, 0, none⟩), .int .i64 f, .int .i64 7] wc fun e w' => e = .returned (.tuple #[.int .u64 (M f.toNat 7), .int .i64 0]) ∧ w' = wc) := hL 3 (by omega)
  have HL4 : Hid (∀ wc, MemIs wc p b N M → Calls Tryz.prog 118 #[.pointer (some ⟨p, 0, none⟩), .int .i64 f, .int .i64 8] wc fun e w' => e = .returned (.tuple #[.int .u64 (M f.toNat 8), .int .i64 0]) ∧ w' = wc) := hL 4 (by omega)
  have HL5 : Hid (∀ wc, MemIs wc p b N M → Calls Tryz.prog 118 #[.pointer (some ⟨p, 0, none⟩), .int .i64 f, .int .i64 9] wc fun e w' => e = .returned (.tuple #[.int .u64 (M f.toNat 9), .int .i64 0]) ∧ w' = wc) := hL 5 (by omega)
  have HL6 : Hid (∀ wc, MemIs wc p b N M → Calls Tryz.prog 118 #[.pointer (some ⟨p, 0, none⟩), .int .i64 f, .int .i64 10] wc fun e w' => e = .returned (.tuple #[.int .u64 (M f.toNat 10), .int .i64 0]) ∧ w' = wc) := hL 6 (by omega)
  have HL7 : Hid (∀ wc, MemIs wc p b N M → Calls Tryz.prog 118 #[.pointer (some ⟨p, 0, none⟩), .int .i64 f, .int .i64 11] wc fun e w' => e = .returned (.tuple #[.int .u64 (M f.toNat 11), .int .i64 0]) ∧ w' = wc) := hL 7 (by omega)
  have H0 : Hid (RdI w _ p b N M (M f.toNat 4) (M f.toNat 5) (M f.toNat 6) (M f.toNat 7) (M f.toNat 8) (M f.toNat 9) (M f.toNat 10) (M f.toNat 11) 0) := rd_new _ _ _ _ _ _ _ _ hM.mx.mem
  have hp := hM.mx.mem.lt.1
  have hb := hM.mx.mem.lt.2
  clear hL hM hf
  generalize M f.toNat 4 = x0 at *
  generalize M f.toNat 5 = x1 at *
  generalize M f.toNat 6 = x2 at *
  generalize M f.toNat 7 = x3 at *
  generalize M f.toNat 8 = x4 at *
  generalize M f.toNat 9 = x5 at *
  generalize M f.toNat 10 = x6 at *
  generalize M f.toNat 11 = x7 at *
  go_enter Tryz.func58, Tryz.ntmps58
  go_wp2
  generalize (w.alloc _).alloc _ = w1 at H0 ⊢
  go_loopw [10] (fun i wr => ∃ k : Nat, k ≤ 8 ∧ i = .int .i64 k ∧ RdI w wr p b N M x0 x1 x2 x3 x4 x5 x6 x7 k) (fun i _ => 8 - (intOf i).toNat)
  case atStart => exact ⟨0, by omega, rfl, H0.out⟩
  case round =>
    obtain ⟨k, hk, rfl, hI⟩ := hrel
    have HI := rhide hI
    clear hI H0
    rcases (show k = 0 ∨ k = 1 ∨ k = 2 ∨ k = 3 ∨ k = 4 ∨ k = 5 ∨ k = 6 ∨ k = 7 ∨ k = 8 by omega) with rfl | rfl | rfl | rfl | rfl | rfl | rfl | rfl | rfl
    · have y0 : wr.cell? ⟨w.heap.size + 1, 0, none⟩ = some (.int .u64 0) := HI.out.all.cell 0
      have z0 := HI.out.all.fz 0
      clear HL1 HL2 HL3 HL4 HL5 HL6 HL7
      go_wp2_with (first
        | (go_at_call 118; refine (HL0.out _ HI.out.mem).mono ?_; rintro e2 w2 ⟨rfl, hw⟩; subst w2)
        | fail)
      go_roundw
      case rel => exact ⟨0 + 1, by omega, rfl, HI.out.step (j := 0 + 1) hp hb 0 _ rfl⟩
      case measure => simp [intOf]
    · have y0 : wr.cell? ⟨w.heap.size + 1, 1, none⟩ = some (.int .u64 0) := HI.out.all.cell 1
      have z0 := HI.out.all.fz 1
      clear HL0 HL2 HL3 HL4 HL5 HL6 HL7
      go_wp2_with (first
        | (go_at_call 118; refine (HL1.out _ HI.out.mem).mono ?_; rintro e2 w2 ⟨rfl, hw⟩; subst w2)
        | fail)
      go_roundw
      case rel => exact ⟨1 + 1, by omega, rfl, HI.out.step (j := 1 + 1) hp hb 1 _ rfl⟩
      case measure => simp [intOf]
    · have y0 : wr.cell? ⟨w.heap.size + 1, 2, none⟩ = some (.int .u64 0) := HI.out.all.cell 2
      have z0 := HI.out.all.fz 2
      clear HL0 HL1 HL3 HL4 HL5 HL6 HL7
      go_wp2_with (first
        | (go_at_call 118; refine (HL2.out _ HI.out.mem).mono ?_; rintro e2 w2 ⟨rfl, hw⟩; subst w2)
        | fail)
      go_roundw
      case rel => exact ⟨2 + 1, by omega, rfl, HI.out.step (j := 2 + 1) hp hb 2 _ rfl⟩
      case measure => simp [intOf]
    · have y0 : wr.cell? ⟨w.heap.size + 1, 3, none⟩ = some (.int .u64 0) := HI.out.all.cell 3
      have z0 := HI.out.all.fz 3
      clear HL0 HL1 HL2 HL4 HL5 HL6 HL7
      go_wp2_with (first
        | (go_at_call 118; refine (HL3.out _ HI.out.mem).mono ?_; rintro e2 w2 ⟨rfl, hw⟩; subst w2)
        | fail)
      go_roundw
      case rel => exact ⟨3 + 1, by omega, rfl, HI.out.step (j := 3 + 1) hp hb 3 _ rfl⟩
      case measure => simp [intOf]
    · have y0 : wr.cell? ⟨w.heap.size + 1, 4, none⟩ = some (.int .u64 0) := HI.out.all.cell 4
      have z0 := HI.out.all.fz 4
      clear HL0 HL1 HL2 HL3 HL5 HL6 HL7
      go_wp2_with (first
        | (go_at_call 118; refine (HL4.out _ HI.out.mem).mono ?_; rintro e2 w2 ⟨rfl, hw⟩; subst w2)
        | fail)
      go_roundw
      case rel => exact ⟨4 + 1, by omega, rfl, HI.out.step (j := 4 + 1) hp hb 4 _ rfl⟩
      case measure => simp [intOf]
    · have y0 : wr.cell? ⟨w.heap.size + 1, 5, none⟩ = some (.int .u64 0) := HI.out.all.cell 5
      have z0 := HI.out.all.fz 5
      clear HL0 HL1 HL2 HL3 HL4 HL6 HL7
      go_wp2_with (first
        | (go_at_call 118; refine (HL5.out _ HI.out.mem).mono ?_; rintro e2 w2 ⟨rfl, hw⟩; subst w2)
        | fail)
      go_roundw
      case rel => exact ⟨5 + 1, by omega, rfl, HI.out.step (j := 5 + 1) hp hb 5 _ rfl⟩
      case measure => simp [intOf]
    · have y0 : wr.cell? ⟨w.heap.size + 1, 6, none⟩ = some (.int .u64 0) := HI.out.all.cell 6
      have z0 := HI.out.all.fz 6
      clear HL0 HL1 HL2 HL3 HL4 HL5 HL7
      go_wp2_with (first
        | (go_at_call 118; refine (HL6.out _ HI.out.mem).mono ?_; rintro e2 w2 ⟨rfl, hw⟩; subst w2)
        | fail)
      go_roundw
      case rel => exact ⟨6 + 1, by omega, rfl, HI.out.step (j := 6 + 1) hp hb 6 _ rfl⟩
      case measure => simp [intOf]
    · have y0 : wr.cell? ⟨w.heap.size + 1, 7, none⟩ = some (.int .u64 0) := HI.out.all.cell 7
      have z0 := HI.out.all.fz 7
      clear HL0 HL1 HL2 HL3 HL4 HL5 HL6
      go_wp2_with (first
        | (go_at_call 118; refine (HL7.out _ HI.out.mem).mono ?_; rintro e2 w2 ⟨rfl, hw⟩; subst w2)
        | fail)
      go_roundw
      case rel => exact ⟨7 + 1, by omega, rfl, HI.out.step (j := 7 + 1) hp hb 7 _ rfl⟩
      case measure => simp [intOf]
    · have x0' : wr.cell? ⟨w.heap.size + 1, 0, none⟩ = some (.int .u64 x0) := HI.out.all.cell 0
      have x1' : wr.cell? ⟨w.heap.size + 1, 1, none⟩ = some (.int .u64 x1) := HI.out.all.cell 1
      have x2' : wr.cell? ⟨w.heap.size + 1, 2, none⟩ = some (.int .u64 x2) := HI.out.all.cell 2
      have x3' : wr.cell? ⟨w.heap.size + 1, 3, none⟩ = some (.int .u64 x3) := HI.out.all.cell 3
      have x4' : wr.cell? ⟨w.heap.size + 1, 4, none⟩ = some (.int .u64 x4) := HI.out.all.cell 4
      have x5' : wr.cell? ⟨w.heap.size + 1, 5, none⟩ = some (.int .u64 x5) := HI.out.all.cell 5
      have x6' : wr.cell? ⟨w.heap.size + 1, 6, none⟩ = some (.int .u64 x6) := HI.out.all.cell 6
      have x7' : wr.cell? ⟨w.heap.size + 1, 7, none⟩ = some (.int .u64 x7) := HI.out.all.cell 7
      have y0 : wr.cell? ⟨w.heap.size, 0, none⟩ = some (.int .u64 0) := HI.out.res.cell 0
      have y1 : wr.cell? ⟨w.heap.size, 1, none⟩ = some (.int .u64 0) := HI.out.res.cell 1
      have y2 : wr.cell? ⟨w.heap.size, 2, none⟩ = some (.int .u64 0) := HI.out.res.cell 2
      have y3 : wr.cell? ⟨w.heap.size, 3, none⟩ = some (.int .u64 0) := HI.out.res.cell 3
      have y4 : wr.cell? ⟨w.heap.size, 4, none⟩ = some (.int .u64 0) := HI.out.res.cell 4
      have y5 : wr.cell? ⟨w.heap.size, 5, none⟩ = some (.int .u64 0) := HI.out.res.cell 5
      have y6 : wr.cell? ⟨w.heap.size, 6, none⟩ = some (.int .u64 0) := HI.out.res.cell 6
      have y7 : wr.cell? ⟨w.heap.size, 7, none⟩ = some (.int .u64 0) := HI.out.res.cell 7
      have z0 := HI.out.res.fz
      clear HL0 HL1 HL2 HL3 HL4 HL5 HL6 HL7
      go_wp2
      refine bodyPost_ret (v := .tuple #[.agg #[.int .u64 x0, .int .u64 x1, .int .u64 x2, .int .u64 x3, .int .u64 x4, .int .u64 x5, .int .u64 x6, .int .u64 x7], .int .i64 0]) (by simp [results, Tryz.results58, go_sem, y0, y1, y2, y3, y4, y5, y6, y7]) rfl ⟨rfl, ?_⟩
      exact bst (bst (bst (bst (bst (bst (bst (bst HI.out.below (by omega) _ _) (by omega) _ _) (by omega) _ _) (by omega) _ _) (by omega) _ _) (by omega) _ _) (by omega) _ _) (by omega) _ _
/-! ### write -/
structure WrI (w W : World) (p b N : Nat) (M : Nat → Nat → Int) : Prop where
  mem : MemIs W p b N M
  but : But b w W
theorem WrI.turn {w W : World} {p b N : Nat} {M : Nat → Nat → Int} (h : WrI w W p b N M) (M' : Nat → Nat → Int) : WrI w (W.setRow b (cellsM N M')) p b N M' := ⟨h.mem.set M', h.but.setRow _⟩
/-- The memory behind k stores. -/
def laK (N : Nat) (M : Nat → Nat → Int) (f : Int) (c : Rv) (k : Nat) : Nat → Nat → Int := layF N M f (c.ws.take k)
theorem laK0 (N : Nat) (M : Nat → Nat → Int) (f : Int) (c : Rv) : stW N (laK N M f c 0) f 4 c.th = laK N M f c 1 := lay_step (l := c.ws.take 0) (by show 0 < 32; omega) c.th
theorem laK1 (N : Nat) (M : Nat → Nat → Int) (f : Int) (c : Rv) : stW N (laK N M f c 1) f 5 c.pa = laK N M f c 2 := lay_step (l := c.ws.take 1) (by show 1 < 32; omega) c.pa
theorem laK2 (N : Nat) (M : Nat → Nat → Int) (f : Int) (c : Rv) : stW N (laK N M f c 2) f 6 c.co = laK N M f c 3 := lay_step (l := c.ws.take 2) (by show 2 < 32; omega) c.co
theorem laK3 (N : Nat) (M : Nat → Nat → Int) (f : Int) (c : Rv) : stW N (laK N M f c 3) f 7 (vz c.wa) = laK N M f c 4 := lay_step (l := c.ws.take 3) (by show 3 < 32; omega) (vz c.wa)
theorem laK4 (N : Nat) (M : Nat → Nat → Int) (f : Int) (c : Rv) : stW N (laK N M f c 4) f 8 c.lo = laK N M f c 5 := lay_step (l := c.ws.take 4) (by show 4 < 32; omega) c.lo
theorem laK5 (N : Nat) (M : Nat → Nat → Int) (f : Int) (c : Rv) : stW N (laK N M f c 5) f 9 0 = laK N M f c 6 := lay_step (l := c.ws.take 5) (by show 5 < 32; omega) 0
theorem laK6 (N : Nat) (M : Nat → Nat → Int) (f : Int) (c : Rv) : stW N (laK N M f c 6) f 10 0 = laK N M f c 7 := lay_step (l := c.ws.take 6) (by show 6 < 32; omega) 0
theorem laK7 (N : Nat) (M : Nat → Nat → Int) (f : Int) (c : Rv) : stW N (laK N M f c 7) f 11 0 = laK N M f c 8 := lay_step (l := c.ws.take 7) (by show 7 < 32; omega) 0
theorem words_vo (c : Rv) (hc : Vo c) (w : World) : Calls Tryz.prog 157 #[.agg #[.int .i64 c.th, .int .i64 c.pa, .int .i64 c.co, .bool c.wa, .int .i64 c.lo]] w fun e w' => e = .returned (.agg #[.int .u64 c.th, .int .u64 c.pa, .int .u64 c.co, .int .u64 (vz c.wa), .int .u64 c.lo, .int .u64 0, .int .u64 0, .int .u64 0]) ∧ Below w.heap.size w w' := by
  have := words_any c hc.fv w
  obtain ⟨e0, e1, e2, e4⟩ := wsF_vo hc
  rwa [e0, e1, e2, e4, show wsF c 3 = vz c.wa from rfl, show wsF c 5 = 0 from rfl, show wsF c 6 = 0 from rfl, show wsF c 7 = 0 from rfl] at this
set_option maxRecDepth 100000 in
set_option maxHeartbeats 2000000 in
theorem write_any (p b N : Nat) (f : Int) (c : Rv) (M : Nat → Nat → Int) (w : World) (hM : Mv w p b N M) (hc : Vo c) (hf : okF N f = true) :
    Calls Tryz.prog 113 #[.pointer (some ⟨p, 0, none⟩), .int .i64 f, .agg #[.int .i64 c.th, .int .i64 c.pa, .int .i64 c.co, .bool c.wa, .int .i64 c.lo]] w fun e w' => e = .returned (.int .i64 0) ∧ Mv w' p b N (layF N M f c.ws) ∧ But b w w' := by
  have HO : Hid (∀ wc, Calls Tryz.prog 157 #[.agg #[.int .i64 c.th, .int .i64 c.pa, .int .i64 c.co, .bool c.wa, .int .i64 c.lo]] wc fun e w' => e = .returned (.agg #[.int .u64 c.th, .int .u64 c.pa, .int .u64 c.co, .int .u64 (vz c.wa), .int .u64 c.lo, .int .u64 0, .int .u64 0, .int .u64 0]) ∧ Below wc.heap.size wc w') := fun wc => words_vo c hc wc
  have hS : ∀ (k : Nat) (v : Int) (M1 : Nat → Nat → Int), k < 8 → ∀ wc, WrI w wc p b N M1 → Calls Tryz.prog 146 #[.pointer (some ⟨p, 0, none⟩), .int .i64 f, .int .i64 ((4 + k : Nat) : Int), .int .u64 v] wc fun e w' => e = .returned (.int .i64 0) ∧ WrI w w' p b N (stW N M1 f ((4 + k : Nat) : Int) v) := fun k v M1 hk wc h => by
    have := store_any p b N f ((4 + k : Nat) : Int) v M1 wc hM.mx.n1 hM.mx.n64 h.mem
    have ho : okW N f ((4 + k : Nat) : Int) = true := by unfold okW; rw [hf]; simp; omega
    rw [show errW N f ((4 + k : Nat) : Int) = 0 by unfold errW; rw [ho]; rfl] at this
    exact this.mono fun e w' ⟨h1, h2⟩ => ⟨h1, by rw [h2]; exact h.turn _⟩
  have HS0 : Hid (∀ wc, WrI w wc p b N (laK N M f c 0) → Calls Tryz.prog 146 #[.pointer (some ⟨p, 0, none⟩), .int .i64 f, .int .i64 4, .int .u64 c.th] wc fun e w' => e = .returned (.int .i64 0) ∧ WrI w w' p b N (laK N M f c 1)) := fun wc h => by
    have := hS 0 c.th _ (by omega) wc h
    rwa [show ((4 + 0 : Nat) : Int) = 4 from rfl, laK0] at this
  have i0 := vix0 c.th c.pa c.co (vz c.wa) c.lo 0 0 0
  have HS1 : Hid (∀ wc, WrI w wc p b N (laK N M f c 1) → Calls Tryz.prog 146 #[.pointer (some ⟨p, 0, none⟩), .int .i64 f, .int .i64 5, .int .u64 c.pa] wc fun e w' => e = .returned (.int .i64 0) ∧ WrI w w' p b N (laK N M f c 2)) := fun wc h => by
    have := hS 1 c.pa _ (by omega) wc h
    rwa [show ((4 + 1 : Nat) : Int) = 5 from rfl, laK1] at this
  have i1 := vix1 c.th c.pa c.co (vz c.wa) c.lo 0 0 0
  have HS2 : Hid (∀ wc, WrI w wc p b N (laK N M f c 2) → Calls Tryz.prog 146 #[.pointer (some ⟨p, 0, none⟩), .int .i64 f, .int .i64 6, .int .u64 c.co] wc fun e w' => e = .returned (.int .i64 0) ∧ WrI w w' p b N (laK N M f c 3)) := fun wc h => by
    have := hS 2 c.co _ (by omega) wc h
    rwa [show ((4 + 2 : Nat) : Int) = 6 from rfl, laK2] at this
  have i2 := vix2 c.th c.pa c.co (vz c.wa) c.lo 0 0 0
  have HS3 : Hid (∀ wc, WrI w wc p b N (laK N M f c 3) → Calls Tryz.prog 146 #[.pointer (some ⟨p, 0, none⟩), .int .i64 f, .int .i64 7, .int .u64 (vz c.wa)] wc fun e w' => e = .returned (.int .i64 0) ∧ WrI w w' p b N (laK N M f c 4)) := fun wc h => by
    have := hS 3 (vz c.wa) _ (by omega) wc h
    rwa [show ((4 + 3 : Nat) : Int) = 7 from rfl, laK3] at this
  have i3 := vix3 c.th c.pa c.co (vz c.wa) c.lo 0 0 0
  have HS4 : Hid (∀ wc, WrI w wc p b N (laK N M f c 4) → Calls Tryz.prog 146 #[.pointer (some ⟨p, 0, none⟩), .int .i64 f, .int .i64 8, .int .u64 c.lo] wc fun e w' => e = .returned (.int .i64 0) ∧ WrI w w' p b N (laK N M f c 5)) := fun wc h => by
    have := hS 4 c.lo _ (by omega) wc h
    rwa [show ((4 + 4 : Nat) : Int) = 8 from rfl, laK4] at this
  have i4 := vix4 c.th c.pa c.co (vz c.wa) c.lo 0 0 0
  have HS5 : Hid (∀ wc, WrI w wc p b N (laK N M f c 5) → Calls Tryz.prog 146 #[.pointer (some ⟨p, 0, none⟩), .int .i64 f, .int .i64 9, .int .u64 0] wc fun e w' => e = .returned (.int .i64 0) ∧ WrI w w' p b N (laK N M f c 6)) := fun wc h => by
    have := hS 5 0 _ (by omega) wc h
    rwa [show ((4 + 5 : Nat) : Int) = 9 from rfl, laK5] at this
  have i5 := vix5 c.th c.pa c.co (vz c.wa) c.lo 0 0 0
  have HS6 : Hid (∀ wc, WrI w wc p b N (laK N M f c 6) → Calls Tryz.prog 146 #[.pointer (some ⟨p, 0, none⟩), .int .i64 f, .int .i64 10, .int .u64 0] wc fun e w' => e = .returned (.int .i64 0) ∧ WrI w w' p b N (laK N M f c 7)) := fun wc h => by
    have := hS 6 0 _ (by omega) wc h
    rwa [show ((4 + 6 : Nat) : Int) = 10 from rfl, laK6] at this
  have i6 := vix6 c.th c.pa c.co (vz c.wa) c.lo 0 0 0
  have HS7 : Hid (∀ wc, WrI w wc p b N (laK N M f c 7) → Calls Tryz.prog 146 #[.pointer (some ⟨p, 0, none⟩), .int .i64 f, .int .i64 11, .int .u64 0] wc fun e w' => e = .returned (.int .i64 0) ∧ WrI w w' p b N (laK N M f c 8)) := fun wc h => by
    have := hS 7 0 _ (by omega) wc h
    rwa [show ((4 + 7 : Nat) : Int) = 11 from rfl, laK7] at this
  have i7 := vix7 c.th c.pa c.co (vz c.wa) c.lo 0 0 0
  have Hw : Hid (WrI w (w.alloc (.cells #[.int .i64 c.th, .int .i64 c.pa, .int .i64 c.co, .bool c.wa, .int .i64 c.lo] 40)) p b N (laK N M f c 0)) := by
    have e : laK N M f c 0 = M := lay_nil N M f
    rw [e]
    exact ⟨hM.mx.mem.grown (bal (Below.refl _ _) _), But.of_below b (bal (Below.refl _ _) _)⟩
  have HE : Hid (∀ W, WrI w W p b N (laK N M f c 8) → Mv W p b N (layF N M f c.ws) ∧ But b w W) := fun W h => ⟨hM.but h.mem (fit_lay hM.mx.fit N f hc.fit) h.but, h.but⟩
  clear hS hM hf hc
  generalize layF N M f c.ws = M5 at HE ⊢
  generalize laK N M f c = K at *
  generalize vz c.wa = I at *
  go_enter Tryz.func113, Tryz.ntmps113
  go_wp2_with (first
    | (go_at_call 157; refine (HO.out _).mono ?_; rintro e1 w1 ⟨rfl, hb⟩; have H1 : Hid (WrI w w1 p b N (K 0)) := ⟨Hw.out.mem.grown hb, Hw.out.but.trans (But.of_below b hb)⟩; clear hb HO Hw)
    | fail)
  go_loopw [12] (fun i wr => ∃ k : Nat, k ≤ 8 ∧ i = .int .i64 k ∧ WrI w wr p b N (K k)) (fun i _ => 8 - (intOf i).toNat)
  case atStart => exact ⟨0, by omega, rfl, H1.out⟩
  case round =>
    obtain ⟨k, hk, rfl, hI⟩ := hrel
    have HI := rhide hI
    clear hI H1
    rcases (show k = 0 ∨ k = 1 ∨ k = 2 ∨ k = 3 ∨ k = 4 ∨ k = 5 ∨ k = 6 ∨ k = 7 ∨ k = 8 by omega) with rfl | rfl | rfl | rfl | rfl | rfl | rfl | rfl | rfl
    · clear HS1 HS2 HS3 HS4 HS5 HS6 HS7
      go_wp2_with (first
        | (go_at_call 146; refine (HS0.out _ HI.out).mono ?_; rintro e2 w2 ⟨rfl, hw⟩; have H2 := rhide hw; clear hw)
        | fail)
      go_roundw
      case rel => exact ⟨0 + 1, by omega, rfl, H2.out⟩
      case measure => simp [intOf]
    · clear HS0 HS2 HS3 HS4 HS5 HS6 HS7
      go_wp2_with (first
        | (go_at_call 146; refine (HS1.out _ HI.out).mono ?_; rintro e2 w2 ⟨rfl, hw⟩; have H2 := rhide hw; clear hw)
        | fail)
      go_roundw
      case rel => exact ⟨1 + 1, by omega, rfl, H2.out⟩
      case measure => simp [intOf]
    · clear HS0 HS1 HS3 HS4 HS5 HS6 HS7
      go_wp2_with (first
        | (go_at_call 146; refine (HS2.out _ HI.out).mono ?_; rintro e2 w2 ⟨rfl, hw⟩; have H2 := rhide hw; clear hw)
        | fail)
      go_roundw
      case rel => exact ⟨2 + 1, by omega, rfl, H2.out⟩
      case measure => simp [intOf]
    · clear HS0 HS1 HS2 HS4 HS5 HS6 HS7
      go_wp2_with (first
        | (go_at_call 146; refine (HS3.out _ HI.out).mono ?_; rintro e2 w2 ⟨rfl, hw⟩; have H2 := rhide hw; clear hw)
        | fail)
      go_roundw
      case rel => exact ⟨3 + 1, by omega, rfl, H2.out⟩
      case measure => simp [intOf]
    · clear HS0 HS1 HS2 HS3 HS5 HS6 HS7
      go_wp2_with (first
        | (go_at_call 146; refine (HS4.out _ HI.out).mono ?_; rintro e2 w2 ⟨rfl, hw⟩; have H2 := rhide hw; clear hw)
        | fail)
      go_roundw
      case rel => exact ⟨4 + 1, by omega, rfl, H2.out⟩
      case measure => simp [intOf]
    · clear HS0 HS1 HS2 HS3 HS4 HS6 HS7
      go_wp2_with (first
        | (go_at_call 146; refine (HS5.out _ HI.out).mono ?_; rintro e2 w2 ⟨rfl, hw⟩; have H2 := rhide hw; clear hw)
        | fail)
      go_roundw
      case rel => exact ⟨5 + 1, by omega, rfl, H2.out⟩
      case measure => simp [intOf]
    · clear HS0 HS1 HS2 HS3 HS4 HS5 HS7
      go_wp2_with (first
        | (go_at_call 146; refine (HS6.out _ HI.out).mono ?_; rintro e2 w2 ⟨rfl, hw⟩; have H2 := rhide hw; clear hw)
        | fail)
      go_roundw
      case rel => exact ⟨6 + 1, by omega, rfl, H2.out⟩
      case measure => simp [intOf]
    · clear HS0 HS1 HS2 HS3 HS4 HS5 HS6
      go_wp2_with (first
        | (go_at_call 146; refine (HS7.out _ HI.out).mono ?_; rintro e2 w2 ⟨rfl, hw⟩; have H2 := rhide hw; clear hw)
        | fail)
      go_roundw
      case rel => exact ⟨7 + 1, by omega, rfl, H2.out⟩
      case measure => simp [intOf]
    · go_wp2
      go_ret
      exact ⟨rfl, (HE.out _ HI.out).1, (HE.out _ HI.out).2⟩
end Go.Proofs.YtcgekcjnaadcmaaGreatDoor.Pqrcv

/- What Get, Make and Put of package rcv answer and do, for all arguments. -/
namespace Go.Proofs.YtcgekcjnaadcmaaGreatDoor.Pqrcv
open Go.Proofs.YtcgekcjnaadcmaaGreatDoor.Pbase Go.Proofs.YtcgekcjnaadcmaaGreatDoor.Pfield Go.Proofs.YtcgekcjnaadcmaaGreatDoor.Play Go.Proofs.YtcgekcjnaadcmaaGreatDoor.Pmem Go.Proofs.YtcgekcjnaadcmaaGreatDoor.Pring
open Go.RowKit M
set_option linter.unusedVariables false

/-! ### Get -/
/-- The words of a frame behind its head. -/
def wdF (M : Nat → Nat → Int) (f : Int) (j : Nat) : Int := M f.toNat (4 + j)
structure GtI (w W : World) (p b N : Nat) (M : Nat → Nat → Int) : Prop where
  res : RowW W w.heap.size rv0
  mx : Mv W p b N M
  below : Below w.heap.size w W
theorem gtI_new {w : World} {p b N : Nat} {M : Nat → Nat → Int} (h : Mv w p b N M) : GtI w (w.alloc (.cells #[.int .i64 0, .int .i64 0, .int .i64 0, .bool false, .int .i64 0] 40)) p b N M :=
  ⟨rowW_new w rv0, h.on (bal (Below.refl _ _) _), bal (Below.refl _ _) _⟩
theorem GtI.on {w W W' : World} {p b N : Nat} {M : Nat → Nat → Int} (h : GtI w W p b N M) (hB : Below W.heap.size W W') : GtI w W' p b N M :=
  ⟨h.res.on hB, h.mx.on hB, h.below.trans (hB.mono h.below.size)⟩
set_option maxRecDepth 100000 in
set_option maxHeartbeats 1000000 in
theorem get_any (p b N : Nat) (f : Int) (M : Nat → Nat → Int) (w : World) (hM : Mv w p b N M) :
    Calls Tryz.prog 16 #[.pointer (some ⟨p, 0, none⟩), .int .i64 f] w fun e w' => e = .returned (.tuple #[.agg #[.int .i64 (vgX N M f).th, .int .i64 (vgX N M f).pa, .int .i64 (vgX N M f).co, .bool (vgX N M f).wa, .int .i64 (vgX N M f).lo], .int .i64 (vgE N M f)]) ∧ Below w.heap.size w w' := by
  have HIs : Hid (∀ wc, Mv wc p b N M → Calls Tryz.prog 57 #[.pointer (some ⟨p, 0, none⟩), .int .i64 f] wc fun e w' => e = .returned (.bool (Phead.isE N M f 6 == 0)) ∧ Below wc.heap.size wc w') := fun wc h => isR_any p b N f M wc h
  have H0 := rhide (gtI_new hM)
  have hfit := hM.mx.fit
  clear hM
  by_cases hk : Phead.isE N M f 6 = 0
  case neg =>
    have e1 : vgE N M f = 4 := by unfold vgE; rw [if_neg hk]
    have e2 : vgX N M f = rv0 := by unfold vgX; rw [if_neg (by rw [e1]; decide)]
    rw [e1, e2, show (Phead.isE N M f 6 == 0) = false by simp [hk]] at *
    clear hk e1 e2 hfit
    go_enter Tryz.func16, Tryz.ntmps16
    go_wp2_with (first
      | (go_at_call 57; refine (HIs.out _ H0.out.mx).mono ?_; rintro e1 w1 ⟨rfl, hb⟩; have H1 := rhide (H0.out.on hb); clear hb HIs H0; have x0 := H1.out.res.c0; have x1 := H1.out.res.c1; have x2 := H1.out.res.c2; have x3 := H1.out.res.c3; have x4 := H1.out.res.c4; have z := H1.out.res.fz)
      | fail)
    refine bodyPost_ret (v := .tuple #[.agg #[.int .i64 0, .int .i64 0, .int .i64 0, .bool false, .int .i64 0], .int .i64 4]) (by simp [results, Tryz.results16, go_sem, x0, x1, x2, x3, x4]) rfl ⟨rfl, ?_⟩
    exact bst (bst (bst (bst (bst H1.out.below (Nat.le_refl _) _ _) (Nat.le_refl _) _ _) (Nat.le_refl _) _ _) (Nat.le_refl _) _ _) (Nat.le_refl _) _ _
  case pos =>
    have hf := isE_ok hk
    have HRd : Hid (∀ wc, Mv wc p b N M → Calls Tryz.prog 58 #[.pointer (some ⟨p, 0, none⟩), .int .i64 f] wc fun e w' => e = .returned (.tuple #[.agg #[.int .u64 (M f.toNat 4), .int .u64 (M f.toNat 5), .int .u64 (M f.toNat 6), .int .u64 (M f.toNat 7), .int .u64 (M f.toNat 8), .int .u64 (M f.toNat 9), .int .u64 (M f.toNat 10), .int .u64 (M f.toNat 11)], .int .i64 0]) ∧ Below wc.heap.size wc w') := fun wc h => read_any p b N f M wc h hf
    have HTo : Hid (∀ wc, TabV wc → Calls Tryz.prog 59 #[.agg #[.int .u64 (M f.toNat 4), .int .u64 (M f.toNat 5), .int .u64 (M f.toNat 6), .int .u64 (M f.toNat 7), .int .u64 (M f.toNat 8), .int .u64 (M f.toNat 9), .int .u64 (M f.toNat 10), .int .u64 (M f.toNat 11)]] wc fun e w' => e = .returned (.tuple #[.agg #[.int .i64 (wvX (wdF M f)).th, .int .i64 (wvX (wdF M f)).pa, .int .i64 (wvX (wdF M f)).co, .bool (wvX (wdF M f)).wa, .int .i64 (wvX (wdF M f)).lo], .bool (rvB M f)]) ∧ Below wc.heap.size wc w') := fun wc hT => ro_any (wdF M f) (fun j => (hfit _ _).1) wc hT
    have e1 : vgE N M f = if rvB M f = true then 0 else 12 := by unfold vgE; rw [if_pos hk]
    have e2 : vgX N M f = wvX (wdF M f) := by
      unfold vgX wvX
      rw [e1, show wvB (wdF M f) = rvB M f from rfl]
      cases rvB M f <;> rfl
    rw [e1, e2, show (Phead.isE N M f 6 == 0) = true by simp [hk]] at *
    have e3 : rvB M f = false → wvX (wdF M f) = rv0 := fun h => wvX_no (a := wdF M f) h
    clear hk e1 e2 hfit hf
    generalize wvX (wdF M f) = y at HTo e3 ⊢
    generalize rvB M f = R at HTo e3 ⊢
    generalize M f.toNat 4 = a0 at HRd HTo
    generalize M f.toNat 5 = a1 at HRd HTo
    generalize M f.toNat 6 = a2 at HRd HTo
    generalize M f.toNat 7 = a3 at HRd HTo
    generalize M f.toNat 8 = a4 at HRd HTo
    generalize M f.toNat 9 = a5 at HRd HTo
    generalize M f.toNat 10 = a6 at HRd HTo
    generalize M f.toNat 11 = a7 at HRd HTo
    cases R
    · obtain rfl := e3 rfl
      clear e3
      go_enter Tryz.func16, Tryz.ntmps16
      go_wp2_with (first
        | (go_at_call 57; refine (HIs.out _ H0.out.mx).mono ?_; rintro e1 w1 ⟨rfl, hb⟩; have H1 := rhide (H0.out.on hb); clear hb HIs H0)
        | (go_at_call 58; refine (HRd.out _ H1.out.mx).mono ?_; rintro e2 w2 ⟨rfl, hb⟩; have H2 := rhide ((H1.out.on hb).on (bal (Below.refl _ _) (.cells #[.int .u64 a0, .int .u64 a1, .int .u64 a2, .int .u64 a3, .int .u64 a4, .int .u64 a5, .int .u64 a6, .int .u64 a7] 106))); clear hb HRd H1)
        | (go_at_call 59; refine (HTo.out _ H2.out.mx.vt).mono ?_; rintro e3 w3 ⟨rfl, hb⟩; have H3 := rhide (H2.out.on hb); clear hb HTo H2; have H4 := rhide (H3.out.on (bal (Below.refl _ _) (.cells #[.int .i64 rv0.th, .int .i64 rv0.pa, .int .i64 rv0.co, .bool rv0.wa, .int .i64 rv0.lo] 40))); have x0 := H4.out.res.c0; have x1 := H4.out.res.c1; have x2 := H4.out.res.c2; have x3 := H4.out.res.c3; have x4 := H4.out.res.c4; have z := H4.out.res.fz)
        | fail)
      refine bodyPost_ret (v := .tuple #[.agg #[.int .i64 0, .int .i64 0, .int .i64 0, .bool false, .int .i64 0], .int .i64 12]) (by simp [results, Tryz.results16, go_sem, x0, x1, x2, x3, x4]) rfl ⟨rfl, ?_⟩
      exact bst (bst (bst (bst (bst H4.out.below (Nat.le_refl _) _ _) (Nat.le_refl _) _ _) (Nat.le_refl _) _ _) (Nat.le_refl _) _ _) (Nat.le_refl _) _ _
    · clear e3
      go_enter Tryz.func16, Tryz.ntmps16
      go_wp2_with (first
        | (go_at_call 57; refine (HIs.out _ H0.out.mx).mono ?_; rintro e1 w1 ⟨rfl, hb⟩; have H1 := rhide (H0.out.on hb); clear hb HIs H0)
        | (go_at_call 58; refine (HRd.out _ H1.out.mx).mono ?_; rintro e2 w2 ⟨rfl, hb⟩; have H2 := rhide ((H1.out.on hb).on (bal (Below.refl _ _) (.cells #[.int .u64 a0, .int .u64 a1, .int .u64 a2, .int .u64 a3, .int .u64 a4, .int .u64 a5, .int .u64 a6, .int .u64 a7] 106))); clear hb HRd H1)
        | (go_at_call 59; refine (HTo.out _ H2.out.mx.vt).mono ?_; rintro e3 w3 ⟨rfl, hb⟩; have H3 := rhide (H2.out.on hb); clear hb HTo H2; have H4 := rhide (H3.out.on (bal (Below.refl _ _) (.cells #[.int .i64 y.th, .int .i64 y.pa, .int .i64 y.co, .bool y.wa, .int .i64 y.lo] 40))); have x0 := H4.out.res.c0; have x1 := H4.out.res.c1; have x2 := H4.out.res.c2; have x3 := H4.out.res.c3; have x4 := H4.out.res.c4; have z := H4.out.res.fz)
        | fail)
      refine bodyPost_ret (v := .tuple #[.agg #[.int .i64 y.th, .int .i64 y.pa, .int .i64 y.co, .bool y.wa, .int .i64 y.lo], .int .i64 0]) (by simp [results, Tryz.results16, go_sem, x0, x1, x2, x3, x4]) rfl ⟨rfl, ?_⟩
      exact bst (bst (bst (bst (bst H4.out.below (Nat.le_refl _) _ _) (Nat.le_refl _) _ _) (Nat.le_refl _) _ _) (Nat.le_refl _) _ _) (Nat.le_refl _) _ _
/-! ### Make -/
/-- The endpoint that was handed in, in a block of the call's own, and a memory. -/
structure Bx (w W : World) (p b N : Nat) (M : Nat → Nat → Int) (c : Rv) : Prop where
  mx : Mv W p b N M
  box : RowW W w.heap.size c
  but : But b w W
  lt : b < w.heap.size
theorem bx_new {w : World} {p b N : Nat} {M : Nat → Nat → Int} (h : Mv w p b N M) (c : Rv) : Bx w (w.alloc (.cells #[.int .i64 c.th, .int .i64 c.pa, .int .i64 c.co, .bool c.wa, .int .i64 c.lo] 40)) p b N M c :=
  ⟨h.on (bal (Below.refl _ _) _), rowW_new w c, But.of_below b (bal (Below.refl _ _) _), h.mx.mem.lt.2⟩
theorem Bx.on {w W W' : World} {p b N : Nat} {M : Nat → Nat → Int} {c : Rv} (h : Bx w W p b N M c) (hB : Below W.heap.size W W') : Bx w W' p b N M c :=
  ⟨h.mx.on hB, h.box.on hB, h.but.trans (But.of_below b hB), h.lt⟩
theorem Bx.turn {w W W' : World} {p b N : Nat} {M M' : Nat → Nat → Int} {c : Rv} (h : Bx w W p b N M c) (hM : Mv W' p b N M') (hB : But b W W') : Bx w W' p b N M' c :=
  ⟨hM, h.box.but hB (Nat.ne_of_gt h.lt), h.but.trans hB, h.lt⟩
set_option maxRecDepth 100000 in
set_option maxHeartbeats 1000000 in
theorem make_any (p b N : Nat) (f : Int) (c : Rv) (M : Nat → Nat → Int) (w : World) (hM : Mv w p b N M) (hc : Fv c) :
    Calls Tryz.prog 45 #[.pointer (some ⟨p, 0, none⟩), .int .i64 f, .agg #[.int .i64 c.th, .int .i64 c.pa, .int .i64 c.co, .bool c.wa, .int .i64 c.lo]] w fun e w' => e = .returned (.int .i64 (vmE N f c)) ∧ Mv w' p b N (vmM N M f c) ∧ But b w w' := by
  have HC : Hid (∀ wc, TabV wc → Calls Tryz.prog 112 #[.agg #[.int .i64 c.th, .int .i64 c.pa, .int .i64 c.co, .bool c.wa, .int .i64 c.lo]] wc fun e w' => e = .returned (.int .i64 (vkE c)) ∧ Below wc.heap.size wc w') := fun wc hT => check_any c hc wc hT
  have HH : Hid (∀ wc, Mv wc p b N M → Calls Tryz.prog 90 #[.pointer (some ⟨p, 0, none⟩), .int .i64 f, .agg #[.int .i64 6, .int .i64 0, .bool false, .int .i64 0]] wc fun e w' => e = .returned (.int .i64 (errF N f)) ∧ Mv w' p b N (Phead.mkM N M f 6 0 false 0) ∧ But b wc w') := fun wc h => by
    have := (Phead.hmake_any p b N f 6 0 false 0 M wc h.mx.n1 h.mx.n64 h.mx.mem h.mx.hd)
    rw [made_err (by omega)] at this
    refine this.mono ?_
    rintro e w' ⟨rfl, h1, h2⟩
    exact ⟨rfl, h.but h1 (Phead.fit_mk h.mx.fit N f 6 0 false 0) h2, h2⟩
  have H0 := rhide (bx_new hM c)
  clear hM hc
  by_cases hco : voB c = true
  · have e1 : vkE c = 0 := by unfold vkE; rw [if_pos hco]
    have e2 : vmE N f c = errF N f := by unfold vmE; rw [if_pos hco]
    have e3 : vmM N M f c = layF N (Phead.mkM N M f 6 0 false 0) f c.ws := by unfold vmM; rw [if_pos hco]
    rw [e1] at HC
    rw [e2, e3]
    clear e1 e2 e3
    generalize Phead.mkM N M f 6 0 false 0 = M1 at HH ⊢
    cases hf : okF N f
    · have e4 : errF N f = 1 := by unfold errF; rw [hf]; rfl
      rw [e4] at HH ⊢
      rw [lay_bad hf]
      clear e4 hf hco
      go_enter Tryz.func45, Tryz.ntmps45
      go_wp2_with (first
        | (go_at_call 112; refine (HC.out _ H0.out.mx.vt).mono ?_; rintro e1 w1 ⟨rfl, hb⟩; have H1 := rhide (H0.out.on hb); clear hb HC H0; have x0 := H1.out.box.c0; have x1 := H1.out.box.c1; have x2 := H1.out.box.c2; have x3 := H1.out.box.c3; have x4 := H1.out.box.c4)
        | (go_at_call 90; refine (HH.out _ H1.out.mx).mono ?_; rintro e2 w2 ⟨rfl, hm, hb⟩; have H2 := rhide (H1.out.turn hm hb); clear hm hb HH H1)
        | fail)
      go_ret
      exact ⟨rfl, H2.out.mx, H2.out.but⟩
    · have e4 : errF N f = 0 := by unfold errF; rw [if_pos hf]
      rw [e4] at HH ⊢
      have HW : Hid (∀ wc, Mv wc p b N M1 → Calls Tryz.prog 113 #[.pointer (some ⟨p, 0, none⟩), .int .i64 f, .agg #[.int .i64 c.th, .int .i64 c.pa, .int .i64 c.co, .bool c.wa, .int .i64 c.lo]] wc fun e w' => e = .returned (.int .i64 0) ∧ Mv w' p b N (layF N M1 f c.ws) ∧ But b wc w') := fun wc h => write_any p b N f c M1 wc h ((voB_iff c).1 hco) hf
      clear e4 hf hco
      go_enter Tryz.func45, Tryz.ntmps45
      go_wp2_with (first
        | (go_at_call 112; refine (HC.out _ H0.out.mx.vt).mono ?_; rintro e1 w1 ⟨rfl, hb⟩; have H1 := rhide (H0.out.on hb); clear hb HC H0)
        | (go_at_call 90; refine (HH.out _ H1.out.mx).mono ?_; rintro e2 w2 ⟨rfl, hm, hb⟩; have H2 := rhide (H1.out.turn hm hb); clear hm hb HH H1; have x0 := H2.out.box.c0; have x1 := H2.out.box.c1; have x2 := H2.out.box.c2; have x3 := H2.out.box.c3; have x4 := H2.out.box.c4)
        | (go_at_call 113; refine (HW.out _ H2.out.mx).mono ?_; rintro e3 w3 ⟨rfl, hm, hb⟩; have H3 := rhide (H2.out.turn hm hb); clear hm hb HW H2)
        | fail)
      go_ret
      exact ⟨rfl, H3.out.mx, H3.out.but⟩
  · have e1 : vkE c = 1 := by unfold vkE; rw [if_neg hco]
    have e2 : vmE N f c = 1 := by unfold vmE; rw [if_neg hco]
    have e3 : vmM N M f c = M := by unfold vmM; rw [if_neg hco]
    rw [e1] at HC
    rw [e2, e3]
    clear e1 e2 e3 HH hco
    go_enter Tryz.func45, Tryz.ntmps45
    go_wp2_with (first
      | (go_at_call 112; refine (HC.out _ H0.out.mx.vt).mono ?_; rintro e1 w1 ⟨rfl, hb⟩; have H1 := rhide (H0.out.on hb); clear hb HC H0)
      | fail)
    go_ret
    exact ⟨rfl, H1.out.mx, H1.out.but⟩
/-! ### Put -/
end Go.Proofs.YtcgekcjnaadcmaaGreatDoor.Pqrcv
