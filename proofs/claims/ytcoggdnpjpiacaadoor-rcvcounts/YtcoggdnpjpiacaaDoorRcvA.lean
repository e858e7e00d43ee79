/- The table of package rcv; what wordsOf, rcvOf and Check of it answer (written by mk_prog.py). -/
import Derived.Test.YtcoggdnpjpiacaaDoorRcvF
import Derived.Test.YtcoggdnpjpiacaaDoorBunLay
import Derived.Deep.RegionHeld3
namespace Go.Proofs.YtcoggdnpjpiacaaDoor.Prcv
open Go.Proofs.YtcoggdnpjpiacaaDoor.Pbase Go.Proofs.YtcoggdnpjpiacaaDoor.Pfield Go.Proofs.YtcoggdnpjpiacaaDoor.Play Go.Proofs.YtcoggdnpjpiacaaDoor.Pmem Go.Proofs.YtcoggdnpjpiacaaDoor.Pring
open Go.RowKit M
set_option linter.unusedVariables false

/-! ### the table -/
structure TabV (w : World) : Prop where
  lt : 0 < w.heap.size
  row : ∃ t fr, w.heap[(0 : Nat)]? = some (.cells #[.int .u64 63, .int .u64 64, .int .u64 255, .int .u64 1, .int .u64 255, .int .u64 0, .int .u64 0, .int .u64 0] t fr)
theorem TabV.on {w w' : World} (h : TabV w) (hB : Below w.heap.size w w') : TabV w' :=
  ⟨Nat.lt_of_lt_of_le h.lt hB.size, by obtain ⟨t, fr, hr⟩ := h.row; exact ⟨t, fr, (hB.block 0 h.lt).trans hr⟩⟩
theorem TabV.but {w w' : World} {b : Nat} (h : TabV w) (hB : But b w w') (hn : 0 ≠ b) : TabV w' :=
  ⟨Nat.lt_of_lt_of_le h.lt hB.size, by obtain ⟨t, fr, hr⟩ := h.row; exact ⟨t, fr, (hB.block 0 h.lt hn).trans hr⟩⟩
theorem tabV_ne {w : World} {p b N : Nat} {M : Nat → Nat → Int} (hM : MemIs w p b N M) (hN : 1 ≤ N) (hW : TabV w) : 0 ≠ b := by
  intro e
  obtain ⟨t, fr, hr⟩ := hW.row
  rw [e, hM.row] at hr
  simp only [Option.some.injEq, Obj.cells.injEq] at hr
  have := congrArg Array.size hr.1
  rw [cellsM_size] at this
  simp at this
  omega
theorem TabV.at {w : World} (h : TabV w) (j : Nat) : w.cell? ⟨0, j, none⟩ = (#[.int .u64 63, .int .u64 64, .int .u64 255, .int .u64 1, .int .u64 255, .int .u64 0, .int .u64 0, .int .u64 0] : Array Value)[j]? := by
  obtain ⟨t, fr, hr⟩ := h.row
  exact cell_of_row _ _ j _ _ _ hr
/-! ### an endpoint's words -/
def msK : Nat → Int
  | 0 => 63
  | 1 => 64
  | 2 => 255
  | 3 => 1
  | 4 => 255
  | _ => 0
/-- Are these words an endpoint's? -/
def wvB (a : Nat → Int) : Bool := (decide (a 3 ≤ 1) && decide (a 5 = 0) && decide (a 6 = 0) && decide (a 7 = 0)) && voB ⟨a 0, a 1, a 2, decide (a 3 = 1), a 4⟩
def wvX (a : Nat → Int) : Rv := if wvB a = true then ⟨a 0, a 1, a 2, decide (a 3 = 1), a 4⟩ else rv0
theorem wvX_no {a : Nat → Int} (h : wvB a = false) : wvX a = rv0 := by unfold wvX; rw [h]; rfl
theorem wvX_yes {a : Nat → Int} (h : wvB a = true) : wvX a = ⟨a 0, a 1, a 2, decide (a 3 = 1), a 4⟩ := by unfold wvX; rw [if_pos h]
theorem wvB_iff {a : Nat → Int} (h0 : ∀ j, 0 ≤ a j) : wvB a = true ↔ a 0 ≤ 63 ∧ a 1 ≤ 64 ∧ a 2 ≤ 255 ∧ a 3 ≤ 1 ∧ a 4 ≤ 255 ∧ a 5 ≤ 0 ∧ a 6 ≤ 0 ∧ a 7 ≤ 0 := by
  unfold wvB
  rw [Bool.and_eq_true, voB_iff]
  simp only [Bool.and_eq_true, decide_eq_true_eq]
  unfold Vo
  dsimp only
  have q0 := h0 0
  have q1 := h0 1
  have q2 := h0 2
  have q3 := h0 3
  have q4 := h0 4
  have q5 := h0 5
  have q6 := h0 6
  have q7 := h0 7
  omega
/-- The words of any endpoint. -/
def wsF (c : Rv) : Nat → Int
  | 0 => asW c.th
  | 1 => asW c.pa
  | 2 => asW c.co
  | 3 => vz c.wa
  | 4 => asW c.lo
  | _ => 0
theorem wsF_pos {c : Rv} (h : Fv c) (j : Nat) : 0 ≤ wsF c j := by
  obtain ⟨h1, h2, h3, h4⟩ := h
  match j with
  | 0 => exact (asW_fit h1).1
  | 1 => exact (asW_fit h2).1
  | 2 => exact (asW_fit h3).1
  | 3 => exact (vz_bd c.wa).1
  | 4 => exact (asW_fit h4).1
  | n + 5 => exact Int.le_refl 0
theorem asW_of {x c : Int} (h : In64 x) (hc : c ≤ 1073741824) (h0 : 0 ≤ c) : asW x ≤ c ↔ 0 ≤ x ∧ x ≤ c := by
  constructor
  · intro q
    obtain ⟨e, q0⟩ := asW_low h hc q
    rw [e] at q
    exact ⟨q0, q⟩
  · rintro ⟨q0, q⟩
    unfold asW
    rw [if_pos q0]
    exact q
theorem wvB_w {c : Rv} (h : Fv c) : wvB (wsF c) = voB c := by
  have key : wvB (wsF c) = true ↔ voB c = true := by
    rw [wvB_iff (wsF_pos h), voB_iff]
    obtain ⟨h1, h2, h3, h4⟩ := h
    show asW c.th ≤ 63 ∧ asW c.pa ≤ 64 ∧ asW c.co ≤ 255 ∧ vz c.wa ≤ 1 ∧ asW c.lo ≤ 255 ∧ (0 : Int) ≤ 0 ∧ (0 : Int) ≤ 0 ∧ (0 : Int) ≤ 0 ↔ _
    rw [asW_of h1 (by omega) (by omega), asW_of h2 (by omega) (by omega), asW_of h3 (by omega) (by omega), asW_of h4 (by omega) (by omega)]
    have := vz_bd c.wa
    unfold Vo
    omega
  cases h1 : voB c
  · exact Bool.eq_false_iff.2 fun e => by rw [key.1 e] at h1; cases h1
  · exact key.2 h1
/-- A right endpoint's words are its parts. -/
theorem wsF_vo {c : Rv} (h : Vo c) : wsF c 0 = c.th ∧ wsF c 1 = c.pa ∧ wsF c 2 = c.co ∧ wsF c 4 = c.lo := by
  unfold Vo at h
  refine ⟨?_, ?_, ?_, ?_⟩ <;> show asW _ = _ <;> unfold asW <;> rw [if_pos (by omega)]
theorem Vo.fv {c : Rv} (h : Vo c) : Fv c := by
  unfold Vo at h
  unfold Fv In64
  omega
/-! ### wordsOf -/
set_option maxRecDepth 100000 in
set_option maxHeartbeats 1000000 in
theorem words_in (c : Rv) (w : World) : Calls Tryd.prog 30 #[.agg #[.int .i64 c.th, .int .i64 c.pa, .int .i64 c.co, .bool c.wa, .int .i64 c.lo]] w fun e w' => e = .returned (.agg #[.int .u64 (IntKind.u64.wrap c.th), .int .u64 (IntKind.u64.wrap c.pa), .int .u64 (IntKind.u64.wrap c.co), .int .u64 (vz c.wa), .int .u64 (IntKind.u64.wrap c.lo), .int .u64 0, .int .u64 0, .int .u64 0]) ∧ Below w.heap.size w w' := by
  obtain ⟨t, p, k, i, l⟩ := c
  dsimp only
  cases i
  · go_enter Tryd.func30, Tryd.ntmps30
    go_wp2
    exact bodyPost_ret (v := .agg #[.int .u64 (IntKind.u64.wrap t), .int .u64 (IntKind.u64.wrap p), .int .u64 (IntKind.u64.wrap k), .int .u64 0, .int .u64 (IntKind.u64.wrap l), .int .u64 0, .int .u64 0, .int .u64 0]) (by simp [results, Tryd.results30, go_sem]) rfl ⟨rfl, bal (bal (bal (Below.refl _ _) _) _) _⟩
  · go_enter Tryd.func30, Tryd.ntmps30
    go_wp2
    exact bodyPost_ret (v := .agg #[.int .u64 (IntKind.u64.wrap t), .int .u64 (IntKind.u64.wrap p), .int .u64 (IntKind.u64.wrap k), .int .u64 1, .int .u64 (IntKind.u64.wrap l), .int .u64 0, .int .u64 0, .int .u64 0]) (by simp [results, Tryd.results30, go_sem]) rfl ⟨rfl, bal (bal (bal (Below.refl _ _) _) _) _⟩
theorem words_any (c : Rv) (hc : Fv c) (w : World) : Calls Tryd.prog 30 #[.agg #[.int .i64 c.th, .int .i64 c.pa, .int .i64 c.co, .bool c.wa, .int .i64 c.lo]] w fun e w' => e = .returned (.agg #[.int .u64 (wsF c 0), .int .u64 (wsF c 1), .int .u64 (wsF c 2), .int .u64 (wsF c 3), .int .u64 (wsF c 4), .int .u64 (wsF c 5), .int .u64 (wsF c 6), .int .u64 (wsF c 7)]) ∧ Below w.heap.size w w' := by
  have := words_in c w
  obtain ⟨h1, h2, h3, h4⟩ := hc
  rwa [asW_eq h1, asW_eq h2, asW_eq h3, asW_eq h4] at this
/-! ### rcvOf -/
theorem vix0 (a0 a1 a2 a3 a4 a5 a6 a7 : Int) : ∀ w : World, (Instr.index 64 (.agg #[.int .u64 a0, .int .u64 a1, .int .u64 a2, .int .u64 a3, .int .u64 a4, .int .u64 a5, .int .u64 a6, .int .u64 a7]) (.int .i64 0)).run Tryd.prog w = .ok (.int .u64 a0) w := fun _ => by kernel_rfl
theorem vix1 (a0 a1 a2 a3 a4 a5 a6 a7 : Int) : ∀ w : World, (Instr.index 64 (.agg #[.int .u64 a0, .int .u64 a1, .int .u64 a2, .int .u64 a3, .int .u64 a4, .int .u64 a5, .int .u64 a6, .int .u64 a7]) (.int .i64 1)).run Tryd.prog w = .ok (.int .u64 a1) w := fun _ => by kernel_rfl
theorem vix2 (a0 a1 a2 a3 a4 a5 a6 a7 : Int) : ∀ w : World, (Instr.index 64 (.agg #[.int .u64 a0, .int .u64 a1, .int .u64 a2, .int .u64 a3, .int .u64 a4, .int .u64 a5, .int .u64 a6, .int .u64 a7]) (.int .i64 2)).run Tryd.prog w = .ok (.int .u64 a2) w := fun _ => by kernel_rfl
theorem vix3 (a0 a1 a2 a3 a4 a5 a6 a7 : Int) : ∀ w : World, (Instr.index 64 (.agg #[.int .u64 a0, .int .u64 a1, .int .u64 a2, .int .u64 a3, .int .u64 a4, .int .u64 a5, .int .u64 a6, .int .u64 a7]) (.int .i64 3)).run Tryd.prog w = .ok (.int .u64 a3) w := fun _ => by kernel_rfl
theorem vix4 (a0 a1 a2 a3 a4 a5 a6 a7 : Int) : ∀ w : World, (Instr.index 64 (.agg #[.int .u64 a0, .int .u64 a1, .int .u64 a2, .int .u64 a3, .int .u64 a4, .int .u64 a5, .int .u64 a6, .int .u64 a7]) (.int .i64 4)).run Tryd.prog w = .ok (.int .u64 a4) w := fun _ => by kernel_rfl
theorem vix5 (a0 a1 a2 a3 a4 a5 a6 a7 : Int) : ∀ w : World, (Instr.index 64 (.agg #[.int .u64 a0, .int .u64 a1, .int .u64 a2, .int .u64 a3, .int .u64 a4, .int .u64 a5, .int .u64 a6, .int .u64 a7]) (.int .i64 5)).run Tryd.prog w = .ok (.int .u64 a5) w := fun _ => by kernel_rfl
theorem vix6 (a0 a1 a2 a3 a4 a5 a6 a7 : Int) : ∀ w : World, (Instr.index 64 (.agg #[.int .u64 a0, .int .u64 a1, .int .u64 a2, .int .u64 a3, .int .u64 a4, .int .u64 a5, .int .u64 a6, .int .u64 a7]) (.int .i64 6)).run Tryd.prog w = .ok (.int .u64 a6) w := fun _ => by kernel_rfl
theorem vix7 (a0 a1 a2 a3 a4 a5 a6 a7 : Int) : ∀ w : World, (Instr.index 64 (.agg #[.int .u64 a0, .int .u64 a1, .int .u64 a2, .int .u64 a3, .int .u64 a4, .int .u64 a5, .int .u64 a6, .int .u64 a7]) (.int .i64 7)).run Tryd.prog w = .ok (.int .u64 a7) w := fun _ => by kernel_rfl
structure RoI (w W : World) (a0 a1 a2 a3 a4 a5 a6 a7 : Int) : Prop where
  src : RowV W w.heap.size [.int .u64 a0, .int .u64 a1, .int .u64 a2, .int .u64 a3, .int .u64 a4, .int .u64 a5, .int .u64 a6, .int .u64 a7]
  res : RowW W (w.heap.size + 1) rv0
  tab : TabV W
  below : Below w.heap.size w W
theorem ro_new {w : World} (hT : TabV w) (a0 a1 a2 a3 a4 a5 a6 a7 : Int) : RoI w ((w.alloc (.cells #[.int .u64 a0, .int .u64 a1, .int .u64 a2, .int .u64 a3, .int .u64 a4, .int .u64 a5, .int .u64 a6, .int .u64 a7] 64)).alloc (.cells #[.int .i64 0, .int .i64 0, .int .i64 0, .bool false, .int .i64 0] 31)) a0 a1 a2 a3 a4 a5 a6 a7 := by
  have b0 := rowV_new w [.int .u64 a0, .int .u64 a1, .int .u64 a2, .int .u64 a3, .int .u64 a4, .int .u64 a5, .int .u64 a6, .int .u64 a7] 64
  have b1 := rowW_new (w.alloc (.cells #[.int .u64 a0, .int .u64 a1, .int .u64 a2, .int .u64 a3, .int .u64 a4, .int .u64 a5, .int .u64 a6, .int .u64 a7] 64)) rv0
  simp only [World.size_alloc] at b1
  exact ⟨b0.on (bal (Below.refl _ _) _), b1, hT.on (bal (bal (Below.refl _ _) _) _), bal (bal (Below.refl _ _) _) _⟩
set_option maxRecDepth 100000 in
set_option maxHeartbeats 2000000 in
theorem ro_yes (a0 a1 a2 a3 a4 a5 a6 a7 : Int) (h0 : 0 ≤ a0 ∧ a0 ≤ 63) (h1 : 0 ≤ a1 ∧ a1 ≤ 64) (h2 : 0 ≤ a2 ∧ a2 ≤ 255) (h3 : 0 ≤ a3 ∧ a3 ≤ 1) (h4 : 0 ≤ a4 ∧ a4 ≤ 255) (h5 : 0 ≤ a5 ∧ a5 ≤ 0) (h6 : 0 ≤ a6 ∧ a6 ≤ 0) (h7 : 0 ≤ a7 ∧ a7 ≤ 0) (w : World) (hT : TabV w) : Calls Tryd.prog 27 #[.agg #[.int .u64 a0, .int .u64 a1, .int .u64 a2, .int .u64 a3, .int .u64 a4, .int .u64 a5, .int .u64 a6, .int .u64 a7]] w fun e w' => e = .returned (.tuple #[.agg #[.int .i64 a0, .int .i64 a1, .int .i64 a2, .bool (a3 == 1), .int .i64 a4], .bool true]) ∧ Below w.heap.size w w' := by
  have H0 := rhide (ro_new hT a0 a1 a2 a3 a4 a5 a6 a7)
  have i0 := vix0 a0 a1 a2 a3 a4 a5 a6 a7
  have g0 : ¬ 63 < a0 := by omega
  have i1 := vix1 a0 a1 a2 a3 a4 a5 a6 a7
  have g1 : ¬ 64 < a1 := by omega
  have i2 := vix2 a0 a1 a2 a3 a4 a5 a6 a7
  have g2 : ¬ 255 < a2 := by omega
  have i3 := vix3 a0 a1 a2 a3 a4 a5 a6 a7
  have g3 : ¬ 1 < a3 := by omega
  have i4 := vix4 a0 a1 a2 a3 a4 a5 a6 a7
  have g4 : ¬ 255 < a4 := by omega
  have i5 := vix5 a0 a1 a2 a3 a4 a5 a6 a7
  have g5 : ¬ 0 < a5 := by omega
  have i6 := vix6 a0 a1 a2 a3 a4 a5 a6 a7
  have g6 : ¬ 0 < a6 := by omega
  have i7 := vix7 a0 a1 a2 a3 a4 a5 a6 a7
  have g7 : ¬ 0 < a7 := by omega
  have u0 : IntKind.i64.wrap a0 = a0 := wrapi_small (by omega) (by omega)
  have u1 : IntKind.i64.wrap a1 = a1 := wrapi_small (by omega) (by omega)
  have u2 : IntKind.i64.wrap a2 = a2 := wrapi_small (by omega) (by omega)
  have u4 : IntKind.i64.wrap a4 = a4 := wrapi_small (by omega) (by omega)
  clear hT h0 h1 h2 h3 h4 h5 h6 h7
  go_enter Tryd.func27, Tryd.ntmps27
  go_upto_region 1 with fail
  generalize (w.alloc _).alloc _ = w1 at H0 ⊢
  have x0 : w1.cell? ⟨w.heap.size, 0, none⟩ = some (.int .u64 a0) := H0.out.src.cell 0
  have x1 : w1.cell? ⟨w.heap.size, 1, none⟩ = some (.int .u64 a1) := H0.out.src.cell 1
  have x2 : w1.cell? ⟨w.heap.size, 2, none⟩ = some (.int .u64 a2) := H0.out.src.cell 2
  have x3 : w1.cell? ⟨w.heap.size, 3, none⟩ = some (.int .u64 a3) := H0.out.src.cell 3
  have x4 : w1.cell? ⟨w.heap.size, 4, none⟩ = some (.int .u64 a4) := H0.out.src.cell 4
  have x5 : w1.cell? ⟨w.heap.size, 5, none⟩ = some (.int .u64 a5) := H0.out.src.cell 5
  have x6 : w1.cell? ⟨w.heap.size, 6, none⟩ = some (.int .u64 a6) := H0.out.src.cell 6
  have x7 : w1.cell? ⟨w.heap.size, 7, none⟩ = some (.int .u64 a7) := H0.out.src.cell 7
  go_wp2
  clear x0 x1 x2 x3 x4 x5 x6 x7
  go_loopw [7] (fun i wr => ∃ k : Nat, k ≤ 8 ∧ i = .int .i64 k ∧ RoI w wr a0 a1 a2 a3 a4 a5 a6 a7) (fun i _ => 8 - (intOf i).toNat)
  case atStart => exact ⟨0, by omega, rfl, H0.out⟩
  case round =>
    obtain ⟨k, hk, rfl, hI⟩ := hrel
    have HI := rhide hI
    clear hI H0
    rcases (show k = 0 ∨ k = 1 ∨ k = 2 ∨ k = 3 ∨ k = 4 ∨ k = 5 ∨ k = 6 ∨ k = 7 ∨ k = 8 by omega) with rfl | rfl | rfl | rfl | rfl | rfl | rfl | rfl | rfl
    · have y : wr.cell? ⟨0, 0, none⟩ = some (.int .u64 63) := HI.out.tab.at 0
      go_wp2
      go_roundw
      case rel => exact ⟨0 + 1, by omega, rfl, HI.out⟩
      case measure => simp [intOf]
    · have y : wr.cell? ⟨0, 1, none⟩ = some (.int .u64 64) := HI.out.tab.at 1
      go_wp2
      go_roundw
      case rel => exact ⟨1 + 1, by omega, rfl, HI.out⟩
      case measure => simp [intOf]
    · have y : wr.cell? ⟨0, 2, none⟩ = some (.int .u64 255) := HI.out.tab.at 2
      go_wp2
      go_roundw
      case rel => exact ⟨2 + 1, by omega, rfl, HI.out⟩
      case measure => simp [intOf]
    · have y : wr.cell? ⟨0, 3, none⟩ = some (.int .u64 1) := HI.out.tab.at 3
      go_wp2
      go_roundw
      case rel => exact ⟨3 + 1, by omega, rfl, HI.out⟩
      case measure => simp [intOf]
    · have y : wr.cell? ⟨0, 4, none⟩ = some (.int .u64 255) := HI.out.tab.at 4
      go_wp2
      go_roundw
      case rel => exact ⟨4 + 1, by omega, rfl, HI.out⟩
      case measure => simp [intOf]
    · have y : wr.cell? ⟨0, 5, none⟩ = some (.int .u64 0) := HI.out.tab.at 5
      go_wp2
      go_roundw
      case rel => exact ⟨5 + 1, by omega, rfl, HI.out⟩
      case measure => simp [intOf]
    · have y : wr.cell? ⟨0, 6, none⟩ = some (.int .u64 0) := HI.out.tab.at 6
      go_wp2
      go_roundw
      case rel => exact ⟨6 + 1, by omega, rfl, HI.out⟩
      case measure => simp [intOf]
    · have y : wr.cell? ⟨0, 7, none⟩ = some (.int .u64 0) := HI.out.tab.at 7
      go_wp2
      go_roundw
      case rel => exact ⟨7 + 1, by omega, rfl, HI.out⟩
      case measure => simp [intOf]
    · have x0 : wr.cell? ⟨w.heap.size, 0, none⟩ = some (.int .u64 a0) := HI.out.src.cell 0
      have x1 : wr.cell? ⟨w.heap.size, 1, none⟩ = some (.int .u64 a1) := HI.out.src.cell 1
      have x2 : wr.cell? ⟨w.heap.size, 2, none⟩ = some (.int .u64 a2) := HI.out.src.cell 2
      have x3 : wr.cell? ⟨w.heap.size, 3, none⟩ = some (.int .u64 a3) := HI.out.src.cell 3
      have x4 : wr.cell? ⟨w.heap.size, 4, none⟩ = some (.int .u64 a4) := HI.out.src.cell 4
      have y0 := HI.out.res.c0
      have y1 := HI.out.res.c1
      have y2 := HI.out.res.c2
      have y3 := HI.out.res.c3
      have y4 := HI.out.res.c4
      have z := HI.out.res.fz
      go_wp2
      refine bodyPost_ret (v := .tuple #[.agg #[.int .i64 a0, .int .i64 a1, .int .i64 a2, .bool (a3 == 1), .int .i64 a4], .bool true]) (by simp [results, Tryd.results27, go_sem, y0, y1, y2, y3, y4]) rfl ⟨rfl, ?_⟩
      exact bst (bst (bst (bst (bst HI.out.below (by omega) _ _) (by omega) _ _) (by omega) _ _) (by omega) _ _) (by omega) _ _
set_option maxRecDepth 100000 in
set_option maxHeartbeats 2000000 in
theorem ro_no (a0 a1 a2 a3 a4 a5 a6 a7 : Int) (hn : ¬ (a0 ≤ 63 ∧ a1 ≤ 64 ∧ a2 ≤ 255 ∧ a3 ≤ 1 ∧ a4 ≤ 255 ∧ a5 ≤ 0 ∧ a6 ≤ 0 ∧ a7 ≤ 0)) (w : World) (hT : TabV w) : Calls Tryd.prog 27 #[.agg #[.int .u64 a0, .int .u64 a1, .int .u64 a2, .int .u64 a3, .int .u64 a4, .int .u64 a5, .int .u64 a6, .int .u64 a7]] w fun e w' => e = .returned (.tuple #[.agg #[.int .i64 0, .int .i64 0, .int .i64 0, .bool false, .int .i64 0], .bool false]) ∧ Below w.heap.size w w' := by
  have H0 := rhide (ro_new hT a0 a1 a2 a3 a4 a5 a6 a7)
  have HN := rhide hn
  have i0 := vix0 a0 a1 a2 a3 a4 a5 a6 a7
  have i1 := vix1 a0 a1 a2 a3 a4 a5 a6 a7
  have i2 := vix2 a0 a1 a2 a3 a4 a5 a6 a7
  have i3 := vix3 a0 a1 a2 a3 a4 a5 a6 a7
  have i4 := vix4 a0 a1 a2 a3 a4 a5 a6 a7
  have i5 := vix5 a0 a1 a2 a3 a4 a5 a6 a7
  have i6 := vix6 a0 a1 a2 a3 a4 a5 a6 a7
  have i7 := vix7 a0 a1 a2 a3 a4 a5 a6 a7
  clear hT hn
  go_enter Tryd.func27, Tryd.ntmps27
  go_upto_region 1 with fail
  generalize (w.alloc _).alloc _ = w1 at H0 ⊢
  have x0 : w1.cell? ⟨w.heap.size, 0, none⟩ = some (.int .u64 a0) := H0.out.src.cell 0
  have x1 : w1.cell? ⟨w.heap.size, 1, none⟩ = some (.int .u64 a1) := H0.out.src.cell 1
  have x2 : w1.cell? ⟨w.heap.size, 2, none⟩ = some (.int .u64 a2) := H0.out.src.cell 2
  have x3 : w1.cell? ⟨w.heap.size, 3, none⟩ = some (.int .u64 a3) := H0.out.src.cell 3
  have x4 : w1.cell? ⟨w.heap.size, 4, none⟩ = some (.int .u64 a4) := H0.out.src.cell 4
  have x5 : w1.cell? ⟨w.heap.size, 5, none⟩ = some (.int .u64 a5) := H0.out.src.cell 5
  have x6 : w1.cell? ⟨w.heap.size, 6, none⟩ = some (.int .u64 a6) := H0.out.src.cell 6
  have x7 : w1.cell? ⟨w.heap.size, 7, none⟩ = some (.int .u64 a7) := H0.out.src.cell 7
  go_wp2
  clear x0 x1 x2 x3 x4 x5 x6 x7
  go_loopw [7] (fun i wr => ∃ k : Nat, k ≤ 8 ∧ i = .int .i64 k ∧ RoI w wr a0 a1 a2 a3 a4 a5 a6 a7 ∧ (0 < k → a0 ≤ 63) ∧ (1 < k → a1 ≤ 64) ∧ (2 < k → a2 ≤ 255) ∧ (3 < k → a3 ≤ 1) ∧ (4 < k → a4 ≤ 255) ∧ (5 < k → a5 ≤ 0) ∧ (6 < k → a6 ≤ 0) ∧ (7 < k → a7 ≤ 0)) (fun i _ => 8 - (intOf i).toNat)
  case atStart => exact ⟨0, by omega, rfl, H0.out, fun h => absurd h (by omega), fun h => absurd h (by omega), fun h => absurd h (by omega), fun h => absurd h (by omega), fun h => absurd h (by omega), fun h => absurd h (by omega), fun h => absurd h (by omega), fun h => absurd h (by omega)⟩
  case round =>
    obtain ⟨k, hk, rfl, hI, hJ⟩ := hrel
    have HI := rhide hI
    have HJ := rhide hJ
    clear hI hJ H0
    rcases (show k = 0 ∨ k = 1 ∨ k = 2 ∨ k = 3 ∨ k = 4 ∨ k = 5 ∨ k = 6 ∨ k = 7 ∨ k = 8 by omega) with rfl | rfl | rfl | rfl | rfl | rfl | rfl | rfl | rfl
    · have y : wr.cell? ⟨0, 0, none⟩ = some (.int .u64 63) := HI.out.tab.at 0
      by_cases hg : 63 < a0
      · have z := HI.out.res.fz
        have y0 := HI.out.res.c0
        have y1 := HI.out.res.c1
        have y2 := HI.out.res.c2
        have y3 := HI.out.res.c3
        have y4 := HI.out.res.c4
        go_wp2
        refine bodyPost_ret (v := .tuple #[.agg #[.int .i64 0, .int .i64 0, .int .i64 0, .bool false, .int .i64 0], .bool false]) (by simp [results, Tryd.results27, go_sem, y0, y1, y2, y3, y4]) rfl ⟨rfl, ?_⟩
        exact bst (bst (bst (bst (bst HI.out.below (by omega) _ _) (by omega) _ _) (by omega) _ _) (by omega) _ _) (by omega) _ _
      · have HG : Hid (a0 ≤ 63) := (show a0 ≤ 63 by omega)
        go_wp2
        go_roundw
        case rel => exact ⟨0 + 1, by omega, rfl, HI.out, fun _ => HG.out, fun h => absurd h (by omega), fun h => absurd h (by omega), fun h => absurd h (by omega), fun h => absurd h (by omega), fun h => absurd h (by omega), fun h => absurd h (by omega), fun h => absurd h (by omega)⟩
        case measure => simp [intOf]
    · have y : wr.cell? ⟨0, 1, none⟩ = some (.int .u64 64) := HI.out.tab.at 1
      by_cases hg : 64 < a1
      · have z := HI.out.res.fz
        have y0 := HI.out.res.c0
        have y1 := HI.out.res.c1
        have y2 := HI.out.res.c2
        have y3 := HI.out.res.c3
        have y4 := HI.out.res.c4
        go_wp2
        refine bodyPost_ret (v := .tuple #[.agg #[.int .i64 0, .int .i64 0, .int .i64 0, .bool false, .int .i64 0], .bool false]) (by simp [results, Tryd.results27, go_sem, y0, y1, y2, y3, y4]) rfl ⟨rfl, ?_⟩
        exact bst (bst (bst (bst (bst HI.out.below (by omega) _ _) (by omega) _ _) (by omega) _ _) (by omega) _ _) (by omega) _ _
      · have HG : Hid (a1 ≤ 64) := (show a1 ≤ 64 by omega)
        go_wp2
        go_roundw
        case rel => exact ⟨1 + 1, by omega, rfl, HI.out, fun _ => HJ.out.1 (by omega), fun _ => HG.out, fun h => absurd h (by omega), fun h => absurd h (by omega), fun h => absurd h (by omega), fun h => absurd h (by omega), fun h => absurd h (by omega), fun h => absurd h (by omega)⟩
        case measure => simp [intOf]
    · have y : wr.cell? ⟨0, 2, none⟩ = some (.int .u64 255) := HI.out.tab.at 2
      by_cases hg : 255 < a2
      · have z := HI.out.res.fz
        have y0 := HI.out.res.c0
        have y1 := HI.out.res.c1
        have y2 := HI.out.res.c2
        have y3 := HI.out.res.c3
        have y4 := HI.out.res.c4
        go_wp2
        refine bodyPost_ret (v := .tuple #[.agg #[.int .i64 0, .int .i64 0, .int .i64 0, .bool false, .int .i64 0], .bool false]) (by simp [results, Tryd.results27, go_sem, y0, y1, y2, y3, y4]) rfl ⟨rfl, ?_⟩
        exact bst (bst (bst (bst (bst HI.out.below (by omega) _ _) (by omega) _ _) (by omega) _ _) (by omega) _ _) (by omega) _ _
      · have HG : Hid (a2 ≤ 255) := (show a2 ≤ 255 by omega)
        go_wp2
        go_roundw
        case rel => exact ⟨2 + 1, by omega, rfl, HI.out, fun _ => HJ.out.1 (by omega), fun _ => HJ.out.2.1 (by omega), fun _ => HG.out, fun h => absurd h (by omega), fun h => absurd h (by omega), fun h => absurd h (by omega), fun h => absurd h (by omega), fun h => absurd h (by omega)⟩
        case measure => simp [intOf]
    · have y : wr.cell? ⟨0, 3, none⟩ = some (.int .u64 1) := HI.out.tab.at 3
      by_cases hg : 1 < a3
      · have z := HI.out.res.fz
        have y0 := HI.out.res.c0
        have y1 := HI.out.res.c1
        have y2 := HI.out.res.c2
        have y3 := HI.out.res.c3
        have y4 := HI.out.res.c4
        go_wp2
        refine bodyPost_ret (v := .tuple #[.agg #[.int .i64 0, .int .i64 0, .int .i64 0, .bool false, .int .i64 0], .bool false]) (by simp [results, Tryd.results27, go_sem, y0, y1, y2, y3, y4]) rfl ⟨rfl, ?_⟩
        exact bst (bst (bst (bst (bst HI.out.below (by omega) _ _) (by omega) _ _) (by omega) _ _) (by omega) _ _) (by omega) _ _
      · have HG : Hid (a3 ≤ 1) := (show a3 ≤ 1 by omega)
        go_wp2
        go_roundw
        case rel => exact ⟨3 + 1, by omega, rfl, HI.out, fun _ => HJ.out.1 (by omega), fun _ => HJ.out.2.1 (by omega), fun _ => HJ.out.2.2.1 (by omega), fun _ => HG.out, fun h => absurd h (by omega), fun h => absurd h (by omega), fun h => absurd h (by omega), fun h => absurd h (by omega)⟩
        case measure => simp [intOf]
    · have y : wr.cell? ⟨0, 4, none⟩ = some (.int .u64 255) := HI.out.tab.at 4
      by_cases hg : 255 < a4
      · have z := HI.out.res.fz
        have y0 := HI.out.res.c0
        have y1 := HI.out.res.c1
        have y2 := HI.out.res.c2
        have y3 := HI.out.res.c3
        have y4 := HI.out.res.c4
        go_wp2
        refine bodyPost_ret (v := .tuple #[.agg #[.int .i64 0, .int .i64 0, .int .i64 0, .bool false, .int .i64 0], .bool false]) (by simp [results, Tryd.results27, go_sem, y0, y1, y2, y3, y4]) rfl ⟨rfl, ?_⟩
        exact bst (bst (bst (bst (bst HI.out.below (by omega) _ _) (by omega) _ _) (by omega) _ _) (by omega) _ _) (by omega) _ _
      · have HG : Hid (a4 ≤ 255) := (show a4 ≤ 255 by omega)
        go_wp2
        go_roundw
        case rel => exact ⟨4 + 1, by omega, rfl, HI.out, fun _ => HJ.out.1 (by omega), fun _ => HJ.out.2.1 (by omega), fun _ => HJ.out.2.2.1 (by omega), fun _ => HJ.out.2.2.2.1 (by omega), fun _ => HG.out, fun h => absurd h (by omega), fun h => absurd h (by omega), fun h => absurd h (by omega)⟩
        case measure => simp [intOf]
    · have y : wr.cell? ⟨0, 5, none⟩ = some (.int .u64 0) := HI.out.tab.at 5
      by_cases hg : 0 < a5
      · have z := HI.out.res.fz
        have y0 := HI.out.res.c0
        have y1 := HI.out.res.c1
        have y2 := HI.out.res.c2
        have y3 := HI.out.res.c3
        have y4 := HI.out.res.c4
        go_wp2
        refine bodyPost_ret (v := .tuple #[.agg #[.int .i64 0, .int .i64 0, .int .i64 0, .bool false, .int .i64 0], .bool false]) (by simp [results, Tryd.results27, go_sem, y0, y1, y2, y3, y4]) rfl ⟨rfl, ?_⟩
        exact bst (bst (bst (bst (bst HI.out.below (by omega) _ _) (by omega) _ _) (by omega) _ _) (by omega) _ _) (by omega) _ _
      · have HG : Hid (a5 ≤ 0) := (show a5 ≤ 0 by omega)
        go_wp2
        go_roundw
        case rel => exact ⟨5 + 1, by omega, rfl, HI.out, fun _ => HJ.out.1 (by omega), fun _ => HJ.out.2.1 (by omega), fun _ => HJ.out.2.2.1 (by omega), fun _ => HJ.out.2.2.2.1 (by omega), fun _ => HJ.out.2.2.2.2.1 (by omega), fun _ => HG.out, fun h => absurd h (by omega), fun h => absurd h (by omega)⟩
        case measure => simp [intOf]
    · have y : wr.cell? ⟨0, 6, none⟩ = some (.int .u64 0) := HI.out.tab.at 6
      by_cases hg : 0 < a6
      · have z := HI.out.res.fz
        have y0 := HI.out.res.c0
        have y1 := HI.out.res.c1
        have y2 := HI.out.res.c2
        have y3 := HI.out.res.c3
        have y4 := HI.out.res.c4
        go_wp2
        refine bodyPost_ret (v := .tuple #[.agg #[.int .i64 0, .int .i64 0, .int .i64 0, .bool false, .int .i64 0], .bool false]) (by simp [results, Tryd.results27, go_sem, y0, y1, y2, y3, y4]) rfl ⟨rfl, ?_⟩
        exact bst (bst (bst (bst (bst HI.out.below (by omega) _ _) (by omega) _ _) (by omega) _ _) (by omega) _ _) (by omega) _ _
      · have HG : Hid (a6 ≤ 0) := (show a6 ≤ 0 by omega)
        go_wp2
        go_roundw
        case rel => exact ⟨6 + 1, by omega, rfl, HI.out, fun _ => HJ.out.1 (by omega), fun _ => HJ.out.2.1 (by omega), fun _ => HJ.out.2.2.1 (by omega), fun _ => HJ.out.2.2.2.1 (by omega), fun _ => HJ.out.2.2.2.2.1 (by omega), fun _ => HJ.out.2.2.2.2.2.1 (by omega), fun _ => HG.out, fun h => absurd h (by omega)⟩
        case measure => simp [intOf]
    · have y : wr.cell? ⟨0, 7, none⟩ = some (.int .u64 0) := HI.out.tab.at 7
      by_cases hg : 0 < a7
      · have z := HI.out.res.fz
        have y0 := HI.out.res.c0
        have y1 := HI.out.res.c1
        have y2 := HI.out.res.c2
        have y3 := HI.out.res.c3
        have y4 := HI.out.res.c4
        go_wp2
        refine bodyPost_ret (v := .tuple #[.agg #[.int .i64 0, .int .i64 0, .int .i64 0, .bool false, .int .i64 0], .bool false]) (by simp [results, Tryd.results27, go_sem, y0, y1, y2, y3, y4]) rfl ⟨rfl, ?_⟩
        exact bst (bst (bst (bst (bst HI.out.below (by omega) _ _) (by omega) _ _) (by omega) _ _) (by omega) _ _) (by omega) _ _
      · have HG : Hid (a7 ≤ 0) := (show a7 ≤ 0 by omega)
        go_wp2
        go_roundw
        case rel => exact ⟨7 + 1, by omega, rfl, HI.out, fun _ => HJ.out.1 (by omega), fun _ => HJ.out.2.1 (by omega), fun _ => HJ.out.2.2.1 (by omega), fun _ => HJ.out.2.2.2.1 (by omega), fun _ => HJ.out.2.2.2.2.1 (by omega), fun _ => HJ.out.2.2.2.2.2.1 (by omega), fun _ => HJ.out.2.2.2.2.2.2.1 (by omega), fun _ => HG.out⟩
        case measure => simp [intOf]
    · exact absurd ⟨HJ.out.1 (by omega), HJ.out.2.1 (by omega), HJ.out.2.2.1 (by omega), HJ.out.2.2.2.1 (by omega), HJ.out.2.2.2.2.1 (by omega), HJ.out.2.2.2.2.2.1 (by omega), HJ.out.2.2.2.2.2.2.1 (by omega), HJ.out.2.2.2.2.2.2.2 (by omega)⟩ HN.out
theorem ro_any (a : Nat → Int) (h0 : ∀ j, 0 ≤ a j) (w : World) (hT : TabV w) : Calls Tryd.prog 27 #[.agg #[.int .u64 (a 0), .int .u64 (a 1), .int .u64 (a 2), .int .u64 (a 3), .int .u64 (a 4), .int .u64 (a 5), .int .u64 (a 6), .int .u64 (a 7)]] w fun e w' => e = .returned (.tuple #[.agg #[.int .i64 (wvX a).th, .int .i64 (wvX a).pa, .int .i64 (wvX a).co, .bool (wvX a).wa, .int .i64 (wvX a).lo], .bool (wvB a)]) ∧ Below w.heap.size w w' := by
  by_cases h : wvB a = true
  · rw [wvX_yes h, h]
    obtain ⟨q0, q1, q2, q3, q4, q5, q6, q7⟩ := (wvB_iff h0).1 h
    have := ro_yes (a 0) (a 1) (a 2) (a 3) (a 4) (a 5) (a 6) (a 7) ⟨h0 0, q0⟩ ⟨h0 1, q1⟩ ⟨h0 2, q2⟩ ⟨h0 3, q3⟩ ⟨h0 4, q4⟩ ⟨h0 5, q5⟩ ⟨h0 6, q6⟩ ⟨h0 7, q7⟩ w hT
    rwa [show (a 3 == 1) = decide (a 3 = 1) by cases hx : decide (a 3 = 1) <;> simp at hx <;> simp [hx]] at this
  · have h' := Bool.eq_false_iff.2 h
    rw [wvX_no h', h']
    exact ro_no (a 0) (a 1) (a 2) (a 3) (a 4) (a 5) (a 6) (a 7) (fun q => h ((wvB_iff h0).2 q)) w hT
/-! ### Check -/
set_option maxRecDepth 100000 in
set_option maxHeartbeats 1000000 in
theorem check_any (c : Rv) (hc : Fv c) (w : World) (hT : TabV w) : Calls Tryd.prog 14 #[.agg #[.int .i64 c.th, .int .i64 c.pa, .int .i64 c.co, .bool c.wa, .int .i64 c.lo]] w fun e w' => e = .returned (.int .i64 (vkE c)) ∧ Below w.heap.size w w' := by
  have HO : Hid (∀ wc, Calls Tryd.prog 30 #[.agg #[.int .i64 c.th, .int .i64 c.pa, .int .i64 c.co, .bool c.wa, .int .i64 c.lo]] wc fun e w' => e = .returned (.agg #[.int .u64 (wsF c 0), .int .u64 (wsF c 1), .int .u64 (wsF c 2), .int .u64 (wsF c 3), .int .u64 (wsF c 4), .int .u64 (wsF c 5), .int .u64 (wsF c 6), .int .u64 (wsF c 7)]) ∧ Below wc.heap.size wc w') := fun wc => words_any c hc wc
  have HR : Hid (∀ wc, TabV wc → Calls Tryd.prog 27 #[.agg #[.int .u64 (wsF c 0), .int .u64 (wsF c 1), .int .u64 (wsF c 2), .int .u64 (wsF c 3), .int .u64 (wsF c 4), .int .u64 (wsF c 5), .int .u64 (wsF c 6), .int .u64 (wsF c 7)]] wc fun e w' => e = .returned (.tuple #[.agg #[.int .i64 (wvX (wsF c)).th, .int .i64 (wvX (wsF c)).pa, .int .i64 (wvX (wsF c)).co, .bool (wvX (wsF c)).wa, .int .i64 (wvX (wsF c)).lo], .bool (voB c)]) ∧ Below wc.heap.size wc w') := fun wc h => by
    have := ro_any (wsF c) (wsF_pos hc) wc h
    rwa [wvB_w hc] at this
  have Hw : Hid (TabV (w.alloc (.cells #[.int .i64 c.th, .int .i64 c.pa, .int .i64 c.co, .bool c.wa, .int .i64 c.lo] 31)) ∧ Below w.heap.size w (w.alloc (.cells #[.int .i64 c.th, .int .i64 c.pa, .int .i64 c.co, .bool c.wa, .int .i64 c.lo] 31))) := ⟨hT.on (bal (Below.refl _ _) _), bal (Below.refl _ _) _⟩
  clear hc hT
  generalize wvX (wsF c) = y at HR
  generalize wsF c 0 = a0 at HO HR
  generalize wsF c 1 = a1 at HO HR
  generalize wsF c 2 = a2 at HO HR
  generalize wsF c 3 = a3 at HO HR
  generalize wsF c 4 = a4 at HO HR
  generalize wsF c 5 = a5 at HO HR
  generalize wsF c 6 = a6 at HO HR
  generalize wsF c 7 = a7 at HO HR
  have e : vkE c = if voB c = true then 0 else 1 := rfl
  rw [e]
  generalize voB c = R at HR
  cases R
  all_goals
    go_enter Tryd.func14, Tryd.ntmps14
    go_wp2_with (first
      | (go_at_call 30; refine (HO.out _).mono ?_; rintro e1 w1 ⟨rfl, hb⟩; have H1 : Hid (TabV w1 ∧ Below w.heap.size w w1) := ⟨Hw.out.1.on hb, Hw.out.2.trans (hb.mono Hw.out.2.size)⟩; clear hb HO Hw)
      | (go_at_call 27; refine (HR.out _ H1.out.1).mono ?_; rintro e2 w2 ⟨rfl, hb⟩; have H2 : Hid (Below w.heap.size w w2) := H1.out.2.trans (hb.mono H1.out.2.size); clear hb HR H1)
      | fail)
    go_ret
    exact ⟨rfl, bal H2.out _⟩
end Go.Proofs.YtcoggdnpjpiacaaDoor.Prcv
