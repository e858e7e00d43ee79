/- The parts of a thread in package thd: the five methods, allParts, wordsOf, threadOf (written by mk_parts.py). -/
import Derived.Test.YtaajacmbnigadaaDoorThdS
import Derived.Laws.EntriesVeiled
import Derived.Deep.RegionHeld3
import Derived.Deep.QuietTactic
import Derived.BigQuiet
namespace Go.Proofs.YtaajacmbnigadaaDoor.Pthd
open Go.Proofs.YtaajacmbnigadaaDoor.Pbase Go.Proofs.YtaajacmbnigadaaDoor.Pfield Go.Proofs.YtaajacmbnigadaaDoor.Play Go.Proofs.YtaajacmbnigadaaDoor.Pmem
open Go.RowKit
set_option linter.unusedVariables false

/-! ### a block of values -/
structure RowV (w : World) (B : Nat) (vs : List Value) : Prop where
  row : ∃ t, w.heap[B]? = some (.cells vs.toArray t (0, 0))
section
variable {w w' : World} {B : Nat} {vs : List Value}
theorem RowV.lt (h : RowV w B vs) : B < w.heap.size := by
  obtain ⟨t, h⟩ := h.row
  exact (Array.getElem?_eq_some_iff.1 h).1
theorem RowV.cell (h : RowV w B vs) (j : Nat) : w.cell? ⟨B, j, none⟩ = vs[j]? := by
  obtain ⟨t, h⟩ := h.row
  rw [cell_of_row _ _ _ _ _ _ h]
  simp
theorem RowV.fz (h : RowV w B vs) (j : Nat) : w.frozen? ⟨B, j, none⟩ = false := by
  obtain ⟨t, h⟩ := h.row
  exact frozen_of_row _ _ _ _ _ h
theorem RowV.on (h : RowV w B vs) (hB : Below w.heap.size w w') : RowV w' B vs := by
  have hl := h.lt
  obtain ⟨t, h⟩ := h.row
  exact ⟨t, (hB.block B hl).trans h⟩
theorem RowV.set (h : RowV w B vs) (j : Nat) (v : Value) : RowV (w.setCell ⟨B, j, none⟩ v) B (vs.set j v) := by
  obtain ⟨t, h⟩ := h.row
  refine ⟨t, ?_⟩
  rw [heap_setCell_same _ _ _ _ _ _ h]
  simp
theorem RowV.other (h : RowV w B vs) {q : Nat} (hq : B ≠ q) (j : Nat) (v : Value) : RowV (w.setCell ⟨q, j, none⟩ v) B vs := by
  obtain ⟨t, h⟩ := h.row
  exact ⟨t, (heap_setCell_other _ _ _ _ hq).trans h⟩
theorem keep2 {v : World} {D B q k : Nat} {f y u : Value} (h1 : D ≠ q) (h2 : B ≠ q) (a : v.cell? ⟨D, 0, none⟩ = some f) (b : v.cell? ⟨B, k, none⟩ = some y) : (v.setCell ⟨q, k, none⟩ u).drew.cell? ⟨D, 0, none⟩ = some f ∧ (v.setCell ⟨q, k, none⟩ u).drew.cell? ⟨B, k, none⟩ = some y :=
  ⟨(World.cell?_of_block (heap_setCell_other v ⟨q, k, none⟩ D u h1)).trans a, (World.cell?_of_block (heap_setCell_other v ⟨q, k, none⟩ B u h2)).trans b⟩
theorem keep2d {v : World} {D B q k : Nat} {f y u : Value} (h1 : D ≠ q) (h2 : B ≠ q) (a : v.cell? ⟨D, 0, none⟩ = some f) (b : v.cell? ⟨B, k, none⟩ = some y) : (v.setCell ⟨q, k, none⟩ u).cell? ⟨D, 0, none⟩ = some f ∧ (v.setCell ⟨q, k, none⟩ u).cell? ⟨B, k, none⟩ = some y := keep2 h1 h2 a b
theorem rowV_new (w : World) (vs : List Value) (t : TypeId) : RowV (w.alloc (.cells vs.toArray t)) w.heap.size vs := ⟨t, heap_alloc_new w _⟩
end
/-! ### the parts -/
theorem p0_any (B : Nat) (w : World) : Calls Tryd.prog 45 #[.pointer (some ⟨B, 0, none⟩)] w fun e w' => e = .returned (.pointer (some ⟨B, 0, none⟩)) ∧ w' = w := by
  go_enter Tryd.func45, Tryd.ntmps45
  go_wp2
  go_ret
  exact ⟨rfl, rfl⟩
theorem p1_any (B : Nat) (w : World) : Calls Tryd.prog 46 #[.pointer (some ⟨B, 0, none⟩)] w fun e w' => e = .returned (.pointer (some ⟨B, 1, none⟩)) ∧ w' = w := by
  go_enter Tryd.func46, Tryd.ntmps46
  go_wp2
  go_ret
  exact ⟨rfl, rfl⟩
theorem p2_any (B : Nat) (w : World) : Calls Tryd.prog 47 #[.pointer (some ⟨B, 0, none⟩)] w fun e w' => e = .returned (.pointer (some ⟨B, 2, none⟩)) ∧ w' = w := by
  go_enter Tryd.func47, Tryd.ntmps47
  go_wp2
  go_ret
  exact ⟨rfl, rfl⟩
theorem p3_any (B : Nat) (w : World) : Calls Tryd.prog 48 #[.pointer (some ⟨B, 0, none⟩)] w fun e w' => e = .returned (.pointer (some ⟨B, 3, none⟩)) ∧ w' = w := by
  go_enter Tryd.func48, Tryd.ntmps48
  go_wp2
  go_ret
  exact ⟨rfl, rfl⟩
theorem p4_any (B : Nat) (w : World) : Calls Tryd.prog 49 #[.pointer (some ⟨B, 0, none⟩)] w fun e w' => e = .returned (.pointer (some ⟨B, 4, none⟩)) ∧ w' = w := by
  go_enter Tryd.func49, Tryd.ntmps49
  go_wp2
  go_ret
  exact ⟨rfl, rfl⟩
set_option maxRecDepth 100000 in
theorem parts_any (w : World) : Calls Tryd.prog 35 #[] w fun e w' => e = .returned (.agg #[.func (.func 45) #[] #[], .int .i64 3, .func (.func 46) #[] #[], .int .i64 3, .func (.func 47) #[] #[], .int .i64 63, .func (.func 48) #[] #[], .int .i64 64, .func (.func 49) #[] #[], .int .i64 6]) ∧ Below w.heap.size w w' := by
  go_enter Tryd.func35, Tryd.ntmps35
  go_wp2
  exact bodyPost_ret (v := .agg #[.func (.func 45) #[] #[], .int .i64 3, .func (.func 46) #[] #[], .int .i64 3, .func (.func 47) #[] #[], .int .i64 63, .func (.func 48) #[] #[], .int .i64 64, .func (.func 49) #[] #[], .int .i64 6]) (by simp [results, Tryd.results35, go_sem]) rfl ⟨rfl, bal (Below.refl _ _) _⟩
theorem idx0 : ∀ w : World, (Instr.index 74 (.agg #[.func (.func 45) #[] #[], .int .i64 3, .func (.func 46) #[] #[], .int .i64 3, .func (.func 47) #[] #[], .int .i64 63, .func (.func 48) #[] #[], .int .i64 64, .func (.func 49) #[] #[], .int .i64 6]) (.int .i64 0)).run Tryd.prog w = .ok (.agg #[.func (.func 45) #[] #[], .int .i64 3]) w := fun _ => by kernel_rfl
theorem idx1 : ∀ w : World, (Instr.index 74 (.agg #[.func (.func 45) #[] #[], .int .i64 3, .func (.func 46) #[] #[], .int .i64 3, .func (.func 47) #[] #[], .int .i64 63, .func (.func 48) #[] #[], .int .i64 64, .func (.func 49) #[] #[], .int .i64 6]) (.int .i64 1)).run Tryd.prog w = .ok (.agg #[.func (.func 46) #[] #[], .int .i64 3]) w := fun _ => by kernel_rfl
theorem idx2 : ∀ w : World, (Instr.index 74 (.agg #[.func (.func 45) #[] #[], .int .i64 3, .func (.func 46) #[] #[], .int .i64 3, .func (.func 47) #[] #[], .int .i64 63, .func (.func 48) #[] #[], .int .i64 64, .func (.func 49) #[] #[], .int .i64 6]) (.int .i64 2)).run Tryd.prog w = .ok (.agg #[.func (.func 47) #[] #[], .int .i64 63]) w := fun _ => by kernel_rfl
theorem idx3 : ∀ w : World, (Instr.index 74 (.agg #[.func (.func 45) #[] #[], .int .i64 3, .func (.func 46) #[] #[], .int .i64 3, .func (.func 47) #[] #[], .int .i64 63, .func (.func 48) #[] #[], .int .i64 64, .func (.func 49) #[] #[], .int .i64 6]) (.int .i64 3)).run Tryd.prog w = .ok (.agg #[.func (.func 48) #[] #[], .int .i64 64]) w := fun _ => by kernel_rfl
theorem idx4 : ∀ w : World, (Instr.index 74 (.agg #[.func (.func 45) #[] #[], .int .i64 3, .func (.func 46) #[] #[], .int .i64 3, .func (.func 47) #[] #[], .int .i64 63, .func (.func 48) #[] #[], .int .i64 64, .func (.func 49) #[] #[], .int .i64 6]) (.int .i64 4)).run Tryd.prog w = .ok (.agg #[.func (.func 49) #[] #[], .int .i64 6]) w := fun _ => by kernel_rfl
/-! ### wordsOf -/
/-- The words, k of them. -/
def woL (c : Th) : Nat → List Value
  | 0 => [.int .u64 0, .int .u64 0, .int .u64 0, .int .u64 0, .int .u64 0]
  | 1 => [.int .u64 (IntKind.u64.wrap c.st), .int .u64 0, .int .u64 0, .int .u64 0, .int .u64 0]
  | 2 => [.int .u64 (IntKind.u64.wrap c.st), .int .u64 (IntKind.u64.wrap c.co), .int .u64 0, .int .u64 0, .int .u64 0]
  | 3 => [.int .u64 (IntKind.u64.wrap c.st), .int .u64 (IntKind.u64.wrap c.co), .int .u64 (IntKind.u64.wrap c.tc), .int .u64 0, .int .u64 0]
  | 4 => [.int .u64 (IntKind.u64.wrap c.st), .int .u64 (IntKind.u64.wrap c.co), .int .u64 (IntKind.u64.wrap c.tc), .int .u64 (IntKind.u64.wrap c.rc), .int .u64 0]
  | _ => [.int .u64 (IntKind.u64.wrap c.st), .int .u64 (IntKind.u64.wrap c.co), .int .u64 (IntKind.u64.wrap c.tc), .int .u64 (IntKind.u64.wrap c.rc), .int .u64 (IntKind.u64.wrap c.de)]
def thL (c : Th) : List Value := [.int .i64 c.st, .int .i64 c.co, .int .i64 c.tc, .int .i64 c.rc, .int .i64 c.de]
structure WoI (w W : World) (c : Th) (k : Nat) : Prop where
  res : RowV W (w.heap.size + 1) (woL c 0)
  all : RowV W (w.heap.size + 1 + 1) (woL c k)
  src : RowV W (w.heap.size + 1 + 1 + 1) (thL c)
  below : Below w.heap.size w W
theorem WoI.on {w W W' : World} {c : Th} {k : Nat} (h : WoI w W c k) (hB : Below W.heap.size W W') : WoI w W' c k := ⟨h.res.on hB, h.all.on hB, h.src.on hB, h.below.trans (hB.mono h.below.size)⟩
theorem WoI.step {w W : World} {c : Th} {k j : Nat} (h : WoI w W c k) (i : Nat) (v : Value) (hv : (woL c k).set i v = woL c j) : WoI w (W.setCell ⟨w.heap.size + 1 + 1, i, none⟩ v) c j :=
  ⟨h.res.other (by omega) _ _, by rw [← hv]; exact h.all.set i v, h.src.other (by omega) _ _, bst h.below (by omega) _ _⟩
theorem wo_new (w : World) (c : Th) : WoI w ((((w.alloc (.cells #[.int .i64 c.st, .int .i64 c.co, .int .i64 c.tc, .int .i64 c.rc, .int .i64 c.de] 23)).alloc (.cells #[.int .u64 0, .int .u64 0, .int .u64 0, .int .u64 0, .int .u64 0] 56)).alloc (.cells #[.int .u64 0, .int .u64 0, .int .u64 0, .int .u64 0, .int .u64 0] 56)).alloc (.cells #[.int .i64 c.st, .int .i64 c.co, .int .i64 c.tc, .int .i64 c.rc, .int .i64 c.de] 70)) c 0 := by
  have b1 := rowV_new (w.alloc (.cells #[.int .i64 c.st, .int .i64 c.co, .int .i64 c.tc, .int .i64 c.rc, .int .i64 c.de] 23)) (woL c 0) 56
  have b2 := rowV_new ((w.alloc (.cells #[.int .i64 c.st, .int .i64 c.co, .int .i64 c.tc, .int .i64 c.rc, .int .i64 c.de] 23)).alloc (.cells #[.int .u64 0, .int .u64 0, .int .u64 0, .int .u64 0, .int .u64 0] 56)) (woL c 0) 56
  have b3 := rowV_new (((w.alloc (.cells #[.int .i64 c.st, .int .i64 c.co, .int .i64 c.tc, .int .i64 c.rc, .int .i64 c.de] 23)).alloc (.cells #[.int .u64 0, .int .u64 0, .int .u64 0, .int .u64 0, .int .u64 0] 56)).alloc (.cells #[.int .u64 0, .int .u64 0, .int .u64 0, .int .u64 0, .int .u64 0] 56)) (thL c) 70
  simp only [World.size_alloc] at b1 b2 b3
  exact ⟨(b1.on (bal (Below.refl _ _) _)).on (bal (Below.refl _ _) _), b2.on (bal (Below.refl _ _) _), b3, bal (bal (bal (bal (Below.refl _ _) _) _) _) _⟩
set_option maxRecDepth 100000 in
set_option maxHeartbeats 2000000 in
theorem words_any (c : Th) (w : World) : Calls Tryd.prog 20 #[.agg #[.int .i64 c.st, .int .i64 c.co, .int .i64 c.tc, .int .i64 c.rc, .int .i64 c.de]] w fun e w' => e = .returned (.agg #[.int .u64 (IntKind.u64.wrap c.st), .int .u64 (IntKind.u64.wrap c.co), .int .u64 (IntKind.u64.wrap c.tc), .int .u64 (IntKind.u64.wrap c.rc), .int .u64 (IntKind.u64.wrap c.de)]) ∧ Below w.heap.size w w' := by
  have H0 : Hid (WoI w _ c 0) := wo_new w c
  have i0 := idx0
  have i1 := idx1
  have i2 := idx2
  have i3 := idx3
  have i4 := idx4
  go_enter Tryd.func20, Tryd.ntmps20
  go_wp2_with (first
    | (go_at_call 35; refine (parts_any _).mono ?_; rintro e1 w1 ⟨rfl, hb⟩; have H1 : Hid (WoI w w1 c 0) := H0.out.on hb; clear hb H0)
    | fail)
  go_loopw [9] (fun i wr => ∃ k : Nat, k ≤ 5 ∧ i = .int .i64 k ∧ WoI w wr c k) (fun i _ => 5 - (intOf i).toNat)
  case atStart => exact ⟨0, by omega, rfl, H1.out⟩
  case round =>
    obtain ⟨k, hk, rfl, hI⟩ := hrel
    have HI := rhide hI
    clear hI H1
    rcases (show k = 0 ∨ k = 1 ∨ k = 2 ∨ k = 3 ∨ k = 4 ∨ k = 5 by omega) with rfl | rfl | rfl | rfl | rfl | rfl
    · go_upto_region 6 with fail
      have H2 := rhide (HI.out.on (bal (Below.refl _ _) (.cells #[.func (.func 45) #[] #[], .int .i64 3] 73)))
      have HD := rhide (rowV_new wr [.func (.func 45) #[] #[], .int .i64 3] 73)
      generalize wr.alloc _ = v at H2 HD ⊢
      generalize wr.heap.size = D at HD ⊢
      have x : v.cell? ⟨w.heap.size + 1 + 1 + 1, 0, none⟩ = some (.int .i64 c.st) := H2.out.src.cell 0
      have y : v.cell? ⟨w.heap.size + 1 + 1, 0, none⟩ = some (.int .u64 0) := H2.out.all.cell 0
      have q0 : v.cell? ⟨D, 0, none⟩ = some (.func (.func 45) #[] #[]) := HD.out.cell 0
      have z := H2.out.all.fz 0
      go_wp2_with (first
        | (go_at_call 45; refine (p0_any _ _).mono ?_; rintro e2 w2 ⟨rfl, hw⟩; subst w2)
        | fail)
      go_roundw
      case rel => exact ⟨0 + 1, by omega, rfl, H2.out.step (j := 0 + 1) 0 _ rfl⟩
      case measure => simp [intOf]
    · go_upto_region 6 with fail
      have H2 := rhide (HI.out.on (bal (Below.refl _ _) (.cells #[.func (.func 46) #[] #[], .int .i64 3] 73)))
      have HD := rhide (rowV_new wr [.func (.func 46) #[] #[], .int .i64 3] 73)
      generalize wr.alloc _ = v at H2 HD ⊢
      generalize wr.heap.size = D at HD ⊢
      have x : v.cell? ⟨w.heap.size + 1 + 1 + 1, 1, none⟩ = some (.int .i64 c.co) := H2.out.src.cell 1
      have y : v.cell? ⟨w.heap.size + 1 + 1, 1, none⟩ = some (.int .u64 0) := H2.out.all.cell 1
      have q0 : v.cell? ⟨D, 0, none⟩ = some (.func (.func 46) #[] #[]) := HD.out.cell 0
      have z := H2.out.all.fz 1
      go_wp2_with (first
        | (go_at_call 46; refine (p1_any _ _).mono ?_; rintro e2 w2 ⟨rfl, hw⟩; subst w2)
        | fail)
      go_roundw
      case rel => exact ⟨1 + 1, by omega, rfl, H2.out.step (j := 1 + 1) 1 _ rfl⟩
      case measure => simp [intOf]
    · go_upto_region 6 with fail
      have H2 := rhide (HI.out.on (bal (Below.refl _ _) (.cells #[.func (.func 47) #[] #[], .int .i64 63] 73)))
      have HD := rhide (rowV_new wr [.func (.func 47) #[] #[], .int .i64 63] 73)
      generalize wr.alloc _ = v at H2 HD ⊢
      generalize wr.heap.size = D at HD ⊢
      have x : v.cell? ⟨w.heap.size + 1 + 1 + 1, 2, none⟩ = some (.int .i64 c.tc) := H2.out.src.cell 2
      have y : v.cell? ⟨w.heap.size + 1 + 1, 2, none⟩ = some (.int .u64 0) := H2.out.all.cell 2
      have q0 : v.cell? ⟨D, 0, none⟩ = some (.func (.func 47) #[] #[]) := HD.out.cell 0
      have z := H2.out.all.fz 2
      go_wp2_with (first
        | (go_at_call 47; refine (p2_any _ _).mono ?_; rintro e2 w2 ⟨rfl, hw⟩; subst w2)
        | fail)
      go_roundw
      case rel => exact ⟨2 + 1, by omega, rfl, H2.out.step (j := 2 + 1) 2 _ rfl⟩
      case measure => simp [intOf]
    · go_upto_region 6 with fail
      have H2 := rhide (HI.out.on (bal (Below.refl _ _) (.cells #[.func (.func 48) #[] #[], .int .i64 64] 73)))
      have HD := rhide (rowV_new wr [.func (.func 48) #[] #[], .int .i64 64] 73)
      generalize wr.alloc _ = v at H2 HD ⊢
      generalize wr.heap.size = D at HD ⊢
      have x : v.cell? ⟨w.heap.size + 1 + 1 + 1, 3, none⟩ = some (.int .i64 c.rc) := H2.out.src.cell 3
      have y : v.cell? ⟨w.heap.size + 1 + 1, 3, none⟩ = some (.int .u64 0) := H2.out.all.cell 3
      have q0 : v.cell? ⟨D, 0, none⟩ = some (.func (.func 48) #[] #[]) := HD.out.cell 0
      have z := H2.out.all.fz 3
      go_wp2_with (first
        | (go_at_call 48; refine (p3_any _ _).mono ?_; rintro e2 w2 ⟨rfl, hw⟩; subst w2)
        | fail)
      go_roundw
      case rel => exact ⟨3 + 1, by omega, rfl, H2.out.step (j := 3 + 1) 3 _ rfl⟩
      case measure => simp [intOf]
    · go_upto_region 6 with fail
      have H2 := rhide (HI.out.on (bal (Below.refl _ _) (.cells #[.func (.func 49) #[] #[], .int .i64 6] 73)))
      have HD := rhide (rowV_new wr [.func (.func 49) #[] #[], .int .i64 6] 73)
      generalize wr.alloc _ = v at H2 HD ⊢
      generalize wr.heap.size = D at HD ⊢
      have x : v.cell? ⟨w.heap.size + 1 + 1 + 1, 4, none⟩ = some (.int .i64 c.de) := H2.out.src.cell 4
      have y : v.cell? ⟨w.heap.size + 1 + 1, 4, none⟩ = some (.int .u64 0) := H2.out.all.cell 4
      have q0 : v.cell? ⟨D, 0, none⟩ = some (.func (.func 49) #[] #[]) := HD.out.cell 0
      have z := H2.out.all.fz 4
      go_wp2_with (first
        | (go_at_call 49; refine (p4_any _ _).mono ?_; rintro e2 w2 ⟨rfl, hw⟩; subst w2)
        | fail)
      go_roundw
      case rel => exact ⟨4 + 1, by omega, rfl, H2.out.step (j := 4 + 1) 4 _ rfl⟩
      case measure => simp [intOf]
    · have x0 : wr.cell? ⟨w.heap.size + 1 + 1, 0, none⟩ = some (.int .u64 (IntKind.u64.wrap c.st)) := HI.out.all.cell 0
      have x1 : wr.cell? ⟨w.heap.size + 1 + 1, 1, none⟩ = some (.int .u64 (IntKind.u64.wrap c.co)) := HI.out.all.cell 1
      have x2 : wr.cell? ⟨w.heap.size + 1 + 1, 2, none⟩ = some (.int .u64 (IntKind.u64.wrap c.tc)) := HI.out.all.cell 2
      have x3 : wr.cell? ⟨w.heap.size + 1 + 1, 3, none⟩ = some (.int .u64 (IntKind.u64.wrap c.rc)) := HI.out.all.cell 3
      have x4 : wr.cell? ⟨w.heap.size + 1 + 1, 4, none⟩ = some (.int .u64 (IntKind.u64.wrap c.de)) := HI.out.all.cell 4
      have y0 : wr.cell? ⟨w.heap.size + 1, 0, none⟩ = some (.int .u64 0) := HI.out.res.cell 0
      have y1 : wr.cell? ⟨w.heap.size + 1, 1, none⟩ = some (.int .u64 0) := HI.out.res.cell 1
      have y2 : wr.cell? ⟨w.heap.size + 1, 2, none⟩ = some (.int .u64 0) := HI.out.res.cell 2
      have y3 : wr.cell? ⟨w.heap.size + 1, 3, none⟩ = some (.int .u64 0) := HI.out.res.cell 3
      have y4 : wr.cell? ⟨w.heap.size + 1, 4, none⟩ = some (.int .u64 0) := HI.out.res.cell 4
      have z := HI.out.res.fz
      go_wp2
      refine bodyPost_ret (v := .agg #[.int .u64 (IntKind.u64.wrap c.st), .int .u64 (IntKind.u64.wrap c.co), .int .u64 (IntKind.u64.wrap c.tc), .int .u64 (IntKind.u64.wrap c.rc), .int .u64 (IntKind.u64.wrap c.de)]) (by simp [results, Tryd.results20, go_sem, y0, y1, y2, y3, y4]) rfl ⟨rfl, ?_⟩
      exact bst (bst (bst (bst (bst HI.out.below (by omega) _ _) (by omega) _ _) (by omega) _ _) (by omega) _ _) (by omega) _ _
/-! ### threadOf -/
/-- The first k parts are right; the thread that has them. -/
def upT (x : Th) : Nat → Prop
  | 0 => True
  | 1 => x.st ≤ 3
  | 2 => x.st ≤ 3 ∧ x.co ≤ 3
  | 3 => x.st ≤ 3 ∧ x.co ≤ 3 ∧ x.tc ≤ 63
  | 4 => x.st ≤ 3 ∧ x.co ≤ 3 ∧ x.tc ≤ 63 ∧ x.rc ≤ 64
  | _ => x.st ≤ 3 ∧ x.co ≤ 3 ∧ x.tc ≤ 63 ∧ x.rc ≤ 64 ∧ x.de ≤ 6
def toL (x : Th) : Nat → List Value
  | 0 => [.int .i64 0, .int .i64 0, .int .i64 0, .int .i64 0, .int .i64 0]
  | 1 => [.int .i64 x.st, .int .i64 0, .int .i64 0, .int .i64 0, .int .i64 0]
  | 2 => [.int .i64 x.st, .int .i64 x.co, .int .i64 0, .int .i64 0, .int .i64 0]
  | 3 => [.int .i64 x.st, .int .i64 x.co, .int .i64 x.tc, .int .i64 0, .int .i64 0]
  | 4 => [.int .i64 x.st, .int .i64 x.co, .int .i64 x.tc, .int .i64 x.rc, .int .i64 0]
  | _ => [.int .i64 x.st, .int .i64 x.co, .int .i64 x.tc, .int .i64 x.rc, .int .i64 x.de]
def wdL (x : Th) : List Value := [.int .u64 x.st, .int .u64 x.co, .int .u64 x.tc, .int .u64 x.rc, .int .u64 x.de]
/-- Words. -/
def Wf (x : Th) : Prop := 0 ≤ x.st ∧ 0 ≤ x.co ∧ 0 ≤ x.tc ∧ 0 ≤ x.rc ∧ 0 ≤ x.de
theorem toB_not {x : Th} (h : ¬ To x) : toB x = false := toB_no h
structure ToI (w W : World) (x : Th) (k : Nat) : Prop where
  wds : RowV W w.heap.size (wdL x)
  res : RowV W (w.heap.size + 1) (toL x 0)
  dst : RowV W (w.heap.size + 1 + 1) (toL x k)
  below : Below w.heap.size w W
theorem ToI.on {w W W' : World} {x : Th} {k : Nat} (h : ToI w W x k) (hB : Below W.heap.size W W') : ToI w W' x k := ⟨h.wds.on hB, h.res.on hB, h.dst.on hB, h.below.trans (hB.mono h.below.size)⟩
theorem ToI.step {w W : World} {x : Th} {k j : Nat} (h : ToI w W x k) (i : Nat) (v : Value) (hv : (toL x k).set i v = toL x j) : ToI w (W.setCell ⟨w.heap.size + 1 + 1, i, none⟩ v) x j :=
  ⟨h.wds.other (by omega) _ _, h.res.other (by omega) _ _, by rw [← hv]; exact h.dst.set i v, bst h.below (by omega) _ _⟩
theorem to_new (w : World) (x : Th) : ToI w (((w.alloc (.cells #[.int .u64 x.st, .int .u64 x.co, .int .u64 x.tc, .int .u64 x.rc, .int .u64 x.de] 56)).alloc (.cells #[.int .i64 0, .int .i64 0, .int .i64 0, .int .i64 0, .int .i64 0] 23)).alloc (.cells #[.int .i64 0, .int .i64 0, .int .i64 0, .int .i64 0, .int .i64 0] 70)) x 0 := by
  have b0 := rowV_new w (wdL x) 56
  have b1 := rowV_new (w.alloc (.cells #[.int .u64 x.st, .int .u64 x.co, .int .u64 x.tc, .int .u64 x.rc, .int .u64 x.de] 56)) (toL x 0) 23
  have b2 := rowV_new ((w.alloc (.cells #[.int .u64 x.st, .int .u64 x.co, .int .u64 x.tc, .int .u64 x.rc, .int .u64 x.de] 56)).alloc (.cells #[.int .i64 0, .int .i64 0, .int .i64 0, .int .i64 0, .int .i64 0] 23)) (toL x 0) 70
  simp only [World.size_alloc] at b0 b1 b2
  exact ⟨(b0.on (bal (Below.refl _ _) _)).on (bal (Below.refl _ _) _), b1.on (bal (Below.refl _ _) _), b2, bal (bal (bal (Below.refl _ _) _) _) _⟩
set_option maxRecDepth 100000 in
set_option maxHeartbeats 4000000 in
theorem thread_any (x : Th) (hx : Wf x) (w : World) : Calls Tryd.prog 19 #[.agg #[.int .u64 x.st, .int .u64 x.co, .int .u64 x.tc, .int .u64 x.rc, .int .u64 x.de]] w fun e w' => e = .returned (.tuple #[.agg #[.int .i64 (toX x).st, .int .i64 (toX x).co, .int .i64 (toX x).tc, .int .i64 (toX x).rc, .int .i64 (toX x).de], .bool (toB x)]) ∧ Below w.heap.size w w' := by
  have H0 : Hid (ToI w _ x 0) := to_new w x
  obtain ⟨p0, p1, p2, p3, p4⟩ := hx
  have i0 := idx0
  have i1 := idx1
  have i2 := idx2
  have i3 := idx3
  have i4 := idx4
  obtain ⟨R, hR⟩ : ∃ R, R = toB x := ⟨_, rfl⟩
  obtain ⟨X, hX⟩ : ∃ X, X = toX x := ⟨_, rfl⟩
  rw [← hR, ← hX]
  have HR := rhide (And.intro hR hX)
  clear hR hX
  go_enter Tryd.func19, Tryd.ntmps19
  go_wp2_with (first
    | (go_at_call 35; refine (parts_any _).mono ?_; rintro e1 w1 ⟨rfl, hb⟩; have H1 : Hid (ToI w w1 x 0) := H0.out.on hb; clear hb H0)
    | fail)
  go_loopw [8] (fun i wr => ∃ k : Nat, k ≤ 5 ∧ i = .int .i64 k ∧ upT x k ∧ ToI w wr x k) (fun i _ => 5 - (intOf i).toNat)
  case atStart => exact ⟨0, by omega, rfl, trivial, H1.out⟩
  case round =>
    obtain ⟨k, hk, rfl, hU, hI⟩ := hrel
    have HI := rhide hI
    clear hI H1
    rcases (show k = 0 ∨ k = 1 ∨ k = 2 ∨ k = 3 ∨ k = 4 ∨ k = 5 by omega) with rfl | rfl | rfl | rfl | rfl | rfl
    · have HU := rhide hU
      clear hU
      have x0 : wr.cell? ⟨w.heap.size, 0, none⟩ = some (.int .u64 x.st) := HI.out.wds.cell 0
      have lt := HI.out.dst.lt
      by_cases hm : x.st ≤ 3
      · have hm' : ¬ 3 < x.st := by omega
        have hw : wrap64 x.st = x.st := by unfold wrap64; omega
        go_upto_region 5 with fail
        have H2 := rhide (HI.out.on (bal (Below.refl _ _) (.cells #[.func (.func 45) #[] #[], .int .i64 3] 73)))
        have HD := rhide (rowV_new wr [.func (.func 45) #[] #[], .int .i64 3] 73)
        have hD : w.heap.size + 1 + 1 < wr.heap.size := lt
        generalize wr.alloc _ = v at H2 HD ⊢
        generalize wr.heap.size = D at HD hD ⊢
        have hD1 : D ≠ w.heap.size + 1 + 1 := by omega
        have hD2 : w.heap.size ≠ w.heap.size + 1 + 1 := by omega
        clear x0 lt HI hD
        have x0 : v.cell? ⟨w.heap.size, 0, none⟩ = some (.int .u64 x.st) := H2.out.wds.cell 0
        have q0 : v.cell? ⟨D, 0, none⟩ = some (.func (.func 45) #[] #[]) := HD.out.cell 0
        have q1 : v.cell? ⟨D, 1, none⟩ = some (.int .i64 3) := HD.out.cell 1
        have y : v.cell? ⟨w.heap.size + 1 + 1, 0, none⟩ = some (.int .i64 0) := H2.out.dst.cell 0
        have z := H2.out.dst.fz 0
        clear HD
        go_quiet (fail)
        have H3 : Hid (ToI w (v.drewN nq) x 0) := H2.out.on (below_drew' _ _ _)
        have q0' : (v.drewN nq).cell? ⟨D, 0, none⟩ = some (.func (.func 45) #[] #[]) := q0
        clear x0 q0 q1 y z H2
        generalize v.drewN nq = v2 at H3 q0' ⊢
        have q0 := q0'
        clear q0'
        have x0 : v2.cell? ⟨w.heap.size, 0, none⟩ = some (.int .u64 x.st) := H3.out.wds.cell 0
        have y : v2.cell? ⟨w.heap.size + 1 + 1, 0, none⟩ = some (.int .i64 0) := H3.out.dst.cell 0
        have z := H3.out.dst.fz 0
        go_wp2
        go_region_held3 (fun w' => w'.cell? ⟨D, 0, none⟩ = some (.func (.func 45) #[] #[]) ∧ w'.cell? ⟨w.heap.size, 0, none⟩ = some (.int .u64 x.st)) (first | exact ⟨by assumption, by assumption⟩ | (with_reducible exact keep2 hD1 hD2 q0 x0) | (with_reducible exact keep2d hD1 hD2 q0 x0) | go_keep)
        (first
          | (go_at_call 45; refine (p0_any _ _).mono ?_; rintro e2 w2 ⟨rfl, hw⟩; subst w2)
          | fail)
        go_wp2
        go_roundw
        case rel => exact ⟨0 + 1, by omega, rfl, by have h : True := HU.out; show x.st ≤ 3; omega, by first | exact H3.out.step (j := 0 + 1) 0 _ rfl | exact (H3.out.step (j := 0 + 1) 0 _ rfl).on (below_drew' _ _ 1) | exact (H3.out.on (below_drew' _ _ 1)).step (j := 0 + 1) 0 _ rfl⟩
        case measure => simp [intOf]
      · have hm' : 3 < x.st := by omega
        have hno : toB x = false := toB_no (fun h => hm h.1.2)
        have hXX := HR.out
        rw [hno, toX_no hno] at hXX
        obtain ⟨rfl, rfl⟩ := hXX
        go_upto_region 5 with fail
        have H2 := rhide (HI.out.on (bal (Below.refl _ _) (.cells #[.func (.func 45) #[] #[], .int .i64 3] 73)))
        have HD := rhide (rowV_new wr [.func (.func 45) #[] #[], .int .i64 3] 73)
        generalize wr.alloc _ = v at H2 HD ⊢
        generalize wr.heap.size = D at HD ⊢
        clear x0 lt HI
        have x0 : v.cell? ⟨w.heap.size, 0, none⟩ = some (.int .u64 x.st) := H2.out.wds.cell 0
        have q1 : v.cell? ⟨D, 1, none⟩ = some (.int .i64 3) := HD.out.cell 1
        clear HD
        go_quiet (fail)
        have H3 : Hid (ToI w (v.drewN nq) x 0) := H2.out.on (below_drew' _ _ _)
        clear x0 q1 H2
        generalize v.drewN nq = v2 at H3 ⊢
        have y0 : v2.cell? ⟨w.heap.size + 1, 0, none⟩ = some (.int .i64 0) := H3.out.res.cell 0
        have y1 : v2.cell? ⟨w.heap.size + 1, 1, none⟩ = some (.int .i64 0) := H3.out.res.cell 1
        have y2 : v2.cell? ⟨w.heap.size + 1, 2, none⟩ = some (.int .i64 0) := H3.out.res.cell 2
        have y3 : v2.cell? ⟨w.heap.size + 1, 3, none⟩ = some (.int .i64 0) := H3.out.res.cell 3
        have y4 : v2.cell? ⟨w.heap.size + 1, 4, none⟩ = some (.int .i64 0) := H3.out.res.cell 4
        have z := H3.out.res.fz
        go_wp2
        refine bodyPost_ret (v := .tuple #[.agg #[.int .i64 0, .int .i64 0, .int .i64 0, .int .i64 0, .int .i64 0], .bool false]) (by simp [results, Tryd.results19, go_sem, y0, y1, y2, y3, y4]) rfl ⟨rfl, ?_⟩
        exact bst (bst (bst (bst (bst H3.out.below (by omega) _ _) (by omega) _ _) (by omega) _ _) (by omega) _ _) (by omega) _ _
    · have HU := rhide hU
      clear hU
      have x0 : wr.cell? ⟨w.heap.size, 1, none⟩ = some (.int .u64 x.co) := HI.out.wds.cell 1
      have lt := HI.out.dst.lt
      by_cases hm : x.co ≤ 3
      · have hm' : ¬ 3 < x.co := by omega
        have hw : wrap64 x.co = x.co := by unfold wrap64; omega
        go_upto_region 5 with fail
        have H2 := rhide (HI.out.on (bal (Below.refl _ _) (.cells #[.func (.func 46) #[] #[], .int .i64 3] 73)))
        have HD := rhide (rowV_new wr [.func (.func 46) #[] #[], .int .i64 3] 73)
        have hD : w.heap.size + 1 + 1 < wr.heap.size := lt
        generalize wr.alloc _ = v at H2 HD ⊢
        generalize wr.heap.size = D at HD hD ⊢
        have hD1 : D ≠ w.heap.size + 1 + 1 := by omega
        have hD2 : w.heap.size ≠ w.heap.size + 1 + 1 := by omega
        clear x0 lt HI hD
        have x0 : v.cell? ⟨w.heap.size, 1, none⟩ = some (.int .u64 x.co) := H2.out.wds.cell 1
        have q0 : v.cell? ⟨D, 0, none⟩ = some (.func (.func 46) #[] #[]) := HD.out.cell 0
        have q1 : v.cell? ⟨D, 1, none⟩ = some (.int .i64 3) := HD.out.cell 1
        have y : v.cell? ⟨w.heap.size + 1 + 1, 1, none⟩ = some (.int .i64 0) := H2.out.dst.cell 1
        have z := H2.out.dst.fz 1
        clear HD
        go_quiet (fail)
        have H3 : Hid (ToI w (v.drewN nq) x 1) := H2.out.on (below_drew' _ _ _)
        have q0' : (v.drewN nq).cell? ⟨D, 0, none⟩ = some (.func (.func 46) #[] #[]) := q0
        clear x0 q0 q1 y z H2
        generalize v.drewN nq = v2 at H3 q0' ⊢
        have q0 := q0'
        clear q0'
        have x0 : v2.cell? ⟨w.heap.size, 1, none⟩ = some (.int .u64 x.co) := H3.out.wds.cell 1
        have y : v2.cell? ⟨w.heap.size + 1 + 1, 1, none⟩ = some (.int .i64 0) := H3.out.dst.cell 1
        have z := H3.out.dst.fz 1
        go_wp2
        go_region_held3 (fun w' => w'.cell? ⟨D, 0, none⟩ = some (.func (.func 46) #[] #[]) ∧ w'.cell? ⟨w.heap.size, 1, none⟩ = some (.int .u64 x.co)) (first | exact ⟨by assumption, by assumption⟩ | (with_reducible exact keep2 hD1 hD2 q0 x0) | (with_reducible exact keep2d hD1 hD2 q0 x0) | go_keep)
        (first
          | (go_at_call 46; refine (p1_any _ _).mono ?_; rintro e2 w2 ⟨rfl, hw⟩; subst w2)
          | fail)
        go_wp2
        go_roundw
        case rel => exact ⟨1 + 1, by omega, rfl, by have h : x.st ≤ 3 := HU.out; show x.st ≤ 3 ∧ x.co ≤ 3; omega, by first | exact H3.out.step (j := 1 + 1) 1 _ rfl | exact (H3.out.step (j := 1 + 1) 1 _ rfl).on (below_drew' _ _ 1) | exact (H3.out.on (below_drew' _ _ 1)).step (j := 1 + 1) 1 _ rfl⟩
        case measure => simp [intOf]
      · have hm' : 3 < x.co := by omega
        have hno : toB x = false := toB_no (fun h => hm h.2.1.2)
        have hXX := HR.out
        rw [hno, toX_no hno] at hXX
        obtain ⟨rfl, rfl⟩ := hXX
        go_upto_region 5 with fail
        have H2 := rhide (HI.out.on (bal (Below.refl _ _) (.cells #[.func (.func 46) #[] #[], .int .i64 3] 73)))
        have HD := rhide (rowV_new wr [.func (.func 46) #[] #[], .int .i64 3] 73)
        generalize wr.alloc _ = v at H2 HD ⊢
        generalize wr.heap.size = D at HD ⊢
        clear x0 lt HI
        have x0 : v.cell? ⟨w.heap.size, 1, none⟩ = some (.int .u64 x.co) := H2.out.wds.cell 1
        have q1 : v.cell? ⟨D, 1, none⟩ = some (.int .i64 3) := HD.out.cell 1
        clear HD
        go_quiet (fail)
        have H3 : Hid (ToI w (v.drewN nq) x 1) := H2.out.on (below_drew' _ _ _)
        clear x0 q1 H2
        generalize v.drewN nq = v2 at H3 ⊢
        have y0 : v2.cell? ⟨w.heap.size + 1, 0, none⟩ = some (.int .i64 0) := H3.out.res.cell 0
        have y1 : v2.cell? ⟨w.heap.size + 1, 1, none⟩ = some (.int .i64 0) := H3.out.res.cell 1
        have y2 : v2.cell? ⟨w.heap.size + 1, 2, none⟩ = some (.int .i64 0) := H3.out.res.cell 2
        have y3 : v2.cell? ⟨w.heap.size + 1, 3, none⟩ = some (.int .i64 0) := H3.out.res.cell 3
        have y4 : v2.cell? ⟨w.heap.size + 1, 4, none⟩ = some (.int .i64 0) := H3.out.res.cell 4
        have z := H3.out.res.fz
        go_wp2
        refine bodyPost_ret (v := .tuple #[.agg #[.int .i64 0, .int .i64 0, .int .i64 0, .int .i64 0, .int .i64 0], .bool false]) (by simp [results, Tryd.results19, go_sem, y0, y1, y2, y3, y4]) rfl ⟨rfl, ?_⟩
        exact bst (bst (bst (bst (bst H3.out.below (by omega) _ _) (by omega) _ _) (by omega) _ _) (by omega) _ _) (by omega) _ _
    · have HU := rhide hU
      clear hU
      have x0 : wr.cell? ⟨w.heap.size, 2, none⟩ = some (.int .u64 x.tc) := HI.out.wds.cell 2
      have lt := HI.out.dst.lt
      by_cases hm : x.tc ≤ 63
      · have hm' : ¬ 63 < x.tc := by omega
        have hw : wrap64 x.tc = x.tc := by unfold wrap64; omega
        go_upto_region 5 with fail
        have H2 := rhide (HI.out.on (bal (Below.refl _ _) (.cells #[.func (.func 47) #[] #[], .int .i64 63] 73)))
        have HD := rhide (rowV_new wr [.func (.func 47) #[] #[], .int .i64 63] 73)
        have hD : w.heap.size + 1 + 1 < wr.heap.size := lt
        generalize wr.alloc _ = v at H2 HD ⊢
        generalize wr.heap.size = D at HD hD ⊢
        have hD1 : D ≠ w.heap.size + 1 + 1 := by omega
        have hD2 : w.heap.size ≠ w.heap.size + 1 + 1 := by omega
        clear x0 lt HI hD
        have x0 : v.cell? ⟨w.heap.size, 2, none⟩ = some (.int .u64 x.tc) := H2.out.wds.cell 2
        have q0 : v.cell? ⟨D, 0, none⟩ = some (.func (.func 47) #[] #[]) := HD.out.cell 0
        have q1 : v.cell? ⟨D, 1, none⟩ = some (.int .i64 63) := HD.out.cell 1
        have y : v.cell? ⟨w.heap.size + 1 + 1, 2, none⟩ = some (.int .i64 0) := H2.out.dst.cell 2
        have z := H2.out.dst.fz 2
        clear HD
        go_quiet (fail)
        have H3 : Hid (ToI w (v.drewN nq) x 2) := H2.out.on (below_drew' _ _ _)
        have q0' : (v.drewN nq).cell? ⟨D, 0, none⟩ = some (.func (.func 47) #[] #[]) := q0
        clear x0 q0 q1 y z H2
        generalize v.drewN nq = v2 at H3 q0' ⊢
        have q0 := q0'
        clear q0'
        have x0 : v2.cell? ⟨w.heap.size, 2, none⟩ = some (.int .u64 x.tc) := H3.out.wds.cell 2
        have y : v2.cell? ⟨w.heap.size + 1 + 1, 2, none⟩ = some (.int .i64 0) := H3.out.dst.cell 2
        have z := H3.out.dst.fz 2
        go_wp2
        go_region_held3 (fun w' => w'.cell? ⟨D, 0, none⟩ = some (.func (.func 47) #[] #[]) ∧ w'.cell? ⟨w.heap.size, 2, none⟩ = some (.int .u64 x.tc)) (first | exact ⟨by assumption, by assumption⟩ | (with_reducible exact keep2 hD1 hD2 q0 x0) | (with_reducible exact keep2d hD1 hD2 q0 x0) | go_keep)
        (first
          | (go_at_call 47; refine (p2_any _ _).mono ?_; rintro e2 w2 ⟨rfl, hw⟩; subst w2)
          | fail)
        go_wp2
        go_roundw
        case rel => exact ⟨2 + 1, by omega, rfl, by have h : x.st ≤ 3 ∧ x.co ≤ 3 := HU.out; show x.st ≤ 3 ∧ x.co ≤ 3 ∧ x.tc ≤ 63; omega, by first | exact H3.out.step (j := 2 + 1) 2 _ rfl | exact (H3.out.step (j := 2 + 1) 2 _ rfl).on (below_drew' _ _ 1) | exact (H3.out.on (below_drew' _ _ 1)).step (j := 2 + 1) 2 _ rfl⟩
        case measure => simp [intOf]
      · have hm' : 63 < x.tc := by omega
        have hno : toB x = false := toB_no (fun h => hm h.2.2.1.2)
        have hXX := HR.out
        rw [hno, toX_no hno] at hXX
        obtain ⟨rfl, rfl⟩ := hXX
        go_upto_region 5 with fail
        have H2 := rhide (HI.out.on (bal (Below.refl _ _) (.cells #[.func (.func 47) #[] #[], .int .i64 63] 73)))
        have HD := rhide (rowV_new wr [.func (.func 47) #[] #[], .int .i64 63] 73)
        generalize wr.alloc _ = v at H2 HD ⊢
        generalize wr.heap.size = D at HD ⊢
        clear x0 lt HI
        have x0 : v.cell? ⟨w.heap.size, 2, none⟩ = some (.int .u64 x.tc) := H2.out.wds.cell 2
        have q1 : v.cell? ⟨D, 1, none⟩ = some (.int .i64 63) := HD.out.cell 1
        clear HD
        go_quiet (fail)
        have H3 : Hid (ToI w (v.drewN nq) x 2) := H2.out.on (below_drew' _ _ _)
        clear x0 q1 H2
        generalize v.drewN nq = v2 at H3 ⊢
        have y0 : v2.cell? ⟨w.heap.size + 1, 0, none⟩ = some (.int .i64 0) := H3.out.res.cell 0
        have y1 : v2.cell? ⟨w.heap.size + 1, 1, none⟩ = some (.int .i64 0) := H3.out.res.cell 1
        have y2 : v2.cell? ⟨w.heap.size + 1, 2, none⟩ = some (.int .i64 0) := H3.out.res.cell 2
        have y3 : v2.cell? ⟨w.heap.size + 1, 3, none⟩ = some (.int .i64 0) := H3.out.res.cell 3
        have y4 : v2.cell? ⟨w.heap.size + 1, 4, none⟩ = some (.int .i64 0) := H3.out.res.cell 4
        have z := H3.out.res.fz
        go_wp2
        refine bodyPost_ret (v := .tuple #[.agg #[.int .i64 0, .int .i64 0, .int .i64 0, .int .i64 0, .int .i64 0], .bool false]) (by simp [results, Tryd.results19, go_sem, y0, y1, y2, y3, y4]) rfl ⟨rfl, ?_⟩
        exact bst (bst (bst (bst (bst H3.out.below (by omega) _ _) (by omega) _ _) (by omega) _ _) (by omega) _ _) (by omega) _ _
    · have HU := rhide hU
      clear hU
      have x0 : wr.cell? ⟨w.heap.size, 3, none⟩ = some (.int .u64 x.rc) := HI.out.wds.cell 3
      have lt := HI.out.dst.lt
      by_cases hm : x.rc ≤ 64
      · have hm' : ¬ 64 < x.rc := by omega
        have hw : wrap64 x.rc = x.rc := by unfold wrap64; omega
        go_upto_region 5 with fail
        have H2 := rhide (HI.out.on (bal (Below.refl _ _) (.cells #[.func (.func 48) #[] #[], .int .i64 64] 73)))
        have HD := rhide (rowV_new wr [.func (.func 48) #[] #[], .int .i64 64] 73)
        have hD : w.heap.size + 1 + 1 < wr.heap.size := lt
        generalize wr.alloc _ = v at H2 HD ⊢
        generalize wr.heap.size = D at HD hD ⊢
        have hD1 : D ≠ w.heap.size + 1 + 1 := by omega
        have hD2 : w.heap.size ≠ w.heap.size + 1 + 1 := by omega
        clear x0 lt HI hD
        have x0 : v.cell? ⟨w.heap.size, 3, none⟩ = some (.int .u64 x.rc) := H2.out.wds.cell 3
        have q0 : v.cell? ⟨D, 0, none⟩ = some (.func (.func 48) #[] #[]) := HD.out.cell 0
        have q1 : v.cell? ⟨D, 1, none⟩ = some (.int .i64 64) := HD.out.cell 1
        have y : v.cell? ⟨w.heap.size + 1 + 1, 3, none⟩ = some (.int .i64 0) := H2.out.dst.cell 3
        have z := H2.out.dst.fz 3
        clear HD
        go_quiet (fail)
        have H3 : Hid (ToI w (v.drewN nq) x 3) := H2.out.on (below_drew' _ _ _)
        have q0' : (v.drewN nq).cell? ⟨D, 0, none⟩ = some (.func (.func 48) #[] #[]) := q0
        clear x0 q0 q1 y z H2
        generalize v.drewN nq = v2 at H3 q0' ⊢
        have q0 := q0'
        clear q0'
        have x0 : v2.cell? ⟨w.heap.size, 3, none⟩ = some (.int .u64 x.rc) := H3.out.wds.cell 3
        have y : v2.cell? ⟨w.heap.size + 1 + 1, 3, none⟩ = some (.int .i64 0) := H3.out.dst.cell 3
        have z := H3.out.dst.fz 3
        go_wp2
        go_region_held3 (fun w' => w'.cell? ⟨D, 0, none⟩ = some (.func (.func 48) #[] #[]) ∧ w'.cell? ⟨w.heap.size, 3, none⟩ = some (.int .u64 x.rc)) (first | exact ⟨by assumption, by assumption⟩ | (with_reducible exact keep2 hD1 hD2 q0 x0) | (with_reducible exact keep2d hD1 hD2 q0 x0) | go_keep)
        (first
          | (go_at_call 48; refine (p3_any _ _).mono ?_; rintro e2 w2 ⟨rfl, hw⟩; subst w2)
          | fail)
        go_wp2
        go_roundw
        case rel => exact ⟨3 + 1, by omega, rfl, by have h : x.st ≤ 3 ∧ x.co ≤ 3 ∧ x.tc ≤ 63 := HU.out; show x.st ≤ 3 ∧ x.co ≤ 3 ∧ x.tc ≤ 63 ∧ x.rc ≤ 64; omega, by first | exact H3.out.step (j := 3 + 1) 3 _ rfl | exact (H3.out.step (j := 3 + 1) 3 _ rfl).on (below_drew' _ _ 1) | exact (H3.out.on (below_drew' _ _ 1)).step (j := 3 + 1) 3 _ rfl⟩
        case measure => simp [intOf]
      · have hm' : 64 < x.rc := by omega
        have hno : toB x = false := toB_no (fun h => hm h.2.2.2.1.2)
        have hXX := HR.out
        rw [hno, toX_no hno] at hXX
        obtain ⟨rfl, rfl⟩ := hXX
        go_upto_region 5 with fail
        have H2 := rhide (HI.out.on (bal (Below.refl _ _) (.cells #[.func (.func 48) #[] #[], .int .i64 64] 73)))
        have HD := rhide (rowV_new wr [.func (.func 48) #[] #[], .int .i64 64] 73)
        generalize wr.alloc _ = v at H2 HD ⊢
        generalize wr.heap.size = D at HD ⊢
        clear x0 lt HI
        have x0 : v.cell? ⟨w.heap.size, 3, none⟩ = some (.int .u64 x.rc) := H2.out.wds.cell 3
        have q1 : v.cell? ⟨D, 1, none⟩ = some (.int .i64 64) := HD.out.cell 1
        clear HD
        go_quiet (fail)
        have H3 : Hid (ToI w (v.drewN nq) x 3) := H2.out.on (below_drew' _ _ _)
        clear x0 q1 H2
        generalize v.drewN nq = v2 at H3 ⊢
        have y0 : v2.cell? ⟨w.heap.size + 1, 0, none⟩ = some (.int .i64 0) := H3.out.res.cell 0
        have y1 : v2.cell? ⟨w.heap.size + 1, 1, none⟩ = some (.int .i64 0) := H3.out.res.cell 1
        have y2 : v2.cell? ⟨w.heap.size + 1, 2, none⟩ = some (.int .i64 0) := H3.out.res.cell 2
        have y3 : v2.cell? ⟨w.heap.size + 1, 3, none⟩ = some (.int .i64 0) := H3.out.res.cell 3
        have y4 : v2.cell? ⟨w.heap.size + 1, 4, none⟩ = some (.int .i64 0) := H3.out.res.cell 4
        have z := H3.out.res.fz
        go_wp2
        refine bodyPost_ret (v := .tuple #[.agg #[.int .i64 0, .int .i64 0, .int .i64 0, .int .i64 0, .int .i64 0], .bool false]) (by simp [results, Tryd.results19, go_sem, y0, y1, y2, y3, y4]) rfl ⟨rfl, ?_⟩
        exact bst (bst (bst (bst (bst H3.out.below (by omega) _ _) (by omega) _ _) (by omega) _ _) (by omega) _ _) (by omega) _ _
    · have HU := rhide hU
      clear hU
      have x0 : wr.cell? ⟨w.heap.size, 4, none⟩ = some (.int .u64 x.de) := HI.out.wds.cell 4
      have lt := HI.out.dst.lt
      by_cases hm : x.de ≤ 6
      · have hm' : ¬ 6 < x.de := by omega
        have hw : wrap64 x.de = x.de := by unfold wrap64; omega
        go_upto_region 5 with fail
        have H2 := rhide (HI.out.on (bal (Below.refl _ _) (.cells #[.func (.func 49) #[] #[], .int .i64 6] 73)))
        have HD := rhide (rowV_new wr [.func (.func 49) #[] #[], .int .i64 6] 73)
        have hD : w.heap.size + 1 + 1 < wr.heap.size := lt
        generalize wr.alloc _ = v at H2 HD ⊢
        generalize wr.heap.size = D at HD hD ⊢
        have hD1 : D ≠ w.heap.size + 1 + 1 := by omega
        have hD2 : w.heap.size ≠ w.heap.size + 1 + 1 := by omega
        clear x0 lt HI hD
        have x0 : v.cell? ⟨w.heap.size, 4, none⟩ = some (.int .u64 x.de) := H2.out.wds.cell 4
        have q0 : v.cell? ⟨D, 0, none⟩ = some (.func (.func 49) #[] #[]) := HD.out.cell 0
        have q1 : v.cell? ⟨D, 1, none⟩ = some (.int .i64 6) := HD.out.cell 1
        have y : v.cell? ⟨w.heap.size + 1 + 1, 4, none⟩ = some (.int .i64 0) := H2.out.dst.cell 4
        have z := H2.out.dst.fz 4
        clear HD
        go_quiet (fail)
        have H3 : Hid (ToI w (v.drewN nq) x 4) := H2.out.on (below_drew' _ _ _)
        have q0' : (v.drewN nq).cell? ⟨D, 0, none⟩ = some (.func (.func 49) #[] #[]) := q0
        clear x0 q0 q1 y z H2
        generalize v.drewN nq = v2 at H3 q0' ⊢
        have q0 := q0'
        clear q0'
        have x0 : v2.cell? ⟨w.heap.size, 4, none⟩ = some (.int .u64 x.de) := H3.out.wds.cell 4
        have y : v2.cell? ⟨w.heap.size + 1 + 1, 4, none⟩ = some (.int .i64 0) := H3.out.dst.cell 4
        have z := H3.out.dst.fz 4
        go_wp2
        go_region_held3 (fun w' => w'.cell? ⟨D, 0, none⟩ = some (.func (.func 49) #[] #[]) ∧ w'.cell? ⟨w.heap.size, 4, none⟩ = some (.int .u64 x.de)) (first | exact ⟨by assumption, by assumption⟩ | (with_reducible exact keep2 hD1 hD2 q0 x0) | (with_reducible exact keep2d hD1 hD2 q0 x0) | go_keep)
        (first
          | (go_at_call 49; refine (p4_any _ _).mono ?_; rintro e2 w2 ⟨rfl, hw⟩; subst w2)
          | fail)
        go_wp2
        go_roundw
        case rel => exact ⟨4 + 1, by omega, rfl, by have h : x.st ≤ 3 ∧ x.co ≤ 3 ∧ x.tc ≤ 63 ∧ x.rc ≤ 64 := HU.out; show x.st ≤ 3 ∧ x.co ≤ 3 ∧ x.tc ≤ 63 ∧ x.rc ≤ 64 ∧ x.de ≤ 6; omega, by first | exact H3.out.step (j := 4 + 1) 4 _ rfl | exact (H3.out.step (j := 4 + 1) 4 _ rfl).on (below_drew' _ _ 1) | exact (H3.out.on (below_drew' _ _ 1)).step (j := 4 + 1) 4 _ rfl⟩
        case measure => simp [intOf]
      · have hm' : 6 < x.de := by omega
        have hno : toB x = false := toB_no (fun h => hm h.2.2.2.2.2)
        have hXX := HR.out
        rw [hno, toX_no hno] at hXX
        obtain ⟨rfl, rfl⟩ := hXX
        go_upto_region 5 with fail
        have H2 := rhide (HI.out.on (bal (Below.refl _ _) (.cells #[.func (.func 49) #[] #[], .int .i64 6] 73)))
        have HD := rhide (rowV_new wr [.func (.func 49) #[] #[], .int .i64 6] 73)
        generalize wr.alloc _ = v at H2 HD ⊢
        generalize wr.heap.size = D at HD ⊢
        clear x0 lt HI
        have x0 : v.cell? ⟨w.heap.size, 4, none⟩ = some (.int .u64 x.de) := H2.out.wds.cell 4
        have q1 : v.cell? ⟨D, 1, none⟩ = some (.int .i64 6) := HD.out.cell 1
        clear HD
        go_quiet (fail)
        have H3 : Hid (ToI w (v.drewN nq) x 4) := H2.out.on (below_drew' _ _ _)
        clear x0 q1 H2
        generalize v.drewN nq = v2 at H3 ⊢
        have y0 : v2.cell? ⟨w.heap.size + 1, 0, none⟩ = some (.int .i64 0) := H3.out.res.cell 0
        have y1 : v2.cell? ⟨w.heap.size + 1, 1, none⟩ = some (.int .i64 0) := H3.out.res.cell 1
        have y2 : v2.cell? ⟨w.heap.size + 1, 2, none⟩ = some (.int .i64 0) := H3.out.res.cell 2
        have y3 : v2.cell? ⟨w.heap.size + 1, 3, none⟩ = some (.int .i64 0) := H3.out.res.cell 3
        have y4 : v2.cell? ⟨w.heap.size + 1, 4, none⟩ = some (.int .i64 0) := H3.out.res.cell 4
        have z := H3.out.res.fz
        go_wp2
        refine bodyPost_ret (v := .tuple #[.agg #[.int .i64 0, .int .i64 0, .int .i64 0, .int .i64 0, .int .i64 0], .bool false]) (by simp [results, Tryd.results19, go_sem, y0, y1, y2, y3, y4]) rfl ⟨rfl, ?_⟩
        exact bst (bst (bst (bst (bst H3.out.below (by omega) _ _) (by omega) _ _) (by omega) _ _) (by omega) _ _) (by omega) _ _
    · have hyes : toB x = true := toB_yes (by have h : x.st ≤ 3 ∧ x.co ≤ 3 ∧ x.tc ≤ 63 ∧ x.rc ≤ 64 ∧ x.de ≤ 6 := hU; unfold To; omega)
      have hXX := HR.out
      rw [hyes, toX_yes hyes] at hXX
      obtain ⟨rfl, rfl⟩ := hXX
      clear hU
      have x0 : wr.cell? ⟨w.heap.size + 1 + 1, 0, none⟩ = some (.int .i64 X.st) := HI.out.dst.cell 0
      have x1 : wr.cell? ⟨w.heap.size + 1 + 1, 1, none⟩ = some (.int .i64 X.co) := HI.out.dst.cell 1
      have x2 : wr.cell? ⟨w.heap.size + 1 + 1, 2, none⟩ = some (.int .i64 X.tc) := HI.out.dst.cell 2
      have x3 : wr.cell? ⟨w.heap.size + 1 + 1, 3, none⟩ = some (.int .i64 X.rc) := HI.out.dst.cell 3
      have x4 : wr.cell? ⟨w.heap.size + 1 + 1, 4, none⟩ = some (.int .i64 X.de) := HI.out.dst.cell 4
      have y0 : wr.cell? ⟨w.heap.size + 1, 0, none⟩ = some (.int .i64 0) := HI.out.res.cell 0
      have y1 : wr.cell? ⟨w.heap.size + 1, 1, none⟩ = some (.int .i64 0) := HI.out.res.cell 1
      have y2 : wr.cell? ⟨w.heap.size + 1, 2, none⟩ = some (.int .i64 0) := HI.out.res.cell 2
      have y3 : wr.cell? ⟨w.heap.size + 1, 3, none⟩ = some (.int .i64 0) := HI.out.res.cell 3
      have y4 : wr.cell? ⟨w.heap.size + 1, 4, none⟩ = some (.int .i64 0) := HI.out.res.cell 4
      have z := HI.out.res.fz
      go_wp2
      refine bodyPost_ret (v := .tuple #[.agg #[.int .i64 X.st, .int .i64 X.co, .int .i64 X.tc, .int .i64 X.rc, .int .i64 X.de], .bool true]) (by simp [results, Tryd.results19, go_sem, y0, y1, y2, y3, y4]) rfl ⟨rfl, ?_⟩
      exact bst (bst (bst (bst (bst HI.out.below (by omega) _ _) (by omega) _ _) (by omega) _ _) (by omega) _ _) (by omega) _ _
end Go.Proofs.YtaajacmbnigadaaDoor.Pthd
