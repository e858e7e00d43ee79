/- Of a nil machine, and of one that no call made; the walk of MachineZero (written by mk_nil.py). -/
import Derived.Test.YtlbgflgdjhjieaaBunBase
import Derived.Test.YtlbgflgdjhjieaaBunPclock
import Derived.Test.YtlbgflgdjhjieaaBunPtyp
import Derived.Test.YtlbgflgdjhjieaaBunPquiet
import Derived.Test.YtlbgflgdjhjieaaRows
import Derived.BigRegion
import Derived.Deep.RegionWith
import Derived.Deep.DeepCutAuto
namespace Go.Proofs.Ytlbgflgdjhjieaa.Pmach
open Go.Proofs.Ytlbgflgdjhjieaa.Pbase Go.Proofs.Ytlbgflgdjhjieaa.Pclock Go.Proofs.Ytlbgflgdjhjieaa.Pquiet Go.Proofs.Ytlbgflgdjhjieaa.Ptyp
open Go.RowKit
set_option linter.unusedVariables false
theorem rhid {p : Prop} (h : p) : Hid p := h
/-! ### Parts that are nil -/
set_option maxRecDepth 100000 in
theorem cnow_nil (w : World) : Calls Try.prog 48 #[.pointer none] w fun e w' => e = .returned (.int .i64 0) ∧ w' = w := by
  go_enter Try.func48, Try.ntmps48
  go_wp2
  go_ret
  exact ⟨rfl, rfl⟩
set_option maxRecDepth 100000 in
theorem qfor_nil (t : Int) (w : World) : Calls Try.prog 40 #[.pointer none, .int .i64 0, .int .i64 t] w fun e w' => e = .returned (.bool true) ∧ w' = w := by
  go_enter Try.func40, Try.ntmps40
  go_wp2
  go_ret
  exact ⟨rfl, rfl⟩
/-- A machine that no call made. -/
structure ZeroM (w : World) (p : Nat) : Prop where
  lt : p < w.heap.size
  c0 : w.cell? ⟨p, 0, none⟩ = some (.pointer none)
  c1 : w.cell? ⟨p, 1, none⟩ = some (.pointer none)
  c2 : w.cell? ⟨p, 2, none⟩ = some (.pointer none)
  c3 : w.cell? ⟨p, 3, none⟩ = some (.pointer none)
  c4 : w.cell? ⟨p, 4, none⟩ = some (.pointer none)
  c5 : w.cell? ⟨p, 5, none⟩ = some (.slice none 0 0)
theorem ZeroM.on {w w' : World} {p : Nat} (h : ZeroM w p) (hB : Below w.heap.size w w') : ZeroM w' p :=
  ⟨Nat.lt_of_lt_of_le h.lt hB.size, (hB.cell (p := ⟨p, 0, none⟩) h.lt).trans h.c0, (hB.cell (p := ⟨p, 1, none⟩) h.lt).trans h.c1, (hB.cell (p := ⟨p, 2, none⟩) h.lt).trans h.c2, (hB.cell (p := ⟨p, 3, none⟩) h.lt).trans h.c3, (hB.cell (p := ⟨p, 4, none⟩) h.lt).trans h.c4, (hB.cell (p := ⟨p, 5, none⟩) h.lt).trans h.c5⟩
theorem zeroM_new (w : World) : ZeroM (w.alloc (.cells #[.pointer none, .pointer none, .pointer none, .pointer none, .pointer none, .slice none 0 0] 54)) w.heap.size := ⟨by simp, by simp, by simp, by simp, by simp, by simp, by simp⟩
theorem zeroM_res {w : World} {p : Nat} (h : ZeroM w p) (o : Obj) : ZeroM (w.alloc o) p := h.on (bal (Below.refl _ _) _)
def noParts : Value := .agg #[.pointer none, .pointer none, .pointer none, .pointer none, .pointer none]
def noCore : Value := .agg #[.pointer none, .pointer none, .int .i64 (-1)]
theorem parts_field (w : World) : (∀ w : World, (Instr.field 51 noParts 0).run Try.prog w = .ok (.pointer none) w) ∧ (∀ w : World, (Instr.field 51 noParts 1).run Try.prog w = .ok (.pointer none) w) ∧ (∀ w : World, (Instr.field 51 noParts 2).run Try.prog w = .ok (.pointer none) w) ∧ (∀ w : World, (Instr.field 51 noParts 3).run Try.prog w = .ok (.pointer none) w) ∧ (∀ w : World, (Instr.field 51 noParts 4).run Try.prog w = .ok (.pointer none) w) :=
  ⟨fun _ => by kernel_rfl, fun _ => by kernel_rfl, fun _ => by kernel_rfl, fun _ => by kernel_rfl, fun _ => by kernel_rfl⟩
theorem core_field (w : World) : (∀ w : World, (Instr.field 79 noCore 0).run Try.prog w = .ok (.pointer none) w) ∧ (∀ w : World, (Instr.field 79 noCore 1).run Try.prog w = .ok (.pointer none) w) ∧ (∀ w : World, (Instr.field 79 noCore 2).run Try.prog w = .ok (.int .i64 (-1)) w) :=
  ⟨fun _ => by kernel_rfl, fun _ => by kernel_rfl, fun _ => by kernel_rfl⟩
set_option maxRecDepth 100000 in
theorem shared_nil (w : World) : Calls Try.prog 38 #[.pointer none] w fun e w' => e = .returned (noParts) ∧ Below w.heap.size w w' := by
  unfold noParts
  go_enter Try.func38, Try.ntmps38
  go_wp2
  refine bodyPost_ret (v := .agg #[.pointer none, .pointer none, .pointer none, .pointer none, .pointer none]) (by simp [results, Try.results38, go_sem]) rfl ⟨rfl, ?_⟩
  repeat (first | exact Below.refl _ _ | (refine Below.setCell ?_ (by simp) _) | (refine Below.alloc ?_ (by simp) _))
set_option maxRecDepth 100000 in
theorem shared_zero (p : Nat) (w : World) (hp : ZeroM w p) : Calls Try.prog 38 #[.pointer (some ⟨p, 0, none⟩)] w fun e w' => e = .returned (noParts) ∧ Below w.heap.size w w' := by
  have HP : Hid (ZeroM (w.alloc (.cells #[.pointer none, .pointer none, .pointer none, .pointer none, .pointer none] 51)) p) := zeroM_res hp _
  have c0 := HP.out.c0
  have c1 := HP.out.c1
  have c2 := HP.out.c2
  have c3 := HP.out.c3
  have c4 := HP.out.c4
  unfold noParts
  go_enter Try.func38, Try.ntmps38
  go_wp2
  refine bodyPost_ret (v := .agg #[.pointer none, .pointer none, .pointer none, .pointer none, .pointer none]) (by simp [results, Try.results38, go_sem]) rfl ⟨rfl, ?_⟩
  repeat (first | exact Below.refl _ _ | (refine Below.setCell ?_ (by simp) _) | (refine Below.alloc ?_ (by simp) _))
set_option maxRecDepth 100000 in
theorem mem_nil (w : World) : Calls Try.prog 9 #[.pointer none] w fun e w' => e = .returned (.pointer none) ∧ Below w.heap.size w w' := by
  obtain ⟨q0, q1, q2, q3, q4⟩ := parts_field w
  go_enter Try.func9, Try.ntmps9
  go_wp2_with (first
    | (go_at_call 38; refine (shared_nil _).mono ?_; rintro e w1 ⟨rfl, hm⟩)
    | fail)
  go_ret
  exact ⟨rfl, hm⟩
set_option maxRecDepth 100000 in
theorem mem_zero (p : Nat) (w : World) (hp : ZeroM w p) : Calls Try.prog 9 #[.pointer (some ⟨p, 0, none⟩)] w fun e w' => e = .returned (.pointer none) ∧ Below w.heap.size w w' := by
  obtain ⟨q0, q1, q2, q3, q4⟩ := parts_field w
  go_enter Try.func9, Try.ntmps9
  go_wp2_with (first
    | (go_at_call 38; refine (shared_zero p _ hp).mono ?_; rintro e w1 ⟨rfl, hm⟩)
    | fail)
  go_ret
  exact ⟨rfl, hm⟩
set_option maxRecDepth 100000 in
theorem clock_nil (w : World) : Calls Try.prog 6 #[.pointer none] w fun e w' => e = .returned (.pointer none) ∧ Below w.heap.size w w' := by
  obtain ⟨q0, q1, q2, q3, q4⟩ := parts_field w
  go_enter Try.func6, Try.ntmps6
  go_wp2_with (first
    | (go_at_call 38; refine (shared_nil _).mono ?_; rintro e w1 ⟨rfl, hm⟩)
    | fail)
  go_ret
  exact ⟨rfl, hm⟩
set_option maxRecDepth 100000 in
theorem clock_zero (p : Nat) (w : World) (hp : ZeroM w p) : Calls Try.prog 6 #[.pointer (some ⟨p, 0, none⟩)] w fun e w' => e = .returned (.pointer none) ∧ Below w.heap.size w w' := by
  obtain ⟨q0, q1, q2, q3, q4⟩ := parts_field w
  go_enter Try.func6, Try.ntmps6
  go_wp2_with (first
    | (go_at_call 38; refine (shared_zero p _ hp).mono ?_; rintro e w1 ⟨rfl, hm⟩)
    | fail)
  go_ret
  exact ⟨rfl, hm⟩
set_option maxRecDepth 100000 in
theorem typ_nil (w : World) : Calls Try.prog 11 #[.pointer none] w fun e w' => e = .returned (.pointer none) ∧ Below w.heap.size w w' := by
  obtain ⟨q0, q1, q2, q3, q4⟩ := parts_field w
  go_enter Try.func11, Try.ntmps11
  go_wp2_with (first
    | (go_at_call 38; refine (shared_nil _).mono ?_; rintro e w1 ⟨rfl, hm⟩)
    | fail)
  go_ret
  exact ⟨rfl, hm⟩
set_option maxRecDepth 100000 in
theorem typ_zero (p : Nat) (w : World) (hp : ZeroM w p) : Calls Try.prog 11 #[.pointer (some ⟨p, 0, none⟩)] w fun e w' => e = .returned (.pointer none) ∧ Below w.heap.size w w' := by
  obtain ⟨q0, q1, q2, q3, q4⟩ := parts_field w
  go_enter Try.func11, Try.ntmps11
  go_wp2_with (first
    | (go_at_call 38; refine (shared_zero p _ hp).mono ?_; rintro e w1 ⟨rfl, hm⟩)
    | fail)
  go_ret
  exact ⟨rfl, hm⟩
set_option maxRecDepth 100000 in
theorem live_nil (w : World) : Calls Try.prog 24 #[.pointer none] w fun e w' => e = .returned (.pointer none) ∧ Below w.heap.size w w' := by
  obtain ⟨q0, q1, q2, q3, q4⟩ := parts_field w
  go_enter Try.func24, Try.ntmps24
  go_wp2_with (first
    | (go_at_call 38; refine (shared_nil _).mono ?_; rintro e w1 ⟨rfl, hm⟩)
    | fail)
  go_ret
  exact ⟨rfl, hm⟩
set_option maxRecDepth 100000 in
theorem live_zero (p : Nat) (w : World) (hp : ZeroM w p) : Calls Try.prog 24 #[.pointer (some ⟨p, 0, none⟩)] w fun e w' => e = .returned (.pointer none) ∧ Below w.heap.size w w' := by
  obtain ⟨q0, q1, q2, q3, q4⟩ := parts_field w
  go_enter Try.func24, Try.ntmps24
  go_wp2_with (first
    | (go_at_call 38; refine (shared_zero p _ hp).mono ?_; rintro e w1 ⟨rfl, hm⟩)
    | fail)
  go_ret
  exact ⟨rfl, hm⟩
set_option maxRecDepth 100000 in
theorem lines_nil (w : World) : Calls Try.prog 25 #[.pointer none] w fun e w' => e = .returned (.pointer none) ∧ Below w.heap.size w w' := by
  obtain ⟨q0, q1, q2, q3, q4⟩ := parts_field w
  go_enter Try.func25, Try.ntmps25
  go_wp2_with (first
    | (go_at_call 38; refine (shared_nil _).mono ?_; rintro e w1 ⟨rfl, hm⟩)
    | fail)
  go_ret
  exact ⟨rfl, hm⟩
set_option maxRecDepth 100000 in
theorem lines_zero (p : Nat) (w : World) (hp : ZeroM w p) : Calls Try.prog 25 #[.pointer (some ⟨p, 0, none⟩)] w fun e w' => e = .returned (.pointer none) ∧ Below w.heap.size w w' := by
  obtain ⟨q0, q1, q2, q3, q4⟩ := parts_field w
  go_enter Try.func25, Try.ntmps25
  go_wp2_with (first
    | (go_at_call 38; refine (shared_zero p _ hp).mono ?_; rintro e w1 ⟨rfl, hm⟩)
    | fail)
  go_ret
  exact ⟨rfl, hm⟩
set_option maxRecDepth 100000 in
theorem mcores_nil (w : World) : Calls Try.prog 27 #[.pointer none] w fun e w' => e = .returned (.int .i64 0) ∧ w' = w := by
  go_enter Try.func27, Try.ntmps27
  go_wp2
  go_ret
  exact ⟨rfl, rfl⟩
set_option maxRecDepth 100000 in
theorem mcores_zero (p : Nat) (w : World) (hp : ZeroM w p) : Calls Try.prog 27 #[.pointer (some ⟨p, 0, none⟩)] w fun e w' => e = .returned (.int .i64 0) ∧ w' = w := by
  have c5 := hp.c5
  go_enter Try.func27, Try.ntmps27
  go_wp2
  go_ret
  exact ⟨rfl, rfl⟩
set_option maxRecDepth 100000 in
theorem one_nil (n : Int) (w : World) : Calls Try.prog 56 #[.pointer none, .int .i64 n] w fun e w' => e = .returned (.pointer none) ∧ w' = w := by
  rcases Int.lt_or_le n 0 with h | h
  · go_enter Try.func56, Try.ntmps56
    go_wp2
    go_ret
    exact ⟨rfl, rfl⟩
  · have h' : ¬ n < 0 := by omega
    go_enter Try.func56, Try.ntmps56
    go_wp2_with (first
      | (go_at_call 27; refine (mcores_nil _).mono ?_; rintro e w1 ⟨rfl, hw⟩; subst w1)
      | fail)
    go_ret
    exact ⟨rfl, rfl⟩
set_option maxRecDepth 100000 in
theorem one_zero (p : Nat) (n : Int) (w : World) (hp : ZeroM w p) : Calls Try.prog 56 #[.pointer (some ⟨p, 0, none⟩), .int .i64 n] w fun e w' => e = .returned (.pointer none) ∧ w' = w := by
  rcases Int.lt_or_le n 0 with h | h
  · go_enter Try.func56, Try.ntmps56
    go_wp2
    go_ret
    exact ⟨rfl, rfl⟩
  · have h' : ¬ n < 0 := by omega
    go_enter Try.func56, Try.ntmps56
    go_wp2_with (first
      | (go_at_call 27; refine (mcores_zero p _ hp).mono ?_; rintro e w1 ⟨rfl, hw⟩; subst w1)
      | fail)
    go_ret
    exact ⟨rfl, rfl⟩
set_option maxRecDepth 100000 in
theorem mtold_nil (n : Int) (w : World) : Calls Try.prog 57 #[.pointer none, .int .i64 n] w fun e w' => e = .returned (noCore) ∧ Below w.heap.size w w' := by
  unfold noCore
  go_enter Try.func57, Try.ntmps57
  go_wp2_with (first
    | (go_at_call 56; refine (one_nil n _).mono ?_; rintro e w1 ⟨rfl, hw⟩; subst w1)
    | fail)
  refine bodyPost_ret (v := .agg #[.pointer none, .pointer none, .int .i64 (-1)]) (by simp [results, Try.results57, go_sem]) rfl ⟨rfl, ?_⟩
  repeat (first | exact Below.refl _ _ | (refine Below.setCell ?_ (by simp) _) | (refine Below.alloc ?_ (by simp) _))
set_option maxRecDepth 100000 in
theorem mtold_zero (p : Nat) (n : Int) (w : World) (hp : ZeroM w p) : Calls Try.prog 57 #[.pointer (some ⟨p, 0, none⟩), .int .i64 n] w fun e w' => e = .returned (noCore) ∧ Below w.heap.size w w' := by
  unfold noCore
  go_enter Try.func57, Try.ntmps57
  go_wp2_with (first
    | (go_at_call 56; refine (one_zero p n _ (zeroM_res hp _)).mono ?_; rintro e w1 ⟨rfl, hw⟩; subst w1)
    | fail)
  refine bodyPost_ret (v := .agg #[.pointer none, .pointer none, .int .i64 (-1)]) (by simp [results, Try.results57, go_sem]) rfl ⟨rfl, ?_⟩
  repeat (first | exact Below.refl _ _ | (refine Below.setCell ?_ (by simp) _) | (refine Below.alloc ?_ (by simp) _))
set_option maxRecDepth 100000 in
theorem mtlb_nil (n : Int) (w : World) : Calls Try.prog 22 #[.pointer none, .int .i64 n] w fun e w' => e = .returned (.pointer none) ∧ Below w.heap.size w w' := by
  obtain ⟨q0, q1, q2⟩ := core_field w
  go_enter Try.func22, Try.ntmps22
  go_wp2_with (first
    | (go_at_call 57; refine (mtold_nil n _).mono ?_; rintro e w1 ⟨rfl, hm⟩)
    | fail)
  go_ret
  exact ⟨rfl, hm⟩
set_option maxRecDepth 100000 in
theorem mtlb_zero (p : Nat) (n : Int) (w : World) (hp : ZeroM w p) : Calls Try.prog 22 #[.pointer (some ⟨p, 0, none⟩), .int .i64 n] w fun e w' => e = .returned (.pointer none) ∧ Below w.heap.size w w' := by
  obtain ⟨q0, q1, q2⟩ := core_field w
  go_enter Try.func22, Try.ntmps22
  go_wp2_with (first
    | (go_at_call 57; refine (mtold_zero p n _ hp).mono ?_; rintro e w1 ⟨rfl, hm⟩)
    | fail)
  go_ret
  exact ⟨rfl, hm⟩
set_option maxRecDepth 100000 in
theorem mregs_nil (n : Int) (w : World) : Calls Try.prog 23 #[.pointer none, .int .i64 n] w fun e w' => e = .returned (.pointer none) ∧ Below w.heap.size w w' := by
  obtain ⟨q0, q1, q2⟩ := core_field w
  go_enter Try.func23, Try.ntmps23
  go_wp2_with (first
    | (go_at_call 57; refine (mtold_nil n _).mono ?_; rintro e w1 ⟨rfl, hm⟩)
    | fail)
  go_ret
  exact ⟨rfl, hm⟩
set_option maxRecDepth 100000 in
theorem mregs_zero (p : Nat) (n : Int) (w : World) (hp : ZeroM w p) : Calls Try.prog 23 #[.pointer (some ⟨p, 0, none⟩), .int .i64 n] w fun e w' => e = .returned (.pointer none) ∧ Below w.heap.size w w' := by
  obtain ⟨q0, q1, q2⟩ := core_field w
  go_enter Try.func23, Try.ntmps23
  go_wp2_with (first
    | (go_at_call 57; refine (mtold_zero p n _ hp).mono ?_; rintro e w1 ⟨rfl, hm⟩)
    | fail)
  go_ret
  exact ⟨rfl, hm⟩
set_option maxRecDepth 100000 in
theorem mcur_nil (n : Int) (w : World) : Calls Try.prog 26 #[.pointer none, .int .i64 n] w fun e w' => e = .returned (.int .i64 (-1)) ∧ Below w.heap.size w w' := by
  obtain ⟨q0, q1, q2⟩ := core_field w
  go_enter Try.func26, Try.ntmps26
  go_wp2_with (first
    | (go_at_call 57; refine (mtold_nil n _).mono ?_; rintro e w1 ⟨rfl, hm⟩)
    | fail)
  go_ret
  exact ⟨rfl, hm⟩
set_option maxRecDepth 100000 in
theorem mcur_zero (p : Nat) (n : Int) (w : World) (hp : ZeroM w p) : Calls Try.prog 26 #[.pointer (some ⟨p, 0, none⟩), .int .i64 n] w fun e w' => e = .returned (.int .i64 (-1)) ∧ Below w.heap.size w w' := by
  obtain ⟨q0, q1, q2⟩ := core_field w
  go_enter Try.func26, Try.ntmps26
  go_wp2_with (first
    | (go_at_call 57; refine (mtold_zero p n _ hp).mono ?_; rintro e w1 ⟨rfl, hm⟩)
    | fail)
  go_ret
  exact ⟨rfl, hm⟩
set_option maxRecDepth 100000 in
theorem mnow_nil (w : World) : Calls Try.prog 13 #[.pointer none] w fun e w' => e = .returned (.int .i64 0) ∧ Below w.heap.size w w' := by
  go_enter Try.func13, Try.ntmps13
  go_wp2_with (first
    | (go_at_call 6; refine (clock_nil _).mono ?_; rintro e w1 ⟨rfl, hm⟩)
    | (go_at_call 48; refine (cnow_nil _).mono ?_; rintro e w2 ⟨rfl, hw⟩; subst w2)
    | fail)
  go_ret
  exact ⟨rfl, hm⟩
set_option maxRecDepth 100000 in
theorem mnow_zero (p : Nat) (w : World) (hp : ZeroM w p) : Calls Try.prog 13 #[.pointer (some ⟨p, 0, none⟩)] w fun e w' => e = .returned (.int .i64 0) ∧ Below w.heap.size w w' := by
  go_enter Try.func13, Try.ntmps13
  go_wp2_with (first
    | (go_at_call 6; refine (clock_zero p _ hp).mono ?_; rintro e w1 ⟨rfl, hm⟩)
    | (go_at_call 48; refine (cnow_nil _).mono ?_; rintro e w2 ⟨rfl, hw⟩; subst w2)
    | fail)
  go_ret
  exact ⟨rfl, hm⟩
set_option maxRecDepth 100000 in
theorem floors_nil (w : World) : Calls Try.prog 18 #[.pointer none] w fun e w' => e = .returned (.tuple #[.int .i64 (-1), .int .i64 (-1)]) ∧ Below w.heap.size w w' := by
  go_enter Try.func18, Try.ntmps18
  go_wp2_with (first
    | (go_at_call 6; refine (clock_nil _).mono ?_; rintro e w1 ⟨rfl, hm⟩)
    | (go_at_call 51; refine (floor_nil _).mono ?_; rintro e w2 ⟨rfl, hw⟩; subst w2)
    | fail)
  go_ret2
  exact ⟨rfl, hm⟩
set_option maxRecDepth 100000 in
theorem floors_zero (p : Nat) (w : World) (hp : ZeroM w p) : Calls Try.prog 18 #[.pointer (some ⟨p, 0, none⟩)] w fun e w' => e = .returned (.tuple #[.int .i64 (-1), .int .i64 (-1)]) ∧ Below w.heap.size w w' := by
  go_enter Try.func18, Try.ntmps18
  go_wp2_with (first
    | (go_at_call 6; refine (clock_zero p _ hp).mono ?_; rintro e w1 ⟨rfl, hm⟩)
    | (go_at_call 51; refine (floor_nil _).mono ?_; rintro e w2 ⟨rfl, hw⟩; subst w2)
    | fail)
  go_ret2
  exact ⟨rfl, hm⟩
set_option maxRecDepth 100000 in
theorem mflush_nil (n : Int) (w : World) : Calls Try.prog 15 #[.pointer none, .int .i64 n] w fun e w' => e = .returned (.tuple #[.int .i64 0, .int .i64 13]) ∧ Below w.heap.size w w' := by
  go_enter Try.func15, Try.ntmps15
  go_wp2_with (first
    | (go_at_call 6; refine (clock_nil _).mono ?_; rintro e w1 ⟨rfl, hm⟩)
    | (go_at_call 49; refine (flush_nil n _).mono ?_; rintro e w2 ⟨rfl, hw⟩; subst w2)
    | fail)
  go_ret2
  exact ⟨rfl, hm⟩
set_option maxRecDepth 100000 in
theorem mflush_zero (p : Nat) (n : Int) (w : World) (hp : ZeroM w p) : Calls Try.prog 15 #[.pointer (some ⟨p, 0, none⟩), .int .i64 n] w fun e w' => e = .returned (.tuple #[.int .i64 0, .int .i64 13]) ∧ Below w.heap.size w w' := by
  go_enter Try.func15, Try.ntmps15
  go_wp2_with (first
    | (go_at_call 6; refine (clock_zero p _ hp).mono ?_; rintro e w1 ⟨rfl, hm⟩)
    | (go_at_call 49; refine (flush_nil n _).mono ?_; rintro e w2 ⟨rfl, hw⟩; subst w2)
    | fail)
  go_ret2
  exact ⟨rfl, hm⟩
set_option maxRecDepth 100000 in
theorem mretype_nil (n g : Int) (w : World) : Calls Try.prog 8 #[.pointer none, .int .i64 n, .int .i64 g] w fun e w' => e = .returned (.int .i64 13) ∧ Below w.heap.size w w' := by
  go_enter Try.func8, Try.ntmps8
  go_wp2_with (first
    | (go_at_call 11; refine (typ_nil _).mono ?_; rintro e w1 ⟨rfl, hm⟩; have h1 : Hid (Below w.heap.size w w1) := hm; clear hm)
    | (go_at_call 6; refine (clock_nil _).mono ?_; rintro e w2 ⟨rfl, hm⟩; have h2 : Hid (Below w.heap.size w w2) := h1.out.trans (hm.mono h1.out.size); clear hm)
    | (go_at_call 41; refine (was_nil n _).mono ?_; rintro e w3 ⟨rfl, hm⟩; have h3 : Hid (Below w.heap.size w w3) := h2.out.trans (hm.mono h2.out.size); clear hm)
    | (go_at_call 42; refine (freed_nil n _).mono ?_; rintro e w4 ⟨rfl, hm⟩; have h4 : Hid (Below w.heap.size w w4) := h3.out.trans (hm.mono h3.out.size); clear hm)
    | (go_at_call 40; refine (qfor_nil _ _).mono ?_; rintro e w5 ⟨rfl, hw⟩; subst w5)
    | (go_at_call 43; refine (retype_nil n g true _).mono ?_; rintro e w6 ⟨rfl, hw⟩; subst w6)
    | fail)
  go_ret
  exact ⟨rfl, h4.out⟩
set_option maxRecDepth 100000 in
theorem mretype_zero (p : Nat) (n g : Int) (w : World) (hp : ZeroM w p) : Calls Try.prog 8 #[.pointer (some ⟨p, 0, none⟩), .int .i64 n, .int .i64 g] w fun e w' => e = .returned (.int .i64 13) ∧ Below w.heap.size w w' := by
  go_enter Try.func8, Try.ntmps8
  go_wp2_with (first
    | (go_at_call 11; refine (typ_zero p _ hp).mono ?_; rintro e w1 ⟨rfl, hm⟩; have h1 : Hid (Below w.heap.size w w1) := hm; clear hm)
    | (go_at_call 6; refine (clock_zero p _ (hp.on h1.out)).mono ?_; rintro e w2 ⟨rfl, hm⟩; have h2 : Hid (Below w.heap.size w w2) := h1.out.trans (hm.mono h1.out.size); clear hm)
    | (go_at_call 41; refine (was_nil n _).mono ?_; rintro e w3 ⟨rfl, hm⟩; have h3 : Hid (Below w.heap.size w w3) := h2.out.trans (hm.mono h2.out.size); clear hm)
    | (go_at_call 42; refine (freed_nil n _).mono ?_; rintro e w4 ⟨rfl, hm⟩; have h4 : Hid (Below w.heap.size w w4) := h3.out.trans (hm.mono h3.out.size); clear hm)
    | (go_at_call 40; refine (qfor_nil _ _).mono ?_; rintro e w5 ⟨rfl, hw⟩; subst w5)
    | (go_at_call 43; refine (retype_nil n g true _).mono ?_; rintro e w6 ⟨rfl, hw⟩; subst w6)
    | fail)
  go_ret
  exact ⟨rfl, h4.out⟩
set_option maxRecDepth 100000 in
theorem mheld_nil (k r t l d a : Int) (fn : Value) (w : World) : Calls Try.prog 52 #[.pointer none, .agg #[.int .i64 k, .int .i64 r, .int .i64 t, .int .i64 l, .int .i64 d, .int .i64 a], fn] w fun e w' => e = .returned (.int .i64 13) ∧ Below w.heap.size w w' := by
  go_enter Try.func52, Try.ntmps52
  go_wp2_with (first
    | (go_at_call 27; refine (mcores_nil _).mono ?_; rintro e w1 ⟨rfl, hw⟩; subst w1)
    | fail)
  go_ret
  exact ⟨rfl, bal (Below.refl _ _) _⟩
set_option maxRecDepth 100000 in
theorem mheld_zero (p : Nat) (k r t l d a : Int) (fn : Value) (w : World) (hp : ZeroM w p) : Calls Try.prog 52 #[.pointer (some ⟨p, 0, none⟩), .agg #[.int .i64 k, .int .i64 r, .int .i64 t, .int .i64 l, .int .i64 d, .int .i64 a], fn] w fun e w' => e = .returned (.int .i64 13) ∧ Below w.heap.size w w' := by
  go_enter Try.func52, Try.ntmps52
  go_wp2_with (first
    | (go_at_call 27; refine (mcores_zero p _ (zeroM_res hp _)).mono ?_; rintro e w1 ⟨rfl, hw⟩; subst w1)
    | fail)
  go_ret
  exact ⟨rfl, bal (Below.refl _ _) _⟩
set_option maxRecDepth 100000 in
theorem msetcur_nil (n f : Int) (w : World) : Calls Try.prog 21 #[.pointer none, .int .i64 n, .int .i64 f] w fun e w' => e = .returned (.int .i64 13) ∧ w' = w := by
  go_enter Try.func21, Try.ntmps21
  go_wp2_with (first
    | (go_at_call 27; refine (mcores_nil _).mono ?_; rintro e w1 ⟨rfl, hw⟩; subst w1)
    | fail)
  go_ret
  exact ⟨rfl, rfl⟩
set_option maxRecDepth 100000 in
theorem msetcur_zero (p : Nat) (n f : Int) (w : World) (hp : ZeroM w p) : Calls Try.prog 21 #[.pointer (some ⟨p, 0, none⟩), .int .i64 n, .int .i64 f] w fun e w' => e = .returned (.int .i64 13) ∧ w' = w := by
  go_enter Try.func21, Try.ntmps21
  go_wp2_with (first
    | (go_at_call 27; refine (mcores_zero p _ hp).mono ?_; rintro e w1 ⟨rfl, hw⟩; subst w1)
    | fail)
  go_ret
  exact ⟨rfl, rfl⟩
/-- A capability in a block. -/
structure Box6 (w : World) (B : Nat) (k r t l e a : Int) : Prop where
  lt : B < w.heap.size
  c0 : w.cell? ⟨B, 0, none⟩ = some (.int .i64 k)
  c1 : w.cell? ⟨B, 1, none⟩ = some (.int .i64 r)
  c2 : w.cell? ⟨B, 2, none⟩ = some (.int .i64 t)
  c3 : w.cell? ⟨B, 3, none⟩ = some (.int .i64 l)
  c4 : w.cell? ⟨B, 4, none⟩ = some (.int .i64 e)
  c5 : w.cell? ⟨B, 5, none⟩ = some (.int .i64 a)
theorem Box6.on {w w' : World} {B : Nat} {k r t l e a : Int} (h : Box6 w B k r t l e a) (hB : Below w.heap.size w w') : Box6 w' B k r t l e a :=
  ⟨Nat.lt_of_lt_of_le h.lt hB.size, (hB.cell (p := ⟨B, 0, none⟩) h.lt).trans h.c0, (hB.cell (p := ⟨B, 1, none⟩) h.lt).trans h.c1, (hB.cell (p := ⟨B, 2, none⟩) h.lt).trans h.c2, (hB.cell (p := ⟨B, 3, none⟩) h.lt).trans h.c3, (hB.cell (p := ⟨B, 4, none⟩) h.lt).trans h.c4, (hB.cell (p := ⟨B, 5, none⟩) h.lt).trans h.c5⟩
theorem box6_new (w : World) (k r t l e a : Int) (ty : TypeId) : Box6 (w.alloc (.cells #[.int .i64 k, .int .i64 r, .int .i64 t, .int .i64 l, .int .i64 e, .int .i64 a] ty)) w.heap.size k r t l e a := by
  have h := heap_alloc_new w (.cells #[.int .i64 k, .int .i64 r, .int .i64 t, .int .i64 l, .int .i64 e, .int .i64 a] ty)
  refine ⟨by simp, ?_, ?_, ?_, ?_, ?_, ?_⟩ <;> (rw [cell_of_row _ _ _ _ _ _ h]; rfl)
set_option maxRecDepth 100000 in
theorem link_nil (k r t l d a : Int) (w : World) : Calls Try.prog 19 #[.pointer none, .agg #[.int .i64 k, .int .i64 r, .int .i64 t, .int .i64 l, .int .i64 d, .int .i64 a]] w fun e w' => e = .returned (.int .i64 13) ∧ Below w.heap.size w w' := by
  have hmf : ∀ (fn : Fn) (first cap : Array Value) (w : World), (Instr.makeFunc fn first cap).run Try.prog w = .ok (.func fn first cap) w := fun _ _ _ _ => rfl
  have HL : Below w.heap.size w (w.alloc (.cells #[.int .i64 k, .int .i64 r, .int .i64 t, .int .i64 l, .int .i64 d, .int .i64 a] 59)) ∧ Box6 (w.alloc (.cells #[.int .i64 k, .int .i64 r, .int .i64 t, .int .i64 l, .int .i64 d, .int .i64 a] 59)) w.heap.size k r t l d a := ⟨bal (Below.refl _ _) _, box6_new w k r t l d a _⟩
  go_enter Try.func19, Try.ntmps19
  go_upto_region 1 with fail
  generalize w.alloc _ = w2 at HL ⊢
  generalize hD : w.heap.size = D at HL ⊢
  have HS : Hid (D ≤ w2.heap.size) := (by rw [← hD]; exact HL.1.size)
  have HD := rhid hD
  clear hD
  have H2 : Hid (Below D w w2) := HL.1
  have HR : Hid (Box6 w2 D k r t l d a) := HL.2
  clear HL
  have HR3 := HR.out
  have x0 := HR3.c0
  have x1 := HR3.c1
  have x2 := HR3.c2
  have x3 := HR3.c3
  have x4 := HR3.c4
  have x5 := HR3.c5
  clear HR3
  go_region_held3 (fun w' => w'.cell? ⟨D, 0, none⟩ = some (.int .i64 k) ∧ w'.cell? ⟨D, 1, none⟩ = some (.int .i64 r) ∧ w'.cell? ⟨D, 2, none⟩ = some (.int .i64 t) ∧ w'.cell? ⟨D, 3, none⟩ = some (.int .i64 l) ∧ w'.cell? ⟨D, 4, none⟩ = some (.int .i64 d) ∧ w'.cell? ⟨D, 5, none⟩ = some (.int .i64 a)) (first | exact ⟨by assumption, by assumption, by assumption, by assumption, by assumption, by assumption⟩ | go_keep)
  (first
    | (go_at_call 11; refine (typ_nil _).mono ?_; rintro e w3 ⟨rfl, hB⟩; have H3 : Hid (Below w2.heap.size w2 w3) := (by first | exact hB | exact (Below.refl _ _).drew.trans hB); clear hB x0 x1 x2 x3 x4 x5; have HR3 := HR.out.on H3.out; have x0 := HR3.c0; have x1 := HR3.c1; have x2 := HR3.c2; have x3 := HR3.c3; have x4 := HR3.c4; have x5 := HR3.c5; clear HR3)
    | (go_at_call 52; refine (mheld_nil k r t l d a _ _).mono ?_; rintro e w4 ⟨rfl, hB⟩; have H4 : Hid (Below w3.heap.size w3 w4) := (by first | exact hB | exact (Below.refl _ _).drew.trans hB); clear hB x0 x1 x2 x3 x4 x5; have HR3 := (HR.out.on H3.out).on H4.out; have x0 := HR3.c0; have x1 := HR3.c1; have x2 := HR3.c2; have x3 := HR3.c3; have x4 := HR3.c4; have x5 := HR3.c5; clear HR3)
    | fail)
  go_wp2
  go_ret
  exact ⟨rfl, by rw [HD.out]; exact (H2.out.trans (H3.out.mono HS.out)).trans (H4.out.mono (Nat.le_trans HS.out H3.out.size))⟩
set_option maxRecDepth 100000 in
theorem link_zero (p : Nat) (k r t l d a : Int) (w : World) (hp : ZeroM w p) : Calls Try.prog 19 #[.pointer (some ⟨p, 0, none⟩), .agg #[.int .i64 k, .int .i64 r, .int .i64 t, .int .i64 l, .int .i64 d, .int .i64 a]] w fun e w' => e = .returned (.int .i64 13) ∧ Below w.heap.size w w' := by
  have hmf : ∀ (fn : Fn) (first cap : Array Value) (w : World), (Instr.makeFunc fn first cap).run Try.prog w = .ok (.func fn first cap) w := fun _ _ _ _ => rfl
  have HL : Below w.heap.size w (w.alloc (.cells #[.int .i64 k, .int .i64 r, .int .i64 t, .int .i64 l, .int .i64 d, .int .i64 a] 59)) ∧ Box6 (w.alloc (.cells #[.int .i64 k, .int .i64 r, .int .i64 t, .int .i64 l, .int .i64 d, .int .i64 a] 59)) w.heap.size k r t l d a ∧ ZeroM (w.alloc (.cells #[.int .i64 k, .int .i64 r, .int .i64 t, .int .i64 l, .int .i64 d, .int .i64 a] 59)) p := ⟨bal (Below.refl _ _) _, box6_new w k r t l d a _, zeroM_res hp _⟩
  go_enter Try.func19, Try.ntmps19
  go_upto_region 1 with fail
  generalize w.alloc _ = w2 at HL ⊢
  generalize hD : w.heap.size = D at HL ⊢
  have HS : Hid (D ≤ w2.heap.size) := (by rw [← hD]; exact HL.1.size)
  have HD := rhid hD
  clear hD
  have H2 : Hid (Below D w w2) := HL.1
  have HR : Hid (Box6 w2 D k r t l d a) := HL.2.1
  have HZ : Hid (ZeroM w2 p) := HL.2.2
  clear HL
  have HR3 := HR.out
  have x0 := HR3.c0
  have x1 := HR3.c1
  have x2 := HR3.c2
  have x3 := HR3.c3
  have x4 := HR3.c4
  have x5 := HR3.c5
  clear HR3
  go_region_held3 (fun w' => w'.cell? ⟨D, 0, none⟩ = some (.int .i64 k) ∧ w'.cell? ⟨D, 1, none⟩ = some (.int .i64 r) ∧ w'.cell? ⟨D, 2, none⟩ = some (.int .i64 t) ∧ w'.cell? ⟨D, 3, none⟩ = some (.int .i64 l) ∧ w'.cell? ⟨D, 4, none⟩ = some (.int .i64 d) ∧ w'.cell? ⟨D, 5, none⟩ = some (.int .i64 a)) (first | exact ⟨by assumption, by assumption, by assumption, by assumption, by assumption, by assumption⟩ | go_keep)
  (first
    | (go_at_call 11; refine (typ_zero p _ (by first | exact HZ.out | exact HZ.out.on (Below.refl _ _).drew)).mono ?_; rintro e w3 ⟨rfl, hB⟩; have H3 : Hid (Below w2.heap.size w2 w3) := (by first | exact hB | exact (Below.refl _ _).drew.trans hB); clear hB x0 x1 x2 x3 x4 x5; have HR3 := HR.out.on H3.out; have x0 := HR3.c0; have x1 := HR3.c1; have x2 := HR3.c2; have x3 := HR3.c3; have x4 := HR3.c4; have x5 := HR3.c5; clear HR3)
    | (go_at_call 52; refine (mheld_zero p k r t l d a _ _ (by first | exact HZ.out.on H3.out | exact (HZ.out.on H3.out).on (Below.refl _ _).drew)).mono ?_; rintro e w4 ⟨rfl, hB⟩; have H4 : Hid (Below w3.heap.size w3 w4) := (by first | exact hB | exact (Below.refl _ _).drew.trans hB); clear hB x0 x1 x2 x3 x4 x5; have HR3 := (HR.out.on H3.out).on H4.out; have x0 := HR3.c0; have x1 := HR3.c1; have x2 := HR3.c2; have x3 := HR3.c3; have x4 := HR3.c4; have x5 := HR3.c5; clear HR3)
    | fail)
  go_wp2
  go_ret
  exact ⟨rfl, by rw [HD.out]; exact (H2.out.trans (H3.out.mono HS.out)).trans (H4.out.mono (Nat.le_trans HS.out H3.out.size))⟩
set_option maxRecDepth 100000 in
theorem unlink_nil (k r t l d a : Int) (w : World) : Calls Try.prog 20 #[.pointer none, .agg #[.int .i64 k, .int .i64 r, .int .i64 t, .int .i64 l, .int .i64 d, .int .i64 a]] w fun e w' => e = .returned (.int .i64 13) ∧ Below w.heap.size w w' := by
  have hmf : ∀ (fn : Fn) (first cap : Array Value) (w : World), (Instr.makeFunc fn first cap).run Try.prog w = .ok (.func fn first cap) w := fun _ _ _ _ => rfl
  go_enter Try.func20, Try.ntmps20
  go_wp2_with (first
    | (go_at_call 52; refine (mheld_nil k r t l d a _ _).mono ?_; rintro e w4 ⟨rfl, hB⟩)
    | fail)
  go_ret
  exact ⟨rfl, (bal (bal (Below.refl _ _) _) _).trans (hB.mono (by simp only [World.size_alloc]; omega))⟩
set_option maxRecDepth 100000 in
theorem unlink_zero (p : Nat) (k r t l d a : Int) (w : World) (hp : ZeroM w p) : Calls Try.prog 20 #[.pointer (some ⟨p, 0, none⟩), .agg #[.int .i64 k, .int .i64 r, .int .i64 t, .int .i64 l, .int .i64 d, .int .i64 a]] w fun e w' => e = .returned (.int .i64 13) ∧ Below w.heap.size w w' := by
  have hmf : ∀ (fn : Fn) (first cap : Array Value) (w : World), (Instr.makeFunc fn first cap).run Try.prog w = .ok (.func fn first cap) w := fun _ _ _ _ => rfl
  have HZ : Hid (ZeroM ((w.alloc (.cells #[.pointer (some ⟨p, 0, none⟩)] 24)).alloc (.cells #[.int .i64 k, .int .i64 r, .int .i64 t, .int .i64 l, .int .i64 d, .int .i64 a] 59)) p) := zeroM_res (zeroM_res hp _) _
  go_enter Try.func20, Try.ntmps20
  go_wp2_with (first
    | (go_at_call 52; refine (mheld_zero p k r t l d a _ _ HZ.out).mono ?_; rintro e w4 ⟨rfl, hB⟩)
    | fail)
  go_ret
  exact ⟨rfl, (bal (bal (Below.refl _ _) _) _).trans (hB.mono (by simp only [World.size_alloc]; omega))⟩
set_option maxRecDepth 100000 in
set_option maxHeartbeats 1000000 in
theorem zero_walk (a b : Int) (w : World) : Calls Try.prog 4 #[.int .i64 a, .int .i64 b] w fun e w' => e = .returned (.bool true) ∧ Below w.heap.size w w' := by
  have h0 := zeroM_new w
  have hB0 : Below w.heap.size w (w.alloc (.cells #[.pointer none, .pointer none, .pointer none, .pointer none, .pointer none, .slice none 0 0] 54)) := bal (Below.refl _ _) _
  go_enter Try.func4, Try.ntmps4
  go_upto_region 3 with fail
  generalize w.alloc _ = v at h0 hB0 ⊢
  generalize hD : w.heap.size = D at h0 hB0 ⊢
  have HS : Hid (D ≤ v.heap.size) := (by rw [← hD]; exact hB0.size)
  have HZ : Hid (ZeroM v D) := h0
  have HB : Hid (Below D w v) := hB0
  have HD := rhid hD
  clear hD h0 hB0
  go_wp2_with (first
    | (go_at_call 18; refine (floors_nil _).mono ?_; rintro e w1 ⟨rfl, hm⟩; have HZ := rhid (HZ.out.on hm); have HB := rhid (HB.out.trans (hm.mono HS.out)); have HS := rhid (Nat.le_trans HS.out hm.size); clear hm)
    | (go_at_call 8; refine (mretype_nil a b _).mono ?_; rintro e w1 ⟨rfl, hm⟩; have HZ := rhid (HZ.out.on hm); have HB := rhid (HB.out.trans (hm.mono HS.out)); have HS := rhid (Nat.le_trans HS.out hm.size); clear hm)
    | (go_at_call 20; refine (unlink_nil 0 0 0 0 0 0 _).mono ?_; rintro e w1 ⟨rfl, hm⟩; have HZ := rhid (HZ.out.on hm); have HB := rhid (HB.out.trans (hm.mono HS.out)); have HS := rhid (Nat.le_trans HS.out hm.size); clear hm)
    | (go_at_call 9; refine (mem_nil _).mono ?_; rintro e w1 ⟨rfl, hm⟩; have HZ := rhid (HZ.out.on hm); have HB := rhid (HB.out.trans (hm.mono HS.out)); have HS := rhid (Nat.le_trans HS.out hm.size); clear hm)
    | (go_at_call 22; refine (mtlb_nil a _).mono ?_; rintro e w1 ⟨rfl, hm⟩; have HZ := rhid (HZ.out.on hm); have HB := rhid (HB.out.trans (hm.mono HS.out)); have HS := rhid (Nat.le_trans HS.out hm.size); clear hm)
    | (go_at_call 11; refine (typ_nil _).mono ?_; rintro e w1 ⟨rfl, hm⟩; have HZ := rhid (HZ.out.on hm); have HB := rhid (HB.out.trans (hm.mono HS.out)); have HS := rhid (Nat.le_trans HS.out hm.size); clear hm)
    | (go_at_call 25; refine (lines_nil _).mono ?_; rintro e w1 ⟨rfl, hm⟩; have HZ := rhid (HZ.out.on hm); have HB := rhid (HB.out.trans (hm.mono HS.out)); have HS := rhid (Nat.le_trans HS.out hm.size); clear hm)
    | (go_at_call 26; refine (mcur_nil a _).mono ?_; rintro e w1 ⟨rfl, hm⟩; have HZ := rhid (HZ.out.on hm); have HB := rhid (HB.out.trans (hm.mono HS.out)); have HS := rhid (Nat.le_trans HS.out hm.size); clear hm)
    | (go_at_call 15; refine (mflush_zero D a _ HZ.out).mono ?_; rintro e w1 ⟨rfl, hm⟩; have HZ := rhid (HZ.out.on hm); have HB := rhid (HB.out.trans (hm.mono HS.out)); have HS := rhid (Nat.le_trans HS.out hm.size); clear hm)
    | (go_at_call 19; refine (link_zero D 0 0 0 0 0 0 _ HZ.out).mono ?_; rintro e w1 ⟨rfl, hm⟩; have HZ := rhid (HZ.out.on hm); have HB := rhid (HB.out.trans (hm.mono HS.out)); have HS := rhid (Nat.le_trans HS.out hm.size); clear hm)
    | (go_at_call 21; refine (msetcur_zero D a b _ HZ.out).mono ?_; rintro e w1 ⟨rfl, hw⟩; subst w1)
    | (go_at_call 6; refine (clock_zero D _ HZ.out).mono ?_; rintro e w1 ⟨rfl, hm⟩; have HZ := rhid (HZ.out.on hm); have HB := rhid (HB.out.trans (hm.mono HS.out)); have HS := rhid (Nat.le_trans HS.out hm.size); clear hm)
    | (go_at_call 23; refine (mregs_zero D a _ HZ.out).mono ?_; rintro e w1 ⟨rfl, hm⟩; have HZ := rhid (HZ.out.on hm); have HB := rhid (HB.out.trans (hm.mono HS.out)); have HS := rhid (Nat.le_trans HS.out hm.size); clear hm)
    | (go_at_call 24; refine (live_zero D _ HZ.out).mono ?_; rintro e w1 ⟨rfl, hm⟩; have HZ := rhid (HZ.out.on hm); have HB := rhid (HB.out.trans (hm.mono HS.out)); have HS := rhid (Nat.le_trans HS.out hm.size); clear hm)
    | (go_at_call 13; refine (mnow_zero D _ HZ.out).mono ?_; rintro e w1 ⟨rfl, hm⟩; have HZ := rhid (HZ.out.on hm); have HB := rhid (HB.out.trans (hm.mono HS.out)); have HS := rhid (Nat.le_trans HS.out hm.size); clear hm)
    | (go_at_call 27; refine (mcores_zero D _ HZ.out).mono ?_; rintro e w1 ⟨rfl, hw⟩; subst w1)
    | fail)
  go_ret
  exact ⟨rfl, by rw [HD.out]; exact HB.out⟩
end Go.Proofs.Ytlbgflgdjhjieaa.Pmach
