/- Of a nil machine, and of one that no call made; the walk of MachineZero (written by mk_nil.py). -/
import Derived.Test.YtiapfapmgjngpaaGreatDoorBunBase
import Derived.Test.YtiapfapmgjngpaaGreatDoorBunPclock
import Derived.Test.YtiapfapmgjngpaaGreatDoorBunPtyp
import Derived.Test.YtiapfapmgjngpaaGreatDoorBunPquiet
import Derived.Test.YtiapfapmgjngpaaGreatDoorRows
import Derived.BigRegion
import Derived.Deep.RegionWith
import Derived.Deep.DeepCutAuto
namespace Go.Proofs.YtiapfapmgjngpaaGreatDoor.Pmach
open Go.Proofs.YtiapfapmgjngpaaGreatDoor.Pbase Go.Proofs.YtiapfapmgjngpaaGreatDoor.Pclock Go.Proofs.YtiapfapmgjngpaaGreatDoor.Pquiet Go.Proofs.YtiapfapmgjngpaaGreatDoor.Ptyp
open Go.RowKit
set_option linter.unusedVariables false
theorem rhid {p : Prop} (h : p) : Hid p := h
/-! ### Parts that are nil -/
set_option maxRecDepth 100000 in
theorem cnow_nil (w : World) : Calls Tryz.prog 147 #[.pointer none] w fun e w' => e = .returned (.int .i64 0) ∧ w' = w := by
  go_enter Tryz.func147, Tryz.ntmps147
  go_wp2
  go_ret
  exact ⟨rfl, rfl⟩
set_option maxRecDepth 100000 in
theorem qfor_nil (t : Int) (w : World) : Calls Tryz.prog 26 #[.pointer none, .int .i64 0, .int .i64 t] w fun e w' => e = .returned (.bool true) ∧ w' = w := by
  go_enter Tryz.func26, Tryz.ntmps26
  go_wp2
  go_ret
  exact ⟨rfl, rfl⟩
/-- A machine that no call made. -/
structure ZeroM (w : World) (p : Nat) : Prop where
  lt : p < w.heap.size
  c0 : w.cell? ⟨p, 0, none⟩ = some (.pointer none)
  c1 : w.cell? ⟨p, 1, none⟩ = some (.pointer none)
  c2 : w.cell? ⟨p, 2, none⟩ = some (.pointer none)
  c3 : w.cell? ⟨p, 3, none⟩ = some (.pointer none)
  c4 : w.cell? ⟨p, 4, none⟩ = some (.pointer none)
  c5 : w.cell? ⟨p, 5, none⟩ = some (.slice none 0 0)
theorem ZeroM.on {w w' : World} {p : Nat} (h : ZeroM w p) (hB : Below w.heap.size w w') : ZeroM w' p :=
  ⟨Nat.lt_of_lt_of_le h.lt hB.size, (hB.cell (p := ⟨p, 0, none⟩) h.lt).trans h.c0, (hB.cell (p := ⟨p, 1, none⟩) h.lt).trans h.c1, (hB.cell (p := ⟨p, 2, none⟩) h.lt).trans h.c2, (hB.cell (p := ⟨p, 3, none⟩) h.lt).trans h.c3, (hB.cell (p := ⟨p, 4, none⟩) h.lt).trans h.c4, (hB.cell (p := ⟨p, 5, none⟩) h.lt).trans h.c5⟩
theorem zeroM_new (w : World) : ZeroM (w.alloc (.cells #[.pointer none, .pointer none, .pointer none, .pointer none, .pointer none, .slice none 0 0] 59)) w.heap.size := ⟨by simp, by simp, by simp, by simp, by simp, by simp, by simp⟩
theorem zeroM_res {w : World} {p : Nat} (h : ZeroM w p) (o : Obj) : ZeroM (w.alloc o) p := h.on (bal (Below.refl _ _) _)
def noParts : Value := .agg #[.pointer none, .pointer none, .pointer none, .pointer none, .pointer none]
def noCore : Value := .agg #[.pointer none, .pointer none, .int .i64 (-1)]
theorem parts_field (w : World) : (∀ w : World, (Instr.field 56 noParts 0).run Tryz.prog w = .ok (.pointer none) w) ∧ (∀ w : World, (Instr.field 56 noParts 1).run Tryz.prog w = .ok (.pointer none) w) ∧ (∀ w : World, (Instr.field 56 noParts 2).run Tryz.prog w = .ok (.pointer none) w) ∧ (∀ w : World, (Instr.field 56 noParts 3).run Tryz.prog w = .ok (.pointer none) w) ∧ (∀ w : World, (Instr.field 56 noParts 4).run Tryz.prog w = .ok (.pointer none) w) :=
  ⟨fun _ => by kernel_rfl, fun _ => by kernel_rfl, fun _ => by kernel_rfl, fun _ => by kernel_rfl, fun _ => by kernel_rfl⟩
theorem core_field (w : World) : (∀ w : World, (Instr.field 181 noCore 0).run Tryz.prog w = .ok (.pointer none) w) ∧ (∀ w : World, (Instr.field 181 noCore 1).run Tryz.prog w = .ok (.pointer none) w) ∧ (∀ w : World, (Instr.field 181 noCore 2).run Tryz.prog w = .ok (.int .i64 (-1)) w) :=
  ⟨fun _ => by kernel_rfl, fun _ => by kernel_rfl, fun _ => by kernel_rfl⟩
set_option maxRecDepth 100000 in
theorem shared_nil (w : World) : Calls Tryz.prog 88 #[.pointer none] w fun e w' => e = .returned (noParts) ∧ Below w.heap.size w w' := by
  unfold noParts
  go_enter Tryz.func88, Tryz.ntmps88
  go_wp2
  refine bodyPost_ret (v := .agg #[.pointer none, .pointer none, .pointer none, .pointer none, .pointer none]) (by simp [results, Tryz.results88, go_sem]) rfl ⟨rfl, ?_⟩
  repeat (first | exact Below.refl _ _ | (refine Below.setCell ?_ (by simp) _) | (refine Below.alloc ?_ (by simp) _))
set_option maxRecDepth 100000 in
theorem shared_zero (p : Nat) (w : World) (hp : ZeroM w p) : Calls Tryz.prog 88 #[.pointer (some ⟨p, 0, none⟩)] w fun e w' => e = .returned (noParts) ∧ Below w.heap.size w w' := by
  have HP : Hid (ZeroM (w.alloc (.cells #[.pointer none, .pointer none, .pointer none, .pointer none, .pointer none] 56)) p) := zeroM_res hp _
  have c0 := HP.out.c0
  have c1 := HP.out.c1
  have c2 := HP.out.c2
  have c3 := HP.out.c3
  have c4 := HP.out.c4
  unfold noParts
  go_enter Tryz.func88, Tryz.ntmps88
  go_wp2
  refine bodyPost_ret (v := .agg #[.pointer none, .pointer none, .pointer none, .pointer none, .pointer none]) (by simp [results, Tryz.results88, go_sem]) rfl ⟨rfl, ?_⟩
  repeat (first | exact Below.refl _ _ | (refine Below.setCell ?_ (by simp) _) | (refine Below.alloc ?_ (by simp) _))
set_option maxRecDepth 100000 in
theorem mem_nil (w : World) : Calls Tryz.prog 21 #[.pointer none] w fun e w' => e = .returned (.pointer none) ∧ Below w.heap.size w w' := by
  obtain ⟨q0, q1, q2, q3, q4⟩ := parts_field w
  go_enter Tryz.func21, Tryz.ntmps21
  go_wp2_with (first
    | (go_at_call 88; refine (shared_nil _).mono ?_; rintro e w1 ⟨rfl, hm⟩)
    | fail)
  go_ret
  exact ⟨rfl, hm⟩
set_option maxRecDepth 100000 in
theorem mem_zero (p : Nat) (w : World) (hp : ZeroM w p) : Calls Tryz.prog 21 #[.pointer (some ⟨p, 0, none⟩)] w fun e w' => e = .returned (.pointer none) ∧ Below w.heap.size w w' := by
  obtain ⟨q0, q1, q2, q3, q4⟩ := parts_field w
  go_enter Tryz.func21, Tryz.ntmps21
  go_wp2_with (first
    | (go_at_call 88; refine (shared_zero p _ hp).mono ?_; rintro e w1 ⟨rfl, hm⟩)
    | fail)
  go_ret
  exact ⟨rfl, hm⟩
set_option maxRecDepth 100000 in
theorem clock_nil (w : World) : Calls Tryz.prog 27 #[.pointer none] w fun e w' => e = .returned (.pointer none) ∧ Below w.heap.size w w' := by
  obtain ⟨q0, q1, q2, q3, q4⟩ := parts_field w
  go_enter Tryz.func27, Tryz.ntmps27
  go_wp2_with (first
    | (go_at_call 88; refine (shared_nil _).mono ?_; rintro e w1 ⟨rfl, hm⟩)
    | fail)
  go_ret
  exact ⟨rfl, hm⟩
set_option maxRecDepth 100000 in
theorem clock_zero (p : Nat) (w : World) (hp : ZeroM w p) : Calls Tryz.prog 27 #[.pointer (some ⟨p, 0, none⟩)] w fun e w' => e = .returned (.pointer none) ∧ Below w.heap.size w w' := by
  obtain ⟨q0, q1, q2, q3, q4⟩ := parts_field w
  go_enter Tryz.func27, Tryz.ntmps27
  go_wp2_with (first
    | (go_at_call 88; refine (shared_zero p _ hp).mono ?_; rintro e w1 ⟨rfl, hm⟩)
    | fail)
  go_ret
  exact ⟨rfl, hm⟩
set_option maxRecDepth 100000 in
theorem typ_nil (w : World) : Calls Tryz.prog 25 #[.pointer none] w fun e w' => e = .returned (.pointer none) ∧ Below w.heap.size w w' := by
  obtain ⟨q0, q1, q2, q3, q4⟩ := parts_field w
  go_enter Tryz.func25, Tryz.ntmps25
  go_wp2_with (first
    | (go_at_call 88; refine (shared_nil _).mono ?_; rintro e w1 ⟨rfl, hm⟩)
    | fail)
  go_ret
  exact ⟨rfl, hm⟩
set_option maxRecDepth 100000 in
theorem typ_zero (p : Nat) (w : World) (hp : ZeroM w p) : Calls Tryz.prog 25 #[.pointer (some ⟨p, 0, none⟩)] w fun e w' => e = .returned (.pointer none) ∧ Below w.heap.size w w' := by
  obtain ⟨q0, q1, q2, q3, q4⟩ := parts_field w
  go_enter Tryz.func25, Tryz.ntmps25
  go_wp2_with (first
    | (go_at_call 88; refine (shared_zero p _ hp).mono ?_; rintro e w1 ⟨rfl, hm⟩)
    | fail)
  go_ret
  exact ⟨rfl, hm⟩
set_option maxRecDepth 100000 in
theorem live_nil (w : World) : Calls Tryz.prog 48 #[.pointer none] w fun e w' => e = .returned (.pointer none) ∧ Below w.heap.size w w' := by
  obtain ⟨q0, q1, q2, q3, q4⟩ := parts_field w
  go_enter Tryz.func48, Tryz.ntmps48
  go_wp2_with (first
    | (go_at_call 88; refine (shared_nil _).mono ?_; rintro e w1 ⟨rfl, hm⟩)
    | fail)
  go_ret
  exact ⟨rfl, hm⟩
set_option maxRecDepth 100000 in
theorem live_zero (p : Nat) (w : World) (hp : ZeroM w p) : Calls Tryz.prog 48 #[.pointer (some ⟨p, 0, none⟩)] w fun e w' => e = .returned (.pointer none) ∧ Below w.heap.size w w' := by
  obtain ⟨q0, q1, q2, q3, q4⟩ := parts_field w
  go_enter Tryz.func48, Tryz.ntmps48
  go_wp2_with (first
    | (go_at_call 88; refine (shared_zero p _ hp).mono ?_; rintro e w1 ⟨rfl, hm⟩)
    | fail)
  go_ret
  exact ⟨rfl, hm⟩
set_option maxRecDepth 100000 in
theorem lines_nil (w : World) : Calls Tryz.prog 55 #[.pointer none] w fun e w' => e = .returned (.pointer none) ∧ Below w.heap.size w w' := by
  obtain ⟨q0, q1, q2, q3, q4⟩ := parts_field w
  go_enter Tryz.func55, Tryz.ntmps55
  go_wp2_with (first
    | (go_at_call 88; refine (shared_nil _).mono ?_; rintro e w1 ⟨rfl, hm⟩)
    | fail)
  go_ret
  exact ⟨rfl, hm⟩
set_option maxRecDepth 100000 in
theorem lines_zero (p : Nat) (w : World) (hp : ZeroM w p) : Calls Tryz.prog 55 #[.pointer (some ⟨p, 0, none⟩)] w fun e w' => e = .returned (.pointer none) ∧ Below w.heap.size w w' := by
  obtain ⟨q0, q1, q2, q3, q4⟩ := parts_field w
  go_enter Tryz.func55, Tryz.ntmps55
  go_wp2_with (first
    | (go_at_call 88; refine (shared_zero p _ hp).mono ?_; rintro e w1 ⟨rfl, hm⟩)
    | fail)
  go_ret
  exact ⟨rfl, hm⟩
set_option maxRecDepth 100000 in
theorem mcores_nil (w : World) : Calls Tryz.prog 47 #[.pointer none] w fun e w' => e = .returned (.int .i64 0) ∧ w' = w := by
  go_enter Tryz.func47, Tryz.ntmps47
  go_wp2
  go_ret
  exact ⟨rfl, rfl⟩
set_option maxRecDepth 100000 in
theorem mcores_zero (p : Nat) (w : World) (hp : ZeroM w p) : Calls Tryz.prog 47 #[.pointer (some ⟨p, 0, none⟩)] w fun e w' => e = .returned (.int .i64 0) ∧ w' = w := by
  have c5 := hp.c5
  go_enter Tryz.func47, Tryz.ntmps47
  go_wp2
  go_ret
  exact ⟨rfl, rfl⟩
set_option maxRecDepth 100000 in
theorem one_nil (n : Int) (w : World) : Calls Tryz.prog 235 #[.pointer none, .int .i64 n] w fun e w' => e = .returned (.pointer none) ∧ w' = w := by
  rcases Int.lt_or_le n 0 with h | h
  · go_enter Tryz.func235, Tryz.ntmps235
    go_wp2
    go_ret
    exact ⟨rfl, rfl⟩
  · have h' : ¬ n < 0 := by omega
    go_enter Tryz.func235, Tryz.ntmps235
    go_wp2_with (first
      | (go_at_call 47; refine (mcores_nil _).mono ?_; rintro e w1 ⟨rfl, hw⟩; subst w1)
      | fail)
    go_ret
    exact ⟨rfl, rfl⟩
set_option maxRecDepth 100000 in
theorem one_zero (p : Nat) (n : Int) (w : World) (hp : ZeroM w p) : Calls Tryz.prog 235 #[.pointer (some ⟨p, 0, none⟩), .int .i64 n] w fun e w' => e = .returned (.pointer none) ∧ w' = w := by
  rcases Int.lt_or_le n 0 with h | h
  · go_enter Tryz.func235, Tryz.ntmps235
    go_wp2
    go_ret
    exact ⟨rfl, rfl⟩
  · have h' : ¬ n < 0 := by omega
    go_enter Tryz.func235, Tryz.ntmps235
    go_wp2_with (first
      | (go_at_call 47; refine (mcores_zero p _ hp).mono ?_; rintro e w1 ⟨rfl, hw⟩; subst w1)
      | fail)
    go_ret
    exact ⟨rfl, rfl⟩
set_option maxRecDepth 100000 in
theorem mtold_nil (n : Int) (w : World) : Calls Tryz.prog 152 #[.pointer none, .int .i64 n] w fun e w' => e = .returned (noCore) ∧ Below w.heap.size w w' := by
  unfold noCore
  go_enter Tryz.func152, Tryz.ntmps152
  go_wp2_with (first
    | (go_at_call 235; refine (one_nil n _).mono ?_; rintro e w1 ⟨rfl, hw⟩; subst w1)
    | fail)
  refine bodyPost_ret (v := .agg #[.pointer none, .pointer none, .int .i64 (-1)]) (by simp [results, Tryz.results152, go_sem]) rfl ⟨rfl, ?_⟩
  repeat (first | exact Below.refl _ _ | (refine Below.setCell ?_ (by simp) _) | (refine Below.alloc ?_ (by simp) _))
set_option maxRecDepth 100000 in
theorem mtold_zero (p : Nat) (n : Int) (w : World) (hp : ZeroM w p) : Calls Tryz.prog 152 #[.pointer (some ⟨p, 0, none⟩), .int .i64 n] w fun e w' => e = .returned (noCore) ∧ Below w.heap.size w w' := by
  unfold noCore
  go_enter Tryz.func152, Tryz.ntmps152
  go_wp2_with (first
    | (go_at_call 235; refine (one_zero p n _ (zeroM_res hp _)).mono ?_; rintro e w1 ⟨rfl, hw⟩; subst w1)
    | fail)
  refine bodyPost_ret (v := .agg #[.pointer none, .pointer none, .int .i64 (-1)]) (by simp [results, Tryz.results152, go_sem]) rfl ⟨rfl, ?_⟩
  repeat (first | exact Below.refl _ _ | (refine Below.setCell ?_ (by simp) _) | (refine Below.alloc ?_ (by simp) _))
set_option maxRecDepth 100000 in
theorem mtlb_nil (n : Int) (w : World) : Calls Tryz.prog 60 #[.pointer none, .int .i64 n] w fun e w' => e = .returned (.pointer none) ∧ Below w.heap.size w w' := by
  obtain ⟨q0, q1, q2⟩ := core_field w
  go_enter Tryz.func60, Tryz.ntmps60
  go_wp2_with (first
    | (go_at_call 152; refine (mtold_nil n _).mono ?_; rintro e w1 ⟨rfl, hm⟩)
    | fail)
  go_ret
  exact ⟨rfl, hm⟩
set_option maxRecDepth 100000 in
theorem mtlb_zero (p : Nat) (n : Int) (w : World) (hp : ZeroM w p) : Calls Tryz.prog 60 #[.pointer (some ⟨p, 0, none⟩), .int .i64 n] w fun e w' => e = .returned (.pointer none) ∧ Below w.heap.size w w' := by
  obtain ⟨q0, q1, q2⟩ := core_field w
  go_enter Tryz.func60, Tryz.ntmps60
  go_wp2_with (first
    | (go_at_call 152; refine (mtold_zero p n _ hp).mono ?_; rintro e w1 ⟨rfl, hm⟩)
    | fail)
  go_ret
  exact ⟨rfl, hm⟩
set_option maxRecDepth 100000 in
theorem mregs_nil (n : Int) (w : World) : Calls Tryz.prog 58 #[.pointer none, .int .i64 n] w fun e w' => e = .returned (.pointer none) ∧ Below w.heap.size w w' := by
  obtain ⟨q0, q1, q2⟩ := core_field w
  go_enter Tryz.func58, Tryz.ntmps58
  go_wp2_with (first
    | (go_at_call 152; refine (mtold_nil n _).mono ?_; rintro e w1 ⟨rfl, hm⟩)
    | fail)
  go_ret
  exact ⟨rfl, hm⟩
set_option maxRecDepth 100000 in
theorem mregs_zero (p : Nat) (n : Int) (w : World) (hp : ZeroM w p) : Calls Tryz.prog 58 #[.pointer (some ⟨p, 0, none⟩), .int .i64 n] w fun e w' => e = .returned (.pointer none) ∧ Below w.heap.size w w' := by
  obtain ⟨q0, q1, q2⟩ := core_field w
  go_enter Tryz.func58, Tryz.ntmps58
  go_wp2_with (first
    | (go_at_call 152; refine (mtold_zero p n _ hp).mono ?_; rintro e w1 ⟨rfl, hm⟩)
    | fail)
  go_ret
  exact ⟨rfl, hm⟩
set_option maxRecDepth 100000 in
theorem mcur_nil (n : Int) (w : World) : Calls Tryz.prog 62 #[.pointer none, .int .i64 n] w fun e w' => e = .returned (.int .i64 (-1)) ∧ Below w.heap.size w w' := by
  obtain ⟨q0, q1, q2⟩ := core_field w
  go_enter Tryz.func62, Tryz.ntmps62
  go_wp2_with (first
    | (go_at_call 152; refine (mtold_nil n _).mono ?_; rintro e w1 ⟨rfl, hm⟩)
    | fail)
  go_ret
  exact ⟨rfl, hm⟩
set_option maxRecDepth 100000 in
theorem mcur_zero (p : Nat) (n : Int) (w : World) (hp : ZeroM w p) : Calls Tryz.prog 62 #[.pointer (some ⟨p, 0, none⟩), .int .i64 n] w fun e w' => e = .returned (.int .i64 (-1)) ∧ Below w.heap.size w w' := by
  obtain ⟨q0, q1, q2⟩ := core_field w
  go_enter Tryz.func62, Tryz.ntmps62
  go_wp2_with (first
    | (go_at_call 152; refine (mtold_zero p n _ hp).mono ?_; rintro e w1 ⟨rfl, hm⟩)
    | fail)
  go_ret
  exact ⟨rfl, hm⟩
set_option maxRecDepth 100000 in
theorem mnow_nil (w : World) : Calls Tryz.prog 46 #[.pointer none] w fun e w' => e = .returned (.int .i64 0) ∧ Below w.heap.size w w' := by
  go_enter Tryz.func46, Tryz.ntmps46
  go_wp2_with (first
    | (go_at_call 27; refine (clock_nil _).mono ?_; rintro e w1 ⟨rfl, hm⟩)
    | (go_at_call 147; refine (cnow_nil _).mono ?_; rintro e w2 ⟨rfl, hw⟩; subst w2)
    | fail)
  go_ret
  exact ⟨rfl, hm⟩
set_option maxRecDepth 100000 in
theorem mnow_zero (p : Nat) (w : World) (hp : ZeroM w p) : Calls Tryz.prog 46 #[.pointer (some ⟨p, 0, none⟩)] w fun e w' => e = .returned (.int .i64 0) ∧ Below w.heap.size w w' := by
  go_enter Tryz.func46, Tryz.ntmps46
  go_wp2_with (first
    | (go_at_call 27; refine (clock_zero p _ hp).mono ?_; rintro e w1 ⟨rfl, hm⟩)
    | (go_at_call 147; refine (cnow_nil _).mono ?_; rintro e w2 ⟨rfl, hw⟩; subst w2)
    | fail)
  go_ret
  exact ⟨rfl, hm⟩
set_option maxRecDepth 100000 in
theorem floors_nil (w : World) : Calls Tryz.prog 51 #[.pointer none] w fun e w' => e = .returned (.tuple #[.int .i64 (-1), .int .i64 (-1)]) ∧ Below w.heap.size w w' := by
  go_enter Tryz.func51, Tryz.ntmps51
  go_wp2_with (first
    | (go_at_call 27; refine (clock_nil _).mono ?_; rintro e w1 ⟨rfl, hm⟩)
    | (go_at_call 149; refine (floor_nil _).mono ?_; rintro e w2 ⟨rfl, hw⟩; subst w2)
    | fail)
  go_ret2
  exact ⟨rfl, hm⟩
set_option maxRecDepth 100000 in
theorem floors_zero (p : Nat) (w : World) (hp : ZeroM w p) : Calls Tryz.prog 51 #[.pointer (some ⟨p, 0, none⟩)] w fun e w' => e = .returned (.tuple #[.int .i64 (-1), .int .i64 (-1)]) ∧ Below w.heap.size w w' := by
  go_enter Tryz.func51, Tryz.ntmps51
  go_wp2_with (first
    | (go_at_call 27; refine (clock_zero p _ hp).mono ?_; rintro e w1 ⟨rfl, hm⟩)
    | (go_at_call 149; refine (floor_nil _).mono ?_; rintro e w2 ⟨rfl, hw⟩; subst w2)
    | fail)
  go_ret2
  exact ⟨rfl, hm⟩
set_option maxRecDepth 100000 in
theorem mflush_nil (n : Int) (w : World) : Calls Tryz.prog 143 #[.pointer none, .int .i64 n] w fun e w' => e = .returned (.tuple #[.int .i64 0, .int .i64 13]) ∧ Below w.heap.size w w' := by
  go_enter Tryz.func143, Tryz.ntmps143
  go_wp2_with (first
    | (go_at_call 27; refine (clock_nil _).mono ?_; rintro e w1 ⟨rfl, hm⟩)
    | (go_at_call 228; refine (flush_nil n _).mono ?_; rintro e w2 ⟨rfl, hw⟩; subst w2)
    | fail)
  go_ret2
  exact ⟨rfl, hm⟩
set_option maxRecDepth 100000 in
theorem mflush_zero (p : Nat) (n : Int) (w : World) (hp : ZeroM w p) : Calls Tryz.prog 143 #[.pointer (some ⟨p, 0, none⟩), .int .i64 n] w fun e w' => e = .returned (.tuple #[.int .i64 0, .int .i64 13]) ∧ Below w.heap.size w w' := by
  go_enter Tryz.func143, Tryz.ntmps143
  go_wp2_with (first
    | (go_at_call 27; refine (clock_zero p _ hp).mono ?_; rintro e w1 ⟨rfl, hm⟩)
    | (go_at_call 228; refine (flush_nil n _).mono ?_; rintro e w2 ⟨rfl, hw⟩; subst w2)
    | fail)
  go_ret2
  exact ⟨rfl, hm⟩
set_option maxRecDepth 100000 in
theorem mretype_nil (n g : Int) (w : World) : Calls Tryz.prog 7 #[.pointer none, .int .i64 n, .int .i64 g] w fun e w' => e = .returned (.int .i64 13) ∧ Below w.heap.size w w' := by
  go_enter Tryz.func7, Tryz.ntmps7
  go_wp2_with (first
    | (go_at_call 25; refine (typ_nil _).mono ?_; rintro e w1 ⟨rfl, hm⟩; have h1 : Hid (Below w.heap.size w w1) := hm; clear hm)
    | (go_at_call 27; refine (clock_nil _).mono ?_; rintro e w2 ⟨rfl, hm⟩; have h2 : Hid (Below w.heap.size w w2) := h1.out.trans (hm.mono h1.out.size); clear hm)
    | (go_at_call 28; refine (was_nil n _).mono ?_; rintro e w3 ⟨rfl, hm⟩; have h3 : Hid (Below w.heap.size w w3) := h2.out.trans (hm.mono h2.out.size); clear hm)
    | (go_at_call 29; refine (freed_nil n _).mono ?_; rintro e w4 ⟨rfl, hm⟩; have h4 : Hid (Below w.heap.size w w4) := h3.out.trans (hm.mono h3.out.size); clear hm)
    | (go_at_call 26; refine (qfor_nil _ _).mono ?_; rintro e w5 ⟨rfl, hw⟩; subst w5)
    | (go_at_call 30; refine (retype_nil n g true _).mono ?_; rintro e w6 ⟨rfl, hw⟩; subst w6)
    | fail)
  go_ret
  exact ⟨rfl, h4.out⟩
set_option maxRecDepth 100000 in
theorem mretype_zero (p : Nat) (n g : Int) (w : World) (hp : ZeroM w p) : Calls Tryz.prog 7 #[.pointer (some ⟨p, 0, none⟩), .int .i64 n, .int .i64 g] w fun e w' => e = .returned (.int .i64 13) ∧ Below w.heap.size w w' := by
  go_enter Tryz.func7, Tryz.ntmps7
  go_wp2_with (first
    | (go_at_call 25; refine (typ_zero p _ hp).mono ?_; rintro e w1 ⟨rfl, hm⟩; have h1 : Hid (Below w.heap.size w w1) := hm; clear hm)
    | (go_at_call 27; refine (clock_zero p _ (hp.on h1.out)).mono ?_; rintro e w2 ⟨rfl, hm⟩; have h2 : Hid (Below w.heap.size w w2) := h1.out.trans (hm.mono h1.out.size); clear hm)
    | (go_at_call 28; refine (was_nil n _).mono ?_; rintro e w3 ⟨rfl, hm⟩; have h3 : Hid (Below w.heap.size w w3) := h2.out.trans (hm.mono h2.out.size); clear hm)
    | (go_at_call 29; refine (freed_nil n _).mono ?_; rintro e w4 ⟨rfl, hm⟩; have h4 : Hid (Below w.heap.size w w4) := h3.out.trans (hm.mono h3.out.size); clear hm)
    | (go_at_call 26; refine (qfor_nil _ _).mono ?_; rintro e w5 ⟨rfl, hw⟩; subst w5)
    | (go_at_call 30; refine (retype_nil n g true _).mono ?_; rintro e w6 ⟨rfl, hw⟩; subst w6)
    | fail)
  go_ret
  exact ⟨rfl, h4.out⟩
/-- A capability in a block. -/
structure Box6 (w : World) (B : Nat) (k r t l e a : Int) : Prop where
  lt : B < w.heap.size
  c0 : w.cell? ⟨B, 0, none⟩ = some (.int .i64 k)
  c1 : w.cell? ⟨B, 1, none⟩ = some (.int .i64 r)
  c2 : w.cell? ⟨B, 2, none⟩ = some (.int .i64 t)
  c3 : w.cell? ⟨B, 3, none⟩ = some (.int .i64 l)
  c4 : w.cell? ⟨B, 4, none⟩ = some (.int .i64 e)
  c5 : w.cell? ⟨B, 5, none⟩ = some (.int .i64 a)
theorem Box6.on {w w' : World} {B : Nat} {k r t l e a : Int} (h : Box6 w B k r t l e a) (hB : Below w.heap.size w w') : Box6 w' B k r t l e a :=
  ⟨Nat.lt_of_lt_of_le h.lt hB.size, (hB.cell (p := ⟨B, 0, none⟩) h.lt).trans h.c0, (hB.cell (p := ⟨B, 1, none⟩) h.lt).trans h.c1, (hB.cell (p := ⟨B, 2, none⟩) h.lt).trans h.c2, (hB.cell (p := ⟨B, 3, none⟩) h.lt).trans h.c3, (hB.cell (p := ⟨B, 4, none⟩) h.lt).trans h.c4, (hB.cell (p := ⟨B, 5, none⟩) h.lt).trans h.c5⟩
theorem box6_new (w : World) (k r t l e a : Int) (ty : TypeId) : Box6 (w.alloc (.cells #[.int .i64 k, .int .i64 r, .int .i64 t, .int .i64 l, .int .i64 e, .int .i64 a] ty)) w.heap.size k r t l e a := by
  have h := heap_alloc_new w (.cells #[.int .i64 k, .int .i64 r, .int .i64 t, .int .i64 l, .int .i64 e, .int .i64 a] ty)
  refine ⟨by simp, ?_, ?_, ?_, ?_, ?_, ?_⟩ <;> (rw [cell_of_row _ _ _ _ _ _ h]; rfl)
end Go.Proofs.YtiapfapmgjngpaaGreatDoor.Pmach
