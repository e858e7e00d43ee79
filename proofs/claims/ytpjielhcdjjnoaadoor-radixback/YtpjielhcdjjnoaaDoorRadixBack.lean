/- For every address and every three numbers: where Slot (Page) takes the address, SlotOf (PageOf) of its parts answers it, and Number the address by 32; where PageOf takes the three numbers, Page of its answer tells them again, and where it refuses them it answers 0. Conditions: none but that package radix's two tables of widths start as the program's text lays them (tied). -/
import Derived.Test.YtpjielhcdjjnoaaDoorRows
import Derived.Test.YtpjielhcdjjnoaaDoorTie
import Derived.Test.YtpjielhcdjjnoaaDoorCards
import Derived.Test.YtpjielhcdjjnoaaDoorRadJ
import Derived.WalkKit
import Derived.ProofKit
import Derived.OpenShut
import Derived.ShutString
import Derived.ChangeOld
import Derived.Below
import Derived.LaidMore
import Derived.Stop.Joined
import Derived.SevenTiedAt
namespace Go.Proofs.YtpjielhcdjjnoaaDoor.radixBack
open Go.ChangeShapes Go.WideShapes Go.ChangeAt Go.RowKit Go.Proofs.YtpjielhcdjjnoaaDoor.Pbase Go.Proofs.YtpjielhcdjjnoaaDoor.Pfield Go.Proofs.YtpjielhcdjjnoaaDoor.Pradix
set_option linter.unusedVariables false

theorem own : ownKnob Tryd.prog.godebug = none := by kernel_rfl
theorem laidOut : laidOutB Tryd.prog = true := by kernel_rfl

structure Al (w0 w : World) : Prop where
  tab : Wd w
  below : Below w0.heap.size w0 w
theorem Al.on {w0 w w' : World} (h : Al w0 w) (hB : Below w.heap.size w w') : Al w0 w' := ⟨h.tab.on hB, h.below.trans (hB.mono h.below.size)⟩
theorem hidden {p : Prop} (h : p) : Hid p := h
/-- A slot's address and back. -/
theorem slot_back (a : Int) (ha : -9223372036854775808 ≤ a ∧ a ≤ 9223372036854775807) : ∃ h l e d f : Int, ((e = 0 ∧ a = d ∧ f = 0) ∨ e = 1) ∧
    (∀ w, Wd w → Calls Tryd.prog 6 #[.int .i64 a] w fun x w' => x = .returned (.tuple #[.int .i64 h, .int .i64 l, .int .i64 e]) ∧ Below w.heap.size w w') ∧
    (∀ w, Wd w → Calls Tryd.prog 8 #[.int .i64 h, .int .i64 l] w fun x w' => x = .returned (.tuple #[.int .i64 d, .int .i64 f]) ∧ Below w.heap.size w w') := by
  have hb : (0 ≤ slH a ∧ slH a ≤ 15) ∧ 0 ≤ slL a ∧ slL a ≤ 15 := by
    by_cases hc : 0 ≤ a ∧ a ≤ 255
    · rw [(sl_yes hc).2.1, (sl_yes hc).2.2]; omega
    · rw [(sl_no hc).2.1, (sl_no hc).2.2]; omega
  refine ⟨_, _, _, _, _, ?_, fun w hw => slot_any a w ha hw, fun w hw => slotOf_any _ _ w (by omega) (by omega) hw⟩
  by_cases hc : 0 ≤ a ∧ a ≤ 255
  · refine .inl ⟨(sl_yes hc).1, ?_, (so_yes hb).1⟩
    rw [(so_yes hb).2, (sl_yes hc).2.1, (sl_yes hc).2.2]
    omega
  · exact .inr (sl_no hc).1
/-- A word's address and back. -/
theorem page_back (a : Int) (ha : -9223372036854775808 ≤ a ∧ a ≤ 9223372036854775807) : ∃ h l t e d f n m : Int, ((e = 0 ∧ a = d ∧ f = 0 ∧ a / 32 = n ∧ m = 0 ∧ 0 ≤ a ∧ a ≤ 32767) ∨ e = 1) ∧
    (∀ w, Wd w → Calls Tryd.prog 10 #[.int .i64 a] w fun x w' => x = .returned (.tuple #[.int .i64 h, .int .i64 l, .int .i64 t, .int .i64 e]) ∧ Below w.heap.size w w') ∧
    (∀ w, Wd w → Calls Tryd.prog 12 #[.int .i64 h, .int .i64 l, .int .i64 t] w fun x w' => x = .returned (.tuple #[.int .i64 d, .int .i64 f]) ∧ Below w.heap.size w w') ∧
    (∀ w, Wd w → Calls Tryd.prog 14 #[.int .i64 a] w fun x w' => x = .returned (.tuple #[.int .i64 n, .int .i64 m]) ∧ Below w.heap.size w w') := by
  have hb : ((0 ≤ pgH a ∧ pgH a ≤ 31) ∧ 0 ≤ pgL a ∧ pgL a ≤ 31) ∧ 0 ≤ pgA a ∧ pgA a ≤ 31 := by
    by_cases hc : 0 ≤ a ∧ a ≤ 32767
    · rw [(pg_yes hc).2.1, (pg_yes hc).2.2.1, (pg_yes hc).2.2.2.1]; omega
    · rw [(pg_no hc).2.1, (pg_no hc).2.2.1, (pg_no hc).2.2.2.1]; omega
  refine ⟨_, _, _, _, _, _, _, _, ?_, fun w hw => page_any a w ha hw, fun w hw => pageOf_any _ _ _ w (by omega) (by omega) (by omega) hw, fun w hw => number_any a w ha hw⟩
  by_cases hc : 0 ≤ a ∧ a ≤ 32767
  · refine .inl ⟨(pg_yes hc).1, ?_, (po_yes hb).1, (pg_yes hc).2.2.2.2.symm, (pg_yes hc).1, hc⟩
    rw [(po_yes hb).2, (pg_yes hc).2.1, (pg_yes hc).2.2.1, (pg_yes hc).2.2.2.1]
    omega
  · exact .inr (pg_no hc).1
/-- Three parts and back. -/
theorem parts_back (x y z : Int) (hx : -9223372036854775808 ≤ x ∧ x ≤ 9223372036854775807) (hy : -9223372036854775808 ≤ y ∧ y ≤ 9223372036854775807) (hz : -9223372036854775808 ≤ z ∧ z ≤ 9223372036854775807) : ∃ q j s t u v : Int, ((j = 0 ∧ x = s ∧ y = t ∧ z = u ∧ v = 0) ∨ j = 1 ∧ q = 0) ∧
    (∀ w, Wd w → Calls Tryd.prog 12 #[.int .i64 x, .int .i64 y, .int .i64 z] w fun e w' => e = .returned (.tuple #[.int .i64 q, .int .i64 j]) ∧ Below w.heap.size w w') ∧
    (∀ w, Wd w → Calls Tryd.prog 10 #[.int .i64 q] w fun e w' => e = .returned (.tuple #[.int .i64 s, .int .i64 t, .int .i64 u, .int .i64 v]) ∧ Below w.heap.size w w') := by
  have hb : 0 ≤ poA x y z ∧ poA x y z ≤ 32767 := by
    by_cases hc : ((0 ≤ x ∧ x ≤ 31) ∧ 0 ≤ y ∧ y ≤ 31) ∧ 0 ≤ z ∧ z ≤ 31
    · rw [(po_yes hc).2]; omega
    · rw [(po_no hc).2]; omega
  refine ⟨_, _, _, _, _, _, ?_, fun w hw => pageOf_any x y z w hx hy hz hw, fun w hw => page_any _ w (by omega) hw⟩
  by_cases hc : ((0 ≤ x ∧ x ≤ 31) ∧ 0 ≤ y ∧ y ≤ 31) ∧ 0 ≤ z ∧ z ≤ 31
  · refine .inl ⟨(po_yes hc).1, ?_, ?_, ?_, (pg_yes hb).1⟩
    · rw [(pg_yes hb).2.1, (po_yes hc).2]; omega
    · rw [(pg_yes hb).2.2.1, (po_yes hc).2]; omega
    · rw [(pg_yes hb).2.2.2.1, (po_yes hc).2]; omega
  · exact .inr (po_no hc)
set_option maxRecDepth 100000 in
set_option maxHeartbeats 4000000 in

theorem walk (a0 : Int) (a1 : Int) (a2 : Int) (a3 : Int) (w : World) (w0 : (Lit.int .i64 a0).wf = true) (w1 : (Lit.int .i64 a1).wf = true) (w2 : (Lit.int .i64 a2).wf = true) (w3 : (Lit.int .i64 a3).wf = true) (hW : Wd w) :
    Calls Tryd.prog 4 #[.int .i64 a0, .int .i64 a1, .int .i64 a2, .int .i64 a3] w fun e w' => e = .returned (.bool true) ∧ Below w.heap.size w w' := by
  have HA : Hid (Al w w) := ⟨hW, Below.refl _ _⟩
  obtain ⟨h, l, e, d, f, F1, k1, k2⟩ := slot_back a0 (bounds_i64 w0)
  obtain ⟨ph, pl, pt, pe, pd, pf, pn, pm, F2, k3, k4, k5⟩ := page_back a0 (bounds_i64 w0)
  obtain ⟨q, j, s, t, u, v, F3, k6, k7⟩ := parts_back a1 a2 a3 (bounds_i64 w1) (bounds_i64 w2) (bounds_i64 w3)
  have K1 := hidden k1
  have K2 := hidden k2
  have K3 := hidden k3
  have K4 := hidden k4
  have K5 := hidden k5
  have K6 := hidden k6
  have K7 := hidden k7
  clear hW w0 w1 w2 w3 k1 k2 k3 k4 k5 k6 k7
  have t1 : True := trivial
  have t2 : True := trivial
  rcases F1 with ⟨rfl, rfl, rfl⟩ | rfl
  all_goals rcases F2 with ⟨rfl, rfl, rfl, rfl, rfl, p0, p1⟩ | rfl
  all_goals rcases F3 with ⟨rfl, rfl, rfl, rfl, rfl⟩ | ⟨rfl, rfl⟩
  all_goals
    go_enter Tryd.func4, Tryd.ntmps4
    go_wp2_with (first
      | (go_at_call 6; refine (K1.out _ HA.out.tab).mono ?_; rintro e9 v9 ⟨rfl, hb⟩; have HN : Hid (Al w v9) := HA.out.on hb; clear hb HA; have HA : Hid (Al w v9) := HN; clear HN)
      | (go_at_call 8; refine (K2.out _ HA.out.tab).mono ?_; rintro e9 v9 ⟨rfl, hb⟩; have HN : Hid (Al w v9) := HA.out.on hb; clear hb HA; have HA : Hid (Al w v9) := HN; clear HN)
      | (go_at_call 10; clear t1; refine (K3.out _ HA.out.tab).mono ?_; rintro e9 v9 ⟨rfl, hb⟩; have HN : Hid (Al w v9) := HA.out.on hb; clear hb HA; have HA : Hid (Al w v9) := HN; clear HN)
      | (go_at_call 12; clear t2; refine (K4.out _ HA.out.tab).mono ?_; rintro e9 v9 ⟨rfl, hb⟩; have HN : Hid (Al w v9) := HA.out.on hb; clear hb HA; have HA : Hid (Al w v9) := HN; clear HN)
      | (go_at_call 14; refine (K5.out _ HA.out.tab).mono ?_; rintro e9 v9 ⟨rfl, hb⟩; have HN : Hid (Al w v9) := HA.out.on hb; clear hb HA; have HA : Hid (Al w v9) := HN; clear HN)
      | (go_at_call 12; refine (K6.out _ HA.out.tab).mono ?_; rintro e9 v9 ⟨rfl, hb⟩; have HN : Hid (Al w v9) := HA.out.on hb; clear hb HA; have HA : Hid (Al w v9) := HN; clear HN)
      | (go_at_call 10; refine (K7.out _ HA.out.tab).mono ?_; rintro e9 v9 ⟨rfl, hb⟩; have HN : Hid (Al w v9) := HA.out.on hb; clear hb HA; have HA : Hid (Al w v9) := HN; clear HN)
      | (go_at_call 16; refine (awake_any _ HA.out.tab).mono ?_; rintro e9 v9 ⟨rfl, hb⟩; have HN : Hid (Al w v9) := HA.out.on hb; clear hb HA; have HA : Hid (Al w v9) := HN; clear HN)
      | fail)
    go_ret
    exact ⟨rfl, HA.out.below⟩

/-! ### The statement's frame -/
/-- The heap that the program's own initialisers leave meets the condition. -/
theorem door_met (os : Os) (args : Array Value) : laidMetH Tryd.prog Rows.radixBackRow.laid ((World.doorLaid Tryd.prog 400 os).forCall (fun _ _ => 0) ⟨#[], args, []⟩).memory :=
  laidMetH_of_parts3 (fuel := 8) (laidMet_of_run' 8 (by kernel_rfl) (by kernel_rfl)) (by kernel_rfl) (by kernel_rfl)
set_option maxRecDepth 100000 in
theorem lifted (os : Os) (started : os.Started) (H : Type) (enc : TypeId × Value → H) :
    ReturnsInHanded {} Tryd.checked os 4 .any (fun w args => (Rows.radixBackSpec.pre enc Tryd.prog Tryd.f4 [] false w args ∧ laidMetH Tryd.prog Rows.radixBackRow.laid w) ∧ sizedMet enc Tryd.prog Tryd.f4 (OpenSpec.ofChange Rows.radixBackSpec) false w args) (Rows.radixBackSpec.post enc Tryd.prog Tryd.f4 false true false false) := by
  refine returnsInHanded_of_change_and (C := Tryd.checked) (X := fun w _ => laidMetH Tryd.prog Rows.radixBackRow.laid w) (fun _ _ _ hh h => h.of_heap hh) own started (by kernel_rfl) Tryd.func4
    (ChangeSpec.witness_shaped (enc := enc) (C := Tryd.checked) (os := os) (X := fun w _ => laidMetH Tryd.prog Rows.radixBackRow.laid w) false (World.doorLaid Tryd.prog 400 os) #[.int .i64 0, .int .i64 0, .int .i64 0, .int .i64 0] 8 rfl (World.shaped_of_RefB (by kernel_rfl) (by kernel_rfl)) (by kernel_rfl) (by kernel_rfl) (by kernel_rfl) (door_met os _)) ?_
  intro W base args ds gs before hval0 hW _ _ hL _
  have hval : ∀ (j : Nat) t v, Tryd.f4.params[j]? = some t → args[j]? = some v → Value.okWide Tryd.prog W .any base t v := hval0
  have hW' := hW
  obtain ⟨p, q, hA0, hV, rfl, hfz, hnd⟩ := hW
  have hA : DataW.TrodAll enc Tryd.prog W 0 (fun _ => true) true Tryd.f4.params.toList args.toList ds p := hA0
  rw [Tryd.params4] at hA hval
  obtain ⟨v0, vs0, d0, ds0, p0, q0, hargs, rfl, rfl, h0, r0⟩ := trodAll_cons hA
  obtain ⟨v1, vs1, d1, ds1, p1, q1, rfl, rfl, rfl, h1, r1⟩ := trodAll_cons r0
  obtain ⟨v2, vs2, d2, ds2, p2, q2, rfl, rfl, rfl, h2, r2⟩ := trodAll_cons r1
  obtain ⟨v3, vs3, d3, ds3, p3, q3, rfl, rfl, rfl, h3, r3⟩ := trodAll_cons r2
  obtain ⟨rfl, rfl, rfl⟩ := trodAll_nil r3
  obtain rfl : args = #[v0, v1, v2, v3] := by cases args; simp_all
  obtain ⟨rfl, rfl⟩ := trodVars_none hV
  obtain ⟨a0, rfl, rfl, rfl, w0⟩ := open_int Tryd.underlying3 (hval 0 3 v0 rfl rfl) h0
  obtain ⟨a1, rfl, rfl, rfl, w1⟩ := open_int Tryd.underlying3 (hval 1 3 v1 rfl rfl) h1
  obtain ⟨a2, rfl, rfl, rfl, w2⟩ := open_int Tryd.underlying3 (hval 2 3 v2 rfl rfl) h2
  obtain ⟨a3, rfl, rfl, rfl, w3⟩ := open_int Tryd.underlying3 (hval 3 3 v3 rfl rfl) h3
  clear hA0 hval0
  refine (walk a0 a1 a2 a3 W w0 w1 w2 w3 (of_laid hL)).mono fun e W' ⟨he, bel⟩ => ?_
  subst he
  exact ⟨_, rfl, _, _, _, [], _, [], hW', trodAll_mk1 (shut_bool Tryd.underlying4 _), (trodAll_cons_mk (shut_int Tryd.underlying3 w0) (trodAll_cons_mk (shut_int Tryd.underlying3 w1) (trodAll_cons_mk (shut_int Tryd.underlying3 w2) (trodAll_cons_mk (shut_int Tryd.underlying3 w3) trodAll_mk0)))), rfl, bel.frame _, fun h => by cases h⟩

theorem over : Rows.radixBackRow.holds Tryd.pinned (OpenSpec.ofChange Rows.radixBackSpec) :=
  OpenClaim.holds_of_wide 4 Tryd.f4 rfl rfl rfl rfl rfl rfl rfl ⟨rfl, rfl, rfl, rfl, rfl⟩ rfl rfl rfl rfl rfl (by kernel_rfl) Tryd.func4 (by kernel_rfl)
    (of_decide_eq_true (by kernel_rfl)) (by unfold Func.isWrapper; first | (rw [if_pos (by decide +kernel)]; kernel_rfl) | (rw [if_neg (by decide +kernel)]; exact ⟨rfl, rfl⟩))
    (fun os started H enc _ => lifted os started H enc)

theorem proved : Rows.RadixBackCardSaid :=
  Claim7.holds_tied_plain_at .later [] [.data, .data] true (true, "3e575d6395765032c998a23e3a29bd131543fa888289edd599863d51810ae6ff") false
    over (fun _ h => by cases h) (by kernel_rfl) (fun _ h => by cases h) radixBack_row_tie rfl ⟨rfl, rfl⟩ (by kernel_rfl) rfl
    (fun g fn hf hfn => by
      obtain rfl : g = 4 := Option.some.inj ((show Tryd.prog.funcNamed Rows.radixBackRow.func = some 4 by kernel_rfl).symm.trans hf) |>.symm
      obtain rfl : fn = Tryd.f4 := (Option.some.inj (Tryd.func4.symm.trans hfn)).symm
      exact ⟨by kernel_rfl, fun j t ht => by
        rw [Tryd.params4] at ht
        have hm : t ∈ [3, 3, 3, 3] := by simpa using Array.mem_of_getElem? ht
        have hall : ([3, 3, 3, 3].all fun u => !Tryd.prog.wantsStandIn u) = true := by kernel_rfl
        exact (show Tryd.prog.wantsStandIn t = false by simpa using List.all_eq_true.1 hall t hm)⟩)
    (by kernel_rfl)
end Go.Proofs.YtpjielhcdjjnoaaDoor.radixBack
namespace Go.Proofs.YtpjielhcdjjnoaaDoor
theorem radixBack_holds : Rows.RadixBackCardSaid := radixBack.proved
#print axioms radixBack_holds
end Go.Proofs.YtpjielhcdjjnoaaDoor
