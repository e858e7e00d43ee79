/- For every two numbers: where Slot takes both, the less one has the lesser parts, the high part first; where Page takes both, the less one has the lesser parts, the high part first, then the low part, then the word. Conditions: none but that package radix's two tables of widths start as the program's text lays them (tied). -/
import Derived.Test.YtpjielhcdjjnoaaDoorRows
import Derived.Test.YtpjielhcdjjnoaaDoorTie
import Derived.Test.YtpjielhcdjjnoaaDoorCards
import Derived.Test.YtpjielhcdjjnoaaDoorRadJ
import Derived.Deep.DeepCutAuto
import Derived.WalkKit
import Derived.ProofKit
import Derived.OpenShut
import Derived.ShutString
import Derived.ChangeOld
import Derived.Below
import Derived.LaidMore
import Derived.Stop.Joined
import Derived.SevenTiedAt
namespace Go.Proofs.YtpjielhcdjjnoaaDoor.radixOrder
open Go.ChangeShapes Go.WideShapes Go.ChangeAt Go.RowKit Go.Proofs.YtpjielhcdjjnoaaDoor.Pbase Go.Proofs.YtpjielhcdjjnoaaDoor.Pfield Go.Proofs.YtpjielhcdjjnoaaDoor.Pradix
set_option linter.unusedVariables false

theorem own : ownKnob Tryd.prog.godebug = none := by kernel_rfl
theorem laidOut : laidOutB Tryd.prog = true := by kernel_rfl

structure Al (w0 w : World) : Prop where
  tab : Wd w
  below : Below w0.heap.size w0 w
theorem Al.on {w0 w w' : World} (h : Al w0 w) (hB : Below w.heap.size w w') : Al w0 w' := ⟨h.tab.on hB, h.below.trans (hB.mono h.below.size)⟩
theorem hidden {p : Prop} (h : p) : Hid p := h
/-- Two slots' addresses, and their parts. -/
theorem slots_order (a b : Int) (ha : -9223372036854775808 ≤ a ∧ a ≤ 9223372036854775807) (hb : -9223372036854775808 ≤ b ∧ b ≤ 9223372036854775807) : ∃ x y e p q f : Int, (e = 1 ∨ (e = 0 ∧ f = 1) ∨ (e = 0 ∧ f = 0 ∧ x < p ∧ a < b) ∨ (e = 0 ∧ f = 0 ∧ ¬ x < p ∧ (x == p) = true ∧ y < q ∧ a < b) ∨ (e = 0 ∧ f = 0 ∧ ¬ x < p ∧ (x == p) = true ∧ ¬ y < q ∧ ¬ a < b) ∨ (e = 0 ∧ f = 0 ∧ ¬ x < p ∧ (x == p) = false ∧ ¬ a < b)) ∧
    (∀ w, Wd w → Calls Tryd.prog 6 #[.int .i64 a] w fun v w' => v = .returned (.tuple #[.int .i64 x, .int .i64 y, .int .i64 e]) ∧ Below w.heap.size w w') ∧
    (∀ w, Wd w → Calls Tryd.prog 6 #[.int .i64 b] w fun v w' => v = .returned (.tuple #[.int .i64 p, .int .i64 q, .int .i64 f]) ∧ Below w.heap.size w w') := by
  refine ⟨_, _, _, _, _, _, ?_, fun w hw => slot_any a w ha hw, fun w hw => slot_any b w hb hw⟩
  by_cases hc : 0 ≤ a ∧ a ≤ 255
  · by_cases hd : 0 ≤ b ∧ b ≤ 255
    · rw [(sl_yes hc).1, (sl_yes hc).2.1, (sl_yes hc).2.2, (sl_yes hd).1, (sl_yes hd).2.1, (sl_yes hd).2.2, beq_iff_eq, beq_eq_false_iff_ne]
      omega
    · exact .inr (.inl ⟨(sl_yes hc).1, (sl_no hd).1⟩)
  · exact .inl (sl_no hc).1
/-- Two words' addresses, and their parts. -/
theorem pages_order (a b : Int) (ha : -9223372036854775808 ≤ a ∧ a ≤ 9223372036854775807) (hb : -9223372036854775808 ≤ b ∧ b ≤ 9223372036854775807) : ∃ h i j g k l m n : Int, (g = 1 ∨ (g = 0 ∧ n = 1) ∨ (g = 0 ∧ n = 0 ∧ h < k ∧ a < b) ∨ (g = 0 ∧ n = 0 ∧ ¬ h < k ∧ (h == k) = true ∧ i < l ∧ a < b) ∨ (g = 0 ∧ n = 0 ∧ ¬ h < k ∧ (h == k) = true ∧ ¬ i < l ∧ (i == l) = true ∧ j < m ∧ a < b) ∨ (g = 0 ∧ n = 0 ∧ ¬ h < k ∧ (h == k) = true ∧ ¬ i < l ∧ (i == l) = true ∧ ¬ j < m ∧ ¬ a < b) ∨ (g = 0 ∧ n = 0 ∧ ¬ h < k ∧ (h == k) = true ∧ ¬ i < l ∧ (i == l) = false ∧ ¬ a < b) ∨ (g = 0 ∧ n = 0 ∧ ¬ h < k ∧ (h == k) = false ∧ ¬ a < b)) ∧
    (∀ w, Wd w → Calls Tryd.prog 10 #[.int .i64 a] w fun v w' => v = .returned (.tuple #[.int .i64 h, .int .i64 i, .int .i64 j, .int .i64 g]) ∧ Below w.heap.size w w') ∧
    (∀ w, Wd w → Calls Tryd.prog 10 #[.int .i64 b] w fun v w' => v = .returned (.tuple #[.int .i64 k, .int .i64 l, .int .i64 m, .int .i64 n]) ∧ Below w.heap.size w w') := by
  refine ⟨_, _, _, _, _, _, _, _, ?_, fun w hw => page_any a w ha hw, fun w hw => page_any b w hb hw⟩
  by_cases hc : 0 ≤ a ∧ a ≤ 32767
  · by_cases hd : 0 ≤ b ∧ b ≤ 32767
    · rw [(pg_yes hc).1, (pg_yes hc).2.1, (pg_yes hc).2.2.1, (pg_yes hc).2.2.2.1, (pg_yes hd).1, (pg_yes hd).2.1, (pg_yes hd).2.2.1, (pg_yes hd).2.2.2.1]
      have yes : ∀ x y : Int, x = y → (x == y) = true := fun x y h => by simp [h]
      have no : ∀ x y : Int, ¬ x = y → (x == y) = false := fun x y h => by simp [h]
      by_cases c1 : a / 1024 < b / 1024
      · exact .inr (.inr (.inl ⟨rfl, rfl, c1, by omega⟩))
      by_cases c2 : a / 1024 = b / 1024
      · by_cases c3 : a / 32 % 32 < b / 32 % 32
        · exact .inr (.inr (.inr (.inl ⟨rfl, rfl, c1, yes _ _ c2, c3, by omega⟩)))
        by_cases c4 : a / 32 % 32 = b / 32 % 32
        · by_cases c5 : a % 32 < b % 32
          · exact .inr (.inr (.inr (.inr (.inl ⟨rfl, rfl, c1, yes _ _ c2, c3, yes _ _ c4, c5, by omega⟩))))
          · exact .inr (.inr (.inr (.inr (.inr (.inl ⟨rfl, rfl, c1, yes _ _ c2, c3, yes _ _ c4, c5, by omega⟩)))))
        · exact .inr (.inr (.inr (.inr (.inr (.inr (.inl ⟨rfl, rfl, c1, yes _ _ c2, c3, no _ _ c4, by omega⟩))))))
      · exact .inr (.inr (.inr (.inr (.inr (.inr (.inr ⟨rfl, rfl, c1, no _ _ c2, by omega⟩))))))
    · exact .inr (.inl ⟨(pg_yes hc).1, (pg_no hd).1⟩)
  · exact .inl (pg_no hc).1
set_option maxRecDepth 100000 in
set_option maxHeartbeats 4000000 in

theorem walk (a0 : Int) (a1 : Int) (w : World) (w0 : (Lit.int .i64 a0).wf = true) (w1 : (Lit.int .i64 a1).wf = true) (hW : Wd w) :
    Calls Tryd.prog 5 #[.int .i64 a0, .int .i64 a1] w fun e w' => e = .returned (.bool true) ∧ Below w.heap.size w w' := by
  have HA : Hid (Al w w) := ⟨hW, Below.refl _ _⟩
  obtain ⟨x, y, e, p, q, f, F1, k1, k2⟩ := slots_order a0 a1 (bounds_i64 w0) (bounds_i64 w1)
  obtain ⟨h, i, j, g, k, l, m, n, F2, k3, k4⟩ := pages_order a0 a1 (bounds_i64 w0) (bounds_i64 w1)
  have K1 := hidden k1
  have K2 := hidden k2
  have K3 := hidden k3
  have K4 := hidden k4
  have G1 := hidden F1
  have G2 := hidden F2
  clear hW w0 w1 k1 k2 k3 k4 F1 F2
  have t1 : True := trivial
  have t2 : True := trivial
  go_enter Tryd.func5, Tryd.ntmps5
  go_upto_region 3 with (first
    | (go_at_call 6; clear t1; refine (K1.out _ HA.out.tab).mono ?_; rintro e9 v9 ⟨rfl, hb⟩; have HN : Hid (Al w v9) := HA.out.on hb; clear hb HA; have HA : Hid (Al w v9) := HN; clear HN)
    | (go_at_call 6; refine (K2.out _ HA.out.tab).mono ?_; rintro e9 v9 ⟨rfl, hb⟩; have HN : Hid (Al w v9) := HA.out.on hb; clear hb HA; have HA : Hid (Al w v9) := HN; clear HN)
    | fail)
  clear K1 K2
  go_cut [55] from 31 to 55 (fun c wc => c = .bool false ∧ Al w wc)
  case first =>
    rcases G1.out with h1 | ⟨h1, h2⟩ | ⟨h1, h2, h3, h4⟩ | ⟨h1, h2, h3, h4, h5, h6⟩ | ⟨h1, h2, h3, h4, h5, h6⟩ | ⟨h1, h2, h3, h4, h5⟩
    · subst h1
      clear G1 G2
      go_wp2_with fail
      go_meet
      exact ⟨rfl, HA.out⟩
    · subst h1 h2
      clear G1 G2
      go_wp2_with fail
      go_meet
      exact ⟨rfl, HA.out⟩
    all_goals
      subst h1 h2
      clear G1 G2
      go_wp2_with fail
      go_meet
      refine ⟨?_, HA.out⟩
      first
      | rfl
      | (refine congrArg Value.bool ?_; rw [Bool.not_eq_false', beq_iff_eq, Bool.eq_iff_iff]; simp only [Bool.or_eq_true, decide_eq_true_eq]; omega)
  case rest =>
  obtain ⟨rfl, hA⟩ := hcut
  clear HA G1
  have HA : Hid (Al w wc) := hA
  clear hA
  rcases G2.out with h1 | ⟨h1, h2⟩ | ⟨h1, h2, h3, h4⟩ | ⟨h1, h2, h3, h4, h5, h6⟩ | ⟨h1, h2, h3, h4, h5, h6, h7, h8⟩ | ⟨h1, h2, h3, h4, h5, h6, h7, h8⟩ | ⟨h1, h2, h3, h4, h5, h6, h7⟩ | ⟨h1, h2, h3, h4, h5⟩
  · subst h1
    clear G2
    go_wp2_with (first
      | (go_at_call 10; clear t2; refine (K3.out _ HA.out.tab).mono ?_; rintro e9 v9 ⟨rfl, hb⟩; have HN : Hid (Al w v9) := HA.out.on hb; clear hb HA; have HA : Hid (Al w v9) := HN; clear HN)
      | (go_at_call 10; refine (K4.out _ HA.out.tab).mono ?_; rintro e9 v9 ⟨rfl, hb⟩; have HN : Hid (Al w v9) := HA.out.on hb; clear hb HA; have HA : Hid (Al w v9) := HN; clear HN)
      | (go_at_call 16; refine (awake_any _ HA.out.tab).mono ?_; rintro e9 v9 ⟨rfl, hb⟩; have HN : Hid (Al w v9) := HA.out.on hb; clear hb HA; have HA : Hid (Al w v9) := HN; clear HN)
      | fail)
    go_ret
    exact ⟨rfl, HA.out.below⟩
  all_goals
    subst h1 h2
    clear G2
    go_wp2_with (first
      | (go_at_call 10; clear t2; refine (K3.out _ HA.out.tab).mono ?_; rintro e9 v9 ⟨rfl, hb⟩; have HN : Hid (Al w v9) := HA.out.on hb; clear hb HA; have HA : Hid (Al w v9) := HN; clear HN)
      | (go_at_call 10; refine (K4.out _ HA.out.tab).mono ?_; rintro e9 v9 ⟨rfl, hb⟩; have HN : Hid (Al w v9) := HA.out.on hb; clear hb HA; have HA : Hid (Al w v9) := HN; clear HN)
      | (go_at_call 16; refine (awake_any _ HA.out.tab).mono ?_; rintro e9 v9 ⟨rfl, hb⟩; have HN : Hid (Al w v9) := HA.out.on hb; clear hb HA; have HA : Hid (Al w v9) := HN; clear HN)
      | fail)
    all_goals first
      | (exfalso; rename_i hx; apply hx; rw [Bool.eq_iff_iff]; simp only [Bool.or_eq_true, decide_eq_true_eq]; omega)
      | (go_ret; exact ⟨rfl, HA.out.below⟩)

/-! ### The statement's frame -/
/-- The heap that the program's own initialisers leave meets the condition. -/
theorem door_met (os : Os) (args : Array Value) : laidMetH Tryd.prog Rows.radixOrderRow.laid ((World.doorLaid Tryd.prog 400 os).forCall (fun _ _ => 0) ⟨#[], args, []⟩).memory :=
  laidMetH_of_parts3 (fuel := 8) (laidMet_of_run' 8 (by kernel_rfl) (by kernel_rfl)) (by kernel_rfl) (by kernel_rfl)
set_option maxRecDepth 100000 in
theorem lifted (os : Os) (started : os.Started) (H : Type) (enc : TypeId × Value → H) :
    ReturnsInHanded {} Tryd.checked os 5 .any (fun w args => (Rows.radixOrderSpec.pre enc Tryd.prog Tryd.f5 [] false w args ∧ laidMetH Tryd.prog Rows.radixOrderRow.laid w) ∧ sizedMet enc Tryd.prog Tryd.f5 (OpenSpec.ofChange Rows.radixOrderSpec) false w args) (Rows.radixOrderSpec.post enc Tryd.prog Tryd.f5 false true false false) := by
  refine returnsInHanded_of_change_and (C := Tryd.checked) (X := fun w _ => laidMetH Tryd.prog Rows.radixOrderRow.laid w) (fun _ _ _ hh h => h.of_heap hh) own started (by kernel_rfl) Tryd.func5
    (ChangeSpec.witness_shaped (enc := enc) (C := Tryd.checked) (os := os) (X := fun w _ => laidMetH Tryd.prog Rows.radixOrderRow.laid w) false (World.doorLaid Tryd.prog 400 os) #[.int .i64 0, .int .i64 0] 8 rfl (World.shaped_of_RefB (by kernel_rfl) (by kernel_rfl)) (by kernel_rfl) (by kernel_rfl) (by kernel_rfl) (door_met os _)) ?_
  intro W base args ds gs before hval0 hW _ _ hL _
  have hval : ∀ (j : Nat) t v, Tryd.f5.params[j]? = some t → args[j]? = some v → Value.okWide Tryd.prog W .any base t v := hval0
  have hW' := hW
  obtain ⟨p, q, hA0, hV, rfl, hfz, hnd⟩ := hW
  have hA : DataW.TrodAll enc Tryd.prog W 0 (fun _ => true) true Tryd.f5.params.toList args.toList ds p := hA0
  rw [Tryd.params5] at hA hval
  obtain ⟨v0, vs0, d0, ds0, p0, q0, hargs, rfl, rfl, h0, r0⟩ := trodAll_cons hA
  obtain ⟨v1, vs1, d1, ds1, p1, q1, rfl, rfl, rfl, h1, r1⟩ := trodAll_cons r0
  obtain ⟨rfl, rfl, rfl⟩ := trodAll_nil r1
  obtain rfl : args = #[v0, v1] := by cases args; simp_all
  obtain ⟨rfl, rfl⟩ := trodVars_none hV
  obtain ⟨a0, rfl, rfl, rfl, w0⟩ := open_int Tryd.underlying3 (hval 0 3 v0 rfl rfl) h0
  obtain ⟨a1, rfl, rfl, rfl, w1⟩ := open_int Tryd.underlying3 (hval 1 3 v1 rfl rfl) h1
  clear hA0 hval0
  refine (walk a0 a1 W w0 w1 (of_laid hL)).mono fun e W' ⟨he, bel⟩ => ?_
  subst he
  exact ⟨_, rfl, _, _, _, [], _, [], hW', trodAll_mk1 (shut_bool Tryd.underlying4 _), (trodAll_cons_mk (shut_int Tryd.underlying3 w0) (trodAll_cons_mk (shut_int Tryd.underlying3 w1) trodAll_mk0)), rfl, bel.frame _, fun h => by cases h⟩

theorem over : Rows.radixOrderRow.holds Tryd.pinned (OpenSpec.ofChange Rows.radixOrderSpec) :=
  OpenClaim.holds_of_wide 5 Tryd.f5 rfl rfl rfl rfl rfl rfl rfl ⟨rfl, rfl, rfl, rfl, rfl⟩ rfl rfl rfl rfl rfl (by kernel_rfl) Tryd.func5 (by kernel_rfl)
    (of_decide_eq_true (by kernel_rfl)) (by unfold Func.isWrapper; first | (rw [if_pos (by decide +kernel)]; kernel_rfl) | (rw [if_neg (by decide +kernel)]; exact ⟨rfl, rfl⟩))
    (fun os started H enc _ => lifted os started H enc)

theorem proved : Rows.RadixOrderCardSaid :=
  Claim7.holds_tied_plain_at .later [] [.data, .data] true (true, "3e575d6395765032c998a23e3a29bd131543fa888289edd599863d51810ae6ff") false
    over (fun _ h => by cases h) (by kernel_rfl) (fun _ h => by cases h) radixOrder_row_tie rfl ⟨rfl, rfl⟩ (by kernel_rfl) rfl
    (fun g fn hf hfn => by
      obtain rfl : g = 5 := Option.some.inj ((show Tryd.prog.funcNamed Rows.radixOrderRow.func = some 5 by kernel_rfl).symm.trans hf) |>.symm
      obtain rfl : fn = Tryd.f5 := (Option.some.inj (Tryd.func5.symm.trans hfn)).symm
      exact ⟨by kernel_rfl, fun j t ht => by
        rw [Tryd.params5] at ht
        have hm : t ∈ [3, 3] := by simpa using Array.mem_of_getElem? ht
        have hall : ([3, 3].all fun u => !Tryd.prog.wantsStandIn u) = true := by kernel_rfl
        exact (show Tryd.prog.wantsStandIn t = false by simpa using List.all_eq_true.1 hall t hm)⟩)
    (by kernel_rfl)
end Go.Proofs.YtpjielhcdjjnoaaDoor.radixOrder
namespace Go.Proofs.YtpjielhcdjjnoaaDoor
theorem radixOrder_holds : Rows.RadixOrderCardSaid := radixOrder.proved
#print axioms radixOrder_holds
end Go.Proofs.YtpjielhcdjjnoaaDoor
