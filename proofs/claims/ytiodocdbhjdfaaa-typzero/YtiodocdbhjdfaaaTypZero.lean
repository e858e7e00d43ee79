/- TypZero returns true for every number of a frame. No condition. -/
import Derived.Test.YtiodocdbhjdfaaaRows
import Derived.Test.YtiodocdbhjdfaaaTypC
import Derived.WalkKit
import Derived.ProofKit
import Derived.OpenShut
import Derived.ShutString
import Derived.ChangeOld
import Derived.Below
namespace Go.Proofs.Ytiodocdbhjdfaaa.typZero
open Go.ChangeShapes Go.WideShapes Go.ChangeAt Go.RowKit
set_option linter.unusedVariables false

theorem own : ownKnob Try.prog.godebug = none := by kernel_rfl
theorem laidOut : laidOutB Try.prog = true := by kernel_rfl

theorem keep {w w' : World} {p : Addr} {v : Value} (h : Below w.heap.size w w') (hp : w.cell? p = some v) : w'.cell? p = some v := (h.cell (World.block_lt_of_cell? w _ hp)).trans hp

theorem walk (a0 : Int) (w : World) (w0 : (Lit.int .i64 a0).wf = true) :
    Calls Try.prog 6 #[.int .i64 a0] w fun e w' => e = .returned (.bool true) ∧ Below w.heap.size w w' := by
  obtain ⟨W, hW⟩ : ∃ W, W = w.alloc (.cells #[.slice none 0 0] 48) := ⟨_, rfl⟩
  have c0 : W.cell? ⟨w.heap.size, 0, none⟩ = some (.slice none 0 0) := by rw [hW]; simp
  have HC0 : Hid (W.cell? ⟨w.heap.size, 0, none⟩ = some (.slice none 0 0)) := c0
  have HG : Hid (Below w.heap.size w W) := by rw [hW]; exact (Below.refl _ _).alloc (Nat.le_refl _) _
  have key : w.alloc (.cells #[.slice none 0 0] 48) = W := hW.symm
  clear hW
  go_enter Try.func6, Try.ntmps6
  go_wp2_with (first
    | (go_at_call 10; clear key; refine (retype_nil _ _ _ _).mono ?_; rintro e w' ⟨rfl, hw'⟩; subst w')
    | (go_at_call 12; refine (untype_zero _ _ _ _ _ c0).mono ?_; rintro e w' ⟨rfl, hw'⟩; subst w')
    | (go_at_call 14; refine (ref_nil _ _).mono ?_; rintro e w' ⟨rfl, hw'⟩; subst w')
    | (go_at_call 16; refine (unref_zero _ _ _ _ c0).mono ?_; rintro e w' ⟨rfl, hw'⟩; subst w'; clear c0)
    | (go_at_call 19; refine (type_nil _ _).mono ?_; rintro e w1 ⟨rfl, hm1⟩; have HC1 : Hid (w1.cell? ⟨w.heap.size, 0, none⟩ = some (.slice none 0 0)) := keep hm1 HC0.out; have HM1 : Hid (Below w.heap.size w w1) := HG.out.trans (hm1.mono HG.out.size); clear hm1)
    | (go_at_call 20; refine (count_zero _ _ _ HC1.out (World.block_lt_of_cell? _ _ HC1.out)).mono ?_; rintro e w2 ⟨rfl, hm2⟩; have HC2 : Hid (w2.cell? ⟨w.heap.size, 0, none⟩ = some (.slice none 0 0)) := keep hm2 HC1.out; have HM2 : Hid (Below w.heap.size w w2) := HM1.out.trans (hm2.mono HM1.out.size); clear hm2)
    | (go_at_call 21; refine (freed_nil _ _).mono ?_; rintro e w3 ⟨rfl, hm3⟩; have HC3 : Hid (w3.cell? ⟨w.heap.size, 0, none⟩ = some (.slice none 0 0)) := keep hm3 HC2.out; have HM3 : Hid (Below w.heap.size w w3) := HM2.out.trans (hm3.mono HM2.out.size); clear hm3)
    | (go_at_call 22; refine (was_zero _ _ _ HC3.out (World.block_lt_of_cell? _ _ HC3.out)).mono ?_; rintro e w4 ⟨rfl, hm4⟩; have HM4 : Hid (Below w.heap.size w w4) := HM3.out.trans (hm4.mono HM3.out.size); clear hm4))
  go_ret
  exact ⟨rfl, HM4.out⟩

/-! ### The statement's frame -/
set_option maxRecDepth 100000 in
theorem lifted (os : Os) (started : os.Started) (H : Type) (enc : TypeId × Value → H) :
    ReturnsInHanded {} Try.checked os 6 .any (Rows.typZeroSpec.pre6 enc Try.prog Try.f6 Rows.typZeroRow.domain false) (Rows.typZeroSpec.post enc Try.prog Try.f6 false true false false) := by
  refine returnsInHanded_of_change (C := Try.checked) own started (by kernel_rfl) Try.func6
    (ChangeSpec.witness6 (enc := enc) (C := Try.checked) false ⟨#[], #[.int .i64 0], []⟩ 8 (by kernel_rfl) (by kernel_rfl) (by kernel_rfl) (by kernel_rfl)) ?_
  intro W base args ds gs before hval0 hW hcnd _
  have hval : ∀ (j : Nat) t v, Try.f6.params[j]? = some t → args[j]? = some v → Value.okWide Try.prog W .any base t v := hval0
  have hW' := hW
  obtain ⟨p, q, hA0, hV, rfl, hfz, hnd⟩ := hW
  have hA : DataW.TrodAll enc Try.prog W 0 (fun _ => true) true Try.f6.params.toList args.toList ds p := hA0
  rw [Try.params6] at hA hval
  obtain ⟨v0, vs0, d0, ds0, p0, q0, hargs, rfl, rfl, h0, r0⟩ := trodAll_cons hA
  obtain ⟨rfl, rfl, rfl⟩ := trodAll_nil r0
  obtain rfl : args = #[v0] := by cases args; simp_all
  obtain ⟨rfl, rfl⟩ := trodVars_none hV
  obtain ⟨a0, rfl, rfl, rfl, w0⟩ := open_int Try.underlying3 (hval 0 3 v0 rfl rfl) h0
  clear hA0 hval0
  refine (walk a0 W w0).mono fun e W' ⟨he, bel⟩ => ?_
  subst he
  exact ⟨_, rfl, _, _, _, [], _, [], hW', trodAll_mk1 (shut_bool Try.underlying4 _), (trodAll_cons_mk (shut_int Try.underlying3 w0) trodAll_mk0), rfl, bel.frame _, fun h => by cases h⟩

theorem over : Rows.typZeroRow.holds Try.pinned (OpenSpec.ofChange Rows.typZeroSpec) :=
  OpenClaim.holds_of_wide 6 Try.f6 rfl rfl rfl rfl rfl rfl rfl ⟨rfl, rfl, rfl, rfl, rfl⟩ rfl rfl rfl rfl rfl (by kernel_rfl) Try.func6 (by kernel_rfl)
    (of_decide_eq_true (by kernel_rfl)) (by unfold Func.isWrapper; first | (rw [if_pos (by decide +kernel)]; kernel_rfl) | (rw [if_neg (by decide +kernel)]; exact ⟨rfl, rfl⟩))
    (fun os started H enc _ => lifted os started H enc)

theorem proved : Rows.TypZeroSaid := over
end Go.Proofs.Ytiodocdbhjdfaaa.typZero
namespace Go.Proofs.Ytiodocdbhjdfaaa
theorem typZero_holds : Rows.TypZeroSaid := typZero.proved
#print axioms typZero_holds
end Go.Proofs.Ytiodocdbhjdfaaa
