/- TlbZero returns true for every key and every mapping, and leaves its arguments as they were. No condition. -/
import Derived.Test.YtamfdnkjfmfcoaaRows
import Derived.Test.YtamfdnkjfmfcoaaTlbQ
import Derived.Test.YtamfdnkjfmfcoaaTlbI
import Derived.Deep.RegionWith
import Derived.WalkKit
import Derived.ProofKit
import Derived.OpenShut
import Derived.ShutString
import Derived.ChangeOld
import Derived.Below
namespace Go.Proofs.Ytamfdnkjfmfcoaa.tlbZero
open Go.ChangeShapes Go.WideShapes Go.ChangeAt Go.RowKit
set_option linter.unusedVariables false

theorem own : ownKnob Try.prog.godebug = none := by kernel_rfl
theorem laidOut : laidOutB Try.prog = true := by kernel_rfl

theorem below3 {w w' : World} {o1 o2 o3 : Obj} (h : Below (((w.alloc o1).alloc o2).alloc o3).heap.size (((w.alloc o1).alloc o2).alloc o3) w') : Below w.heap.size w w' :=
  (bal (bal (bal (Below.refl _ _) _) _) _).trans (h.mono (by simp; omega))
theorem below1 {a w w' : World} {o : Obj} (h : Below a.heap.size a w) (k : Below (w.alloc o).heap.size (w.alloc o) w') : Below a.heap.size a w' :=
  (bal h _).trans (k.mono (by simp; have := h.size; omega))
theorem belowt {a w w' : World} (h : Below a.heap.size a w) (k : Below w.heap.size w w') : Below a.heap.size a w' := h.trans (k.mono h.size)
theorem cell_new3 (w : World) (o1 o2 : Obj) (c : Array Value) (t : TypeId) (j : Nat) : (((w.alloc o1).alloc o2).alloc (.cells c t)).cell? ⟨w.heap.size + 1 + 1, j, none⟩ = c[j]? := by
  have := World.cell?_alloc_new (w := (w.alloc o1).alloc o2) c t j
  simpa using this

theorem walk (a0 : Ky) (a1 : Pt) (w : World)  :
    Calls Try.prog 5 #[.agg #[.int .i64 a0.1, .int .i64 a0.2], .agg #[.bool a1.1, .int .i64 a1.2.1, .int .i64 a1.2.2.1, .int .i64 a1.2.2.2]] w fun e w' => e = .returned (.bool true) ∧ Below w.heap.size w w' := by
  obtain ⟨a, c⟩ := a0
  obtain ⟨q0, q1, q2, q3⟩ := a1
  have GN : ∀ w, Calls Try.prog 17 #[.pointer none, .agg #[.int .i64 a, .int .i64 c]] w fun e w' => e = .returned (.tuple #[.agg #[.bool false, .int .i64 0, .int .i64 0, .int .i64 0], .bool false]) ∧ Below w.heap.size w w' := fun w => get_nil (a, c) w
  have heq : ∀ w, (binOp .eql 38 (.agg #[.bool false, .int .i64 0, .int .i64 0, .int .i64 0]) (.agg #[.bool false, .int .i64 0, .int .i64 0, .int .i64 0])).run Try.prog w = .ok (.bool true) w := fun _ => by kernel_rfl
  go_enter Try.func5, Try.ntmps5
  go_wp2_with (first
    | (go_at_call 17; refine (GN _).mono ?_; rintro e w1 ⟨rfl, hb1⟩; have k0 : w1.cell? ⟨w.heap.size, 0, none⟩ = some (.int .i64 a) := keeps hb1 (cell_more2 (by simp) _ _); have k1 : w1.cell? ⟨w.heap.size, 1, none⟩ = some (.int .i64 c) := keeps hb1 (cell_more2 (by simp) _ _); have k2 : w1.cell? ⟨w.heap.size + 1, 0, none⟩ = some (.bool q0) := keeps hb1 (cell_more1 (by simp) _); have k3 : w1.cell? ⟨w.heap.size + 1, 1, none⟩ = some (.int .i64 q1) := keeps hb1 (cell_more1 (by simp) _); have k4 : w1.cell? ⟨w.heap.size + 1, 2, none⟩ = some (.int .i64 q2) := keeps hb1 (cell_more1 (by simp) _); have k5 : w1.cell? ⟨w.heap.size + 1, 3, none⟩ = some (.int .i64 q3) := keeps hb1 (cell_more1 (by simp) _); have k6 : w1.cell? ⟨w.heap.size + 1 + 1, 1, none⟩ = some (.map none) := keeps hb1 ((cell_new3 _ _ _ _ _ 1).trans rfl); have HB1 : Hid (Below w.heap.size w w1) := below3 hb1; have s1 := World.block_lt_of_cell? w1 _ k6; have s2 := World.block_lt_of_cell? w1 _ k2; have s3 := World.block_lt_of_cell? w1 _ k0; clear hb1)
    | (go_at_call_of 12 (Value.pointer none); refine (put_nil (a, c) (q0, q1, q2, q3) _).mono ?_; rintro e w2 ⟨rfl, hb2⟩; have l0 := keeps hb2 (cell_more1 k0 _); have l1 := keeps hb2 (cell_more1 k1 _); have l2 := keeps hb2 (cell_more1 k2 _); have l3 := keeps hb2 (cell_more1 k3 _); have l4 := keeps hb2 (cell_more1 k4 _); have l5 := keeps hb2 (cell_more1 k5 _); have l6 := keeps hb2 (cell_more1 k6 _); have x0 : w2.cell? ⟨w1.heap.size, 0, none⟩ = some (.bool false) := keeps hb2 (by simp); have x1 : w2.cell? ⟨w1.heap.size, 1, none⟩ = some (.int .i64 0) := keeps hb2 (by simp); have x2 : w2.cell? ⟨w1.heap.size, 2, none⟩ = some (.int .i64 0) := keeps hb2 (by simp); have x3 : w2.cell? ⟨w1.heap.size, 3, none⟩ = some (.int .i64 0) := keeps hb2 (by simp); have HB2 : Hid (Below w.heap.size w w2) := below1 HB1.out hb2; clear hb2 k0 k1 k2 k3 k4 k5 k6)
    | (go_at_call 12; refine (put_zero (w.heap.size + 1 + 1) (a, c) (q0, q1, q2, q3) _ l6).mono ?_; rintro e w3 ⟨rfl, hb3⟩; have y0 := keeps hb3 x0; have y1 := keeps hb3 x1; have y2 := keeps hb3 x2; have y3 := keeps hb3 x3; have y6 := keeps hb3 l6; have HB3 : Hid (Below w.heap.size w w3) := belowt HB2.out hb3; clear hb3 x0 x1 x2 x3 l0 l1 l2 l3 l4 l5 l6)
    | (go_at_call 10; refine (flush_zero _ _ y6).mono ?_; rintro e w4 ⟨rfl, rfl⟩)
    | (go_at_call 15; refine (len_nil _).mono ?_; rintro e w4 ⟨rfl, rfl⟩)
    | (go_at_call 14; refine (keys_zero _ _ y6).mono ?_; rintro e w5 ⟨rfl, hb5⟩; have z6 := keeps hb5 y6; have HB5 : Hid (Below w.heap.size w w5) := belowt HB3.out hb5; clear hb5)
    | (go_at_call_of 16 (Value.pointer none); refine (made_nil _).mono ?_; rintro e w4 ⟨rfl, rfl⟩)
    | (go_at_call 16; refine (made_zero _ _ z6).mono ?_; rintro e w4 ⟨rfl, rfl⟩))
  go_ret
  exact ⟨rfl, HB5.out⟩

/-! ### The statement's frame -/
set_option maxRecDepth 100000 in
theorem lifted (os : Os) (started : os.Started) (H : Type) (enc : TypeId × Value → H) :
    ReturnsInHanded {} Try.checked os 5 .any (Rows.tlbZeroSpec.pre6 enc Try.prog Try.f5 Rows.tlbZeroRow.domain false) (Rows.tlbZeroSpec.post enc Try.prog Try.f5 false true false false) := by
  refine returnsInHanded_of_change (C := Try.checked) own started (by kernel_rfl) Try.func5
    (ChangeSpec.witness6 (enc := enc) (C := Try.checked) false ⟨#[], #[.agg #[.int .i64 0, .int .i64 0], .agg #[.bool false, .int .i64 0, .int .i64 0, .int .i64 0]], []⟩ 8 (by kernel_rfl) (by kernel_rfl) (by kernel_rfl) (by kernel_rfl)) ?_
  intro W base args ds gs before hval0 hW hcnd _
  have hval : ∀ (j : Nat) t v, Try.f5.params[j]? = some t → args[j]? = some v → Value.okWide Try.prog W .any base t v := hval0
  have hW' := hW
  obtain ⟨p, q, hA0, hV, rfl, hfz, hnd⟩ := hW
  have hA : DataW.TrodAll enc Try.prog W 0 (fun _ => true) true Try.f5.params.toList args.toList ds p := hA0
  rw [Try.params5] at hA hval
  obtain ⟨v0, vs0, d0, ds0, p0, q0, hargs, rfl, rfl, h0, r0⟩ := trodAll_cons hA
  obtain ⟨v1, vs1, d1, ds1, p1, q1, rfl, rfl, rfl, h1, r1⟩ := trodAll_cons r0
  obtain ⟨rfl, rfl, rfl⟩ := trodAll_nil r1
  obtain rfl : args = #[v0, v1] := by cases args; simp_all
  obtain ⟨rfl, rfl⟩ := trodVars_none hV
  have k0 := h0
  have lt0 : ∀ x ∈ p0, x.block < W.heap.size := by obtain ⟨m, hm⟩ := k0; exact DataW.trod_lt m _ _ _ hm
  obtain ⟨a0, rfl⟩ := key_val (hval 0 36 v0 rfl rfl) h0
  have k1 := h1
  have lt1 : ∀ x ∈ p1, x.block < W.heap.size := by obtain ⟨m, hm⟩ := k1; exact DataW.trod_lt m _ _ _ hm
  obtain ⟨a1, rfl⟩ := pte_val (hval 1 38 v1 rfl rfl) h1
  clear hA0 hval0
  refine (walk a0 a1 W ).mono fun e W' ⟨he, bel⟩ => ?_
  subst he
  exact ⟨_, rfl, _, _, _, [], _, [], hW', trodAll_mk1 (shut_bool Try.underlying4 _), (trodAll_cons_mk (Below.trod laidOut (by kernel_rfl) (of_decide_eq_true (by kernel_rfl)) k0 bel lt0) (trodAll_cons_mk (Below.trod laidOut (by kernel_rfl) (of_decide_eq_true (by kernel_rfl)) k1 bel lt1) trodAll_mk0)), rfl, bel.frame _, fun h => by cases h⟩

theorem over : Rows.tlbZeroRow.holds Try.pinned (OpenSpec.ofChange Rows.tlbZeroSpec) :=
  OpenClaim.holds_of_wide 5 Try.f5 rfl rfl rfl rfl rfl rfl rfl ⟨rfl, rfl, rfl, rfl, rfl⟩ rfl rfl rfl rfl rfl (by kernel_rfl) Try.func5 (by kernel_rfl)
    (of_decide_eq_true (by kernel_rfl)) (by unfold Func.isWrapper; first | (rw [if_pos (by decide +kernel)]; kernel_rfl) | (rw [if_neg (by decide +kernel)]; exact ⟨rfl, rfl⟩))
    (fun os started H enc _ => lifted os started H enc)

theorem proved : Rows.TlbZeroSaid := over
end Go.Proofs.Ytamfdnkjfmfcoaa.tlbZero
namespace Go.Proofs.Ytamfdnkjfmfcoaa
theorem tlbZero_holds : Rows.TlbZeroSaid := tlbZero.proved
#print axioms tlbZero_holds
end Go.Proofs.Ytamfdnkjfmfcoaa
