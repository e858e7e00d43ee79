/- RegsSwap returns true for every two lists of words, and leaves its arguments as they were. No condition. -/
import Derived.Test.YtnhdlgijjjkmdaaRows
import Derived.Test.YtnhdlgijjjkmdaaRegT
import Derived.Deep.RegionWith
import Derived.WalkKit
import Derived.ProofKit
import Derived.OpenShut
import Derived.ShutString
import Derived.ChangeOld
import Derived.Below
namespace Go.Proofs.Ytnhdlgijjjkmdaa.regsSwap
open Go.ChangeShapes Go.WideShapes Go.ChangeAt Go.RowKit
open Go.ChangeMaps (open_string shut_string)
set_option linter.unusedVariables false

theorem own : ownKnob Try.prog.godebug = none := by kernel_rfl
theorem laidOut : laidOutB Try.prog = true := by kernel_rfl

/-- WHAT THE WALK IS TOLD OF A SLICE OF INTEGERS THAT CAME IN: it is nil; or it leads to a row of 'cap' cells, the numbers 'zs' (the first 'len' are its elements, the rest its spare room), each fitting its kind. -/
def IsRow (k : IntKind) (w : World) (a : Option Addr) (len cap : Nat) (zs : List Int) : Prop :=
  (a = none ∧ len = 0 ∧ cap = 0 ∧ zs = []) ∨
  ∃ x, a = some x ∧ len ≤ cap ∧ cap ≤ maxLen ∧ zs.length = cap ∧ (∀ i, i < zs.length → w.cell? (x.add i) = some (.int k (zs.getD i 0))) ∧ ∀ n ∈ zs, (Lit.int k n).wf = true

set_option maxRecDepth 100000 in
set_option maxHeartbeats 4000000 in
theorem walk_swap (a0 a1 : Option Addr) (len0 cap0 len1 cap1 : Nat) (w : World) (C0 : Hid (Came .u64 w.heap.size w a0 len0)) (C1 : Hid (Came .u64 w.heap.size w a1 len1)) (l0 : len0 ≤ 9223372036854775807) (l1 : len1 ≤ 9223372036854775807) :
    Calls Try.prog 4 #[.slice a0 len0 cap0, .slice a1 len1 cap1] w fun e w' => e = .returned (.bool true) ∧ Below w.heap.size w w' := by
  obtain ⟨A, hA⟩ := C0.out.eight
  obtain ⟨B, hB⟩ := C1.out.eight
  have HA : Hid (Eight w.heap.size w a0 len0 A) := hA
  have HB : Hid (Eight w.heap.size w a1 len1 B) := hB
  obtain ⟨L, hL⟩ : ∃ L, L = loadR (fun _ => 0) len0 A := ⟨_, rfl⟩
  obtain ⟨M, hM⟩ : ∃ M, M = loadR (fun _ => 0) len1 B := ⟨_, rfl⟩
  have HL : Hid (L = loadR (fun _ => 0) len0 A) := hL
  have HM : Hid (M = loadR (fun _ => 0) len1 B) := hM
  clear hA hB hL hM C0 C1
  have t1 : True := trivial
  have t2 : True := trivial
  go_enter Try.func4, Try.ntmps4
  go_wp2_with (first
    | (go_at_call 7; clear t1; refine (new_any _).mono ?_; rintro e w1 ⟨rfl, hw1⟩; have H1 : Hid (w1 = newW w) := hw1; clear hw1)
    | (go_at_call 7; clear t2; refine (new_any _).mono ?_; rintro e w2 ⟨rfl, hw2⟩; have H2 : Hid (Two w w2 w.heap.size w1.heap.size (fun _ => 0) (fun _ => 0)) := (by have e := H1.out; subst e; rw [hw2]; exact ⟨(newW_is w).more (newW_below _), newW_is _, (newW_below w).trans ((newW_below _).mono (newW_below w).size), Nat.le_refl _, (newW_below w).size, by rw [newW_size]; omega⟩); clear hw2 H1)
    | (go_at_call 9; refine (load_any _ _ _ _ w.heap.size (fun _ => 0) A _ H2.out.f l0 (HA.out.below H2.out.below)).mono ?_; rintro e w3 ⟨rfl, hw3⟩; have H3 : Hid (Two w w3 w.heap.size w1.heap.size L (fun _ => 0)) := (by rw [hw3, ← HL.out]; exact H2.out.setF _); clear hw3 H2)
    | (go_at_call 9; refine (load_any _ _ _ _ w.heap.size (fun _ => 0) B _ H3.out.g l1 (HB.out.below H3.out.below)).mono ?_; rintro e w4 ⟨rfl, hw4⟩; have H4 : Hid (Two w w4 w.heap.size w1.heap.size L M) := (by rw [hw4, ← HM.out]; exact H3.out.setG _); clear hw4 H3)
    | (go_at_call 16; refine (all_any _ L _ H4.out.f).mono ?_; rintro e w5 ⟨rfl, hw5⟩; have H5 : Hid (Two w w5 w.heap.size w1.heap.size L M ∧ ListIs w5 w4.heap.size L) := (by rw [hw5]; exact ⟨H4.out.more (allW_below _ _), allW_is _ _⟩); clear hw5 H4)
    | (go_at_call 16; refine (all_any _ M _ H5.out.1.g).mono ?_; rintro e w6 ⟨rfl, hw6⟩; have H6 : Hid (St w w6 w.heap.size w1.heap.size L M w4.heap.size w5.heap.size L M) := (by rw [hw6]; exact ⟨H5.out.1.more (allW_below _ _), H5.out.2.more (allW_below _ _), allW_is _ _⟩); clear hw6 H5)
    | (go_at_call 19; refine (swap_ok _ _ L M _ H6.out.two.f H6.out.two.g).mono ?_; rintro e w7 ⟨rfl, hw7⟩; have H7 : Hid (St w w7 w.heap.size w1.heap.size M L w4.heap.size w5.heap.size L M) := (by rw [hw7]; exact H6.out.swap); clear hw7 H6)
    | (go_at_call 16; refine (all_any _ M _ H7.out.two.f).mono ?_; rintro e w8 ⟨rfl, hw8⟩; have H8 : Hid (St w w8 w.heap.size w1.heap.size M L w4.heap.size w5.heap.size L M ∧ ListIs w8 w7.heap.size M) := (by rw [hw8]; exact ⟨H7.out.more (allW_below _ _), allW_is _ _⟩); clear hw8 H7)
    | (go_at_call 15; refine (words_same _ _ _ _ M _ H8.out.2 H8.out.1.y).mono ?_; rintro e w9 ⟨rfl, m9, hw9⟩; have H9 : Hid (St w w9 w.heap.size w1.heap.size M L w4.heap.size w5.heap.size L M) := (by rw [hw9]; exact H8.out.1.drewN _); clear hw9 H8)
    | (go_at_call 16; refine (all_any _ L _ H9.out.two.g).mono ?_; rintro e w10 ⟨rfl, hw10⟩; have H10 : Hid (St w w10 w.heap.size w1.heap.size M L w4.heap.size w5.heap.size L M ∧ ListIs w10 w9.heap.size L) := (by rw [hw10]; exact ⟨H9.out.more (allW_below _ _), allW_is _ _⟩); clear hw10 H9)
    | (go_at_call 15; refine (words_same _ _ _ _ L _ H10.out.2 H10.out.1.x).mono ?_; rintro e w11 ⟨rfl, m11, hw11⟩; have H11 : Hid (St w w11 w.heap.size w1.heap.size M L w4.heap.size w5.heap.size L M) := (by rw [hw11]; exact H10.out.1.drewN _); clear hw11 H10)
    | (go_at_call 19; refine (swap_ok _ _ M L _ H11.out.two.f H11.out.two.g).mono ?_; rintro e w12 ⟨rfl, hw12⟩; have H12 : Hid (St w w12 w.heap.size w1.heap.size L M w4.heap.size w5.heap.size L M) := (by rw [hw12]; exact H11.out.swap); clear hw12 H11)
    | (go_at_call 19; refine (swap_ok _ _ L L _ H12.out.two.f H12.out.two.f).mono ?_; rintro e w13 ⟨rfl, hw13⟩; have H13 : Hid (St w w13 w.heap.size w1.heap.size L M w4.heap.size w5.heap.size L M) := (by rw [hw13]; exact H12.out.self); clear hw13 H12)
    | (go_at_call 16; refine (all_any _ L _ H13.out.two.f).mono ?_; rintro e w14 ⟨rfl, hw14⟩; have H14 : Hid (St w w14 w.heap.size w1.heap.size L M w4.heap.size w5.heap.size L M ∧ ListIs w14 w13.heap.size L) := (by rw [hw14]; exact ⟨H13.out.more (allW_below _ _), allW_is _ _⟩); clear hw14 H13)
    | (go_at_call 15; refine (words_same _ _ _ _ L _ H14.out.2 H14.out.1.x).mono ?_; rintro e w15 ⟨rfl, m15, hw15⟩; have H15 : Hid (St w w15 w.heap.size w1.heap.size L M w4.heap.size w5.heap.size L M) := (by rw [hw15]; exact H14.out.1.drewN _); clear hw15 H14)
    | (go_at_call 16; refine (all_any _ M _ H15.out.two.g).mono ?_; rintro e w16 ⟨rfl, hw16⟩; have H16 : Hid (St w w16 w.heap.size w1.heap.size L M w4.heap.size w5.heap.size L M ∧ ListIs w16 w15.heap.size M) := (by rw [hw16]; exact ⟨H15.out.more (allW_below _ _), allW_is _ _⟩); clear hw16 H15)
    | (go_at_call 15; refine (words_same _ _ _ _ M _ H16.out.2 H16.out.1.y).mono ?_; rintro e w17 ⟨rfl, m17, hw17⟩; have H17 : Hid (Below w.heap.size w w17) := (by rw [hw17]; exact below_drewN H16.out.1.two.below _); clear hw17 H16)
    | (go_at_call 18; refine (awake_any _).mono ?_; rintro e w18 ⟨rfl, hw18⟩; have H18 : Hid (Below w.heap.size w w18) := H17.out.trans (hw18.mono H17.out.size); clear hw18 H17))
  go_ret
  exact ⟨rfl, H18.out⟩

/-! ### STEP 1: THE WALK: the Go text returns true, AND WRITES NOTHING THAT WAS THERE: 'Below w.heap.size w w'' (Derived/Below.lean: '.refl', '.alloc', '.drew', '.setCell' at a new block, '.trans'). Open each 'IsRow' by 'rcases' AHEAD of 'go_enter'; part every test ahead of the walk. -/
theorem walk (a0 : Option Addr) (len0 cap0 : Nat) (z0 : List Int) (a1 : Option Addr) (len1 cap1 : Nat) (z1 : List Int) (w : World) (w0 : IsRow .u64 w a0 len0 cap0 z0) (w1 : IsRow .u64 w a1 len1 cap1 z1) :
    Calls Try.prog 4 #[.slice a0 len0 cap0, .slice a1 len1 cap1] w fun e w' => e = .returned (.bool true) ∧ Below w.heap.size w w' := by
  obtain ⟨hC0, hl0⟩ := came_of_row w0
  obtain ⟨hC1, hl1⟩ := came_of_row w1
  exact walk_swap a0 a1 len0 cap0 len1 cap1 w hC0 hC1 hl0 hl1

/-! ### THE ROW's STEP: WRITTEN OUT: LEAVE IT -/
set_option maxRecDepth 100000 in
theorem lifted (os : Os) (started : os.Started) (H : Type) (enc : TypeId × Value → H) :
    ReturnsInHanded {} Try.checked os 4 .any (Rows.regsSwapSpec.pre6 enc Try.prog Try.f4 Rows.regsSwapRow.domain false) (Rows.regsSwapSpec.post enc Try.prog Try.f4 false true false false) := by
  refine returnsInHanded_of_change (C := Try.checked) own started (by kernel_rfl) Try.func4
    (ChangeSpec.witness6 (enc := enc) (C := Try.checked) false ⟨#[], #[.slice none 0 0, .slice none 0 0], []⟩ 8 (by kernel_rfl) (by kernel_rfl) (by kernel_rfl) (by kernel_rfl)) ?_
  intro W base args ds gs before hval0 hW hcnd _
  have hval : ∀ (j : Nat) t v, Try.f4.params[j]? = some t → args[j]? = some v → Value.okWide Try.prog W .any base t v := hval0
  have hW' := hW
  obtain ⟨p, q, hA0, hV, rfl, hfz, hnd⟩ := hW
  have hA : DataW.TrodAll enc Try.prog W 0 (fun _ => true) true Try.f4.params.toList args.toList ds p := hA0
  rw [Try.params4] at hA hval
  obtain ⟨v0, vs0, d0, ds0, p0, q0, hargs, rfl, rfl, h0, r0⟩ := trodAll_cons hA
  obtain ⟨v1, vs1, d1, ds1, p1, q1, rfl, rfl, rfl, h1, r1⟩ := trodAll_cons r0
  obtain ⟨rfl, rfl, rfl⟩ := trodAll_nil r1
  obtain rfl : args = #[v0, v1] := by cases args; simp_all
  obtain ⟨rfl, rfl⟩ := trodVars_none hV
  obtain ⟨a0, len0, cap0, rfl⟩ := okWide_slice Try.underlying24 (hval 0 24 v0 rfl rfl)
  have k0 := h0
  have lt0 : ∀ x ∈ p0, x.block < W.heap.size := by obtain ⟨m, hm⟩ := k0; exact DataW.trod_lt m _ _ _ hm
  obtain ⟨z0, w0⟩ : ∃ zs, IsRow .u64 W a0 len0 cap0 zs := by
    obtain ⟨fuel, hf⟩ := h0
    rcases open_ints Try.underlying24 Try.underlying33 (by kernel_rfl) hf with ⟨hcs, _⟩ | ⟨x, l, c, zs, hcs, _, hl, hm, hz, _, hcell, hwz⟩
    · simp [Value.cells] at hcs
      obtain ⟨rfl, rfl, rfl⟩ := hcs
      exact ⟨[], .inl ⟨rfl, rfl, rfl, rfl⟩⟩
    · simp [Value.cells] at hcs
      obtain ⟨rfl, rfl, rfl⟩ := hcs
      exact ⟨zs, .inr ⟨_, rfl, hl, hm, by simpa using hz, hcell, hwz⟩⟩
  obtain ⟨a1, len1, cap1, rfl⟩ := okWide_slice Try.underlying24 (hval 1 24 v1 rfl rfl)
  have k1 := h1
  have lt1 : ∀ x ∈ p1, x.block < W.heap.size := by obtain ⟨m, hm⟩ := k1; exact DataW.trod_lt m _ _ _ hm
  obtain ⟨z1, w1⟩ : ∃ zs, IsRow .u64 W a1 len1 cap1 zs := by
    obtain ⟨fuel, hf⟩ := h1
    rcases open_ints Try.underlying24 Try.underlying33 (by kernel_rfl) hf with ⟨hcs, _⟩ | ⟨x, l, c, zs, hcs, _, hl, hm, hz, _, hcell, hwz⟩
    · simp [Value.cells] at hcs
      obtain ⟨rfl, rfl, rfl⟩ := hcs
      exact ⟨[], .inl ⟨rfl, rfl, rfl, rfl⟩⟩
    · simp [Value.cells] at hcs
      obtain ⟨rfl, rfl, rfl⟩ := hcs
      exact ⟨zs, .inr ⟨_, rfl, hl, hm, by simpa using hz, hcell, hwz⟩⟩
  clear hA0 hval0
  refine (walk a0 len0 cap0 z0 a1 len1 cap1 z1 W w0 w1).mono fun e W' ⟨he, bel⟩ => ?_
  subst he
  exact ⟨_, rfl, _, _, _, [], _, [], hW', trodAll_mk1 (shut_bool Try.underlying4 _), (trodAll_cons_mk (Below.trod laidOut (by kernel_rfl) (of_decide_eq_true (by kernel_rfl)) k0 bel lt0) (trodAll_cons_mk (Below.trod laidOut (by kernel_rfl) (of_decide_eq_true (by kernel_rfl)) k1 bel lt1) trodAll_mk0)), rfl, bel.frame _, fun h => by cases h⟩

theorem over : Rows.regsSwapRow.holds Try.pinned (OpenSpec.ofChange Rows.regsSwapSpec) :=
  OpenClaim.holds_of_wide 4 Try.f4 rfl rfl rfl rfl rfl rfl rfl ⟨rfl, rfl, rfl, rfl, rfl⟩ rfl rfl rfl rfl rfl (by kernel_rfl) Try.func4 (by kernel_rfl)
    (of_decide_eq_true (by kernel_rfl)) (by unfold Func.isWrapper; first | (rw [if_pos (by decide +kernel)]; kernel_rfl) | (rw [if_neg (by decide +kernel)]; exact ⟨rfl, rfl⟩))
    (fun os started H enc _ => lifted os started H enc)

/-- ████ THE STATEMENT ████ -/
theorem proved : Rows.RegsSwapSaid := over
end Go.Proofs.Ytnhdlgijjjkmdaa.regsSwap
namespace Go.Proofs.Ytnhdlgijjjkmdaa
theorem regsSwap_holds : Rows.RegsSwapSaid := regsSwap.proved
#print axioms regsSwap_holds
end Go.Proofs.Ytnhdlgijjjkmdaa
