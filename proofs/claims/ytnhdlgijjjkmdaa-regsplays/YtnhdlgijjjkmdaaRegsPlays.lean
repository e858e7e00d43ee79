/- RegsPlays returns true for every list of acts, and leaves its arguments as they were. No condition. -/
import Derived.Test.YtnhdlgijjjkmdaaRows
import Derived.Test.YtnhdlgijjjkmdaaRegP
import Derived.Deep.RegionHeld3
import Derived.WalkKit
import Derived.ProofKit
import Derived.OpenShut
import Derived.ShutString
import Derived.ChangeOld
import Derived.Below
namespace Go.Proofs.Ytnhdlgijjjkmdaa.regsPlays
open Go.ChangeShapes Go.WideShapes Go.ChangeAt Go.RowKit
open Go.ChangeMaps (open_string shut_string)
set_option linter.unusedVariables false

theorem own : ownKnob Try.prog.godebug = none := by kernel_rfl
theorem laidOut : laidOutB Try.prog = true := by kernel_rfl

/-- WHAT THE WALK IS TOLD OF A SLICE OF INTEGERS THAT CAME IN: it is nil; or it leads to a row of 'cap' cells, the numbers 'zs' (the first 'len' are its elements, the rest its spare room), each fitting its kind. -/
def IsRow (k : IntKind) (w : World) (a : Option Addr) (len cap : Nat) (zs : List Int) : Prop :=
  (a = none ∧ len = 0 ∧ cap = 0 ∧ zs = []) ∨
  ∃ x, a = some x ∧ len ≤ cap ∧ cap ≤ maxLen ∧ zs.length = cap ∧ (∀ i, i < zs.length → w.cell? (x.add i) = some (.int k (zs.getD i 0))) ∧ ∀ n ∈ zs, (Lit.int k n).wf = true

set_option maxRecDepth 100000 in
set_option maxHeartbeats 8000000 in
theorem walk_plays (a0 a1 a2 a3 : Option Addr) (len0 cap0 len1 cap1 len2 cap2 len3 cap3 : Nat) (w : World)
    (HC0 : Hid (Came .u8 w.heap.size w a0 len0)) (HC1 : Hid (Came .i64 w.heap.size w a1 len1)) (HC2 : Hid (Came .u64 w.heap.size w a2 len2)) (HC3 : Hid (Came .u64 w.heap.size w a3 len3))
    (hl0 : len0 ≤ 9223372036854775807) (hl1 : len1 ≤ 9223372036854775807) (hl2 : len2 ≤ 9223372036854775807) (hl3 : len3 ≤ 9223372036854775807) :
    Calls Try.prog 3 #[.slice a0 len0 cap0, .slice a1 len1 cap1, .slice a2 len2 cap2, .slice a3 len3 cap3] w fun e w' => e = .returned (.bool true) ∧ Below w.heap.size w w' := by
  obtain ⟨A, hA⟩ := HC3.out.eight
  have HA : Hid (Eight w.heap.size w a3 len3 A) := hA
  clear hA HC3
  go_enter Try.func3, Try.ntmps3
  go_wp2_with (first
    | (go_at_call 7; refine (new_any _).mono ?_; rintro e w1 ⟨rfl, hw1⟩; have hs1 : w1.heap.size = w.heap.size + 1 := (by rw [hw1]; exact newW_size w); have HW1 : Hid (w1 = newW w) := hw1; clear hw1)
    | (go_at_call 8; refine (rnew_any _).mono ?_; rintro e w2 ⟨rfl, hr2, hb2⟩; have HB2 : Hid (Both w w2 fun _ => 0) := (by have e := HW1.out; subst e; exact both_new hr2 hb2); clear hr2 hb2))
  clear HW1 hs1
  go_loopw [11] (fun i wr => ∃ k : Nat, k ≤ len0 ∧ i = .int .i64 k ∧ ∃ L, Both w wr L) (fun i _ => len0 - (intOf i).toNat)
  case atStart => exact ⟨0, by omega, rfl, _, HB2.out⟩
  case round =>
    obtain ⟨k, hk, rfl, L, hI⟩ := hrel
    have HI : Hid (Both w wr L) := hI
    clear hI HB2
    by_cases hin : k < len0 ∧ k < len1 ∧ k < len2 ∧ k < 100
    · obtain ⟨h0, h1, h2, h3⟩ := hin
      obtain ⟨b0, o0, z0, rfl, _, c0, HZ⟩ := HC0.out.at HI.out.below h0
      obtain ⟨b1, o1, za, rfl, l1, d1, _⟩ := HC1.out.at HI.out.below h1
      obtain ⟨b2, o2, zw, rfl, l2, d2, _⟩ := HC2.out.at HI.out.below h2
      have i0 : (k : Int) < (len0 : Int) := by omega
      have i1 : (k : Int) < (len1 : Int) := by omega
      have i2 : (k : Int) < (len2 : Int) := by omega
      have i3 : (k : Int) < 100 := by omega
      have HL1 : Hid (b1 < w.heap.size) := l1
      have HL2 : Hid (b2 < w.heap.size) := l2
      have e1 : Hid (w.cell? ⟨b1, o1 + k, none⟩ = some (.int .i64 za)) := (HI.out.below.cell (p := ⟨b1, o1 + k, none⟩) l1).symm.trans d1
      have e2 : Hid (w.cell? ⟨b2, o2 + k, none⟩ = some (.int .u64 zw)) := (HI.out.below.cell (p := ⟨b2, o2 + k, none⟩) l2).symm.trans d2
      clear l1 l2
      have hz : 0 ≤ z0 ∧ z0 ≤ 255 := bounds_u8 HZ.out
      have hq : z0.tmod 4 = 3 ∨ ¬ z0.tmod 4 = 3 := by omega
      clear hz HZ
      rcases hq with hq | hq
      · obtain ⟨N, hN⟩ : ∃ N, N = loadR L len3 A := ⟨_, rfl⟩
        have HN : Hid (N = loadR L len3 A) := hN
        clear hN
        go_wp2_with (first
          | (go_at_call 9; refine (load_any _ _ _ _ w.heap.size L A _ HI.out.f hl3 (HA.out.below HI.out.below)).mono ?_; rintro e w2 ⟨rfl, hw2⟩; have H2 : Hid (Half w w2 L N) := (by rw [hw2, ← HN.out]; exact HI.out.half _); clear hw2)
          | (go_at_call 10; refine (rload_any _ _ _ _ _ w.heap.size L A _ H2.out.ref H2.out.size hl3 (HA.out.below H2.out.below)).mono ?_; rintro e w3 ⟨rfl, hr3, hb3⟩; have H3 : Hid (Both w w3 N) := (by rw [← HN.out] at hr3; exact H2.out.both hr3 hb3); have d1 := (H3.out.below.cell (p := ⟨b1, o1 + k, none⟩) HL1.out).trans e1.out; clear hr3 hb3 H2)
          | (go_at_call 13; refine (get_any _ _ N _ H3.out.f).mono ?_; rintro e w4 ⟨rfl, hw4⟩; subst w4)
          | (go_at_call 14; refine (rget_any _ _ _ N _ H3.out.ref).mono ?_; rintro e w5 ⟨rfl, hw5⟩; subst w5)
          | (go_at_call 16; refine (all_any _ N _ H3.out.f).mono ?_; rintro e w6 ⟨rfl, hw6⟩; have H6 : Hid (Both w w6 N ∧ ListIs w6 w3.heap.size N) := (by rw [hw6]; exact ⟨H3.out.more (allW_below _ _), allW_is _ _⟩); clear hw6)
          | (go_at_call 17; refine (rall_any _ _ N _ H6.out.1.ref).mono ?_; rintro e w7 ⟨g7, c7, rfl, hl7, hb7⟩; have H7 : Hid (Both w w7 N ∧ ListIs w7 w3.heap.size N ∧ ListIs w7 g7 N) := ⟨H6.out.1.more hb7, H6.out.2.more hb7, hl7⟩; clear hl7 hb7)
          | (go_at_call 15; refine (words_same _ _ _ _ N _ H7.out.2.1 H7.out.2.2).mono ?_; rintro e w8 ⟨rfl, m8, hw8⟩; have H8 : Hid (Both w w8 N) := (by rw [hw8]; exact H7.out.1.drewN m8); clear hw8))
        go_roundw
        case rel => exact ⟨k + 1, by omega, by go_num, _, H8.out⟩
        case measure => simp [intOf]; omega
      · have hq' : (z0.tmod 4 == 3) = false := by simpa using hq
        clear hq
        obtain ⟨N, hN⟩ : ∃ N, N = setR L za zw := ⟨_, rfl⟩
        have HN : Hid (N = setR L za zw) := hN
        clear hN
        go_wp2
        go_region_held3 (fun w' => w'.cell? ⟨b1, o1 + k, none⟩ = some (.int .i64 za) ∧ w'.cell? ⟨b2, o2 + k, none⟩ = some (.int .u64 zw)) (first | exact ⟨by assumption, by assumption⟩ | go_keep)
        (first
          | (go_at_call 11; refine (set_any _ _ _ L _ HI.out.drew.f).mono ?_; rintro e w2 ⟨rfl, hw2⟩; have H2 : Hid (Half w w2 L N) := (by rw [hw2, HN.out]; exact HI.out.drew.half _); have d1 := (H2.out.below.cell (p := ⟨b1, o1 + k, none⟩) HL1.out).trans e1.out; have d2 := (H2.out.below.cell (p := ⟨b2, o2 + k, none⟩) HL2.out).trans e2.out; clear hw2)
          | (go_at_call 12; refine (rset_any _ _ _ _ L _ H2.out.ref).mono ?_; rintro e w3 ⟨rfl, hr3, hb3⟩; have H3 : Hid (Both w w3 N) := (by rw [← HN.out] at hr3; exact H2.out.both hr3 hb3); have d1 := (H3.out.below.cell (p := ⟨b1, o1 + k, none⟩) HL1.out).trans e1.out; have d2 := (H3.out.below.cell (p := ⟨b2, o2 + k, none⟩) HL2.out).trans e2.out; clear hr3 hb3 H2))
        clear d2
        go_wp2_with (first
          | (go_at_call 13; refine (get_any _ _ N _ H3.out.f).mono ?_; rintro e w4 ⟨rfl, hw4⟩; subst w4)
          | (go_at_call 14; refine (rget_any _ _ _ N _ H3.out.ref).mono ?_; rintro e w5 ⟨rfl, hw5⟩; subst w5)
          | (go_at_call 16; refine (all_any _ N _ H3.out.f).mono ?_; rintro e w6 ⟨rfl, hw6⟩; have H6 : Hid (Both w w6 N ∧ ListIs w6 w3.heap.size N) := (by rw [hw6]; exact ⟨H3.out.more (allW_below _ _), allW_is _ _⟩); clear hw6)
          | (go_at_call 17; refine (rall_any _ _ N _ H6.out.1.ref).mono ?_; rintro e w7 ⟨g7, c7, rfl, hl7, hb7⟩; have H7 : Hid (Both w w7 N ∧ ListIs w7 w3.heap.size N ∧ ListIs w7 g7 N) := ⟨H6.out.1.more hb7, H6.out.2.more hb7, hl7⟩; clear hl7 hb7)
          | (go_at_call 15; refine (words_same _ _ _ _ N _ H7.out.2.1 H7.out.2.2).mono ?_; rintro e w8 ⟨rfl, m8, hw8⟩; have H8 : Hid (Both w w8 N) := (by rw [hw8]; exact H7.out.1.drewN m8); clear hw8))
        go_roundw
        case rel => exact ⟨k + 1, by omega, by go_num, _, H8.out⟩
        case measure => simp [intOf]; omega
    · have hout : ¬ k < len0 ∨ (k < len0 ∧ ¬ k < len1) ∨ (k < len0 ∧ k < len1 ∧ ¬ k < len2) ∨ (k < len0 ∧ k < len1 ∧ k < len2 ∧ ¬ k < 100) := by omega
      clear hin
      rcases hout with h1 | ⟨h1, h2⟩ | ⟨h1, h2, h3⟩ | ⟨h1, h2, h3, h4⟩
      all_goals
        go_wp2_with (go_at_call 18; refine (awake_any _).mono ?_; rintro e w9 ⟨rfl, hw9⟩; have H9 : Hid (Below w.heap.size w w9) := HI.out.below.trans (hw9.mono HI.out.below.size); clear hw9)
        go_ret
        exact ⟨rfl, H9.out⟩

/-! ### STEP 1: THE WALK: the Go text returns true, AND WRITES NOTHING THAT WAS THERE: 'Below w.heap.size w w'' (Derived/Below.lean: '.refl', '.alloc', '.drew', '.setCell' at a new block, '.trans'). Open each 'IsRow' by 'rcases' AHEAD of 'go_enter'; part every test ahead of the walk. -/
theorem walk (a0 : Option Addr) (len0 cap0 : Nat) (z0 : List Int) (a1 : Option Addr) (len1 cap1 : Nat) (z1 : List Int) (a2 : Option Addr) (len2 cap2 : Nat) (z2 : List Int) (a3 : Option Addr) (len3 cap3 : Nat) (z3 : List Int) (w : World) (w0 : IsRow .u8 w a0 len0 cap0 z0) (w1 : IsRow .i64 w a1 len1 cap1 z1) (w2 : IsRow .u64 w a2 len2 cap2 z2) (w3 : IsRow .u64 w a3 len3 cap3 z3) :
    Calls Try.prog 3 #[.slice a0 len0 cap0, .slice a1 len1 cap1, .slice a2 len2 cap2, .slice a3 len3 cap3] w fun e w' => e = .returned (.bool true) ∧ Below w.heap.size w w' := by
  obtain ⟨hC0, hl0⟩ := came_of_row w0
  obtain ⟨hC1, hl1⟩ := came_of_row w1
  obtain ⟨hC2, hl2⟩ := came_of_row w2
  obtain ⟨hC3, hl3⟩ := came_of_row w3
  exact walk_plays a0 a1 a2 a3 len0 cap0 len1 cap1 len2 cap2 len3 cap3 w hC0 hC1 hC2 hC3 hl0 hl1 hl2 hl3

/-! ### THE ROW's STEP: WRITTEN OUT: LEAVE IT -/
set_option maxRecDepth 100000 in
theorem lifted (os : Os) (started : os.Started) (H : Type) (enc : TypeId × Value → H) :
    ReturnsInHanded {} Try.checked os 3 .any (Rows.regsPlaysSpec.pre6 enc Try.prog Try.f3 Rows.regsPlaysRow.domain false) (Rows.regsPlaysSpec.post enc Try.prog Try.f3 false true false false) := by
  refine returnsInHanded_of_change (C := Try.checked) own started (by kernel_rfl) Try.func3
    (ChangeSpec.witness6 (enc := enc) (C := Try.checked) false ⟨#[], #[.slice none 0 0, .slice none 0 0, .slice none 0 0, .slice none 0 0], []⟩ 8 (by kernel_rfl) (by kernel_rfl) (by kernel_rfl) (by kernel_rfl)) ?_
  intro W base args ds gs before hval0 hW hcnd _
  have hval : ∀ (j : Nat) t v, Try.f3.params[j]? = some t → args[j]? = some v → Value.okWide Try.prog W .any base t v := hval0
  have hW' := hW
  obtain ⟨p, q, hA0, hV, rfl, hfz, hnd⟩ := hW
  have hA : DataW.TrodAll enc Try.prog W 0 (fun _ => true) true Try.f3.params.toList args.toList ds p := hA0
  rw [Try.params3] at hA hval
  obtain ⟨v0, vs0, d0, ds0, p0, q0, hargs, rfl, rfl, h0, r0⟩ := trodAll_cons hA
  obtain ⟨v1, vs1, d1, ds1, p1, q1, rfl, rfl, rfl, h1, r1⟩ := trodAll_cons r0
  obtain ⟨v2, vs2, d2, ds2, p2, q2, rfl, rfl, rfl, h2, r2⟩ := trodAll_cons r1
  obtain ⟨v3, vs3, d3, ds3, p3, q3, rfl, rfl, rfl, h3, r3⟩ := trodAll_cons r2
  obtain ⟨rfl, rfl, rfl⟩ := trodAll_nil r3
  obtain rfl : args = #[v0, v1, v2, v3] := by cases args; simp_all
  obtain ⟨rfl, rfl⟩ := trodVars_none hV
  obtain ⟨a0, len0, cap0, rfl⟩ := okWide_slice Try.underlying22 (hval 0 22 v0 rfl rfl)
  have k0 := h0
  have lt0 : ∀ x ∈ p0, x.block < W.heap.size := by obtain ⟨m, hm⟩ := k0; exact DataW.trod_lt m _ _ _ hm
  obtain ⟨z0, w0⟩ : ∃ zs, IsRow .u8 W a0 len0 cap0 zs := by
    obtain ⟨fuel, hf⟩ := h0
    rcases open_ints Try.underlying22 Try.underlying5 (by kernel_rfl) hf with ⟨hcs, _⟩ | ⟨x, l, c, zs, hcs, _, hl, hm, hz, _, hcell, hwz⟩
    · simp [Value.cells] at hcs
      obtain ⟨rfl, rfl, rfl⟩ := hcs
      exact ⟨[], .inl ⟨rfl, rfl, rfl, rfl⟩⟩
    · simp [Value.cells] at hcs
      obtain ⟨rfl, rfl, rfl⟩ := hcs
      exact ⟨zs, .inr ⟨_, rfl, hl, hm, by simpa using hz, hcell, hwz⟩⟩
  obtain ⟨a1, len1, cap1, rfl⟩ := okWide_slice Try.underlying23 (hval 1 23 v1 rfl rfl)
  have k1 := h1
  have lt1 : ∀ x ∈ p1, x.block < W.heap.size := by obtain ⟨m, hm⟩ := k1; exact DataW.trod_lt m _ _ _ hm
  obtain ⟨z1, w1⟩ : ∃ zs, IsRow .i64 W a1 len1 cap1 zs := by
    obtain ⟨fuel, hf⟩ := h1
    rcases open_ints Try.underlying23 Try.underlying3 (by kernel_rfl) hf with ⟨hcs, _⟩ | ⟨x, l, c, zs, hcs, _, hl, hm, hz, _, hcell, hwz⟩
    · simp [Value.cells] at hcs
      obtain ⟨rfl, rfl, rfl⟩ := hcs
      exact ⟨[], .inl ⟨rfl, rfl, rfl, rfl⟩⟩
    · simp [Value.cells] at hcs
      obtain ⟨rfl, rfl, rfl⟩ := hcs
      exact ⟨zs, .inr ⟨_, rfl, hl, hm, by simpa using hz, hcell, hwz⟩⟩
  obtain ⟨a2, len2, cap2, rfl⟩ := okWide_slice Try.underlying24 (hval 2 24 v2 rfl rfl)
  have k2 := h2
  have lt2 : ∀ x ∈ p2, x.block < W.heap.size := by obtain ⟨m, hm⟩ := k2; exact DataW.trod_lt m _ _ _ hm
  obtain ⟨z2, w2⟩ : ∃ zs, IsRow .u64 W a2 len2 cap2 zs := by
    obtain ⟨fuel, hf⟩ := h2
    rcases open_ints Try.underlying24 Try.underlying33 (by kernel_rfl) hf with ⟨hcs, _⟩ | ⟨x, l, c, zs, hcs, _, hl, hm, hz, _, hcell, hwz⟩
    · simp [Value.cells] at hcs
      obtain ⟨rfl, rfl, rfl⟩ := hcs
      exact ⟨[], .inl ⟨rfl, rfl, rfl, rfl⟩⟩
    · simp [Value.cells] at hcs
      obtain ⟨rfl, rfl, rfl⟩ := hcs
      exact ⟨zs, .inr ⟨_, rfl, hl, hm, by simpa using hz, hcell, hwz⟩⟩
  obtain ⟨a3, len3, cap3, rfl⟩ := okWide_slice Try.underlying24 (hval 3 24 v3 rfl rfl)
  have k3 := h3
  have lt3 : ∀ x ∈ p3, x.block < W.heap.size := by obtain ⟨m, hm⟩ := k3; exact DataW.trod_lt m _ _ _ hm
  obtain ⟨z3, w3⟩ : ∃ zs, IsRow .u64 W a3 len3 cap3 zs := by
    obtain ⟨fuel, hf⟩ := h3
    rcases open_ints Try.underlying24 Try.underlying33 (by kernel_rfl) hf with ⟨hcs, _⟩ | ⟨x, l, c, zs, hcs, _, hl, hm, hz, _, hcell, hwz⟩
    · simp [Value.cells] at hcs
      obtain ⟨rfl, rfl, rfl⟩ := hcs
      exact ⟨[], .inl ⟨rfl, rfl, rfl, rfl⟩⟩
    · simp [Value.cells] at hcs
      obtain ⟨rfl, rfl, rfl⟩ := hcs
      exact ⟨zs, .inr ⟨_, rfl, hl, hm, by simpa using hz, hcell, hwz⟩⟩
  clear hA0 hval0
  refine (walk a0 len0 cap0 z0 a1 len1 cap1 z1 a2 len2 cap2 z2 a3 len3 cap3 z3 W w0 w1 w2 w3).mono fun e W' ⟨he, bel⟩ => ?_
  subst he
  exact ⟨_, rfl, _, _, _, [], _, [], hW', trodAll_mk1 (shut_bool Try.underlying4 _), (trodAll_cons_mk (Below.trod laidOut (by kernel_rfl) (of_decide_eq_true (by kernel_rfl)) k0 bel lt0) (trodAll_cons_mk (Below.trod laidOut (by kernel_rfl) (of_decide_eq_true (by kernel_rfl)) k1 bel lt1) (trodAll_cons_mk (Below.trod laidOut (by kernel_rfl) (of_decide_eq_true (by kernel_rfl)) k2 bel lt2) (trodAll_cons_mk (Below.trod laidOut (by kernel_rfl) (of_decide_eq_true (by kernel_rfl)) k3 bel lt3) trodAll_mk0)))), rfl, bel.frame _, fun h => by cases h⟩

theorem over : Rows.regsPlaysRow.holds Try.pinned (OpenSpec.ofChange Rows.regsPlaysSpec) :=
  OpenClaim.holds_of_wide 3 Try.f3 rfl rfl rfl rfl rfl rfl rfl ⟨rfl, rfl, rfl, rfl, rfl⟩ rfl rfl rfl rfl rfl (by kernel_rfl) Try.func3 (by kernel_rfl)
    (of_decide_eq_true (by kernel_rfl)) (by unfold Func.isWrapper; first | (rw [if_pos (by decide +kernel)]; kernel_rfl) | (rw [if_neg (by decide +kernel)]; exact ⟨rfl, rfl⟩))
    (fun os started H enc _ => lifted os started H enc)

/-- ████ THE STATEMENT ████ -/
theorem proved : Rows.RegsPlaysSaid := over
end Go.Proofs.Ytnhdlgijjjkmdaa.regsPlays
namespace Go.Proofs.Ytnhdlgijjjkmdaa
theorem regsPlays_holds : Rows.RegsPlaysSaid := regsPlays.proved
#print axioms regsPlays_holds
end Go.Proofs.Ytnhdlgijjjkmdaa
