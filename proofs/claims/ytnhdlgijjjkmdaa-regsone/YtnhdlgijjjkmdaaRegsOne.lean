/- RegsOne returns true for every list of words, every place and every word, and leaves its arguments as they were. No condition. -/
import Derived.Test.YtnhdlgijjjkmdaaRows
import Derived.Test.YtnhdlgijjjkmdaaRegT
import Derived.Deep.LoopGhost
import Derived.WalkKit
import Derived.ProofKit
import Derived.OpenShut
import Derived.ShutString
import Derived.ChangeOld
import Derived.Below
namespace Go.Proofs.Ytnhdlgijjjkmdaa.regsOne
open Go.ChangeShapes Go.WideShapes Go.ChangeAt Go.RowKit
open Go.ChangeMaps (open_string shut_string)
set_option linter.unusedVariables false

theorem own : ownKnob Try.prog.godebug = none := by kernel_rfl
theorem laidOut : laidOutB Try.prog = true := by kernel_rfl

/-- WHAT THE WALK IS TOLD OF A SLICE OF INTEGERS THAT CAME IN: it is nil; or it leads to a row of 'cap' cells, the numbers 'zs' (the first 'len' are its elements, the rest its spare room), each fitting its kind. -/
def IsRow (k : IntKind) (w : World) (a : Option Addr) (len cap : Nat) (zs : List Int) : Prop :=
  (a = none ∧ len = 0 ∧ cap = 0 ∧ zs = []) ∨
  ∃ x, a = some x ∧ len ≤ cap ∧ cap ≤ maxLen ∧ zs.length = cap ∧ (∀ i, i < zs.length → w.cell? (x.add i) = some (.int k (zs.getD i 0))) ∧ ∀ n ∈ zs, (Lit.int k n).wf = true

theorem set_here {L : Nat → Int} {i v : Int} {k : Nat} (hk : k < 8) (h : (k : Int) = i) : setR L i v k = v := by
  subst h
  simp [setR, okR_nat hk]
theorem set_there {L : Nat → Int} {i v : Int} {k : Nat} (h : ¬ (k : Int) = i) : setR L i v k = L k := by
  unfold setR
  cases hk : okR i
  · simp
  · obtain ⟨g, rfl, hg⟩ := okR_split hk
    simp only [if_true, Int.toNat_natCast]
    rw [if_neg (by omega)]
structure Held (w wr : World) (x y : Nat) (A B : Nat → Int) : Prop where
  below : Below w.heap.size w wr
  x : ListIs wr x A
  y : ListIs wr y B
theorem Held.drewN {w wr : World} {x y : Nat} {A B : Nat → Int} (h : Held w wr x y A B) (n : Nat) : Held w (wr.drewN n) x y A B := ⟨below_drewN h.below n, h.x, h.y⟩
set_option maxRecDepth 100000 in
set_option maxHeartbeats 4000000 in
theorem walk_good (a0 : Option Addr) (len0 cap0 : Nat) (i v : Int) (w : World) (C0 : Hid (Came .u64 w.heap.size w a0 len0)) (l0 : len0 ≤ 9223372036854775807) (h0 : 0 ≤ i) (h8 : i < 8) (hE : errR i = 0) :
    Calls Try.prog 6 #[.slice a0 len0 cap0, .int .i64 i, .int .u64 v] w fun e w' => e = .returned (.bool true) ∧ Below w.heap.size w w' := by
  obtain ⟨A, hA⟩ := C0.out.eight
  have HA : Hid (Eight w.heap.size w a0 len0 A) := hA
  obtain ⟨L, hL⟩ : ∃ L, L = loadR (fun _ => 0) len0 A := ⟨_, rfl⟩
  have HL : Hid (L = loadR (fun _ => 0) len0 A) := hL
  clear hA hL C0
  go_enter Try.func6, Try.ntmps6
  go_wp2_with (first
    | (go_at_call 7; refine (new_any _).mono ?_; rintro e w1 ⟨rfl, hw1⟩; have H1 : Hid (FileIs w1 w.heap.size (fun _ => 0) ∧ Below w.heap.size w w1) := (by rw [hw1]; exact ⟨newW_is w, newW_below w⟩); clear hw1)
    | (go_at_call 9; refine (load_any _ _ _ _ w.heap.size (fun _ => 0) A _ H1.out.1 l0 (HA.out.below H1.out.2)).mono ?_; rintro e w2 ⟨rfl, hw2⟩; have H2 : Hid (FileIs w2 w.heap.size L ∧ Below w.heap.size w w2) := (by rw [hw2, ← HL.out]; exact ⟨H1.out.1.set _, below_set H1.out.2 (Nat.le_refl _) _⟩); clear hw2 H1)
    | (go_at_call 16; refine (all_any _ L _ H2.out.1).mono ?_; rintro e w3 ⟨rfl, hw3⟩; have H3 : Hid (FileIs w3 w.heap.size L ∧ Below w.heap.size w w3 ∧ ListIs w3 w2.heap.size L) := (by rw [hw3]; exact ⟨H2.out.1.more (allW_below _ _), H2.out.2.trans ((allW_below _ _).mono H2.out.2.size), allW_is _ _⟩); clear hw3 H2)
    | (go_at_call 11; refine (set_any _ _ _ L _ H3.out.1).mono ?_; rintro e w4 ⟨rfl, hw4⟩; have H4 : Hid (FileIs w4 w.heap.size (setR L i v) ∧ Below w.heap.size w w4 ∧ ListIs w4 w2.heap.size L) := (by rw [hw4]; exact ⟨H3.out.1.set _, below_set H3.out.2.1 (Nat.le_refl _) _, H3.out.2.2.setRow H3.out.1 _⟩); clear hw4 H3)
    | (go_at_call 16; refine (all_any _ (setR L i v) _ H4.out.1).mono ?_; rintro e w5 ⟨rfl, hw5⟩; have H5 : Hid (Held w w5 w2.heap.size w4.heap.size L (setR L i v)) := (by rw [hw5]; exact ⟨H4.out.2.1.trans ((allW_below _ _).mono H4.out.2.1.size), H4.out.2.2.more (allW_below _ _), allW_is _ _⟩); clear hw5 H4))
  obtain ⟨x, hx⟩ : ∃ x, x = w2.heap.size := ⟨_, rfl⟩
  obtain ⟨y, hy⟩ : ∃ y, y = w4.heap.size := ⟨_, rfl⟩
  rw [← hx, ← hy] at H5 ⊢
  clear hx hy
  go_loopw [11] (fun ii wr => ∃ k : Nat, k ≤ 8 ∧ ii = .int .i64 k ∧ Held w wr x y L (setR L i v)) (fun ii _ => 8 - (intOf ii).toNat)
  case atStart => exact ⟨0, by omega, rfl, H5.out⟩
  case round =>
    obtain ⟨k, hk, rfl, hI⟩ := hrel
    have HI : Hid (Held w wr x y L (setR L i v)) := hI
    clear hI H5
    by_cases hlt : k < 8
    · have hki : (k : Int) < 8 := by omega
      have c1 := HI.out.x.cell hlt
      have c2 := HI.out.y.cell hlt
      by_cases he : (k : Int) = i
      · rw [set_here hlt he] at c2
        subst he
        go_wp2
        go_quiet (fail)
        go_wp2
        go_roundw
        case rel => exact ⟨k + 1, by omega, by go_num, HI.out.drewN _⟩
        case measure => simp [intOf]; omega
      · rw [set_there he] at c2
        have hb : ((k : Int) == i) = false := by simpa using he
        have hb2 : ((k : Int) != i) = true := by simpa using he
        clear he
        obtain ⟨z, hz⟩ : ∃ z, z = L k := ⟨_, rfl⟩
        rw [← hz] at c1 c2
        clear hz
        go_wp2
        go_quiet (fail)
        go_wp2
        go_roundw
        case rel => exact ⟨k + 1, by omega, by go_num, HI.out.drewN _⟩
        case measure => simp [intOf]; omega
    · obtain rfl : k = 8 := by omega
      go_wp2_with (go_at_call 18; refine (awake_any _).mono ?_; rintro e w9 ⟨rfl, hw9⟩; have H9 : Hid (Below w.heap.size w w9) := HI.out.below.trans (hw9.mono HI.out.below.size); clear hw9)
      go_ret
      exact ⟨rfl, H9.out⟩
set_option maxRecDepth 100000 in
set_option maxHeartbeats 4000000 in
theorem walk_low (a0 : Option Addr) (len0 cap0 : Nat) (i v : Int) (w : World) (C0 : Hid (Came .u64 w.heap.size w a0 len0)) (l0 : len0 ≤ 9223372036854775807) (h0 : ¬ 0 ≤ i) (hE : errR i = 1) :
    Calls Try.prog 6 #[.slice a0 len0 cap0, .int .i64 i, .int .u64 v] w fun e w' => e = .returned (.bool true) ∧ Below w.heap.size w w' := by
  obtain ⟨A, hA⟩ := C0.out.eight
  have HA : Hid (Eight w.heap.size w a0 len0 A) := hA
  obtain ⟨L, hL⟩ : ∃ L, L = loadR (fun _ => 0) len0 A := ⟨_, rfl⟩
  have HL : Hid (L = loadR (fun _ => 0) len0 A) := hL
  clear hA hL C0
  go_enter Try.func6, Try.ntmps6
  go_wp2_with (first
    | (go_at_call 7; refine (new_any _).mono ?_; rintro e w1 ⟨rfl, hw1⟩; have H1 : Hid (FileIs w1 w.heap.size (fun _ => 0) ∧ Below w.heap.size w w1) := (by rw [hw1]; exact ⟨newW_is w, newW_below w⟩); clear hw1)
    | (go_at_call 9; refine (load_any _ _ _ _ w.heap.size (fun _ => 0) A _ H1.out.1 l0 (HA.out.below H1.out.2)).mono ?_; rintro e w2 ⟨rfl, hw2⟩; have H2 : Hid (FileIs w2 w.heap.size L ∧ Below w.heap.size w w2) := (by rw [hw2, ← HL.out]; exact ⟨H1.out.1.set _, below_set H1.out.2 (Nat.le_refl _) _⟩); clear hw2 H1)
    | (go_at_call 16; refine (all_any _ L _ H2.out.1).mono ?_; rintro e w3 ⟨rfl, hw3⟩; have H3 : Hid (FileIs w3 w.heap.size L ∧ Below w.heap.size w w3 ∧ ListIs w3 w2.heap.size L) := (by rw [hw3]; exact ⟨H2.out.1.more (allW_below _ _), H2.out.2.trans ((allW_below _ _).mono H2.out.2.size), allW_is _ _⟩); clear hw3 H2)
    | (go_at_call 11; refine (set_any _ _ _ L _ H3.out.1).mono ?_; rintro e w4 ⟨rfl, hw4⟩; have H4 : Hid (FileIs w4 w.heap.size (setR L i v) ∧ Below w.heap.size w w4 ∧ ListIs w4 w2.heap.size L) := (by rw [hw4]; exact ⟨H3.out.1.set _, below_set H3.out.2.1 (Nat.le_refl _) _, H3.out.2.2.setRow H3.out.1 _⟩); clear hw4 H3)
    | (go_at_call 16; refine (all_any _ (setR L i v) _ H4.out.1).mono ?_; rintro e w5 ⟨rfl, hw5⟩; have H5 : Hid (Held w w5 w2.heap.size w4.heap.size L (setR L i v)) := (by rw [hw5]; exact ⟨H4.out.2.1.trans ((allW_below _ _).mono H4.out.2.1.size), H4.out.2.2.more (allW_below _ _), allW_is _ _⟩); clear hw5 H4))
  obtain ⟨x, hx⟩ : ∃ x, x = w2.heap.size := ⟨_, rfl⟩
  obtain ⟨y, hy⟩ : ∃ y, y = w4.heap.size := ⟨_, rfl⟩
  rw [← hx, ← hy] at H5 ⊢
  clear hx hy
  go_loopw [11] (fun ii wr => ∃ k : Nat, k ≤ 8 ∧ ii = .int .i64 k ∧ Held w wr x y L (setR L i v)) (fun ii _ => 8 - (intOf ii).toNat)
  case atStart => exact ⟨0, by omega, rfl, H5.out⟩
  case round =>
    obtain ⟨k, hk, rfl, hI⟩ := hrel
    have HI : Hid (Held w wr x y L (setR L i v)) := hI
    clear hI H5
    by_cases hlt : k < 8
    · have hki : (k : Int) < 8 := by omega
      have c1 := HI.out.x.cell hlt
      have c2 := HI.out.y.cell hlt
      by_cases he : (k : Int) = i
      · rw [set_here hlt he] at c2
        subst he
        go_wp2
        go_quiet (fail)
        go_wp2
        go_roundw
        case rel => exact ⟨k + 1, by omega, by go_num, HI.out.drewN _⟩
        case measure => simp [intOf]; omega
      · rw [set_there he] at c2
        have hb : ((k : Int) == i) = false := by simpa using he
        have hb2 : ((k : Int) != i) = true := by simpa using he
        clear he
        obtain ⟨z, hz⟩ : ∃ z, z = L k := ⟨_, rfl⟩
        rw [← hz] at c1 c2
        clear hz
        go_wp2
        go_quiet (fail)
        go_wp2
        go_roundw
        case rel => exact ⟨k + 1, by omega, by go_num, HI.out.drewN _⟩
        case measure => simp [intOf]; omega
    · obtain rfl : k = 8 := by omega
      go_wp2_with (go_at_call 18; refine (awake_any _).mono ?_; rintro e w9 ⟨rfl, hw9⟩; have H9 : Hid (Below w.heap.size w w9) := HI.out.below.trans (hw9.mono HI.out.below.size); clear hw9)
      go_ret
      exact ⟨rfl, H9.out⟩
set_option maxRecDepth 100000 in
set_option maxHeartbeats 4000000 in
theorem walk_high (a0 : Option Addr) (len0 cap0 : Nat) (i v : Int) (w : World) (C0 : Hid (Came .u64 w.heap.size w a0 len0)) (l0 : len0 ≤ 9223372036854775807) (h0 : 0 ≤ i) (h8 : ¬ i < 8) (hE : errR i = 1) :
    Calls Try.prog 6 #[.slice a0 len0 cap0, .int .i64 i, .int .u64 v] w fun e w' => e = .returned (.bool true) ∧ Below w.heap.size w w' := by
  obtain ⟨A, hA⟩ := C0.out.eight
  have HA : Hid (Eight w.heap.size w a0 len0 A) := hA
  obtain ⟨L, hL⟩ : ∃ L, L = loadR (fun _ => 0) len0 A := ⟨_, rfl⟩
  have HL : Hid (L = loadR (fun _ => 0) len0 A) := hL
  clear hA hL C0
  go_enter Try.func6, Try.ntmps6
  go_wp2_with (first
    | (go_at_call 7; refine (new_any _).mono ?_; rintro e w1 ⟨rfl, hw1⟩; have H1 : Hid (FileIs w1 w.heap.size (fun _ => 0) ∧ Below w.heap.size w w1) := (by rw [hw1]; exact ⟨newW_is w, newW_below w⟩); clear hw1)
    | (go_at_call 9; refine (load_any _ _ _ _ w.heap.size (fun _ => 0) A _ H1.out.1 l0 (HA.out.below H1.out.2)).mono ?_; rintro e w2 ⟨rfl, hw2⟩; have H2 : Hid (FileIs w2 w.heap.size L ∧ Below w.heap.size w w2) := (by rw [hw2, ← HL.out]; exact ⟨H1.out.1.set _, below_set H1.out.2 (Nat.le_refl _) _⟩); clear hw2 H1)
    | (go_at_call 16; refine (all_any _ L _ H2.out.1).mono ?_; rintro e w3 ⟨rfl, hw3⟩; have H3 : Hid (FileIs w3 w.heap.size L ∧ Below w.heap.size w w3 ∧ ListIs w3 w2.heap.size L) := (by rw [hw3]; exact ⟨H2.out.1.more (allW_below _ _), H2.out.2.trans ((allW_below _ _).mono H2.out.2.size), allW_is _ _⟩); clear hw3 H2)
    | (go_at_call 11; refine (set_any _ _ _ L _ H3.out.1).mono ?_; rintro e w4 ⟨rfl, hw4⟩; have H4 : Hid (FileIs w4 w.heap.size (setR L i v) ∧ Below w.heap.size w w4 ∧ ListIs w4 w2.heap.size L) := (by rw [hw4]; exact ⟨H3.out.1.set _, below_set H3.out.2.1 (Nat.le_refl _) _, H3.out.2.2.setRow H3.out.1 _⟩); clear hw4 H3)
    | (go_at_call 16; refine (all_any _ (setR L i v) _ H4.out.1).mono ?_; rintro e w5 ⟨rfl, hw5⟩; have H5 : Hid (Held w w5 w2.heap.size w4.heap.size L (setR L i v)) := (by rw [hw5]; exact ⟨H4.out.2.1.trans ((allW_below _ _).mono H4.out.2.1.size), H4.out.2.2.more (allW_below _ _), allW_is _ _⟩); clear hw5 H4))
  obtain ⟨x, hx⟩ : ∃ x, x = w2.heap.size := ⟨_, rfl⟩
  obtain ⟨y, hy⟩ : ∃ y, y = w4.heap.size := ⟨_, rfl⟩
  rw [← hx, ← hy] at H5 ⊢
  clear hx hy
  go_loopw [11] (fun ii wr => ∃ k : Nat, k ≤ 8 ∧ ii = .int .i64 k ∧ Held w wr x y L (setR L i v)) (fun ii _ => 8 - (intOf ii).toNat)
  case atStart => exact ⟨0, by omega, rfl, H5.out⟩
  case round =>
    obtain ⟨k, hk, rfl, hI⟩ := hrel
    have HI : Hid (Held w wr x y L (setR L i v)) := hI
    clear hI H5
    by_cases hlt : k < 8
    · have hki : (k : Int) < 8 := by omega
      have c1 := HI.out.x.cell hlt
      have c2 := HI.out.y.cell hlt
      by_cases he : (k : Int) = i
      · rw [set_here hlt he] at c2
        subst he
        go_wp2
        go_quiet (fail)
        go_wp2
        go_roundw
        case rel => exact ⟨k + 1, by omega, by go_num, HI.out.drewN _⟩
        case measure => simp [intOf]; omega
      · rw [set_there he] at c2
        have hb : ((k : Int) == i) = false := by simpa using he
        have hb2 : ((k : Int) != i) = true := by simpa using he
        clear he
        obtain ⟨z, hz⟩ : ∃ z, z = L k := ⟨_, rfl⟩
        rw [← hz] at c1 c2
        clear hz
        go_wp2
        go_quiet (fail)
        go_wp2
        go_roundw
        case rel => exact ⟨k + 1, by omega, by go_num, HI.out.drewN _⟩
        case measure => simp [intOf]; omega
    · obtain rfl : k = 8 := by omega
      go_wp2_with (go_at_call 18; refine (awake_any _).mono ?_; rintro e w9 ⟨rfl, hw9⟩; have H9 : Hid (Below w.heap.size w w9) := HI.out.below.trans (hw9.mono HI.out.below.size); clear hw9)
      go_ret
      exact ⟨rfl, H9.out⟩

/-! ### STEP 1: THE WALK: the Go text returns true, AND WRITES NOTHING THAT WAS THERE: 'Below w.heap.size w w'' (Derived/Below.lean: '.refl', '.alloc', '.drew', '.setCell' at a new block, '.trans'). Open each 'IsRow' by 'rcases' AHEAD of 'go_enter'; part every test ahead of the walk. -/
theorem walk (a0 : Option Addr) (len0 cap0 : Nat) (z0 : List Int) (a1 : Int) (a2 : Int) (w : World) (w0 : IsRow .u64 w a0 len0 cap0 z0) (w1 : (Lit.int .i64 a1).wf = true) (w2 : (Lit.int .u64 a2).wf = true) :
    Calls Try.prog 6 #[.slice a0 len0 cap0, .int .i64 a1, .int .u64 a2] w fun e w' => e = .returned (.bool true) ∧ Below w.heap.size w w' := by
  obtain ⟨hC0, hl0⟩ := came_of_row w0
  by_cases h0 : 0 ≤ a1
  · by_cases h8 : a1 < 8
    · exact walk_good a0 len0 cap0 a1 a2 w hC0 hl0 h0 h8 (by simp [errR, okR, h0, h8])
    · exact walk_high a0 len0 cap0 a1 a2 w hC0 hl0 h0 h8 (by simp [errR, okR, h8])
  · exact walk_low a0 len0 cap0 a1 a2 w hC0 hl0 h0 (by simp [errR, okR, h0])

/-! ### THE ROW's STEP: WRITTEN OUT: LEAVE IT -/
set_option maxRecDepth 100000 in
theorem lifted (os : Os) (started : os.Started) (H : Type) (enc : TypeId × Value → H) :
    ReturnsInHanded {} Try.checked os 6 .any (Rows.regsOneSpec.pre6 enc Try.prog Try.f6 Rows.regsOneRow.domain false) (Rows.regsOneSpec.post enc Try.prog Try.f6 false true false false) := by
  refine returnsInHanded_of_change (C := Try.checked) own started (by kernel_rfl) Try.func6
    (ChangeSpec.witness6 (enc := enc) (C := Try.checked) false ⟨#[], #[.slice none 0 0, .int .i64 0, .int .u64 0], []⟩ 8 (by kernel_rfl) (by kernel_rfl) (by kernel_rfl) (by kernel_rfl)) ?_
  intro W base args ds gs before hval0 hW hcnd _
  have hval : ∀ (j : Nat) t v, Try.f6.params[j]? = some t → args[j]? = some v → Value.okWide Try.prog W .any base t v := hval0
  have hW' := hW
  obtain ⟨p, q, hA0, hV, rfl, hfz, hnd⟩ := hW
  have hA : DataW.TrodAll enc Try.prog W 0 (fun _ => true) true Try.f6.params.toList args.toList ds p := hA0
  rw [Try.params6] at hA hval
  obtain ⟨v0, vs0, d0, ds0, p0, q0, hargs, rfl, rfl, h0, r0⟩ := trodAll_cons hA
  obtain ⟨v1, vs1, d1, ds1, p1, q1, rfl, rfl, rfl, h1, r1⟩ := trodAll_cons r0
  obtain ⟨v2, vs2, d2, ds2, p2, q2, rfl, rfl, rfl, h2, r2⟩ := trodAll_cons r1
  obtain ⟨rfl, rfl, rfl⟩ := trodAll_nil r2
  obtain rfl : args = #[v0, v1, v2] := by cases args; simp_all
  obtain ⟨rfl, rfl⟩ := trodVars_none hV
  obtain ⟨a0, len0, cap0, rfl⟩ := okWide_slice Try.underlying24 (hval 0 24 v0 rfl rfl)
  have k0 := h0
  have lt0 : ∀ x ∈ p0, x.block < W.heap.size := by obtain ⟨m, hm⟩ := k0; exact DataW.trod_lt m _ _ _ hm
  obtain ⟨z0, w0⟩ : ∃ zs, IsRow .u64 W a0 len0 cap0 zs := by
    obtain ⟨fuel, hf⟩ := h0
    rcases open_ints Try.underlying24 Try.underlying33 (by kernel_rfl) hf with ⟨hcs, _⟩ | ⟨x, l, c, zs, hcs, _, hl, hm, hz, _, hcell, hwz⟩
    · simp [Value.cells] at hcs
      obtain ⟨rfl, rfl, rfl⟩ := hcs
      exact ⟨[], .inl ⟨rfl, rfl, rfl, rfl⟩⟩
    · simp [Value.cells] at hcs
      obtain ⟨rfl, rfl, rfl⟩ := hcs
      exact ⟨zs, .inr ⟨_, rfl, hl, hm, by simpa using hz, hcell, hwz⟩⟩
  obtain ⟨a1, rfl, rfl, rfl, w1⟩ := open_int Try.underlying3 (hval 1 3 v1 rfl rfl) h1
  obtain ⟨a2, rfl, rfl, rfl, w2⟩ := open_int Try.underlying33 (hval 2 33 v2 rfl rfl) h2
  clear hA0 hval0
  refine (walk a0 len0 cap0 z0 a1 a2 W w0 w1 w2).mono fun e W' ⟨he, bel⟩ => ?_
  subst he
  exact ⟨_, rfl, _, _, _, [], _, [], hW', trodAll_mk1 (shut_bool Try.underlying4 _), (trodAll_cons_mk (Below.trod laidOut (by kernel_rfl) (of_decide_eq_true (by kernel_rfl)) k0 bel lt0) (trodAll_cons_mk (shut_int Try.underlying3 w1) (trodAll_cons_mk (shut_int Try.underlying33 w2) trodAll_mk0))), rfl, bel.frame _, fun h => by cases h⟩

theorem over : Rows.regsOneRow.holds Try.pinned (OpenSpec.ofChange Rows.regsOneSpec) :=
  OpenClaim.holds_of_wide 6 Try.f6 rfl rfl rfl rfl rfl rfl rfl ⟨rfl, rfl, rfl, rfl, rfl⟩ rfl rfl rfl rfl rfl (by kernel_rfl) Try.func6 (by kernel_rfl)
    (of_decide_eq_true (by kernel_rfl)) (by unfold Func.isWrapper; first | (rw [if_pos (by decide +kernel)]; kernel_rfl) | (rw [if_neg (by decide +kernel)]; exact ⟨rfl, rfl⟩))
    (fun os started H enc _ => lifted os started H enc)

/-- ████ THE STATEMENT ████ -/
theorem proved : Rows.RegsOneSaid := over
end Go.Proofs.Ytnhdlgijjjkmdaa.regsOne
namespace Go.Proofs.Ytnhdlgijjjkmdaa
theorem regsOne_holds : Rows.RegsOneSaid := regsOne.proved
#print axioms regsOne_holds
end Go.Proofs.Ytnhdlgijjjkmdaa
