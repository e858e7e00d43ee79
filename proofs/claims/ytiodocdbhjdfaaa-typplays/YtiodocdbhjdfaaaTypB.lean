/- What the calls of package typ answer, and what they do to the frames, for every argument that their types allow: all but New. -/
import Derived.Test.YtiodocdbhjdfaaaTypA
namespace Go.Proofs.Ytiodocdbhjdfaaa
open Go.RowKit
set_option linter.unusedVariables false

/-- What is told of a frame, whatever its number. -/
theorem told_any (p r N : Nat) (f : Int) (S : Nat → FS) (w : World) (hN1 : 1 ≤ N) (hN : N ≤ 64) (h : TblIs w p r N S) :
    Calls Try.prog 28 #[.pointer (some ⟨p, 0, none⟩), .int .i64 f] w fun e w' => e = .returned (.agg #[.int .i64 (toldA N S f).is, .int .i64 (toldA N S f).was, .int .i64 (toldA N S f).cnt, .int .i64 (toldA N S f).fr]) ∧ Below w.heap.size w w' := by
  cases hk : okF N f
  · simp only [toldA, hk, Bool.false_eq_true, if_false]
    exact told_bad p r N f w (okF_no hk) hN1 hN h.cell h.lt
  · obtain ⟨n, rfl, hn⟩ := okF_split hk
    simp only [toldA, hk, if_true, Int.toNat_natCast]
    obtain ⟨h0, h1, h2, h3⟩ := h.at hn
    exact told_ok p r N n _ _ _ _ w hn hN h.cell h.lt h.ltr h0 h1 h2 h3
theorem type_any (p r N : Nat) (f : Int) (S : Nat → FS) (w : World) (hN1 : 1 ≤ N) (hN : N ≤ 64) (h : TblIs w p r N S) :
    Calls Try.prog 19 #[.pointer (some ⟨p, 0, none⟩), .int .i64 f] w fun e w' => e = .returned (.int .i64 (toldA N S f).is) ∧ Below w.heap.size w w' := by
  have HT := told_any p r N f S w hN1 hN h
  obtain ⟨y, hy⟩ : ∃ y, y = toldA N S f := ⟨_, rfl⟩
  rw [← hy] at HT ⊢
  obtain ⟨y0, y1, y2, y3⟩ := y
  simp only at HT ⊢
  have HT' : Hid (Calls Try.prog 28 #[.pointer (some ⟨p, 0, none⟩), .int .i64 f] w fun e w' => e = .returned (.agg #[.int .i64 y0, .int .i64 y1, .int .i64 y2, .int .i64 y3]) ∧ Below w.heap.size w w') := HT
  clear hy HT h
  have hfd : ∀ (x0 x1 x2 x3 : Int) (w : World), (Instr.field 51 (.agg #[.int .i64 x0, .int .i64 x1, .int .i64 x2, .int .i64 x3]) 0).run Try.prog w = .ok (.int .i64 x0) w := fun _ _ _ _ _ => by kernel_rfl
  go_enter Try.func19, Try.ntmps19
  go_wp2_with (go_at_call 28; refine HT'.out.mono ?_; rintro e w' ⟨rfl, hm⟩)
  go_ret
  exact ⟨rfl, hm⟩
theorem type_nil (f : Int) (w : World) :
    Calls Try.prog 19 #[.pointer none, .int .i64 f] w fun e w' => e = .returned (.int .i64 0) ∧ Below w.heap.size w w' := by
  have hfd : ∀ (x0 x1 x2 x3 : Int) (w : World), (Instr.field 51 (.agg #[.int .i64 x0, .int .i64 x1, .int .i64 x2, .int .i64 x3]) 0).run Try.prog w = .ok (.int .i64 x0) w := fun _ _ _ _ _ => by kernel_rfl
  go_enter Try.func19, Try.ntmps19
  go_wp2_with (go_at_call 28; refine (told_nil f _).mono ?_; rintro e w' ⟨rfl, hm⟩)
  go_ret
  exact ⟨rfl, hm⟩
theorem type_zero (p : Nat) (f : Int) (w : World) (hp : w.cell? ⟨p, 0, none⟩ = some (.slice none 0 0)) (hlt : p < w.heap.size) :
    Calls Try.prog 19 #[.pointer (some ⟨p, 0, none⟩), .int .i64 f] w fun e w' => e = .returned (.int .i64 0) ∧ Below w.heap.size w w' := by
  have hfd : ∀ (x0 x1 x2 x3 : Int) (w : World), (Instr.field 51 (.agg #[.int .i64 x0, .int .i64 x1, .int .i64 x2, .int .i64 x3]) 0).run Try.prog w = .ok (.int .i64 x0) w := fun _ _ _ _ _ => by kernel_rfl
  go_enter Try.func19, Try.ntmps19
  go_wp2_with (go_at_call 28; refine (told_zero p f _ hp hlt).mono ?_; rintro e w' ⟨rfl, hm⟩)
  go_ret
  exact ⟨rfl, hm⟩
theorem count_any (p r N : Nat) (f : Int) (S : Nat → FS) (w : World) (hN1 : 1 ≤ N) (hN : N ≤ 64) (h : TblIs w p r N S) :
    Calls Try.prog 20 #[.pointer (some ⟨p, 0, none⟩), .int .i64 f] w fun e w' => e = .returned (.int .i64 (toldA N S f).cnt) ∧ Below w.heap.size w w' := by
  have HT := told_any p r N f S w hN1 hN h
  obtain ⟨y, hy⟩ : ∃ y, y = toldA N S f := ⟨_, rfl⟩
  rw [← hy] at HT ⊢
  obtain ⟨y0, y1, y2, y3⟩ := y
  simp only at HT ⊢
  have HT' : Hid (Calls Try.prog 28 #[.pointer (some ⟨p, 0, none⟩), .int .i64 f] w fun e w' => e = .returned (.agg #[.int .i64 y0, .int .i64 y1, .int .i64 y2, .int .i64 y3]) ∧ Below w.heap.size w w') := HT
  clear hy HT h
  have hfd : ∀ (x0 x1 x2 x3 : Int) (w : World), (Instr.field 51 (.agg #[.int .i64 x0, .int .i64 x1, .int .i64 x2, .int .i64 x3]) 2).run Try.prog w = .ok (.int .i64 x2) w := fun _ _ _ _ _ => by kernel_rfl
  go_enter Try.func20, Try.ntmps20
  go_wp2_with (go_at_call 28; refine HT'.out.mono ?_; rintro e w' ⟨rfl, hm⟩)
  go_ret
  exact ⟨rfl, hm⟩
theorem count_nil (f : Int) (w : World) :
    Calls Try.prog 20 #[.pointer none, .int .i64 f] w fun e w' => e = .returned (.int .i64 0) ∧ Below w.heap.size w w' := by
  have hfd : ∀ (x0 x1 x2 x3 : Int) (w : World), (Instr.field 51 (.agg #[.int .i64 x0, .int .i64 x1, .int .i64 x2, .int .i64 x3]) 2).run Try.prog w = .ok (.int .i64 x2) w := fun _ _ _ _ _ => by kernel_rfl
  go_enter Try.func20, Try.ntmps20
  go_wp2_with (go_at_call 28; refine (told_nil f _).mono ?_; rintro e w' ⟨rfl, hm⟩)
  go_ret
  exact ⟨rfl, hm⟩
theorem count_zero (p : Nat) (f : Int) (w : World) (hp : w.cell? ⟨p, 0, none⟩ = some (.slice none 0 0)) (hlt : p < w.heap.size) :
    Calls Try.prog 20 #[.pointer (some ⟨p, 0, none⟩), .int .i64 f] w fun e w' => e = .returned (.int .i64 0) ∧ Below w.heap.size w w' := by
  have hfd : ∀ (x0 x1 x2 x3 : Int) (w : World), (Instr.field 51 (.agg #[.int .i64 x0, .int .i64 x1, .int .i64 x2, .int .i64 x3]) 2).run Try.prog w = .ok (.int .i64 x2) w := fun _ _ _ _ _ => by kernel_rfl
  go_enter Try.func20, Try.ntmps20
  go_wp2_with (go_at_call 28; refine (told_zero p f _ hp hlt).mono ?_; rintro e w' ⟨rfl, hm⟩)
  go_ret
  exact ⟨rfl, hm⟩
theorem freed_any (p r N : Nat) (f : Int) (S : Nat → FS) (w : World) (hN1 : 1 ≤ N) (hN : N ≤ 64) (h : TblIs w p r N S) :
    Calls Try.prog 21 #[.pointer (some ⟨p, 0, none⟩), .int .i64 f] w fun e w' => e = .returned (.int .i64 (toldA N S f).fr) ∧ Below w.heap.size w w' := by
  have HT := told_any p r N f S w hN1 hN h
  obtain ⟨y, hy⟩ : ∃ y, y = toldA N S f := ⟨_, rfl⟩
  rw [← hy] at HT ⊢
  obtain ⟨y0, y1, y2, y3⟩ := y
  simp only at HT ⊢
  have HT' : Hid (Calls Try.prog 28 #[.pointer (some ⟨p, 0, none⟩), .int .i64 f] w fun e w' => e = .returned (.agg #[.int .i64 y0, .int .i64 y1, .int .i64 y2, .int .i64 y3]) ∧ Below w.heap.size w w') := HT
  clear hy HT h
  have hfd : ∀ (x0 x1 x2 x3 : Int) (w : World), (Instr.field 51 (.agg #[.int .i64 x0, .int .i64 x1, .int .i64 x2, .int .i64 x3]) 3).run Try.prog w = .ok (.int .i64 x3) w := fun _ _ _ _ _ => by kernel_rfl
  go_enter Try.func21, Try.ntmps21
  go_wp2_with (go_at_call 28; refine HT'.out.mono ?_; rintro e w' ⟨rfl, hm⟩)
  go_ret
  exact ⟨rfl, hm⟩
theorem freed_nil (f : Int) (w : World) :
    Calls Try.prog 21 #[.pointer none, .int .i64 f] w fun e w' => e = .returned (.int .i64 (-1)) ∧ Below w.heap.size w w' := by
  have hfd : ∀ (x0 x1 x2 x3 : Int) (w : World), (Instr.field 51 (.agg #[.int .i64 x0, .int .i64 x1, .int .i64 x2, .int .i64 x3]) 3).run Try.prog w = .ok (.int .i64 x3) w := fun _ _ _ _ _ => by kernel_rfl
  go_enter Try.func21, Try.ntmps21
  go_wp2_with (go_at_call 28; refine (told_nil f _).mono ?_; rintro e w' ⟨rfl, hm⟩)
  go_ret
  exact ⟨rfl, hm⟩
theorem freed_zero (p : Nat) (f : Int) (w : World) (hp : w.cell? ⟨p, 0, none⟩ = some (.slice none 0 0)) (hlt : p < w.heap.size) :
    Calls Try.prog 21 #[.pointer (some ⟨p, 0, none⟩), .int .i64 f] w fun e w' => e = .returned (.int .i64 (-1)) ∧ Below w.heap.size w w' := by
  have hfd : ∀ (x0 x1 x2 x3 : Int) (w : World), (Instr.field 51 (.agg #[.int .i64 x0, .int .i64 x1, .int .i64 x2, .int .i64 x3]) 3).run Try.prog w = .ok (.int .i64 x3) w := fun _ _ _ _ _ => by kernel_rfl
  go_enter Try.func21, Try.ntmps21
  go_wp2_with (go_at_call 28; refine (told_zero p f _ hp hlt).mono ?_; rintro e w' ⟨rfl, hm⟩)
  go_ret
  exact ⟨rfl, hm⟩
theorem was_any (p r N : Nat) (f : Int) (S : Nat → FS) (w : World) (hN1 : 1 ≤ N) (hN : N ≤ 64) (h : TblIs w p r N S) :
    Calls Try.prog 22 #[.pointer (some ⟨p, 0, none⟩), .int .i64 f] w fun e w' => e = .returned (.int .i64 (toldA N S f).was) ∧ Below w.heap.size w w' := by
  have HT := told_any p r N f S w hN1 hN h
  obtain ⟨y, hy⟩ : ∃ y, y = toldA N S f := ⟨_, rfl⟩
  rw [← hy] at HT ⊢
  obtain ⟨y0, y1, y2, y3⟩ := y
  simp only at HT ⊢
  have HT' : Hid (Calls Try.prog 28 #[.pointer (some ⟨p, 0, none⟩), .int .i64 f] w fun e w' => e = .returned (.agg #[.int .i64 y0, .int .i64 y1, .int .i64 y2, .int .i64 y3]) ∧ Below w.heap.size w w') := HT
  clear hy HT h
  have hfd : ∀ (x0 x1 x2 x3 : Int) (w : World), (Instr.field 51 (.agg #[.int .i64 x0, .int .i64 x1, .int .i64 x2, .int .i64 x3]) 1).run Try.prog w = .ok (.int .i64 x1) w := fun _ _ _ _ _ => by kernel_rfl
  go_enter Try.func22, Try.ntmps22
  go_wp2_with (go_at_call 28; refine HT'.out.mono ?_; rintro e w' ⟨rfl, hm⟩)
  go_ret
  exact ⟨rfl, hm⟩
theorem was_nil (f : Int) (w : World) :
    Calls Try.prog 22 #[.pointer none, .int .i64 f] w fun e w' => e = .returned (.int .i64 0) ∧ Below w.heap.size w w' := by
  have hfd : ∀ (x0 x1 x2 x3 : Int) (w : World), (Instr.field 51 (.agg #[.int .i64 x0, .int .i64 x1, .int .i64 x2, .int .i64 x3]) 1).run Try.prog w = .ok (.int .i64 x1) w := fun _ _ _ _ _ => by kernel_rfl
  go_enter Try.func22, Try.ntmps22
  go_wp2_with (go_at_call 28; refine (told_nil f _).mono ?_; rintro e w' ⟨rfl, hm⟩)
  go_ret
  exact ⟨rfl, hm⟩
theorem was_zero (p : Nat) (f : Int) (w : World) (hp : w.cell? ⟨p, 0, none⟩ = some (.slice none 0 0)) (hlt : p < w.heap.size) :
    Calls Try.prog 22 #[.pointer (some ⟨p, 0, none⟩), .int .i64 f] w fun e w' => e = .returned (.int .i64 0) ∧ Below w.heap.size w w' := by
  have hfd : ∀ (x0 x1 x2 x3 : Int) (w : World), (Instr.field 51 (.agg #[.int .i64 x0, .int .i64 x1, .int .i64 x2, .int .i64 x3]) 1).run Try.prog w = .ok (.int .i64 x1) w := fun _ _ _ _ _ => by kernel_rfl
  go_enter Try.func22, Try.ntmps22
  go_wp2_with (go_at_call 28; refine (told_zero p f _ hp hlt).mono ?_; rintro e w' ⟨rfl, hm⟩)
  go_ret
  exact ⟨rfl, hm⟩
theorem retype_bad (p r N : Nat) (f : Int) (to : Int) (q : Bool) (w : World) (hf : ¬ (0 ≤ f ∧ f < N)) (hN1 : 1 ≤ N) (hN : N ≤ 64) (hp : w.cell? ⟨p, 0, none⟩ = some (.slice (some ⟨r, 0, none⟩) N N)) :
    Calls Try.prog 10 #[.pointer (some ⟨p, 0, none⟩), .int .i64 f, .int .i64 to, .bool q] w fun e w' => e = .returned (.int .i64 1) ∧ w' = w := by
  have HF : Hid (¬ (0 ≤ f ∧ f < N)) := hf
  clear hf
  go_enter Try.func10, Try.ntmps10
  go_wp2_with (go_at_call 24; refine (frame_bad p r N f _ HF.out hN1 hN hp).mono ?_; rintro e w' ⟨rfl, rfl⟩)
  go_ret
  exact ⟨rfl, rfl⟩
theorem retype_nil (f : Int) (to : Int) (q : Bool) (w : World) :
    Calls Try.prog 10 #[.pointer none, .int .i64 f, .int .i64 to, .bool q] w fun e w' => e = .returned (.int .i64 13) ∧ w' = w := by
  go_enter Try.func10, Try.ntmps10
  go_wp2_with (go_at_call 24; refine (frame_nil f _).mono ?_; rintro e w' ⟨rfl, rfl⟩)
  go_ret
  exact ⟨rfl, rfl⟩
theorem retype_zero (p : Nat) (f : Int) (to : Int) (q : Bool) (w : World) (hp : w.cell? ⟨p, 0, none⟩ = some (.slice none 0 0)) :
    Calls Try.prog 10 #[.pointer (some ⟨p, 0, none⟩), .int .i64 f, .int .i64 to, .bool q] w fun e w' => e = .returned (.int .i64 13) ∧ w' = w := by
  go_enter Try.func10, Try.ntmps10
  go_wp2_with (go_at_call 24; refine (frame_zero p f _ hp).mono ?_; rintro e w' ⟨rfl, rfl⟩)
  go_ret
  exact ⟨rfl, rfl⟩
theorem untype_bad (p r N : Nat) (f : Int) (now : Int) (pg : Bool) (w : World) (hf : ¬ (0 ≤ f ∧ f < N)) (hN1 : 1 ≤ N) (hN : N ≤ 64) (hp : w.cell? ⟨p, 0, none⟩ = some (.slice (some ⟨r, 0, none⟩) N N)) :
    Calls Try.prog 12 #[.pointer (some ⟨p, 0, none⟩), .int .i64 f, .int .i64 now, .bool pg] w fun e w' => e = .returned (.int .i64 1) ∧ w' = w := by
  have HF : Hid (¬ (0 ≤ f ∧ f < N)) := hf
  clear hf
  go_enter Try.func12, Try.ntmps12
  go_wp2_with (go_at_call 26; refine (typed_bad p r N f 0 _ HF.out hN1 hN hp).mono ?_; rintro e w' ⟨rfl, rfl⟩)
  go_ret
  exact ⟨rfl, rfl⟩
theorem untype_nil (f : Int) (now : Int) (pg : Bool) (w : World) :
    Calls Try.prog 12 #[.pointer none, .int .i64 f, .int .i64 now, .bool pg] w fun e w' => e = .returned (.int .i64 13) ∧ w' = w := by
  go_enter Try.func12, Try.ntmps12
  go_wp2_with (go_at_call 26; refine (typed_nil f 0 _).mono ?_; rintro e w' ⟨rfl, rfl⟩)
  go_ret
  exact ⟨rfl, rfl⟩
theorem untype_zero (p : Nat) (f : Int) (now : Int) (pg : Bool) (w : World) (hp : w.cell? ⟨p, 0, none⟩ = some (.slice none 0 0)) :
    Calls Try.prog 12 #[.pointer (some ⟨p, 0, none⟩), .int .i64 f, .int .i64 now, .bool pg] w fun e w' => e = .returned (.int .i64 13) ∧ w' = w := by
  go_enter Try.func12, Try.ntmps12
  go_wp2_with (go_at_call 26; refine (typed_zero p f 0 _ hp).mono ?_; rintro e w' ⟨rfl, rfl⟩)
  go_ret
  exact ⟨rfl, rfl⟩
theorem ref_bad (p r N : Nat) (f : Int)  (w : World) (hf : ¬ (0 ≤ f ∧ f < N)) (hN1 : 1 ≤ N) (hN : N ≤ 64) (hp : w.cell? ⟨p, 0, none⟩ = some (.slice (some ⟨r, 0, none⟩) N N)) :
    Calls Try.prog 14 #[.pointer (some ⟨p, 0, none⟩), .int .i64 f] w fun e w' => e = .returned (.int .i64 1) ∧ w' = w := by
  have HF : Hid (¬ (0 ≤ f ∧ f < N)) := hf
  clear hf
  go_enter Try.func14, Try.ntmps14
  go_wp2_with (go_at_call 26; refine (typed_bad p r N f 1 _ HF.out hN1 hN hp).mono ?_; rintro e w' ⟨rfl, rfl⟩)
  go_ret
  exact ⟨rfl, rfl⟩
theorem ref_nil (f : Int)  (w : World) :
    Calls Try.prog 14 #[.pointer none, .int .i64 f] w fun e w' => e = .returned (.int .i64 13) ∧ w' = w := by
  go_enter Try.func14, Try.ntmps14
  go_wp2_with (go_at_call 26; refine (typed_nil f 1 _).mono ?_; rintro e w' ⟨rfl, rfl⟩)
  go_ret
  exact ⟨rfl, rfl⟩
theorem ref_zero (p : Nat) (f : Int)  (w : World) (hp : w.cell? ⟨p, 0, none⟩ = some (.slice none 0 0)) :
    Calls Try.prog 14 #[.pointer (some ⟨p, 0, none⟩), .int .i64 f] w fun e w' => e = .returned (.int .i64 13) ∧ w' = w := by
  go_enter Try.func14, Try.ntmps14
  go_wp2_with (go_at_call 26; refine (typed_zero p f 1 _ hp).mono ?_; rintro e w' ⟨rfl, rfl⟩)
  go_ret
  exact ⟨rfl, rfl⟩
theorem unref_bad (p r N : Nat) (f : Int) (now : Int) (w : World) (hf : ¬ (0 ≤ f ∧ f < N)) (hN1 : 1 ≤ N) (hN : N ≤ 64) (hp : w.cell? ⟨p, 0, none⟩ = some (.slice (some ⟨r, 0, none⟩) N N)) :
    Calls Try.prog 16 #[.pointer (some ⟨p, 0, none⟩), .int .i64 f, .int .i64 now] w fun e w' => e = .returned (.int .i64 1) ∧ w' = w := by
  have HF : Hid (¬ (0 ≤ f ∧ f < N)) := hf
  clear hf
  go_enter Try.func16, Try.ntmps16
  go_wp2_with (go_at_call 24; refine (frame_bad p r N f _ HF.out hN1 hN hp).mono ?_; rintro e w' ⟨rfl, rfl⟩)
  go_ret
  exact ⟨rfl, rfl⟩
theorem unref_nil (f : Int) (now : Int) (w : World) :
    Calls Try.prog 16 #[.pointer none, .int .i64 f, .int .i64 now] w fun e w' => e = .returned (.int .i64 13) ∧ w' = w := by
  go_enter Try.func16, Try.ntmps16
  go_wp2_with (go_at_call 24; refine (frame_nil f _).mono ?_; rintro e w' ⟨rfl, rfl⟩)
  go_ret
  exact ⟨rfl, rfl⟩
theorem unref_zero (p : Nat) (f : Int) (now : Int) (w : World) (hp : w.cell? ⟨p, 0, none⟩ = some (.slice none 0 0)) :
    Calls Try.prog 16 #[.pointer (some ⟨p, 0, none⟩), .int .i64 f, .int .i64 now] w fun e w' => e = .returned (.int .i64 13) ∧ w' = w := by
  go_enter Try.func16, Try.ntmps16
  go_wp2_with (go_at_call 24; refine (frame_zero p f _ hp).mono ?_; rintro e w' ⟨rfl, rfl⟩)
  go_ret
  exact ⟨rfl, rfl⟩

/-! ### The calls at a frame, its four cells told -/
theorem retype_ok (p r N n : Nat) (to : Int) (q : Bool) (s : FS) (w : World) (hn : n < N) (hN : N ≤ 64) (hp : w.cell? ⟨p, 0, none⟩ = some (.slice (some ⟨r, 0, none⟩) N N)) (h0 : w.cell? ⟨r, n * 4, none⟩ = some (.int .i64 s.is)) (z0 : w.frozen? ⟨r, n * 4, none⟩ = false) :
    Calls Try.prog 10 #[.pointer (some ⟨p, 0, none⟩), .int .i64 n, .int .i64 to, .bool q] w fun e w' => e = .returned (.int .i64 (hRt to q s)) ∧ w' = if (to = 1 ∨ to = 2) ∧ s.is = 0 ∧ q = true then w.setCell ⟨r, n * 4, none⟩ (.int .i64 to) else w := by
  obtain ⟨i, c1, c2, c3⟩ := s
  simp only [hRt] at h0 ⊢
  by_cases ht : to = 1 ∨ to = 2
  · by_cases hi : i = 0
    · subst hi
      cases q
      · rcases ht with rfl | rfl
        all_goals
          simp only [true_or, or_true, if_true, Bool.false_eq_true, and_false, if_false]
          go_enter Try.func10, Try.ntmps10
          go_wp2_with (go_at_call 24; refine (frame_ok p r N n _ hn hN hp).mono ?_; rintro e w' ⟨rfl, rfl⟩)
          go_ret
          exact ⟨rfl, rfl⟩
      · rcases ht with rfl | rfl
        all_goals
          simp only [true_or, or_true, if_true, and_self]
          go_enter Try.func10, Try.ntmps10
          go_wp2_with (go_at_call 24; refine (frame_ok p r N n _ hn hN hp).mono ?_; rintro e w' ⟨rfl, rfl⟩)
          go_ret
          exact ⟨rfl, rfl⟩
    · have hi' : (i == 0) = false := by simpa using hi
      simp only [hi, if_false, false_and, and_false]
      rcases ht with rfl | rfl
      all_goals
        simp only [true_or, or_true, if_true]
        go_enter Try.func10, Try.ntmps10
        go_wp2_with (go_at_call 24; refine (frame_ok p r N n _ hn hN hp).mono ?_; rintro e w' ⟨rfl, rfl⟩)
        go_ret
        exact ⟨rfl, rfl⟩
  · simp only [ht, if_false, false_and]
    have t1 : (to == 1) = false := by simp; omega
    have t2 : (to == 2) = false := by simp; omega
    have t3 : (to != 1) = true := by simp; omega
    have t4 : (to != 2) = true := by simp; omega
    clear ht
    go_enter Try.func10, Try.ntmps10
    go_wp2_with (go_at_call 24; refine (frame_ok p r N n _ hn hN hp).mono ?_; rintro e w' ⟨rfl, rfl⟩)
    go_ret
    exact ⟨rfl, rfl⟩
theorem retype_any (p r N : Nat) (f to : Int) (q : Bool) (S : Nat → FS) (w : World) (hN1 : 1 ≤ N) (hN : N ≤ 64) (h : TblIs w p r N S) :
    Calls Try.prog 10 #[.pointer (some ⟨p, 0, none⟩), .int .i64 f, .int .i64 to, .bool q] w fun e w' => e = .returned (.int .i64 (errA N S f (hRt to q))) ∧ w' = w.setRow r (cellsT N (mapA N S f (gRt to q))) := by
  cases hk : okF N f
  · simp only [errA, mapA, hk, Bool.false_eq_true, if_false, h.self]
    exact retype_bad p r N f to q w (okF_no hk) hN1 hN h.cell
  · obtain ⟨n, rfl, hn⟩ := okF_split hk
    simp only [errA, mapA, hk, if_true, Int.toNat_natCast]
    refine (retype_ok p r N n to q (S n) w hn hN h.cell (h.at hn).1 (h.free _)).mono ?_
    rintro e w' ⟨rfl, rfl⟩
    refine ⟨rfl, ?_⟩
    by_cases c : (to = 1 ∨ to = 2) ∧ (S n).is = 0 ∧ q = true
    · rw [if_pos c, h.put0 hn]
      simp [gRt, c.1, c.2.1, c.2.2, setF]
    · rw [if_neg c]
      have : gRt to q (S n) = S n := by
        unfold gRt
        split
        · split
          · split
            · exact absurd ⟨by assumption, by assumption, by assumption⟩ c
            · rfl
          · rfl
        · rfl
      rw [this, upd_self, h.self]

theorem untype_no (p r N n : Nat) (now : Int) (pg : Bool) (i c x : Int) (w : World) (hx : x = if i = 0 then 4 else if c = 0 then 0 else 10) (hx0 : (x != 0) = true) (hn : n < N) (hN : N ≤ 64) (hp : w.cell? ⟨p, 0, none⟩ = some (.slice (some ⟨r, 0, none⟩) N N))
    (h0 : w.cell? ⟨r, n * 4, none⟩ = some (.int .i64 i)) (h2 : w.cell? ⟨r, n * 4 + 2, none⟩ = some (.int .i64 c)) (hc : 0 ≤ c) :
    Calls Try.prog 12 #[.pointer (some ⟨p, 0, none⟩), .int .i64 n, .int .i64 now, .bool pg] w fun e w' => e = .returned (.int .i64 x) ∧ w' = w := by
  have HT := typed_ut p r N n i c w hn hN hp h0 h2 hc
  rw [← hx] at HT
  have HT' : Hid (Calls Try.prog 26 #[.pointer (some ⟨p, 0, none⟩), .int .i64 n, .int .i64 0] w fun e w' => e = .returned (.tuple #[.pointer (some ⟨r, n * 4, none⟩), .int .i64 x]) ∧ w' = w) := HT
  clear HT hx
  go_enter Try.func12, Try.ntmps12
  go_wp2_with (go_at_call 26; refine HT'.out.mono ?_; rintro e w1 ⟨rfl, hw1⟩; subst w1)
  go_ret
  exact ⟨rfl, rfl⟩
theorem untype_yes (p r N n : Nat) (now : Int) (pg : Bool) (i x1 x3 : Int) (w : World) (hi : (i == 0) = false) (hn : n < N) (hN : N ≤ 64) (hp : w.cell? ⟨p, 0, none⟩ = some (.slice (some ⟨r, 0, none⟩) N N))
    (h0 : w.cell? ⟨r, n * 4, none⟩ = some (.int .i64 i)) (h1 : w.cell? ⟨r, n * 4 + 1, none⟩ = some (.int .i64 x1)) (h2 : w.cell? ⟨r, n * 4 + 2, none⟩ = some (.int .i64 0)) (h3 : w.cell? ⟨r, n * 4 + 3, none⟩ = some (.int .i64 x3))
    (z0 : w.frozen? ⟨r, n * 4, none⟩ = false) (z1 : w.frozen? ⟨r, n * 4 + 1, none⟩ = false) (z3 : w.frozen? ⟨r, n * 4 + 3, none⟩ = false) :
    Calls Try.prog 12 #[.pointer (some ⟨p, 0, none⟩), .int .i64 n, .int .i64 now, .bool pg] w fun e w' => e = .returned (.int .i64 0) ∧ w' = (((if i = 2 ∧ pg = true then (w.setCell ⟨r, n * 4 + 1, none⟩ (.int .i64 i)).setCell ⟨r, n * 4 + 1, none⟩ (.int .i64 3) else w.setCell ⟨r, n * 4 + 1, none⟩ (.int .i64 i))).setCell ⟨r, n * 4, none⟩ (.int .i64 0)).setCell ⟨r, n * 4 + 3, none⟩ (.int .i64 (mx x3 now)) := by
  have HT := typed_ut p r N n i 0 w hn hN hp h0 h2 (by omega)
  have hi0 : ¬ i = 0 := by simpa using hi
  simp only [hi0, if_false, if_true] at HT
  have HT' : Hid (Calls Try.prog 26 #[.pointer (some ⟨p, 0, none⟩), .int .i64 n, .int .i64 0] w fun e w' => e = .returned (.tuple #[.pointer (some ⟨r, n * 4, none⟩), .int .i64 0]) ∧ w' = w) := HT
  clear HT hi0
  by_cases h2' : i = 2
  · subst h2'
    cases pg
    · simp only [Bool.false_eq_true, and_false, if_false]
      go_enter Try.func12, Try.ntmps12
      go_wp2_with (first
        | (go_at_call 26; refine HT'.out.mono ?_; rintro e w1 ⟨rfl, hw1⟩; subst w1)
        | (go_at_call 27; refine (free_any r n x3 now _ ?_ ?_).mono ?_; simp [World.cell?_setCell_other, h3]; simp [World.frozen?_setCell, z3]; rintro e w2 ⟨rfl, hw2⟩; subst w2))
      go_ret
      exact ⟨rfl, rfl⟩
    · simp only [and_self, if_true]
      go_enter Try.func12, Try.ntmps12
      go_wp2_with (first
        | (go_at_call 26; refine HT'.out.mono ?_; rintro e w1 ⟨rfl, hw1⟩; subst w1)
        | (go_at_call 27; refine (free_any r n x3 now _ ?_ ?_).mono ?_; simp [World.cell?_setCell_other, h3]; simp [World.frozen?_setCell, z3]; rintro e w2 ⟨rfl, hw2⟩; subst w2))
      go_ret
      exact ⟨rfl, rfl⟩
  · have h2f : (i == 2) = false := by simpa using h2'
    simp only [h2', false_and, if_false]
    go_enter Try.func12, Try.ntmps12
    go_wp2_with (first
      | (go_at_call 26; refine HT'.out.mono ?_; rintro e w1 ⟨rfl, hw1⟩; subst w1)
      | (go_at_call 27; refine (free_any r n x3 now _ ?_ ?_).mono ?_; simp [World.cell?_setCell_other, h3]; simp [World.frozen?_setCell, z3]; rintro e w2 ⟨rfl, hw2⟩; subst w2))
    go_ret
    exact ⟨rfl, rfl⟩
theorem untype_any (p r N : Nat) (f now : Int) (pg : Bool) (S : Nat → FS) (w : World) (hN1 : 1 ≤ N) (hN : N ≤ 64) (h : TblIs w p r N S) :
    Calls Try.prog 12 #[.pointer (some ⟨p, 0, none⟩), .int .i64 f, .int .i64 now, .bool pg] w fun e w' => e = .returned (.int .i64 (errA N S f hUt)) ∧ w' = w.setRow r (cellsT N (mapA N S f (gUt now pg))) := by
  cases hk : okF N f
  · simp only [errA, mapA, hk, Bool.false_eq_true, if_false, h.self]
    exact untype_bad p r N f now pg w (okF_no hk) hN1 hN h.cell
  · obtain ⟨n, rfl, hn⟩ := okF_split hk
    simp only [errA, mapA, hk, if_true, Int.toNat_natCast]
    obtain ⟨g0, g1, g2, g3⟩ := h.at hn
    have hc := (h.ok n).1
    by_cases hi : (S n).is = 0
    · have e1 : gUt now pg (S n) = S n := by simp [gUt, hi]
      rw [e1, upd_self, h.self]
      exact untype_no p r N n now pg _ _ _ w rfl (by simp [hUt, hi]) hn hN h.cell g0 g2 hc
    · by_cases hz : (S n).cnt = 0
      · have e2 : hUt (S n) = 0 := by simp [hUt, hi, hz]
        rw [e2]
        refine (untype_yes p r N n now pg _ _ _ w (by simpa using hi) hn hN h.cell g0 g1 (by rw [g2, hz]) g3 (h.free _) (h.free _) (h.free _)).mono ?_
        rintro e w' ⟨rfl, rfl⟩
        refine ⟨rfl, ?_⟩
        by_cases c : (S n).is = 2 ∧ pg = true
        · rw [if_pos c, h.put hn (by omega), row_put h.row hn (by omega), row_put0 h.row hn, row_put h.row hn (by omega)]
          simp only [upd_same, upd_upd]
          simp [gUt, setF, hz, c.1, c.2]
        · rw [if_neg c, h.put hn (by omega), row_put0 h.row hn, row_put h.row hn (by omega)]
          simp only [upd_same, upd_upd]
          have : (if (S n).is = 2 then (if pg = true then (3 : Int) else 2) else (S n).is) = (S n).is := by
            split
            · split
              · exact absurd ⟨by assumption, by assumption⟩ c
              · omega
            · rfl
          simp [gUt, setF, hi, hz, this]
      · have e1 : gUt now pg (S n) = S n := by simp [gUt, hi, hz]
        rw [e1, upd_self, h.self]
        exact untype_no p r N n now pg _ _ _ w rfl (by simp [hUt, hi, hz]) hn hN h.cell g0 g2 hc

theorem ref_no (p r N n : Nat) (i c x : Int) (w : World) (hx : x = if i = 0 then 4 else if c < 1000 then 0 else 2) (hx0 : (x != 0) = true) (hn : n < N) (hN : N ≤ 64) (hp : w.cell? ⟨p, 0, none⟩ = some (.slice (some ⟨r, 0, none⟩) N N))
    (h0 : w.cell? ⟨r, n * 4, none⟩ = some (.int .i64 i)) (h2 : w.cell? ⟨r, n * 4 + 2, none⟩ = some (.int .i64 c)) :
    Calls Try.prog 14 #[.pointer (some ⟨p, 0, none⟩), .int .i64 n] w fun e w' => e = .returned (.int .i64 x) ∧ w' = w := by
  have HT := typed_rf p r N n i c w hn hN hp h0 h2
  rw [← hx] at HT
  have HT' : Hid (Calls Try.prog 26 #[.pointer (some ⟨p, 0, none⟩), .int .i64 n, .int .i64 1] w fun e w' => e = .returned (.tuple #[.pointer (some ⟨r, n * 4, none⟩), .int .i64 x]) ∧ w' = w) := HT
  clear HT hx
  go_enter Try.func14, Try.ntmps14
  go_wp2_with (go_at_call 26; refine HT'.out.mono ?_; rintro e w1 ⟨rfl, hw1⟩; subst w1)
  go_ret
  exact ⟨rfl, rfl⟩
theorem ref_yes (p r N n : Nat) (i c : Int) (w : World) (hi : ¬ i = 0) (hc0 : 0 ≤ c) (hc : c < 1000) (hn : n < N) (hN : N ≤ 64) (hp : w.cell? ⟨p, 0, none⟩ = some (.slice (some ⟨r, 0, none⟩) N N))
    (h0 : w.cell? ⟨r, n * 4, none⟩ = some (.int .i64 i)) (h2 : w.cell? ⟨r, n * 4 + 2, none⟩ = some (.int .i64 c)) (z2 : w.frozen? ⟨r, n * 4 + 2, none⟩ = false) :
    Calls Try.prog 14 #[.pointer (some ⟨p, 0, none⟩), .int .i64 n] w fun e w' => e = .returned (.int .i64 0) ∧ w' = w.setCell ⟨r, n * 4 + 2, none⟩ (.int .i64 (c + 1)) := by
  have HT := typed_rf p r N n i c w hn hN hp h0 h2
  simp only [hi, hc, if_false, if_true] at HT
  have HT' : Hid (Calls Try.prog 26 #[.pointer (some ⟨p, 0, none⟩), .int .i64 n, .int .i64 1] w fun e w' => e = .returned (.tuple #[.pointer (some ⟨r, n * 4, none⟩), .int .i64 0]) ∧ w' = w) := HT
  clear HT hi
  go_enter Try.func14, Try.ntmps14
  go_wp2_with (go_at_call 26; refine HT'.out.mono ?_; rintro e w1 ⟨rfl, hw1⟩; subst w1)
  go_ret
  exact ⟨rfl, rfl⟩
theorem ref_any (p r N : Nat) (f : Int) (S : Nat → FS) (w : World) (hN1 : 1 ≤ N) (hN : N ≤ 64) (h : TblIs w p r N S) :
    Calls Try.prog 14 #[.pointer (some ⟨p, 0, none⟩), .int .i64 f] w fun e w' => e = .returned (.int .i64 (errA N S f hRf)) ∧ w' = w.setRow r (cellsT N (mapA N S f gRf)) := by
  cases hk : okF N f
  · simp only [errA, mapA, hk, Bool.false_eq_true, if_false, h.self]
    exact ref_bad p r N f w (okF_no hk) hN1 hN h.cell
  · obtain ⟨n, rfl, hn⟩ := okF_split hk
    simp only [errA, mapA, hk, if_true, Int.toNat_natCast]
    obtain ⟨g0, g1, g2, g3⟩ := h.at hn
    have hc := (h.ok n).1
    by_cases hi : (S n).is = 0
    · have e1 : gRf (S n) = S n := by simp [gRf, hi]
      rw [e1, upd_self, h.self]
      exact ref_no p r N n _ _ _ w rfl (by simp [hRf, hi]) hn hN h.cell g0 g2
    · by_cases hz : (S n).cnt < 1000
      · have e2 : hRf (S n) = 0 := by simp [hRf, hi, hz]
        rw [e2]
        refine (ref_yes p r N n _ _ w hi hc hz hn hN h.cell g0 g2 (h.free _)).mono ?_
        rintro e w' ⟨rfl, rfl⟩
        refine ⟨rfl, ?_⟩
        rw [h.put hn (by omega)]
        simp [gRf, setF, hi, hz]
      · have e1 : gRf (S n) = S n := by simp [gRf, hi, hz]
        rw [e1, upd_self, h.self]
        exact ref_no p r N n _ _ _ w rfl (by simp [hRf, hi, hz]) hn hN h.cell g0 g2

theorem unref_no (p r N n : Nat) (now : Int) (w : World) (hn : n < N) (hN : N ≤ 64) (hp : w.cell? ⟨p, 0, none⟩ = some (.slice (some ⟨r, 0, none⟩) N N)) (h2 : w.cell? ⟨r, n * 4 + 2, none⟩ = some (.int .i64 0)) :
    Calls Try.prog 16 #[.pointer (some ⟨p, 0, none⟩), .int .i64 n, .int .i64 now] w fun e w' => e = .returned (.int .i64 3) ∧ w' = w := by
  go_enter Try.func16, Try.ntmps16
  go_wp2_with (go_at_call 24; refine (frame_ok p r N n _ hn hN hp).mono ?_; rintro e w1 ⟨rfl, hw1⟩; subst w1)
  go_ret
  exact ⟨rfl, rfl⟩
theorem unref_some (p r N n : Nat) (now c : Int) (w : World) (hc1 : 1 < c) (hc2 : c ≤ 1000) (hn : n < N) (hN : N ≤ 64) (hp : w.cell? ⟨p, 0, none⟩ = some (.slice (some ⟨r, 0, none⟩) N N)) (h2 : w.cell? ⟨r, n * 4 + 2, none⟩ = some (.int .i64 c)) (z2 : w.frozen? ⟨r, n * 4 + 2, none⟩ = false) :
    Calls Try.prog 16 #[.pointer (some ⟨p, 0, none⟩), .int .i64 n, .int .i64 now] w fun e w' => e = .returned (.int .i64 0) ∧ w' = w.setCell ⟨r, n * 4 + 2, none⟩ (.int .i64 (c - 1)) := by
  have k1 : (c == 0) = false := by simp; omega
  have k2 : (c - 1 == 0) = false := by simp; omega
  go_enter Try.func16, Try.ntmps16
  go_wp2_with (go_at_call 24; refine (frame_ok p r N n _ hn hN hp).mono ?_; rintro e w1 ⟨rfl, hw1⟩; subst w1)
  go_ret
  exact ⟨rfl, rfl⟩
theorem unref_last (p r N n : Nat) (now x3 : Int) (w : World) (hn : n < N) (hN : N ≤ 64) (hp : w.cell? ⟨p, 0, none⟩ = some (.slice (some ⟨r, 0, none⟩) N N)) (h2 : w.cell? ⟨r, n * 4 + 2, none⟩ = some (.int .i64 1)) (z2 : w.frozen? ⟨r, n * 4 + 2, none⟩ = false)
    (h3 : w.cell? ⟨r, n * 4 + 3, none⟩ = some (.int .i64 x3)) (z3 : w.frozen? ⟨r, n * 4 + 3, none⟩ = false) :
    Calls Try.prog 16 #[.pointer (some ⟨p, 0, none⟩), .int .i64 n, .int .i64 now] w fun e w' => e = .returned (.int .i64 0) ∧ w' = (w.setCell ⟨r, n * 4 + 2, none⟩ (.int .i64 0)).setCell ⟨r, n * 4 + 3, none⟩ (.int .i64 (mx x3 now)) := by
  go_enter Try.func16, Try.ntmps16
  go_wp2_with (first
    | (go_at_call 24; refine (frame_ok p r N n _ hn hN hp).mono ?_; rintro e w1 ⟨rfl, hw1⟩; subst w1)
    | (go_at_call 27; refine (free_any r n x3 now _ ?_ ?_).mono ?_; simp [World.cell?_setCell_other, h3]; simp [World.frozen?_setCell, z3]; rintro e w2 ⟨rfl, hw2⟩; subst w2))
  go_ret
  exact ⟨rfl, rfl⟩
theorem unref_any (p r N : Nat) (f now : Int) (S : Nat → FS) (w : World) (hN1 : 1 ≤ N) (hN : N ≤ 64) (h : TblIs w p r N S) :
    Calls Try.prog 16 #[.pointer (some ⟨p, 0, none⟩), .int .i64 f, .int .i64 now] w fun e w' => e = .returned (.int .i64 (errA N S f hUr)) ∧ w' = w.setRow r (cellsT N (mapA N S f (gUr now))) := by
  cases hk : okF N f
  · simp only [errA, mapA, hk, Bool.false_eq_true, if_false, h.self]
    exact unref_bad p r N f now w (okF_no hk) hN1 hN h.cell
  · obtain ⟨n, rfl, hn⟩ := okF_split hk
    simp only [errA, mapA, hk, if_true, Int.toNat_natCast]
    obtain ⟨g0, g1, g2, g3⟩ := h.at hn
    obtain ⟨hc, hc2⟩ := h.ok n
    by_cases hi : (S n).cnt = 0
    · have e1 : gUr now (S n) = S n := by simp [gUr, hi]
      have e2 : hUr (S n) = 3 := by simp [hUr, hi]
      rw [e1, e2, upd_self, h.self]
      exact unref_no p r N n now w hn hN h.cell (by rw [g2, hi])
    · have e2 : hUr (S n) = 0 := by simp [hUr, hi]
      rw [e2]
      by_cases h1 : (S n).cnt = 1
      · refine (unref_last p r N n now _ w hn hN h.cell (by rw [g2, h1]) (h.free _) g3 (h.free _)).mono ?_
        rintro e w' ⟨rfl, rfl⟩
        refine ⟨rfl, ?_⟩
        rw [h.put hn (by omega), row_put h.row hn (by omega)]
        simp only [upd_same, upd_upd]
        simp [gUr, setF, h1]
      · refine (unref_some p r N n now _ w (by omega) hc2 hn hN h.cell g2 (h.free _)).mono ?_
        rintro e w' ⟨rfl, rfl⟩
        refine ⟨rfl, ?_⟩
        rw [h.put hn (by omega)]
        simp [gUr, setF, hi, h1]

end Go.Proofs.Ytiodocdbhjdfaaa
