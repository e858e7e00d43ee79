/- What New and the calls on whole frames of package mem answer, and what they do to the memory, for every argument that their types allow. -/
import Derived.Test.YtlpnnpapeoahkaaDoorMemA
namespace Go.Proofs.YtlpnnpapeoahkaaDoor
open Go.RowKit
set_option linter.unusedVariables false

theorem infoFrame : (Tryd.prog.info? 97).map (fun i => (i.zero, i.size, i.bytes)) = some (some (.agg (Array.replicate 36 (.int .u64 0))), 36, 288) := by kernel_rfl
theorem infoWordM : (Tryd.prog.info? 48).map (fun i => (i.zero, i.size, i.bytes)) = some (some (.int .u64 0), 1, 8) := by kernel_rfl
theorem sizeFrame : (Tryd.prog.info? 97).map (·.size) = some 36 := by kernel_rfl
theorem undFrame : Tryd.prog.underlying 97 = some (.array 36 48) := by kernel_rfl
theorem builtFrame : Tryd.prog.built 97 [] = some (Array.replicate 36 (.int .u64 0)) := by kernel_rfl

theorem made_frames (N : Nat) : madeCells (Array.replicate 36 (.int .u64 0)) (N * 36) = cellsM N fun _ _ => 0 := by
  apply Array.ext_getElem?
  intro i
  by_cases hi : i < N * 36
  · rw [cellsM_get hi]
    have h36 : i % 36 < 36 := by omega
    simp [madeCells, hi, h36]
  · simp [madeCells, cellsM, hi]
theorem made_words : madeCells #[.int .u64 0] 36 = (frameM (fun _ _ => 0) 0).toArray := by
  apply Array.ext_getElem?
  intro i
  by_cases hi : i < 36
  · have e : (frameM (fun _ _ => 0) 0).toArray[i]? = some (.int .u64 0) := by rw [List.getElem?_toArray]; exact frameM_get hi
    rw [e]
    simp [madeCells, hi, Nat.mod_one]
  · rw [Array.getElem?_eq_none (by rw [size_madeCells]; omega), Array.getElem?_eq_none (by rw [List.size_toArray, frameM_len]; omega)]
theorem make_frames (N : Nat) (hN : N ≤ 64) (w : World) :
    (Instr.makeSlice 85 (.int .i64 N) (.int .i64 N)).run Tryd.prog w = .ok (.slice (some ⟨w.heap.size, 0, none⟩) N N) (w.alloc (.cells (cellsM N fun _ _ => 0) 97)) := by
  obtain ⟨i0, hi, hz0, hz1, hz2⟩ := info_parts infoFrame
  have := run_make (P := Tryd.prog) w 85 97 i0 _ Tryd.underlying85 hi hz0 .i64 .i64 N N (by omega) (by omega) (by rw [hz2]; omega) (by omega)
  rw [hz1] at this
  simpa [Value.cells, made_frames] using this
theorem make_words (w : World) :
    (Instr.makeSlice 22 (.int .i64 36) (.int .i64 36)).run Tryd.prog w = .ok (.slice (some ⟨w.heap.size, 0, none⟩) 36 36) (w.alloc (.cells (frameM (fun _ _ => 0) 0).toArray 48)) := by
  obtain ⟨i0, hi, hz0, hz1, hz2⟩ := info_parts infoWordM
  have := run_make (P := Tryd.prog) w 22 48 i0 _ Tryd.underlying22 hi hz0 .i64 .i64 36 36 (by omega) (by omega) (by rw [hz2]; omega) (by omega)
  rw [hz1] at this
  simpa [Value.cells, made_words] using this

/-- The world behind New. -/
def newW (w : World) (N : Nat) : World := (w.alloc (.cells (cellsM N fun _ _ => 0) 97)).alloc (.cells #[.slice (some ⟨w.heap.size, 0, none⟩) N N] 87)
theorem newW_is (w : World) (N : Nat) : MemIs (newW w N) (w.heap.size + 1) w.heap.size N fun _ _ => 0 := ⟨heap_alloc2_new _ _ _, heap_alloc2_old _ _ _⟩
theorem newW_size (w : World) (N : Nat) : (newW w N).heap.size = w.heap.size + 2 := by simp [newW]
theorem newW_below (w : World) (N : Nat) : Below w.heap.size w (newW w N) := ((Below.refl _ w).alloc (Nat.le_refl _) _).alloc (by simp) _
theorem new_ok (N : Nat) (w : World) (hN1 : 1 ≤ N) (hN : N ≤ 64) :
    Calls Tryd.prog 20 #[.int .i64 N] w fun e w' => e = .returned (.tuple #[.pointer (some ⟨w.heap.size + 1, 0, none⟩), .int .i64 0]) ∧ w' = newW w N := by
  have hmk := make_frames N hN
  have h1 : (1 : Int) ≤ N := by omega
  have h2 : (N : Int) ≤ 64 := by omega
  unfold newW
  go_enter Tryd.func20, Tryd.ntmps20
  go_wp2
  go_ret2
  exact ⟨rfl, rfl⟩
theorem new_bad (n : Int) (w : World) (h : ¬ (1 ≤ n ∧ n ≤ 64)) :
    Calls Tryd.prog 20 #[.int .i64 n] w fun e w' => e = .returned (.tuple #[.pointer none, .int .i64 1]) ∧ w' = w := by
  by_cases h1 : n < 1
  · clear h
    go_enter Tryd.func20, Tryd.ntmps20
    go_wp2
    go_ret2
    exact ⟨rfl, rfl⟩
  · have h2 : 64 < n := by omega
    clear h
    go_enter Tryd.func20, Tryd.ntmps20
    go_wp2
    go_ret2
    exact ⟨rfl, rfl⟩
/-! ### Whole frames: the laws at an operation -/
theorem wpList_build_cells {P : Program} {ops : Array Oper} {rest : List Oper} {o : Oper} {a : Act} {w : World} {Q : Exit → Act → World → Prop} (hg : o.guard = none) (t : TypeId) (ho : o.op = .build t #[])
    (cells : Array Value) (hb : P.built t [] = some cells) (h : wpList P ops Q rest (a.put o.dst (.agg cells)) w) : wpList P ops Q (o :: rest) a w := by
  refine wpList_plain hg fun K hK => ?_
  unfold Oper.wp execOp
  simp only [ho, Sem.run_bind, List.map_toArray, List.map_nil, run_build w t #[] cells hb, Result.andThen_ok]
  exact hK _ _ h
theorem wpList_load_run {P : Program} {ops : Array Oper} {rest : List Oper} {o : Oper} {a : Act} {w : World} {Q : Exit → Act → World → Prop} (hg : o.guard = none) (ty : TypeId) (x : Operand) (ho : o.op = .load ty x)
    (ad : Addr) (hx : a.eval x = .pointer (some ad)) (v : Value) (hrun : (loadVar ty ad).run P w = .ok v w) (h : wpList P ops Q rest (a.put o.dst v) w) : wpList P ops Q (o :: rest) a w := by
  refine wpList_plain hg fun K hK => ?_
  unfold Oper.wp execOp
  simp only [ho, hx, Instr.loadAt, Instr.sureAddr, Sem.run_bind, Sem.run_pure, Result.andThen_ok, hrun]
  exact hK _ _ h
theorem wpList_store_run {P : Program} {ops : Array Oper} {rest : List Oper} {o : Oper} {a : Act} {w : World} {Q : Exit → Act → World → Prop} (hg : o.guard = none) (ty : TypeId) (x y : Operand) (ho : o.op = .store ty x y)
    (ad : Addr) (hx : a.eval x = .pointer (some ad)) (v : Value) (hy : a.eval y = v) (w' : World) (hrun : (storeVar ty ad v).run P w = .ok () w') (h : wpList P ops Q rest (a.put o.dst undef) w') : wpList P ops Q (o :: rest) a w := by
  refine wpList_plain hg fun K hK => ?_
  unfold Oper.wp execOp
  simp only [ho, hx, hy, Instr.storeAt, Instr.sureAddr, Sem.run_bind, Sem.run_pure, Result.andThen_ok, hrun]
  exact hK _ _ h

theorem zeroFrame : Tryd.prog.built 97 [] = some (frameM (fun _ _ => 0) 0).toArray := by rw [frame_zero _ _ (fun _ => rfl)]; exact builtFrame
theorem clear_ok (p b N f : Nat) (M : Nat → Nat → Int) (w : World) (hf : f < N) (hN : N ≤ 64) (hM : MemIs w p b N M) :
    Calls Tryd.prog 30 #[.pointer (some ⟨p, 0, none⟩), .int .i64 f] w fun e w' => e = .returned (.int .i64 0) ∧ w' = w.setRow b (cellsM N fun h a => if h = f then 0 else M h a) := by
  have hp := hM.cell
  have hput := hM.put (P := Tryd.prog) hf (ty := 97) sizeFrame (fun _ _ => 0) 0
  obtain ⟨W, hW⟩ : ∃ W, W = w.setRow b (cellsM N fun h a => if h = f then 0 else M h a) := ⟨_, rfl⟩
  have hz := zeroFrame
  obtain ⟨Z, hZ⟩ : ∃ Z, Z = (frameM (fun _ _ => 0) 0).toArray := ⟨_, rfl⟩
  rw [← hW] at hput ⊢
  rw [← hZ] at hput hz
  clear hM hW hZ
  have HP : Hid ((storeVar 97 ⟨b, f * 36, none⟩ (.agg Z)).run Tryd.prog w = .ok () W) := hput
  have HZ : Hid (Tryd.prog.built 97 [] = some Z) := hz
  clear hput hz
  go_enter Tryd.func30, Tryd.ntmps30
  go_wp2_with (first
    | (go_at_call 41; refine (frame_ok p b N f _ hf hN hp).mono ?_; rintro e w' ⟨rfl, rfl⟩)
    | (refine wpList_build_cells rfl 97 rfl Z HZ.out ?_)
    | (refine wpList_store_run rfl 97 (.tmp 18) (.tmp 17) rfl ⟨b, f * 36, none⟩ rfl (.agg Z) rfl W HP.out ?_))
  go_ret
  exact ⟨rfl, rfl⟩
theorem clear_bad (p b N : Nat) (f : Int) (w : World) (hf : ¬ (0 ≤ f ∧ f < N)) (hN1 : 1 ≤ N) (hN : N ≤ 64) (hp : w.cell? ⟨p, 0, none⟩ = some (.slice (some ⟨b, 0, none⟩) N N)) :
    Calls Tryd.prog 30 #[.pointer (some ⟨p, 0, none⟩), .int .i64 f] w fun e w' => e = .returned (.int .i64 1) ∧ w' = w := by
  have HF : Hid (¬ (0 ≤ f ∧ f < N)) := hf
  clear hf
  go_enter Tryd.func30, Tryd.ntmps30
  go_wp2_with (go_at_call 41; refine (frame_bad p b N f _ HF.out hN1 hN hp).mono ?_; rintro e w' ⟨rfl, rfl⟩)
  go_ret
  exact ⟨rfl, rfl⟩
theorem clear_zero (p : Nat) (f : Int) (w : World) (hp : w.cell? ⟨p, 0, none⟩ = some (.slice none 0 0)) :
    Calls Tryd.prog 30 #[.pointer (some ⟨p, 0, none⟩), .int .i64 f] w fun e w' => e = .returned (.int .i64 13) ∧ w' = w := by
  go_enter Tryd.func30, Tryd.ntmps30
  go_wp2_with (go_at_call 41; refine (frame_zero' p f _ hp).mono ?_; rintro e w' ⟨rfl, rfl⟩)
  go_ret
  exact ⟨rfl, rfl⟩
theorem clear_any (p b N : Nat) (f : Int) (M : Nat → Nat → Int) (w : World) (hN1 : 1 ≤ N) (hN : N ≤ 64) (hM : MemIs w p b N M) :
    Calls Tryd.prog 30 #[.pointer (some ⟨p, 0, none⟩), .int .i64 f] w fun e w' => e = .returned (.int .i64 (errF N f)) ∧ w' = w.setRow b (cellsM N (clM N M f)) := by
  cases h : okF N f
  · simp only [clM, errF, h, Bool.false_eq_true, if_false, hM.self]
    exact clear_bad p b N f w (okF_no h) hN1 hN hM.cell
  · obtain ⟨g, rfl, hg⟩ := okF_split h
    simp only [clM, errF, h, if_true, Int.toNat_natCast]
    exact clear_ok p b N g M w hg hN hM

/-! ### Copy -/
end Go.Proofs.YtlpnnpapeoahkaaDoor
