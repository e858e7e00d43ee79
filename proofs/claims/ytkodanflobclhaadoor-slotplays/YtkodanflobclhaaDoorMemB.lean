/- What New and the calls on whole frames of package mem answer, and what they do to the memory, for every argument that their types allow. -/
import Derived.Test.YtkodanflobclhaaDoorMemA
namespace Go.Proofs.YtkodanflobclhaaDoor.Pmem
open Go.Proofs.YtkodanflobclhaaDoor.Pbase
open Go.RowKit
set_option linter.unusedVariables false

theorem infoFrame : (Tryd.prog.info? 118).map (fun i => (i.zero, i.size, i.bytes)) = some (some (.agg (Array.replicate 36 (.int .u64 0))), 36, 288) := by kernel_rfl
theorem infoWordM : (Tryd.prog.info? 58).map (fun i => (i.zero, i.size, i.bytes)) = some (some (.int .u64 0), 1, 8) := by kernel_rfl
theorem sizeFrame : (Tryd.prog.info? 118).map (·.size) = some 36 := by kernel_rfl
theorem undFrame : Tryd.prog.underlying 118 = some (.array 36 58) := by kernel_rfl
theorem builtFrame : Tryd.prog.built 118 [] = some (Array.replicate 36 (.int .u64 0)) := by kernel_rfl

theorem made_frames (N : Nat) : madeCells (Array.replicate 36 (.int .u64 0)) (N * 36) = cellsM N fun _ _ => 0 := by
  apply Array.ext_getElem?
  intro i
  by_cases hi : i < N * 36
  · rw [cellsM_get hi]
    have h36 : i % 36 < 36 := by omega
    simp [madeCells, hi, h36]
  · simp [madeCells, cellsM, hi]
theorem made_words : madeCells #[.int .u64 0] 36 = (frameM (fun _ _ => 0) 0).toArray := by
  apply Array.ext_getElem?
  intro i
  by_cases hi : i < 36
  · have e : (frameM (fun _ _ => 0) 0).toArray[i]? = some (.int .u64 0) := by rw [List.getElem?_toArray]; exact frameM_get hi
    rw [e]
    simp [madeCells, hi, Nat.mod_one]
  · rw [Array.getElem?_eq_none (by rw [size_madeCells]; omega), Array.getElem?_eq_none (by rw [List.size_toArray, frameM_len]; omega)]
theorem make_frames (N : Nat) (hN : N ≤ 64) (w : World) :
    (Instr.makeSlice 84 (.int .i64 N) (.int .i64 N)).run Tryd.prog w = .ok (.slice (some ⟨w.heap.size, 0, none⟩) N N) (w.alloc (.cells (cellsM N fun _ _ => 0) 118)) := by
  obtain ⟨i0, hi, hz0, hz1, hz2⟩ := info_parts infoFrame
  have := run_make (P := Tryd.prog) w 84 118 i0 _ Tryd.underlying84 hi hz0 .i64 .i64 N N (by omega) (by omega) (by rw [hz2]; omega) (by omega)
  rw [hz1] at this
  simpa [Value.cells, made_frames] using this
theorem make_words (w : World) :
    (Instr.makeSlice 22 (.int .i64 36) (.int .i64 36)).run Tryd.prog w = .ok (.slice (some ⟨w.heap.size, 0, none⟩) 36 36) (w.alloc (.cells (frameM (fun _ _ => 0) 0).toArray 58)) := by
  obtain ⟨i0, hi, hz0, hz1, hz2⟩ := info_parts infoWordM
  have := run_make (P := Tryd.prog) w 22 58 i0 _ Tryd.underlying22 hi hz0 .i64 .i64 36 36 (by omega) (by omega) (by rw [hz2]; omega) (by omega)
  rw [hz1] at this
  simpa [Value.cells, made_words] using this

/-- The world behind New. -/
def newW (w : World) (N : Nat) : World := (w.alloc (.cells (cellsM N fun _ _ => 0) 118)).alloc (.cells #[.slice (some ⟨w.heap.size, 0, none⟩) N N] 86)
theorem newW_is (w : World) (N : Nat) : MemIs (newW w N) (w.heap.size + 1) w.heap.size N fun _ _ => 0 := ⟨heap_alloc2_new _ _ _, heap_alloc2_old _ _ _⟩
theorem newW_size (w : World) (N : Nat) : (newW w N).heap.size = w.heap.size + 2 := by simp [newW]
theorem newW_below (w : World) (N : Nat) : Below w.heap.size w (newW w N) := ((Below.refl _ w).alloc (Nat.le_refl _) _).alloc (by simp) _
theorem new_ok (N : Nat) (w : World) (hN1 : 1 ≤ N) (hN : N ≤ 64) :
    Calls Tryd.prog 19 #[.int .i64 N] w fun e w' => e = .returned (.tuple #[.pointer (some ⟨w.heap.size + 1, 0, none⟩), .int .i64 0]) ∧ w' = newW w N := by
  have hmk := make_frames N hN
  have h1 : (1 : Int) ≤ N := by omega
  have h2 : (N : Int) ≤ 64 := by omega
  unfold newW
  go_enter Tryd.func19, Tryd.ntmps19
  go_wp2
  go_ret2
  exact ⟨rfl, rfl⟩
theorem new_bad (n : Int) (w : World) (h : ¬ (1 ≤ n ∧ n ≤ 64)) :
    Calls Tryd.prog 19 #[.int .i64 n] w fun e w' => e = .returned (.tuple #[.pointer none, .int .i64 1]) ∧ w' = w := by
  by_cases h1 : n < 1
  · clear h
    go_enter Tryd.func19, Tryd.ntmps19
    go_wp2
    go_ret2
    exact ⟨rfl, rfl⟩
  · have h2 : 64 < n := by omega
    clear h
    go_enter Tryd.func19, Tryd.ntmps19
    go_wp2
    go_ret2
    exact ⟨rfl, rfl⟩
/-! ### Whole frames: the laws at an operation -/
theorem wpList_build_cells {P : Program} {ops : Array Oper} {rest : List Oper} {o : Oper} {a : Act} {w : World} {Q : Exit → Act → World → Prop} (hg : o.guard = none) (t : TypeId) (ho : o.op = .build t #[])
    (cells : Array Value) (hb : P.built t [] = some cells) (h : wpList P ops Q rest (a.put o.dst (.agg cells)) w) : wpList P ops Q (o :: rest) a w := by
  refine wpList_plain hg fun K hK => ?_
  unfold Oper.wp execOp
  simp only [ho, Sem.run_bind, List.map_toArray, List.map_nil, run_build w t #[] cells hb, Result.andThen_ok]
  exact hK _ _ h
theorem wpList_load_run {P : Program} {ops : Array Oper} {rest : List Oper} {o : Oper} {a : Act} {w : World} {Q : Exit → Act → World → Prop} (hg : o.guard = none) (ty : TypeId) (x : Operand) (ho : o.op = .load ty x)
    (ad : Addr) (hx : a.eval x = .pointer (some ad)) (v : Value) (hrun : (loadVar ty ad).run P w = .ok v w) (h : wpList P ops Q rest (a.put o.dst v) w) : wpList P ops Q (o :: rest) a w := by
  refine wpList_plain hg fun K hK => ?_
  unfold Oper.wp execOp
  simp only [ho, hx, Instr.loadAt, Instr.sureAddr, Sem.run_bind, Sem.run_pure, Result.andThen_ok, hrun]
  exact hK _ _ h
theorem wpList_store_run {P : Program} {ops : Array Oper} {rest : List Oper} {o : Oper} {a : Act} {w : World} {Q : Exit → Act → World → Prop} (hg : o.guard = none) (ty : TypeId) (x y : Operand) (ho : o.op = .store ty x y)
    (ad : Addr) (hx : a.eval x = .pointer (some ad)) (v : Value) (hy : a.eval y = v) (w' : World) (hrun : (storeVar ty ad v).run P w = .ok () w') (h : wpList P ops Q rest (a.put o.dst undef) w') : wpList P ops Q (o :: rest) a w := by
  refine wpList_plain hg fun K hK => ?_
  unfold Oper.wp execOp
  simp only [ho, hx, hy, Instr.storeAt, Instr.sureAddr, Sem.run_bind, Sem.run_pure, Result.andThen_ok, hrun]
  exact hK _ _ h

theorem zeroFrame : Tryd.prog.built 118 [] = some (frameM (fun _ _ => 0) 0).toArray := by rw [frame_zero _ _ (fun _ => rfl)]; exact builtFrame
/-! ### Copy -/
end Go.Proofs.YtkodanflobclhaaDoor.Pmem
