/- How Keys of package tlb compares two keys. -/
import Derived.Test.YtamfdnkjfmfcoaaTlbB
import Derived.Test.YtamfdnkjfmfcoaaTlbL
import Derived.BigQuiet
namespace Go.Proofs.Ytamfdnkjfmfcoaa
open Go.Shelf Go.RowKit Go.Lib Go.Sort Go.ChangeMaps
set_option linter.unusedVariables false

/-- The order of turns. -/
def cfT (S : List En) (x y : Ky) : Int := Lib.compareInt (tnK S x) (tnK S y)
theorem compare_any (x y : Int) (w : World) : Calls Try.prog 22 #[.int .i64 x, .int .i64 y] w fun e w' => e = .returned (.int .i64 (Lib.compareInt x y)) ∧ w' = w := AnyG.cmp_Compare_int cmpInt x y w
set_option maxHeartbeats 2000000 in
theorem closure_any (q p b : Nat) (S : List En) (x y : Ky) (W : World) (h0 : W.cell? ⟨q, 0, none⟩ = some (.pointer (some ⟨p, 0, none⟩))) (h1 : W.cell? ⟨p, 1, none⟩ = some (.map (some b))) (hM : MapIs W b S) :
    Calls Try.prog 21 #[.agg #[.int .i64 x.1, .int .i64 x.2], .agg #[.int .i64 y.1, .int .i64 y.2], .pointer (some ⟨q, 0, none⟩)] W fun e w' => e = .returned (.int .i64 (cfT S x y)) ∧ ∃ n os', w' = grow (W.drewN n) os' := by
  obtain ⟨a, c⟩ := x
  obtain ⟨d, f⟩ := y
  simp only [cfT]
  obtain ⟨W2, hW2⟩ : ∃ W2, W2 = (W.alloc (.cells #[.int .i64 a, .int .i64 c] 36)).alloc (.cells #[.int .i64 d, .int .i64 f] 36) := ⟨_, rfl⟩
  have hB : Below W.heap.size W W2 := by rw [hW2]; exact bal (bal (Below.refl _ _) _) _
  have hM2 : ∀ n, MapIs (W2.drewN n) b S := fun n => (hM.on (hB.block b hM.lt)).on rfl
  have k1 : ∀ n, (Instr.lookup 50 (.map (some b)) (kv (a, c)) false).run Try.prog (W2.drewN n) = .ok (ev (ptK S (a, c)) (tnK S (a, c))) (W2.drewN n) := fun n => look_at (hM2 n) (a, c)
  have k2 : ∀ n, (Instr.lookup 50 (.map (some b)) (kv (d, f)) false).run Try.prog (W2.drewN n) = .ok (ev (ptK S (d, f)) (tnK S (d, f))) (W2.drewN n) := fun n => look_at (hM2 n) (d, f)
  simp only [kv, ev] at k1 k2
  generalize tnK S (a, c) = t1 at k1 ⊢
  generalize tnK S (d, f) = t2 at k2 ⊢
  generalize ptK S (a, c) = q1 at k1
  generalize ptK S (d, f) = q2 at k2
  have e0 : W2.cell? ⟨q, 0, none⟩ = some (.pointer (some ⟨p, 0, none⟩)) := (hB.cell (p := ⟨q, 0, none⟩) (World.block_lt_of_cell? W _ h0)).trans h0
  have e1 : W2.cell? ⟨p, 1, none⟩ = some (.map (some b)) := (hB.cell (p := ⟨p, 1, none⟩) (World.block_lt_of_cell? W _ h1)).trans h1
  have e2 : W2.cell? ⟨W.heap.size, 0, none⟩ = some (.int .i64 a) := by rw [hW2]; simp
  have e3 : W2.cell? ⟨W.heap.size, 1, none⟩ = some (.int .i64 c) := by rw [hW2]; simp
  have e4 : W2.cell? ⟨W.heap.size + 1, 0, none⟩ = some (.int .i64 d) := by rw [hW2]; simp
  have e5 : W2.cell? ⟨W.heap.size + 1, 1, none⟩ = some (.int .i64 f) := by rw [hW2]; simp
  have HW : Hid (W2 = grow W #[.cells #[.int .i64 a, .int .i64 c] 36, .cells #[.int .i64 d, .int .i64 f] 36]) := by
    have : W2 = grow W #[.cells #[.int .i64 a, .int .i64 c] 36, .cells #[.int .i64 d, .int .i64 f] 36] := by rw [hW2, alloc_eq_grow, alloc_eq_grow, grow_grow]; rfl
    exact this
  clear h0 h1 hM hB hM2
  have hfd : ∀ (o : Bool) (u v t s : Int) (w : World), (Instr.field 57 (.agg #[.bool o, .int .i64 u, .int .i64 v, .int .i64 t, .int .i64 s]) 1).run Try.prog w = .ok (.int .i64 s) w := fun _ _ _ _ _ _ => by kernel_rfl
  go_enter Try.func21, Try.ntmps21
  go_wp2
  rw [← hW2]
  clear hW2
  go_quiet ((go_at_call 22; exact Calls.quiet_of_same (compare_any _ _ _)))
  go_wp2
  go_ret
  exact ⟨rfl, _, _, by rw [HW.out]; rfl⟩
end Go.Proofs.Ytamfdnkjfmfcoaa
