/- What the statements on one head hold at hand: a head in a block, a memory, the table; heads held against each other; what was put is got. -/
import Derived.Test.YtlpnnpapeoahkaaDoorHdJ
import Derived.Test.YtlpnnpapeoahkaaDoorHdI
namespace Go.Proofs.YtlpnnpapeoahkaaDoor
open Go.RowKit M
set_option linter.unusedVariables false

set_option maxRecDepth 100000 in
theorem awake_any (w : World) : Calls Tryd.prog 18 #[] w fun e w' => e = .returned (.bool true) ∧ Below w.heap.size w w' := by
  have H1 : Hid (∀ w1, Calls Tryd.prog 11 #[.agg #[.int .i64 99, .int .i64 0, .bool false, .int .i64 0]] w1 fun e w' => e = .returned (.int .i64 1) ∧ Below w1.heap.size w1 w') := fun w1 => by
    have := check_any 99 0 false 0 w1
    rwa [show chk 99 0 false 0 = 1 from rfl] at this
  have H0 : Hid (∀ w1, Calls Tryd.prog 11 #[.agg #[.int .i64 0, .int .i64 0, .bool false, .int .i64 0]] w1 fun e w' => e = .returned (.int .i64 0) ∧ Below w1.heap.size w1 w') := fun w1 => by
    have := check_any 0 0 false 0 w1
    rwa [show chk 0 0 false 0 = 0 from rfl] at this
  go_enter Tryd.func18, Tryd.ntmps18
  go_wp2_with (first
    | (go_at_call 11; refine (H1.out _).mono ?_; rintro e1 w1 ⟨rfl, hb1⟩; have H2 : Hid (Below w.heap.size w w1) := hb1; clear hb1 H1)
    | (go_at_call 11; refine (H0.out _).mono ?_; rintro e2 w2 ⟨rfl, hb2⟩; have H3 : Hid (Below w.heap.size w w2) := H2.out.trans (hb2.mono H2.out.size); clear hb2)
    | fail)
  go_ret
  exact ⟨rfl, H3.out⟩
/-- A head held against a head. -/
theorem eqH (k l : Int) (z : Bool) (t k' l' : Int) (z' : Bool) (t' : Int) (w : World) : (Op.equalIn 10000 33 (.agg #[.int .i64 k, .int .i64 l, .bool z, .int .i64 t]) (.agg #[.int .i64 k', .int .i64 l', .bool z', .int .i64 t'])).run Tryd.prog w = .ok (k == k' && l == l' && z == z' && t == t') w := by
  show (Op.equalIn (9998 + 1 + 1) 33 (.agg #[.int .i64 k, .int .i64 l, .bool z, .int .i64 t]) (.agg #[.int .i64 k', .int .i64 l', .bool z', .int .i64 t'])).run _ _ = _
  rw [run_equalIn_agg (P := Tryd.prog) w _ _ _ _ (by kernel_rfl) (by kernel_rfl)]
  have hf : (Tryd.prog.fieldsOf 33).toList = [⟨ "K", 3, 0, false, "", "", 0⟩, ⟨ "Level", 3, 1, false, "", "", 8⟩, ⟨ "Frozen", 4, 2, false, "", "", 16⟩, ⟨ "Time", 3, 3, false, "", "", 24⟩] := by kernel_rfl
  rw [hf]
  have p0 : ∀ (x y : Int) (o : Bool) (v : Int) (w : World), (part 3 #[.int .i64 x, .int .i64 y, .bool o, .int .i64 v] 0).run Tryd.prog w = .ok (.int .i64 x) w := fun _ _ _ _ _ => by kernel_rfl
  have p1 : ∀ (x y : Int) (o : Bool) (v : Int) (w : World), (part 3 #[.int .i64 x, .int .i64 y, .bool o, .int .i64 v] 1).run Tryd.prog w = .ok (.int .i64 y) w := fun _ _ _ _ _ => by kernel_rfl
  have p2 : ∀ (x y : Int) (o : Bool) (v : Int) (w : World), (part 4 #[.int .i64 x, .int .i64 y, .bool o, .int .i64 v] 2).run Tryd.prog w = .ok (.bool o) w := fun _ _ _ _ _ => by kernel_rfl
  have p3 : ∀ (x y : Int) (o : Bool) (v : Int) (w : World), (part 3 #[.int .i64 x, .int .i64 y, .bool o, .int .i64 v] 3).run Tryd.prog w = .ok (.int .i64 v) w := fun _ _ _ _ _ => by kernel_rfl
  have q0 : ∀ (x y : Bool) (w : World), (Op.equalIn (9998 + 1) 4 (.bool x) (.bool y)).run Tryd.prog w = .ok (x == y) w := fun x y w => run_equalIn_bool w 9998 4 x y Tryd.underlying4
  have q : ∀ (x y : Int) (w : World), (Op.equalIn (9998 + 1) 3 (.int .i64 x) (.int .i64 y)).run Tryd.prog w = .ok (x == y) w := fun x y w => run_equalIn_int w 9998 3 .i64 .i64 x y Tryd.underlying3
  simp only [Op.eqFields, Sem.run_bind, Sem.run_ite, p0, p1, p2, p3, q0, q, Result.andThen_ok, Sem.run_pure]
  by_cases h1 : k = k' <;> by_cases h2 : l = l' <;> by_cases h3 : z = z' <;> by_cases h4 : t = t' <;> simp [h1, h2, h3, h4]
theorem eqlH (k l : Int) (z : Bool) (t : Int) (w : World) : (binOp .eql 33 (.agg #[.int .i64 k, .int .i64 l, .bool z, .int .i64 t]) (.agg #[.int .i64 k, .int .i64 l, .bool z, .int .i64 t])).run Tryd.prog w = .ok (.bool true) w := by
  rw [run_eql_struct, eqH]
  simp
theorem neqH (k l : Int) (z : Bool) (t : Int) (w : World) : (binOp .neq 33 (.agg #[.int .i64 k, .int .i64 l, .bool z, .int .i64 t]) (.agg #[.int .i64 k, .int .i64 l, .bool z, .int .i64 t])).run Tryd.prog w = .ok (.bool false) w := by
  rw [run_neq_struct, eqH]
  simp
/-- A right head that was put into a frame is what Get reads. -/
theorem put_got {N f : Nat} {M : Nat → Nat → Int} {k l t : Int} {z : Bool} (hf : f < N) (h : Rt k l z t) :
    ghK N (st4 N M f (wd0 k l z) t 0 0) f = k ∧ ghL N (st4 N M f (wd0 k l z) t 0 0) f = l ∧ ghZ N (st4 N M f (wd0 k l z) t 0 0) f = z ∧ ghT N (st4 N M f (wd0 k l z) t 0 0) f = t ∧ ghE N (st4 N M f (wd0 k l z) t 0 0) f = 0 := by
  have e0 := st4_own (M := M) hf (wd0 k l z) t 0 0 0
  have e1 := st4_own (M := M) hf (wd0 k l z) t 0 0 1
  have e2 := st4_own (M := M) hf (wd0 k l z) t 0 0 2
  have e3 := st4_own (M := M) hf (wd0 k l z) t 0 0 3
  simp at e0 e1 e2 e3
  obtain ⟨g0, g1, g2, g3, g4⟩ := got_back h
  have ok := okF_nat hf
  simp only [ghK, ghL, ghZ, ghT, ghE, ok, if_true, Bool.true_and, Int.toNat_natCast, e0, e1, e2, e3]
  exact ⟨g0, g1, g2, g3, g4⟩
theorem made_zero {N f j : Nat} {M : Nat → Nat → Int} {a b c d : Int} (hf : f < N) (hj : 4 ≤ j) : st4 N (clM N M f) f a b c d f j = 0 := by
  rw [st4_other (.inr hj)]
  simp [clM, okF_nat hf]
/-- A head in the first block of the call's own, a memory of N frames, the table. -/
structure St (w0 w : World) (p b N : Nat) (M : Nat → Nat → Int) (k l : Int) (z : Bool) (t : Int) : Prop where
  mem : MemIs w p b N M
  tab : TabW w
  below : Below w0.heap.size w0 w
  box : Box4 w w0.heap.size k l z t
  fit : Fit M
  lo : w0.heap.size < b
theorem St.on {w0 w w' : World} {p b N : Nat} {M : Nat → Nat → Int} {k l t : Int} {z : Bool} (h : St w0 w p b N M k l z t) (hB : Below w.heap.size w w') : St w0 w' p b N M k l z t :=
  ⟨h.mem.grown hB, h.tab.on hB, h.below.trans (hB.mono h.below.size), h.box.on hB, h.fit, h.lo⟩
theorem St.but {w0 w w' : World} {p b N : Nat} {M M' : Nat → Nat → Int} {k l t : Int} {z : Bool} (h : St w0 w p b N M k l z t) (hM : MemIs w' p b N M') (hF : Fit M') (hB : But b w w') : St w0 w' p b N M' k l z t :=
  ⟨hM, h.tab.but hB (tab_ne h.mem h.tab), h.below.trans (hB.below (Nat.le_of_lt h.lo) h.below.size), h.box.but hB (Nat.ne_of_lt h.lo), hF, h.lo⟩
theorem st_laid {w w1 : World} {N : Nat} {M : Nat → Nat → Int} {k l t : Int} {z : Bool} {ty : TypeId} (hW : TabW w) (hF : Fit M) (h : Both (w.alloc (.cells #[.int .i64 k, .int .i64 l, .bool z, .int .i64 t] ty)) w1 N M) :
    St w w1 ((w.alloc (.cells #[.int .i64 k, .int .i64 l, .bool z, .int .i64 t] ty)).heap.size + 1) (w.alloc (.cells #[.int .i64 k, .int .i64 l, .bool z, .int .i64 t] ty)).heap.size N M k l z t :=
  ⟨h.mem, (hW.on (bal (Below.refl _ _) _)).on h.below, (bal (Below.refl _ _) _).trans (h.below.mono (by simp)), (box4_new w k l z t ty).on h.below, hF, by simp⟩
theorem st_head {w0 w : World} {p b N : Nat} {M : Nat → Nat → Int} {k l t : Int} {z : Bool} (h : St w0 w p b N M k l z t) (k' l' : Int) (z' : Bool) (t' : Int) (ty : TypeId) :
    St w0 (w.alloc (.cells #[.int .i64 k', .int .i64 l', .bool z', .int .i64 t'] ty)) p b N M k l z t ∧ Box4 (w.alloc (.cells #[.int .i64 k', .int .i64 l', .bool z', .int .i64 t'] ty)) w.heap.size k' l' z' t' ∧ w.heap.size ≠ b :=
  ⟨h.on (bal (Below.refl _ _) _), box4_new w k' l' z' t' ty, Nat.ne_of_gt h.mem.lt.2⟩
/-- A list that came in is read behind the first block as ahead of it. -/
theorem Came.on {q : IntKind} {w w' : World} {a : Option Addr} {len : Nat} (h : Came q w.heap.size w a len) (hB : Below w.heap.size w w') : Came q w'.heap.size w' a len := by
  rcases h with h | ⟨b, off, e, hb, hc⟩
  · exact .inl h
  · refine .inr ⟨b, off, e, Nat.lt_of_lt_of_le hb hB.size, fun j hj => ?_⟩
    obtain ⟨z, h1, h2⟩ := hc j hj
    exact ⟨z, (hB.cell (p := ⟨b, off + j, none⟩) hb).trans h1, h2⟩
end Go.Proofs.YtlpnnpapeoahkaaDoor
