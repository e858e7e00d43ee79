/- What was put last is got; two mappings compared. -/
import Derived.Test.YtamfdnkjfmfcoaaTlbJ
namespace Go.Proofs.Ytamfdnkjfmfcoaa
open Go.RowKit
set_option linter.unusedVariables false

theorem TlbIs.drewN {w : World} {p b : Nat} {r : Int} {S : List En} (h : TlbIs w p b r S) (n : Nat) : TlbIs (w.drewN n) p b r S := h.on rfl rfl
theorem below_drewN {a w : World} (h : Below a.heap.size a w) (n : Nat) : Below a.heap.size a (w.drewN n) := ⟨h.os, h.tape, h.output, h.size, h.block⟩
theorem putM_get (S : List En) (k : Ky) (p : Pt) (t : Int) : hasK (putM S k p t) k = true ∧ ptK (putM S k p t) k = p := by
  induction S with
  | nil => simp [putM, hasK, ptK]
  | cons x S ih =>
    by_cases hx : x.1 = k
    · simp [putM, hx, hasK, ptK]
    · have e1 : putM (x :: S) k p t = x :: putM S k p t := by simp only [putM, if_neg hx]
      rw [e1]
      have e2 : hasK (x :: putM S k p t) k = hasK (putM S k p t) k := by simp [hasK, hx]
      have e3 : ptK (x :: putM S k p t) k = ptK (putM S k p t) k := by simp only [ptK, if_neg hx]
      rw [e2, e3]
      exact ih
theorem snoc_get : ∀ (S : List En) (k : Ky) (p : Pt) (t : Int), hasK S k = false → hasK (S ++ [(k, p, t)]) k = true ∧ ptK (S ++ [(k, p, t)]) k = p := by
  intro S k p t h
  have := putM_get S k p t
  rwa [put_none k p t S h] at this
theorem putS_get {S : List En} {R : Nat} (h : S.length ≤ R) (k : Ky) (p : Pt) : hasK (putS R S k p) k = decide (0 < R) ∧ (0 < R → ptK (putS R S k p) k = p) := by
  have hl := putM_len S k p (turnS S k)
  unfold putS
  split
  · rename_i hR
    have hk : hasK S k = false := by
      cases hk : hasK S k
      · rfl
      · rw [hk, if_pos rfl] at hl
        omega
    rw [put_none k p _ S hk]
    cases S with
    | nil =>
      rw [hk] at hl
      simp at hl
      have : R = 0 := by omega
      subst this
      simp [hasK]
    | cons x S =>
      have hk' : hasK S k = false := by
        simp only [hasK, List.any_cons, Bool.or_eq_false_iff] at hk
        exact hk.2
      have := snoc_get S k p (turnS (x :: S) k) hk'
      simp only [List.cons_append, List.tail_cons]
      have h0 : 0 < R := by simp at h; omega
      exact ⟨by rw [this.1]; simp [h0], fun _ => this.2⟩
  · rename_i hR
    have h0 : 0 < R := by
      have : 1 ≤ (putM S k p (turnS S k)).length := by
        cases hp : putM S k p (turnS S k) with
        | nil =>
          have := (putM_get S k p (turnS S k)).1
          rw [hp] at this
          simp [hasK] at this
        | cons x r => simp
      omega
    have := putM_get S k p (turnS S k)
    exact ⟨by rw [this.1]; simp [h0], fun _ => this.2⟩
/-- Two mappings, compared. -/
theorem run_equalP (p q : Pt) (w : World) : (Op.equalIn 10000 38 (pv p) (pv q)).run Try.prog w = .ok (decide (p = q)) w := by
  obtain ⟨a, b, c, d⟩ := p
  obtain ⟨a', b', c', d'⟩ := q
  show (Op.equalIn (9998 + 1 + 1) 38 (.agg #[.bool a, .int .i64 b, .int .i64 c, .int .i64 d]) (.agg #[.bool a', .int .i64 b', .int .i64 c', .int .i64 d'])).run _ _ = _
  rw [run_equalIn_agg (P := Try.prog) w _ _ _ _ (by kernel_rfl) (by kernel_rfl)]
  have hf : (Try.prog.fieldsOf 38).toList = [⟨ "On", 4, 0, false, "", "", 0⟩, ⟨ "F", 3, 1, false, "", "", 8⟩, ⟨ "R", 3, 2, false, "", "", 16⟩, ⟨ "Time", 3, 3, false, "", "", 24⟩] := by kernel_rfl
  rw [hf]
  have p0 : ∀ (o : Bool) (x y z : Int) (w : World), (part 4 #[.bool o, .int .i64 x, .int .i64 y, .int .i64 z] 0).run Try.prog w = .ok (.bool o) w := fun _ _ _ _ _ => by kernel_rfl
  have p1 : ∀ (o : Bool) (x y z : Int) (w : World), (part 3 #[.bool o, .int .i64 x, .int .i64 y, .int .i64 z] 1).run Try.prog w = .ok (.int .i64 x) w := fun _ _ _ _ _ => by kernel_rfl
  have p2 : ∀ (o : Bool) (x y z : Int) (w : World), (part 3 #[.bool o, .int .i64 x, .int .i64 y, .int .i64 z] 2).run Try.prog w = .ok (.int .i64 y) w := fun _ _ _ _ _ => by kernel_rfl
  have p3 : ∀ (o : Bool) (x y z : Int) (w : World), (part 3 #[.bool o, .int .i64 x, .int .i64 y, .int .i64 z] 3).run Try.prog w = .ok (.int .i64 z) w := fun _ _ _ _ _ => by kernel_rfl
  have q0 : ∀ (x y : Bool) (w : World), (Op.equalIn (9998 + 1) 4 (.bool x) (.bool y)).run Try.prog w = .ok (x == y) w := fun x y w => run_equalIn_bool w 9998 4 x y Try.underlying4
  have q : ∀ (x y : Int) (w : World), (Op.equalIn (9998 + 1) 3 (.int .i64 x) (.int .i64 y)).run Try.prog w = .ok (x == y) w := fun x y w => run_equalIn_int w 9998 3 .i64 .i64 x y Try.underlying3
  simp only [Op.eqFields, Sem.run_bind, Sem.run_ite, p0, p1, p2, p3, q0, q, Result.andThen_ok, Sem.run_pure]
  by_cases h1 : a = a' <;> by_cases h2 : b = b' <;> by_cases h3 : c = c' <;> by_cases h4 : d = d' <;> simp [h1, h2, h3, h4]
theorem neqP (p q : Pt) (w : World) : (binOp .neq 38 (.agg #[.bool p.1, .int .i64 p.2.1, .int .i64 p.2.2.1, .int .i64 p.2.2.2]) (.agg #[.bool q.1, .int .i64 q.2.1, .int .i64 q.2.2.1, .int .i64 q.2.2.2])).run Try.prog w = .ok (.bool (!decide (p = q))) w := by
  rw [run_neq_struct]
  have := run_equalP p q w
  simp only [pv] at this
  rw [this]
  rfl
end Go.Proofs.Ytamfdnkjfmfcoaa
