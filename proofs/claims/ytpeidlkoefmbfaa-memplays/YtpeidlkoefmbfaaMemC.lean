/- What Same of package mem answers, for every argument that its types allow. -/
import Derived.Test.YtpeidlkoefmbfaaMemB
namespace Go.Proofs.Ytpeidlkoefmbfaa
open Go.RowKit
set_option linter.unusedVariables false

/-! ### Same -/
theorem infoWord' : ∃ i, Try.prog.info? 34 = some i := ⟨_, rfl⟩
theorem wpQuiet_value {P : Program} {ops : Array Oper} {C : World → Prop} {Q : Act → Prop} {a : Act} {o : Oper} {rest : List Oper} (hw : Region.wanted o (yielded ops a.tmps) = true) (v : Value)
    (hrun : ∀ w, C w → (execOp a.eval o).run P w = .ok (.value v) w) (h : wpQuiet P ops C Q rest (a.put o.dst v)) : wpQuiet P ops C Q (o :: rest) a := by
  refine wpQuiet_step fun K hK => ?_
  rw [if_pos hw]
  refine ⟨v, fun w hC => ?_, hK _ h⟩
  unfold Oper.quietAt
  rw [hrun w hC]
  exact ⟨rfl, rfl⟩
theorem run_load_op {P : Program} {o : Oper} {ρ : Operand → Value} {ty : TypeId} {x : Operand} (ho : o.op = .load ty x) {ad : Addr} (hx : ρ x = .pointer (some ad)) {v : Value} {w : World} (h : (loadVar ty ad).run P w = .ok v w) : (execOp ρ o).run P w = .ok (.value v) w := by
  unfold execOp
  simp only [ho, hx, Instr.loadAt, Instr.sureAddr, Sem.run_bind, Sem.run_pure, Result.andThen_ok, h]
theorem run_eql_op {P : Program} {o : Oper} {ρ : Operand → Value} {t u : TypeId} {x y : Operand} (ho : o.op = .binOp .eql t x y u) {A B : Array Value} (hx : ρ x = .agg A) (hy : ρ y = .agg B) (hm : P.eqGuardType P.depth t = false) {v : Value} {w : World} (h : (binOp .eql t (.agg A) (.agg B)).run P w = .ok v w) : (execOp ρ o).run P w = .ok (.value v) w := by
  unfold execOp
  simp only [ho, hx, hy, Sem.run_bind, run_eqGuard_agg w .eql t x y A B hm, Sem.run_pure, Result.andThen_ok, h]
theorem MemIs.drewN {w : World} {p b N : Nat} {M : Nat → Nat → Int} (h : MemIs w p b N M) (n : Nat) : MemIs (w.drewN n) p b N M := ⟨h.head, h.row⟩
set_option maxHeartbeats 1000000 in
theorem same_ok (p b N f g : Nat) (M : Nat → Nat → Int) (w : World) (hf : f < N) (hg : g < N) (hN : N ≤ 64) (hM : MemIs w p b N M) :
    Calls Try.prog 17 #[.pointer (some ⟨p, 0, none⟩), .int .i64 f, .int .i64 g] w fun e w' => e = .returned (.bool (wdM M f == wdM M g)) ∧ ∃ n, w' = w.drewN n := by
  have hp := hM.cell
  have hget : Hid (∀ n, (loadVar 70 ⟨b, f * 36, none⟩).run Try.prog (w.drewN n) = .ok (.agg (frameM M f).toArray) (w.drewN n)) := fun n => (hM.drewN n).load hf undFrame rfl sizeFrame
  have hget2 : Hid (∀ n, (loadVar 70 ⟨b, g * 36, none⟩).run Try.prog (w.drewN n) = .ok (.agg (frameM M g).toArray) (w.drewN n)) := fun n => (hM.drewN n).load hg undFrame rfl sizeFrame
  obtain ⟨i0, hi0⟩ := infoWord'
  have heq : Hid (∀ w, (binOp .eql 70 (.agg (frameM M f).toArray) (.agg (frameM M g).toArray)).run Try.prog w = .ok (.bool (wdM M f == wdM M g)) w) := fun w =>
    run_eql_frames undFrame hi0 Try.underlying34 (by kernel_rfl) M f g rfl
  obtain ⟨Z, hZ⟩ : ∃ Z, Z = (frameM M f).toArray := ⟨_, rfl⟩
  obtain ⟨Y, hY⟩ : ∃ Y, Y = (frameM M g).toArray := ⟨_, rfl⟩
  obtain ⟨r, hr⟩ : ∃ r, r = (wdM M f == wdM M g) := ⟨_, rfl⟩
  rw [← hZ] at hget heq
  rw [← hY] at hget2 heq
  rw [← hr] at heq ⊢
  clear hM hZ hY hr hi0
  have t1 : True := trivial
  go_enter Try.func17, Try.ntmps17
  go_wp2_with (first
    | (go_at_call 27; clear t1; refine (frame_ok p b N f _ hf hN hp).mono ?_; rintro e w' ⟨rfl, rfl⟩)
    | (go_at_call 27; refine (frame_ok p b N g _ hg hN hp).mono ?_; rintro e w' ⟨rfl, rfl⟩))
  refine wp_region_quiet_lit (by kernel_rfl) (by kernel_rfl) ?_
  quiet_step (fail)
  quiet_step (fail)
  refine wpQuiet_value rfl (.agg Z) (fun _ ⟨n, hn⟩ => by subst hn; exact run_load_op (x := .tmp 27) rfl rfl (hget.out n)) ?_
  quiet_step (fail)
  quiet_step (fail)
  refine wpQuiet_value rfl (.agg Y) (fun _ ⟨n, hn⟩ => by subst hn; exact run_load_op (x := .tmp 30) rfl rfl (hget2.out n)) ?_
  refine wpQuiet_value rfl (.bool r) (fun _ _ => run_eql_op (x := .tmp 28) (y := .tmp 31) rfl rfl rfl (by kernel_rfl) (heq.out _)) ?_
  quiet_step (fail)
  refine wpQuiet_nil ?_
  rintro _ ⟨n, rfl⟩
  go_wp2
  go_ret
  exact ⟨rfl, _, rfl⟩
theorem same_badF (p b N : Nat) (f g : Int) (w : World) (hf : ¬ (0 ≤ f ∧ f < N)) (hN1 : 1 ≤ N) (hN : N ≤ 64) (hp : w.cell? ⟨p, 0, none⟩ = some (.slice (some ⟨b, 0, none⟩) N N)) :
    Calls Try.prog 17 #[.pointer (some ⟨p, 0, none⟩), .int .i64 f, .int .i64 g] w fun e w' => e = .returned (.bool false) ∧ w' = w := by
  have HF : Hid (¬ (0 ≤ f ∧ f < N)) := hf
  clear hf
  go_enter Try.func17, Try.ntmps17
  go_wp2_with (go_at_call 27; refine (frame_bad p b N f _ HF.out hN1 hN hp).mono ?_; rintro e w' ⟨rfl, rfl⟩)
  go_ret
  exact ⟨rfl, rfl⟩
theorem same_badG (p b N f : Nat) (g : Int) (w : World) (hf : f < N) (hg : ¬ (0 ≤ g ∧ g < N)) (hN : N ≤ 64) (hp : w.cell? ⟨p, 0, none⟩ = some (.slice (some ⟨b, 0, none⟩) N N)) :
    Calls Try.prog 17 #[.pointer (some ⟨p, 0, none⟩), .int .i64 f, .int .i64 g] w fun e w' => e = .returned (.bool false) ∧ w' = w := by
  have HF : Hid (¬ (0 ≤ g ∧ g < N)) := hg
  clear hg
  have t1 : True := trivial
  go_enter Try.func17, Try.ntmps17
  go_wp2_with (first
    | (go_at_call 27; clear t1; refine (frame_ok p b N f _ hf hN hp).mono ?_; rintro e w' ⟨rfl, rfl⟩)
    | (go_at_call 27; refine (frame_bad p b N g _ HF.out (by omega) hN hp).mono ?_; rintro e w' ⟨rfl, rfl⟩))
  go_ret
  exact ⟨rfl, rfl⟩
theorem same_nil (f g : Int) (w : World) :
    Calls Try.prog 17 #[.pointer none, .int .i64 f, .int .i64 g] w fun e w' => e = .returned (.bool false) ∧ w' = w := by
  go_enter Try.func17, Try.ntmps17
  go_wp2_with (go_at_call 27; refine (frame_nil f _).mono ?_; rintro e w' ⟨rfl, rfl⟩)
  go_ret
  exact ⟨rfl, rfl⟩
theorem same_any (p b N : Nat) (f g : Int) (M : Nat → Nat → Int) (w : World) (hN1 : 1 ≤ N) (hN : N ≤ 64) (hM : MemIs w p b N M) :
    Calls Try.prog 17 #[.pointer (some ⟨p, 0, none⟩), .int .i64 f, .int .i64 g] w fun e w' => e = .returned (.bool (sameM N M f g)) ∧ ∃ n, w' = w.drewN n := by
  cases h : okF N f
  · simp only [sameM, h, Bool.false_and]
    exact (same_badF p b N f g w (okF_no h) hN1 hN hM.cell).mono fun _ _ ⟨h1, h2⟩ => ⟨h1, 0, h2⟩
  · obtain ⟨c, rfl, hc⟩ := okF_split h
    cases k : okF N g
    · simp only [sameM, h, k, Bool.and_false, Bool.false_and]
      exact (same_badG p b N c g w hc (okF_no k) hN hM.cell).mono fun _ _ ⟨h1, h2⟩ => ⟨h1, 0, h2⟩
    · obtain ⟨d, rfl, hd⟩ := okF_split k
      simp only [sameM, h, k, Bool.true_and, Int.toNat_natCast]
      exact same_ok p b N c d M w hc hd hN hM

end Go.Proofs.Ytpeidlkoefmbfaa
