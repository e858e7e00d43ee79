/- What compOf of package comp answers, whatever iterator hands it six words: the component that they are, if it is a right one. -/
import Derived.Test.YtikhbohkmogffaaDoorCmpB
import Derived.Scope
namespace Go.Proofs.YtikhbohkmogffaaDoor.Pcomp
open Go.Proofs.YtikhbohkmogffaaDoor.Pbase Go.Proofs.YtikhbohkmogffaaDoor.Pfield Go.Proofs.YtikhbohkmogffaaDoor.Pmem
open Go.RowKit Go.Shelf M
attribute [local go_sem] Oper.semAt_some
set_option linter.unusedVariables false

/-- A scope of labels that no goto leaves for. -/
theorem wpIn_scope_wide {n : Nat} {P : Program} {Q : Exit → Act → World → Prop} {a : Act} {w : World} {c : Code} (h : c.wpIn Fence.wide n P (Exit.noGoto Q) a w) : (Code.scope c).wpIn Fence.wide n P Q a w := wpIn_wide.2 (wp_scope_straight (wpIn_wide.1 h))
def mx (k : Nat) : Int := mostL[k]?.getD 0
/-- What is had of the words, of which these came. -/
def hv (x : Cp) (pre : List (Fin 6)) (k : Nat) : Int := if (∃ j ∈ pre, j.1 = k) then wd x k else 0
theorem hv_nil (x : Cp) (k : Nat) : hv x [] k = 0 := by simp [hv]
theorem hv_snoc (x : Cp) (pre : List (Fin 6)) (i : Fin 6) (k : Nat) : hv x (pre ++ [i]) k = if k = i.1 then wd x k else hv x pre k := by
  unfold hv
  by_cases h : k = i.1
  · rw [if_pos h, if_pos ⟨i, by simp, h.symm⟩]
  · rw [if_neg h]
    have e : (∃ j ∈ pre ++ [i], j.1 = k) ↔ ∃ j ∈ pre, j.1 = k := by
      constructor
      · rintro ⟨j, hj, e⟩
        rcases List.mem_append.1 hj with hj | hj
        · exact ⟨j, hj, e⟩
        · simp at hj; subst hj; exact absurd e.symm h
      · rintro ⟨j, hj, e⟩
        exact ⟨j, List.mem_append_left _ hj, e⟩
    simp only [e]
theorem hv_all (x : Cp) {k : Nat} (hk : k < 6) : hv x (upto 6 6) k = wd x k := by
  unfold hv
  rw [if_pos ⟨⟨k, hk⟩, upto_mem hk, rfl⟩]
def sixH (x : Cp) (pre : List (Fin 6)) : Array Value := #[.int .u64 (hv x pre 0), .int .u64 (hv x pre 1), .int .u64 (hv x pre 2), .int .u64 (hv x pre 3), .int .u64 (hv x pre 4), .int .u64 (hv x pre 5)]
/-- The words that came so far can be. -/
structure OkP (x : Cp) (pre : List (Fin 6)) : Prop where
  le : ∀ j ∈ pre, wd x j.1 ≤ mx j.1
  at5 : (∃ j ∈ pre, j.1 = 5) → 0 < wd x 5 → wd x 4 ≠ 0
/-- Here is one that can't be. -/
def BadP (x : Cp) (pre : List (Fin 6)) (i : Fin 6) : Prop := mx i.1 < wd x i.1 ∨ (i.1 = 5 ∧ 0 < wd x 5 ∧ hv x pre 4 = 0)
theorem okP_nil (x : Cp) : OkP x [] := ⟨by simp, by simp⟩
theorem OkP.snoc {x : Cp} {pre : List (Fin 6)} {i : Fin 6} (h : OkP x pre) (hb : ¬ BadP x pre i) (hw : 0 ≤ wd x 4) : OkP x (pre ++ [i]) := by
  unfold BadP at hb
  have hb1 : wd x i.1 ≤ mx i.1 := by
    apply Int.not_lt.1
    exact fun e => hb (.inl e)
  refine ⟨fun j hj => ?_, ?_⟩
  · rcases List.mem_append.1 hj with hj | hj
    · exact h.le j hj
    · simp at hj; subst hj; exact hb1
  · rintro ⟨j, hj, e⟩ h5
    rcases List.mem_append.1 hj with hj | hj
    · exact h.at5 ⟨j, hj, e⟩ h5
    · simp at hj
      subst hj
      intro e4
      refine hb (.inr ⟨e, h5, ?_⟩)
      unfold hv
      split
      · exact e4
      · rfl
theorem okP_all {x : Cp} (h : OkP x (upto 6 6)) (hx : ∀ k, k < 6 → 0 ≤ wd x k) : coB x = true := by
  refine coB_yes ?_
  have l : ∀ k, k < 6 → wd x k ≤ mx k := fun k hk => h.le ⟨k, hk⟩ (upto_mem hk)
  have a := h.at5 ⟨⟨5, by omega⟩, upto_mem (by omega), rfl⟩
  have l0 := l 0 (by omega); have l1 := l 1 (by omega); have l2 := l 2 (by omega); have l3 := l 3 (by omega); have l4 := l 4 (by omega); have l5 := l 5 (by omega)
  have x0 := hx 0 (by omega); have x1 := hx 1 (by omega); have x2 := hx 2 (by omega); have x3 := hx 3 (by omega); have x4 := hx 4 (by omega); have x5 := hx 5 (by omega)
  simp only [wd, Cp.ws, mx, mostL, List.getElem?_cons_zero, List.getElem?_cons_succ, Option.getD_some] at l0 l1 l2 l3 l4 l5 x0 x1 x2 x3 x4 x5 a
  unfold Co
  omega
theorem badP_any {x : Cp} {k : Nat} (hk : k < 6) (h : BadP x (upto 6 k) ⟨k, hk⟩) : coB x = false := by
  refine coB_no fun hc => ?_
  unfold Co at hc
  rcases h with h | ⟨h5, h6, h7⟩
  · match k, hk, h with
    | 0, _, h | 1, _, h | 2, _, h | 3, _, h | 4, _, h | 5, _, h =>
      simp only [wd, Cp.ws, mx, mostL, List.getElem?_cons_zero, List.getElem?_cons_succ, Option.getD_some] at h
      omega
  · simp only at h5
    subst h5
    have e : hv x (upto 6 5) 4 = wd x 4 := by
      unfold hv
      rw [if_pos ⟨⟨4, by omega⟩, by rw [upto_succ (show 4 < 6 by omega)]; simp, rfl⟩]
    rw [e] at h7
    simp only [wd, Cp.ws, List.getElem?_cons_zero, List.getElem?_cons_succ, Option.getD_some] at h6 h7
    omega
/-- What the variables of compOf hold between two rounds: B: where it began. -/
structure CoI (w : World) (B : Nat) (x : Cp) (pre : List (Fin 6)) (W : World) : Prop where
  ok : OkP x pre
  br : W.heap[B]? = some (.cells #[.int .i64 0, .int .i64 0, .int .i64 0, .int .i64 0, .int .i64 0, .int .i64 0] 33 (0, 0))
  bh : W.heap[B + 1]? = some (.cells (sixH x pre) 96 (0, 0))
  bc : Boxed W (B + 1 + 1) 3 (.int .i64 (pre.length : Nat))
  below : Below B w W
theorem row_own {A C : World} {row : Option Nat} {B : Nat} {cs : Array Value} {t : TypeId} {fr : Nat × Nat} (h : A.heap[B]? = some (.cells cs t fr)) (hg : A.grownBy C row) (hr : ∀ r, row = some r → ∃ o : Obj, A.heap[r]? = some o ∧ o.isCells = false) : C.heap[B]? = some (.cells cs t fr) := by
  refine (hg.block B (Array.getElem?_eq_some_iff.1 h).1 fun e => ?_).trans h
  obtain ⟨o, ho, hc⟩ := hr B e.symm
  rw [h] at ho
  cases ho
  cases hc
theorem coI_own (w : World) (B : Nat) (x : Cp) {B' : Nat} (hB : B ≤ B') (hw : B ≤ w.heap.size) : OwnFrom B' (CoI w B x) := fun pre A C row hs hg hr => by
  have hr' : ∀ r, row = some r → ∃ o : Obj, A.heap[r]? = some o ∧ o.isCells = false := fun r e => (hr r e).2
  exact ⟨hs.ok, row_own hs.br hg hr', row_own hs.bh hg hr', row_own hs.bc hg hr', ownFrom_below hw hB pre A C row hs.below hg hr⟩
/-- What they hold where a round has left. -/
structure CoX (w : World) (B : Nat) (x : Cp) (c : Code) (pre : List (Fin 6)) (W : World) : Prop where
  code : c = .exit 0
  bad : ∃ (q : List (Fin 6)) (i : Fin 6), pre = q ++ [i] ∧ BadP x q i
  br : W.heap[B]? = some (.cells #[.int .i64 0, .int .i64 0, .int .i64 0, .int .i64 0, .int .i64 0, .int .i64 0] 33 (0, 0))
  bc : ∃ n : Nat, n < 6 ∧ Boxed W (B + 1 + 1) 3 (.int .i64 (n : Nat))
  below : Below B w W
theorem coX_own (w : World) (B : Nat) (x : Cp) (c : Code) {B' : Nat} (hB : B ≤ B') (hw : B ≤ w.heap.size) : OwnFrom B' (CoX w B x c) := fun pre A C row hs hg hr => by
  have hr' : ∀ r, row = some r → ∃ o : Obj, A.heap[r]? = some o ∧ o.isCells = false := fun r e => (hr r e).2
  obtain ⟨n, hn, hb⟩ := hs.bc
  exact ⟨hs.code, hs.bad, row_own hs.br hg hr', ⟨n, hn, row_own hb hg hr'⟩, ownFrom_below hw hB pre A C row hs.below hg hr⟩
theorem CoX.no {w W : World} {B : Nat} {x : Cp} {c : Code} {k : Nat} (h : CoX w B x c (upto 6 k) W) (hk : k ≤ 6) : coB x = false := by
  obtain ⟨q, i, e, hb⟩ := h.bad
  have hl := congrArg List.length e
  rw [upto_length hk, List.length_append, List.length_singleton] at hl
  obtain ⟨m, rfl⟩ : ∃ m, k = m + 1 := ⟨q.length, by omega⟩
  rw [upto_succ (show m < 6 by omega)] at e
  obtain ⟨e1, e2⟩ := List.append_inj' e rfl
  simp at e2
  subst e1 e2
  exact badP_any (show m < 6 by omega) hb
/-- What a round begins with. -/
def CoA (B gf : Nat) (lb : Array Value) (x : Cp) (i : Fin 6) (a' : Act) (_ : World) : Prop := a' = { tmps := #[.func (.func gf) #[] lb, undef, .pointer (some ⟨B, 0, none⟩), .bool false, .pointer (some ⟨B + 1, 0, none⟩), .pointer (some ⟨B + 1 + 1, 0, none⟩), .int .i64 (i.1 : Nat), .int .u64 (wd x i.1), .func (.func gf) #[] lb, .int .i64 (i.1 : Nat), .int .u64 (wd x i.1), undef, undef, undef, undef, undef, undef, undef, undef, undef, undef, undef, undef, undef, undef, undef, undef, undef, undef, undef, undef, undef, undef, undef, undef, undef, undef, undef, undef, undef, undef, undef, undef, undef, undef, undef, undef, undef, undef, undef, undef, undef, undef, undef, undef, undef], defers := [] }
theorem sixH_set (x : Cp) (pre : List (Fin 6)) (i : Fin 6) : (sixH x pre).setIfInBounds i.1 (.int .u64 (wd x i.1)) = sixH x (pre ++ [i]) := by
  have e := hv_snoc x pre i
  have hi := i.2
  unfold sixH
  simp only [e]
  generalize i.1 = k at hi ⊢
  rcases (show k = 0 ∨ k = 1 ∨ k = 2 ∨ k = 3 ∨ k = 4 ∨ k = 5 by omega) with rfl | rfl | rfl | rfl | rfl | rfl <;> rfl
theorem sixH_at (x : Cp) (pre : List (Fin 6)) {k : Nat} (hk : k < 6) : (sixH x pre)[k]? = some (.int .u64 (hv x pre k)) := by
  rcases (show k = 0 ∨ k = 1 ∨ k = 2 ∨ k = 3 ∨ k = 4 ∨ k = 5 by omega) with rfl | rfl | rfl | rfl | rfl | rfl <;> simp [sixH]
theorem tab_at {W : World} (h : TabC W) {k : Nat} (hk : k < 6) : W.cell? ⟨0, k, none⟩ = some (.int .u64 (mx k)) := by
  obtain ⟨t, fr, hr⟩ := h.row
  rw [cell_of_row _ _ _ _ _ _ hr]
  rcases (show k = 0 ∨ k = 1 ∨ k = 2 ∨ k = 3 ∨ k = 4 ∨ k = 5 by omega) with rfl | rfl | rfl | rfl | rfl | rfl <;> rfl
/-- One word more. -/
theorem CoI.step {w W : World} {B : Nat} {x : Cp} {pre : List (Fin 6)} (h : CoI w B x pre W) (i : Fin 6) (hok : OkP x (pre ++ [i])) : CoI w B x (pre ++ [i]) ((W.setCell ⟨B + 1, i.1, none⟩ (.int .u64 (wd x i.1))).setCell ⟨B + 1 + 1, 0, none⟩ (.int .i64 ((pre.length : Nat) + 1))) := by
  refine ⟨hok, ?_, ?_, ?_, ?_⟩
  · rw [heap_setCell_other _ _ _ _ (by show B ≠ B + 1 + 1; omega), heap_setCell_other _ _ _ _ (by show B ≠ B + 1; omega)]
    exact h.br
  · rw [heap_setCell_other _ _ _ _ (by show B + 1 ≠ B + 1 + 1; omega), heap_setCell_same _ _ _ _ _ _ h.bh, sixH_set]
  · have e : Boxed (W.setCell ⟨B + 1, i.1, none⟩ (.int .u64 (wd x i.1))) (B + 1 + 1) 3 (.int .i64 (pre.length : Nat)) := (heap_setCell_other _ _ _ _ (by show B + 1 + 1 ≠ B + 1; omega)).trans h.bc
    have e2 := e.set (.int .i64 ((pre.length : Nat) + 1))
    rw [List.length_append, List.length_singleton]
    exact e2
  · exact (h.below.setCell (p := ⟨B + 1, i.1, none⟩) (by show B ≤ B + 1; omega) _).setCell (p := ⟨B + 1 + 1, 0, none⟩) (by show B ≤ B + 1 + 1; omega) _
/-- Six numbers stored into a block of six. -/
theorem six_set {W : World} {B : Nat} {v0 v1 v2 v3 v4 v5 : Value} {t : TypeId} (h : W.heap[B]? = some (.cells #[v0, v1, v2, v3, v4, v5] t (0, 0))) (a0 a1 a2 a3 a4 a5 : Value) {W' : World}
    (hW : W' = (((((W.setCell ⟨B, 0, none⟩ a0).setCell ⟨B, 1, none⟩ a1).setCell ⟨B, 2, none⟩ a2).setCell ⟨B, 3, none⟩ a3).setCell ⟨B, 4, none⟩ a4).setCell ⟨B, 5, none⟩ a5) : W'.heap[B]? = some (.cells #[a0, a1, a2, a3, a4, a5] t (0, 0)) ∧ Below B W W' ∧ KeepsOthers W W' := by
  subst hW
  have h0 := heap_setCell_same _ _ 0 _ _ a0 h
  have h1 := heap_setCell_same _ _ 1 _ _ a1 h0
  have h2 := heap_setCell_same _ _ 2 _ _ a2 h1
  have h3 := heap_setCell_same _ _ 3 _ _ a3 h2
  have h4 := heap_setCell_same _ _ 4 _ _ a4 h3
  have h5 := heap_setCell_same _ _ 5 _ _ a5 h4
  refine ⟨h5, ?_, ?_⟩
  · exact ((((((Below.refl B W).setCell (p := ⟨B, 0, none⟩) (Nat.le_refl _) _).setCell (p := ⟨B, 1, none⟩) (Nat.le_refl _) _).setCell (p := ⟨B, 2, none⟩) (Nat.le_refl _) _).setCell (p := ⟨B, 3, none⟩) (Nat.le_refl _) _).setCell (p := ⟨B, 4, none⟩) (Nat.le_refl _) _).setCell (p := ⟨B, 5, none⟩) (Nat.le_refl _) _
  · exact ((((((KeepsOthers.setCell _ _ _).trans (KeepsOthers.setCell _ _ _)).trans (KeepsOthers.setCell _ _ _)).trans (KeepsOthers.setCell _ _ _)).trans (KeepsOthers.setCell _ _ _)).trans (KeepsOthers.setCell _ _ _))
set_option maxRecDepth 100000 in
set_option maxHeartbeats 2000000 in
theorem compOf_in (x : Cp) (hx : ∀ k, k < 6 → 0 ≤ wd x k) (gf : Nat) (lb : Array Value) (K : World → Prop) (w : World) (hT : TabC w)
    (hK : ∀ X Y, Below w.heap.size X Y → K X → K Y) (hen : ∀ args v, (callFunc gf args).run Tryd.prog v = .ok (.enter gf args) v)
    (hseq : SeqStopsK Fence.wide 8 Tryd.prog gf lb (encW x) (fun X Y => K X → K Y) (fun ys => ys = upto 6 6) (fun pre => ∃ k, k ≤ 6 ∧ pre = upto 6 k) 6 w) :
    Calls Tryd.prog 33 #[.func (.func gf) #[] lb] w fun e W' =>
      ((coB x = true ∧ e = .returned (.tuple #[x.v, .bool true])) ∨ (coB x = false ∧ e = .returned (.tuple #[cp0.v, .bool false]))) ∧ Below w.heap.size w W' := by
  refine (callsIn_wide (n := 9)).1 ?_
  refine callsIn_of_wp_marks Tryd.func33 rfl trivial ?_ rfl
  simp only [Tryd.ntmps33, List.size_toArray, List.length_cons, List.length_nil, Nat.reduceAdd, Nat.reduceSub, Array.replicate_succ, Array.replicate_zero, List.push_toArray, List.append_toArray, List.nil_append, List.cons_append]
  gi_wp2
  refine wpIn_scope_wide ?_
  gi_wp2
  refine wpIn_label ?_
  gi_wp2
  have b1 : Boxed (((w.alloc (.cells #[.int .i64 0, .int .i64 0, .int .i64 0, .int .i64 0, .int .i64 0, .int .i64 0] 33)).alloc (.cells #[.int .u64 0, .int .u64 0, .int .u64 0, .int .u64 0, .int .u64 0, .int .u64 0] 96)).alloc (.cells #[.int .i64 0] 3)) (w.heap.size + 1 + 1) 3 (.int .i64 0) := by
    have := Boxed.new ((w.alloc (.cells #[.int .i64 0, .int .i64 0, .int .i64 0, .int .i64 0, .int .i64 0, .int .i64 0] 33)).alloc (.cells #[.int .u64 0, .int .u64 0, .int .u64 0, .int .u64 0, .int .u64 0, .int .u64 0] 96)) 3 (.int .i64 0)
    simp only [World.size_alloc] at this
    exact this
  have b2 : (((w.alloc (.cells #[.int .i64 0, .int .i64 0, .int .i64 0, .int .i64 0, .int .i64 0, .int .i64 0] 33)).alloc (.cells #[.int .u64 0, .int .u64 0, .int .u64 0, .int .u64 0, .int .u64 0, .int .u64 0] 96)).alloc (.cells #[.int .i64 0] 3)).heap[w.heap.size + 1]? = some (.cells #[.int .u64 0, .int .u64 0, .int .u64 0, .int .u64 0, .int .u64 0, .int .u64 0] 96 (0, 0)) := by
    have := heap_alloc2_old (w.alloc (.cells #[.int .i64 0, .int .i64 0, .int .i64 0, .int .i64 0, .int .i64 0, .int .i64 0] 33)) (.cells #[.int .u64 0, .int .u64 0, .int .u64 0, .int .u64 0, .int .u64 0, .int .u64 0] 96) (.cells #[.int .i64 0] 3)
    rw [World.size_alloc] at this
    exact this
  have b3 : (((w.alloc (.cells #[.int .i64 0, .int .i64 0, .int .i64 0, .int .i64 0, .int .i64 0, .int .i64 0] 33)).alloc (.cells #[.int .u64 0, .int .u64 0, .int .u64 0, .int .u64 0, .int .u64 0, .int .u64 0] 96)).alloc (.cells #[.int .i64 0] 3)).heap[w.heap.size]? = some (.cells #[.int .i64 0, .int .i64 0, .int .i64 0, .int .i64 0, .int .i64 0, .int .i64 0] 33 (0, 0)) := by
    rw [Below.heap_alloc _ _ _ (by simp; omega), Below.heap_alloc _ _ _ (by simp)]
    exact heap_alloc_new w _
  have hI0 : CoI w w.heap.size x [] (((w.alloc (.cells #[.int .i64 0, .int .i64 0, .int .i64 0, .int .i64 0, .int .i64 0, .int .i64 0] 33)).alloc (.cells #[.int .u64 0, .int .u64 0, .int .u64 0, .int .u64 0, .int .u64 0, .int .u64 0] 96)).alloc (.cells #[.int .i64 0] 3)) :=
    ⟨okP_nil x, b3, b2, b1, bal (bal (bal (Below.refl _ _) _) _) _⟩
  have hs0 : (((w.alloc (.cells #[.int .i64 0, .int .i64 0, .int .i64 0, .int .i64 0, .int .i64 0, .int .i64 0] 33)).alloc (.cells #[.int .u64 0, .int .u64 0, .int .u64 0, .int .u64 0, .int .u64 0, .int .u64 0] 96)).alloc (.cells #[.int .i64 0] 3)).heap.size = w.heap.size + 3 := by simp
  clear b1 b2 b3
  generalize ((w.alloc _).alloc _).alloc _ = V at hI0 hs0 ⊢
  refine wpIn_rangeFunc_ownH rfl (by omega) (gf := gf) (lb := lb) rfl trivial hen hseq (fun h k => fun x => k (h x)) (fun W l o o' hl hWl ho hw hx => hK _ _ (belowK_b (w := V) (by omega) W l o o' hl hWl ho hw) hx) hI0.below (fun _ => rfl)
    (CoI w w.heap.size x) (CoX w w.heap.size x)
    (coI_own w w.heap.size x (by omega) (Nat.le_refl _)) (fun c => coX_own w w.heap.size x c (by omega) (Nat.le_refl _)) hI0
    (CoA w.heap.size gf lb x) (fun i a' => ownFrom_pure _ (fun _ : Unit => _)) ?assign ?body ?done ?stop
  case assign =>
    intro l pre i W K' hI hK'
    unfold encW
    gi_wp2
    exact hK' _ _ ((KeepsOthers.refl W).from _) (fun h => h) hI rfl
  case body =>
    rintro l pre i a' W hl _ hI rfl hlt
    have q1 := tab_at (hT.on hI.below) i.2
    have q2 : W.cell? ⟨w.heap.size + 1, 4, none⟩ = some (.int .u64 (hv x pre 4)) := (cell_of_row _ _ _ _ _ _ hI.bh).trans (sixH_at x pre (by omega))
    have q3 : W.cell? ⟨w.heap.size + 1, i.1, none⟩ = some (.int .u64 (hv x pre i.1)) := (cell_of_row _ _ _ _ _ _ hI.bh).trans (sixH_at x pre i.2)
    have f3 : W.frozen? ⟨w.heap.size + 1, i.1, none⟩ = false := frozen_of_row _ _ _ _ _ hI.bh
    have q4 := hI.bc.cell
    have f4 := hI.bc.frozen
    have hi6 : ((i.1 : Nat) : Int) < 6 := by have := i.2; omega
    have HI : Hid (CoI w w.heap.size x pre W) := hI
    have hwl : wrap64 (((pre.length : Nat) : Int) + 1) = ((pre.length : Nat) : Int) + 1 := by unfold wrap64; omega
    have h4 := hx 4 (by omega)
    have hne : ¬ w.heap.size + 1 = w.heap.size + 1 + 1 := by omega
    by_cases hA : mx i.1 < wd x i.1
    · have HA : Hid (mx i.1 < wd x i.1) := hA
      clear hI
      gi_wp2
      exact ⟨(KeepsOthers.refl W).from _, rfl, ⟨pre, i, rfl, .inl HA.out⟩, HI.out.br, ⟨pre.length, hlt, HI.out.bc⟩, HI.out.below⟩
    have HA : Hid (¬ mx i.1 < wd x i.1) := hA
    clear hI
    by_cases h5 : i.1 = 5
    · have e5 : (((i.1 : Nat) : Int) == 5) = true := by simp [h5]
      by_cases hw : 0 < wd x i.1
      · by_cases hz : hv x pre 4 = 0
        · have ez : (hv x pre 4 == 0) = true := by simp [hz]
          have HZ : Hid (i.1 = 5 ∧ 0 < wd x 5 ∧ hv x pre 4 = 0) := ⟨h5, by rw [h5] at hw; exact hw, hz⟩
          clear h5 hz
          gi_wp2
          exact ⟨(KeepsOthers.refl W).from _, rfl, ⟨pre, i, rfl, .inr HZ.out⟩, HI.out.br, ⟨pre.length, hlt, HI.out.bc⟩, HI.out.below⟩
        · have ez : (hv x pre 4 == 0) = false := by simp [hz]
          have HB : Hid (¬ BadP x pre i) := fun h => h.elim HA.out fun h => hz h.2.2
          clear h5 hz
          gi_wp2
          exact ⟨((KeepsOthers.setCell _ _ _).trans (KeepsOthers.setCell _ _ _)).from _, fun h => hK _ _ (((Below.refl _ W).setCell (p := ⟨w.heap.size + 1, i.1, none⟩) (by show w.heap.size ≤ w.heap.size + 1; omega) _).setCell (p := ⟨w.heap.size + 1 + 1, 0, none⟩) (by show w.heap.size ≤ w.heap.size + 1 + 1; omega) _) h, HI.out.step i (HI.out.ok.snoc HB.out h4)⟩
      · have HB : Hid (¬ BadP x pre i) := fun h => h.elim HA.out fun h => hw (by rw [h5]; exact h.2.1)
        clear h5
        gi_wp2
        exact ⟨((KeepsOthers.setCell _ _ _).trans (KeepsOthers.setCell _ _ _)).from _, fun h => hK _ _ (((Below.refl _ W).setCell (p := ⟨w.heap.size + 1, i.1, none⟩) (by show w.heap.size ≤ w.heap.size + 1; omega) _).setCell (p := ⟨w.heap.size + 1 + 1, 0, none⟩) (by show w.heap.size ≤ w.heap.size + 1 + 1; omega) _) h, HI.out.step i (HI.out.ok.snoc HB.out h4)⟩
    · have e5 : (((i.1 : Nat) : Int) == 5) = false := by simp; omega
      have HB : Hid (¬ BadP x pre i) := fun h => h.elim HA.out fun h => h5 h.1
      clear h5
      gi_wp2
      exact ⟨((KeepsOthers.setCell _ _ _).trans (KeepsOthers.setCell _ _ _)).from _, fun h => hK _ _ (((Below.refl _ W).setCell (p := ⟨w.heap.size + 1, i.1, none⟩) (by show w.heap.size ≤ w.heap.size + 1; omega) _).setCell (p := ⟨w.heap.size + 1 + 1, 0, none⟩) (by show w.heap.size ≤ w.heap.size + 1 + 1; omega) _) h, HI.out.step i (HI.out.ok.snoc HB.out h4)⟩
  case done =>
    rintro D ys W hD rfl hI hKD
    have hco := okP_all hI.ok hx
    have hcc := (coB_iff x).1 hco
    have g : ∀ k, k < 6 → W.cell? ⟨w.heap.size + 1, k, none⟩ = some (.int .u64 (wd x k)) := fun k hk => by rw [cell_of_row _ _ _ _ _ _ hI.bh, sixH_at x _ hk, hv_all x hk]
    have g0 := g 0 (by omega)
    have g1 := g 1 (by omega)
    have g2 := g 2 (by omega)
    have g3 := g 3 (by omega)
    have g4 := g 4 (by omega)
    have g5 := g 5 (by omega)
    simp only [wd, Cp.ws, List.getElem?_cons_zero, List.getElem?_cons_succ, Option.getD_some] at g0 g1 g2 g3 g4 g5
    have w0 : IntKind.i64.wrap x.tb = x.tb := wrapi_small (by unfold Co at hcc; omega) (by unfold Co at hcc; omega)
    have w1 : IntKind.i64.wrap x.pg = x.pg := wrapi_small (by unfold Co at hcc; omega) (by unfold Co at hcc; omega)
    have w2 : IntKind.i64.wrap x.l = x.l := wrapi_small (by unfold Co at hcc; omega) (by unfold Co at hcc; omega)
    have w3 : IntKind.i64.wrap x.e = x.e := wrapi_small (by unfold Co at hcc; omega) (by unfold Co at hcc; omega)
    have w4 : IntKind.i64.wrap x.fa = x.fa := wrapi_small (by unfold Co at hcc; omega) (by unfold Co at hcc; omega)
    have w5 : IntKind.i64.wrap x.wh = x.wh := wrapi_small (by unfold Co at hcc; omega) (by unfold Co at hcc; omega)
    have kc := hI.bc.cell
    rw [upto_length (Nat.le_refl _)] at kc
    have r0 := fun j => cell_of_row W w.heap.size j _ _ _ hI.br
    have fz := fun j => frozen_of_row W w.heap.size j _ _ hI.br
    have HI : Hid (CoI w w.heap.size x (upto 6 6) W) := hI
    have HC : Hid (coB x = true) := hco
    clear hI hco hcc g hx hseq hK hen
    gi_wp2
    generalize hW' : (((((W.setCell ⟨w.heap.size, 0, none⟩ _).setCell ⟨w.heap.size, 1, none⟩ _).setCell ⟨w.heap.size, 2, none⟩ _).setCell ⟨w.heap.size, 3, none⟩ _).setCell ⟨w.heap.size, 4, none⟩ _).setCell ⟨w.heap.size, 5, none⟩ _ = W'
    obtain ⟨s1, s2, s3⟩ := six_set HI.out.br _ _ _ _ _ _ hW'.symm
    have hK2 := s3.same D _ hKD rfl
    refine ⟨by simp, .inl ⟨_, _, rfl, run_takeDeferred hK2, ?_⟩⟩
    have s4 : (W'.putObj D (.deferred none)).heap[w.heap.size]? = some (.cells #[.int .i64 x.tb, .int .i64 x.pg, .int .i64 x.l, .int .i64 x.e, .int .i64 x.fa, .int .i64 x.wh] 33 (0, 0)) := (World.putObj_heap_other (by omega)).trans s1
    have c := fun j => cell_of_row _ w.heap.size j _ _ _ s4
    have c0 := c 0
    have c1 := c 1
    have c2 := c 2
    have c3 := c 3
    have c4 := c 4
    have c5 := c 5
    simp only [List.getElem?_toArray, List.getElem?_cons_zero, List.getElem?_cons_succ] at c0 c1 c2 c3 c4 c5
    refine ⟨.tuple #[.agg #[.int .i64 x.tb, .int .i64 x.pg, .int .i64 x.l, .int .i64 x.e, .int .i64 x.fa, .int .i64 x.wh], .bool true], by simp [results, Tryd.f33, go_sem, c0, c1, c2, c3, c4, c5], .inl ⟨HC.out, rfl⟩, ?_⟩
    exact (HI.out.below.trans s2).trans (belowK_b (w := w) (Nat.le_refl _) _ D _ _ (by omega) hK2 rfl rfl)
  case stop =>
    rintro D c pre W hD ⟨k, hk, rfl⟩ hX hKD
    have hno := hX.no hk
    obtain ⟨n, hn, hb⟩ := hX.bc
    have kc := hb.cell
    have hn6 : (n : Int) < 6 := by omega
    have hX' := hX
    obtain ⟨rfl, _, hbr, _, hB⟩ := hX'
    have r0 := fun j => cell_of_row W w.heap.size j _ _ _ hbr
    have fz := fun j => frozen_of_row W w.heap.size j _ _ hbr
    clear hX hx hseq hK hen hb
    gi_wp2
    generalize hW' : (((((W.setCell ⟨w.heap.size, 0, none⟩ _).setCell ⟨w.heap.size, 1, none⟩ _).setCell ⟨w.heap.size, 2, none⟩ _).setCell ⟨w.heap.size, 3, none⟩ _).setCell ⟨w.heap.size, 4, none⟩ _).setCell ⟨w.heap.size, 5, none⟩ _ = W'
    obtain ⟨s1, s2, s3⟩ := six_set hbr _ _ _ _ _ _ hW'.symm
    have hK2 := s3.same D _ hKD rfl
    refine ⟨by simp, .inl ⟨_, _, rfl, run_takeDeferred hK2, ?_⟩⟩
    have s4 : (W'.putObj D (.deferred none)).heap[w.heap.size]? = some (.cells #[.int .i64 0, .int .i64 0, .int .i64 0, .int .i64 0, .int .i64 0, .int .i64 0] 33 (0, 0)) := (World.putObj_heap_other (by omega)).trans s1
    have c := fun j => cell_of_row _ w.heap.size j _ _ _ s4
    have c0 := c 0
    have c1 := c 1
    have c2 := c 2
    have c3 := c 3
    have c4 := c 4
    have c5 := c 5
    simp only [List.getElem?_toArray, List.getElem?_cons_zero, List.getElem?_cons_succ] at c0 c1 c2 c3 c4 c5
    refine ⟨.tuple #[.agg #[.int .i64 0, .int .i64 0, .int .i64 0, .int .i64 0, .int .i64 0, .int .i64 0], .bool false], by simp [results, Tryd.f33, go_sem, c0, c1, c2, c3, c4, c5], .inr ⟨hno, rfl⟩, ?_⟩
    exact (hB.trans s2).trans (belowK_b (w := w) (Nat.le_refl _) _ D _ _ (by omega) hK2 rfl rfl)
end Go.Proofs.YtikhbohkmogffaaDoor.Pcomp
