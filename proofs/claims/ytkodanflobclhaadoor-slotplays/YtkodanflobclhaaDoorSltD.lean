/- What All of package slot answers: for every frame the capabilities of all slots, in memory of its own, or the first error. -/
import Derived.Test.YtkodanflobclhaaDoorSltC
import Derived.Test.YtkodanflobclhaaDoorFldU
import Derived.Sort.QuietIn
import Derived.Scope
namespace Go.Proofs.YtkodanflobclhaaDoor.Pslot
open Go.Proofs.YtkodanflobclhaaDoor.Pbase Go.Proofs.YtkodanflobclhaaDoor.Pcap Go.Proofs.YtkodanflobclhaaDoor.Pfield Go.Proofs.YtkodanflobclhaaDoor.Pmem
open Go.RowKit Go.Shelf M
attribute [local go_sem] Oper.semAt_some
set_option linter.unusedVariables false

/-- A scope of labels that no goto leaves for. -/
theorem wpIn_scope_wide {n : Nat} {P : Program} {Q : Exit → Act → World → Prop} {a : Act} {w : World} {c : Code} (h : c.wpIn Fence.wide n P (Exit.noGoto Q) a w) : (Code.scope c).wpIn Fence.wide n P Q a w := wpIn_wide.2 (wp_scope_straight (wpIn_wide.1 h))
/-- The cells of the capabilities in these slots. -/
def cells6 (N : Nat) (M : Nat → Nat → Int) (f : Int) (x : Fin 16) : List Value := [.int .i64 (sC N M f (x.1 : Nat) 0), .int .i64 (sC N M f (x.1 : Nat) 1), .int .i64 (sC N M f (x.1 : Nat) 2), .int .i64 (sC N M f (x.1 : Nat) 3), .int .i64 (sC N M f (x.1 : Nat) 4), .int .i64 (sC N M f (x.1 : Nat) 5)]
def capsOf (N : Nat) (M : Nat → Nat → Int) (f : Int) (pre : List (Fin 16)) : List Value := pre.flatMap (cells6 N M f)
theorem capsOf_snoc (N : Nat) (M : Nat → Nat → Int) (f : Int) (pre : List (Fin 16)) (x : Fin 16) : capsOf N M f (pre ++ [x]) = capsOf N M f pre ++ cells6 N M f x := by simp [capsOf]
theorem infoCap : (Tryd.prog.info? 32).map (fun i => (i.zero, i.size, i.bytes)) = some (some (.agg #[.int .i64 0, .int .i64 0, .int .i64 0, .int .i64 0, .int .i64 0, .int .i64 0]), 6, 48) := by kernel_rfl
theorem make_caps : ∃ Z : Array Value, Z.size = 96 ∧ ∀ w, (Instr.makeSlice 24 (.int .i64 0) (.int .i64 16)).run Tryd.prog w = .ok (.slice (some ⟨w.heap.size, 0, none⟩) 0 16) (w.alloc (.cells Z 32)) := by
  obtain ⟨i0, hi, hz0, hz1, hz2⟩ := info_parts infoCap
  refine ⟨madeCells (Value.cells (.agg #[.int .i64 0, .int .i64 0, .int .i64 0, .int .i64 0, .int .i64 0, .int .i64 0])) 96, size_madeCells _ _, fun w => ?_⟩
  have := run_make (P := Tryd.prog) w 24 32 i0 _ Tryd.underlying24 hi hz0 .i64 .i64 0 16 (by omega) (by omega) (by rw [hz2]; omega) (by omega)
  rw [hz1] at this
  exact this
theorem six_new (w : World) (a b c d e g : Value) (t : TypeId) : ∀ j u, [a, b, c, d, e, g][j]? = some u → (w.alloc (.cells #[a, b, c, d, e, g] t)).cell? ((⟨w.heap.size, 0, none⟩ : Addr).add j) = some u := by
  intro j u hj
  rw [Addr.add_lit, Nat.zero_add, cell_of_row _ _ j _ _ _ (heap_alloc_new w _)]
  match j, hj with
  | 0, hj | 1, hj | 2, hj | 3, hj | 4, hj | 5, hj => exact hj
  | j + 6, hj => simp at hj
theorem six_one (N : Nat) (M : Nat → Nat → Int) (f : Int) (x : Fin 16) : ∀ u ∈ cells6 N M f x, u.oneCell' = true := by
  intro u hu
  simp only [cells6, List.mem_cons, List.not_mem_nil, or_false] at hu
  rcases hu with rfl | rfl | rfl | rfl | rfl | rfl <;> rfl
/-- What the variables of All hold between two rounds. B: where All began. -/
structure AlI (w : World) (B p N : Nat) (M : Nat → Nat → Int) (f : Int) (pre : List (Fin 16)) (W : World) : Prop where
  ok : ∀ j ∈ pre, sE N M f (j.1 : Nat) = 0
  be : Boxed W (B + 1 + 1) 29 (.int .i64 0)
  bm : Boxed W (B + 1 + 1 + 1) 25 (.pointer (some ⟨p, 0, none⟩))
  bf : Boxed W (B + 1 + 1 + 1 + 1) 3 (.int .i64 f)
  row : ∃ v, Boxed W (B + 1) 24 v ∧ W.ownsRow B 32 6 v pre.length (capsOf N M f pre) ∧ True
  below : Below B w W
theorem alI_own (w : World) (B p N : Nat) (M : Nat → Nat → Int) (f : Int) {B' : Nat} (hB : B ≤ B') (hw : B ≤ w.heap.size) : OwnFrom B' (AlI w B p N M f) := fun pre A C row hs hg hr => by
  have hr' : ∀ r, row = some r → ∃ o : Obj, A.heap[r]? = some o ∧ o.isCells = false := fun r e => (hr r e).2
  exact ⟨hs.ok, boxed_own _ _ (fun _ : Unit => .int .i64 0) () A C row hs.be hg hr', boxed_own _ _ (fun _ : Unit => .pointer (some ⟨p, 0, none⟩)) () A C row hs.bm hg hr', boxed_own _ _ (fun _ : Unit => .int .i64 f) () A C row hs.bf hg hr',
    holdsRow_own B (B + 1) 24 32 6 (fun pre : List (Fin 16) => pre.length) (fun pre => capsOf N M f pre) (fun _ _ => True) pre A C row hs.row hg hr',
    ownFrom_below hw hB pre A C row hs.below hg hr⟩
/-- What they hold where a round has left. -/
structure AlX (w : World) (B N : Nat) (M : Nat → Nat → Int) (f : Int) (c : Code) (pre : List (Fin 16)) (W : World) : Prop where
  code : c = .exit 0
  bad : ∃ x : Fin 16, sE N M f (x.1 : Nat) ≠ 0 ∧ Boxed W (B + 1 + 1) 29 (.int .i64 (sE N M f (x.1 : Nat)))
  row : Boxed W (B + 1) 24 (.slice none 0 0)
  below : Below B w W
theorem alX_own (w : World) (B N : Nat) (M : Nat → Nat → Int) (f : Int) (c : Code) {B' : Nat} (hB : B ≤ B') (hw : B ≤ w.heap.size) : OwnFrom B' (AlX w B N M f c) := fun pre A C row hs hg hr => by
  have hr' : ∀ r, row = some r → ∃ o : Obj, A.heap[r]? = some o ∧ o.isCells = false := fun r e => (hr r e).2
  obtain ⟨x, h1, h2⟩ := hs.bad
  exact ⟨hs.code, ⟨x, h1, boxed_own _ _ (fun _ : Unit => .int .i64 (sE N M f (x.1 : Nat))) () A C row h2 hg hr'⟩, boxed_own _ _ (fun _ : Unit => .slice none 0 0) () A C row hs.row hg hr', ownFrom_below hw hB pre A C row hs.below hg hr⟩
/-- Where the iterator's things lie. -/
theorem AlI.it {w : World} {p b N : Nat} {M : Nat → Nat → Int} {f : Int} {pre : List (Fin 16)} {W : World} (h : AlI w w.heap.size p N M f pre W) (hM : Mt w p b N M) : It W (w.heap.size + 1 + 1 + 1) p b N M f :=
  ⟨h.bm, h.bf, hM.on h.below⟩
/-- What a round begins with: the capability that it was handed in a block of its own. -/
def AlA (w : World) (p N : Nat) (M : Nat → Nat → Int) (f : Int) (x : Fin 16) (a' : Act) (W : World) : Prop :=
  ∃ q, W.heap[q]? = some (.cells (cells6 N M f x).toArray 32 (0, 0)) ∧ a' = { tmps := #[.pointer (some ⟨p, 0, none⟩), .int .i64 f, undef, undef, .slice none 0 0, .int .i64 0, .pointer (some ⟨w.heap.size + 1, 0, none⟩), .pointer (some ⟨w.heap.size + 1 + 1, 0, none⟩), .pointer (some ⟨q, 0, none⟩), .int .i64 (sE N M f (x.1 : Nat)), .slice (some ⟨w.heap.size, 0, none⟩) 0 16, .pointer (some ⟨p, 0, none⟩), .int .i64 f, .func (.func 46) #[] #[.pointer (some ⟨w.heap.size + 1 + 1 + 1, 0, none⟩), .pointer (some ⟨w.heap.size + 1 + 1 + 1 + 1, 0, none⟩)], .agg (cells6 N M f x).toArray, .int .i64 (sE N M f (x.1 : Nat)), undef, undef, undef, undef, undef, undef, undef, undef, undef, undef], defers := [] }
theorem alA_own (w : World) (p N : Nat) (M : Nat → Nat → Int) (f : Int) (x : Fin 16) (a' : Act) (B' : Nat) : OwnFrom B' (fun (_ : Unit) W => AlA w p N M f x a' W) := fun _ A C row hs hg hr => by
  obtain ⟨q, hq, e⟩ := hs
  exact ⟨q, (hg.block q (Array.getElem?_eq_some_iff.1 hq).1 (fun e' => by obtain ⟨_, o, ho, hc⟩ := hr q e'.symm; rw [hq] at ho; cases ho; cases hc)).trans hq, e⟩
set_option maxRecDepth 100000 in
set_option maxHeartbeats 2000000 in
theorem sall_in (p b N : Nat) (f : Int) (M : Nat → Nat → Int) (w : World) (hM : Mt w p b N M) :
    Calls Tryd.prog 15 #[.pointer (some ⟨p, 0, none⟩), .int .i64 f] w fun e W' =>
      (((∀ j : Fin 16, sE N M f (j.1 : Nat) = 0) ∧ ∃ v, e = .returned (.tuple #[v, .int .i64 0]) ∧ W'.ownsRow w.heap.size 32 6 v 16 (capsOf N M f (upto 16 16))) ∨
       (∃ x : Fin 16, sE N M f (x.1 : Nat) ≠ 0 ∧ e = .returned (.tuple #[.slice none 0 0, .int .i64 (sE N M f (x.1 : Nat))]))) ∧ Below w.heap.size w W' := by
  obtain ⟨Z, hZ, hmk⟩ := make_caps
  obtain ⟨it, hi, hz0, hz1, hz2⟩ := info_parts infoCap
  have HM : Hid (Mt w p b N M) := hM
  clear hM
  refine (callsIn_wide (n := 9)).1 ?_
  refine callsIn_of_wp_marks Tryd.func15 rfl trivial ?_ rfl
  simp only [Tryd.ntmps15, List.size_toArray, List.length_cons, List.length_nil, Nat.reduceAdd, Nat.reduceSub, Array.replicate_succ, Array.replicate_zero, List.push_toArray, List.append_toArray, List.nil_append, List.cons_append]
  gi_wp2
  refine wpIn_scope_wide ?_
  gi_wp2
  refine wpIn_label ?_
  gi_wp2_with (first | (refine ⟨trivial, ?_⟩; gi_at_call 32; refine (each_in _ _ _ _).mono ?_; rintro e w' ⟨rfl, rfl⟩) | fail)
  have b0 := World.ownsRow_made (base := w.heap.size) (e := 32) (size := 6) w Z 16 (Nat.le_refl _) (by decide) (by rw [hZ])
  have b1 := Boxed.new (w.alloc (.cells Z 32)) 24 (.slice (some ⟨w.heap.size, 0, none⟩) 0 16)
  have b2 := Boxed.new ((w.alloc (.cells Z 32)).alloc (.cells #[.slice (some ⟨w.heap.size, 0, none⟩) 0 16] 24)) 29 (.int .i64 0)
  have b3 := Boxed.new (((w.alloc (.cells Z 32)).alloc (.cells #[.slice (some ⟨w.heap.size, 0, none⟩) 0 16] 24)).alloc (.cells #[.int .i64 0] 29)) 25 (.pointer (some ⟨p, 0, none⟩))
  have b4 := Boxed.new ((((w.alloc (.cells Z 32)).alloc (.cells #[.slice (some ⟨w.heap.size, 0, none⟩) 0 16] 24)).alloc (.cells #[.int .i64 0] 29)).alloc (.cells #[.pointer (some ⟨p, 0, none⟩)] 25)) 3 (.int .i64 f)
  simp only [World.size_alloc] at b1 b2 b3 b4
  have hI0 : AlI w w.heap.size p N M f [] (((((w.alloc (.cells Z 32)).alloc (.cells #[.slice (some ⟨w.heap.size, 0, none⟩) 0 16] 24)).alloc (.cells #[.int .i64 0] 29)).alloc (.cells #[.pointer (some ⟨p, 0, none⟩)] 25)).alloc (.cells #[.int .i64 f] 3)) :=
    ⟨by simp, (b2.alloc _).alloc _, b3.alloc _, b4, ⟨_, ((b1.alloc _).alloc _).alloc _, (((b0.alloc _).alloc _).alloc _).alloc _, trivial⟩, bal (bal (bal (bal (bal (Below.refl _ _) _) _) _) _) _⟩
  have hs0 : (((((w.alloc (.cells Z 32)).alloc (.cells #[.slice (some ⟨w.heap.size, 0, none⟩) 0 16] 24)).alloc (.cells #[.int .i64 0] 29)).alloc (.cells #[.pointer (some ⟨p, 0, none⟩)] 25)).alloc (.cells #[.int .i64 f] 3)).heap.size = w.heap.size + 5 := by simp
  clear b0 b1 b2 b3 b4
  generalize ((((w.alloc (.cells Z 32)).alloc _).alloc _).alloc _).alloc _ = V at hI0 hs0 ⊢
  refine wpIn_rangeFunc_ownH rfl (by omega) (gf := 46) (lb := #[.pointer (some ⟨w.heap.size + 1 + 1 + 1, 0, none⟩), .pointer (some ⟨w.heap.size + 1 + 1 + 1 + 1, 0, none⟩)]) rfl trivial (enters_of Tryd.func46 (by kernel_rfl) rfl)
    (each_stops 8 (by omega) (w.heap.size + 1 + 1 + 1) p b N M f V (hI0.it HM.out)) (fun h k => fun x => k (h x)) (fun W l o o' hl hWl ho _ hx => hx.putObj o' hWl ho) (Below.refl _ _) (fun _ => rfl)
    (AlI w w.heap.size p N M f) (AlX w w.heap.size N M f)
    (alI_own w w.heap.size p N M f (by omega) (Nat.le_refl _)) (fun c => alX_own w w.heap.size N M f c (by omega) (Nat.le_refl _)) hI0
    (AlA w p N M f) (fun x a' => alA_own w p N M f x a' _) ?assign ?body ?done ?stop
  case assign =>
    intro l pre x W K hI hK
    unfold encS
    gi_wp2
    exact hK _ _ ((KeepsOthers.alloc W _).from _) (fun h => h.on (bal (Below.refl _ _) _)) (alI_own w w.heap.size p N M f (Nat.le_refl _) (Nat.le_refl _) pre W _ none hI (World.grownBy_alloc W _ none) (fun r e => by cases e)) ⟨W.heap.size, heap_alloc_new W _, rfl⟩
  case body =>
    rintro l pre x a' W hl _ hI ⟨q, hq, rfl⟩ hlt
    obtain ⟨v, c1, hrow, _⟩ := hI.row
    obtain ⟨av, cv, rfl⟩ := ownsRow_slice hrow
    have k1 := c1.cell
    have f1 := c1.frozen
    have k2 := hI.be.cell
    have f2 := hI.be.frozen
    have HI : Hid (AlI w w.heap.size p N M f pre W) := hI
    have n1 : ¬ w.heap.size + 1 = w.heap.size + 1 + 1 := by omega
    have hBW : w.heap.size ≤ W.heap.size := Nat.le_of_lt (Nat.lt_of_succ_lt c1.lt)
    by_cases hE : sE N M f (x.1 : Nat) = 0
    · have HE : Hid (sE N M f (x.1 : Nat) = 0) := hE
      rw [hE]
      have q0 : W.cell? ⟨q, 0, none⟩ = some (.int .i64 (sC N M f (x.1 : Nat) 0)) := (cell_of_row _ _ _ _ _ _ hq).trans rfl
      have q1 : W.cell? ⟨q, 1, none⟩ = some (.int .i64 (sC N M f (x.1 : Nat) 1)) := (cell_of_row _ _ _ _ _ _ hq).trans rfl
      have q2 : W.cell? ⟨q, 2, none⟩ = some (.int .i64 (sC N M f (x.1 : Nat) 2)) := (cell_of_row _ _ _ _ _ _ hq).trans rfl
      have q3 : W.cell? ⟨q, 3, none⟩ = some (.int .i64 (sC N M f (x.1 : Nat) 3)) := (cell_of_row _ _ _ _ _ _ hq).trans rfl
      have q4 : W.cell? ⟨q, 4, none⟩ = some (.int .i64 (sC N M f (x.1 : Nat) 4)) := (cell_of_row _ _ _ _ _ _ hq).trans rfl
      have q5 : W.cell? ⟨q, 5, none⟩ = some (.int .i64 (sC N M f (x.1 : Nat) 5)) := (cell_of_row _ _ _ _ _ _ hq).trans rfl
      have HR : Hid (W.ownsRow w.heap.size 32 6 (.slice av pre.length cv) pre.length (capsOf N M f pre)) := hrow
      have HC : Hid (Boxed W (w.heap.size + 1) 24 (.slice av pre.length cv)) := c1
      clear hrow hE hI c1 hq
      gi_wp2_with (first | (gi_at_builtin; refine wpListIn_append_own _ rfl _ _ 24 rfl w.heap.size 32 it (.agg #[.int .i64 0, .int .i64 0, .int .i64 0, .int .i64 0, .int .i64 0, .int .i64 0]) 6 48 Tryd.underlying24 hi hz0 hz1 hz2 rfl (by decide) _ _ _ rfl (HR.out.alloc _) ⟨W.heap.size, 0, none⟩ 1 1 (cells6 N M f x) rfl rfl (six_new W _ _ _ _ _ _ _) (six_one N M f x) (by unfold maxLen; omega) (by omega) (by simp; omega) ?_; intro v' w1 hown' hgrow _; obtain ⟨g', cap', rfl⟩ := ownsRow_succ hown'; obtain ⟨hv1, hv2, hr2, hk2, hb2⟩ := HC.out.appended (by decide) HR.out hBW (by omega) hown' hgrow; have m1 := hv1.cell; have m2 := hv1.frozen) | fail)
      have hrA := HR.out.alloc (.cells #[.int .i64 (sC N M f (x.1 : Nat) 0), .int .i64 (sC N M f (x.1 : Nat) 1), .int .i64 (sC N M f (x.1 : Nat) 2), .int .i64 (sC N M f (x.1 : Nat) 3), .int .i64 (sC N M f (x.1 : Nat) 4), .int .i64 (sC N M f (x.1 : Nat) 5)] 32)
      have d2 := (HI.out.be.alloc _).kept hgrow ((HI.out.be.alloc _).not_row (by decide) hrA)
      have d3 := (HI.out.bm.alloc _).kept hgrow ((HI.out.bm.alloc _).not_row (by decide) hrA)
      have d4 := (HI.out.bf.alloc _).kept hgrow ((HI.out.bf.alloc _).not_row (by decide) hrA)
      have hN : AlI w w.heap.size p N M f (pre ++ [x]) (w1.setCell ⟨w.heap.size + 1, 0, none⟩ (.slice (some ⟨g', 0, none⟩) (pre.length + 1) cap')) :=
        ⟨fun i hi => (List.mem_append.1 hi).elim (HI.out.ok i) (fun e => by simp at e; subst e; exact HE.out), d2.other (by omega) _, d3.other (by omega) _, d4.other (by omega) _, ⟨_, hv2, by rw [capsOf_snoc, List.length_append, List.length_singleton]; exact hr2, trivial⟩, HI.out.below.trans hb2⟩
      exact ⟨hk2.from _, fun _ => hN.it HM.out, hN⟩
    · have hne : (sE N M f (x.1 : Nat) == 0) = false := by simp [hE]
      have HE : Hid (sE N M f (x.1 : Nat) ≠ 0) := hE
      have HC : Hid (Boxed W (w.heap.size + 1) 24 (.slice av pre.length cv)) := c1
      clear hE hrow hI c1
      gi_wp2
      exact ⟨((KeepsOthers.setCell _ _ _).trans (KeepsOthers.setCell _ _ _)).from _, ⟨rfl, ⟨x, HE.out, (HI.out.be.other (by omega) _).set _⟩, (HC.out.set _).other (by omega) _, (HI.out.below.setCell (p := ⟨w.heap.size + 1, 0, none⟩) (by simp) _).setCell (p := ⟨w.heap.size + 1 + 1, 0, none⟩) (by simp; omega) _⟩⟩
  case done =>
    rintro D ys W hD rfl hI hK
    obtain ⟨v, c1, hrow, _⟩ := hI.row
    rw [upto_length (Nat.le_refl _)] at hrow
    obtain ⟨av, cv, rfl⟩ := ownsRow_slice hrow
    have k1 := c1.cell
    have k2 := hI.be.cell
    have HI : Hid (AlI w w.heap.size p N M f (upto 16 16) W) := hI
    have HR : Hid (W.ownsRow w.heap.size 32 6 (.slice av 16 cv) 16 (capsOf N M f (upto 16 16))) := hrow
    clear hI hrow c1
    gi_wp2
    gi_quiet (fail)
    gi_wp2
    have hK2 : (W.drewN nq).heap[D]? = some (Obj.deferred (some [])) := hK
    refine ⟨by simp, .inl ⟨_, _, rfl, run_takeDeferred hK2, ?_⟩⟩
    refine ⟨.tuple #[.slice av 16 cv, .int .i64 0], by simp [results, Tryd.f15, go_sem], .inl ⟨fun j => HI.out.ok j (upto_mem j.2), _, rfl, ownsRow_putObj (show (W.drewN nq).ownsRow w.heap.size 32 6 (.slice av 16 cv) 16 (capsOf N M f (upto 16 16)) from HR.out) _ hK2 rfl⟩, ?_⟩
    exact (HI.out.below.trans (below_drew' _ _ nq)).trans (belowK_b (w := w) (Nat.le_refl _) _ D _ _ (by omega) hK2 rfl rfl)
  case stop =>
    rintro D c pre W hD ⟨k, hk, rfl⟩ hX hK
    obtain ⟨rfl, ⟨x, hx, k2⟩, k1, hB⟩ := hX
    have c1 := k1.cell
    have c2 := k2.cell
    gi_wp2
    gi_quiet (fail)
    gi_wp2
    have hK2 : (W.drewN nq).heap[D]? = some (Obj.deferred (some [])) := hK
    refine ⟨by simp, .inl ⟨_, _, rfl, run_takeDeferred hK2, ?_⟩⟩
    refine ⟨.tuple #[.slice none 0 0, .int .i64 (sE N M f (x.1 : Nat))], by simp [results, Tryd.f15, go_sem], .inr ⟨x, hx, rfl⟩, ?_⟩
    exact (hB.trans (below_drew' _ _ nq)).trans (belowK_b (w := w) (Nat.le_refl _) _ D _ _ (by omega) hK2 rfl rfl)

/-! ### as a reader asks it -/
/-- The slice v holds n capabilities, the numbers of the i-th told by C i, in a block from base on. -/
def Caps (w : World) (base : Nat) (v : Value) (n : Nat) (C : Nat → Nat → Int) : Prop :=
  ∃ a cap, v = .slice a n cap ∧ (n = 0 ∨ ∃ b, a = some ⟨b, 0, none⟩ ∧ base ≤ b ∧ b < w.heap.size ∧ ∀ i, i < n → w.cell? ⟨b, i * 6, none⟩ = some (.int .i64 (C i 0)) ∧ w.cell? ⟨b, i * 6 + 1, none⟩ = some (.int .i64 (C i 1)) ∧ w.cell? ⟨b, i * 6 + 2, none⟩ = some (.int .i64 (C i 2)) ∧ w.cell? ⟨b, i * 6 + 3, none⟩ = some (.int .i64 (C i 3)) ∧ w.cell? ⟨b, i * 6 + 4, none⟩ = some (.int .i64 (C i 4)) ∧ w.cell? ⟨b, i * 6 + 5, none⟩ = some (.int .i64 (C i 5)))
theorem Caps.on {w w' : World} {base : Nat} {v : Value} {n : Nat} {C : Nat → Nat → Int} (h : Caps w base v n C) (hB : Below w.heap.size w w') : Caps w' base v n C := by
  obtain ⟨a, cap, e, h⟩ := h
  refine ⟨a, cap, e, ?_⟩
  rcases h with h | ⟨b, e1, h1, h2, h3⟩
  · exact .inl h
  · exact .inr ⟨b, e1, h1, Nat.lt_of_lt_of_le h2 hB.size, fun i hi => by
      obtain ⟨c0, c1, c2, c3, c4, c5⟩ := h3 i hi
      exact ⟨(hB.cell (p := ⟨b, _, none⟩) h2).trans c0, (hB.cell (p := ⟨b, _, none⟩) h2).trans c1, (hB.cell (p := ⟨b, _, none⟩) h2).trans c2, (hB.cell (p := ⟨b, _, none⟩) h2).trans c3, (hB.cell (p := ⟨b, _, none⟩) h2).trans c4, (hB.cell (p := ⟨b, _, none⟩) h2).trans c5⟩⟩
theorem Caps.but {w w' : World} {q base : Nat} {v : Value} {n : Nat} {C : Nat → Nat → Int} (h : Caps w base v n C) (hB : But q w w') (hq : q < base) : Caps w' base v n C := by
  obtain ⟨a, cap, e, h⟩ := h
  refine ⟨a, cap, e, ?_⟩
  rcases h with h | ⟨b, e1, h1, h2, h3⟩
  · exact .inl h
  · exact .inr ⟨b, e1, h1, Nat.lt_of_lt_of_le h2 hB.size, fun i hi => by
      obtain ⟨c0, c1, c2, c3, c4, c5⟩ := h3 i hi
      have hn : b ≠ q := by omega
      exact ⟨(hB.cell h2 hn).trans c0, (hB.cell h2 hn).trans c1, (hB.cell h2 hn).trans c2, (hB.cell h2 hn).trans c3, (hB.cell h2 hn).trans c4, (hB.cell h2 hn).trans c5⟩⟩
theorem capsOf_len (N : Nat) (M : Nat → Nat → Int) (f : Int) (pre : List (Fin 16)) : (capsOf N M f pre).length = pre.length * 6 := by
  induction pre with
  | nil => rfl
  | cons x pre ih => rw [show capsOf N M f (x :: pre) = cells6 N M f x ++ capsOf N M f pre from rfl, List.length_append, ih]; simp [cells6]; omega
/-- The cells of the capability in slot i are the six from 6i on. -/
theorem capsOf_at (N : Nat) (M : Nat → Nat → Int) (f : Int) : ∀ (k i j : Nat), k ≤ 16 → i < k → j < 6 → (capsOf N M f (upto 16 k))[i * 6 + j]? = some (.int .i64 (sC N M f (i : Nat) j))
  | 0, i, j, _, hi, _ => by omega
  | k + 1, i, j, hk, hi, hj => by
    have hk' : k < 16 := by omega
    rw [upto_succ hk', capsOf_snoc]
    have hl : (capsOf N M f (upto 16 k)).length = k * 6 := by rw [capsOf_len, upto_length (by omega)]
    by_cases h : i < k
    · rw [List.getElem?_append_left (by rw [hl]; omega)]
      exact capsOf_at N M f k i j (by omega) h hj
    · obtain rfl : i = k := by omega
      rw [List.getElem?_append_right (by rw [hl]; omega), hl, show i * 6 + j - i * 6 = j by omega]
      match j, hj with
      | 0, _ | 1, _ | 2, _ | 3, _ | 4, _ | 5, _ => rfl
theorem caps_of_own {w : World} {base : Nat} {v : Value} {N : Nat} {M : Nat → Nat → Int} {f : Int} (h : w.ownsRow base 32 6 v 16 (capsOf N M f (upto 16 16))) : Caps w base v 16 fun i j => sC N M f (i : Nat) j := by
  rcases h.2 with ⟨_, e⟩ | ⟨g, cap, cur, rfl, hb, hg, _, _, _, ht⟩
  · omega
  · refine ⟨_, _, rfl, .inr ⟨g, rfl, hb, (Array.getElem?_eq_some_iff.1 hg).1, fun i hi => ?_⟩⟩
    have key : ∀ j, j < 6 → w.cell? ⟨g, i * 6 + j, none⟩ = some (.int .i64 (sC N M f (i : Nat) j)) := fun j hj => by
      have := capsOf_at N M f 16 i j (Nat.le_refl _) hi hj
      rw [← ht, List.getElem?_take, if_pos (by omega), Array.getElem?_toList] at this
      rw [cell_of_row _ _ _ _ _ _ hg, this]
    exact ⟨key 0 (by omega), key 1 (by omega), key 2 (by omega), key 3 (by omega), key 4 (by omega), key 5 (by omega)⟩
/-- All, for every frame. -/
theorem sall_any (p b N : Nat) (f : Int) (M : Nat → Nat → Int) (w : World) (hM : Mt w p b N M) :
    Calls Tryd.prog 15 #[.pointer (some ⟨p, 0, none⟩), .int .i64 f] w fun e w' => ∃ v, e = .returned (.tuple #[v, .int .i64 (aE N M f)]) ∧ Caps w' w.heap.size v (aN N M f) (fun i j => sC N M f (i : Nat) j) ∧ Below w.heap.size w w' := by
  refine (sall_in p b N f M w hM).mono ?_
  rintro e w' ⟨h, hB⟩
  rcases h with ⟨hok, v, rfl, hv⟩ | ⟨x, hx, rfl⟩
  · have h0 : okA N M f = true := (okA_iff N M f).2 fun i hi => hok ⟨i, hi⟩
    refine ⟨v, by simp [aE, h0], ?_, hB⟩
    rw [show aN N M f = 16 by simp [aN, h0]]
    exact caps_of_own hv
  · obtain ⟨h0, h1⟩ := okA_no x.2 hx
    refine ⟨_, by rw [h1], ?_, hB⟩
    rw [show aN N M f = 0 by simp [aN, h0]]
    exact ⟨_, _, rfl, .inl rfl⟩
end Go.Proofs.YtkodanflobclhaaDoor.Pslot
