/- The iterator over the records of a frame (stack.records), and what All answers. -/
import Derived.Test.YtoipfcmjphlmfaaDoorStkC
import Derived.Test.YtoipfcmjphlmfaaDoorBunField
import Derived.RangeFuncNested
import Derived.RangeFuncBound
import Derived.RangeFuncBox
import Derived.RangeFuncCalls
import Derived.RangeFuncLeaves
import Derived.WalkKit
import Derived.OwnWalkIn
import Derived.TacticsInMore
import Derived.LoopNIn
import Derived.LoopIn
import Derived.Sort.QuietIn
import Derived.Scope
namespace Go.Proofs.YtoipfcmjphlmfaaDoor.Pstack
open Go.Proofs.YtoipfcmjphlmfaaDoor.Pbase Go.Proofs.YtoipfcmjphlmfaaDoor.Pfield Go.Proofs.YtoipfcmjphlmfaaDoor.Play Go.Proofs.YtoipfcmjphlmfaaDoor.Pmem Go.Proofs.YtoipfcmjphlmfaaDoor.Pthd
open Go.RowKit Go.Shelf M
attribute [local go_sem] Oper.semAt_some
set_option linter.unusedVariables false

theorem grown_none {W W' : World} (h : Below W.heap.size W W') : W.grownBy W' none := ⟨h.os, h.tape, h.output, h.size, fun k hk _ => h.block k hk⟩
theorem below_grown {W W' : World} (h : W.grownBy W' none) : Below W.heap.size W W' := ⟨h.os, h.tape, h.output, h.size, fun k hk => h.block k hk (by simp)⟩
theorem row_ne {W : World} {l : Nat} {o : Obj} (hl : W.heap[l]? = some o) (ho : o.isCells = false) {q : Nat} {cs : Array Value} {t : TypeId} {fr : Nat × Nat} (h : W.heap[q]? = some (.cells cs t fr)) : q ≠ l := by
  rintro rfl
  rw [hl] at h
  cases h
  simp [Obj.isCells] at ho
theorem but_putObj (W : World) (l : Nat) (o : Obj) : But l W (W.putObj l o) := ⟨rfl, rfl, rfl, by simp, fun k _ hk => World.putObj_heap_other hk⟩
/-- What the iterator stands on: the three variables that it holds, a memory and the tables. -/
structure It (W : World) (Bm p b N : Nat) (M : Nat → Nat → Int) (f : Int) (d : Nat) : Prop where
  bm : Boxed W Bm 23 (.pointer (some ⟨p, 0, none⟩))
  bf : Boxed W (Bm + 1) 3 (.int .i64 f)
  bd : Boxed W (Bm + 1 + 1) 3 (.int .i64 (d : Int))
  sx : Sx W p b N M
theorem It.on {W W' : World} {Bm p b N : Nat} {M : Nat → Nat → Int} {f : Int} {d : Nat} (h : It W Bm p b N M f d) (hB : Below W.heap.size W W') : It W' Bm p b N M f d :=
  ⟨h.bm.kept (grown_none hB) (by simp), h.bf.kept (grown_none hB) (by simp), h.bd.kept (grown_none hB) (by simp), h.sx.on hB⟩
theorem It.putObj {W : World} {Bm p b N : Nat} {M : Nat → Nat → Int} {f : Int} {d : Nat} (h : It W Bm p b N M f d) {l : Nat} {o : Obj} (o' : Obj) (hl : W.heap[l]? = some o) (ho : o.isCells = false) : It (W.putObj l o') Bm p b N M f d := by
  have hB := but_putObj W l o'
  have n1 : p ≠ l := row_ne hl ho h.sx.mx.mem.head
  have n2 : b ≠ l := row_ne hl ho h.sx.mx.mem.row
  have n3 : 1 ≠ l := by obtain ⟨t, fr, hr⟩ := h.sx.mx.tb.row; exact row_ne hl ho hr
  have n4 : 0 ≠ l := by obtain ⟨t, fr, hr⟩ := h.sx.tb.row; exact row_ne hl ho hr
  exact ⟨h.bm.kept (grownBy_putObj' W l o') (fun e => row_ne hl ho h.bm (by cases e; rfl)), h.bf.kept (grownBy_putObj' W l o') (fun e => row_ne hl ho h.bf (by cases e; rfl)), h.bd.kept (grownBy_putObj' W l o') (fun e => row_ne hl ho h.bd (by cases e; rfl)), ⟨⟨h.sx.mx.mem.on (hB.block p h.sx.mx.mem.lt.1 n1) (hB.block b h.sx.mx.mem.lt.2 n2), h.sx.mx.tb.but hB n3, h.sx.mx.fit, h.sx.mx.n1, h.sx.mx.n64⟩, h.sx.tb.but hB n4⟩⟩
/-- What a round is handed. -/
def encR (M : Nat → Nat → Int) (f : Int) (p : Nat) {d : Nat} (x : Fin d) : Array Value := #[.agg #[.pointer (pz (rcE M f x.1) p), .int .i64 (iz (rcE M f x.1) f), .int .i64 (iz (rcE M f x.1) ((x.1 : Nat) : Int)), .int .i64 (rcX M f x.1).co, .int .i64 (rcX M f x.1).tb, .int .i64 (rcX M f x.1).pg, .int .i64 (rcX M f x.1).l, .int .i64 (rcX M f x.1).e, .int .i64 (rcX M f x.1).ip], .int .i64 (rcE M f x.1)]
set_option maxRecDepth 100000 in
set_option maxHeartbeats 1000000 in
theorem rec1_in (n : Nat) (hn : 1 ≤ n) (l Bm p b N d : Nat) (M : Nat → Nat → Int) (f : Int) (hd : d ≤ 6) (hf : okF N f = true) (J Jx : List (Fin d) → World → Prop)
    (hA : ∀ s A B, J s A → A.grownBy B none → J s B)
    (hY : ∀ pre (x : Fin d) W, J pre W → pre.length < d → YieldAt Fence.wide (n - 1) Tryd.prog l (encR M f p x) W fun e W' =>
      (e = .returned (.bool true) ∧ J (pre ++ [x]) W' ∧ (It W Bm p b N M f d → It W' Bm p b N M f d)) ∨ (e = .returned (.bool false) ∧ Jx (pre ++ [x]) W'))
    (W : World) (hI : It W Bm p b N M f d) (h0 : J [] W) :
    CallsIn Fence.wide n Tryd.prog 35 #[.func (.yield l) #[] #[], .pointer (some ⟨Bm + 1 + 1, 0, none⟩), .pointer (some ⟨Bm, 0, none⟩), .pointer (some ⟨Bm + 1, 0, none⟩)] W fun e W' => (∃ v, e = .returned v) ∧
      ((∃ ys, ys = upto d d ∧ J ys W') ∨ (∃ pre, (∃ k, k ≤ d ∧ pre = upto d k) ∧ Jx pre W')) := by
  refine callsIn_of_wp Tryd.func35 rfl trivial ?_ rfl
  simp only [Tryd.ntmps35, List.size_toArray, List.length_cons, List.length_nil, Nat.reduceAdd, Nat.reduceSub, Array.replicate_succ, Array.replicate_zero, List.push_toArray, List.append_toArray, List.nil_append, List.cons_append]
  have c0 := hI.bd.cell
  gi_wp2
  gi_loopw [7] (fun i wr => ∃ k : Nat, k ≤ d ∧ i = .int .i64 k ∧ J (upto d k) wr ∧ It wr Bm p b N M f d) (fun i _ => d - (intOf i).toNat)
  case atStart => exact ⟨0, Nat.zero_le _, rfl, h0, hI⟩
  case round =>
    obtain ⟨k, hk, rfl, hJs, hIt⟩ := hrel
    clear c0
    by_cases hlt : k < d
    · have c1 := hIt.bm.cell
      have c2 := hIt.bf.cell
      have hki : (k : Int) < (d : Int) := by omega
      have HG : Hid (∀ wc, Sx wc p b N M → Calls Tryd.prog 36 #[.agg #[.pointer (some ⟨p, 0, none⟩), .int .i64 f, .int .i64 (k : Int)]] wc fun x w' => x = .returned (.tuple (encR M f p (⟨k, hlt⟩ : Fin d))) ∧ Below wc.heap.size wc w') := fun wc h => read_any p b N f k M wc h hf (by omega)
      have HJ : Hid (J (upto d k) wr) := hJs
      have HT : Hid (It wr Bm p b N M f d) := hIt
      clear hJs hIt hI h0
      gi_wp2_with (first | (refine ⟨trivial, ?_⟩; gi_at_call 36; refine (callsIn_wide.2 (HG.out _ HT.out.sx)).mono ?_; rintro e w1 ⟨rfl, hb⟩; obtain ⟨fn, tmps, assign, body, hy, hR⟩ := hY _ ⟨k, hlt⟩ w1 (hA _ _ _ HJ.out (grown_none hb)) (by rw [upto_length hk]; exact hlt); have HT1 : Hid (It w1 Bm p b N M f d) := HT.out.on hb; clear hb; unfold encR at hy ⊢; dsimp only at hy ⊢) | fail)
      refine hR.mono ?_
      rintro e W3 (⟨rfl, hJ3, hk3⟩ | ⟨rfl, hJx3⟩)
      · gi_wp2
        go_roundw
        case rel => exact ⟨k + 1, by omega, by simp, by rw [upto_succ hlt]; exact hJ3, hk3 HT1.out⟩
        case measure => simp [intOf]; omega
      · gi_wp2
        refine bodyPost_ret (results_none rfl _ _ _) rfl ?_
        exact ⟨⟨_, rfl⟩, .inr ⟨_, ⟨k + 1, by omega, (upto_succ hlt).symm⟩, hJx3⟩⟩
    · obtain rfl : k = d := by omega
      gi_wp2
      go_end0
      exact ⟨⟨_, rfl⟩, .inl ⟨_, rfl, hJs⟩⟩
theorem recs_in (n p : Nat) (f d : Int) (w : World) :
    CallsIn Fence.wide n Tryd.prog 20 #[.pointer (some ⟨p, 0, none⟩), .int .i64 f, .int .i64 d] w fun e w' => e = .returned (.func (.func 35) #[] #[.pointer (some ⟨w.heap.size + 1 + 1, 0, none⟩), .pointer (some ⟨w.heap.size, 0, none⟩), .pointer (some ⟨w.heap.size + 1, 0, none⟩)]) ∧ w' = ((w.alloc (.cells #[.pointer (some ⟨p, 0, none⟩)] 23)).alloc (.cells #[.int .i64 f] 3)).alloc (.cells #[.int .i64 d] 3) := by
  refine callsIn_of_wp Tryd.func20 rfl trivial ?_ rfl
  simp only [Tryd.ntmps20, List.size_toArray, List.length_cons, List.length_nil, Nat.reduceAdd, Nat.reduceSub, Array.replicate_succ, Array.replicate_zero, List.push_toArray, List.append_toArray, List.nil_append, List.cons_append]
  gi_wp2
  go_ret
  exact ⟨rfl, rfl⟩
theorem recs_stops (n : Nat) (hn : 1 ≤ n) (Bm p b N d : Nat) (M : Nat → Nat → Int) (f : Int) (hd : d ≤ 6) (hf : okF N f = true) (w : World) (hI : It w Bm p b N M f d) :
    SeqStopsK Fence.wide n Tryd.prog 35 #[.pointer (some ⟨Bm + 1 + 1, 0, none⟩), .pointer (some ⟨Bm, 0, none⟩), .pointer (some ⟨Bm + 1, 0, none⟩)] (encR M f p (d := d)) (fun A B => It A Bm p b N M f d → It B Bm p b N M f d) (fun ys => ys = upto d d) (fun pre => ∃ k, k ≤ d ∧ pre = upto d k) d w := fun l J Jx W hW hJ _ hY h0 =>
  rec1_in n hn l Bm p b N d M f hd hf J Jx (fun s A B hs hg => hJ s A B none hs hg (fun r e => by cases e)) hY W (hI.on hW) h0
/-! ### All -/
/-- A scope of labels that no goto leaves for. -/
theorem wpIn_scope_wide {n : Nat} {P : Program} {Q : Exit → Act → World → Prop} {a : Act} {w : World} {c : Code} (h : c.wpIn Fence.wide n P (Exit.noGoto Q) a w) : (Code.scope c).wpIn Fence.wide n P Q a w := wpIn_wide.2 (wp_scope_straight (wpIn_wide.1 h))
/-- The cells of the records. -/
def cells6 (M : Nat → Nat → Int) (f : Int) (k : Nat) : List Value := [.int .i64 (rcX M f k).co, .int .i64 (rcX M f k).tb, .int .i64 (rcX M f k).pg, .int .i64 (rcX M f k).l, .int .i64 (rcX M f k).e, .int .i64 (rcX M f k).ip]
def recsOf (M : Nat → Nat → Int) (f : Int) {d : Nat} (pre : List (Fin d)) : List Value := pre.flatMap fun x => cells6 M f x.1
theorem recsOf_snoc (M : Nat → Nat → Int) (f : Int) {d : Nat} (pre : List (Fin d)) (x : Fin d) : recsOf M f (pre ++ [x]) = recsOf M f pre ++ cells6 M f x.1 := by simp [recsOf]
theorem infoFrame : (Tryd.prog.info? 32).map (fun i => (i.zero, i.size, i.bytes)) = some (some (.agg #[.int .i64 0, .int .i64 0, .int .i64 0, .int .i64 0, .int .i64 0, .int .i64 0]), 6, 48) := by kernel_rfl
theorem make_recs (d : Nat) (hd : d ≤ 6) : ∃ Z : Array Value, Z.size = d * 6 ∧ ∀ w, (Instr.makeSlice 22 (.int .i64 0) (.int .i64 (d : Int))).run Tryd.prog w = .ok (.slice (some ⟨w.heap.size, 0, none⟩) 0 d) (w.alloc (.cells Z 32)) := by
  obtain ⟨i0, hi, hz0, hz1, hz2⟩ := info_parts infoFrame
  refine ⟨madeCells (Value.cells (.agg #[.int .i64 0, .int .i64 0, .int .i64 0, .int .i64 0, .int .i64 0, .int .i64 0])) (d * 6), size_madeCells _ _, fun w => ?_⟩
  have := run_make (P := Tryd.prog) w 22 32 i0 _ Tryd.underlying22 hi hz0 .i64 .i64 0 (d : Int) (by omega) (by omega) (by rw [hz2]; omega) (by omega)
  rw [hz1] at this
  simpa using this
theorem six_new (w : World) (a b c d e g : Value) (t : TypeId) : ∀ j u, [a, b, c, d, e, g][j]? = some u → (w.alloc (.cells #[a, b, c, d, e, g] t)).cell? ((⟨w.heap.size, 0, none⟩ : Addr).add j) = some u := by
  intro j u hj
  rw [Addr.add_lit, Nat.zero_add, cell_of_row _ _ j _ _ _ (heap_alloc_new w _)]
  match j, hj with
  | 0, hj | 1, hj | 2, hj | 3, hj | 4, hj | 5, hj => exact hj
  | j + 6, hj => simp at hj
theorem six_one (M : Nat → Nat → Int) (f : Int) (k : Nat) : ∀ u ∈ cells6 M f k, u.oneCell' = true := by
  intro u hu
  simp only [cells6, List.mem_cons, List.not_mem_nil, or_false] at hu
  rcases hu with rfl | rfl | rfl | rfl | rfl | rfl <;> rfl
theorem own_other {W : World} {base : Nat} {e : TypeId} {size : Nat} {v : Value} {n : Nat} {xs : List Value} (h : W.ownsRow base e size v n xs) {R : Nat} {t : TypeId} {u : Value} (hb : Boxed W R t u) (hne : t ≠ e) (x : Value) : (W.setCell ⟨R, 0, none⟩ x).ownsRow base e size v n xs := by
  refine ⟨h.1, ?_⟩
  rcases h.2 with h2 | ⟨g, cap, cur, e1, hb1, hg, rest⟩
  · exact .inl h2
  · refine .inr ⟨g, cap, cur, e1, hb1, ?_, rest⟩
    rw [heap_setCell_other _ _ _ _ (by
      show g ≠ R
      rintro rfl
      have hh : W.heap[g]? = some (.cells #[u] t (0, 0)) := hb
      rw [hg] at hh
      simp only [Option.some.injEq, Obj.cells.injEq] at hh
      exact hne hh.2.1.symm)]
    exact hg
/-- What the variables of All hold between two rounds. R: where All began; K: where its list was made. -/
structure AlI (w : World) (R K p N : Nat) (M : Nat → Nat → Int) (f : Int) (d : Nat) (pre : List (Fin d)) (W : World) : Prop where
  ok : ∀ j ∈ pre, rcE M f (j : Fin d).1 = 0
  br : Boxed W R 22 (.slice none 0 0)
  be : Boxed W (R + 1) 24 (.int .i64 0)
  bm : Boxed W (K + 1 + 1) 23 (.pointer (some ⟨p, 0, none⟩))
  bf : Boxed W (K + 1 + 1 + 1) 3 (.int .i64 f)
  bd : Boxed W (K + 1 + 1 + 1 + 1) 3 (.int .i64 (d : Int))
  row : ∃ v, Boxed W (K + 1) 22 v ∧ W.ownsRow R 32 6 v pre.length (recsOf M f pre) ∧ True
  below : Below R w W
theorem alI_own (w : World) (R K p N : Nat) (M : Nat → Nat → Int) (f : Int) (d : Nat) {B' : Nat} (hB : R ≤ B') (hw : R ≤ w.heap.size) : OwnFrom B' (AlI w R K p N M f d) := fun pre A C row hs hg hr => by
  have hr' : ∀ r, row = some r → ∃ o : Obj, A.heap[r]? = some o ∧ o.isCells = false := fun r e => (hr r e).2
  exact ⟨hs.ok, boxed_own _ _ (fun _ : Unit => .slice none 0 0) () A C row hs.br hg hr', boxed_own _ _ (fun _ : Unit => .int .i64 0) () A C row hs.be hg hr', boxed_own _ _ (fun _ : Unit => .pointer (some ⟨p, 0, none⟩)) () A C row hs.bm hg hr', boxed_own _ _ (fun _ : Unit => .int .i64 f) () A C row hs.bf hg hr', boxed_own _ _ (fun _ : Unit => .int .i64 (d : Int)) () A C row hs.bd hg hr',
    holdsRow_own R (K + 1) 22 32 6 (fun pre : List (Fin d) => pre.length) (fun pre => recsOf M f pre) (fun _ _ => True) pre A C row hs.row hg hr',
    ownFrom_below hw hB pre A C row hs.below hg hr⟩
/-- What they hold where a round has left. -/
structure AlX (w : World) (R : Nat) (M : Nat → Nat → Int) (f : Int) (d : Nat) (c : Code) (pre : List (Fin d)) (W : World) : Prop where
  code : c = .ret
  bad : ∃ x : Fin d, rcE M f x.1 ≠ 0 ∧ Boxed W (R + 1) 24 (.int .i64 (rcE M f x.1))
  row : Boxed W R 22 (.slice none 0 0)
  below : Below R w W
theorem alX_own (w : World) (R : Nat) (M : Nat → Nat → Int) (f : Int) (d : Nat) (c : Code) {B' : Nat} (hB : R ≤ B') (hw : R ≤ w.heap.size) : OwnFrom B' (AlX w R M f d c) := fun pre A C row hs hg hr => by
  have hr' : ∀ r, row = some r → ∃ o : Obj, A.heap[r]? = some o ∧ o.isCells = false := fun r e => (hr r e).2
  obtain ⟨x, h1, h2⟩ := hs.bad
  exact ⟨hs.code, ⟨x, h1, boxed_own _ _ (fun _ : Unit => .int .i64 (rcE M f x.1)) () A C row h2 hg hr'⟩, boxed_own _ _ (fun _ : Unit => .slice none 0 0) () A C row hs.row hg hr', ownFrom_below hw hB pre A C row hs.below hg hr⟩
theorem AlI.it {w : World} {K p b N : Nat} {M : Nat → Nat → Int} {f : Int} {d : Nat} {pre : List (Fin d)} {W : World} (h : AlI w w.heap.size K p N M f d pre W) (hM : Sx w p b N M) : It W (K + 1 + 1) p b N M f d :=
  ⟨h.bm, h.bf, h.bd, hM.on h.below⟩
structure Ag (w W : World) (p b N : Nat) (M : Nat → Nat → Int) : Prop where
  sx : Sx W p b N M
  br : Boxed W w.heap.size 22 (.slice none 0 0)
  be : Boxed W (w.heap.size + 1) 24 (.int .i64 0)
  below : Below w.heap.size w W
theorem ag_new {w : World} {p b N : Nat} {M : Nat → Nat → Int} (h : Sx w p b N M) : Ag w ((w.alloc (.cells #[.slice none 0 0] 22)).alloc (.cells #[.int .i64 0] 24)) p b N M := by
  have b1 := Boxed.new w 22 (.slice none 0 0)
  have b2 := Boxed.new (w.alloc (.cells #[.slice none 0 0] 22)) 24 (.int .i64 0)
  simp only [World.size_alloc] at b2
  exact ⟨h.on (bal (bal (Below.refl _ _) _) _), b1.alloc _, b2, bal (bal (Below.refl _ _) _) _⟩
theorem Ag.on {w W W' : World} {p b N : Nat} {M : Nat → Nat → Int} (h : Ag w W p b N M) (hB : Below W.heap.size W W') : Ag w W' p b N M := ⟨h.sx.on hB, h.br.kept (grown_none hB) (by simp), h.be.kept (grown_none hB) (by simp), h.below.trans (hB.mono h.below.size)⟩
/-- The cells of a record that is handed. -/
def cells9 (M : Nat → Nat → Int) (f : Int) (p k : Nat) : List Value := [.pointer (pz (rcE M f k) p), .int .i64 (iz (rcE M f k) f), .int .i64 (iz (rcE M f k) (k : Int)), .int .i64 (rcX M f k).co, .int .i64 (rcX M f k).tb, .int .i64 (rcX M f k).pg, .int .i64 (rcX M f k).l, .int .i64 (rcX M f k).e, .int .i64 (rcX M f k).ip]
/-- What a round begins with: the record that it was handed in a block of its own. -/
def AlA (w : World) (T p : Nat) (M : Nat → Nat → Int) (f : Int) (d : Nat) (y : Th) (x : Fin d) (a' : Act) (W : World) : Prop :=
  ∃ q, W.heap[q]? = some (.cells (cells9 M f p x.1).toArray 55 (0, 0)) ∧ a' = { tmps := #[.pointer (some ⟨p, 0, none⟩), .int .i64 f, undef, undef, .pointer (some ⟨w.heap.size, 0, none⟩), .pointer (some ⟨w.heap.size + 1, 0, none⟩), .pointer (some ⟨T, 0, none⟩), .int .i64 0, .pointer (some ⟨T + 1 + 1, 0, none⟩), .pointer (some ⟨q, 0, none⟩), .int .i64 (rcE M f x.1), .tuple #[.agg #[.int .i64 y.st, .int .i64 y.co, .int .i64 y.tc, .int .i64 y.rc, .int .i64 (d : Int)], .int .i64 0], .pointer (some ⟨p, 0, none⟩), .int .i64 f, .tuple #[.agg #[.int .i64 y.st, .int .i64 y.co, .int .i64 y.tc, .int .i64 y.rc, .int .i64 (d : Int)], .int .i64 0], .agg #[.int .i64 y.st, .int .i64 y.co, .int .i64 y.tc, .int .i64 y.rc, .int .i64 (d : Int)], .int .i64 0, .int .i64 0, .bool false, undef, .pointer (some ⟨T, 4, none⟩), .int .i64 (d : Int), .slice (some ⟨T + 1, 0, none⟩) 0 d, .pointer (some ⟨p, 0, none⟩), .int .i64 f, .pointer (some ⟨T, 4, none⟩), .int .i64 (d : Int), .func (.func 35) #[] #[.pointer (some ⟨T + 1 + 1 + 1 + 1 + 1, 0, none⟩), .pointer (some ⟨T + 1 + 1 + 1, 0, none⟩), .pointer (some ⟨T + 1 + 1 + 1 + 1, 0, none⟩)], .agg (cells9 M f p x.1).toArray, .int .i64 (rcE M f x.1), undef, undef, undef, undef, undef, undef, undef, undef, undef], defers := [] }
theorem alA_own (w : World) (T p : Nat) (M : Nat → Nat → Int) (f : Int) (d : Nat) (y : Th) (x : Fin d) (a' : Act) (B' : Nat) : OwnFrom B' (fun (_ : Unit) W => AlA w T p M f d y x a' W) := fun _ A C row hs hg hr => by
  obtain ⟨q, hq, e⟩ := hs
  exact ⟨q, (hg.block q (Array.getElem?_eq_some_iff.1 hq).1 (fun e' => by obtain ⟨_, o, ho, hc⟩ := hr q e'.symm; rw [hq] at ho; cases ho; cases hc)).trans hq, e⟩
set_option maxRecDepth 100000 in
set_option maxHeartbeats 2000000 in
theorem all_in (p b N d : Nat) (f : Int) (y : Th) (M : Nat → Nat → Int) (w : World) (hM : Sx w p b N M) (hd : d ≤ 6) (hf : okF N f = true)
    (HG : Hid (∀ wc, Ag w wc p b N M → Calls Tryd.prog 16 #[.pointer (some ⟨p, 0, none⟩), .int .i64 f] wc fun e w' => e = .returned (.tuple #[.agg #[.int .i64 y.st, .int .i64 y.co, .int .i64 y.tc, .int .i64 y.rc, .int .i64 (d : Int)], .int .i64 0]) ∧ Below wc.heap.size wc w')) :
    Calls Tryd.prog 9 #[.pointer (some ⟨p, 0, none⟩), .int .i64 f] w fun e W' =>
      (((∀ j : Nat, j < d → rcE M f j = 0) ∧ ∃ v, e = .returned (.tuple #[v, .int .i64 0]) ∧ W'.ownsRow w.heap.size 32 6 v d (recsOf M f (upto d d))) ∨
       (∃ x : Nat, x < d ∧ rcE M f x ≠ 0 ∧ e = .returned (.tuple #[.slice none 0 0, .int .i64 (rcE M f x)]))) ∧ Below w.heap.size w W' := by
  obtain ⟨Z, hZ, hmk⟩ := make_recs d hd
  obtain ⟨it, hi, hz0, hz1, hz2⟩ := info_parts infoFrame
  have HM := rhide hM
  have H0 := rhide (ag_new hM)
  clear hM
  refine (callsIn_wide (n := 9)).1 ?_
  refine callsIn_of_wp_marks Tryd.func9 rfl trivial ?_ rfl
  simp only [Tryd.ntmps9, List.size_toArray, List.length_cons, List.length_nil, Nat.reduceAdd, Nat.reduceSub, Array.replicate_succ, Array.replicate_zero, List.push_toArray, List.append_toArray, List.nil_append, List.cons_append]
  gi_wp2_with (first | (refine ⟨trivial, ?_⟩; gi_at_call 16; refine (callsIn_wide.2 (HG.out _ H0.out)).mono ?_; rintro e1 w1 ⟨rfl, hb⟩; have H1 := rhide (H0.out.on hb); clear hb HG H0) | fail)
  gi_wp2_with (first | (refine ⟨trivial, ?_⟩; gi_at_call 20; refine (recs_in _ _ _ _ _).mono ?_; rintro e w' ⟨rfl, rfl⟩) | fail)
  have hsz := H1.out.below.size
  have lt1 := H1.out.be.lt
  have H2 := H1.out.on (bal (Below.refl w1.heap.size w1) (.cells #[.int .i64 y.st, .int .i64 y.co, .int .i64 y.tc, .int .i64 y.rc, .int .i64 (d : Int)] 29))
  have hs2 : (w1.alloc (.cells #[.int .i64 y.st, .int .i64 y.co, .int .i64 y.tc, .int .i64 y.rc, .int .i64 (d : Int)] 29)).heap.size = w1.heap.size + 1 := by simp
  generalize hv : w1.alloc (.cells #[.int .i64 y.st, .int .i64 y.co, .int .i64 y.tc, .int .i64 y.rc, .int .i64 (d : Int)] 29) = v at H2 hs2 ⊢
  clear hv
  have b0 := World.ownsRow_made (base := w.heap.size) (e := 32) (size := 6) v Z d (by omega) (by unfold maxLen; omega) (by rw [hZ])
  have b1 := Boxed.new (v.alloc (.cells Z 32)) 22 (.slice (some ⟨w1.heap.size + 1, 0, none⟩) 0 d)
  have b2 := Boxed.new ((v.alloc (.cells Z 32)).alloc (.cells #[.slice (some ⟨w1.heap.size + 1, 0, none⟩) 0 d] 22)) 23 (.pointer (some ⟨p, 0, none⟩))
  have b3 := Boxed.new (((v.alloc (.cells Z 32)).alloc (.cells #[.slice (some ⟨w1.heap.size + 1, 0, none⟩) 0 d] 22)).alloc (.cells #[.pointer (some ⟨p, 0, none⟩)] 23)) 3 (.int .i64 f)
  have b4 := Boxed.new ((((v.alloc (.cells Z 32)).alloc (.cells #[.slice (some ⟨w1.heap.size + 1, 0, none⟩) 0 d] 22)).alloc (.cells #[.pointer (some ⟨p, 0, none⟩)] 23)).alloc (.cells #[.int .i64 f] 3)) 3 (.int .i64 (d : Int))
  simp only [World.size_alloc, hs2] at b0 b1 b2 b3 b4
  have hI0 : AlI w w.heap.size (w1.heap.size + 1) p N M f d [] (((((v.alloc (.cells Z 32)).alloc (.cells #[.slice (some ⟨w1.heap.size + 1, 0, none⟩) 0 d] 22)).alloc (.cells #[.pointer (some ⟨p, 0, none⟩)] 23)).alloc (.cells #[.int .i64 f] 3)).alloc (.cells #[.int .i64 (d : Int)] 3)) :=
    ⟨by simp, ((((H2.br.alloc _).alloc _).alloc _).alloc _).alloc _, ((((H2.be.alloc _).alloc _).alloc _).alloc _).alloc _, (b2.alloc _).alloc _, b3.alloc _, b4, ⟨_, ((b1.alloc _).alloc _).alloc _, (((b0.alloc _).alloc _).alloc _).alloc _, trivial⟩, H2.below.trans ((bal (bal (bal (bal (bal (Below.refl v.heap.size v) _) _) _) _) _).mono H2.below.size)⟩
  have hs0 : (((((v.alloc (.cells Z 32)).alloc (.cells #[.slice (some ⟨w1.heap.size + 1, 0, none⟩) 0 d] 22)).alloc (.cells #[.pointer (some ⟨p, 0, none⟩)] 23)).alloc (.cells #[.int .i64 f] 3)).alloc (.cells #[.int .i64 (d : Int)] 3)).heap.size = w1.heap.size + 6 := by simp [hs2]
  clear b0 b1 b2 b3 b4 H2 H1 hmk
  generalize ((((v.alloc (.cells Z 32)).alloc _).alloc _).alloc _).alloc _ = V at hI0 hs0 ⊢
  generalize w1.heap.size = T at *
  refine wpIn_rangeFunc_ownH rfl (by omega) (gf := 35) (lb := #[.pointer (some ⟨T + 1 + 1 + 1 + 1 + 1, 0, none⟩), .pointer (some ⟨T + 1 + 1 + 1, 0, none⟩), .pointer (some ⟨T + 1 + 1 + 1 + 1, 0, none⟩)]) rfl trivial (enters_of Tryd.func35 (by kernel_rfl) rfl)
    (recs_stops 8 (by omega) (T + 1 + 1 + 1) p b N d M f hd hf V (hI0.it HM.out)) (fun h k => fun x => k (h x)) (fun W l o o' hl hWl ho _ hx => hx.putObj o' hWl ho) (Below.refl _ _) (fun _ => rfl)
    (AlI w w.heap.size (T + 1) p N M f d) (AlX w w.heap.size M f d)
    (alI_own w w.heap.size (T + 1) p N M f d (by omega) (Nat.le_refl _)) (fun c => alX_own w w.heap.size M f d c (by omega) (Nat.le_refl _)) hI0
    (AlA w T p M f d y) (fun x a' => alA_own w T p M f d y x a' _) ?assign ?body ?done ?stop
  case assign =>
    intro l pre x W Kc hI hK
    unfold encR
    gi_wp2
    exact hK _ _ ((KeepsOthers.alloc W _).from _) (fun h => h.on (bal (Below.refl _ _) _)) (alI_own w w.heap.size (T + 1) p N M f d (Nat.le_refl _) (Nat.le_refl _) pre W _ none hI (World.grownBy_alloc W _ none) (fun r e => by cases e)) ⟨W.heap.size, heap_alloc_new W _, rfl⟩
  case body =>
    rintro l pre x a' W hl _ hI ⟨q, hq, rfl⟩ hlt
    obtain ⟨v1, c1, hrow, _⟩ := hI.row
    obtain ⟨av, cv, rfl⟩ := ownsRow_slice hrow
    have k1 := c1.cell
    have f1 := c1.frozen
    have k2 := hI.be.cell
    have f2 := hI.be.frozen
    have k3 := hI.br.cell
    have f3 := hI.br.frozen
    have HI : Hid (AlI w w.heap.size (T + 1) p N M f d pre W) := hI
    have hBW : w.heap.size ≤ W.heap.size := hI.below.size
    by_cases hE : rcE M f x.1 = 0
    · have HE : Hid (rcE M f x.1 = 0) := hE
      have q3 : W.cell? ⟨q, 3, none⟩ = some (.int .i64 (rcX M f x.1).co) := (cell_of_row _ _ _ _ _ _ hq).trans rfl
      have q4 : W.cell? ⟨q, 4, none⟩ = some (.int .i64 (rcX M f x.1).tb) := (cell_of_row _ _ _ _ _ _ hq).trans rfl
      have q5 : W.cell? ⟨q, 5, none⟩ = some (.int .i64 (rcX M f x.1).pg) := (cell_of_row _ _ _ _ _ _ hq).trans rfl
      have q6 : W.cell? ⟨q, 6, none⟩ = some (.int .i64 (rcX M f x.1).l) := (cell_of_row _ _ _ _ _ _ hq).trans rfl
      have q7 : W.cell? ⟨q, 7, none⟩ = some (.int .i64 (rcX M f x.1).e) := (cell_of_row _ _ _ _ _ _ hq).trans rfl
      have q8 : W.cell? ⟨q, 8, none⟩ = some (.int .i64 (rcX M f x.1).ip) := (cell_of_row _ _ _ _ _ _ hq).trans rfl
      have HR : Hid (W.ownsRow w.heap.size 32 6 (.slice av pre.length cv) pre.length (recsOf M f pre)) := hrow
      have HC : Hid (Boxed W (T + 1 + 1) 22 (.slice av pre.length cv)) := c1
      clear hrow hI c1 hq
      gi_wp2_with (first | (gi_at_builtin; refine wpListIn_append_own _ rfl _ _ 22 rfl w.heap.size 32 it (.agg #[.int .i64 0, .int .i64 0, .int .i64 0, .int .i64 0, .int .i64 0, .int .i64 0]) 6 48 Tryd.underlying22 hi hz0 hz1 hz2 rfl (by decide) _ _ _ rfl (HR.out.alloc _) ⟨W.heap.size, 0, none⟩ 1 1 (cells6 M f x.1) rfl rfl (six_new W _ _ _ _ _ _ _) (six_one M f x.1) (by unfold maxLen; omega) (by omega) (by simp; omega) ?_; intro v' w2 hown' hgrow _; obtain ⟨g', cap', rfl⟩ := ownsRow_succ hown'; obtain ⟨hv1, hv2, hr2, hk2, hb2⟩ := HC.out.appended (by decide) HR.out hBW (by omega) hown' hgrow; have m1 := hv1.cell; have m2 := hv1.frozen) | fail)
      have hrA := HR.out.alloc (.cells #[.int .i64 (rcX M f x.1).co, .int .i64 (rcX M f x.1).tb, .int .i64 (rcX M f x.1).pg, .int .i64 (rcX M f x.1).l, .int .i64 (rcX M f x.1).e, .int .i64 (rcX M f x.1).ip] 32)
      have d1 := (HI.out.br.alloc _).kept hgrow ((HI.out.br.alloc _).not_row (by decide) hrA)
      have d2 := (HI.out.be.alloc _).kept hgrow ((HI.out.be.alloc _).not_row (by decide) hrA)
      have d3 := (HI.out.bm.alloc _).kept hgrow ((HI.out.bm.alloc _).not_row (by decide) hrA)
      have d4 := (HI.out.bf.alloc _).kept hgrow ((HI.out.bf.alloc _).not_row (by decide) hrA)
      have d5 := (HI.out.bd.alloc _).kept hgrow ((HI.out.bd.alloc _).not_row (by decide) hrA)
      have hN : AlI w w.heap.size (T + 1) p N M f d (pre ++ [x]) (w2.setCell ⟨T + 1 + 1, 0, none⟩ (.slice (some ⟨g', 0, none⟩) (pre.length + 1) cap')) :=
        ⟨fun i hi => (List.mem_append.1 hi).elim (HI.out.ok i) (fun e => by simp at e; subst e; exact HE.out), d1.other (by omega) _, d2.other (by omega) _, d3.other (by omega) _, d4.other (by omega) _, d5.other (by omega) _, ⟨_, hv2, by rw [recsOf_snoc, List.length_append, List.length_singleton]; exact hr2, trivial⟩, HI.out.below.trans hb2⟩
      exact ⟨hk2.from _, fun _ => hN.it HM.out, hN⟩
    · have hne : (rcE M f x.1 != 0) = true := by simp [hE]
      have HE : Hid (rcE M f x.1 ≠ 0) := hE
      clear hE hrow hI c1
      gi_wp2
      exact ⟨((KeepsOthers.setCell _ _ _).trans (KeepsOthers.setCell _ _ _)).from _, ⟨rfl, ⟨x, HE.out, (HI.out.be.other (by omega) _).set _⟩, (HI.out.br.set _).other (by omega) _, (HI.out.below.setCell (p := ⟨w.heap.size, 0, none⟩) (by simp) _).setCell (p := ⟨w.heap.size + 1, 0, none⟩) (by simp) _⟩⟩
  case done =>
    rintro D ys W hD rfl hI hK
    obtain ⟨v1, c1, hrow, _⟩ := hI.row
    rw [upto_length (Nat.le_refl _)] at hrow
    obtain ⟨av, cv, rfl⟩ := ownsRow_slice hrow
    have k1 := c1.cell
    have k2 := hI.be.cell
    have f2 := hI.be.frozen
    have k3 := hI.br.cell
    have f3 := hI.br.frozen
    have HI : Hid (AlI w w.heap.size (T + 1) p N M f d (upto d d) W) := hI
    have HR : Hid (W.ownsRow w.heap.size 32 6 (.slice av d cv) d (recsOf M f (upto d d))) := hrow
    have e1 : Boxed ((W.setCell ⟨w.heap.size, 0, none⟩ (.slice av d cv)).setCell ⟨w.heap.size + 1, 0, none⟩ (.int .i64 0)) w.heap.size 22 (.slice av d cv) := (hI.br.set _).other (by omega) _
    have e2 : Boxed ((W.setCell ⟨w.heap.size, 0, none⟩ (.slice av d cv)).setCell ⟨w.heap.size + 1, 0, none⟩ (.int .i64 0)) (w.heap.size + 1) 24 (.int .i64 0) := (hI.be.other (by omega) _).set _
    have e3 : ((W.setCell ⟨w.heap.size, 0, none⟩ (.slice av d cv)).setCell ⟨w.heap.size + 1, 0, none⟩ (.int .i64 0)).heap[D]? = some (Obj.deferred (some [])) := by
      rw [heap_setCell_other _ _ _ _ (by show D ≠ w.heap.size + 1; omega), heap_setCell_other _ _ _ _ (by show D ≠ w.heap.size; omega)]
      exact hK
    have e4 : ((W.setCell ⟨w.heap.size, 0, none⟩ (.slice av d cv)).setCell ⟨w.heap.size + 1, 0, none⟩ (.int .i64 0)).ownsRow w.heap.size 32 6 (.slice av d cv) d (recsOf M f (upto d d)) := own_other (own_other hrow hI.br (by decide) _) (hI.be.other (by omega) _) (by decide) _
    have e5 : Below w.heap.size w ((W.setCell ⟨w.heap.size, 0, none⟩ (.slice av d cv)).setCell ⟨w.heap.size + 1, 0, none⟩ (.int .i64 0)) := (hI.below.setCell (p := ⟨w.heap.size, 0, none⟩) (by simp) _).setCell (p := ⟨w.heap.size + 1, 0, none⟩) (by simp) _
    have HE := rhide (And.intro e1 (And.intro e2 (And.intro e3 (And.intro e4 e5))))
    clear hI hrow c1 e1 e2 e3 e4 e5
    gi_wp2
    all_goals (first | exact absurd (k1.symm.trans (by assumption : W.cell? ⟨T + 1 + 1, 0, none⟩ = none)) (by simp) | skip)
    clear k1 k2 k3 f2 f3 hK
    generalize (W.setCell _ _).setCell _ _ = W2 at HE ⊢
    obtain ⟨e1, e2, e3, e4, e5⟩ := HE.out
    have r1 : ∀ o', (W2.putObj D o').cell? ⟨w.heap.size, 0, none⟩ = some (.slice av d cv) := fun o' => (e1.kept (grownBy_putObj' W2 D o') (fun e => row_ne e3 rfl e1 (by cases e; rfl))).cell
    have r2 : ∀ o', (W2.putObj D o').cell? ⟨w.heap.size + 1, 0, none⟩ = some (.int .i64 0) := fun o' => (e2.kept (grownBy_putObj' W2 D o') (fun e => row_ne e3 rfl e2 (by cases e; rfl))).cell
    refine ⟨by simp, .inl ⟨_, _, rfl, run_takeDeferred e3, ?_⟩⟩
    refine ⟨.tuple #[.slice av d cv, .int .i64 0], by simp [results, Tryd.f9, go_sem, r1, r2], .inl ⟨fun j hj => HI.out.ok ⟨j, hj⟩ (upto_mem hj), _, rfl, ownsRow_putObj e4 _ e3 rfl⟩, ?_⟩
    exact e5.trans (belowK_b (w := w) (Nat.le_refl _) _ D _ _ (by omega) e3 rfl rfl)
  case stop =>
    rintro D c pre W hD ⟨k, hk, rfl⟩ hX hK
    obtain ⟨rfl, ⟨x, hx, k2⟩, k1, hB⟩ := hX
    have r1 : ∀ o', (W.putObj D o').cell? ⟨w.heap.size, 0, none⟩ = some (.slice none 0 0) := fun o' => (k1.kept (grownBy_putObj' W D o') (fun e => row_ne hK rfl k1 (by cases e; rfl))).cell
    have r2 : ∀ o', (W.putObj D o').cell? ⟨w.heap.size + 1, 0, none⟩ = some (.int .i64 (rcE M f x.1)) := fun o' => (k2.kept (grownBy_putObj' W D o') (fun e => row_ne hK rfl k2 (by cases e; rfl))).cell
    gi_wp2
    refine ⟨by simp, .inl ⟨_, _, rfl, run_takeDeferred hK, ?_⟩⟩
    refine ⟨.tuple #[.slice none 0 0, .int .i64 (rcE M f x.1)], by simp [results, Tryd.f9, go_sem, r1, r2], .inr ⟨x.1, x.2, hx, rfl⟩, ?_⟩
    exact hB.trans (belowK_b (w := w) (Nat.le_refl _) _ D _ _ (by omega) hK rfl rfl)
end Go.Proofs.YtoipfcmjphlmfaaDoor.Pstack
