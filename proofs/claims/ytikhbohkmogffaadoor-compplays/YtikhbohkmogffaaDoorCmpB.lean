/- The iterators over a component's words, its own (wordsOf) and a frame's (wordsIn): to every loop body they hand out the six words, in order. -/
import Derived.Test.YtikhbohkmogffaaDoorCmpA
import Derived.Test.YtikhbohkmogffaaDoorBunField
import Derived.RangeFuncNested
import Derived.RangeFuncBound
import Derived.RangeFuncBox
import Derived.RangeFuncCalls
import Derived.RangeFuncLeaves
import Derived.RangeFuncWrites
import Derived.WalkKit
import Derived.OwnWalkIn
import Derived.TacticsInMore
import Derived.LoopNIn
import Derived.LoopIn
import Derived.Sort.QuietIn
namespace Go.Proofs.YtikhbohkmogffaaDoor.Pcomp
open Go.Proofs.YtikhbohkmogffaaDoor.Pbase Go.Proofs.YtikhbohkmogffaaDoor.Pfield Go.Proofs.YtikhbohkmogffaaDoor.Pmem
open Go.RowKit Go.Shelf M
attribute [local go_sem] Oper.semAt_some
set_option linter.unusedVariables false

theorem grown_none {W W' : World} (h : Below W.heap.size W W') : W.grownBy W' none := ⟨h.os, h.tape, h.output, h.size, fun k hk _ => h.block k hk⟩
/-- The k-th word. -/
def wd (x : Cp) (k : Nat) : Int := x.ws[k]?.getD 0
/-- What a round is handed. -/
def encW (x : Cp) (i : Fin 6) : Array Value := #[.int .i64 (i.1 : Nat), .int .u64 (wd x i.1)]
theorem idx6 (x : Cp) (k : Nat) (hk : k < 6) (w : World) : (Instr.index 96 (.agg #[.int .u64 x.tb, .int .u64 x.pg, .int .u64 x.l, .int .u64 x.e, .int .u64 x.fa, .int .u64 x.wh]) (.int .i64 (k : Nat))).run Tryd.prog w = .ok (.int .u64 (wd x k)) w := by
  rcases (show k = 0 ∨ k = 1 ∨ k = 2 ∨ k = 3 ∨ k = 4 ∨ k = 5 by omega) with rfl | rfl | rfl | rfl | rfl | rfl <;> kernel_rfl
/-- The six words in a block. -/
def RowW (W : World) (A : Nat) (x : Cp) : Prop := W.heap[A]? = some (.cells #[.int .u64 x.tb, .int .u64 x.pg, .int .u64 x.l, .int .u64 x.e, .int .u64 x.fa, .int .u64 x.wh] 96 (0, 0))
theorem RowW.lt {W : World} {A : Nat} {x : Cp} (h : RowW W A x) : A < W.heap.size := (Array.getElem?_eq_some_iff.1 h).1
theorem RowW.cell {W : World} {A : Nat} {x : Cp} (h : RowW W A x) (j : Nat) : W.cell? ⟨A, j, none⟩ = (#[.int .u64 x.tb, .int .u64 x.pg, .int .u64 x.l, .int .u64 x.e, .int .u64 x.fa, .int .u64 x.wh] : Array Value)[j]? := cell_of_row _ _ _ _ _ _ h
theorem RowW.on {W W' : World} {A D : Nat} {x : Cp} (h : RowW W A x) (hB : Below D W W') (hA : A < D) : RowW W' A x := (hB.block A hA).trans h
set_option maxRecDepth 100000 in
set_option maxHeartbeats 1000000 in
theorem of1_in (n : Nat) (hn : 1 ≤ n) (l A : Nat) (x : Cp) (J Jx : List (Fin 6) → World → Prop)
    (hY : ∀ pre (i : Fin 6) W, J pre W → pre.length < 6 → YieldAt Fence.wide (n - 1) Tryd.prog l (encW x i) W fun e W' =>
      (e = .returned (.bool true) ∧ J (pre ++ [i]) W' ∧ (RowW W A x → RowW W' A x)) ∨ (e = .returned (.bool false) ∧ Jx (pre ++ [i]) W'))
    (W : World) (hR : RowW W A x) (h0 : J [] W) :
    CallsIn Fence.wide n Tryd.prog 52 #[.func (.yield l) #[] #[], .pointer (some ⟨A, 0, none⟩)] W fun e W' => (∃ v, e = .returned v) ∧
      ((∃ ys, ys = upto 6 6 ∧ J ys W') ∨ (∃ pre, (∃ k, k ≤ 6 ∧ pre = upto 6 k) ∧ Jx pre W')) := by
  have c0 := hR.cell 0
  have c1 := hR.cell 1
  have c2 := hR.cell 2
  have c3 := hR.cell 3
  have c4 := hR.cell 4
  have c5 := hR.cell 5
  simp only [List.getElem?_toArray, List.getElem?_cons_zero, List.getElem?_cons_succ] at c0 c1 c2 c3 c4 c5
  refine callsIn_of_wp Tryd.func52 rfl trivial ?_ rfl
  simp only [Tryd.ntmps52, List.size_toArray, List.length_cons, List.length_nil, Nat.reduceAdd, Nat.reduceSub, Array.replicate_succ, Array.replicate_zero, List.push_toArray, List.append_toArray, List.nil_append, List.cons_append]
  gi_wp2
  gi_loopw [6] (fun i wr => ∃ k : Nat, k ≤ 6 ∧ i = .int .i64 k ∧ J (upto 6 k) wr ∧ RowW wr A x) (fun i _ => 6 - (intOf i).toNat)
  case atStart => exact ⟨0, Nat.zero_le _, rfl, h0, hR⟩
  case round =>
    obtain ⟨k, hk, rfl, hJs, hRr⟩ := hrel
    clear c0 c1 c2 c3 c4 c5
    by_cases hlt : k < 6
    · have hki : (k : Int) < 6 := by omega
      have hix := idx6 x k hlt
      obtain ⟨fn, tmps, assign, body, hy, hRn⟩ := hY _ ⟨k, hlt⟩ wr hJs (by rw [upto_length hk]; exact hlt)
      have HR : Hid (RowW wr A x) := hRr
      clear hJs hRr hR h0
      unfold encW at hy
      dsimp only at hy
      gi_wp2
      refine hRn.mono ?_
      rintro e W3 (⟨rfl, hJ3, hk3⟩ | ⟨rfl, hJx3⟩)
      · gi_wp2
        go_roundw
        case rel => exact ⟨k + 1, by omega, by simp, by rw [upto_succ hlt]; exact hJ3, hk3 HR.out⟩
        case measure => simp [intOf]; omega
      · gi_wp2
        refine bodyPost_ret (results_none rfl _ _ _) rfl ?_
        exact ⟨⟨_, rfl⟩, .inr ⟨_, ⟨k + 1, by omega, (upto_succ hlt).symm⟩, hJx3⟩⟩
    · obtain rfl : k = 6 := by omega
      gi_wp2
      go_end0
      exact ⟨⟨_, rfl⟩, .inl ⟨_, rfl, hJs⟩⟩
theorem of_stops (n : Nat) (hn : 1 ≤ n) (A : Nat) (x : Cp) (w : World) (hR : RowW w A x) :
    SeqStopsK Fence.wide n Tryd.prog 52 #[.pointer (some ⟨A, 0, none⟩)] (encW x) (fun X Y => RowW X A x → RowW Y A x) (fun ys => ys = upto 6 6) (fun pre => ∃ k, k ≤ 6 ∧ pre = upto 6 k) 6 w := fun l J Jx W hW hJ _ hY h0 =>
  of1_in n hn l A x J Jx hY W (hR.on hW hR.lt) h0
/-! ### wordsIn -/
/-- What the iterator over a frame's words stands on: the two variables that it holds, and a memory. -/
structure It (W : World) (Bm p b N : Nat) (M : Nat → Nat → Int) (f : Int) : Prop where
  bm : Boxed W Bm 26 (.pointer (some ⟨p, 0, none⟩))
  bf : Boxed W (Bm + 1) 3 (.int .i64 f)
  mem : MemIs W p b N M
theorem It.on {W W' : World} {Bm p b N D : Nat} {M : Nat → Nat → Int} {f : Int} (h : It W Bm p b N M f) (hB : Below D W W') (h1 : Bm + 1 < D) (h2 : p < D) (h3 : b < D) : It W' Bm p b N M f :=
  ⟨(hB.block _ (Nat.lt_of_succ_lt h1)).trans h.bm, (hB.block _ h1).trans h.bf, h.mem.below hB h2 h3⟩
theorem wd_cpOf (M : Nat → Nat → Int) (f : Int) (k : Nat) (hk : k < 6) : wd (cpOf M f) k = M f.toNat (4 + k) := by
  match k, hk with
  | 0, _ | 1, _ | 2, _ | 3, _ | 4, _ | 5, _ => rfl
theorem ld_in {N : Nat} {M : Nat → Nat → Int} {f : Int} (hf : okF N f = true) {k : Nat} (hk : k < 6) : ldM N M f (4 + (k : Nat)) = wd (cpOf M f) k ∧ errW N f (4 + (k : Nat)) = 0 := by
  have h : okW N f (4 + (k : Nat)) = true := by unfold okW; rw [hf]; simp; omega
  unfold ldM errW
  rw [if_pos h, if_pos h, wd_cpOf M f k hk]
  exact ⟨by congr 1, rfl⟩
set_option maxRecDepth 100000 in
set_option maxHeartbeats 1000000 in
theorem in1_in (n : Nat) (hn : 1 ≤ n) (l Bm p b N : Nat) (M : Nat → Nat → Int) (f : Int) (h1 : 1 ≤ N) (h64 : N ≤ 64) (hf : okF N f = true) (J Jx : List (Fin 6) → World → Prop)
    (hY : ∀ pre (i : Fin 6) W, J pre W → pre.length < 6 → YieldAt Fence.wide (n - 1) Tryd.prog l (encW (cpOf M f) i) W fun e W' =>
      (e = .returned (.bool true) ∧ J (pre ++ [i]) W' ∧ (It W Bm p b N M f → It W' Bm p b N M f)) ∨ (e = .returned (.bool false) ∧ Jx (pre ++ [i]) W'))
    (W : World) (hI : It W Bm p b N M f) (h0 : J [] W) :
    CallsIn Fence.wide n Tryd.prog 49 #[.func (.yield l) #[] #[], .pointer (some ⟨Bm, 0, none⟩), .pointer (some ⟨Bm + 1, 0, none⟩)] W fun e W' => (∃ v, e = .returned v) ∧
      ((∃ ys, ys = upto 6 6 ∧ J ys W') ∨ (∃ pre, (∃ k, k ≤ 6 ∧ pre = upto 6 k) ∧ Jx pre W')) := by
  refine callsIn_of_wp Tryd.func49 rfl trivial ?_ rfl
  simp only [Tryd.ntmps49, List.size_toArray, List.length_cons, List.length_nil, Nat.reduceAdd, Nat.reduceSub, Array.replicate_succ, Array.replicate_zero, List.push_toArray, List.append_toArray, List.nil_append, List.cons_append]
  gi_wp2
  gi_loopw [7] (fun i wr => ∃ k : Nat, k ≤ 6 ∧ i = .int .i64 k ∧ J (upto 6 k) wr ∧ It wr Bm p b N M f) (fun i _ => 6 - (intOf i).toNat)
  case atStart => exact ⟨0, Nat.zero_le _, rfl, h0, hI⟩
  case round =>
    obtain ⟨k, hk, rfl, hJs, hIt⟩ := hrel
    by_cases hlt : k < 6
    · have c1 := hIt.bm.cell
      have c2 := hIt.bf.cell
      have hki : (k : Int) < 6 := by omega
      have hw : wrap64 (4 + (k : Int)) = 4 + (k : Int) := by simp only [wrap64]; omega
      obtain ⟨e1, e2⟩ := ld_in (M := M) hf hlt
      have HG : Hid (Calls Tryd.prog 50 #[.pointer (some ⟨p, 0, none⟩), .int .i64 f, .int .i64 (4 + (k : Int))] wr fun x w' => x = .returned (.tuple #[.int .u64 (wd (cpOf M f) k), .int .i64 0]) ∧ w' = wr) := by
        have := load_any p b N f (4 + (k : Int)) M wr h1 h64 hIt.mem
        rwa [e1, e2] at this
      obtain ⟨fn, tmps, assign, body, hy, hRn⟩ := hY _ ⟨k, hlt⟩ wr hJs (by rw [upto_length hk]; exact hlt)
      have HT : Hid (It wr Bm p b N M f) := hIt
      clear hJs hIt hI h0 e1 e2
      unfold encW at hy
      dsimp only at hy
      gi_wp2_with (first | (refine ⟨trivial, ?_⟩; gi_at_call 50; refine (callsIn_wide.2 HG.out).mono ?_; rintro e w1 ⟨rfl, rfl⟩) | fail)
      refine hRn.mono ?_
      rintro e W3 (⟨rfl, hJ3, hk3⟩ | ⟨rfl, hJx3⟩)
      · gi_wp2
        go_roundw
        case rel => exact ⟨k + 1, by omega, by simp, by rw [upto_succ hlt]; exact hJ3, hk3 HT.out⟩
        case measure => simp [intOf]; omega
      · gi_wp2
        refine bodyPost_ret (results_none rfl _ _ _) rfl ?_
        exact ⟨⟨_, rfl⟩, .inr ⟨_, ⟨k + 1, by omega, (upto_succ hlt).symm⟩, hJx3⟩⟩
    · obtain rfl : k = 6 := by omega
      gi_wp2
      go_end0
      exact ⟨⟨_, rfl⟩, .inl ⟨_, rfl, hJs⟩⟩
theorem in_in (n p : Nat) (f : Int) (w : World) :
    CallsIn Fence.wide n Tryd.prog 34 #[.pointer (some ⟨p, 0, none⟩), .int .i64 f] w fun e w' => e = .returned (.func (.func 49) #[] #[.pointer (some ⟨w.heap.size, 0, none⟩), .pointer (some ⟨w.heap.size + 1, 0, none⟩)]) ∧ w' = (w.alloc (.cells #[.pointer (some ⟨p, 0, none⟩)] 26)).alloc (.cells #[.int .i64 f] 3) := by
  refine callsIn_of_wp Tryd.func34 rfl trivial ?_ rfl
  simp only [Tryd.ntmps34, List.size_toArray, List.length_cons, List.length_nil, Nat.reduceAdd, Nat.reduceSub, Array.replicate_succ, Array.replicate_zero, List.push_toArray, List.append_toArray, List.nil_append, List.cons_append]
  gi_wp2
  go_ret
  exact ⟨rfl, rfl⟩
theorem in_stops (n : Nat) (hn : 1 ≤ n) (Bm p b N : Nat) (M : Nat → Nat → Int) (f : Int) (w : World) (h1 : 1 ≤ N) (h64 : N ≤ 64) (hf : okF N f = true) (hI : It w Bm p b N M f) :
    SeqStopsK Fence.wide n Tryd.prog 49 #[.pointer (some ⟨Bm, 0, none⟩), .pointer (some ⟨Bm + 1, 0, none⟩)] (encW (cpOf M f)) (fun A B => It A Bm p b N M f → It B Bm p b N M f) (fun ys => ys = upto 6 6) (fun pre => ∃ k, k ≤ 6 ∧ pre = upto 6 k) 6 w := fun l J Jx W hW hJ _ hY h0 =>
  in1_in n hn l Bm p b N M f h1 h64 hf J Jx hY W (hI.on hW hI.bf.lt hI.mem.lt.1 hI.mem.lt.2) h0
/-! ### wordsOf -/
set_option maxRecDepth 100000 in
theorem of_in (n : Nat) (c : Cp) (hc : Fi c) (w : World) :
    CallsIn Fence.wide n Tryd.prog 36 #[.agg #[.int .i64 c.tb, .int .i64 c.pg, .int .i64 c.l, .int .i64 c.e, .int .i64 c.fa, .int .i64 c.wh]] w fun e w' => e = .returned (.func (.func 52) #[] #[.pointer (some ⟨w.heap.size + 1, 0, none⟩)]) ∧ RowW w' (w.heap.size + 1) c.w ∧ Below w.heap.size w w' ∧ w'.heap.size = w.heap.size + 2 := by
  refine callsIn_of_wp Tryd.func36 rfl trivial ?_ rfl
  simp only [Tryd.ntmps36, List.size_toArray, List.length_cons, List.length_nil, Nat.reduceAdd, Nat.reduceSub, Array.replicate_succ, Array.replicate_zero, List.push_toArray, List.append_toArray, List.nil_append, List.cons_append]
  obtain ⟨f0, f1, f2, f3, f4, f5⟩ := hc
  have e0 := asW_eq f0
  have e1 := asW_eq f1
  have e2 := asW_eq f2
  have e3 := asW_eq f3
  have e4 := asW_eq f4
  have e5 := asW_eq f5
  clear f0 f1 f2 f3 f4 f5
  gi_wp2
  go_ret
  refine ⟨rfl, ?_, bal (bal (Below.refl _ _) _) _, by simp⟩
  have h := heap_alloc_new (w.alloc (.cells #[.int .i64 c.tb, .int .i64 c.pg, .int .i64 c.l, .int .i64 c.e, .int .i64 c.fa, .int .i64 c.wh] 33)) (.cells #[.int .u64 (asW c.tb), .int .u64 (asW c.pg), .int .u64 (asW c.l), .int .u64 (asW c.e), .int .u64 (asW c.fa), .int .u64 (asW c.wh)] 96)
  rw [World.size_alloc] at h
  exact h
end Go.Proofs.YtikhbohkmogffaaDoor.Pcomp
