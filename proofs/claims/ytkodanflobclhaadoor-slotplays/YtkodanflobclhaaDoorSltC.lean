/- The iterator over the slots of a frame (slot.each): for every loop body it hands out what Get answers of each slot, in order. -/
import Derived.Test.YtkodanflobclhaaDoorSltA
import Derived.Test.YtkodanflobclhaaDoorFldC
import Derived.RangeFuncNested
import Derived.RangeFuncBound
import Derived.RangeFuncBox
import Derived.RangeFuncCalls
import Derived.RangeFuncLeaves
import Derived.WalkKit
import Derived.OwnWalkIn
import Derived.TacticsInMore
import Derived.LoopNIn
import Derived.LoopIn
namespace Go.Proofs.YtkodanflobclhaaDoor.Pslot
open Go.Proofs.YtkodanflobclhaaDoor.Pbase Go.Proofs.YtkodanflobclhaaDoor.Pcap Go.Proofs.YtkodanflobclhaaDoor.Pfield Go.Proofs.YtkodanflobclhaaDoor.Pmem
open Go.RowKit Go.Shelf M
attribute [local go_sem] Oper.semAt_some
set_option linter.unusedVariables false

theorem grown_none {W W' : World} (h : Below W.heap.size W W') : W.grownBy W' none := ⟨h.os, h.tape, h.output, h.size, fun k hk _ => h.block k hk⟩
theorem below_grown {W W' : World} (h : W.grownBy W' none) : Below W.heap.size W W' := ⟨h.os, h.tape, h.output, h.size, fun k hk => h.block k hk (by simp)⟩
/-- A block of cells is no block of another kind. -/
theorem cell_ne {W : World} {l : Nat} {o : Obj} (hl : W.heap[l]? = some o) (ho : o.isCells = false) {q j : Nat} {v : Value} (h : W.cell? ⟨q, j, none⟩ = some v) : q ≠ l := by
  rintro rfl
  unfold World.cell? at h
  simp only [hl] at h
  cases o with
  | cells cs t fr => simp [Obj.isCells] at ho
  | _ => simp at h
theorem row_ne {W : World} {l : Nat} {o : Obj} (hl : W.heap[l]? = some o) (ho : o.isCells = false) {q : Nat} {cs : Array Value} {t : TypeId} {fr : Nat × Nat} (h : W.heap[q]? = some (.cells cs t fr)) : q ≠ l := by
  rintro rfl
  rw [hl] at h
  cases h
  simp [Obj.isCells] at ho
theorem but_putObj (W : World) (l : Nat) (o : Obj) : But l W (W.putObj l o) := ⟨rfl, rfl, rfl, by simp, fun k _ hk => World.putObj_heap_other hk⟩
/-- What the iterator stands on: the two variables that it holds, a memory and the tables. -/
structure It (W : World) (Bm p b N : Nat) (M : Nat → Nat → Int) (f : Int) : Prop where
  bm : Boxed W Bm 25 (.pointer (some ⟨p, 0, none⟩))
  bf : Boxed W (Bm + 1) 3 (.int .i64 f)
  mt : Mt W p b N M
theorem It.on {W W' : World} {Bm p b N : Nat} {M : Nat → Nat → Int} {f : Int} (h : It W Bm p b N M f) (hB : Below W.heap.size W W') : It W' Bm p b N M f :=
  ⟨h.bm.kept (grown_none hB) (by simp), h.bf.kept (grown_none hB) (by simp), h.mt.on hB⟩
theorem It.putObj {W : World} {Bm p b N : Nat} {M : Nat → Nat → Int} {f : Int} (h : It W Bm p b N M f) {l : Nat} {o : Obj} (o' : Obj) (hl : W.heap[l]? = some o) (ho : o.isCells = false) : It (W.putObj l o') Bm p b N M f := by
  have hB := but_putObj W l o'
  have n1 : p ≠ l := row_ne hl ho h.mt.mem.head
  have n2 : b ≠ l := row_ne hl ho h.mt.mem.row
  have n3 : 1 ≠ l := cell_ne hl ho (h.mt.tab.cell 0 0 (by omega) (by omega))
  have n4 : 0 ≠ l := by obtain ⟨t, fr, hr⟩ := h.mt.tabw.row; exact row_ne hl ho hr
  refine ⟨h.bm.kept (grownBy_putObj' W l o') (fun e => row_ne hl ho h.bm (by cases e; rfl)), h.bf.kept (grownBy_putObj' W l o') (fun e => row_ne hl ho h.bf (by cases e; rfl)), ⟨h.mt.mem.on (hB.block p h.mt.mem.lt.1 n1) (hB.block b h.mt.mem.lt.2 n2), tabM_but h.mt.tab hB n3, tabW_but h.mt.tabw hB n4, h.mt.fit, h.mt.n1, h.mt.n64⟩⟩
/-- What a round is handed. -/
def encS (N : Nat) (M : Nat → Nat → Int) (f : Int) (x : Fin 16) : Array Value :=
  #[.agg #[.int .i64 (sC N M f (x.1 : Nat) 0), .int .i64 (sC N M f (x.1 : Nat) 1), .int .i64 (sC N M f (x.1 : Nat) 2), .int .i64 (sC N M f (x.1 : Nat) 3), .int .i64 (sC N M f (x.1 : Nat) 4), .int .i64 (sC N M f (x.1 : Nat) 5)], .int .i64 (sE N M f (x.1 : Nat))]

set_option maxRecDepth 100000 in
set_option maxHeartbeats 1000000 in
theorem each1_in (n : Nat) (hn : 1 ≤ n) (l Bm p b N : Nat) (M : Nat → Nat → Int) (f : Int) (J Jx : List (Fin 16) → World → Prop)
    (hA : ∀ s A B, J s A → A.grownBy B none → J s B)
    (hY : ∀ pre (x : Fin 16) W, J pre W → pre.length < 16 → YieldAt Fence.wide (n - 1) Tryd.prog l (encS N M f x) W fun e W' =>
      (e = .returned (.bool true) ∧ J (pre ++ [x]) W' ∧ (It W Bm p b N M f → It W' Bm p b N M f)) ∨ (e = .returned (.bool false) ∧ Jx (pre ++ [x]) W'))
    (W : World) (hI : It W Bm p b N M f) (h0 : J [] W) :
    CallsIn Fence.wide n Tryd.prog 46 #[.func (.yield l) #[] #[], .pointer (some ⟨Bm, 0, none⟩), .pointer (some ⟨Bm + 1, 0, none⟩)] W fun e W' => (∃ v, e = .returned v) ∧
      ((∃ ys, ys = upto 16 16 ∧ J ys W') ∨ (∃ pre, (∃ k, k ≤ 16 ∧ pre = upto 16 k) ∧ Jx pre W')) := by
  refine callsIn_of_wp Tryd.func46 rfl trivial ?_ rfl
  simp only [Tryd.ntmps46, List.size_toArray, List.length_cons, List.length_nil, Nat.reduceAdd, Nat.reduceSub, Array.replicate_succ, Array.replicate_zero, List.push_toArray, List.append_toArray, List.nil_append, List.cons_append]
  gi_wp2
  gi_loopw [5] (fun i wr => ∃ k : Nat, k ≤ 16 ∧ i = .int .i64 k ∧ J (upto 16 k) wr ∧ It wr Bm p b N M f) (fun i _ => 16 - (intOf i).toNat)
  case atStart => exact ⟨0, Nat.zero_le _, rfl, h0, hI⟩
  case round =>
    obtain ⟨k, hk, rfl, hJs, hIt⟩ := hrel
    by_cases hlt : k < 16
    · have c1 := hIt.bm.cell
      have c2 := hIt.bf.cell
      have hki : (k : Int) < 16 := by omega
      have HG : Hid (∀ wc, Mt wc p b N M → Calls Tryd.prog 9 #[.pointer (some ⟨p, 0, none⟩), .int .i64 f, .int .i64 k] wc fun x w' => x = .returned (.tuple (encS N M f ⟨k, hlt⟩)) ∧ Below wc.heap.size wc w') := fun wc h => sget_any p b N f k M wc h
      have HJ : Hid (J (upto 16 k) wr) := hJs
      have HT : Hid (It wr Bm p b N M f) := hIt
      clear hJs hIt hI h0
      gi_wp2_with (first | (refine ⟨trivial, ?_⟩; gi_at_call 9; refine (callsIn_wide.2 (HG.out _ HT.out.mt)).mono ?_; rintro e w1 ⟨rfl, hb⟩; obtain ⟨fn, tmps, assign, body, hy, hR⟩ := hY _ ⟨k, hlt⟩ w1 (hA _ _ _ HJ.out (grown_none hb)) (by rw [upto_length hk]; exact hlt); have HT1 : Hid (It w1 Bm p b N M f) := HT.out.on hb; clear hb; unfold encS at hy ⊢; dsimp only at hy ⊢) | fail)

      refine hR.mono ?_
      rintro e W3 (⟨rfl, hJ3, hk3⟩ | ⟨rfl, hJx3⟩)
      · gi_wp2
        go_roundw
        case rel => exact ⟨k + 1, by omega, by simp, by rw [upto_succ hlt]; exact hJ3, hk3 HT1.out⟩
        case measure => simp [intOf]; omega
      · gi_wp2
        refine bodyPost_ret (results_none rfl _ _ _) rfl ?_
        exact ⟨⟨_, rfl⟩, .inr ⟨_, ⟨k + 1, by omega, (upto_succ hlt).symm⟩, hJx3⟩⟩
    · obtain rfl : k = 16 := by omega
      gi_wp2
      go_end0
      exact ⟨⟨_, rfl⟩, .inl ⟨_, rfl, hJs⟩⟩
theorem each_in (n p : Nat) (f : Int) (w : World) :
    CallsIn Fence.wide n Tryd.prog 32 #[.pointer (some ⟨p, 0, none⟩), .int .i64 f] w fun e w' => e = .returned (.func (.func 46) #[] #[.pointer (some ⟨w.heap.size, 0, none⟩), .pointer (some ⟨w.heap.size + 1, 0, none⟩)]) ∧ w' = (w.alloc (.cells #[.pointer (some ⟨p, 0, none⟩)] 25)).alloc (.cells #[.int .i64 f] 3) := by
  refine callsIn_of_wp Tryd.func32 rfl trivial ?_ rfl
  simp only [Tryd.ntmps32, List.size_toArray, List.length_cons, List.length_nil, Nat.reduceAdd, Nat.reduceSub, Array.replicate_succ, Array.replicate_zero, List.push_toArray, List.append_toArray, List.nil_append, List.cons_append]
  gi_wp2
  go_ret
  exact ⟨rfl, rfl⟩
theorem each_stops (n : Nat) (hn : 1 ≤ n) (Bm p b N : Nat) (M : Nat → Nat → Int) (f : Int) (w : World) (hI : It w Bm p b N M f) :
    SeqStopsK Fence.wide n Tryd.prog 46 #[.pointer (some ⟨Bm, 0, none⟩), .pointer (some ⟨Bm + 1, 0, none⟩)] (encS N M f) (fun A B => It A Bm p b N M f → It B Bm p b N M f) (fun ys => ys = upto 16 16) (fun pre => ∃ k, k ≤ 16 ∧ pre = upto 16 k) 16 w := fun l J Jx W hW hJ _ hY h0 =>
  each1_in n hn l Bm p b N M f J Jx (fun s A B hs hg => hJ s A B none hs hg (fun r e => by cases e)) hY W (hI.on hW) h0
end Go.Proofs.YtkodanflobclhaaDoor.Pslot
