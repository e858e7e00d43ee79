import Derived.Test.YtkkclcihjojphaaGreatDoorPkF
import Derived.RangeFuncWrites
import Derived.Sort.QuietIn
import Derived.Scope
set_option linter.unusedVariables false
set_option linter.unusedSimpArgs false
set_option maxRecDepth 100000
set_option maxHeartbeats 20000000
namespace Go.Proofs.YtkkclcihjojphaaGreatDoor
namespace Pcomp
open Pbase Play Pmem Go.RowKit
structure Cp where
 tb : Int
 pg : Int
 l : Int
 e : Int
 fa : Int
 wh : Int
def Cp.ws (x : Cp) : List Int := [x.tb, x.pg, x.l, x.e, x.fa, x.wh]
def cp0 : Cp := ⟨0, 0, 0, 0, 0, 0⟩
def Co (x : Cp) : Prop := (0 <= x.tb /\ x.tb <= 63) /\ (0 <= x.pg /\ x.pg <= 63) /\ (0 <= x.l /\ x.l <= 63) /\ (0 <= x.e /\ x.e <= 65535) /\ (0 <= x.fa /\ x.fa <= 64) /\ (0 <= x.wh /\ x.wh <= 1073741824) /\ (x.fa = 0 -> x.wh = 0)
def coB (x : Cp) : Bool := (decide (0 <= x.tb) && decide (x.tb <= 63)) && (decide (0 <= x.pg) && decide (x.pg <= 63)) && (decide (0 <= x.l) && decide (x.l <= 63)) && (decide (0 <= x.e) && decide (x.e <= 65535)) && (decide (0 <= x.fa) && decide (x.fa <= 64)) && (decide (0 <= x.wh) && decide (x.wh <= 1073741824)) && (decide (x.fa ≠ 0) || decide (x.wh = 0))
theorem coB_iff (x : Cp) : coB x = true ↔ Co x := by
 unfold coB Co
 simp
 omega
theorem coB_yes {x : Cp} (h : Co x) : coB x = true := (coB_iff x).2 h
theorem coB_no {x : Cp} (h : ¬ Co x) : coB x = false := Bool.eq_false_iff.2 fun e => h ((coB_iff x).1 e)
theorem Co.fit {x : Cp} (h : Co x) : ∀ v ∈ x.ws, 0 <= v /\ v <= 18446744073709551615 := by
 unfold Co at h
 intro v hv
 simp only [Cp.ws, List.mem_cons, List.not_mem_nil, or_false] at hv
 rcases hv with rfl | rfl | rfl | rfl | rfl | rfl <;> omega
def ckE (x : Cp) : Int := if coB x = true then 0 else 1
def cpOf (M : Nat -> Nat -> Int) (f : Int) : Cp := ⟨M f.toNat 4, M f.toNat 5, M f.toNat 6, M f.toNat 7, M f.toNat 8, M f.toNat 9⟩
def gtE (N : Nat) (M : Nat -> Nat -> Int) (f : Int) : Int := if Phead.isE N M f 3 = 0 then if coB (cpOf M f) = true then 0 else 12 else 4
def gtC (N : Nat) (M : Nat -> Nat -> Int) (f : Int) : Cp := if gtE N M f = 0 then cpOf M f else cp0
def mkE (N : Nat) (f : Int) (x : Cp) : Int := if coB x = true then errF N f else 1
def mkM (N : Nat) (M : Nat -> Nat -> Int) (f : Int) (x : Cp) : Nat -> Nat -> Int := if coB x = true then layF N (Phead.mkM N M f 3 0 false 0) f x.ws else M
theorem ws_len (x : Cp) : x.ws.length = 6 := rfl
def Fi (x : Cp) : Prop := In64 x.tb /\ In64 x.pg /\ In64 x.l /\ In64 x.e /\ In64 x.fa /\ In64 x.wh
theorem Co.fi {x : Cp} (h : Co x) : Fi x := by
 unfold Co at h
 unfold Fi In64
 omega
def Cp.w (x : Cp) : Cp := ⟨asW x.tb, asW x.pg, asW x.l, asW x.e, asW x.fa, asW x.wh⟩
theorem w_co {x : Cp} (h : Co x) : x.w = x := by
 unfold Co at h
 unfold Cp.w asW
 rw [if_pos (by omega), if_pos (by omega), if_pos (by omega), if_pos (by omega), if_pos (by omega), if_pos (by omega)]
theorem co_w {x : Cp} (h : Fi x) : Co x.w ↔ Co x := by
 constructor
 · intro h'
   obtain ⟨f0, f1, f2, f3, f4, f5⟩ := h
   obtain ⟨g0, g1, g2, g3, g4, g5, g6⟩ := h'
   have e0 := asW_low f0 (by omega) g0.2
   have e1 := asW_low f1 (by omega) g1.2
   have e2 := asW_low f2 (by omega) g2.2
   have e3 := asW_low f3 (by omega) g3.2
   have e4 := asW_low f4 (by omega) g4.2
   have e5 := asW_low f5 (by omega) g5.2
   unfold Cp.w at g0 g1 g2 g3 g4 g5 g6
   dsimp only at g0 g1 g2 g3 g4 g5 g6
   rw [e0.1] at g0
   rw [e1.1] at g1
   rw [e2.1] at g2
   rw [e3.1] at g3
   rw [e4.1] at g4
   rw [e5.1] at g5
   rw [e4.1, e5.1] at g6
   exact ⟨g0, g1, g2, g3, g4, g5, g6⟩
 · intro h'
   rw [w_co h']
   exact h'
theorem coB_w {x : Cp} (h : Fi x) : coB x.w = coB x := by
 by_cases hc : Co x
 · rw [coB_yes hc, coB_yes ((co_w h).2 hc)]
 · rw [coB_no hc, coB_no (fun e => hc ((co_w h).1 e))]
end Pcomp
namespace Pcomp
open Pbase Pfield Play Pmem Go.RowKit M
def mostL : List Int := [63, 63, 63, 65535, 64, 1073741824]
structure TabC (w : World) : Prop where
 lt : 4 < w.heap.size
 row : ∃ t fr, w.heap[(4 : Nat)]? = some (.cells #[.int .u64 63, .int .u64 63, .int .u64 63, .int .u64 65535, .int .u64 64, .int .u64 1073741824] t fr)
theorem TabC.on {w w' : World} (h : TabC w) (hB : Below w.heap.size w w') : TabC w' :=
 ⟨Nat.lt_of_lt_of_le h.lt hB.size, by obtain ⟨t, fr, hr⟩ := h.row; exact ⟨t, fr, (hB.block 4 h.lt).trans hr⟩⟩
theorem TabC.but {w w' : World} {b : Nat} (h : TabC w) (hB : But b w w') (hne : 4 ≠ b) : TabC w' :=
 ⟨Nat.lt_of_lt_of_le h.lt hB.size, by obtain ⟨t, fr, hr⟩ := h.row; exact ⟨t, fr, (hB.block 4 h.lt hne).trans hr⟩⟩
theorem tabC_ne {w : World} {p b N : Nat} {M : Nat -> Nat -> Int} (hM : MemIs w p b N M) (hW : TabC w) : 4 ≠ b := by
 intro e
 obtain ⟨t, fr, hr⟩ := hW.row
 rw [e, hM.row] at hr
 simp only [Option.some.injEq, Obj.cells.injEq] at hr
 have := congrArg Array.size hr.1
 rw [cellsM_size] at this
 simp at this
 omega
structure Tc (w : World) : Prop where
 th : Phead.TabW w
 tc : TabC w
theorem Tc.on {w w' : World} (h : Tc w) (hB : Below w.heap.size w w') : Tc w' := ⟨h.th.on hB, h.tc.on hB⟩
structure Mx (w : World) (p b N : Nat) (M : Nat -> Nat -> Int) : Prop where
 mem : MemIs w p b N M
 tb : Tc w
 fit : Fit M
 n1 : 1 <= N
 n64 : N <= 64
theorem Mx.on {w w' : World} {p b N : Nat} {M : Nat -> Nat -> Int} (h : Mx w p b N M) (hB : Below w.heap.size w w') : Mx w' p b N M :=
 ⟨h.mem.grown hB, h.tb.on hB, h.fit, h.n1, h.n64⟩
theorem Mx.but {w w' : World} {p b N : Nat} {M M' : Nat -> Nat -> Int} (h : Mx w p b N M) (hM : MemIs w' p b N M') (hF : Fit M') (hB : But b w w') : Mx w' p b N M' :=
 ⟨hM, ⟨h.tb.th.but hB (Phead.tab_ne h.mem h.tb.th), h.tb.tc.but hB (tabC_ne h.mem h.tb.tc)⟩, hF, h.n1, h.n64⟩
theorem but_on {b : Nat} {a w w' : World} (h : But b a w) (hB : Below a.heap.size w w') : But b a w' :=
 ⟨hB.os.trans h.os, hB.tape.trans h.tape, hB.output.trans h.output, Nat.le_trans h.size hB.size, fun i hi hn => (hB.block i hi).trans (h.block i hi hn)⟩
def Cp.v (x : Cp) : Value := .agg #[.int .i64 x.tb, .int .i64 x.pg, .int .i64 x.l, .int .i64 x.e, .int .i64 x.fa, .int .i64 x.wh]
end Pcomp
namespace Pcomp
open Pbase Play Pmem Go.RowKit Go.ChangeShapes Go.WideShapes Go.Deep
section
variable {H : Type} {enc : TypeId × Value -> H} {w : World} {base : Nat} {spare : Nat -> Bool} {held : Bool}
end
theorem cellsU64 : Tryz.prog.cellsOf 83 = 1 := by kernel_rfl
theorem array_words {w : World} {fuel n : Nat} {t : TypeId} {cs : List Value} {zs : List Int} {p : List MemPlace} (ht : Tryz.prog.underlying t = some (.array n 83)) (hn : Tryz.prog.cellsOf t = n)
 (h : DataW.trod (fun _ => ()) Tryz.prog w 0 (fun _ => true) false fuel t cs = some (.agg (zs.map fun z => .lit (.int .u64 z)), p)) : zs.length = n /\ cs.length = n /\ ∀ j, j < n -> cs[j]? = some (.int .u64 (zs[j]?.getD 0)) := by
 obtain ⟨xs, m, _, hx, hl, hxl, hel⟩ := DataW.trod_array ht h
 simp only [Prod.mk.injEq, DataW.agg.injEq] at hx
 have hz : zs.length = n := by have := congrArg List.length hx.1; simpa [hxl] using this
 refine ⟨hz, hl.trans hn, fun j hj => ?_⟩
 have hj' := hel j hj
 have hxj : j < xs.length := by omega
 rw [List.getElem?_eq_getElem hxj, cellsU64, Nat.mul_one] at hj'
 obtain ⟨k, e1, e2, _⟩ := DataW.trod_int Tryz.underlying83 hj'
 have hjc : j < cs.length := by omega
 rw [List.drop_eq_getElem_cons hjc, List.take_succ_cons, List.take_zero, List.cons.injEq] at e1
 rw [List.getElem?_eq_getElem hjc, e1.1]
 have hh := congrArg (fun l => l[j]?) hx.1
 simp [hxj, show j < zs.length by omega] at hh
 rw [e2] at hh
 simp at hh
 simp [show j < zs.length by omega, hh]
theorem gTmost : (Tryz.prog.globals[(4 : Nat)]?).map (·.type) = some 398 := by kernel_rfl
theorem cellsWords : Tryz.prog.cellsOf 398 = 6 := by kernel_rfl
theorem most_datum : (Rows.laid_palanquin_comp_most : DataW Unit) = .agg (mostL.map fun z => .lit (.int .u64 z)) := rfl
theorem tabC_of {W : World} {g : Nat} {t : TypeId} {cs : Array Value} {fuel : Nat} {p : List MemPlace} {n : String} (hn : Tryz.prog.globalNamed n = some 4) (hg : Tryz.prog.globalNamed n = some g) (ht : (Tryz.prog.globals[g]?).map (·.type) = some t) (hv : W.var? Tryz.prog n = some cs)
 (hd : DataW.trod (fun _ => ()) Tryz.prog W 0 (fun _ => true) false fuel t cs.toList = some (Rows.laid_palanquin_comp_most, p)) : TabC W := by
 obtain rfl := Option.some.inj (hn.symm.trans hg)
 obtain rfl := Option.some.inj (gTmost.symm.trans ht)
 obtain ⟨t1, fr, hb⟩ := var_block hg hv
 refine ⟨block_lt hb, t1, fr, ?_⟩
 rw [most_datum] at hd
 obtain ⟨_, hl, hc⟩ := array_words Tryz.underlying398 cellsWords hd
 obtain ⟨cl⟩ := cs
 simp only at hl hc hb
 match cl, hl with
 | [v0, v1, v2, v3, v4, v5], _ =>
   have g0 := hc 0 (by omega)
   have g1 := hc 1 (by omega)
   have g2 := hc 2 (by omega)
   have g3 := hc 3 (by omega)
   have g4 := hc 4 (by omega)
   have g5 := hc 5 (by omega)
   simp [mostL] at g0 g1 g2 g3 g4 g5
   rw [hb, g0, g1, g2, g3, g4, g5]
end Pcomp
namespace Pcomp
open Pbase Pfield Play Pmem Go.RowKit Go.Shelf M
attribute [local go_sem] Oper.semAt_some
theorem grown_none {W W' : World} (h : Below W.heap.size W W') : W.grownBy W' none := ⟨h.os, h.tape, h.output, h.size, fun k hk _ => h.block k hk⟩
def wd (x : Cp) (k : Nat) : Int := x.ws[k]?.getD 0
def encW (x : Cp) (i : Fin 6) : Array Value := #[.int .i64 (i.1 : Nat), .int .u64 (wd x i.1)]
theorem idx6 (x : Cp) (k : Nat) (hk : k < 6) (w : World) : (Instr.index 398 (.agg #[.int .u64 x.tb, .int .u64 x.pg, .int .u64 x.l, .int .u64 x.e, .int .u64 x.fa, .int .u64 x.wh]) (.int .i64 (k : Nat))).run Tryz.prog w = .ok (.int .u64 (wd x k)) w := by
 rcases (show k = 0 \/ k = 1 \/ k = 2 \/ k = 3 \/ k = 4 \/ k = 5 by omega) with rfl | rfl | rfl | rfl | rfl | rfl <;> kernel_rfl
def RowW (W : World) (A : Nat) (x : Cp) : Prop := W.heap[A]? = some (.cells #[.int .u64 x.tb, .int .u64 x.pg, .int .u64 x.l, .int .u64 x.e, .int .u64 x.fa, .int .u64 x.wh] 398 (0, 0))
theorem RowW.lt {W : World} {A : Nat} {x : Cp} (h : RowW W A x) : A < W.heap.size := (Array.getElem?_eq_some_iff.1 h).1
theorem RowW.cell {W : World} {A : Nat} {x : Cp} (h : RowW W A x) (j : Nat) : W.cell? ⟨A, j, none⟩ = (#[.int .u64 x.tb, .int .u64 x.pg, .int .u64 x.l, .int .u64 x.e, .int .u64 x.fa, .int .u64 x.wh] : Array Value)[j]? := cell_of_row _ _ _ _ _ _ h
theorem RowW.on {W W' : World} {A D : Nat} {x : Cp} (h : RowW W A x) (hB : Below D W W') (hA : A < D) : RowW W' A x := (hB.block A hA).trans h
theorem of1_in (n : Nat) (hn : 1 <= n) (l A : Nat) (x : Cp) (J Jx : List (Fin 6) -> World -> Prop)
 (hY : ∀ pre (i : Fin 6) W, J pre W -> pre.length < 6 -> YieldAt Fence.wide (n - 1) Tryz.prog l (encW x i) W fun e W' =>
   (e = .returned (.bool true) /\ J (pre ++ [i]) W' /\ (RowW W A x -> RowW W' A x)) \/ (e = .returned (.bool false) /\ Jx (pre ++ [i]) W'))
 (W : World) (hR : RowW W A x) (h0 : J [] W) :
 CallsIn Fence.wide n Tryz.prog 275 #[.func (.yield l) #[] #[], .pointer (some ⟨A, 0, none⟩)] W fun e W' => (∃ v, e = .returned v) /\
  ((∃ ys, ys = upto 6 6 /\ J ys W') \/ (∃ pre, (∃ k, k <= 6 /\ pre = upto 6 k) /\ Jx pre W')) := by
 have c0 := hR.cell 0
 have c1 := hR.cell 1
 have c2 := hR.cell 2
 have c3 := hR.cell 3
 have c4 := hR.cell 4
 have c5 := hR.cell 5
 simp only [List.getElem?_toArray, List.getElem?_cons_zero, List.getElem?_cons_succ] at c0 c1 c2 c3 c4 c5
 refine callsIn_of_wp Tryz.func275 rfl trivial ?_ rfl
 simp only [Tryz.ntmps275, List.size_toArray, List.length_cons, List.length_nil, Nat.reduceAdd, Nat.reduceSub, Array.replicate_succ, Array.replicate_zero, List.push_toArray, List.append_toArray, List.nil_append, List.cons_append]
 gi_wp2
 gi_loopw [6] (fun i wr => ∃ k : Nat, k <= 6 /\ i = .int .i64 k /\ J (upto 6 k) wr /\ RowW wr A x) (fun i _ => 6 - (intOf i).toNat)
 case atStart => exact ⟨0, Nat.zero_le _, rfl, h0, hR⟩
 case round =>
  obtain ⟨k, hk, rfl, hJs, hRr⟩ := hrel
  clear c0 c1 c2 c3 c4 c5
  by_cases hlt : k < 6
  · have hki : (k : Int) < 6 := by omega
    have hix := idx6 x k hlt
    obtain ⟨fn, tmps, assign, body, hy, hRn⟩ := hY _ ⟨k, hlt⟩ wr hJs (by rw [upto_length hk]; exact hlt)
    have HR : Hid (RowW wr A x) := hRr
    clear hJs hRr hR h0
    unfold encW at hy
    dsimp only at hy
    gi_wp2
    refine hRn.mono ?_
    rintro e W3 (⟨rfl, hJ3, hk3⟩ | ⟨rfl, hJx3⟩)
    · gi_wp2
      go_roundw
      case rel => exact ⟨k + 1, by omega, by simp, by rw [upto_succ hlt]; exact hJ3, hk3 HR.out⟩
      case measure => simp [intOf]; omega
    · gi_wp2
      refine bodyPost_ret (results_none rfl _ _ _) rfl ?_
      exact ⟨⟨_, rfl⟩, .inr ⟨_, ⟨k + 1, by omega, (upto_succ hlt).symm⟩, hJx3⟩⟩
  · obtain rfl : k = 6 := by omega
    gi_wp2
    go_end0
    exact ⟨⟨_, rfl⟩, .inl ⟨_, rfl, hJs⟩⟩
theorem of_stops (n : Nat) (hn : 1 <= n) (A : Nat) (x : Cp) (w : World) (hR : RowW w A x) :
 SeqStopsK Fence.wide n Tryz.prog 275 #[.pointer (some ⟨A, 0, none⟩)] (encW x) (fun X Y => RowW X A x -> RowW Y A x) (fun ys => ys = upto 6 6) (fun pre => ∃ k, k <= 6 /\ pre = upto 6 k) 6 w := fun l J Jx W hW hJ _ hY h0 =>
 of1_in n hn l A x J Jx hY W (hR.on hW hR.lt) h0
structure It (W : World) (Bm p b N : Nat) (M : Nat -> Nat -> Int) (f : Int) : Prop where
 bm : Boxed W Bm 22 (.pointer (some ⟨p, 0, none⟩))
 bf : Boxed W (Bm + 1) 3 (.int .i64 f)
 mem : MemIs W p b N M
theorem It.on {W W' : World} {Bm p b N D : Nat} {M : Nat -> Nat -> Int} {f : Int} (h : It W Bm p b N M f) (hB : Below D W W') (h1 : Bm + 1 < D) (h2 : p < D) (h3 : b < D) : It W' Bm p b N M f :=
 ⟨(hB.block _ (Nat.lt_of_succ_lt h1)).trans h.bm, (hB.block _ h1).trans h.bf, h.mem.below hB h2 h3⟩
theorem wd_cpOf (M : Nat -> Nat -> Int) (f : Int) (k : Nat) (hk : k < 6) : wd (cpOf M f) k = M f.toNat (4 + k) := by
 match k, hk with
 | 0, _ | 1, _ | 2, _ | 3, _ | 4, _ | 5, _ => rfl
theorem ld_in {N : Nat} {M : Nat -> Nat -> Int} {f : Int} (hf : okF N f = true) {k : Nat} (hk : k < 6) : ldM N M f (4 + (k : Nat)) = wd (cpOf M f) k /\ errW N f (4 + (k : Nat)) = 0 := by
 have h : okW N f (4 + (k : Nat)) = true := by unfold okW; rw [hf]; simp; omega
 unfold ldM errW
 rw [if_pos h, if_pos h, wd_cpOf M f k hk]
 exact ⟨by congr 1, rfl⟩
theorem in1_in (n : Nat) (hn : 1 <= n) (l Bm p b N : Nat) (M : Nat -> Nat -> Int) (f : Int) (h1 : 1 <= N) (h64 : N <= 64) (hf : okF N f = true) (J Jx : List (Fin 6) -> World -> Prop)
 (hY : ∀ pre (i : Fin 6) W, J pre W -> pre.length < 6 -> YieldAt Fence.wide (n - 1) Tryz.prog l (encW (cpOf M f) i) W fun e W' =>
   (e = .returned (.bool true) /\ J (pre ++ [i]) W' /\ (It W Bm p b N M f -> It W' Bm p b N M f)) \/ (e = .returned (.bool false) /\ Jx (pre ++ [i]) W'))
 (W : World) (hI : It W Bm p b N M f) (h0 : J [] W) :
 CallsIn Fence.wide n Tryz.prog 276 #[.func (.yield l) #[] #[], .pointer (some ⟨Bm, 0, none⟩), .pointer (some ⟨Bm + 1, 0, none⟩)] W fun e W' => (∃ v, e = .returned v) /\
  ((∃ ys, ys = upto 6 6 /\ J ys W') \/ (∃ pre, (∃ k, k <= 6 /\ pre = upto 6 k) /\ Jx pre W')) := by
 refine callsIn_of_wp Tryz.func276 rfl trivial ?_ rfl
 simp only [Tryz.ntmps276, List.size_toArray, List.length_cons, List.length_nil, Nat.reduceAdd, Nat.reduceSub, Array.replicate_succ, Array.replicate_zero, List.push_toArray, List.append_toArray, List.nil_append, List.cons_append]
 gi_wp2
 gi_loopw [7] (fun i wr => ∃ k : Nat, k <= 6 /\ i = .int .i64 k /\ J (upto 6 k) wr /\ It wr Bm p b N M f) (fun i _ => 6 - (intOf i).toNat)
 case atStart => exact ⟨0, Nat.zero_le _, rfl, h0, hI⟩
 case round =>
  obtain ⟨k, hk, rfl, hJs, hIt⟩ := hrel
  by_cases hlt : k < 6
  · have c1 := hIt.bm.cell
    have c2 := hIt.bf.cell
    have hki : (k : Int) < 6 := by omega
    have hw : wrap64 (4 + (k : Int)) = 4 + (k : Int) := by simp only [wrap64]; omega
    obtain ⟨e1, e2⟩ := ld_in (M := M) hf hlt
    have HG : Hid (Calls Tryz.prog 55 #[.pointer (some ⟨p, 0, none⟩), .int .i64 f, .int .i64 (4 + (k : Int))] wr fun x w' => x = .returned (.tuple #[.int .u64 (wd (cpOf M f) k), .int .i64 0]) /\ w' = wr) := by
     have := load_any p b N f (4 + (k : Int)) M wr h1 h64 hIt.mem
     rwa [e1, e2] at this
    obtain ⟨fn, tmps, assign, body, hy, hRn⟩ := hY _ ⟨k, hlt⟩ wr hJs (by rw [upto_length hk]; exact hlt)
    have HT : Hid (It wr Bm p b N M f) := hIt
    clear hJs hIt hI h0 e1 e2
    unfold encW at hy
    dsimp only at hy
    gi_wp2_with (first | (refine ⟨trivial, ?_⟩; gi_at_call 55; refine (callsIn_wide.2 HG.out).mono ?_; rintro e w1 ⟨rfl, rfl⟩) | fail)
    refine hRn.mono ?_
    rintro e W3 (⟨rfl, hJ3, hk3⟩ | ⟨rfl, hJx3⟩)
    · gi_wp2
      go_roundw
      case rel => exact ⟨k + 1, by omega, by simp, by rw [upto_succ hlt]; exact hJ3, hk3 HT.out⟩
      case measure => simp [intOf]; omega
    · gi_wp2
      refine bodyPost_ret (results_none rfl _ _ _) rfl ?_
      exact ⟨⟨_, rfl⟩, .inr ⟨_, ⟨k + 1, by omega, (upto_succ hlt).symm⟩, hJx3⟩⟩
  · obtain rfl : k = 6 := by omega
    gi_wp2
    go_end0
    exact ⟨⟨_, rfl⟩, .inl ⟨_, rfl, hJs⟩⟩
theorem in_in (n p : Nat) (f : Int) (w : World) :
 CallsIn Fence.wide n Tryz.prog 245 #[.pointer (some ⟨p, 0, none⟩), .int .i64 f] w fun e w' => e = .returned (.func (.func 276) #[] #[.pointer (some ⟨w.heap.size, 0, none⟩), .pointer (some ⟨w.heap.size + 1, 0, none⟩)]) /\ w' = (w.alloc (.cells #[.pointer (some ⟨p, 0, none⟩)] 22)).alloc (.cells #[.int .i64 f] 3) := by
 refine callsIn_of_wp Tryz.func245 rfl trivial ?_ rfl
 simp only [Tryz.ntmps245, List.size_toArray, List.length_cons, List.length_nil, Nat.reduceAdd, Nat.reduceSub, Array.replicate_succ, Array.replicate_zero, List.push_toArray, List.append_toArray, List.nil_append, List.cons_append]
 gi_wp2
 go_ret
 exact ⟨rfl, rfl⟩
theorem in_stops (n : Nat) (hn : 1 <= n) (Bm p b N : Nat) (M : Nat -> Nat -> Int) (f : Int) (w : World) (h1 : 1 <= N) (h64 : N <= 64) (hf : okF N f = true) (hI : It w Bm p b N M f) :
 SeqStopsK Fence.wide n Tryz.prog 276 #[.pointer (some ⟨Bm, 0, none⟩), .pointer (some ⟨Bm + 1, 0, none⟩)] (encW (cpOf M f)) (fun A B => It A Bm p b N M f -> It B Bm p b N M f) (fun ys => ys = upto 6 6) (fun pre => ∃ k, k <= 6 /\ pre = upto 6 k) 6 w := fun l J Jx W hW hJ _ hY h0 =>
 in1_in n hn l Bm p b N M f h1 h64 hf J Jx hY W (hI.on hW hI.bf.lt hI.mem.lt.1 hI.mem.lt.2) h0
theorem of_in (n : Nat) (c : Cp) (hc : Fi c) (w : World) :
 CallsIn Fence.wide n Tryz.prog 239 #[.agg #[.int .i64 c.tb, .int .i64 c.pg, .int .i64 c.l, .int .i64 c.e, .int .i64 c.fa, .int .i64 c.wh]] w fun e w' => e = .returned (.func (.func 275) #[] #[.pointer (some ⟨w.heap.size + 1, 0, none⟩)]) /\ RowW w' (w.heap.size + 1) c.w /\ Below w.heap.size w w' /\ w'.heap.size = w.heap.size + 2 := by
 refine callsIn_of_wp Tryz.func239 rfl trivial ?_ rfl
 simp only [Tryz.ntmps239, List.size_toArray, List.length_cons, List.length_nil, Nat.reduceAdd, Nat.reduceSub, Array.replicate_succ, Array.replicate_zero, List.push_toArray, List.append_toArray, List.nil_append, List.cons_append]
 obtain ⟨f0, f1, f2, f3, f4, f5⟩ := hc
 have e0 := asW_eq f0
 have e1 := asW_eq f1
 have e2 := asW_eq f2
 have e3 := asW_eq f3
 have e4 := asW_eq f4
 have e5 := asW_eq f5
 clear f0 f1 f2 f3 f4 f5
 gi_wp2
 go_ret
 refine ⟨rfl, ?_, bal (bal (Below.refl _ _) _) _, by simp⟩
 have h := heap_alloc_new (w.alloc (.cells #[.int .i64 c.tb, .int .i64 c.pg, .int .i64 c.l, .int .i64 c.e, .int .i64 c.fa, .int .i64 c.wh] 156)) (.cells #[.int .u64 (asW c.tb), .int .u64 (asW c.pg), .int .u64 (asW c.l), .int .u64 (asW c.e), .int .u64 (asW c.fa), .int .u64 (asW c.wh)] 398)
 rw [World.size_alloc] at h
 exact h
end Pcomp
namespace Pcomp
open Pbase Pfield Play Pmem Go.RowKit Go.Shelf M
attribute [local go_sem] Oper.semAt_some
theorem wpIn_scope_wide {n : Nat} {P : Program} {Q : Exit -> Act -> World -> Prop} {a : Act} {w : World} {c : Code} (h : c.wpIn Fence.wide n P (Exit.noGoto Q) a w) : (Code.scope c).wpIn Fence.wide n P Q a w := wpIn_wide.2 (wp_scope_straight (wpIn_wide.1 h))
def mx (k : Nat) : Int := mostL[k]?.getD 0
def hv (x : Cp) (pre : List (Fin 6)) (k : Nat) : Int := if (∃ j ∈ pre, j.1 = k) then wd x k else 0
theorem hv_snoc (x : Cp) (pre : List (Fin 6)) (i : Fin 6) (k : Nat) : hv x (pre ++ [i]) k = if k = i.1 then wd x k else hv x pre k := by
 unfold hv
 by_cases h : k = i.1
 · rw [if_pos h, if_pos ⟨i, by simp, h.symm⟩]
 · rw [if_neg h]
   have e : (∃ j ∈ pre ++ [i], j.1 = k) ↔ ∃ j ∈ pre, j.1 = k := by
    constructor
    · rintro ⟨j, hj, e⟩
      rcases List.mem_append.1 hj with hj | hj
      · exact ⟨j, hj, e⟩
      · simp at hj; subst hj; exact absurd e.symm h
    · rintro ⟨j, hj, e⟩
      exact ⟨j, List.mem_append_left _ hj, e⟩
   simp only [e]
theorem hv_all (x : Cp) {k : Nat} (hk : k < 6) : hv x (upto 6 6) k = wd x k := by
 unfold hv
 rw [if_pos ⟨⟨k, hk⟩, upto_mem hk, rfl⟩]
def sixH (x : Cp) (pre : List (Fin 6)) : Array Value := #[.int .u64 (hv x pre 0), .int .u64 (hv x pre 1), .int .u64 (hv x pre 2), .int .u64 (hv x pre 3), .int .u64 (hv x pre 4), .int .u64 (hv x pre 5)]
structure OkP (x : Cp) (pre : List (Fin 6)) : Prop where
 le : ∀ j ∈ pre, wd x j.1 <= mx j.1
 at5 : (∃ j ∈ pre, j.1 = 5) -> 0 < wd x 5 -> wd x 4 ≠ 0
def BadP (x : Cp) (pre : List (Fin 6)) (i : Fin 6) : Prop := mx i.1 < wd x i.1 \/ (i.1 = 5 /\ 0 < wd x 5 /\ hv x pre 4 = 0)
theorem okP_nil (x : Cp) : OkP x [] := ⟨by simp, by simp⟩
theorem OkP.snoc {x : Cp} {pre : List (Fin 6)} {i : Fin 6} (h : OkP x pre) (hb : ¬ BadP x pre i) (hw : 0 <= wd x 4) : OkP x (pre ++ [i]) := by
 unfold BadP at hb
 have hb1 : wd x i.1 <= mx i.1 := by
  apply Int.not_lt.1
  exact fun e => hb (.inl e)
 refine ⟨fun j hj => ?_, ?_⟩
 · rcases List.mem_append.1 hj with hj | hj
   · exact h.le j hj
   · simp at hj; subst hj; exact hb1
 · rintro ⟨j, hj, e⟩ h5
   rcases List.mem_append.1 hj with hj | hj
   · exact h.at5 ⟨j, hj, e⟩ h5
   · simp at hj
     subst hj
     intro e4
     refine hb (.inr ⟨e, h5, ?_⟩)
     unfold hv
     split
     · exact e4
     · rfl
theorem okP_all {x : Cp} (h : OkP x (upto 6 6)) (hx : ∀ k, k < 6 -> 0 <= wd x k) : coB x = true := by
 refine coB_yes ?_
 have l : ∀ k, k < 6 -> wd x k <= mx k := fun k hk => h.le ⟨k, hk⟩ (upto_mem hk)
 have a := h.at5 ⟨⟨5, by omega⟩, upto_mem (by omega), rfl⟩
 have l0 := l 0 (by omega); have l1 := l 1 (by omega); have l2 := l 2 (by omega); have l3 := l 3 (by omega); have l4 := l 4 (by omega); have l5 := l 5 (by omega)
 have x0 := hx 0 (by omega); have x1 := hx 1 (by omega); have x2 := hx 2 (by omega); have x3 := hx 3 (by omega); have x4 := hx 4 (by omega); have x5 := hx 5 (by omega)
 simp only [wd, Cp.ws, mx, mostL, List.getElem?_cons_zero, List.getElem?_cons_succ, Option.getD_some] at l0 l1 l2 l3 l4 l5 x0 x1 x2 x3 x4 x5 a
 unfold Co
 omega
theorem badP_any {x : Cp} {k : Nat} (hk : k < 6) (h : BadP x (upto 6 k) ⟨k, hk⟩) : coB x = false := by
 refine coB_no fun hc => ?_
 unfold Co at hc
 rcases h with h | ⟨h5, h6, h7⟩
 · match k, hk, h with
   | 0, _, h | 1, _, h | 2, _, h | 3, _, h | 4, _, h | 5, _, h =>
     simp only [wd, Cp.ws, mx, mostL, List.getElem?_cons_zero, List.getElem?_cons_succ, Option.getD_some] at h
     omega
 · simp only at h5
   subst h5
   have e : hv x (upto 6 5) 4 = wd x 4 := by
    unfold hv
    rw [if_pos ⟨⟨4, by omega⟩, by rw [upto_succ (show 4 < 6 by omega)]; simp, rfl⟩]
   rw [e] at h7
   simp only [wd, Cp.ws, List.getElem?_cons_zero, List.getElem?_cons_succ, Option.getD_some] at h6 h7
   omega
structure CoI (w : World) (B : Nat) (x : Cp) (pre : List (Fin 6)) (W : World) : Prop where
 ok : OkP x pre
 br : W.heap[B]? = some (.cells #[.int .i64 0, .int .i64 0, .int .i64 0, .int .i64 0, .int .i64 0, .int .i64 0] 156 (0, 0))
 bh : W.heap[B + 1]? = some (.cells (sixH x pre) 398 (0, 0))
 bc : Boxed W (B + 1 + 1) 3 (.int .i64 (pre.length : Nat))
 below : Below B w W
theorem row_own {A C : World} {row : Option Nat} {B : Nat} {cs : Array Value} {t : TypeId} {fr : Nat × Nat} (h : A.heap[B]? = some (.cells cs t fr)) (hg : A.grownBy C row) (hr : ∀ r, row = some r -> ∃ o : Obj, A.heap[r]? = some o /\ o.isCells = false) : C.heap[B]? = some (.cells cs t fr) := by
 refine (hg.block B (Array.getElem?_eq_some_iff.1 h).1 fun e => ?_).trans h
 obtain ⟨o, ho, hc⟩ := hr B e.symm
 rw [h] at ho
 cases ho
 cases hc
theorem coI_own (w : World) (B : Nat) (x : Cp) {B' : Nat} (hB : B <= B') (hw : B <= w.heap.size) : OwnFrom B' (CoI w B x) := fun pre A C row hs hg hr => by
 have hr' : ∀ r, row = some r -> ∃ o : Obj, A.heap[r]? = some o /\ o.isCells = false := fun r e => (hr r e).2
 exact ⟨hs.ok, row_own hs.br hg hr', row_own hs.bh hg hr', row_own hs.bc hg hr', ownFrom_below hw hB pre A C row hs.below hg hr⟩
structure CoX (w : World) (B : Nat) (x : Cp) (c : Code) (pre : List (Fin 6)) (W : World) : Prop where
 code : c = .exit 0
 bad : ∃ (q : List (Fin 6)) (i : Fin 6), pre = q ++ [i] /\ BadP x q i
 br : W.heap[B]? = some (.cells #[.int .i64 0, .int .i64 0, .int .i64 0, .int .i64 0, .int .i64 0, .int .i64 0] 156 (0, 0))
 bc : ∃ n : Nat, n < 6 /\ Boxed W (B + 1 + 1) 3 (.int .i64 (n : Nat))
 below : Below B w W
theorem coX_own (w : World) (B : Nat) (x : Cp) (c : Code) {B' : Nat} (hB : B <= B') (hw : B <= w.heap.size) : OwnFrom B' (CoX w B x c) := fun pre A C row hs hg hr => by
 have hr' : ∀ r, row = some r -> ∃ o : Obj, A.heap[r]? = some o /\ o.isCells = false := fun r e => (hr r e).2
 obtain ⟨n, hn, hb⟩ := hs.bc
 exact ⟨hs.code, hs.bad, row_own hs.br hg hr', ⟨n, hn, row_own hb hg hr'⟩, ownFrom_below hw hB pre A C row hs.below hg hr⟩
theorem CoX.no {w W : World} {B : Nat} {x : Cp} {c : Code} {k : Nat} (h : CoX w B x c (upto 6 k) W) (hk : k <= 6) : coB x = false := by
 obtain ⟨q, i, e, hb⟩ := h.bad
 have hl := congrArg List.length e
 rw [upto_length hk, List.length_append, List.length_singleton] at hl
 obtain ⟨m, rfl⟩ : ∃ m, k = m + 1 := ⟨q.length, by omega⟩
 rw [upto_succ (show m < 6 by omega)] at e
 obtain ⟨e1, e2⟩ := List.append_inj' e rfl
 simp at e2
 subst e1 e2
 exact badP_any (show m < 6 by omega) hb
def CoA (B gf : Nat) (lb : Array Value) (x : Cp) (i : Fin 6) (a' : Act) (_ : World) : Prop := a' = { tmps := #[.func (.func gf) #[] lb, undef, .pointer (some ⟨B, 0, none⟩), .bool false, .pointer (some ⟨B + 1, 0, none⟩), .pointer (some ⟨B + 1 + 1, 0, none⟩), .int .i64 (i.1 : Nat), .int .u64 (wd x i.1), .func (.func gf) #[] lb, .int .i64 (i.1 : Nat), .int .u64 (wd x i.1), undef, undef, undef, undef, undef, undef, undef, undef, undef, undef, undef, undef, undef, undef, undef, undef, undef, undef, undef, undef, undef, undef, undef, undef, undef, undef, undef, undef, undef, undef, undef, undef, undef, undef, undef, undef, undef, undef, undef, undef, undef, undef, undef, undef, undef], defers := [] }
theorem sixH_set (x : Cp) (pre : List (Fin 6)) (i : Fin 6) : (sixH x pre).setIfInBounds i.1 (.int .u64 (wd x i.1)) = sixH x (pre ++ [i]) := by
 have e := hv_snoc x pre i
 have hi := i.2
 unfold sixH
 simp only [e]
 generalize i.1 = k at hi ⊢
 rcases (show k = 0 \/ k = 1 \/ k = 2 \/ k = 3 \/ k = 4 \/ k = 5 by omega) with rfl | rfl | rfl | rfl | rfl | rfl <;> rfl
theorem sixH_at (x : Cp) (pre : List (Fin 6)) {k : Nat} (hk : k < 6) : (sixH x pre)[k]? = some (.int .u64 (hv x pre k)) := by
 rcases (show k = 0 \/ k = 1 \/ k = 2 \/ k = 3 \/ k = 4 \/ k = 5 by omega) with rfl | rfl | rfl | rfl | rfl | rfl <;> simp [sixH]
theorem tab_at {W : World} (h : TabC W) {k : Nat} (hk : k < 6) : W.cell? ⟨4, k, none⟩ = some (.int .u64 (mx k)) := by
 obtain ⟨t, fr, hr⟩ := h.row
 rw [cell_of_row _ _ _ _ _ _ hr]
 rcases (show k = 0 \/ k = 1 \/ k = 2 \/ k = 3 \/ k = 4 \/ k = 5 by omega) with rfl | rfl | rfl | rfl | rfl | rfl <;> rfl
theorem CoI.step {w W : World} {B : Nat} {x : Cp} {pre : List (Fin 6)} (h : CoI w B x pre W) (i : Fin 6) (hok : OkP x (pre ++ [i])) : CoI w B x (pre ++ [i]) ((W.setCell ⟨B + 1, i.1, none⟩ (.int .u64 (wd x i.1))).setCell ⟨B + 1 + 1, 0, none⟩ (.int .i64 ((pre.length : Nat) + 1))) := by
 refine ⟨hok, ?_, ?_, ?_, ?_⟩
 · rw [heap_setCell_other _ _ _ _ (by show B ≠ B + 1 + 1; omega), heap_setCell_other _ _ _ _ (by show B ≠ B + 1; omega)]
   exact h.br
 · rw [heap_setCell_other _ _ _ _ (by show B + 1 ≠ B + 1 + 1; omega), heap_setCell_same _ _ _ _ _ _ h.bh, sixH_set]
 · have e : Boxed (W.setCell ⟨B + 1, i.1, none⟩ (.int .u64 (wd x i.1))) (B + 1 + 1) 3 (.int .i64 (pre.length : Nat)) := (heap_setCell_other _ _ _ _ (by show B + 1 + 1 ≠ B + 1; omega)).trans h.bc
   have e2 := e.set (.int .i64 ((pre.length : Nat) + 1))
   rw [List.length_append, List.length_singleton]
   exact e2
 · exact (h.below.setCell (p := ⟨B + 1, i.1, none⟩) (by show B <= B + 1; omega) _).setCell (p := ⟨B + 1 + 1, 0, none⟩) (by show B <= B + 1 + 1; omega) _
theorem six_set {W : World} {B : Nat} {v0 v1 v2 v3 v4 v5 : Value} {t : TypeId} (h : W.heap[B]? = some (.cells #[v0, v1, v2, v3, v4, v5] t (0, 0))) (a0 a1 a2 a3 a4 a5 : Value) {W' : World}
 (hW : W' = (((((W.setCell ⟨B, 0, none⟩ a0).setCell ⟨B, 1, none⟩ a1).setCell ⟨B, 2, none⟩ a2).setCell ⟨B, 3, none⟩ a3).setCell ⟨B, 4, none⟩ a4).setCell ⟨B, 5, none⟩ a5) : W'.heap[B]? = some (.cells #[a0, a1, a2, a3, a4, a5] t (0, 0)) /\ Below B W W' /\ KeepsOthers W W' := by
 subst hW
 have h0 := heap_setCell_same _ _ 0 _ _ a0 h
 have h1 := heap_setCell_same _ _ 1 _ _ a1 h0
 have h2 := heap_setCell_same _ _ 2 _ _ a2 h1
 have h3 := heap_setCell_same _ _ 3 _ _ a3 h2
 have h4 := heap_setCell_same _ _ 4 _ _ a4 h3
 have h5 := heap_setCell_same _ _ 5 _ _ a5 h4
 refine ⟨h5, ?_, ?_⟩
 · exact ((((((Below.refl B W).setCell (p := ⟨B, 0, none⟩) (Nat.le_refl _) _).setCell (p := ⟨B, 1, none⟩) (Nat.le_refl _) _).setCell (p := ⟨B, 2, none⟩) (Nat.le_refl _) _).setCell (p := ⟨B, 3, none⟩) (Nat.le_refl _) _).setCell (p := ⟨B, 4, none⟩) (Nat.le_refl _) _).setCell (p := ⟨B, 5, none⟩) (Nat.le_refl _) _
 · exact ((((((KeepsOthers.setCell _ _ _).trans (KeepsOthers.setCell _ _ _)).trans (KeepsOthers.setCell _ _ _)).trans (KeepsOthers.setCell _ _ _)).trans (KeepsOthers.setCell _ _ _)).trans (KeepsOthers.setCell _ _ _))
theorem compOf_in (x : Cp) (hx : ∀ k, k < 6 -> 0 <= wd x k) (gf : Nat) (lb : Array Value) (K : World -> Prop) (w : World) (hT : TabC w)
 (hK : ∀ X Y, Below w.heap.size X Y -> K X -> K Y) (hen : ∀ args v, (callFunc gf args).run Tryz.prog v = .ok (.enter gf args) v)
 (hseq : SeqStopsK Fence.wide 8 Tryz.prog gf lb (encW x) (fun X Y => K X -> K Y) (fun ys => ys = upto 6 6) (fun pre => ∃ k, k <= 6 /\ pre = upto 6 k) 6 w) :
 Calls Tryz.prog 238 #[.func (.func gf) #[] lb] w fun e W' =>
  ((coB x = true /\ e = .returned (.tuple #[x.v, .bool true])) \/ (coB x = false /\ e = .returned (.tuple #[cp0.v, .bool false]))) /\ Below w.heap.size w W' := by
 refine (callsIn_wide (n := 9)).1 ?_
 refine callsIn_of_wp_marks Tryz.func238 rfl trivial ?_ rfl
 simp only [Tryz.ntmps238, List.size_toArray, List.length_cons, List.length_nil, Nat.reduceAdd, Nat.reduceSub, Array.replicate_succ, Array.replicate_zero, List.push_toArray, List.append_toArray, List.nil_append, List.cons_append]
 gi_wp2
 refine wpIn_scope_wide ?_
 gi_wp2
 refine wpIn_label ?_
 gi_wp2
 have b1 : Boxed (((w.alloc (.cells #[.int .i64 0, .int .i64 0, .int .i64 0, .int .i64 0, .int .i64 0, .int .i64 0] 156)).alloc (.cells #[.int .u64 0, .int .u64 0, .int .u64 0, .int .u64 0, .int .u64 0, .int .u64 0] 398)).alloc (.cells #[.int .i64 0] 3)) (w.heap.size + 1 + 1) 3 (.int .i64 0) := by
  have := Boxed.new ((w.alloc (.cells #[.int .i64 0, .int .i64 0, .int .i64 0, .int .i64 0, .int .i64 0, .int .i64 0] 156)).alloc (.cells #[.int .u64 0, .int .u64 0, .int .u64 0, .int .u64 0, .int .u64 0, .int .u64 0] 398)) 3 (.int .i64 0)
  simp only [World.size_alloc] at this
  exact this
 have b2 : (((w.alloc (.cells #[.int .i64 0, .int .i64 0, .int .i64 0, .int .i64 0, .int .i64 0, .int .i64 0] 156)).alloc (.cells #[.int .u64 0, .int .u64 0, .int .u64 0, .int .u64 0, .int .u64 0, .int .u64 0] 398)).alloc (.cells #[.int .i64 0] 3)).heap[w.heap.size + 1]? = some (.cells #[.int .u64 0, .int .u64 0, .int .u64 0, .int .u64 0, .int .u64 0, .int .u64 0] 398 (0, 0)) := by
  have := heap_alloc2_old (w.alloc (.cells #[.int .i64 0, .int .i64 0, .int .i64 0, .int .i64 0, .int .i64 0, .int .i64 0] 156)) (.cells #[.int .u64 0, .int .u64 0, .int .u64 0, .int .u64 0, .int .u64 0, .int .u64 0] 398) (.cells #[.int .i64 0] 3)
  rw [World.size_alloc] at this
  exact this
 have b3 : (((w.alloc (.cells #[.int .i64 0, .int .i64 0, .int .i64 0, .int .i64 0, .int .i64 0, .int .i64 0] 156)).alloc (.cells #[.int .u64 0, .int .u64 0, .int .u64 0, .int .u64 0, .int .u64 0, .int .u64 0] 398)).alloc (.cells #[.int .i64 0] 3)).heap[w.heap.size]? = some (.cells #[.int .i64 0, .int .i64 0, .int .i64 0, .int .i64 0, .int .i64 0, .int .i64 0] 156 (0, 0)) := by
  rw [Below.heap_alloc _ _ _ (by simp; omega), Below.heap_alloc _ _ _ (by simp)]
  exact heap_alloc_new w _
 have hI0 : CoI w w.heap.size x [] (((w.alloc (.cells #[.int .i64 0, .int .i64 0, .int .i64 0, .int .i64 0, .int .i64 0, .int .i64 0] 156)).alloc (.cells #[.int .u64 0, .int .u64 0, .int .u64 0, .int .u64 0, .int .u64 0, .int .u64 0] 398)).alloc (.cells #[.int .i64 0] 3)) :=
  ⟨okP_nil x, b3, b2, b1, bal (bal (bal (Below.refl _ _) _) _) _⟩
 have hs0 : (((w.alloc (.cells #[.int .i64 0, .int .i64 0, .int .i64 0, .int .i64 0, .int .i64 0, .int .i64 0] 156)).alloc (.cells #[.int .u64 0, .int .u64 0, .int .u64 0, .int .u64 0, .int .u64 0, .int .u64 0] 398)).alloc (.cells #[.int .i64 0] 3)).heap.size = w.heap.size + 3 := by simp
 clear b1 b2 b3
 generalize ((w.alloc _).alloc _).alloc _ = V at hI0 hs0 ⊢
 refine wpIn_rangeFunc_ownH rfl (by omega) (gf := gf) (lb := lb) rfl trivial hen hseq (fun h k => fun x => k (h x)) (fun W l o o' hl hWl ho hw hx => hK _ _ (belowK_b (w := V) (by omega) W l o o' hl hWl ho hw) hx) hI0.below (fun _ => rfl)
  (CoI w w.heap.size x) (CoX w w.heap.size x)
  (coI_own w w.heap.size x (by omega) (Nat.le_refl _)) (fun c => coX_own w w.heap.size x c (by omega) (Nat.le_refl _)) hI0
  (CoA w.heap.size gf lb x) (fun i a' => ownFrom_pure _ (fun _ : Unit => _)) ?assign ?body ?done ?stop
 case assign =>
  intro l pre i W K' hI hK'
  unfold encW
  gi_wp2
  exact hK' _ _ ((KeepsOthers.refl W).from _) (fun h => h) hI rfl
 case body =>
  rintro l pre i a' W hl _ hI rfl hlt
  have q1 := tab_at (hT.on hI.below) i.2
  have q2 : W.cell? ⟨w.heap.size + 1, 4, none⟩ = some (.int .u64 (hv x pre 4)) := (cell_of_row _ _ _ _ _ _ hI.bh).trans (sixH_at x pre (by omega))
  have q3 : W.cell? ⟨w.heap.size + 1, i.1, none⟩ = some (.int .u64 (hv x pre i.1)) := (cell_of_row _ _ _ _ _ _ hI.bh).trans (sixH_at x pre i.2)
  have f3 : W.frozen? ⟨w.heap.size + 1, i.1, none⟩ = false := frozen_of_row _ _ _ _ _ hI.bh
  have q4 := hI.bc.cell
  have f4 := hI.bc.frozen
  have hi6 : ((i.1 : Nat) : Int) < 6 := by have := i.2; omega
  have HI : Hid (CoI w w.heap.size x pre W) := hI
  have hwl : wrap64 (((pre.length : Nat) : Int) + 1) = ((pre.length : Nat) : Int) + 1 := by unfold wrap64; omega
  have h4 := hx 4 (by omega)
  have hne : ¬ w.heap.size + 1 = w.heap.size + 1 + 1 := by omega
  by_cases hA : mx i.1 < wd x i.1
  · have HA : Hid (mx i.1 < wd x i.1) := hA
    clear hI
    gi_wp2
    exact ⟨(KeepsOthers.refl W).from _, rfl, ⟨pre, i, rfl, .inl HA.out⟩, HI.out.br, ⟨pre.length, hlt, HI.out.bc⟩, HI.out.below⟩
  have HA : Hid (¬ mx i.1 < wd x i.1) := hA
  clear hI
  by_cases h5 : i.1 = 5
  · have e5 : (((i.1 : Nat) : Int) == 5) = true := by simp [h5]
    by_cases hw : 0 < wd x i.1
    · by_cases hz : hv x pre 4 = 0
      · have ez : (hv x pre 4 == 0) = true := by simp [hz]
        have HZ : Hid (i.1 = 5 /\ 0 < wd x 5 /\ hv x pre 4 = 0) := ⟨h5, by rw [h5] at hw; exact hw, hz⟩
        clear h5 hz
        gi_wp2
        exact ⟨(KeepsOthers.refl W).from _, rfl, ⟨pre, i, rfl, .inr HZ.out⟩, HI.out.br, ⟨pre.length, hlt, HI.out.bc⟩, HI.out.below⟩
      · have ez : (hv x pre 4 == 0) = false := by simp [hz]
        have HB : Hid (¬ BadP x pre i) := fun h => h.elim HA.out fun h => hz h.2.2
        clear h5 hz
        gi_wp2
        exact ⟨((KeepsOthers.setCell _ _ _).trans (KeepsOthers.setCell _ _ _)).from _, fun h => hK _ _ (((Below.refl _ W).setCell (p := ⟨w.heap.size + 1, i.1, none⟩) (by show w.heap.size <= w.heap.size + 1; omega) _).setCell (p := ⟨w.heap.size + 1 + 1, 0, none⟩) (by show w.heap.size <= w.heap.size + 1 + 1; omega) _) h, HI.out.step i (HI.out.ok.snoc HB.out h4)⟩
    · have HB : Hid (¬ BadP x pre i) := fun h => h.elim HA.out fun h => hw (by rw [h5]; exact h.2.1)
      clear h5
      gi_wp2
      exact ⟨((KeepsOthers.setCell _ _ _).trans (KeepsOthers.setCell _ _ _)).from _, fun h => hK _ _ (((Below.refl _ W).setCell (p := ⟨w.heap.size + 1, i.1, none⟩) (by show w.heap.size <= w.heap.size + 1; omega) _).setCell (p := ⟨w.heap.size + 1 + 1, 0, none⟩) (by show w.heap.size <= w.heap.size + 1 + 1; omega) _) h, HI.out.step i (HI.out.ok.snoc HB.out h4)⟩
  · have e5 : (((i.1 : Nat) : Int) == 5) = false := by simp; omega
    have HB : Hid (¬ BadP x pre i) := fun h => h.elim HA.out fun h => h5 h.1
    clear h5
    gi_wp2
    exact ⟨((KeepsOthers.setCell _ _ _).trans (KeepsOthers.setCell _ _ _)).from _, fun h => hK _ _ (((Below.refl _ W).setCell (p := ⟨w.heap.size + 1, i.1, none⟩) (by show w.heap.size <= w.heap.size + 1; omega) _).setCell (p := ⟨w.heap.size + 1 + 1, 0, none⟩) (by show w.heap.size <= w.heap.size + 1 + 1; omega) _) h, HI.out.step i (HI.out.ok.snoc HB.out h4)⟩
 case done =>
  rintro D ys W hD rfl hI hKD
  have hco := okP_all hI.ok hx
  have hcc := (coB_iff x).1 hco
  have g : ∀ k, k < 6 -> W.cell? ⟨w.heap.size + 1, k, none⟩ = some (.int .u64 (wd x k)) := fun k hk => by rw [cell_of_row _ _ _ _ _ _ hI.bh, sixH_at x _ hk, hv_all x hk]
  have g0 := g 0 (by omega)
  have g1 := g 1 (by omega)
  have g2 := g 2 (by omega)
  have g3 := g 3 (by omega)
  have g4 := g 4 (by omega)
  have g5 := g 5 (by omega)
  simp only [wd, Cp.ws, List.getElem?_cons_zero, List.getElem?_cons_succ, Option.getD_some] at g0 g1 g2 g3 g4 g5
  have w0 : IntKind.i64.wrap x.tb = x.tb := wrapi_small (by unfold Co at hcc; omega) (by unfold Co at hcc; omega)
  have w1 : IntKind.i64.wrap x.pg = x.pg := wrapi_small (by unfold Co at hcc; omega) (by unfold Co at hcc; omega)
  have w2 : IntKind.i64.wrap x.l = x.l := wrapi_small (by unfold Co at hcc; omega) (by unfold Co at hcc; omega)
  have w3 : IntKind.i64.wrap x.e = x.e := wrapi_small (by unfold Co at hcc; omega) (by unfold Co at hcc; omega)
  have w4 : IntKind.i64.wrap x.fa = x.fa := wrapi_small (by unfold Co at hcc; omega) (by unfold Co at hcc; omega)
  have w5 : IntKind.i64.wrap x.wh = x.wh := wrapi_small (by unfold Co at hcc; omega) (by unfold Co at hcc; omega)
  have kc := hI.bc.cell
  rw [upto_length (Nat.le_refl _)] at kc
  have r0 := fun j => cell_of_row W w.heap.size j _ _ _ hI.br
  have fz := fun j => frozen_of_row W w.heap.size j _ _ hI.br
  have HI : Hid (CoI w w.heap.size x (upto 6 6) W) := hI
  have HC : Hid (coB x = true) := hco
  clear hI hco hcc g hx hseq hK hen
  gi_wp2
  generalize hW' : (((((W.setCell ⟨w.heap.size, 0, none⟩ _).setCell ⟨w.heap.size, 1, none⟩ _).setCell ⟨w.heap.size, 2, none⟩ _).setCell ⟨w.heap.size, 3, none⟩ _).setCell ⟨w.heap.size, 4, none⟩ _).setCell ⟨w.heap.size, 5, none⟩ _ = W'
  obtain ⟨s1, s2, s3⟩ := six_set HI.out.br _ _ _ _ _ _ hW'.symm
  have hK2 := s3.same D _ hKD rfl
  refine ⟨by simp, .inl ⟨_, _, rfl, run_takeDeferred hK2, ?_⟩⟩
  have s4 : (W'.putObj D (.deferred none)).heap[w.heap.size]? = some (.cells #[.int .i64 x.tb, .int .i64 x.pg, .int .i64 x.l, .int .i64 x.e, .int .i64 x.fa, .int .i64 x.wh] 156 (0, 0)) := (World.putObj_heap_other (by omega)).trans s1
  have c := fun j => cell_of_row _ w.heap.size j _ _ _ s4
  have c0 := c 0
  have c1 := c 1
  have c2 := c 2
  have c3 := c 3
  have c4 := c 4
  have c5 := c 5
  simp only [List.getElem?_toArray, List.getElem?_cons_zero, List.getElem?_cons_succ] at c0 c1 c2 c3 c4 c5
  refine ⟨.tuple #[.agg #[.int .i64 x.tb, .int .i64 x.pg, .int .i64 x.l, .int .i64 x.e, .int .i64 x.fa, .int .i64 x.wh], .bool true], by simp [results, Tryz.f238, go_sem, c0, c1, c2, c3, c4, c5], .inl ⟨HC.out, rfl⟩, ?_⟩
  exact (HI.out.below.trans s2).trans (belowK_b (w := w) (Nat.le_refl _) _ D _ _ (by omega) hK2 rfl rfl)
 case stop =>
  rintro D c pre W hD ⟨k, hk, rfl⟩ hX hKD
  have hno := hX.no hk
  obtain ⟨n, hn, hb⟩ := hX.bc
  have kc := hb.cell
  have hn6 : (n : Int) < 6 := by omega
  have hX' := hX
  obtain ⟨rfl, _, hbr, _, hB⟩ := hX'
  have r0 := fun j => cell_of_row W w.heap.size j _ _ _ hbr
  have fz := fun j => frozen_of_row W w.heap.size j _ _ hbr
  clear hX hx hseq hK hen hb
  gi_wp2
  generalize hW' : (((((W.setCell ⟨w.heap.size, 0, none⟩ _).setCell ⟨w.heap.size, 1, none⟩ _).setCell ⟨w.heap.size, 2, none⟩ _).setCell ⟨w.heap.size, 3, none⟩ _).setCell ⟨w.heap.size, 4, none⟩ _).setCell ⟨w.heap.size, 5, none⟩ _ = W'
  obtain ⟨s1, s2, s3⟩ := six_set hbr _ _ _ _ _ _ hW'.symm
  have hK2 := s3.same D _ hKD rfl
  refine ⟨by simp, .inl ⟨_, _, rfl, run_takeDeferred hK2, ?_⟩⟩
  have s4 : (W'.putObj D (.deferred none)).heap[w.heap.size]? = some (.cells #[.int .i64 0, .int .i64 0, .int .i64 0, .int .i64 0, .int .i64 0, .int .i64 0] 156 (0, 0)) := (World.putObj_heap_other (by omega)).trans s1
  have c := fun j => cell_of_row _ w.heap.size j _ _ _ s4
  have c0 := c 0
  have c1 := c 1
  have c2 := c 2
  have c3 := c 3
  have c4 := c 4
  have c5 := c 5
  simp only [List.getElem?_toArray, List.getElem?_cons_zero, List.getElem?_cons_succ] at c0 c1 c2 c3 c4 c5
  refine ⟨.tuple #[.agg #[.int .i64 0, .int .i64 0, .int .i64 0, .int .i64 0, .int .i64 0, .int .i64 0], .bool false], by simp [results, Tryz.f238, go_sem, c0, c1, c2, c3, c4, c5], .inr ⟨hno, rfl⟩, ?_⟩
  exact (hB.trans s2).trans (belowK_b (w := w) (Nat.le_refl _) _ D _ _ (by omega) hK2 rfl rfl)
end Pcomp
namespace Pcomp
open Pbase Pfield Play Pmem Go.RowKit Go.Shelf M
attribute [local go_sem] Oper.semAt_some
def stP (N : Nat) (M : Nat -> Nat -> Int) (f : Int) (x : Cp) (pre : List (Fin 6)) : Nat -> Nat -> Int := pre.foldl (fun M i => stW N M f (4 + (i.1 : Nat)) (wd x i.1)) M
theorem stP_snoc (N : Nat) (M : Nat -> Nat -> Int) (f : Int) (x : Cp) (pre : List (Fin 6)) (i : Fin 6) : stP N M f x (pre ++ [i]) = stW N (stP N M f x pre) f (4 + (i.1 : Nat)) (wd x i.1) := by simp [stP]
theorem stP_upto (N : Nat) (M : Nat -> Nat -> Int) (f : Int) (x : Cp) : ∀ k : Nat, k <= 6 -> stP N M f x (upto 6 k) = layF N M f (x.ws.take k)
 | 0, _ => by rw [List.take_zero, lay_nil]; rfl
 | k + 1, h => by
   have hk : k < x.ws.length := by rw [ws_len]; omega
   have e := lay_step (N := N) (M := M) (f := f) (l := x.ws.take k) (by rw [List.length_take]; omega) (wd x k)
   rw [List.length_take, Nat.min_eq_left (by omega)] at e
   rw [upto_succ (show k < 6 by omega), stP_snoc, stP_upto N M f x k (by omega), e]
   congr 1
   unfold wd
   rw [List.take_add_one, List.getElem?_eq_getElem hk]
   rfl
theorem keeps_but {b : Nat} {W W' : World} (h : But b W W') {cs : Array Value} {t : TypeId} {fr : Nat × Nat} (hb : W.heap[b]? = some (.cells cs t fr)) : KeepsOthers W W' := ⟨h.size, fun k o hk ho => by
 by_cases e : k = b
 · subst e
   rw [hb] at hk
   cases hk
   cases ho
 · exact (h.block k (Array.getElem?_eq_some_iff.1 hk).1 e).trans hk⟩
structure WrI (w : World) (B p b N : Nat) (M : Nat -> Nat -> Int) (f : Int) (x : Cp) (pre : List (Fin 6)) (W : World) : Prop where
 bm : Boxed W B 22 (.pointer (some ⟨p, 0, none⟩))
 bf : Boxed W (B + 1) 3 (.int .i64 f)
 be : Boxed W (B + 1 + 1 + 1) 32 (.int .i64 0)
 mem : MemIs W p b N (stP N M f x pre)
 but : But b w W
theorem but_own {b : Nat} {w A C : World} {row : Option Nat} (h : But b w A) (hg : A.grownBy C row) (hr : ∀ r, row = some r -> w.heap.size <= r) : But b w C :=
 ⟨hg.os.trans h.os, hg.tape.trans h.tape, hg.output.trans h.output, Nat.le_trans h.size hg.size, fun i hi hn => (hg.block i (Nat.lt_of_lt_of_le hi h.size) (fun e => by have := hr i e.symm; omega)).trans (h.block i hi hn)⟩
theorem wrI_own (w : World) (B p b N : Nat) (M : Nat -> Nat -> Int) (f : Int) (x : Cp) {B' : Nat} (hw : w.heap.size <= B') : OwnFrom B' (WrI w B p b N M f x) := fun pre A C row hs hg hr => by
 have hr' : ∀ r, row = some r -> ∃ o : Obj, A.heap[r]? = some o /\ o.isCells = false := fun r e => (hr r e).2
 exact ⟨row_own hs.bm hg hr', row_own hs.bf hg hr', row_own hs.be hg hr', hs.mem.on ((row_own hs.mem.head hg hr').trans hs.mem.head.symm) ((row_own hs.mem.row hg hr').trans hs.mem.row.symm), but_own hs.but hg (fun r e => Nat.le_trans hw (hr r e).1)⟩
def WrA (B p : Nat) (f : Int) (c x : Cp) (i : Fin 6) (a' : Act) (_ : World) : Prop := a' = { tmps := #[.pointer (some ⟨p, 0, none⟩), .int .i64 f, .agg #[.int .i64 c.tb, .int .i64 c.pg, .int .i64 c.l, .int .i64 c.e, .int .i64 c.fa, .int .i64 c.wh], .pointer (some ⟨B, 0, none⟩), .pointer (some ⟨B + 1, 0, none⟩), .pointer (some ⟨B + 1 + 1, 0, none⟩), .pointer (some ⟨B + 1 + 1 + 1, 0, none⟩), .int .i64 (i.1 : Nat), .int .u64 (wd x i.1), undef, .agg #[.int .i64 c.tb, .int .i64 c.pg, .int .i64 c.l, .int .i64 c.e, .int .i64 c.fa, .int .i64 c.wh], .func (.func 275) #[] #[.pointer (some ⟨B + 1 + 1 + 1 + 1 + 1, 0, none⟩)], .int .i64 (i.1 : Nat), .int .u64 (wd x i.1), undef, undef, undef, undef, undef, undef, undef, undef, undef], defers := [] }
theorem WrI.step {w W : World} {B p b N : Nat} {M : Nat -> Nat -> Int} {f : Int} {x : Cp} {pre : List (Fin 6)} (h : WrI w B p b N M f x pre W) (i : Fin 6) (hB : b < B) {W' : World} (hW : W' = W.setRow b (cellsM N (stW N (stP N M f x pre) f (4 + (i.1 : Nat)) (wd x i.1)))) : WrI w B p b N M f x (pre ++ [i]) W' /\ But b W W' := by
 have hb : But b W W' := by rw [hW]; exact (But.refl b W).setRow _
 refine ⟨⟨(hb.block _ h.bm.lt (by omega)).trans h.bm, (hb.block _ h.bf.lt (by omega)).trans h.bf, (hb.block _ h.be.lt (by omega)).trans h.be, ?_, h.but.trans hb⟩, hb⟩
 rw [stP_snoc, hW]
 exact h.mem.set _
theorem wr_new {w w1 : World} {p b N : Nat} {M : Nat -> Nat -> Int} (f : Int) (c x : Cp) (h : MemIs w p b N M) (hB : Below ((((w.alloc (.cells #[.pointer (some ⟨p, 0, none⟩)] 22)).alloc (.cells #[.int .i64 f] 3)).alloc (.cells #[.int .i64 c.tb, .int .i64 c.pg, .int .i64 c.l, .int .i64 c.e, .int .i64 c.fa, .int .i64 c.wh] 156)).alloc (.cells #[.int .i64 0] 32)).heap.size ((((w.alloc (.cells #[.pointer (some ⟨p, 0, none⟩)] 22)).alloc (.cells #[.int .i64 f] 3)).alloc (.cells #[.int .i64 c.tb, .int .i64 c.pg, .int .i64 c.l, .int .i64 c.e, .int .i64 c.fa, .int .i64 c.wh] 156)).alloc (.cells #[.int .i64 0] 32)) w1) : WrI w w.heap.size p b N M f x [] w1 := by
 have b0 := Boxed.new w 22 (.pointer (some ⟨p, 0, none⟩))
 have b1 := Boxed.new (w.alloc (.cells #[.pointer (some ⟨p, 0, none⟩)] 22)) 3 (.int .i64 f)
 have b3 := Boxed.new (((w.alloc (.cells #[.pointer (some ⟨p, 0, none⟩)] 22)).alloc (.cells #[.int .i64 f] 3)).alloc (.cells #[.int .i64 c.tb, .int .i64 c.pg, .int .i64 c.l, .int .i64 c.e, .int .i64 c.fa, .int .i64 c.wh] 156)) 32 (.int .i64 0)
 simp only [World.size_alloc] at b1 b3
 have hw : Below w.heap.size w ((((w.alloc (.cells #[.pointer (some ⟨p, 0, none⟩)] 22)).alloc (.cells #[.int .i64 f] 3)).alloc (.cells #[.int .i64 c.tb, .int .i64 c.pg, .int .i64 c.l, .int .i64 c.e, .int .i64 c.fa, .int .i64 c.wh] 156)).alloc (.cells #[.int .i64 0] 32)) := bal (bal (bal (bal (Below.refl _ _) _) _) _) _
 exact ⟨(((b0.alloc _).alloc _).alloc _).kept (grown_none hB) (by simp), ((b1.alloc _).alloc _).kept (grown_none hB) (by simp), b3.kept (grown_none hB) (by simp), (h.grown hw).grown hB, But.of_below b (hw.trans (hB.mono hw.size))⟩
theorem write_any (p b N : Nat) (f : Int) (c : Cp) (M : Nat -> Nat -> Int) (w : World) (hM : Mx w p b N M) (hc : Co c) (hf : okF N f = true) :
 Calls Tryz.prog 185 #[.pointer (some ⟨p, 0, none⟩), .int .i64 f, .agg #[.int .i64 c.tb, .int .i64 c.pg, .int .i64 c.l, .int .i64 c.e, .int .i64 c.fa, .int .i64 c.wh]] w fun e W' => e = .returned (.int .i64 0) /\ Mx W' p b N (layF N M f c.ws) /\ But b w W' := by
 have n1 := hM.n1
 have n64 := hM.n64
 have hx := w_co hc
 have hfi := hc.fi
 have HM := rhide hM
 have HC : Hid (Co c) := hc
 have hb := hM.mem.lt.2
 have hp := hM.mem.lt.1
 clear hM hc
 refine (callsIn_wide (n := 9)).1 ?_
 refine callsIn_of_wp_marks Tryz.func185 rfl trivial ?_ rfl
 simp only [Tryz.ntmps185, List.size_toArray, List.length_cons, List.length_nil, Nat.reduceAdd, Nat.reduceSub, Array.replicate_succ, Array.replicate_zero, List.push_toArray, List.append_toArray, List.nil_append, List.cons_append]
 gi_wp2_with (first | (refine ⟨trivial, ?_⟩; gi_at_call 239; refine (of_in _ c hfi _).mono ?_; rintro e w1 ⟨rfl, hr1, hb1, hs1⟩) | fail)
 have hI0 := wr_new f c c HM.out.mem hb1
 rw [hx] at hr1
 simp only [World.size_alloc] at hr1 hs1
 clear hb1
 refine wpIn_rangeFunc_ownH rfl (by omega) (gf := 275) (lb := #[.pointer (some ⟨w.heap.size + 1 + 1 + 1 + 1 + 1, 0, none⟩)]) rfl trivial (enters_of Tryz.func275 (by kernel_rfl) rfl)
  (of_stops 8 (by omega) (w.heap.size + 1 + 1 + 1 + 1 + 1) c w1 hr1) (fun h k => fun x => k (h x)) (fun W l o o' hl hWl ho hw hx => hx.on (belowK_b (w := w1) (Nat.le_refl _) W l o o' hl hWl ho hw) (by omega)) (Below.refl _ _) (fun _ => rfl)
  (WrI w w.heap.size p b N M f c) (fun _ _ _ => False)
  (wrI_own w w.heap.size p b N M f c (by omega)) (fun _ _ _ _ _ h _ _ => h) hI0
  (WrA w.heap.size p f c c) (fun i a' => ownFrom_pure _ (fun _ : Unit => _)) ?assign ?body ?done ?stop
 case assign =>
  intro l pre i W K' hI hK'
  unfold encW
  gi_wp2
  exact hK' _ _ ((KeepsOthers.refl W).from _) (fun h => h) hI rfl
 case body =>
  rintro l pre i a' W hl _ hI rfl hlt
  have k0 := hI.bm.cell
  have k1 := hI.bf.cell
  have hi := i.2
  have hw4 : wrap64 (4 + ((i.1 : Nat) : Int)) = 4 + ((i.1 : Nat) : Int) := by unfold wrap64; omega
  have he : errW N f (4 + ((i.1 : Nat) : Int)) = 0 := by unfold errW okW; rw [hf]; simp; omega
  have HS : Hid (Calls Tryz.prog 57 #[.pointer (some ⟨p, 0, none⟩), .int .i64 f, .int .i64 (4 + ((i.1 : Nat) : Int)), .int .u64 (wd c i.1)] W fun e w' => e = .returned (.int .i64 0) /\ w' = W.setRow b (cellsM N (stW N (stP N M f c pre) f (4 + ((i.1 : Nat) : Int)) (wd c i.1)))) := by
   have := store_any p b N f (4 + ((i.1 : Nat) : Int)) (wd c i.1) (stP N M f c pre) W n1 n64 hI.mem
   rwa [he] at this
  have HI := rhide hI
  clear hI he
  gi_wp2_with (first | (refine ⟨trivial, ?_⟩; gi_at_call 57; refine (callsIn_wide.2 HS.out).mono ?_; rintro e W1 ⟨rfl, hW1⟩; have H1 := rhide (HI.out.step i hb hW1); clear hW1 HS) | fail)
  exact ⟨(keeps_but H1.out.2 HI.out.mem.row).from _, fun h => (H1.out.2.block _ h.lt (by omega)).trans h, H1.out.1⟩
 case done =>
  rintro D ys W hD rfl hI hKD
  have ke := hI.be.cell
  have fe := hI.be.frozen
  have hm := hI.mem
  rw [stP_upto N M f c 6 (Nat.le_refl _), show c.ws.take 6 = c.ws from rfl] at hm
  have Hm := rhide hm
  have HI := rhide hI
  clear hI hm
  gi_wp2
  have hK2 := (KeepsOthers.setCell W ⟨w.heap.size + 1 + 1 + 1, 0, none⟩ (.int .i64 0)).same D _ hKD rfl
  refine ⟨by simp, .inl ⟨_, _, rfl, run_takeDeferred hK2, ?_⟩⟩
  have e2 := cell_kept (HI.out.be.set (.int .i64 0)).cell (grownBy_putObj' _ D (.deferred none)) (fun r e => by cases e; exact ⟨_, hK2, rfl⟩)
  have bl := ((Below.refl w.heap.size W).setCell (p := ⟨w.heap.size + 1 + 1 + 1, 0, none⟩) (by show w.heap.size <= w.heap.size + 1 + 1 + 1; omega) (.int .i64 0)).trans (belowK_b (w := w) (Nat.le_refl _) _ D _ (.deferred none) (by omega) hK2 rfl rfl)
  have bb := but_on HI.out.but bl
  exact ⟨.int .i64 0, by simp [results, Tryz.f185, go_sem, e2], rfl, HM.out.but (Hm.out.below bl hp hb) (fit_lay HM.out.fit N f HC.out.fit) bb, bb⟩
 case stop =>
  rintro D c' pre W hD _ hX hKD
  exact hX.elim
end Pcomp
namespace Pcomp
open Pbase Pfield Play Pmem Go.RowKit Go.Shelf M
attribute [local go_sem] Oper.semAt_some
def coX (x : Cp) : Cp := if coB x = true then x else cp0
theorem coX_no {x : Cp} (h : coB x = false) : coX x = cp0 := by unfold coX; rw [h]; rfl
theorem coX_yes {x : Cp} (h : coB x = true) : coX x = x := by unfold coX; rw [if_pos h]
theorem comp_any (x : Cp) (hx : ∀ k, k < 6 -> 0 <= wd x k) (gf : Nat) (lb : Array Value) (K : World -> Prop) (w : World) (hT : TabC w)
 (hK : ∀ X Y, Below w.heap.size X Y -> K X -> K Y) (hen : ∀ args v, (callFunc gf args).run Tryz.prog v = .ok (.enter gf args) v)
 (hseq : SeqStopsK Fence.wide 8 Tryz.prog gf lb (encW x) (fun X Y => K X -> K Y) (fun ys => ys = upto 6 6) (fun pre => ∃ k, k <= 6 /\ pre = upto 6 k) 6 w) :
 Calls Tryz.prog 238 #[.func (.func gf) #[] lb] w fun e W' => e = .returned (.tuple #[.agg #[.int .i64 (coX x).tb, .int .i64 (coX x).pg, .int .i64 (coX x).l, .int .i64 (coX x).e, .int .i64 (coX x).fa, .int .i64 (coX x).wh], .bool (coB x)]) /\ Below w.heap.size w W' := by
 refine (compOf_in x hx gf lb K w hT hK hen hseq).mono ?_
 rintro e W' ⟨⟨h1, rfl⟩ | ⟨h1, rfl⟩, hB⟩
 · rw [coX_yes h1, h1]
   exact ⟨rfl, hB⟩
 · rw [coX_no h1, h1]
   exact ⟨rfl, hB⟩
theorem wd_w {c : Cp} (h : Fi c) : ∀ k, k < 6 -> 0 <= wd c.w k := by
 obtain ⟨f0, f1, f2, f3, f4, f5⟩ := h
 intro k hk
 rcases (show k = 0 \/ k = 1 \/ k = 2 \/ k = 3 \/ k = 4 \/ k = 5 by omega) with rfl | rfl | rfl | rfl | rfl | rfl
 · exact (asW_fit f0).1
 · exact (asW_fit f1).1
 · exact (asW_fit f2).1
 · exact (asW_fit f3).1
 · exact (asW_fit f4).1
 · exact (asW_fit f5).1
theorem check_any (c : Cp) (hc : Fi c) (w : World) (hT : Tc w) : Calls Tryz.prog 184 #[.agg #[.int .i64 c.tb, .int .i64 c.pg, .int .i64 c.l, .int .i64 c.e, .int .i64 c.fa, .int .i64 c.wh]] w fun e w' => e = .returned (.int .i64 (ckE c)) /\ Below w.heap.size w w' := by
 have HO : Hid (∀ wc, Calls Tryz.prog 239 #[.agg #[.int .i64 c.tb, .int .i64 c.pg, .int .i64 c.l, .int .i64 c.e, .int .i64 c.fa, .int .i64 c.wh]] wc fun e w' => e = .returned (.func (.func 275) #[] #[.pointer (some ⟨wc.heap.size + 1, 0, none⟩)]) /\ RowW w' (wc.heap.size + 1) c.w /\ Below wc.heap.size wc w' /\ w'.heap.size = wc.heap.size + 2) := fun wc => (callsIn_wide (n := 9)).1 (of_in 9 c hc wc)
 have HC : Hid (∀ wc A, TabC wc -> RowW wc A c.w -> Calls Tryz.prog 238 #[.func (.func 275) #[] #[.pointer (some ⟨A, 0, none⟩)]] wc fun e W' => e = .returned (.tuple #[.agg #[.int .i64 (coX c.w).tb, .int .i64 (coX c.w).pg, .int .i64 (coX c.w).l, .int .i64 (coX c.w).e, .int .i64 (coX c.w).fa, .int .i64 (coX c.w).wh], .bool (coB c)]) /\ Below wc.heap.size wc W') := fun wc A hT hR => by
  have := comp_any c.w (wd_w hc) 275 #[.pointer (some ⟨A, 0, none⟩)] (fun W => RowW W A c.w) wc hT (fun X Y hB h => h.on hB hR.lt) (enters_of Tryz.func275 (by kernel_rfl) rfl) (of_stops 8 (by omega) A c.w wc hR)
  rwa [coB_w hc] at this
 have HT := rhide hT
 clear hT hc
 generalize coX c.w = y at HC
 have e : ckE c = if coB c = true then 0 else 1 := rfl
 rw [e]
 generalize coB c = R at HC
 have Hw : Hid (Below w.heap.size w (w.alloc (.cells #[.int .i64 c.tb, .int .i64 c.pg, .int .i64 c.l, .int .i64 c.e, .int .i64 c.fa, .int .i64 c.wh] 156))) := bal (Below.refl _ _) _
 cases R
 all_goals
  go_enter Tryz.func184, Tryz.ntmps184
  go_wp2_with (first
   | (go_at_call 239; refine (HO.out _).mono ?_; rintro e1 w1 ⟨rfl, hr, hb, hs⟩; have H1 : Hid (Below w.heap.size w w1) := Hw.out.trans (hb.mono Hw.out.size); rw [World.size_alloc] at hr; have HR := rhide hr; clear hr hb hs HO Hw)
   | (go_at_call 238; refine (HC.out _ _ (HT.out.on H1.out).tc HR.out).mono ?_; rintro e2 w2 ⟨rfl, hb⟩; have H2 : Hid (Below w.heap.size w w2) := H1.out.trans (hb.mono H1.out.size); clear hb HC HR H1)
   | fail)
  go_ret
  exact ⟨rfl, bal H2.out _⟩
theorem isC_any (p b N : Nat) (f : Int) (M : Nat -> Nat -> Int) (w : World) (hM : Mx w p b N M) : Calls Tryz.prog 244 #[.pointer (some ⟨p, 0, none⟩), .int .i64 f] w fun e w' => e = .returned (.bool (Phead.isE N M f 3 == 0)) /\ Below w.heap.size w w' := by
 have HI : Hid (Calls Tryz.prog 176 #[.pointer (some ⟨p, 0, none⟩), .int .i64 f, .int .i64 3] w fun e w' => e = .returned (.int .i64 (Phead.isE N M f 3)) /\ Below w.heap.size w w') := Phead.his_any p b N f 3 M w hM.n1 hM.n64 hM.mem hM.tb.th hM.fit
 clear hM
 generalize Phead.isE N M f 3 = E at HI ⊢
 go_enter Tryz.func244, Tryz.ntmps244
 go_wp2_with (first
  | (go_at_call 176; refine HI.out.mono ?_; rintro e1 w1 ⟨rfl, hb⟩; have H1 := rhide hb; clear hb HI)
  | fail)
 go_ret
 exact ⟨rfl, H1.out⟩
end Pcomp
namespace Pcomp
open Pbase Pfield Play Pmem Go.RowKit M
structure RowC (w : World) (B : Nat) (x : Cp) : Prop where
 row : w.heap[B]? = some (.cells #[.int .i64 x.tb, .int .i64 x.pg, .int .i64 x.l, .int .i64 x.e, .int .i64 x.fa, .int .i64 x.wh] 156 (0, 0))
section
variable {w w' : World} {B : Nat} {x : Cp}
theorem RowC.lt (h : RowC w B x) : B < w.heap.size := (Array.getElem?_eq_some_iff.1 h.row).1
theorem RowC.c0 (h : RowC w B x) : w.cell? ⟨B, 0, none⟩ = some (.int .i64 x.tb) := (cell_of_row _ _ _ _ _ _ h.row).trans rfl
theorem RowC.c1 (h : RowC w B x) : w.cell? ⟨B, 1, none⟩ = some (.int .i64 x.pg) := (cell_of_row _ _ _ _ _ _ h.row).trans rfl
theorem RowC.c2 (h : RowC w B x) : w.cell? ⟨B, 2, none⟩ = some (.int .i64 x.l) := (cell_of_row _ _ _ _ _ _ h.row).trans rfl
theorem RowC.c3 (h : RowC w B x) : w.cell? ⟨B, 3, none⟩ = some (.int .i64 x.e) := (cell_of_row _ _ _ _ _ _ h.row).trans rfl
theorem RowC.c4 (h : RowC w B x) : w.cell? ⟨B, 4, none⟩ = some (.int .i64 x.fa) := (cell_of_row _ _ _ _ _ _ h.row).trans rfl
theorem RowC.c5 (h : RowC w B x) : w.cell? ⟨B, 5, none⟩ = some (.int .i64 x.wh) := (cell_of_row _ _ _ _ _ _ h.row).trans rfl
theorem RowC.fz (h : RowC w B x) (j : Nat) : w.frozen? ⟨B, j, none⟩ = false := frozen_of_row _ _ _ _ _ h.row
theorem RowC.on (h : RowC w B x) (hB : Below w.heap.size w w') : RowC w' B x := ⟨(hB.block B h.lt).trans h.row⟩
theorem RowC.but {b : Nat} (h : RowC w B x) (hB : But b w w') (hn : B ≠ b) : RowC w' B x := ⟨(hB.block B h.lt hn).trans h.row⟩
theorem rowC_new (w : World) (x : Cp) : RowC (w.alloc (.cells #[.int .i64 x.tb, .int .i64 x.pg, .int .i64 x.l, .int .i64 x.e, .int .i64 x.fa, .int .i64 x.wh] 156)) w.heap.size x := ⟨heap_alloc_new w _⟩
end
structure GtI (w W : World) (p b N : Nat) (M : Nat -> Nat -> Int) : Prop where
 res : RowC W w.heap.size cp0
 mx : Mx W p b N M
 below : Below w.heap.size w W
theorem gtI_new {w : World} {p b N : Nat} {M : Nat -> Nat -> Int} (h : Mx w p b N M) : GtI w (w.alloc (.cells #[.int .i64 0, .int .i64 0, .int .i64 0, .int .i64 0, .int .i64 0, .int .i64 0] 156)) p b N M :=
 ⟨rowC_new w cp0, h.on (bal (Below.refl _ _) _), bal (Below.refl _ _) _⟩
theorem GtI.on {w W W' : World} {p b N : Nat} {M : Nat -> Nat -> Int} (h : GtI w W p b N M) (hB : Below W.heap.size W W') : GtI w W' p b N M :=
 ⟨h.res.on hB, h.mx.on hB, h.below.trans (hB.mono h.below.size)⟩
theorem isE_ok {N : Nat} {M : Nat -> Nat -> Int} {f : Int} {q : Int} (h : Phead.isE N M f q = 0) : okF N f = true := by
 cases hf : okF N f
 · exact absurd h (is_bad hf q)
 · rfl
theorem wd_fit {M : Nat -> Nat -> Int} (h : Fit M) (f : Int) : ∀ k, k < 6 -> 0 <= wd (cpOf M f) k := fun k hk => by
 rw [wd_cpOf M f k hk]
 exact (h _ _).1
theorem it_new {w : World} {p b N : Nat} {M : Nat -> Nat -> Int} {f : Int} (h : MemIs w p b N M) : It ((w.alloc (.cells #[.pointer (some ⟨p, 0, none⟩)] 22)).alloc (.cells #[.int .i64 f] 3)) w.heap.size p b N M f := by
 have b0 := Boxed.new w 22 (.pointer (some ⟨p, 0, none⟩))
 have b1 := Boxed.new (w.alloc (.cells #[.pointer (some ⟨p, 0, none⟩)] 22)) 3 (.int .i64 f)
 rw [World.size_alloc] at b1
 exact ⟨b0.alloc _, b1, h.grown (bal (bal (Below.refl _ _) _) _)⟩
theorem get_any (p b N : Nat) (f : Int) (M : Nat -> Nat -> Int) (w : World) (hM : Mx w p b N M) :
 Calls Tryz.prog 196 #[.pointer (some ⟨p, 0, none⟩), .int .i64 f] w fun e w' => e = .returned (.tuple #[.agg #[.int .i64 (gtC N M f).tb, .int .i64 (gtC N M f).pg, .int .i64 (gtC N M f).l, .int .i64 (gtC N M f).e, .int .i64 (gtC N M f).fa, .int .i64 (gtC N M f).wh], .int .i64 (gtE N M f)]) /\ Below w.heap.size w w' := by
 have HIs : Hid (∀ wc, Mx wc p b N M -> Calls Tryz.prog 244 #[.pointer (some ⟨p, 0, none⟩), .int .i64 f] wc fun e w' => e = .returned (.bool (Phead.isE N M f 3 == 0)) /\ Below wc.heap.size wc w') := fun wc h => isC_any p b N f M wc h
 have HN : Hid (∀ wc, Calls Tryz.prog 245 #[.pointer (some ⟨p, 0, none⟩), .int .i64 f] wc fun e w' => e = .returned (.func (.func 276) #[] #[.pointer (some ⟨wc.heap.size, 0, none⟩), .pointer (some ⟨wc.heap.size + 1, 0, none⟩)]) /\ w' = (wc.alloc (.cells #[.pointer (some ⟨p, 0, none⟩)] 22)).alloc (.cells #[.int .i64 f] 3)) := fun wc => (callsIn_wide (n := 9)).1 (in_in 9 p f wc)
 have H0 := rhide (gtI_new hM)
 have n1 := hM.n1
 have n64 := hM.n64
 have hfit := wd_fit hM.fit f
 clear hM
 by_cases hk : Phead.isE N M f 3 = 0
 case neg =>
  have e1 : gtE N M f = 4 := by unfold gtE; rw [if_neg hk]
  have e2 : gtC N M f = cp0 := by unfold gtC; rw [if_neg (by rw [e1]; decide)]
  rw [e1, e2, show (Phead.isE N M f 3 == 0) = false by simp [hk]] at *
  clear hk e1 e2 HN hfit
  go_enter Tryz.func196, Tryz.ntmps196
  go_wp2_with (first
   | (go_at_call 244; refine (HIs.out _ H0.out.mx).mono ?_; rintro e1 w1 ⟨rfl, hb⟩; have H1 := rhide (H0.out.on hb); clear hb HIs H0; have x0 := H1.out.res.c0; have x1 := H1.out.res.c1; have x2 := H1.out.res.c2; have x3 := H1.out.res.c3; have x4 := H1.out.res.c4; have x5 := H1.out.res.c5; have z := H1.out.res.fz)
   | fail)
  refine bodyPost_ret (v := .tuple #[.agg #[.int .i64 0, .int .i64 0, .int .i64 0, .int .i64 0, .int .i64 0, .int .i64 0], .int .i64 4]) (by simp [results, Tryz.results196, go_sem, x0, x1, x2, x3, x4, x5]) rfl ⟨rfl, ?_⟩
  exact bst (bst (bst (bst (bst (bst H1.out.below (Nat.le_refl _) _ _) (Nat.le_refl _) _ _) (Nat.le_refl _) _ _) (Nat.le_refl _) _ _) (Nat.le_refl _) _ _) (Nat.le_refl _) _ _
 case pos =>
  have hf := isE_ok hk
  have HC : Hid (∀ wc B, TabC wc -> It wc B p b N M f -> Calls Tryz.prog 238 #[.func (.func 276) #[] #[.pointer (some ⟨B, 0, none⟩), .pointer (some ⟨B + 1, 0, none⟩)]] wc fun e W' => e = .returned (.tuple #[.agg #[.int .i64 (coX (cpOf M f)).tb, .int .i64 (coX (cpOf M f)).pg, .int .i64 (coX (cpOf M f)).l, .int .i64 (coX (cpOf M f)).e, .int .i64 (coX (cpOf M f)).fa, .int .i64 (coX (cpOf M f)).wh], .bool (coB (cpOf M f))]) /\ Below wc.heap.size wc W') := fun wc B hT hI =>
   comp_any (cpOf M f) hfit 276 #[.pointer (some ⟨B, 0, none⟩), .pointer (some ⟨B + 1, 0, none⟩)] (fun W => It W B p b N M f) wc hT (fun X Y hB h => h.on hB hI.bf.lt hI.mem.lt.1 hI.mem.lt.2) (enters_of Tryz.func276 (by kernel_rfl) rfl) (in_stops 8 (by omega) B p b N M f wc n1 n64 hf hI)
  have e1 : gtE N M f = if coB (cpOf M f) = true then 0 else 12 := by unfold gtE; rw [if_pos hk]
  have e2 : gtC N M f = coX (cpOf M f) := by
   unfold gtC coX
   rw [e1]
   cases coB (cpOf M f) <;> rfl
  rw [e1, e2, show (Phead.isE N M f 3 == 0) = true by simp [hk]] at *
  have e3 : coB (cpOf M f) = false -> coX (cpOf M f) = cp0 := coX_no
  clear hk e1 e2 hfit hf
  generalize coX (cpOf M f) = y at HC e3 ⊢
  generalize coB (cpOf M f) = R at HC e3 ⊢
  cases R
  · obtain rfl := e3 rfl
    clear e3
    go_enter Tryz.func196, Tryz.ntmps196
    go_wp2_with (first
     | (go_at_call 244; refine (HIs.out _ H0.out.mx).mono ?_; rintro e1 w1 ⟨rfl, hb⟩; have H1 := rhide (H0.out.on hb); clear hb HIs H0)
     | (go_at_call 245; refine (HN.out _).mono ?_; rintro e2 w2 ⟨rfl, hw⟩; have HT := rhide (show It w2 w1.heap.size p b N M f by rw [hw]; exact it_new H1.out.mx.mem); have H2 := rhide (H1.out.on (w := w) (W' := w2) (by rw [hw]; exact bal (bal (Below.refl _ _) _) _)); clear hw HN H1)
     | (go_at_call 238; refine (HC.out _ _ H2.out.mx.tb.tc HT.out).mono ?_; rintro e3 w3 ⟨rfl, hb⟩; have H3 := rhide (H2.out.on hb); clear hb HC HT H2; have H4 := rhide (H3.out.on (bal (Below.refl _ _) (.cells #[.int .i64 cp0.tb, .int .i64 cp0.pg, .int .i64 cp0.l, .int .i64 cp0.e, .int .i64 cp0.fa, .int .i64 cp0.wh] 156))); have x0 := H4.out.res.c0; have x1 := H4.out.res.c1; have x2 := H4.out.res.c2; have x3 := H4.out.res.c3; have x4 := H4.out.res.c4; have x5 := H4.out.res.c5; have z := H4.out.res.fz)
     | fail)
    refine bodyPost_ret (v := .tuple #[.agg #[.int .i64 0, .int .i64 0, .int .i64 0, .int .i64 0, .int .i64 0, .int .i64 0], .int .i64 12]) (by simp [results, Tryz.results196, go_sem, x0, x1, x2, x3, x4, x5]) rfl ⟨rfl, ?_⟩
    exact bst (bst (bst (bst (bst (bst H4.out.below (Nat.le_refl _) _ _) (Nat.le_refl _) _ _) (Nat.le_refl _) _ _) (Nat.le_refl _) _ _) (Nat.le_refl _) _ _) (Nat.le_refl _) _ _
  · clear e3
    go_enter Tryz.func196, Tryz.ntmps196
    go_wp2_with (first
     | (go_at_call 244; refine (HIs.out _ H0.out.mx).mono ?_; rintro e1 w1 ⟨rfl, hb⟩; have H1 := rhide (H0.out.on hb); clear hb HIs H0)
     | (go_at_call 245; refine (HN.out _).mono ?_; rintro e2 w2 ⟨rfl, hw⟩; have HT := rhide (show It w2 w1.heap.size p b N M f by rw [hw]; exact it_new H1.out.mx.mem); have H2 := rhide (H1.out.on (w := w) (W' := w2) (by rw [hw]; exact bal (bal (Below.refl _ _) _) _)); clear hw HN H1)
     | (go_at_call 238; refine (HC.out _ _ H2.out.mx.tb.tc HT.out).mono ?_; rintro e3 w3 ⟨rfl, hb⟩; have H3 := rhide (H2.out.on hb); clear hb HC HT H2; have H4 := rhide (H3.out.on (bal (Below.refl _ _) (.cells #[.int .i64 y.tb, .int .i64 y.pg, .int .i64 y.l, .int .i64 y.e, .int .i64 y.fa, .int .i64 y.wh] 156))); have x0 := H4.out.res.c0; have x1 := H4.out.res.c1; have x2 := H4.out.res.c2; have x3 := H4.out.res.c3; have x4 := H4.out.res.c4; have x5 := H4.out.res.c5; have z := H4.out.res.fz)
     | fail)
    refine bodyPost_ret (v := .tuple #[.agg #[.int .i64 y.tb, .int .i64 y.pg, .int .i64 y.l, .int .i64 y.e, .int .i64 y.fa, .int .i64 y.wh], .int .i64 0]) (by simp [results, Tryz.results196, go_sem, x0, x1, x2, x3, x4, x5]) rfl ⟨rfl, ?_⟩
    exact bst (bst (bst (bst (bst (bst H4.out.below (Nat.le_refl _) _ _) (Nat.le_refl _) _ _) (Nat.le_refl _) _ _) (Nat.le_refl _) _ _) (Nat.le_refl _) _ _) (Nat.le_refl _) _ _
structure Bx (w W : World) (p b N : Nat) (M : Nat -> Nat -> Int) (c : Cp) : Prop where
 mx : Mx W p b N M
 box : RowC W w.heap.size c
 but : But b w W
 lt : b < w.heap.size
theorem bx_new {w : World} {p b N : Nat} {M : Nat -> Nat -> Int} (h : Mx w p b N M) (c : Cp) : Bx w (w.alloc (.cells #[.int .i64 c.tb, .int .i64 c.pg, .int .i64 c.l, .int .i64 c.e, .int .i64 c.fa, .int .i64 c.wh] 156)) p b N M c :=
 ⟨h.on (bal (Below.refl _ _) _), rowC_new w c, But.of_below b (bal (Below.refl _ _) _), h.mem.lt.2⟩
theorem Bx.on {w W W' : World} {p b N : Nat} {M : Nat -> Nat -> Int} {c : Cp} (h : Bx w W p b N M c) (hB : Below W.heap.size W W') : Bx w W' p b N M c :=
 ⟨h.mx.on hB, h.box.on hB, h.but.trans (But.of_below b hB), h.lt⟩
theorem Bx.turn {w W W' : World} {p b N : Nat} {M M' : Nat -> Nat -> Int} {c : Cp} (h : Bx w W p b N M c) (hM : Mx W' p b N M') (hB : But b W W') : Bx w W' p b N M' c :=
 ⟨hM, h.box.but hB (Nat.ne_of_gt h.lt), h.but.trans hB, h.lt⟩
theorem make_any (p b N : Nat) (f : Int) (c : Cp) (M : Nat -> Nat -> Int) (w : World) (hM : Mx w p b N M) (hc : Fi c) :
 Calls Tryz.prog 112 #[.pointer (some ⟨p, 0, none⟩), .int .i64 f, .agg #[.int .i64 c.tb, .int .i64 c.pg, .int .i64 c.l, .int .i64 c.e, .int .i64 c.fa, .int .i64 c.wh]] w fun e w' => e = .returned (.int .i64 (mkE N f c)) /\ Mx w' p b N (mkM N M f c) /\ But b w w' := by
 have HC : Hid (∀ wc, Tc wc -> Calls Tryz.prog 184 #[.agg #[.int .i64 c.tb, .int .i64 c.pg, .int .i64 c.l, .int .i64 c.e, .int .i64 c.fa, .int .i64 c.wh]] wc fun e w' => e = .returned (.int .i64 (ckE c)) /\ Below wc.heap.size wc w') := fun wc h => check_any c hc wc h
 have HH : Hid (∀ wc, Mx wc p b N M -> Calls Tryz.prog 177 #[.pointer (some ⟨p, 0, none⟩), .int .i64 f, .agg #[.int .i64 3, .int .i64 0, .bool false, .int .i64 0]] wc fun e w' => e = .returned (.int .i64 (errF N f)) /\ Mx w' p b N (Phead.mkM N M f 3 0 false 0) /\ But b wc w') := fun wc h => by
  have := (Phead.hmake_any p b N f 3 0 false 0 M wc h.n1 h.n64 h.mem h.tb.th)
  rw [made_err (by omega)] at this
  refine this.mono ?_
  rintro e w' ⟨rfl, h1, h2⟩
  exact ⟨rfl, h.but h1 (Phead.fit_mk h.fit N f 3 0 false 0) h2, h2⟩
 have H0 := rhide (bx_new hM c)
 clear hM hc
 by_cases hco : coB c = true
 · have e1 : ckE c = 0 := by unfold ckE; rw [if_pos hco]
   have e2 : mkE N f c = errF N f := by unfold mkE; rw [if_pos hco]
   have e3 : mkM N M f c = layF N (Phead.mkM N M f 3 0 false 0) f c.ws := by unfold mkM; rw [if_pos hco]
   rw [e1] at HC
   rw [e2, e3]
   clear e1 e2 e3
   generalize Phead.mkM N M f 3 0 false 0 = M1 at HH ⊢
   cases hf : okF N f
   · have e4 : errF N f = 1 := by unfold errF; rw [hf]; rfl
     rw [e4] at HH ⊢
     rw [lay_bad hf]
     clear e4 hf hco
     go_enter Tryz.func112, Tryz.ntmps112
     go_wp2_with (first
      | (go_at_call 184; refine (HC.out _ H0.out.mx.tb).mono ?_; rintro e1 w1 ⟨rfl, hb⟩; have H1 := rhide (H0.out.on hb); clear hb HC H0; have x0 := H1.out.box.c0; have x1 := H1.out.box.c1; have x2 := H1.out.box.c2; have x3 := H1.out.box.c3; have x4 := H1.out.box.c4; have x5 := H1.out.box.c5)
      | (go_at_call 177; refine (HH.out _ H1.out.mx).mono ?_; rintro e2 w2 ⟨rfl, hm, hb⟩; have H2 := rhide (H1.out.turn hm hb); clear hm hb HH H1)
      | fail)
     go_ret
     exact ⟨rfl, H2.out.mx, H2.out.but⟩
   · have e4 : errF N f = 0 := by unfold errF; rw [if_pos hf]
     rw [e4] at HH ⊢
     have HW : Hid (∀ wc, Mx wc p b N M1 -> Calls Tryz.prog 185 #[.pointer (some ⟨p, 0, none⟩), .int .i64 f, .agg #[.int .i64 c.tb, .int .i64 c.pg, .int .i64 c.l, .int .i64 c.e, .int .i64 c.fa, .int .i64 c.wh]] wc fun e w' => e = .returned (.int .i64 0) /\ Mx w' p b N (layF N M1 f c.ws) /\ But b wc w') := fun wc h => write_any p b N f c M1 wc h ((coB_iff c).1 hco) hf
     clear e4 hf hco
     go_enter Tryz.func112, Tryz.ntmps112
     go_wp2_with (first
      | (go_at_call 184; refine (HC.out _ H0.out.mx.tb).mono ?_; rintro e1 w1 ⟨rfl, hb⟩; have H1 := rhide (H0.out.on hb); clear hb HC H0)
      | (go_at_call 177; refine (HH.out _ H1.out.mx).mono ?_; rintro e2 w2 ⟨rfl, hm, hb⟩; have H2 := rhide (H1.out.turn hm hb); clear hm hb HH H1; have x0 := H2.out.box.c0; have x1 := H2.out.box.c1; have x2 := H2.out.box.c2; have x3 := H2.out.box.c3; have x4 := H2.out.box.c4; have x5 := H2.out.box.c5)
      | (go_at_call 185; refine (HW.out _ H2.out.mx).mono ?_; rintro e3 w3 ⟨rfl, hm, hb⟩; have H3 := rhide (H2.out.turn hm hb); clear hm hb HW H2)
      | fail)
     go_ret
     exact ⟨rfl, H3.out.mx, H3.out.but⟩
 · have hco' : coB c = false := by simpa using hco
   have e1 : ckE c = 1 := by unfold ckE; rw [if_neg hco]
   have e2 : mkE N f c = 1 := by unfold mkE; rw [if_neg hco]
   have e3 : mkM N M f c = M := by unfold mkM; rw [if_neg hco]
   rw [e1] at HC
   rw [e2, e3]
   clear e1 e2 e3 HH hco hco'
   go_enter Tryz.func112, Tryz.ntmps112
   go_wp2_with (first
    | (go_at_call 184; refine (HC.out _ H0.out.mx.tb).mono ?_; rintro e1 w1 ⟨rfl, hb⟩; have H1 := rhide (H0.out.on hb); clear hb HC H0)
    | fail)
   go_ret
   exact ⟨rfl, H1.out.mx, H1.out.but⟩
theorem coB_in (c : Cp) : coB c = (inB c.tb 0 63 && inB c.pg 0 63 && inB c.l 0 63 && inB c.e 0 65535 && inB c.fa 0 64 && inB c.wh 0 1073741824 && (decide (c.fa ≠ 0) || decide (c.wh = 0))) := rfl
theorem right_any (c : Cp) (w : World) : Calls Tryz.prog 188 #[.agg #[.int .i64 c.tb, .int .i64 c.pg, .int .i64 c.l, .int .i64 c.e, .int .i64 c.fa, .int .i64 c.wh]] w fun e w' => e = .returned (.bool (coB c)) /\ Below w.heap.size w w' := by
 have I0 : Hid (∀ wc, Calls Tryz.prog 240 #[.int .i64 c.tb, .int .i64 0, .int .i64 63] wc fun e w' => e = .returned (.bool (inB c.tb 0 63)) /\ w' = wc) := fun wc => in_any c.tb 0 63 wc
 have I1 : Hid (∀ wc, Calls Tryz.prog 240 #[.int .i64 c.pg, .int .i64 0, .int .i64 63] wc fun e w' => e = .returned (.bool (inB c.pg 0 63)) /\ w' = wc) := fun wc => in_any c.pg 0 63 wc
 have I2 : Hid (∀ wc, Calls Tryz.prog 240 #[.int .i64 c.l, .int .i64 0, .int .i64 63] wc fun e w' => e = .returned (.bool (inB c.l 0 63)) /\ w' = wc) := fun wc => in_any c.l 0 63 wc
 have I3 : Hid (∀ wc, Calls Tryz.prog 240 #[.int .i64 c.e, .int .i64 0, .int .i64 65535] wc fun e w' => e = .returned (.bool (inB c.e 0 65535)) /\ w' = wc) := fun wc => in_any c.e 0 65535 wc
 have I4 : Hid (∀ wc, Calls Tryz.prog 240 #[.int .i64 c.fa, .int .i64 0, .int .i64 64] wc fun e w' => e = .returned (.bool (inB c.fa 0 64)) /\ w' = wc) := fun wc => in_any c.fa 0 64 wc
 have I5 : Hid (∀ wc, Calls Tryz.prog 240 #[.int .i64 c.wh, .int .i64 0, .int .i64 1073741824] wc fun e w' => e = .returned (.bool (inB c.wh 0 1073741824)) /\ w' = wc) := fun wc => in_any c.wh 0 1073741824 wc
 rw [coB_in]
 generalize inB c.tb 0 63 = R0 at I0 ⊢
 generalize inB c.pg 0 63 = R1 at I1 ⊢
 generalize inB c.l 0 63 = R2 at I2 ⊢
 generalize inB c.e 0 65535 = R3 at I3 ⊢
 generalize inB c.fa 0 64 = R4 at I4 ⊢
 generalize inB c.wh 0 1073741824 = R5 at I5 ⊢
 cases R0
 · simp only [Bool.false_and]
   go_enter Tryz.func188, Tryz.ntmps188
   go_wp2_with (first
    | (go_at_call 240; refine (I0.out _).mono ?_; rintro e0 w0 ⟨rfl, hw⟩; subst hw; clear I0)
    | (go_at_call 240; refine (I1.out _).mono ?_; rintro e1 w1 ⟨rfl, hw⟩; subst hw; clear I1)
    | (go_at_call 240; refine (I2.out _).mono ?_; rintro e2 w2 ⟨rfl, hw⟩; subst hw; clear I2)
    | (go_at_call 240; refine (I3.out _).mono ?_; rintro e3 w3 ⟨rfl, hw⟩; subst hw; clear I3)
    | (go_at_call 240; refine (I4.out _).mono ?_; rintro e4 w4 ⟨rfl, hw⟩; subst hw; clear I4)
    | (go_at_call 240; refine (I5.out _).mono ?_; rintro e5 w5 ⟨rfl, hw⟩; subst hw; clear I5)
    | fail)
   go_ret
   exact ⟨rfl, bal (Below.refl _ _) _⟩
 cases R1
 · simp only [Bool.false_and, Bool.true_and]
   go_enter Tryz.func188, Tryz.ntmps188
   go_wp2_with (first
    | (go_at_call 240; refine (I0.out _).mono ?_; rintro e0 w0 ⟨rfl, hw⟩; subst hw; clear I0)
    | (go_at_call 240; refine (I1.out _).mono ?_; rintro e1 w1 ⟨rfl, hw⟩; subst hw; clear I1)
    | (go_at_call 240; refine (I2.out _).mono ?_; rintro e2 w2 ⟨rfl, hw⟩; subst hw; clear I2)
    | (go_at_call 240; refine (I3.out _).mono ?_; rintro e3 w3 ⟨rfl, hw⟩; subst hw; clear I3)
    | (go_at_call 240; refine (I4.out _).mono ?_; rintro e4 w4 ⟨rfl, hw⟩; subst hw; clear I4)
    | (go_at_call 240; refine (I5.out _).mono ?_; rintro e5 w5 ⟨rfl, hw⟩; subst hw; clear I5)
    | fail)
   go_ret
   exact ⟨rfl, bal (Below.refl _ _) _⟩
 cases R2
 · simp only [Bool.false_and, Bool.true_and]
   go_enter Tryz.func188, Tryz.ntmps188
   go_wp2_with (first
    | (go_at_call 240; refine (I0.out _).mono ?_; rintro e0 w0 ⟨rfl, hw⟩; subst hw; clear I0)
    | (go_at_call 240; refine (I1.out _).mono ?_; rintro e1 w1 ⟨rfl, hw⟩; subst hw; clear I1)
    | (go_at_call 240; refine (I2.out _).mono ?_; rintro e2 w2 ⟨rfl, hw⟩; subst hw; clear I2)
    | (go_at_call 240; refine (I3.out _).mono ?_; rintro e3 w3 ⟨rfl, hw⟩; subst hw; clear I3)
    | (go_at_call 240; refine (I4.out _).mono ?_; rintro e4 w4 ⟨rfl, hw⟩; subst hw; clear I4)
    | (go_at_call 240; refine (I5.out _).mono ?_; rintro e5 w5 ⟨rfl, hw⟩; subst hw; clear I5)
    | fail)
   go_ret
   exact ⟨rfl, bal (Below.refl _ _) _⟩
 cases R3
 · simp only [Bool.false_and, Bool.true_and]
   go_enter Tryz.func188, Tryz.ntmps188
   go_wp2_with (first
    | (go_at_call 240; refine (I0.out _).mono ?_; rintro e0 w0 ⟨rfl, hw⟩; subst hw; clear I0)
    | (go_at_call 240; refine (I1.out _).mono ?_; rintro e1 w1 ⟨rfl, hw⟩; subst hw; clear I1)
    | (go_at_call 240; refine (I2.out _).mono ?_; rintro e2 w2 ⟨rfl, hw⟩; subst hw; clear I2)
    | (go_at_call 240; refine (I3.out _).mono ?_; rintro e3 w3 ⟨rfl, hw⟩; subst hw; clear I3)
    | (go_at_call 240; refine (I4.out _).mono ?_; rintro e4 w4 ⟨rfl, hw⟩; subst hw; clear I4)
    | (go_at_call 240; refine (I5.out _).mono ?_; rintro e5 w5 ⟨rfl, hw⟩; subst hw; clear I5)
    | fail)
   go_ret
   exact ⟨rfl, bal (Below.refl _ _) _⟩
 cases R4
 · simp only [Bool.false_and, Bool.true_and]
   go_enter Tryz.func188, Tryz.ntmps188
   go_wp2_with (first
    | (go_at_call 240; refine (I0.out _).mono ?_; rintro e0 w0 ⟨rfl, hw⟩; subst hw; clear I0)
    | (go_at_call 240; refine (I1.out _).mono ?_; rintro e1 w1 ⟨rfl, hw⟩; subst hw; clear I1)
    | (go_at_call 240; refine (I2.out _).mono ?_; rintro e2 w2 ⟨rfl, hw⟩; subst hw; clear I2)
    | (go_at_call 240; refine (I3.out _).mono ?_; rintro e3 w3 ⟨rfl, hw⟩; subst hw; clear I3)
    | (go_at_call 240; refine (I4.out _).mono ?_; rintro e4 w4 ⟨rfl, hw⟩; subst hw; clear I4)
    | (go_at_call 240; refine (I5.out _).mono ?_; rintro e5 w5 ⟨rfl, hw⟩; subst hw; clear I5)
    | fail)
   go_ret
   exact ⟨rfl, bal (Below.refl _ _) _⟩
 cases R5
 · simp only [Bool.false_and, Bool.true_and]
   go_enter Tryz.func188, Tryz.ntmps188
   go_wp2_with (first
    | (go_at_call 240; refine (I0.out _).mono ?_; rintro e0 w0 ⟨rfl, hw⟩; subst hw; clear I0)
    | (go_at_call 240; refine (I1.out _).mono ?_; rintro e1 w1 ⟨rfl, hw⟩; subst hw; clear I1)
    | (go_at_call 240; refine (I2.out _).mono ?_; rintro e2 w2 ⟨rfl, hw⟩; subst hw; clear I2)
    | (go_at_call 240; refine (I3.out _).mono ?_; rintro e3 w3 ⟨rfl, hw⟩; subst hw; clear I3)
    | (go_at_call 240; refine (I4.out _).mono ?_; rintro e4 w4 ⟨rfl, hw⟩; subst hw; clear I4)
    | (go_at_call 240; refine (I5.out _).mono ?_; rintro e5 w5 ⟨rfl, hw⟩; subst hw; clear I5)
    | fail)
   go_ret
   exact ⟨rfl, bal (Below.refl _ _) _⟩
 simp only [Bool.true_and]
 by_cases hf : c.fa = 0
 · have bf : (c.fa != 0) = false := by simp [hf]
   by_cases hw : c.wh = 0
   · have bw : (c.wh == 0) = true := by simp [hw]
     rw [show (decide (c.fa ≠ 0) || decide (c.wh = 0)) = true by simp [hw]]
     clear hf hw
     go_enter Tryz.func188, Tryz.ntmps188
     go_wp2_with (first
      | (go_at_call 240; refine (I0.out _).mono ?_; rintro e0 w0 ⟨rfl, hw⟩; subst hw; clear I0)
      | (go_at_call 240; refine (I1.out _).mono ?_; rintro e1 w1 ⟨rfl, hw⟩; subst hw; clear I1)
      | (go_at_call 240; refine (I2.out _).mono ?_; rintro e2 w2 ⟨rfl, hw⟩; subst hw; clear I2)
      | (go_at_call 240; refine (I3.out _).mono ?_; rintro e3 w3 ⟨rfl, hw⟩; subst hw; clear I3)
      | (go_at_call 240; refine (I4.out _).mono ?_; rintro e4 w4 ⟨rfl, hw⟩; subst hw; clear I4)
      | (go_at_call 240; refine (I5.out _).mono ?_; rintro e5 w5 ⟨rfl, hw⟩; subst hw; clear I5)
      | fail)
     go_ret
     exact ⟨rfl, bal (Below.refl _ _) _⟩
   · have bw : (c.wh == 0) = false := by simp [hw]
     rw [show (decide (c.fa ≠ 0) || decide (c.wh = 0)) = false by simp [hw, hf]]
     clear hf hw
     go_enter Tryz.func188, Tryz.ntmps188
     go_wp2_with (first
      | (go_at_call 240; refine (I0.out _).mono ?_; rintro e0 w0 ⟨rfl, hw⟩; subst hw; clear I0)
      | (go_at_call 240; refine (I1.out _).mono ?_; rintro e1 w1 ⟨rfl, hw⟩; subst hw; clear I1)
      | (go_at_call 240; refine (I2.out _).mono ?_; rintro e2 w2 ⟨rfl, hw⟩; subst hw; clear I2)
      | (go_at_call 240; refine (I3.out _).mono ?_; rintro e3 w3 ⟨rfl, hw⟩; subst hw; clear I3)
      | (go_at_call 240; refine (I4.out _).mono ?_; rintro e4 w4 ⟨rfl, hw⟩; subst hw; clear I4)
      | (go_at_call 240; refine (I5.out _).mono ?_; rintro e5 w5 ⟨rfl, hw⟩; subst hw; clear I5)
      | fail)
     go_ret
     exact ⟨rfl, bal (Below.refl _ _) _⟩
 · have bf : (c.fa != 0) = true := by simp [hf]
   rw [show (decide (c.fa ≠ 0) || decide (c.wh = 0)) = true by simp [hf]]
   clear hf
   go_enter Tryz.func188, Tryz.ntmps188
   go_wp2_with (first
    | (go_at_call 240; refine (I0.out _).mono ?_; rintro e0 w0 ⟨rfl, hw⟩; subst hw; clear I0)
    | (go_at_call 240; refine (I1.out _).mono ?_; rintro e1 w1 ⟨rfl, hw⟩; subst hw; clear I1)
    | (go_at_call 240; refine (I2.out _).mono ?_; rintro e2 w2 ⟨rfl, hw⟩; subst hw; clear I2)
    | (go_at_call 240; refine (I3.out _).mono ?_; rintro e3 w3 ⟨rfl, hw⟩; subst hw; clear I3)
    | (go_at_call 240; refine (I4.out _).mono ?_; rintro e4 w4 ⟨rfl, hw⟩; subst hw; clear I4)
    | (go_at_call 240; refine (I5.out _).mono ?_; rintro e5 w5 ⟨rfl, hw⟩; subst hw; clear I5)
    | fail)
   go_ret
   exact ⟨rfl, bal (Below.refl _ _) _⟩
theorem rwords_any (c : Cp) (w : World) : Calls Tryz.prog 190 #[.agg #[.int .i64 c.tb, .int .i64 c.pg, .int .i64 c.l, .int .i64 c.e, .int .i64 c.fa, .int .i64 c.wh]] w fun e w' => e = .returned (.slice (some ⟨w.heap.size + 1, 0, none⟩) 6 6) /\ Nums w' (w.heap.size + 1) c.ws /\ Below w.heap.size w w' := by
 go_enter Tryz.func190, Tryz.ntmps190
 go_wp2
 go_ret
 have e := heap_alloc_new (w.alloc (.cells #[.int .i64 c.tb, .int .i64 c.pg, .int .i64 c.l, .int .i64 c.e, .int .i64 c.fa, .int .i64 c.wh] 156)) (.cells #[.int .i64 c.tb, .int .i64 c.pg, .int .i64 c.l, .int .i64 c.e, .int .i64 c.fa, .int .i64 c.wh] 3)
 rw [World.size_alloc] at e
 refine ⟨rfl, ⟨_, e, fun j hj => ?_⟩, bal (bal (Below.refl _ _) _) _⟩
 rw [ws_len] at hj
 rcases (show j = 0 \/ j = 1 \/ j = 2 \/ j = 3 \/ j = 4 \/ j = 5 by omega) with rfl | rfl | rfl | rfl | rfl | rfl <;> rfl
structure Rb (w W : World) (base q N : Nat) (M : Nat -> Nat -> Int) (c : Cp) : Prop where
 rx : Rx W base q N M
 box : RowC W w.heap.size c
 below : Below base w W
 keep : KeepX q w W
theorem rb_new {w : World} {base q N : Nat} {M : Nat -> Nat -> Int} (h : Rx w base q N M) (c : Cp) : Rb w (w.alloc (.cells #[.int .i64 c.tb, .int .i64 c.pg, .int .i64 c.l, .int .i64 c.e, .int .i64 c.fa, .int .i64 c.wh] 156)) base q N M c :=
 ⟨h.grown (bal (Below.refl _ _) _), rowC_new w c, (bal (Below.refl _ _) _).mono h.le, KeepX.below (bal (Below.refl _ _) _)⟩
theorem Rb.on {w W W' : World} {base q N : Nat} {M : Nat -> Nat -> Int} {c : Cp} (h : Rb w W base q N M c) (hB : Below W.heap.size W W') : Rb w W' base q N M c :=
 ⟨h.rx.grown hB, h.box.on hB, h.below.trans (hB.mono h.rx.le), h.keep.trans (KeepX.below hB)⟩
theorem Rb.turn {w W W' : World} {base q N : Nat} {M M' : Nat -> Nat -> Int} {c : Cp} (h : Rb w W base q N M c) (hR : RefIs W' base q N M') (hF : Fit M') (hB : Below base W W') (hK : KeepX q W W') : Rb w W' base q N M' c :=
 ⟨h.rx.turn hR hF, ⟨hK.t _ _ _ (by decide) h.box.row⟩, h.below.trans hB, h.keep.trans hK⟩
theorem ws_fit {c : Cp} (h : Co c) : ∀ x ∈ c.ws, 0 <= x /\ x <= 9223372036854775807 := by
 unfold Co at h
 intro v hv
 simp only [Cp.ws, List.mem_cons, List.not_mem_nil, or_false] at hv
 rcases hv with rfl | rfl | rfl | rfl | rfl | rfl <;> omega
theorem rmakek_any (base q N : Nat) (f : Int) (c : Cp) (M : Nat -> Nat -> Int) (w : World) (h : Rx w base q N M) : Calls Tryz.prog 119 #[.pointer (some ⟨q, 0, none⟩), .int .i64 f, .agg #[.int .i64 c.tb, .int .i64 c.pg, .int .i64 c.l, .int .i64 c.e, .int .i64 c.fa, .int .i64 c.wh]] w fun x w' => x = .returned (.int .i64 (mkE N f c)) /\ Rx w' base q N (mkM N M f c) /\ Below base w w' /\ KeepX q w w' := by
 have HR : Hid (∀ w1, Calls Tryz.prog 188 #[.agg #[.int .i64 c.tb, .int .i64 c.pg, .int .i64 c.l, .int .i64 c.e, .int .i64 c.fa, .int .i64 c.wh]] w1 fun e w' => e = .returned (.bool (coB c)) /\ Below w1.heap.size w1 w') := fun w1 => right_any c w1
 have H0 := rhide (rb_new h c)
 have n1 := h.n1
 have n64 := h.n64
 clear h
 by_cases hco : coB c = true
 · have e2 : mkE N f c = errF N f := by unfold mkE; rw [if_pos hco]
   have e3 : mkM N M f c = layF N (Phead.mkM N M f 3 0 false 0) f c.ws := by unfold mkM; rw [if_pos hco]
   rw [hco] at HR
   have HH : Hid (∀ wc, Rb w wc base q N M c -> Calls Tryz.prog 179 #[.pointer (some ⟨q, 0, none⟩), .int .i64 f, .agg #[.int .i64 3, .int .i64 0, .bool false, .int .i64 0]] wc fun e w' => e = .returned (.int .i64 (errF N f)) /\ Rb w w' base q N (Phead.mkM N M f 3 0 false 0) c) := fun wc h => by
    have := Phead.hrmake_k base q N f 3 0 false 0 M wc n1 n64 h.rx.ref
    rw [made_err (by omega)] at this
    refine this.mono ?_
    rintro e w' ⟨rfl, h1, h2, h3⟩
    exact ⟨rfl, h.turn h1 (Phead.fit_mk h.rx.fit N f 3 0 false 0) h2 h3⟩
   rw [e2, e3]
   clear e2 e3
   generalize Phead.mkM N M f 3 0 false 0 = M1 at HH ⊢
   cases hf : okF N f
   · have e4 : errF N f = 1 := by unfold errF; rw [hf]; rfl
     rw [e4] at HH ⊢
     rw [lay_bad hf]
     clear e4 hf hco
     go_enter Tryz.func119, Tryz.ntmps119
     go_wp2_with (first
      | (go_at_call 188; refine (HR.out _).mono ?_; rintro e1 w1 ⟨rfl, hb⟩; have H1 := rhide (H0.out.on hb); clear hb HR H0)
      | (go_at_call 179; refine (HH.out _ H1.out).mono ?_; rintro e2 w2 ⟨rfl, hb⟩; have H2 := rhide hb; clear hb HH H1)
      | fail)
     go_ret
     exact ⟨rfl, H2.out.rx, H2.out.below, H2.out.keep⟩
   · have e4 : errF N f = 0 := by unfold errF; rw [if_pos hf]
     rw [e4] at HH ⊢
     have HC : Hid (Co c) := (coB_iff c).1 hco
     clear e4 hf hco
     go_enter Tryz.func119, Tryz.ntmps119
     go_wp2_with (first
      | (go_at_call 188; refine (HR.out _).mono ?_; rintro e1 w1 ⟨rfl, hb⟩; have H1 := rhide (H0.out.on hb); clear hb HR H0)
      | (go_at_call 179; refine (HH.out _ H1.out).mono ?_; rintro e2 w2 ⟨rfl, hb⟩; have H2 := rhide hb; clear hb HH H1; have x0 := H2.out.box.c0; have x1 := H2.out.box.c1; have x2 := H2.out.box.c2; have x3 := H2.out.box.c3; have x4 := H2.out.box.c4; have x5 := H2.out.box.c5)
      | (go_at_call 190; refine (rwords_any c _).mono ?_; rintro e3 w3 ⟨rfl, hl, hb⟩; have H3 := rhide (H2.out.on hb); have HL := rhide hl; clear hl hb H2 x0 x1 x2 x3 x4 x5)
      | (go_at_call 189; refine (rlay_any base q N _ 6 f c.ws M1 _ H3.out.rx HL.out (by rw [ws_len]; omega) (ws_fit HC.out)).mono ?_; rintro e4 w4 ⟨rfl, hx, hb, hk⟩; have H4 := rhide (And.intro hx (And.intro (H3.out.below.trans hb) (H3.out.keep.trans hk))); clear hx hb hk H3 HL)
      | fail)
     go_ret
     exact ⟨rfl, H4.out⟩
 · have e2 : mkE N f c = 1 := by unfold mkE; rw [if_neg hco]
   have e3 : mkM N M f c = M := by unfold mkM; rw [if_neg hco]
   rw [show coB c = false by simpa using hco] at HR
   rw [e2, e3]
   clear e2 e3 hco
   go_enter Tryz.func119, Tryz.ntmps119
   go_wp2_with (first
    | (go_at_call 188; refine (HR.out _).mono ?_; rintro e1 w1 ⟨rfl, hb⟩; have H1 := rhide (H0.out.on hb); clear hb HR H0)
    | fail)
   go_ret
   exact ⟨rfl, H1.out.rx, H1.out.below, H1.out.keep⟩
structure Rg (w W : World) (base q N : Nat) (M : Nat -> Nat -> Int) : Prop where
 res : RowC W w.heap.size cp0
 rx : Rx W base q N M
 below : Below w.heap.size w W
theorem rg_new {w : World} {base q N : Nat} {M : Nat -> Nat -> Int} (h : Rx w base q N M) : Rg w (w.alloc (.cells #[.int .i64 0, .int .i64 0, .int .i64 0, .int .i64 0, .int .i64 0, .int .i64 0] 156)) base q N M :=
 ⟨rowC_new w cp0, h.grown (bal (Below.refl _ _) _), bal (Below.refl _ _) _⟩
theorem Rg.on {w W W' : World} {base q N : Nat} {M : Nat -> Nat -> Int} (h : Rg w W base q N M) (hB : Below W.heap.size W W') : Rg w W' base q N M :=
 ⟨h.res.on hB, h.rx.grown hB, h.below.trans (hB.mono h.below.size)⟩
theorem rd_at {N : Nat} {M : Nat -> Nat -> Int} {f : Int} (hf : okF N f = true) {j : Nat} (hj : j < 6) : (rdL N M f 6)[j]?.getD 0 = wd (cpOf M f) j := by
 rw [rdL_at N M f hj]
 exact (ld_in (M := M) hf hj).1
theorem rd_no {N : Nat} {M : Nat -> Nat -> Int} {f : Int} (hf : okF N f = true) (h : rdB N M f 6 = false) : coB (cpOf M f) = false := by
 refine coB_no fun hc => ?_
 unfold rdB at h
 rw [decide_eq_false_iff_not] at h
 apply h
 intro i hi
 rw [(ld_in (M := M) hf hi).1]
 unfold Co at hc
 rcases (show i = 0 \/ i = 1 \/ i = 2 \/ i = 3 \/ i = 4 \/ i = 5 by omega) with rfl | rfl | rfl | rfl | rfl | rfl
 · show (cpOf M f).tb <= _; omega
 · show (cpOf M f).pg <= _; omega
 · show (cpOf M f).l <= _; omega
 · show (cpOf M f).e <= _; omega
 · show (cpOf M f).fa <= _; omega
 · show (cpOf M f).wh <= _; omega
theorem rget_any (base q N : Nat) (f : Int) (M : Nat -> Nat -> Int) (w : World) (h : Rx w base q N M) :
 Calls Tryz.prog 206 #[.pointer (some ⟨q, 0, none⟩), .int .i64 f] w fun e w' => e = .returned (.tuple #[.agg #[.int .i64 (gtC N M f).tb, .int .i64 (gtC N M f).pg, .int .i64 (gtC N M f).l, .int .i64 (gtC N M f).e, .int .i64 (gtC N M f).fa, .int .i64 (gtC N M f).wh], .int .i64 (gtE N M f)]) /\ Below w.heap.size w w' := by
 have HIs : Hid (∀ wc, Rx wc base q N M -> Calls Tryz.prog 208 #[.pointer (some ⟨q, 0, none⟩), .int .i64 f, .int .i64 3] wc fun e w' => e = .returned (.int .i64 (Phead.isE N M f 3)) /\ Below wc.heap.size wc w') := fun wc h => Phead.hris_any base q N f 3 M wc h.n1 h.n64 h.ref h.fit
 have H0 := rhide (rg_new h)
 clear h
 by_cases hk : Phead.isE N M f 3 = 0
 case neg =>
  have e1 : gtE N M f = 4 := by unfold gtE; rw [if_neg hk]
  have e2 : gtC N M f = cp0 := by unfold gtC; rw [if_neg (by rw [e1]; decide)]
  rw [e1, e2]
  generalize Phead.isE N M f 3 = E at HIs hk
  have hE : (E != 0) = true := by simp [hk]
  clear hk e1 e2
  go_enter Tryz.func206, Tryz.ntmps206
  go_wp2_with (first
   | (go_at_call 208; refine (HIs.out _ H0.out.rx).mono ?_; rintro e1 w1 ⟨rfl, hb⟩; have H1 := rhide (H0.out.on hb); clear hb HIs H0; have x0 := H1.out.res.c0; have x1 := H1.out.res.c1; have x2 := H1.out.res.c2; have x3 := H1.out.res.c3; have x4 := H1.out.res.c4; have x5 := H1.out.res.c5; have z := H1.out.res.fz)
   | fail)
  refine bodyPost_ret (v := .tuple #[.agg #[.int .i64 0, .int .i64 0, .int .i64 0, .int .i64 0, .int .i64 0, .int .i64 0], .int .i64 4]) (by simp [results, Tryz.results206, go_sem, x0, x1, x2, x3, x4, x5]) rfl ⟨rfl, ?_⟩
  exact bst (bst (bst (bst (bst (bst H1.out.below (Nat.le_refl _) _ _) (Nat.le_refl _) _ _) (Nat.le_refl _) _ _) (Nat.le_refl _) _ _) (Nat.le_refl _) _ _) (Nat.le_refl _) _ _
 case pos =>
  have hf := isE_ok hk
  rw [hk] at HIs
  cases hr : rdB N M f 6
  · have hc := rd_no hf hr
    have e1 : gtE N M f = 12 := by unfold gtE; rw [if_pos hk, hc]; rfl
    have e2 : gtC N M f = cp0 := by unfold gtC; rw [if_neg (by rw [e1]; decide)]
    rw [e1, e2]
    have HRd : Hid (∀ wc, Rx wc base q N M -> Calls Tryz.prog 254 #[.pointer (some ⟨q, 0, none⟩), .int .i64 f, .int .i64 6] wc fun x w' => x = .returned (.tuple #[.slice none 0 0, .bool false]) /\ Below wc.heap.size wc w') := fun wc h => (rread_any base q N 6 f M wc h (by omega) (by omega)).mono fun x w' ⟨hx, hB⟩ => by
     rcases hx with ⟨_, hx⟩ | ⟨hx, _⟩
     · exact ⟨hx, hB⟩
     · rw [hr] at hx
       cases hx
    clear hk e1 e2 hc hr hf
    go_enter Tryz.func206, Tryz.ntmps206
    go_wp2_with (first
     | (go_at_call 208; refine (HIs.out _ H0.out.rx).mono ?_; rintro e1 w1 ⟨rfl, hb⟩; have H1 := rhide (H0.out.on hb); clear hb HIs H0)
     | (go_at_call 254; refine (HRd.out _ H1.out.rx).mono ?_; rintro e2 w2 ⟨rfl, hb⟩; have H2 := rhide (H1.out.on hb); clear hb HRd H1; have x0 := H2.out.res.c0; have x1 := H2.out.res.c1; have x2 := H2.out.res.c2; have x3 := H2.out.res.c3; have x4 := H2.out.res.c4; have x5 := H2.out.res.c5; have z := H2.out.res.fz)
     | fail)
    refine bodyPost_ret (v := .tuple #[.agg #[.int .i64 0, .int .i64 0, .int .i64 0, .int .i64 0, .int .i64 0, .int .i64 0], .int .i64 12]) (by simp [results, Tryz.results206, go_sem, x0, x1, x2, x3, x4, x5]) rfl ⟨rfl, ?_⟩
    exact bst (bst (bst (bst (bst (bst H2.out.below (Nat.le_refl _) _ _) (Nat.le_refl _) _ _) (Nat.le_refl _) _ _) (Nat.le_refl _) _ _) (Nat.le_refl _) _ _) (Nat.le_refl _) _ _
  · have HRd : Hid (∀ wc, Rx wc base q N M -> Calls Tryz.prog 254 #[.pointer (some ⟨q, 0, none⟩), .int .i64 f, .int .i64 6] wc fun x w' => ∃ g cap, x = .returned (.tuple #[.slice (some ⟨g, 0, none⟩) 6 cap, .bool true]) /\ Below wc.heap.size wc w' /\ g < w'.heap.size /\ ∀ j, j < 6 -> w'.cell? ⟨g, j, none⟩ = some (.int .i64 (wd (cpOf M f) j))) := fun wc h => (rread_any base q N 6 f M wc h (by omega) (by omega)).mono fun x w' ⟨hx, hB⟩ => by
     rcases hx with ⟨hx, _⟩ | ⟨_, g, cap, hx, _, hg, hl⟩
     · rw [hr] at hx; cases hx
     · exact ⟨g, cap, hx, hB, hg, fun j hj => by rw [hl.cell (by rw [rdL_len]; exact hj), rd_at hf hj]⟩
    have HR : Hid (∀ w1, Calls Tryz.prog 188 #[.agg #[.int .i64 (cpOf M f).tb, .int .i64 (cpOf M f).pg, .int .i64 (cpOf M f).l, .int .i64 (cpOf M f).e, .int .i64 (cpOf M f).fa, .int .i64 (cpOf M f).wh]] w1 fun e w' => e = .returned (.bool (coB (cpOf M f))) /\ Below w1.heap.size w1 w') := fun w1 => right_any (cpOf M f) w1
    have e1 : gtE N M f = if coB (cpOf M f) = true then 0 else 12 := by unfold gtE; rw [if_pos hk]
    have e2 : gtC N M f = coX (cpOf M f) := by
     unfold gtC coX
     rw [e1]
     cases coB (cpOf M f) <;> rfl
    have e3 : coX (cpOf M f) = if coB (cpOf M f) = true then cpOf M f else cp0 := rfl
    rw [e1, e2, e3]
    clear e1 e2 e3 hk hr hf
    generalize coB (cpOf M f) = R at HR ⊢
    generalize cpOf M f = y at HRd HR ⊢
    obtain ⟨A, hA⟩ : ∃ A : Int, A = if R = true then 0 else 12 := ⟨_, rfl⟩
    obtain ⟨B, hB⟩ : ∃ B : Cp, B = if R = true then y else cp0 := ⟨_, rfl⟩
    rw [<- hA, <- hB]
    have HA := rhide hA
    have HB := rhide hB
    clear hA hB
    go_enter Tryz.func206, Tryz.ntmps206
    go_upto_region 6 with (first
     | (go_at_call 208; refine (HIs.out _ H0.out.rx).mono ?_; rintro e1 w1 ⟨rfl, hb⟩; have H1 := rhide (H0.out.on hb); clear hb HIs H0)
     | (go_at_call 254; refine (HRd.out _ H1.out.rx).mono ?_; rintro e2 w2 ⟨g, cap, rfl, hb, hg, hl⟩; have H2 := rhide (H1.out.on hb); have HL := rhide (And.intro hg hl); clear hb hl hg HRd H1)
     | fail)
    have l0 : w2.cell? ⟨g, 0, none⟩ = some (.int .i64 y.tb) := HL.out.2 0 (by omega)
    have l1 : w2.cell? ⟨g, 1, none⟩ = some (.int .i64 y.pg) := HL.out.2 1 (by omega)
    have l2 : w2.cell? ⟨g, 2, none⟩ = some (.int .i64 y.l) := HL.out.2 2 (by omega)
    have l3 : w2.cell? ⟨g, 3, none⟩ = some (.int .i64 y.e) := HL.out.2 3 (by omega)
    have l4 : w2.cell? ⟨g, 4, none⟩ = some (.int .i64 y.fa) := HL.out.2 4 (by omega)
    have l5 : w2.cell? ⟨g, 5, none⟩ = some (.int .i64 y.wh) := HL.out.2 5 (by omega)
    have lg := HL.out.1
    clear HL
    go_wp2
    go_region_held3 (fun w' => w'.cell? ⟨g, 0, none⟩ = some (.int .i64 y.tb) /\ w'.cell? ⟨g, 1, none⟩ = some (.int .i64 y.pg) /\ w'.cell? ⟨g, 2, none⟩ = some (.int .i64 y.l) /\ w'.cell? ⟨g, 3, none⟩ = some (.int .i64 y.e) /\ w'.cell? ⟨g, 4, none⟩ = some (.int .i64 y.fa) /\ w'.cell? ⟨g, 5, none⟩ = some (.int .i64 y.wh)) (first | exact ⟨by assumption, by assumption, by assumption, by assumption, by assumption, by assumption⟩ | go_keep)
    (fail)
    have r3 : RowC (w2.alloc (.cells #[.int .i64 y.tb, .int .i64 y.pg, .int .i64 y.l, .int .i64 y.e, .int .i64 y.fa, .int .i64 y.wh] 156)).drew w2.heap.size y := ⟨(rowC_new w2 y).row⟩
    have h3 : Rg w (w2.alloc (.cells #[.int .i64 y.tb, .int .i64 y.pg, .int .i64 y.l, .int .i64 y.e, .int .i64 y.fa, .int .i64 y.wh] 156)).drew base q N M := H2.out.on ((bal (Below.refl _ _) _).drew)
    have hE : w.heap.size ≠ w2.heap.size := Nat.ne_of_lt H2.out.res.lt
    clear l0 l1 l2 l3 l4 l5 lg H2
    generalize (w2.alloc (.cells #[.int .i64 y.tb, .int .i64 y.pg, .int .i64 y.l, .int .i64 y.e, .int .i64 y.fa, .int .i64 y.wh] 156)).drew = v at r3 h3 ⊢
    generalize w2.heap.size = E at r3 hE ⊢
    have R3 := rhide r3
    have H3 := rhide h3
    clear r3 h3
    have x0 := R3.out.c0
    have x1 := R3.out.c1
    have x2 := R3.out.c2
    have x3 := R3.out.c3
    have x4 := R3.out.c4
    have x5 := R3.out.c5
    cases R
    · go_wp2_with (first
       | (go_at_call 188; refine (HR.out _).mono ?_; rintro e3 w3 ⟨rfl, hb⟩; have H5 := rhide (H3.out.on hb); have R5 := rhide (R3.out.on hb); clear hb HR H3 R3; have y0 := H5.out.res.c0; have y1 := H5.out.res.c1; have y2 := H5.out.res.c2; have y3 := H5.out.res.c3; have y4 := H5.out.res.c4; have y5 := H5.out.res.c5; have z := H5.out.res.fz)
       | fail)
      refine bodyPost_ret (v := .tuple #[.agg #[.int .i64 0, .int .i64 0, .int .i64 0, .int .i64 0, .int .i64 0, .int .i64 0], .int .i64 12]) (by simp [results, Tryz.results206, go_sem, y0, y1, y2, y3, y4, y5]) rfl ⟨by rw [HA.out, HB.out]; rfl, ?_⟩
      exact bst (bst (bst (bst (bst (bst H5.out.below (Nat.le_refl _) _ _) (Nat.le_refl _) _ _) (Nat.le_refl _) _ _) (Nat.le_refl _) _ _) (Nat.le_refl _) _ _) (Nat.le_refl _) _ _
    · go_wp2_with (first
       | (go_at_call 188; refine (HR.out _).mono ?_; rintro e3 w3 ⟨rfl, hb⟩; have H5 := rhide (H3.out.on hb); have R5 := rhide (R3.out.on hb); clear hb HR H3 R3; have y0 := H5.out.res.c0; have y1 := H5.out.res.c1; have y2 := H5.out.res.c2; have y3 := H5.out.res.c3; have y4 := H5.out.res.c4; have y5 := H5.out.res.c5; have t0 := R5.out.c0; have t1 := R5.out.c1; have t2 := R5.out.c2; have t3 := R5.out.c3; have t4 := R5.out.c4; have t5 := R5.out.c5; have z := H5.out.res.fz)
       | fail)
      refine bodyPost_ret (v := .tuple #[.agg #[.int .i64 y.tb, .int .i64 y.pg, .int .i64 y.l, .int .i64 y.e, .int .i64 y.fa, .int .i64 y.wh], .int .i64 0]) (by simp [results, Tryz.results206, go_sem, y0, y1, y2, y3, y4, y5]) rfl ⟨by rw [HA.out, HB.out]; rfl, ?_⟩
      exact bst (bst (bst (bst (bst (bst H5.out.below (Nat.le_refl _) _ _) (Nat.le_refl _) _ _) (Nat.le_refl _) _ _) (Nat.le_refl _) _ _) (Nat.le_refl _) _ _) (Nat.le_refl _) _ _
end Pcomp
end Go.Proofs.YtkkclcihjojphaaGreatDoor
