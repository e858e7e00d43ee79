/- The iterators over what a component, a thread and an endpoint need: which needs they hand out, and in which order (written by mk_bc.py). -/
import Derived.Test.YtcgekcjnaadcmaaGreatDoorGonK
import Derived.OwnWalkIn
import Derived.Sort.QuietIn
namespace Go.Proofs.YtcgekcjnaadcmaaGreatDoor.Pbuild
open Go.Proofs.YtcgekcjnaadcmaaGreatDoor.Pbase
open Go.RowKit Go.Shelf
attribute [local go_sem] Oper.semAt_some
set_option linter.unusedVariables false
set_option linter.unusedSimpArgs false

/-- A block that holds these cells. -/
def RowB (W : World) (A : Nat) (t : TypeId) (cs : Array Value) : Prop := W.heap[A]? = some (.cells cs t (0, 0))
theorem RowB.lt {W : World} {A : Nat} {t : TypeId} {cs : Array Value} (h : RowB W A t cs) : A < W.heap.size := (Array.getElem?_eq_some_iff.1 h).1
theorem RowB.cell {W : World} {A : Nat} {t : TypeId} {cs : Array Value} (h : RowB W A t cs) (j : Nat) {v : Value} (hv : cs[j]? = some v) : W.cell? ⟨A, j, none⟩ = some v := (cell_of_row _ _ _ _ _ _ h).trans hv
theorem RowB.on {W W' : World} {A : Nat} {t : TypeId} {cs : Array Value} (h : RowB W A t cs) (hB : Below W.heap.size W W') : RowB W' A t cs := (hB.block A h.lt).trans h
/-- What a body must keep. -/
def KpB (A : Nat) (t : TypeId) (cs : Array Value) (X Y : World) : Prop := RowB X A t cs → RowB Y A t cs
theorem kpB_trans {A : Nat} {t : TypeId} {cs : Array Value} {X Y Z : World} (h : KpB A t cs X Y) (k : KpB A t cs Y Z) : KpB A t cs X Z := fun x => k (h x)
theorem kpB_below {A : Nat} {t : TypeId} {cs : Array Value} {X Y : World} (h : Below X.heap.size X Y) : KpB A t cs X Y := fun x => x.on h
theorem kpB_obj {A : Nat} {t : TypeId} {cs : Array Value} (W : World) (l : Nat) (o o' : Obj) (ho : W.heap[l]? = some o) (hc : o.isCells = false) : KpB A t cs W (W.putObj l o') := fun x => by
  have hne : l ≠ A := fun e => by subst e; rw [x] at ho; cases ho; cases hc
  unfold RowB at *
  rw [← x]
  simp only [World.putObj]
  exact Array.getElem?_setIfInBounds_ne hne
/-- A need that may be none: of a number and 1. -/
def more (r k : Int) : List (Int × Int) := if r = 0 then [] else [(wrap64 (r - 1), k)]
set_option maxRecDepth 100000 in
set_option maxHeartbeats 1000000 in
theorem ofC1_in (n : Nat) (hn : 1 ≤ n) (l A : Nat) (cs : Array Value) (a b : Int) (ha : cs[0]? = some (.int .i64 a)) {G : Int × Int → Prop} (ga : G (a, 1)) (gb : G (b, 2)) (hb : cs[1]? = some (.int .i64 b)) (J Jx : List { x : Int × Int // G x } → World → Prop)
    (hY : ∀ pre (x : { x : Int × Int // G x }) W, J pre W → pre.length < 2 → YieldAt Fence.wide (n - 1) Tryz.prog l (encG x) W fun e W' =>
      (e = .returned (.bool true) ∧ J (pre ++ [x]) W' ∧ KpB A 60 cs W W') ∨ (e = .returned (.bool false) ∧ Jx (pre ++ [x]) W'))
    (W : World) (hR : RowB W A 60 cs) (h0 : J [] W) :
    CallsIn Fence.wide n Tryz.prog 91 #[.func (.yield l) #[] #[], .pointer (some ⟨A, 0, none⟩)] W fun e W' => (∃ v, e = .returned v) ∧
      ((∃ ys, ys.map Subtype.val = [(a, 1), (b, 2)] ∧ J ys W') ∨ (∃ pre : List { x : Int × Int // G x }, True ∧ Jx pre W')) := by
  have c0 := hR.cell 0 ha
  refine callsIn_of_wp Tryz.func91 rfl trivial ?_ rfl
  simp only [Tryz.ntmps91, List.size_toArray, List.length_cons, List.length_nil, Nat.reduceAdd, Nat.reduceSub, Array.replicate_succ, Array.replicate_zero, List.push_toArray, List.append_toArray, List.nil_append, List.cons_append]
  obtain ⟨fn, tmps, assign, body, hy, hRn⟩ := hY [] ⟨(a, 1), ga⟩ W h0 (by simp)
  unfold encG at hy
  dsimp only at hy
  gi_wp2
  refine hRn.mono ?_
  rintro e W3 (⟨rfl, hJ3, hk3⟩ | ⟨rfl, hJx3⟩)
  · clear hy hRn c0
    obtain ⟨fn', tmps', assign', body', hy', hRn'⟩ := hY [⟨(a, 1), ga⟩] ⟨(b, 2), gb⟩ W3 hJ3 (by simp)
    have c1 := (hk3 hR).cell 1 hb
    have HK := nhide (hk3 hR)
    unfold encG at hy'
    dsimp only at hy'
    clear hY hJ3 hk3 hR h0
    gi_wp2
    refine hRn'.mono ?_
    rintro e W4 (⟨rfl, hJ4, hk4⟩ | ⟨rfl, hJx4⟩)
    · gi_wp2
      (first | refine bodyPost_ret (results_none rfl _ _ _) rfl ?_ | go_end0)
      exact ⟨⟨_, rfl⟩, .inl ⟨_, rfl, hJ4⟩⟩
    · gi_wp2
      (first | refine bodyPost_ret (results_none rfl _ _ _) rfl ?_ | go_end0)
      exact ⟨⟨_, rfl⟩, .inr ⟨_, trivial, hJx4⟩⟩
  · gi_wp2
    (first | refine bodyPost_ret (results_none rfl _ _ _) rfl ?_ | go_end0)
    exact ⟨⟨_, rfl⟩, .inr ⟨_, trivial, hJx3⟩⟩
theorem ofC_stops (n : Nat) (hn : 1 ≤ n) (A : Nat) (cs : Array Value) (a b : Int) (ha : cs[0]? = some (.int .i64 a)) {G : Int × Int → Prop} (ga : G (a, 1)) (gb : G (b, 2)) (hb : cs[1]? = some (.int .i64 b)) (w : World) (hR : RowB w A 60 cs) :
    SeqStopsK Fence.wide n Tryz.prog 91 #[.pointer (some ⟨A, 0, none⟩)] (encG (G := G)) (KpB A 60 cs) (fun (ys : List { x : Int × Int // G x }) => ys.map Subtype.val = [(a, 1), (b, 2)]) (fun (pre : List { x : Int × Int // G x }) => True) 2 w := fun l J Jx W hW hJ _ hY h0 =>
  ofC1_in n hn l A cs a b ha ga gb hb J Jx hY W (hR.on hW) h0
set_option maxRecDepth 100000 in
set_option maxHeartbeats 1000000 in
theorem ofT1_in (n : Nat) (hn : 1 ≤ n) (l A : Nat) (cs : Array Value) (a b : Int) (ha : cs[2]? = some (.int .i64 a)) {G : Int × Int → Prop} (ga : G (a, 5)) (gb : b ≠ 0 → G (wrap64 (b - 1), 6)) (hb : cs[3]? = some (.int .i64 b)) (J Jx : List { x : Int × Int // G x } → World → Prop)
    (hY : ∀ pre (x : { x : Int × Int // G x }) W, J pre W → pre.length < 2 → YieldAt Fence.wide (n - 1) Tryz.prog l (encG x) W fun e W' =>
      (e = .returned (.bool true) ∧ J (pre ++ [x]) W' ∧ KpB A 78 cs W W') ∨ (e = .returned (.bool false) ∧ Jx (pre ++ [x]) W'))
    (W : World) (hR : RowB W A 78 cs) (h0 : J [] W) :
    CallsIn Fence.wide n Tryz.prog 105 #[.func (.yield l) #[] #[], .pointer (some ⟨A, 0, none⟩)] W fun e W' => (∃ v, e = .returned v) ∧
      ((∃ ys, ys.map Subtype.val = (a, 5) :: more b 6 ∧ J ys W') ∨ (∃ pre : List { x : Int × Int // G x }, True ∧ Jx pre W')) := by
  have c0 := hR.cell 2 ha
  refine callsIn_of_wp Tryz.func105 rfl trivial ?_ rfl
  simp only [Tryz.ntmps105, List.size_toArray, List.length_cons, List.length_nil, Nat.reduceAdd, Nat.reduceSub, Array.replicate_succ, Array.replicate_zero, List.push_toArray, List.append_toArray, List.nil_append, List.cons_append]
  obtain ⟨fn, tmps, assign, body, hy, hRn⟩ := hY [] ⟨(a, 5), ga⟩ W h0 (by simp)
  unfold encG at hy
  dsimp only at hy
  gi_wp2
  refine hRn.mono ?_
  rintro e W3 (⟨rfl, hJ3, hk3⟩ | ⟨rfl, hJx3⟩)
  · clear hy hRn c0
    by_cases hb0 : b = 0
    · subst hb0
      have c1 := (hk3 hR).cell 3 hb
      gi_wp2
      (first | refine bodyPost_ret (results_none rfl _ _ _) rfl ?_ | go_end0)
      exact ⟨⟨_, rfl⟩, .inl ⟨[⟨(a, 5), ga⟩], by simp [more], hJ3⟩⟩
    · have c1' := (hk3 hR).cell 3 hb
      have hne : (b == 0) = false := by simp [hb0]
      obtain ⟨fn', tmps', assign', body', hy', hRn'⟩ := hY [⟨(a, 5), ga⟩] ⟨(wrap64 (b - 1), 6), (gb hb0)⟩ W3 hJ3 (by simp)
      have c1 := (hk3 hR).cell 3 hb
      have HK := nhide (hk3 hR)
      unfold encG at hy'
      dsimp only at hy'
      clear hY hJ3 hk3 hR h0
      gi_wp2
      refine hRn'.mono ?_
      rintro e W4 (⟨rfl, hJ4, hk4⟩ | ⟨rfl, hJx4⟩)
      · gi_wp2
        (first | refine bodyPost_ret (results_none rfl _ _ _) rfl ?_ | go_end0)
        exact ⟨⟨_, rfl⟩, .inl ⟨[⟨(a, 5), ga⟩, ⟨(wrap64 (b - 1), 6), (gb hb0)⟩], by simp [more, hb0], hJ4⟩⟩
      · gi_wp2
        (first | refine bodyPost_ret (results_none rfl _ _ _) rfl ?_ | go_end0)
        exact ⟨⟨_, rfl⟩, .inr ⟨_, trivial, hJx4⟩⟩
  · gi_wp2
    (first | refine bodyPost_ret (results_none rfl _ _ _) rfl ?_ | go_end0)
    exact ⟨⟨_, rfl⟩, .inr ⟨_, trivial, hJx3⟩⟩
theorem ofT_stops (n : Nat) (hn : 1 ≤ n) (A : Nat) (cs : Array Value) (a b : Int) (ha : cs[2]? = some (.int .i64 a)) {G : Int × Int → Prop} (ga : G (a, 5)) (gb : b ≠ 0 → G (wrap64 (b - 1), 6)) (hb : cs[3]? = some (.int .i64 b)) (w : World) (hR : RowB w A 78 cs) :
    SeqStopsK Fence.wide n Tryz.prog 105 #[.pointer (some ⟨A, 0, none⟩)] (encG (G := G)) (KpB A 78 cs) (fun (ys : List { x : Int × Int // G x }) => ys.map Subtype.val = (a, 5) :: more b 6) (fun (pre : List { x : Int × Int // G x }) => True) 2 w := fun l J Jx W hW hJ _ hY h0 =>
  ofT1_in n hn l A cs a b ha ga gb hb J Jx hY W (hR.on hW) h0
set_option maxRecDepth 100000 in
set_option maxHeartbeats 1000000 in
theorem ofR1_in (n : Nat) (hn : 1 ≤ n) (l A : Nat) (cs : Array Value) (a b : Int) (ha : cs[0]? = some (.int .i64 a)) {G : Int × Int → Prop} (ga : G (a, 4)) (gb : b ≠ 0 → G (wrap64 (b - 1), 6)) (hb : cs[1]? = some (.int .i64 b)) (J Jx : List { x : Int × Int // G x } → World → Prop)
    (hY : ∀ pre (x : { x : Int × Int // G x }) W, J pre W → pre.length < 2 → YieldAt Fence.wide (n - 1) Tryz.prog l (encG x) W fun e W' =>
      (e = .returned (.bool true) ∧ J (pre ++ [x]) W' ∧ KpB A 40 cs W W') ∨ (e = .returned (.bool false) ∧ Jx (pre ++ [x]) W'))
    (W : World) (hR : RowB W A 40 cs) (h0 : J [] W) :
    CallsIn Fence.wide n Tryz.prog 111 #[.func (.yield l) #[] #[], .pointer (some ⟨A, 0, none⟩)] W fun e W' => (∃ v, e = .returned v) ∧
      ((∃ ys, ys.map Subtype.val = (a, 4) :: more b 6 ∧ J ys W') ∨ (∃ pre : List { x : Int × Int // G x }, True ∧ Jx pre W')) := by
  have c0 := hR.cell 0 ha
  refine callsIn_of_wp Tryz.func111 rfl trivial ?_ rfl
  simp only [Tryz.ntmps111, List.size_toArray, List.length_cons, List.length_nil, Nat.reduceAdd, Nat.reduceSub, Array.replicate_succ, Array.replicate_zero, List.push_toArray, List.append_toArray, List.nil_append, List.cons_append]
  obtain ⟨fn, tmps, assign, body, hy, hRn⟩ := hY [] ⟨(a, 4), ga⟩ W h0 (by simp)
  unfold encG at hy
  dsimp only at hy
  gi_wp2
  refine hRn.mono ?_
  rintro e W3 (⟨rfl, hJ3, hk3⟩ | ⟨rfl, hJx3⟩)
  · clear hy hRn c0
    by_cases hb0 : b = 0
    · subst hb0
      have c1 := (hk3 hR).cell 1 hb
      gi_wp2
      (first | refine bodyPost_ret (results_none rfl _ _ _) rfl ?_ | go_end0)
      exact ⟨⟨_, rfl⟩, .inl ⟨[⟨(a, 4), ga⟩], by simp [more], hJ3⟩⟩
    · have c1' := (hk3 hR).cell 1 hb
      have hne : (b == 0) = false := by simp [hb0]
      obtain ⟨fn', tmps', assign', body', hy', hRn'⟩ := hY [⟨(a, 4), ga⟩] ⟨(wrap64 (b - 1), 6), (gb hb0)⟩ W3 hJ3 (by simp)
      have c1 := (hk3 hR).cell 1 hb
      have HK := nhide (hk3 hR)
      unfold encG at hy'
      dsimp only at hy'
      clear hY hJ3 hk3 hR h0
      gi_wp2
      refine hRn'.mono ?_
      rintro e W4 (⟨rfl, hJ4, hk4⟩ | ⟨rfl, hJx4⟩)
      · gi_wp2
        (first | refine bodyPost_ret (results_none rfl _ _ _) rfl ?_ | go_end0)
        exact ⟨⟨_, rfl⟩, .inl ⟨[⟨(a, 4), ga⟩, ⟨(wrap64 (b - 1), 6), (gb hb0)⟩], by simp [more, hb0], hJ4⟩⟩
      · gi_wp2
        (first | refine bodyPost_ret (results_none rfl _ _ _) rfl ?_ | go_end0)
        exact ⟨⟨_, rfl⟩, .inr ⟨_, trivial, hJx4⟩⟩
  · gi_wp2
    (first | refine bodyPost_ret (results_none rfl _ _ _) rfl ?_ | go_end0)
    exact ⟨⟨_, rfl⟩, .inr ⟨_, trivial, hJx3⟩⟩
theorem ofR_stops (n : Nat) (hn : 1 ≤ n) (A : Nat) (cs : Array Value) (a b : Int) (ha : cs[0]? = some (.int .i64 a)) {G : Int × Int → Prop} (ga : G (a, 4)) (gb : b ≠ 0 → G (wrap64 (b - 1), 6)) (hb : cs[1]? = some (.int .i64 b)) (w : World) (hR : RowB w A 40 cs) :
    SeqStopsK Fence.wide n Tryz.prog 111 #[.pointer (some ⟨A, 0, none⟩)] (encG (G := G)) (KpB A 40 cs) (fun (ys : List { x : Int × Int // G x }) => ys.map Subtype.val = (a, 4) :: more b 6) (fun (pre : List { x : Int × Int // G x }) => True) 2 w := fun l J Jx W hW hJ _ hY h0 =>
  ofR1_in n hn l A cs a b ha ga gb hb J Jx hY W (hR.on hW) h0
end Go.Proofs.YtcgekcjnaadcmaaGreatDoor.Pbuild
