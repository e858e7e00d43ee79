/- What build's right and room answer in a machine without parts: the first need is refused (written by mk_ba.py). -/
import Derived.Test.YtiapfapmgjngpaaGreatDoorBunBase
import Derived.WalkKit
import Derived.Below
import Derived.Shelf.Abstract
import Derived.RangeFuncNested
import Derived.RangeFuncBound
import Derived.RangeFuncBox
import Derived.RangeFuncCalls
import Derived.RangeFuncLeaves
import Derived.RangeFuncWrites
import Derived.TacticsInMore
import Derived.LoopNIn
import Derived.LoopIn
import Derived.RegionIn
import Derived.Stop.RegionWithIn
namespace Go.Proofs.YtiapfapmgjngpaaGreatDoor.Pbuild
open Go.Proofs.YtiapfapmgjngpaaGreatDoor.Pbase
open Go.RowKit Go.Shelf
attribute [local go_sem] Oper.semAt_some
set_option linter.unusedVariables false
set_option linter.unusedSimpArgs false

theorem nhide {p : Prop} (h : p) : Hid p := h
theorem bdr {w x : World} (h : Below w.heap.size w x) : Below w.heap.size w x.drew := ⟨h.os, h.tape, h.output, h.size, h.block⟩
theorem nxt {W X w1 : World} (h : Below W.heap.size W X) (h1 : Below X.heap.size X w1) : Below W.heap.size W w1 := h.trans (h1.mono h.size)
theorem alz {A w2 : World} {o : Obj} (h : Below (A.alloc o).heap.size (A.alloc o) w2) : w2.heap[A.heap.size]? = some o := (h.block _ (by simp)).trans (heap_alloc_new A o)
theorem alzd {A w2 : World} {o : Obj} (h : Below (A.alloc o).drew.heap.size (A.alloc o).drew w2) : w2.heap[A.heap.size]? = some o := (h.block _ (by show A.heap.size < (A.alloc o).heap.size; simp)).trans (heap_alloc_new A o)
theorem keeps_below {W W' : World} (h : Below W.heap.size W W') : KeepsOthers W W' := ⟨h.size, fun k o hk _ => (h.block k (Array.getElem?_eq_some_iff.1 hk).1).trans hk⟩
theorem kpz {X w2 : World} {k : Nat} {o : Obj} (h : Below X.heap.size X w2) (hk : X.heap[k]? = some o) : w2.heap[k]? = some o := (h.block _ (Array.getElem?_eq_some_iff.1 hk).1).trans hk
theorem frz_row {w : World} {b : Nat} {cs : Array Value} {t : TypeId} (j : Nat) (h : w.heap[b]? = some (.cells cs t (0, 0))) : w.frozen? ⟨b, j, none⟩ = false := by simp [World.frozen?, h]
theorem z8 {w : World} {b : Nat} {t : TypeId} (h : w.heap[b]? = some (.cells #[.int .i64 0, .int .i64 0, .bool false, .int .i64 0] t (0, 0))) :
    w.cell? ⟨b, 0, none⟩ = some (.int .i64 0) ∧ w.cell? ⟨b, 1, none⟩ = some (.int .i64 0) ∧ w.cell? ⟨b, 2, none⟩ = some (.bool false) ∧ w.cell? ⟨b, 3, none⟩ = some (.int .i64 0) ∧
    w.frozen? ⟨b, 0, none⟩ = false ∧ w.frozen? ⟨b, 1, none⟩ = false ∧ w.frozen? ⟨b, 2, none⟩ = false ∧ w.frozen? ⟨b, 3, none⟩ = false :=
  ⟨(cell_of_row _ _ 0 _ _ _ h).trans rfl, (cell_of_row _ _ 1 _ _ _ h).trans rfl, (cell_of_row _ _ 2 _ _ _ h).trans rfl, (cell_of_row _ _ 3 _ _ _ h).trans rfl, frz_row 0 h, frz_row 1 h, frz_row 2 h, frz_row 3 h⟩
/-- A need: a frame, and the kind that must be there. -/
def encN (x : Int × Int) : Array Value := #[.agg #[.int .i64 x.1, .int .i64 x.2]]
/-- Between two rounds: the machine and the answer in boxes of their own; nobody was asked yet. -/
structure NoI (w : World) (mv : Value) (pre : List (Int × Int)) (W : World) : Prop where
  none : pre = []
  bm : Boxed W w.heap.size 24 mv
  be : Boxed W (w.heap.size + 1) 28 (.int .i64 0)
  below : Below w.heap.size w W
theorem noI_own (w : World) (mv : Value) {B' : Nat} (hB : w.heap.size ≤ B') : OwnFrom B' (NoI w mv) := fun pre A C row hs hg hr => by
  have hr' : ∀ r, row = some r → ∃ o : Obj, A.heap[r]? = some o ∧ o.isCells = false := fun r e => (hr r e).2
  exact ⟨hs.none, boxed_own _ _ (fun _ : Unit => mv) () A C row hs.bm hg hr', boxed_own _ _ (fun _ : Unit => .int .i64 0) () A C row hs.be hg hr', ownFrom_below (Nat.le_refl _) hB pre A C row hs.below hg hr⟩
/-- Where a round has left: refused. -/
structure NoX (w : World) (e : Int) (c : Code) (pre : List (Int × Int)) (W : World) : Prop where
  code : c = .ret
  be : Boxed W (w.heap.size + 1) 28 (.int .i64 e)
  below : Below w.heap.size w W
theorem noX_own (w : World) (e : Int) (c : Code) {B' : Nat} (hB : w.heap.size ≤ B') : OwnFrom B' (NoX w e c) := fun pre A C row hs hg hr => by
  have hr' : ∀ r, row = some r → ∃ o : Obj, A.heap[r]? = some o ∧ o.isCells = false := fun r e => (hr r e).2
  exact ⟨hs.code, boxed_own _ _ (fun _ : Unit => .int .i64 e) () A C row hs.be hg hr', ownFrom_below (Nat.le_refl _) hB pre A C row hs.below hg hr⟩
/-- What a round begins with: the need in a block of its own. -/
def Aright (w : World) (mv : Value) (gf : Nat) (lb : Array Value) (x : Int × Int) (a' : Act) (W : World) : Prop :=
  ∃ q, W.heap[q]? = some (.cells #[.int .i64 x.1, .int .i64 x.2] 271 (0, 0)) ∧ w.heap.size + 1 < q ∧ a' = { tmps := #[mv, .func (.func gf) #[] lb, .pointer (some ⟨w.heap.size, 0, none⟩), undef, .pointer (some ⟨w.heap.size + 1, 0, none⟩), .pointer (some ⟨q, 0, none⟩), undef, undef, .func (.func gf) #[] lb, .agg #[.int .i64 x.1, .int .i64 x.2], undef, undef, undef, undef, undef, undef, undef, undef, undef, undef, undef, undef, undef, undef, undef, undef, undef, undef, undef, undef, undef, undef], defers := [] }
theorem aright_own (w : World) (mv : Value) (gf : Nat) (lb : Array Value) (x : Int × Int) (a' : Act) (B' : Nat) : OwnFrom B' (fun (_ : Unit) W => Aright w mv gf lb x a' W) := fun _ A C row hs hg hr => by
  obtain ⟨q, hq, hlt, e⟩ := hs
  exact ⟨q, (hg.block q (Array.getElem?_eq_some_iff.1 hq).1 (fun e' => by obtain ⟨_, o, ho, hc⟩ := hr q e'.symm; rw [hq] at ho; cases ho; cases hc)).trans hq, hlt, e⟩
set_option maxRecDepth 100000 in
set_option maxHeartbeats 4000000 in
theorem right_no {w : World} {q0 : Option Addr} (gf : Nat) (lb : Array Value) (ns : List (Int × Int)) (hns : ns ≠ []) (hen : ∀ args w, (callFunc gf args).run Tryz.prog w = .ok (.enter gf args) w)
    {Kp : World → World → Prop} (hKt : ∀ {A B C : World}, Kp A B → Kp B C → Kp A C) (hKB : ∀ {X Y : World}, Below X.heap.size X Y → Kp X Y)
    (hKo : ∀ (W : World) (l : Nat) (o o' : Obj), w.heap.size ≤ l → W.heap[l]? = some o → o.isCells = false → o.isWalk = false → Kp W (W.putObj l o'))
    (hseq : ∀ V, Below w.heap.size w V → SeqStopsK Fence.wide 8 Tryz.prog gf lb encN Kp (fun ys => ys = ns) (fun pre => True) 2 V)
    (HM : Hid (∀ wx, Below w.heap.size w wx → Calls Tryz.prog 21 #[.pointer q0] wx fun e w' => e = .returned (.pointer none) ∧ Below wx.heap.size wx w'))
    (HG : Hid (∀ wx (f : Int), Calls Tryz.prog 82 #[.pointer none, .int .i64 f] wx fun e w' => e = .returned (.tuple #[.agg #[.int .i64 0, .int .i64 0, .bool false, .int .i64 0], .int .i64 13]) ∧ Below wx.heap.size wx w')) :
    Calls Tryz.prog 67 #[.pointer q0, .func (.func gf) #[] lb] w fun e W' => e = .returned (.int .i64 4) ∧ Below w.heap.size w W' := by
  obtain ⟨mv, hmv⟩ : ∃ mv, mv = Value.pointer q0 := ⟨_, rfl⟩
  refine (callsIn_wide (n := 9)).1 ?_
  refine callsIn_of_wp_marks Tryz.func67 rfl trivial ?_ rfl
  simp only [Tryz.ntmps67, List.size_toArray, List.length_cons, List.length_nil, Nat.reduceAdd, Nat.reduceSub, Array.replicate_succ, Array.replicate_zero, List.push_toArray, List.append_toArray, List.nil_append, List.cons_append]
  gi_wp2
  have hm : Tryz.prog.follows .mixedOrders = true := by kernel_rfl
  have b1 := Boxed.new w 24 (.pointer q0)
  have b2 := Boxed.new (w.alloc (.cells #[.pointer q0] 24)) 28 (.int .i64 0)
  simp only [World.size_alloc] at b1 b2
  have hI0 : NoI w (.pointer q0) [] ((w.alloc (.cells #[.pointer q0] 24)).alloc (.cells #[.int .i64 0] 28)) := ⟨rfl, b1.alloc _, b2, bal (bal (Below.refl _ _) _) _⟩
  have hs0 : ((w.alloc (.cells #[.pointer q0] 24)).alloc (.cells #[.int .i64 0] 28)).heap.size = w.heap.size + 2 := by simp
  clear b1 b2
  generalize (w.alloc _).alloc _ = V at hI0 hs0 ⊢
  refine wpIn_rangeFunc_ownH rfl (by omega) (gf := gf) (lb := lb) rfl trivial hen (hseq V hI0.below) hKt (fun W l o o' hl hWl ho hw => hKo W l o o' (by omega) hWl ho hw) (Below.refl _ _) (fun _ => rfl)
    (NoI w (.pointer q0)) (NoX w 4) (noI_own w (.pointer q0) (by omega)) (fun c => noX_own w 4 c (by omega)) hI0
    (Aright w (.pointer q0) gf lb) (fun x a' => aright_own w (.pointer q0) gf lb x a' _) ?assign ?body ?done ?stop
  case assign =>
    intro l pre x W K hI hK
    unfold encN
    gi_wp2
    exact hK _ _ ((KeepsOthers.alloc W _).from _) (hKB (bal (Below.refl _ _) _)) (noI_own w (.pointer q0) (Nat.le_refl _) pre W _ none hI (World.grownBy_alloc W _ none) (fun r e => by cases e)) ⟨W.heap.size, heap_alloc_new W _, hI.be.lt, rfl⟩
  case body =>
    rintro l pre x a' W hl _ hI ⟨q, hq, hlt, rfl⟩ hpl
    obtain rfl := hI.none
    have hB := hI.below
    have c0 : W.cell? ⟨w.heap.size, 0, none⟩ = some (.pointer q0) := hI.bm.cell
    have ke : W.cell? ⟨w.heap.size + 1, 0, none⟩ = some (.int .i64 0) := hI.be.cell
    have fe := hI.be.frozen
    have k0 : W.cell? ⟨q, 0, none⟩ = some (.int .i64 x.1) := (cell_of_row _ _ _ _ _ _ hq).trans rfl
    have k1 : W.cell? ⟨q, 1, none⟩ = some (.int .i64 x.2) := (cell_of_row _ _ _ _ _ _ hq).trans rfl
    have hqs : q < W.heap.size := (Array.getElem?_eq_some_iff.1 hq).1
    have hws : w.heap.size + 1 < W.heap.size := hI.be.lt
    clear hq
    have ka0 : ∀ o, (W.alloc o).cell? ⟨q, 0, none⟩ = some (.int .i64 x.1) := fun o => ((bal (Below.refl _ W) o).cell (p := ⟨q, 0, none⟩) hqs).trans k0
    have ka1 : ∀ o, (W.alloc o).cell? ⟨w.heap.size, 0, none⟩ = some (.pointer q0) := fun o => ((bal (Below.refl _ W) o).cell (p := ⟨w.heap.size, 0, none⟩) (Nat.lt_of_succ_lt hws)).trans c0
    have HB0 : Hid (Below W.heap.size W W) := Below.refl _ _
    gi_wp2
    rename_i K0 hK0
    have HK : ∀ (b : Nat) (W' : World), Below W.heap.size W W' → K0 { tmps := #[.pointer q0, .func (.func gf) #[] lb, .pointer (some ⟨w.heap.size, 0, none⟩), undef, .pointer (some ⟨w.heap.size + 1, 0, none⟩), .pointer (some ⟨q, 0, none⟩), .pointer (some ⟨b, 0, none⟩), .int .i64 13, .func (.func gf) #[] lb, .agg #[.int .i64 x.1, .int .i64 x.2], .tuple #[.agg #[.int .i64 0, .int .i64 0, .bool false, .int .i64 0], .int .i64 13], .pointer q0, .pointer none, .pointer (some ⟨q, 0, none⟩), .int .i64 x.1, .tuple #[.agg #[.int .i64 0, .int .i64 0, .bool false, .int .i64 0], .int .i64 13], .agg #[.int .i64 0, .int .i64 0, .bool false, .int .i64 0], .int .i64 13, undef, undef, undef, undef, undef, undef, undef, undef, undef, undef, undef, undef, undef, undef], defers := [] } W' := by
      intro b W' hb
      have k2 : W'.cell? ⟨w.heap.size + 1, 0, none⟩ = some (.int .i64 0) := (hb.cell (p := ⟨w.heap.size + 1, 0, none⟩) hws).trans ke
      have k3 : W'.frozen? ⟨w.heap.size + 1, 0, none⟩ = false := (World.frozen?_of_block (hb.block _ hws)).trans fe
      have Hb := nhide hb
      have HI := nhide hI
      clear hb hI
      refine hK0 _ _ ?_
      gi_wp2
      refine ⟨((keeps_below Hb.out).trans (KeepsOthers.setCell _ _ _)).from _, rfl, Boxed.set (v := .int .i64 0) _ ((Hb.out.block _ hws).trans HI.out.be), (HI.out.below.trans (Hb.out.mono HI.out.below.size)).setCell (p := ⟨w.heap.size + 1, 0, none⟩) (Nat.le_succ _) _⟩
    gi_region_with (first
      | (refine ⟨trivial, ?_⟩; gi_at_call 21; refine (CallsIn.inRound l (callsIn_wide.2 (HM.out _ ?hb))).mono ?_; (case hb => refine hB.trans (Below.mono ?_ hB.size); (repeat (first | exact HB0.out | refine bal ?_ _ | refine bdr ?_))); rintro e w1 ⟨rfl, hw1⟩; have HB1 := nhide (nxt (W := W) (by (repeat (first | exact HB0.out | refine bal ?_ _ | refine bdr ?_))) hw1); (try (have hz1 := alzd hw1; obtain ⟨z10, z11, z12, z13, z14, z15, z16, z17⟩ := z8 hz1)); clear hw1; have c1a : w1.cell? ⟨q, 0, none⟩ = some (.int .i64 x.1) := (HB1.out.cell (p := ⟨q, 0, none⟩) hqs).trans k0; have c1b : w1.cell? ⟨q, 1, none⟩ = some (.int .i64 x.2) := (HB1.out.cell (p := ⟨q, 1, none⟩) hqs).trans k1; have c1c : w1.cell? ⟨w.heap.size + 1, 0, none⟩ = some (.int .i64 0) := (HB1.out.cell (p := ⟨w.heap.size + 1, 0, none⟩) hws).trans ke; have c1e : ∀ o, (w1.alloc o).cell? ⟨q, 0, none⟩ = some (.int .i64 x.1) := fun o => ((bal (Below.refl _ w1) o).cell (p := ⟨q, 0, none⟩) (Nat.lt_of_lt_of_le hqs HB1.out.size)).trans c1a; have c1d : w1.frozen? ⟨w.heap.size + 1, 0, none⟩ = false := (World.frozen?_of_block (HB1.out.block _ hws)).trans fe)
      | (refine ⟨trivial, ?_⟩; gi_at_call 82; refine (CallsIn.inRound l (callsIn_wide.2 (HG.out _ _))).mono ?_; rintro e w2 ⟨rfl, hw2⟩; have HB2 := nhide (nxt (W := W) (by (repeat (first | exact HB1.out | refine bal ?_ _ | refine bdr ?_))) hw2); (first | (have hz2 := kpz hw2 hz1; obtain ⟨z20, z21, z22, z23, z24, z25, z26, z27⟩ := z8 hz2) | (have hz2 := alz hw2; obtain ⟨z20, z21, z22, z23, z24, z25, z26, z27⟩ := z8 hz2) | skip); clear hw2; have c2a : w2.cell? ⟨q, 0, none⟩ = some (.int .i64 x.1) := (HB2.out.cell (p := ⟨q, 0, none⟩) hqs).trans k0; have c2b : w2.cell? ⟨q, 1, none⟩ = some (.int .i64 x.2) := (HB2.out.cell (p := ⟨q, 1, none⟩) hqs).trans k1; have c2c : w2.cell? ⟨w.heap.size + 1, 0, none⟩ = some (.int .i64 0) := (HB2.out.cell (p := ⟨w.heap.size + 1, 0, none⟩) hws).trans ke; have c2e : ∀ o, (w2.alloc o).cell? ⟨q, 0, none⟩ = some (.int .i64 x.1) := fun o => ((bal (Below.refl _ w2) o).cell (p := ⟨q, 0, none⟩) (Nat.lt_of_lt_of_le hqs HB2.out.size)).trans c2a; have c2d : w2.frozen? ⟨w.heap.size + 1, 0, none⟩ = false := (World.frozen?_of_block (HB2.out.block _ hws)).trans fe)
      | fail)
    all_goals (refine HK _ _ ?_; (repeat (first | exact HB2.out | refine bst ?_ (by first | exact Nat.le_refl _ | exact HB1.out.size | exact HB2.out.size) _ _ | refine bal ?_ _ | refine bdr ?_)))
  case done =>
    rintro D ys W hD hys hI hK
    exact absurd (hys.symm.trans hI.none) hns
  case stop =>
    rintro D c pre W hD _ hX hK
    obtain ⟨rfl, hbe, hB⟩ := hX
    have ke := hbe.cell
    gi_wp2
    refine ⟨by simp, .inl ⟨_, _, rfl, run_takeDeferred hK, ?_⟩⟩
    have e2 := cell_kept ke (grownBy_putObj' W D (.deferred none)) (fun r e => by cases e; exact ⟨_, hK, rfl⟩)
    exact ⟨.int .i64 4, by simp [results, Tryz.f67, go_sem, e2], rfl, hB.trans (belowK_b (w := w) (Nat.le_refl _) W D _ (.deferred none) (by omega) hK rfl rfl)⟩
end Go.Proofs.YtiapfapmgjngpaaGreatDoor.Pbuild
