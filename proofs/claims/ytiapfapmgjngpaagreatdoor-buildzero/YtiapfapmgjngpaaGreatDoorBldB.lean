/- What build's room answers in a machine without parts: the first need is refused (written by mk_ba.py). -/
import Derived.Test.YtiapfapmgjngpaaGreatDoorBldA
import Derived.Stop.RegionWithIn
namespace Go.Proofs.YtiapfapmgjngpaaGreatDoor.Pbuild
open Go.Proofs.YtiapfapmgjngpaaGreatDoor.Pbase
open Go.RowKit Go.Shelf
attribute [local go_sem] Oper.semAt_some
set_option linter.unusedVariables false
set_option linter.unusedSimpArgs false

/-- What a round begins with: the need in a block of its own. -/
def Aroom (w : World) (mv : Value) (gf : Nat) (lb : Array Value) (x : Int × Int) (a' : Act) (W : World) : Prop :=
  ∃ q, W.heap[q]? = some (.cells #[.int .i64 x.1, .int .i64 x.2] 271 (0, 0)) ∧ w.heap.size + 1 < q ∧ a' = { tmps := #[mv, .func (.func gf) #[] lb, .pointer (some ⟨w.heap.size, 0, none⟩), undef, .pointer (some ⟨w.heap.size + 1, 0, none⟩), .pointer (some ⟨q, 0, none⟩), .func (.func gf) #[] lb, .agg #[.int .i64 x.1, .int .i64 x.2], undef, undef, undef, undef, undef, undef, undef, undef, undef, undef, undef, undef, undef, undef], defers := [] }
theorem aroom_own (w : World) (mv : Value) (gf : Nat) (lb : Array Value) (x : Int × Int) (a' : Act) (B' : Nat) : OwnFrom B' (fun (_ : Unit) W => Aroom w mv gf lb x a' W) := fun _ A C row hs hg hr => by
  obtain ⟨q, hq, hlt, e⟩ := hs
  exact ⟨q, (hg.block q (Array.getElem?_eq_some_iff.1 hq).1 (fun e' => by obtain ⟨_, o, ho, hc⟩ := hr q e'.symm; rw [hq] at ho; cases ho; cases hc)).trans hq, hlt, e⟩
set_option maxRecDepth 100000 in
set_option maxHeartbeats 4000000 in
theorem room_no {w : World} {q0 : Option Addr} (gf : Nat) (lb : Array Value) (ns : List (Int × Int)) (hns : ns ≠ []) (hen : ∀ args w, (callFunc gf args).run Tryz.prog w = .ok (.enter gf args) w)
    {Kp : World → World → Prop} (hKt : ∀ {A B C : World}, Kp A B → Kp B C → Kp A C) (hKB : ∀ {X Y : World}, Below X.heap.size X Y → Kp X Y)
    (hKo : ∀ (W : World) (l : Nat) (o o' : Obj), w.heap.size ≤ l → W.heap[l]? = some o → o.isCells = false → o.isWalk = false → Kp W (W.putObj l o'))
    (hseq : ∀ V, Below w.heap.size w V → SeqStopsK Fence.wide 8 Tryz.prog gf lb encN Kp (fun ys => ys = ns) (fun pre => True) 2 V)
    (HM : Hid (∀ wx, Below w.heap.size w wx → Calls Tryz.prog 25 #[.pointer q0] wx fun e w' => e = .returned (.pointer none) ∧ Below wx.heap.size wx w'))
    (HG : Hid (∀ wx (f : Int), Calls Tryz.prog 53 #[.pointer none, .int .i64 f] wx fun e w' => e = .returned (.int .i64 0) ∧ Below wx.heap.size wx w')) :
    Calls Tryz.prog 69 #[.pointer q0, .func (.func gf) #[] lb] w fun e W' => e = .returned (.int .i64 2) ∧ Below w.heap.size w W' := by
  obtain ⟨mv, hmv⟩ : ∃ mv, mv = Value.pointer q0 := ⟨_, rfl⟩
  refine (callsIn_wide (n := 9)).1 ?_
  refine callsIn_of_wp_marks Tryz.func69 rfl trivial ?_ rfl
  simp only [Tryz.ntmps69, List.size_toArray, List.length_cons, List.length_nil, Nat.reduceAdd, Nat.reduceSub, Array.replicate_succ, Array.replicate_zero, List.push_toArray, List.append_toArray, List.nil_append, List.cons_append]
  gi_wp2
  have hm : Tryz.prog.follows .mixedOrders = true := by kernel_rfl
  have b1 := Boxed.new w 24 (.pointer q0)
  have b2 := Boxed.new (w.alloc (.cells #[.pointer q0] 24)) 28 (.int .i64 0)
  simp only [World.size_alloc] at b1 b2
  have hI0 : NoI w (.pointer q0) [] ((w.alloc (.cells #[.pointer q0] 24)).alloc (.cells #[.int .i64 0] 28)) := ⟨rfl, b1.alloc _, b2, bal (bal (Below.refl _ _) _) _⟩
  have hs0 : ((w.alloc (.cells #[.pointer q0] 24)).alloc (.cells #[.int .i64 0] 28)).heap.size = w.heap.size + 2 := by simp
  clear b1 b2
  generalize (w.alloc _).alloc _ = V at hI0 hs0 ⊢
  refine wpIn_rangeFunc_ownH rfl (by omega) (gf := gf) (lb := lb) rfl trivial hen (hseq V hI0.below) hKt (fun W l o o' hl hWl ho hw => hKo W l o o' (by omega) hWl ho hw) (Below.refl _ _) (fun _ => rfl)
    (NoI w (.pointer q0)) (NoX w 2) (noI_own w (.pointer q0) (by omega)) (fun c => noX_own w 2 c (by omega)) hI0
    (Aroom w (.pointer q0) gf lb) (fun x a' => aroom_own w (.pointer q0) gf lb x a' _) ?assign ?body ?done ?stop
  case assign =>
    intro l pre x W K hI hK
    unfold encN
    gi_wp2
    exact hK _ _ ((KeepsOthers.alloc W _).from _) (hKB (bal (Below.refl _ _) _)) (noI_own w (.pointer q0) (Nat.le_refl _) pre W _ none hI (World.grownBy_alloc W _ none) (fun r e => by cases e)) ⟨W.heap.size, heap_alloc_new W _, hI.be.lt, rfl⟩
  case body =>
    rintro l pre x a' W hl _ hI ⟨q, hq, hlt, rfl⟩ hpl
    obtain rfl := hI.none
    have hB := hI.below
    have c0 : W.cell? ⟨w.heap.size, 0, none⟩ = some (.pointer q0) := hI.bm.cell
    have ke : W.cell? ⟨w.heap.size + 1, 0, none⟩ = some (.int .i64 0) := hI.be.cell
    have fe := hI.be.frozen
    have k0 : W.cell? ⟨q, 0, none⟩ = some (.int .i64 x.1) := (cell_of_row _ _ _ _ _ _ hq).trans rfl
    have k1 : W.cell? ⟨q, 1, none⟩ = some (.int .i64 x.2) := (cell_of_row _ _ _ _ _ _ hq).trans rfl
    have hqs : q < W.heap.size := (Array.getElem?_eq_some_iff.1 hq).1
    have hws : w.heap.size + 1 < W.heap.size := hI.be.lt
    clear hq
    have ka0 : ∀ o, (W.alloc o).cell? ⟨q, 0, none⟩ = some (.int .i64 x.1) := fun o => ((bal (Below.refl _ W) o).cell (p := ⟨q, 0, none⟩) hqs).trans k0
    have ka1 : ∀ o, (W.alloc o).cell? ⟨w.heap.size, 0, none⟩ = some (.pointer q0) := fun o => ((bal (Below.refl _ W) o).cell (p := ⟨w.heap.size, 0, none⟩) (Nat.lt_of_succ_lt hws)).trans c0
    have HB0 : Hid (Below W.heap.size W W) := Below.refl _ _
    gi_wp2
    rename_i K0 hK0
    have HK : ∀ W' : World, Below W.heap.size W W' → K0 { tmps := #[.pointer q0, .func (.func gf) #[] lb, .pointer (some ⟨w.heap.size, 0, none⟩), undef, .pointer (some ⟨w.heap.size + 1, 0, none⟩), .pointer (some ⟨q, 0, none⟩), .func (.func gf) #[] lb, .agg #[.int .i64 x.1, .int .i64 x.2], .pointer q0, .pointer none, .pointer (some ⟨q, 0, none⟩), .int .i64 x.1, .int .i64 0, .bool true, .bool true, undef, undef, undef, undef, undef, undef, .bool true], defers := [] } W' := by
      intro W' hb
      have k2 : W'.cell? ⟨w.heap.size + 1, 0, none⟩ = some (.int .i64 0) := (hb.cell (p := ⟨w.heap.size + 1, 0, none⟩) hws).trans ke
      have k3 : W'.frozen? ⟨w.heap.size + 1, 0, none⟩ = false := (World.frozen?_of_block (hb.block _ hws)).trans fe
      have Hb := nhide hb
      have HI := nhide hI
      clear hb hI
      refine hK0 _ _ ?_
      gi_wp2
      refine ⟨((keeps_below Hb.out).trans (KeepsOthers.setCell _ _ _)).from _, rfl, Boxed.set (v := .int .i64 0) _ ((Hb.out.block _ hws).trans HI.out.be), (HI.out.below.trans (Hb.out.mono HI.out.below.size)).setCell (p := ⟨w.heap.size + 1, 0, none⟩) (Nat.le_succ _) _⟩
    gi_region_with (first
      | (refine ⟨trivial, ?_⟩; gi_at_call 25; refine (CallsIn.inRound l (callsIn_wide.2 (HM.out _ ?hb))).mono ?_; (case hb => refine hB.trans (Below.mono ?_ hB.size); (repeat (first | exact HB0.out | refine bal ?_ _ | refine bdr ?_))); rintro e w1 ⟨rfl, hw1⟩; have HB1 := nhide (nxt (W := W) (by (repeat (first | exact HB0.out | refine bal ?_ _ | refine bdr ?_))) hw1); clear hw1; have c1a : w1.cell? ⟨q, 0, none⟩ = some (.int .i64 x.1) := (HB1.out.cell (p := ⟨q, 0, none⟩) hqs).trans k0; have c1p : w1.cell? ⟨w.heap.size, 0, none⟩ = some (.pointer q0) := (HB1.out.cell (p := ⟨w.heap.size, 0, none⟩) (Nat.lt_of_succ_lt hws)).trans c0)
      | (refine ⟨trivial, ?_⟩; gi_at_call 53; refine (CallsIn.inRound l (callsIn_wide.2 (HG.out _ _))).mono ?_; rintro e w2 ⟨rfl, hw2⟩; have HB2 := nhide (nxt (W := W) (by (repeat (first | exact HB1.out | refine bal ?_ _ | refine bdr ?_))) hw2); clear hw2; have c2a : w2.cell? ⟨q, 0, none⟩ = some (.int .i64 x.1) := (HB2.out.cell (p := ⟨q, 0, none⟩) hqs).trans k0; have c2p : w2.cell? ⟨w.heap.size, 0, none⟩ = some (.pointer q0) := (HB2.out.cell (p := ⟨w.heap.size, 0, none⟩) (Nat.lt_of_succ_lt hws)).trans c0)
      | (refine ⟨trivial, ?_⟩; with_reducible skip)
      | fail)
    all_goals (refine HK _ ?_; (repeat (first | exact HB2.out | refine bal ?_ _ | refine bdr ?_)))
  case done =>
    rintro D ys W hD hys hI hK
    exact absurd (hys.symm.trans hI.none) hns
  case stop =>
    rintro D c pre W hD _ hX hK
    obtain ⟨rfl, hbe, hB⟩ := hX
    have ke := hbe.cell
    gi_wp2
    refine ⟨by simp, .inl ⟨_, _, rfl, run_takeDeferred hK, ?_⟩⟩
    have e2 := cell_kept ke (grownBy_putObj' W D (.deferred none)) (fun r e => by cases e; exact ⟨_, hK, rfl⟩)
    exact ⟨.int .i64 2, by simp [results, Tryz.f69, go_sem, e2], rfl, hB.trans (belowK_b (w := w) (Nat.le_refl _) W D _ (.deferred none) (by omega) hK rfl rfl)⟩
end Go.Proofs.YtiapfapmgjngpaaGreatDoor.Pbuild
