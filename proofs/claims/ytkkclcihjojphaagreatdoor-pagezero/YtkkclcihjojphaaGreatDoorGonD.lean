import Derived.Test.YtkkclcihjojphaaGreatDoorPkM
set_option linter.unusedVariables false
set_option linter.unusedSimpArgs false
set_option maxRecDepth 100000
set_option maxHeartbeats 20000000
namespace Go.Proofs.YtkkclcihjojphaaGreatDoor
namespace Pbpag
open Pbase Pchold Pfind Play Pmem Pmst Ppmach Ptint Go.RowKit Go.Shelf
attribute [local go_sem] Oper.semAt_some
def rmG (s : St) (x : Int × Int) : Prop := (Ptyp.toldA s.N s.T x.1).is = 2 /\ (Ptyp.toldA s.N s.T x.1).cnt < 1000
structure RoI (w : World) (mv : Value) (G : Int × Int -> Prop) (pre : List { x : Int × Int // G x }) (W : World) : Prop where
 bm : Boxed W w.heap.size 35 mv
 be : Boxed W (w.heap.size + 1) 32 (.int .i64 0)
 below : Below w.heap.size w W
theorem roI_own (w : World) (mv : Value) (G : Int × Int -> Prop) {B' : Nat} (hB : w.heap.size <= B') : OwnFrom B' (RoI w mv G) := fun pre A C row hs hg hr => by
 have hr' : ∀ r, row = some r -> ∃ o : Obj, A.heap[r]? = some o /\ o.isCells = false := fun r e => (hr r e).2
 exact ⟨boxed_own _ _ (fun _ : Unit => mv) () A C row hs.bm hg hr', boxed_own _ _ (fun _ : Unit => .int .i64 0) () A C row hs.be hg hr', ownFrom_below (Nat.le_refl _) hB pre A C row hs.below hg hr⟩
def RoA (w : World) (mv : Value) (gf : Nat) (lb : Array Value) {G : Int × Int -> Prop} (x : { x : Int × Int // G x }) (a' : Act) (W : World) : Prop :=
 ∃ q, W.heap[q]? = some (.cells #[.int .i64 x.1.1, .int .i64 x.1.2] 274 (0, 0)) /\ w.heap.size + 1 < q /\ a' = { tmps := #[mv, .func (.func gf) #[] lb, .pointer (some ⟨w.heap.size, 0, none⟩), undef, .pointer (some ⟨w.heap.size + 1, 0, none⟩), .pointer (some ⟨q, 0, none⟩), .func (.func gf) #[] lb, .agg #[.int .i64 x.1.1, .int .i64 x.1.2], undef, undef, undef, undef, undef, undef, undef, undef, undef, undef, undef, undef, undef, undef], defers := [] }
theorem roA_own (w : World) (mv : Value) (gf : Nat) (lb : Array Value) {G : Int × Int -> Prop} (x : { x : Int × Int // G x }) (a' : Act) (B' : Nat) : OwnFrom B' (fun (_ : Unit) W => RoA w mv gf lb x a' W) := fun _ A C row hs hg hr => by
 obtain ⟨q, hq, hlt, e⟩ := hs
 exact ⟨q, (hg.block q (Array.getElem?_eq_some_iff.1 hq).1 (fun e' => by obtain ⟨_, o, ho, hc⟩ := hr q e'.symm; rw [hq] at ho; cases ho; cases hc)).trans hq, hlt, e⟩
theorem room_ok {w0 w : World} {p : Nat} {o : Nat -> Nat} {P : Pq} {s : St} (h : Fx w0 w p o P s) (gf : Nat) (lb : Array Value) (ns : List (Int × Int)) (hen : ∀ args w, (callFunc gf args).run Tryz.prog w = .ok (.enter gf args) w)
 {Kp : World -> World -> Prop} (hKt : ∀ {A B C : World}, Kp A B -> Kp B C -> Kp A C) (hKB : ∀ {X Y : World}, Below X.heap.size X Y -> Kp X Y)
 (hKo : ∀ (W : World) (l : Nat) (o o' : Obj), w.heap.size <= l -> W.heap[l]? = some o -> o.isCells = false -> o.isWalk = false -> Kp W (W.putObj l o'))
 (hseq : ∀ V, Below w.heap.size w V -> SeqStopsK Fence.wide 8 Tryz.prog gf lb (encG (G := rmG s)) Kp (fun ys => ys.map Subtype.val = ns) (fun _ => True) 2 V) :
 Calls Tryz.prog 108 #[.pointer (some ⟨p, 0, none⟩), .func (.func gf) #[] lb] w fun e W' => e = .returned (.int .i64 0) /\ Below w.heap.size w W' := by
 have HM : Hid (∀ wx, Below w.heap.size w wx -> Calls Tryz.prog 32 #[.pointer (some ⟨p, 0, none⟩)] wx fun e w' => e = .returned (.pointer (some ⟨P.pt, 0, none⟩)) /\ Below wx.heap.size wx w') := fun wx hB => ptyp_any (h.on hB).x.v h.ws
 have HY : Hid (∀ wx (f : Int), Below w.heap.size w wx -> Calls Tryz.prog 46 #[.pointer (some ⟨P.pt, 0, none⟩), .int .i64 f] wx fun e w' => e = .returned (.int .i64 (Ptyp.toldA s.N s.T f).is) /\ Below wx.heap.size wx w') := fun wx f hB => Ptyp.type_any _ _ _ f _ wx h.ws.n1 h.ws.n64 (h.on hB).x.v.typ
 have HC : Hid (∀ wx (f : Int), Below w.heap.size w wx -> Calls Tryz.prog 33 #[.pointer (some ⟨P.pt, 0, none⟩), .int .i64 f] wx fun e w' => e = .returned (.int .i64 (Ptyp.toldA s.N s.T f).cnt) /\ Below wx.heap.size wx w') := fun wx f hB => Ptyp.count_any _ _ _ f _ wx h.ws.n1 h.ws.n64 (h.on hB).x.v.typ
 clear h
 refine (callsIn_wide (n := 9)).1 ?_
 refine callsIn_of_wp_marks Tryz.func108 rfl trivial ?_ rfl
 simp only [Tryz.ntmps108, List.size_toArray, List.length_cons, List.length_nil, Nat.reduceAdd, Nat.reduceSub, Array.replicate_succ, Array.replicate_zero, List.push_toArray, List.append_toArray, List.nil_append, List.cons_append]
 gi_wp2
 have hm : Tryz.prog.follows .mixedOrders = true := by kernel_rfl
 have b1 := Boxed.new w 35 (.pointer (some ⟨p, 0, none⟩))
 have b2 := Boxed.new (w.alloc (.cells #[.pointer (some ⟨p, 0, none⟩)] 35)) 32 (.int .i64 0)
 simp only [World.size_alloc] at b1 b2
 have hI0 : RoI w (.pointer (some ⟨p, 0, none⟩)) (rmG s) [] ((w.alloc (.cells #[.pointer (some ⟨p, 0, none⟩)] 35)).alloc (.cells #[.int .i64 0] 32)) := ⟨b1.alloc _, b2, bal (bal (Below.refl _ _) _) _⟩
 have hs0 : ((w.alloc (.cells #[.pointer (some ⟨p, 0, none⟩)] 35)).alloc (.cells #[.int .i64 0] 32)).heap.size = w.heap.size + 2 := by simp
 clear b1 b2
 generalize (w.alloc _).alloc _ = V at hI0 hs0 ⊢
 refine wpIn_rangeFunc_ownH rfl (by omega) (gf := gf) (lb := lb) rfl trivial hen (hseq V hI0.below) hKt (fun W l o o' hl hWl ho hw => hKo W l o o' (by omega) hWl ho hw) (Below.refl _ _) (fun _ => rfl)
  (RoI w (.pointer (some ⟨p, 0, none⟩)) (rmG s)) (fun _ _ _ => False) (roI_own w (.pointer (some ⟨p, 0, none⟩)) (rmG s) (by omega)) (fun c s A C row hs _ _ => hs) hI0
  (RoA w (.pointer (some ⟨p, 0, none⟩)) gf lb) (fun x a' => roA_own w (.pointer (some ⟨p, 0, none⟩)) gf lb x a' _) ?assign ?body ?done ?stop
 case assign =>
  intro l pre x W K hI hK
  unfold encG
  gi_wp2
  exact hK _ _ ((KeepsOthers.alloc W _).from _) (hKB (bal (Below.refl _ _) _)) (roI_own w (.pointer (some ⟨p, 0, none⟩)) (rmG s) (Nat.le_refl _) pre W _ none hI (World.grownBy_alloc W _ none) (fun r e => by cases e)) ⟨W.heap.size, heap_alloc_new W _, hI.be.lt, rfl⟩
 case body =>
  rintro l pre x a' W hl _ hI ⟨q, hq, hlt, rfl⟩ hpl
  have hB := hI.below
  have c0 : W.cell? ⟨w.heap.size, 0, none⟩ = some (.pointer (some ⟨p, 0, none⟩)) := hI.bm.cell
  have k0 : W.cell? ⟨q, 0, none⟩ = some (.int .i64 x.1.1) := (cell_of_row _ _ _ _ _ _ hq).trans rfl
  have hqs : q < W.heap.size := (Array.getElem?_eq_some_iff.1 hq).1
  have hws : w.heap.size + 1 < W.heap.size := hI.be.lt
  have HYx : Hid (∀ wx, Below w.heap.size w wx -> Calls Tryz.prog 46 #[.pointer (some ⟨P.pt, 0, none⟩), .int .i64 x.1.1] wx fun e w' => e = .returned (.int .i64 2) /\ Below wx.heap.size wx w') := fun wx hB => by
   have := HY.out wx x.1.1 hB
   rwa [x.2.1] at this
  have HCx : Hid (∀ wx, Below w.heap.size w wx -> Calls Tryz.prog 33 #[.pointer (some ⟨P.pt, 0, none⟩), .int .i64 x.1.1] wx fun e w' => e = .returned (.int .i64 (Ptyp.toldA s.N s.T x.1.1).cnt) /\ Below wx.heap.size wx w') := fun wx hB => HC.out wx x.1.1 hB
  have hlt2 := x.2.2
  generalize (Ptyp.toldA s.N s.T x.1.1).cnt = C at HCx hlt2
  have hn : ¬ 1000 <= C := by omega
  have hd : decide (1000 <= C) = false := by simp only [decide_eq_false_iff_not]; omega
  have kd0 : W.drew.cell? ⟨q, 0, none⟩ = some (.int .i64 x.1.1) := k0
  have kd1 : W.drew.cell? ⟨w.heap.size, 0, none⟩ = some (.pointer (some ⟨p, 0, none⟩)) := c0
  clear hq HY HC hlt2
  have HB0 : Hid (Below W.heap.size W W) := Below.refl _ _
  have HI := nhide hI
  clear hI
  gi_wp2
  rename_i K0 hK0
  have HK : ∀ (W' : World), Below W.heap.size W W' -> K0 { tmps := #[.pointer (some ⟨p, 0, none⟩), .func (.func gf) #[] lb, .pointer (some ⟨w.heap.size, 0, none⟩), undef, .pointer (some ⟨w.heap.size + 1, 0, none⟩), .pointer (some ⟨q, 0, none⟩), .func (.func gf) #[] lb, .agg #[.int .i64 x.1.1, .int .i64 x.1.2], .pointer (some ⟨p, 0, none⟩), .pointer (some ⟨P.pt, 0, none⟩), .pointer (some ⟨q, 0, none⟩), .int .i64 x.1.1, .int .i64 2, .bool false, .bool false, .pointer (some ⟨p, 0, none⟩), .pointer (some ⟨P.pt, 0, none⟩), .pointer (some ⟨q, 0, none⟩), .int .i64 x.1.1, .int .i64 C, .bool false, .bool false], defers := [] } W' := by
   intro W' hb
   have Hb := nhide hb
   clear hb
   refine hK0 _ _ ?_
   gi_wp2
   exact ⟨(keeps_below Hb.out).from _, hKB Hb.out, ⟨((Hb.out.block _ (Nat.lt_of_succ_lt hws)).trans HI.out.bm), ((Hb.out.block _ hws).trans HI.out.be), HI.out.below.trans (Hb.out.mono HI.out.below.size)⟩⟩
  have t1 : True := trivial
  gi_region_with (first
   | (refine ⟨trivial, ?_⟩; gi_at_call 32; clear t1; refine (CallsIn.inRound l (callsIn_wide.2 (HM.out _ ?hb))).mono ?_; (case hb => refine hB.trans (Below.mono ?_ hB.size); (repeat (first | exact HB0.out | refine bdr ?_))); rintro e w1 ⟨rfl, hw1⟩; have HB1 := nhide (nxt (W := W) (by (repeat (first | exact HB0.out | refine bdr ?_))) hw1); clear hw1; have c1a : w1.cell? ⟨q, 0, none⟩ = some (.int .i64 x.1.1) := (HB1.out.cell (p := ⟨q, 0, none⟩) hqs).trans k0; have c1b : w1.cell? ⟨w.heap.size, 0, none⟩ = some (.pointer (some ⟨p, 0, none⟩)) := (HB1.out.cell (p := ⟨w.heap.size, 0, none⟩) (Nat.lt_of_succ_lt hws)).trans c0)
   | (refine ⟨trivial, ?_⟩; gi_at_call 46; refine (CallsIn.inRound l (callsIn_wide.2 (HYx.out _ ?hb))).mono ?_; (case hb => refine hB.trans (Below.mono ?_ hB.size); (repeat (first | exact HB1.out | refine bdr ?_))); rintro e w2 ⟨rfl, hw1⟩; have HB2 := nhide (nxt (W := W) (by (repeat (first | exact HB1.out | refine bdr ?_))) hw1); clear hw1; have c2a : w2.cell? ⟨q, 0, none⟩ = some (.int .i64 x.1.1) := (HB2.out.cell (p := ⟨q, 0, none⟩) hqs).trans k0; have c2b : w2.cell? ⟨w.heap.size, 0, none⟩ = some (.pointer (some ⟨p, 0, none⟩)) := (HB2.out.cell (p := ⟨w.heap.size, 0, none⟩) (Nat.lt_of_succ_lt hws)).trans c0)
   | (refine ⟨trivial, ?_⟩; gi_at_call 32; refine (CallsIn.inRound l (callsIn_wide.2 (HM.out _ ?hb))).mono ?_; (case hb => refine hB.trans (Below.mono ?_ hB.size); (repeat (first | exact HB2.out | refine bdr ?_))); rintro e w3 ⟨rfl, hw1⟩; have HB3 := nhide (nxt (W := W) (by (repeat (first | exact HB2.out | refine bdr ?_))) hw1); clear hw1; have c3a : w3.cell? ⟨q, 0, none⟩ = some (.int .i64 x.1.1) := (HB3.out.cell (p := ⟨q, 0, none⟩) hqs).trans k0; have c3b : w3.cell? ⟨w.heap.size, 0, none⟩ = some (.pointer (some ⟨p, 0, none⟩)) := (HB3.out.cell (p := ⟨w.heap.size, 0, none⟩) (Nat.lt_of_succ_lt hws)).trans c0)
   | (refine ⟨trivial, ?_⟩; gi_at_call 33; refine (CallsIn.inRound l (callsIn_wide.2 (HCx.out _ ?hb))).mono ?_; (case hb => refine hB.trans (Below.mono ?_ hB.size); (repeat (first | exact HB3.out | refine bdr ?_))); rintro e w4 ⟨rfl, hw1⟩; have HB4 := nhide (nxt (W := W) (by (repeat (first | exact HB3.out | refine bdr ?_))) hw1); clear hw1; have c4a : w4.cell? ⟨q, 0, none⟩ = some (.int .i64 x.1.1) := (HB4.out.cell (p := ⟨q, 0, none⟩) hqs).trans k0; have c4b : w4.cell? ⟨w.heap.size, 0, none⟩ = some (.pointer (some ⟨p, 0, none⟩)) := (HB4.out.cell (p := ⟨w.heap.size, 0, none⟩) (Nat.lt_of_succ_lt hws)).trans c0)
   | fail)
  all_goals (refine HK _ ?_; (repeat (first | exact HB4.out | refine bdr ?_)))
 case done =>
  rintro D ys W hD hys hI hK
  have ke := hI.be.cell
  have fe := hI.be.frozen
  have HI := nhide hI
  clear hI
  gi_wp2
  have hK1 := (KeepsOthers.setCell W ⟨w.heap.size + 1, 0, none⟩ (.int .i64 0)).same D _ hK rfl
  refine ⟨by simp, .inl ⟨_, _, rfl, run_takeDeferred hK1, ?_⟩⟩
  have e2 := cell_kept (HI.out.be.set (.int .i64 0)).cell (grownBy_putObj' _ D (.deferred none)) (fun r e => by cases e; exact ⟨_, hK1, rfl⟩)
  exact ⟨.int .i64 0, by simp [results, Tryz.f108, go_sem, e2], rfl, (HI.out.below.setCell (p := ⟨w.heap.size + 1, 0, none⟩) (Nat.le_succ _) _).trans (belowK_b (w := w) (Nat.le_refl _) _ D _ (.deferred none) (by omega) hK1 rfl rfl)⟩
 case stop =>
  rintro D c pre W hD _ hX hK
  exact absurd hX id
end Pbpag
end Go.Proofs.YtkkclcihjojphaaGreatDoor
