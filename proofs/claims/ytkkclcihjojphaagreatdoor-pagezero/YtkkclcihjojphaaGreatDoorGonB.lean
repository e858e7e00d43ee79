import Derived.Test.YtkkclcihjojphaaGreatDoorPkM
set_option linter.unusedVariables false
set_option linter.unusedSimpArgs false
set_option maxRecDepth 100000
set_option maxHeartbeats 20000000
namespace Go.Proofs.YtkkclcihjojphaaGreatDoor
namespace Pbpag
open Pbase Pchold Pfind Play Pmem Pmst Ppmach Ptint Go.RowKit Go.Shelf
attribute [local go_sem] Oper.semAt_some
def hdG (s : St) (x : Int × Int) : Prop := Phead.ghE s.N s.M x.1 = 0 /\ Phead.ghK s.N s.M x.1 = x.2 /\ Phead.ghL s.N s.M x.1 = 0
theorem below_four {B : Nat} {a x : World} {b : Nat} (h : Below B a x) (hb : B <= b) (d0 d1 d2 d3 : Value) : Below B a ((((x.setCell ⟨b, 0, none⟩ d0).setCell ⟨b, 1, none⟩ d1).setCell ⟨b, 2, none⟩ d2).setCell ⟨b, 3, none⟩ d3) := (((h.setCell (p := ⟨b, 0, none⟩) hb _).setCell (p := ⟨b, 1, none⟩) hb _).setCell (p := ⟨b, 2, none⟩) hb _).setCell (p := ⟨b, 3, none⟩) hb _
theorem four_same {w : World} {B : Nat} {c0 c1 c2 c3 : Value} {t : TypeId} (d0 d1 d2 d3 : Value) (h : w.heap[B]? = some (.cells #[c0, c1, c2, c3] t (0, 0))) : ((((w.setCell ⟨B, 0, none⟩ d0).setCell ⟨B, 1, none⟩ d1).setCell ⟨B, 2, none⟩ d2).setCell ⟨B, 3, none⟩ d3).heap[B]? = some (.cells #[d0, d1, d2, d3] t (0, 0)) := by
 have e0 := heap_setCell_same w B 0 _ _ d0 h
 have e1 := heap_setCell_same _ B 1 _ _ d1 e0
 have e2 := heap_setCell_same _ B 2 _ _ d2 e1
 have e3 := heap_setCell_same _ B 3 _ _ d3 e2
 rw [e3]
 rfl
structure RiI (w : World) (mv : Value) (G : Int × Int -> Prop) (pre : List { x : Int × Int // G x }) (W : World) : Prop where
 bm : Boxed W w.heap.size 35 mv
 be : Boxed W (w.heap.size + 1) 32 (.int .i64 0)
 below : Below w.heap.size w W
theorem riI_own (w : World) (mv : Value) (G : Int × Int -> Prop) {B' : Nat} (hB : w.heap.size <= B') : OwnFrom B' (RiI w mv G) := fun pre A C row hs hg hr => by
 have hr' : ∀ r, row = some r -> ∃ o : Obj, A.heap[r]? = some o /\ o.isCells = false := fun r e => (hr r e).2
 exact ⟨boxed_own _ _ (fun _ : Unit => mv) () A C row hs.bm hg hr', boxed_own _ _ (fun _ : Unit => .int .i64 0) () A C row hs.be hg hr', ownFrom_below (Nat.le_refl _) hB pre A C row hs.below hg hr⟩
def RiA (w : World) (mv : Value) (gf : Nat) (lb : Array Value) {G : Int × Int -> Prop} (x : { x : Int × Int // G x }) (a' : Act) (W : World) : Prop :=
 ∃ q, W.heap[q]? = some (.cells #[.int .i64 x.1.1, .int .i64 x.1.2] 274 (0, 0)) /\ w.heap.size + 1 < q /\ a' = { tmps := #[mv, .func (.func gf) #[] lb, .pointer (some ⟨w.heap.size, 0, none⟩), undef, .pointer (some ⟨w.heap.size + 1, 0, none⟩), .pointer (some ⟨q, 0, none⟩), undef, undef, .func (.func gf) #[] lb, .agg #[.int .i64 x.1.1, .int .i64 x.1.2], undef, undef, undef, undef, undef, undef, undef, undef, undef, undef, undef, undef, undef, undef, undef, undef, undef, undef, undef, undef, undef, undef], defers := [] }
theorem riA_own (w : World) (mv : Value) (gf : Nat) (lb : Array Value) {G : Int × Int -> Prop} (x : { x : Int × Int // G x }) (a' : Act) (B' : Nat) : OwnFrom B' (fun (_ : Unit) W => RiA w mv gf lb x a' W) := fun _ A C row hs hg hr => by
 obtain ⟨q, hq, hlt, e⟩ := hs
 exact ⟨q, (hg.block q (Array.getElem?_eq_some_iff.1 hq).1 (fun e' => by obtain ⟨_, o, ho, hc⟩ := hr q e'.symm; rw [hq] at ho; cases ho; cases hc)).trans hq, hlt, e⟩
theorem right_ok {w0 w : World} {p : Nat} {o : Nat -> Nat} {P : Pq} {s : St} (h : Fx w0 w p o P s) (gf : Nat) (lb : Array Value) (ns : List (Int × Int)) (hen : ∀ args w, (callFunc gf args).run Tryz.prog w = .ok (.enter gf args) w)
 {Kp : World -> World -> Prop} (hKt : ∀ {A B C : World}, Kp A B -> Kp B C -> Kp A C) (hKB : ∀ {X Y : World}, Below X.heap.size X Y -> Kp X Y)
 (hKo : ∀ (W : World) (l : Nat) (o o' : Obj), w.heap.size <= l -> W.heap[l]? = some o -> o.isCells = false -> o.isWalk = false -> Kp W (W.putObj l o'))
 (hseq : ∀ V, Below w.heap.size w V -> SeqStopsK Fence.wide 8 Tryz.prog gf lb (encG (G := hdG s)) Kp (fun ys => ys.map Subtype.val = ns) (fun _ => True) 2 V) :
 Calls Tryz.prog 106 #[.pointer (some ⟨p, 0, none⟩), .func (.func gf) #[] lb] w fun e W' => e = .returned (.int .i64 0) /\ Below w.heap.size w W' := by
 have HM : Hid (∀ wx, Below w.heap.size w wx -> Calls Tryz.prog 14 #[.pointer (some ⟨p, 0, none⟩)] wx fun e w' => e = .returned (.pointer (some ⟨P.pm, 0, none⟩)) /\ Below wx.heap.size wx w') := fun wx hB => pmem_any (h.on hB).x.v h.ws
 have HG : Hid (∀ wx (f : Int), Below w.heap.size w wx -> Calls Tryz.prog 78 #[.pointer (some ⟨P.pm, 0, none⟩), .int .i64 f] wx fun e w' => e = .returned (.tuple #[.agg #[.int .i64 (Phead.ghK s.N s.M f), .int .i64 (Phead.ghL s.N s.M f), .bool (Phead.ghZ s.N s.M f), .int .i64 (Phead.ghT s.N s.M f)], .int .i64 (Phead.ghE s.N s.M f)]) /\ Below wx.heap.size wx w') := fun wx f hB => Phead.hget_any _ _ _ f _ wx h.ws.n1 h.ws.n64 (h.on hB).x.v.mem (h.on hB).hd h.fit
 clear h
 refine (callsIn_wide (n := 9)).1 ?_
 refine callsIn_of_wp_marks Tryz.func106 rfl trivial ?_ rfl
 simp only [Tryz.ntmps106, List.size_toArray, List.length_cons, List.length_nil, Nat.reduceAdd, Nat.reduceSub, Array.replicate_succ, Array.replicate_zero, List.push_toArray, List.append_toArray, List.nil_append, List.cons_append]
 gi_wp2
 have hm : Tryz.prog.follows .mixedOrders = true := by kernel_rfl
 have b1 := Boxed.new w 35 (.pointer (some ⟨p, 0, none⟩))
 have b2 := Boxed.new (w.alloc (.cells #[.pointer (some ⟨p, 0, none⟩)] 35)) 32 (.int .i64 0)
 simp only [World.size_alloc] at b1 b2
 have hI0 : RiI w (.pointer (some ⟨p, 0, none⟩)) (hdG s) [] ((w.alloc (.cells #[.pointer (some ⟨p, 0, none⟩)] 35)).alloc (.cells #[.int .i64 0] 32)) := ⟨b1.alloc _, b2, bal (bal (Below.refl _ _) _) _⟩
 have hs0 : ((w.alloc (.cells #[.pointer (some ⟨p, 0, none⟩)] 35)).alloc (.cells #[.int .i64 0] 32)).heap.size = w.heap.size + 2 := by simp
 clear b1 b2
 generalize (w.alloc _).alloc _ = V at hI0 hs0 ⊢
 refine wpIn_rangeFunc_ownH rfl (by omega) (gf := gf) (lb := lb) rfl trivial hen (hseq V hI0.below) hKt (fun W l o o' hl hWl ho hw => hKo W l o o' (by omega) hWl ho hw) (Below.refl _ _) (fun _ => rfl)
  (RiI w (.pointer (some ⟨p, 0, none⟩)) (hdG s)) (fun _ _ _ => False) (riI_own w (.pointer (some ⟨p, 0, none⟩)) (hdG s) (by omega)) (fun c s A C row hs _ _ => hs) hI0
  (RiA w (.pointer (some ⟨p, 0, none⟩)) gf lb) (fun x a' => riA_own w (.pointer (some ⟨p, 0, none⟩)) gf lb x a' _) ?assign ?body ?done ?stop
 case assign =>
  intro l pre x W K hI hK
  unfold encG
  gi_wp2
  exact hK _ _ ((KeepsOthers.alloc W _).from _) (hKB (bal (Below.refl _ _) _)) (riI_own w (.pointer (some ⟨p, 0, none⟩)) (hdG s) (Nat.le_refl _) pre W _ none hI (World.grownBy_alloc W _ none) (fun r e => by cases e)) ⟨W.heap.size, heap_alloc_new W _, hI.be.lt, rfl⟩
 case body =>
  rintro l pre x a' W hl _ hI ⟨q, hq, hlt, rfl⟩ hpl
  have hB := hI.below
  have c0 : W.cell? ⟨w.heap.size, 0, none⟩ = some (.pointer (some ⟨p, 0, none⟩)) := hI.bm.cell
  have ke : W.cell? ⟨w.heap.size + 1, 0, none⟩ = some (.int .i64 0) := hI.be.cell
  have fe := hI.be.frozen
  have k0 : W.cell? ⟨q, 0, none⟩ = some (.int .i64 x.1.1) := (cell_of_row _ _ _ _ _ _ hq).trans rfl
  have k1 : W.cell? ⟨q, 1, none⟩ = some (.int .i64 x.1.2) := (cell_of_row _ _ _ _ _ _ hq).trans rfl
  have hqs : q < W.heap.size := (Array.getElem?_eq_some_iff.1 hq).1
  have hws : w.heap.size + 1 < W.heap.size := hI.be.lt
  have HGx : Hid (∀ wx, Below w.heap.size w wx -> Calls Tryz.prog 78 #[.pointer (some ⟨P.pm, 0, none⟩), .int .i64 x.1.1] wx fun e w' => e = .returned (.tuple #[.agg #[.int .i64 x.1.2, .int .i64 0, .bool (Phead.ghZ s.N s.M x.1.1), .int .i64 (Phead.ghT s.N s.M x.1.1)], .int .i64 0]) /\ Below wx.heap.size wx w') := fun wx hB => by
   have := HG.out wx x.1.1 hB
   rwa [x.2.1, x.2.2.1, x.2.2.2] at this
  generalize Phead.ghZ s.N s.M x.1.1 = Z at HGx
  generalize Phead.ghT s.N s.M x.1.1 = T at HGx
  clear hq HG
  have ka0 : ∀ o, (W.alloc o).cell? ⟨q, 0, none⟩ = some (.int .i64 x.1.1) := fun o => ((bal (Below.refl _ W) o).cell (p := ⟨q, 0, none⟩) hqs).trans k0
  have ka1 : ∀ o, (W.alloc o).cell? ⟨w.heap.size, 0, none⟩ = some (.pointer (some ⟨p, 0, none⟩)) := fun o => ((bal (Below.refl _ W) o).cell (p := ⟨w.heap.size, 0, none⟩) (Nat.lt_of_succ_lt hws)).trans c0
  have HB0 : Hid (Below W.heap.size W W) := Below.refl _ _
  gi_wp2
  rename_i K0 hK0
  have HK : ∀ (b : Nat) (W' : World), Below W.heap.size W W' -> W'.heap[b]? = some (.cells #[.int .i64 x.1.2, .int .i64 0, .bool Z, .int .i64 T] 114 (0, 0)) -> K0 { tmps := #[.pointer (some ⟨p, 0, none⟩), .func (.func gf) #[] lb, .pointer (some ⟨w.heap.size, 0, none⟩), undef, .pointer (some ⟨w.heap.size + 1, 0, none⟩), .pointer (some ⟨q, 0, none⟩), .pointer (some ⟨b, 0, none⟩), .int .i64 0, .func (.func gf) #[] lb, .agg #[.int .i64 x.1.1, .int .i64 x.1.2], .tuple #[.agg #[.int .i64 x.1.2, .int .i64 0, .bool Z, .int .i64 T], .int .i64 0], .pointer (some ⟨p, 0, none⟩), .pointer (some ⟨P.pm, 0, none⟩), .pointer (some ⟨q, 0, none⟩), .int .i64 x.1.1, .tuple #[.agg #[.int .i64 x.1.2, .int .i64 0, .bool Z, .int .i64 T], .int .i64 0], .agg #[.int .i64 x.1.2, .int .i64 0, .bool Z, .int .i64 T], .int .i64 0, undef, undef, undef, undef, undef, undef, undef, undef, undef, undef, undef, undef, undef, undef], defers := [] } W' := by
   intro b W' hb hrow
   have k4 : W'.cell? ⟨q, 1, none⟩ = some (.int .i64 x.1.2) := (hb.cell (p := ⟨q, 1, none⟩) hqs).trans k1
   have k5 : W'.cell? ⟨b, 0, none⟩ = some (.int .i64 x.1.2) := (cell_of_row _ _ _ _ _ _ hrow).trans rfl
   have k6 : W'.cell? ⟨b, 1, none⟩ = some (.int .i64 0) := (cell_of_row _ _ _ _ _ _ hrow).trans rfl
   have Hb := nhide hb
   have HI := nhide hI
   clear hb hI hrow
   refine hK0 _ _ ?_
   gi_wp2
   exact ⟨(keeps_below Hb.out).from _, hKB Hb.out, ⟨((Hb.out.block _ (Nat.lt_of_succ_lt hws)).trans HI.out.bm), ((Hb.out.block _ hws).trans HI.out.be), HI.out.below.trans (Hb.out.mono HI.out.below.size)⟩⟩
  gi_region_with (first
   | (refine ⟨trivial, ?_⟩; gi_at_call 14; refine (CallsIn.inRound l (callsIn_wide.2 (HM.out _ ?hb))).mono ?_; (case hb => refine hB.trans (Below.mono ?_ hB.size); (repeat (first | exact HB0.out | refine bal ?_ _ | refine bdr ?_))); rintro e w1 ⟨rfl, hw1⟩; have HB1 := nhide (nxt (W := W) (by (repeat (first | exact HB0.out | refine bal ?_ _ | refine bdr ?_))) hw1); (try (have hz1 := alzd hw1; obtain ⟨z10, z11, z12, z13, z14, z15, z16, z17⟩ := z8 hz1)); clear hw1; have c1a : w1.cell? ⟨q, 0, none⟩ = some (.int .i64 x.1.1) := (HB1.out.cell (p := ⟨q, 0, none⟩) hqs).trans k0; have c1e : ∀ o, (w1.alloc o).cell? ⟨q, 0, none⟩ = some (.int .i64 x.1.1) := fun o => ((bal (Below.refl _ w1) o).cell (p := ⟨q, 0, none⟩) (Nat.lt_of_lt_of_le hqs HB1.out.size)).trans c1a)
   | (refine ⟨trivial, ?_⟩; gi_at_call 78; refine (CallsIn.inRound l (callsIn_wide.2 (HGx.out _ ?hb))).mono ?_; (case hb => refine hB.trans (Below.mono ?_ hB.size); (repeat (first | exact HB1.out | refine bal ?_ _ | refine bdr ?_))); rintro e w2 ⟨rfl, hw2⟩; have HB2 := nhide (nxt (W := W) (by (repeat (first | exact HB1.out | refine bal ?_ _ | refine bdr ?_))) hw2); (first | (have hz2 := kpz hw2 hz1; obtain ⟨z20, z21, z22, z23, z24, z25, z26, z27⟩ := z8 hz2) | (have hz2 := alz hw2; obtain ⟨z20, z21, z22, z23, z24, z25, z26, z27⟩ := z8 hz2) | skip); clear hw2; have c2a : w2.cell? ⟨q, 0, none⟩ = some (.int .i64 x.1.1) := (HB2.out.cell (p := ⟨q, 0, none⟩) hqs).trans k0)
   | fail)
  all_goals (refine HK _ _ ?_ ?_; (first | with_reducible exact bal HB2.out _ | with_reducible exact below_four HB2.out (Nat.le_refl _) _ _ _ _ | with_reducible exact below_four HB2.out HB1.out.size _ _ _ _ | with_reducible exact below_four (bal HB2.out _) HB2.out.size _ _ _ _); (first | with_reducible exact heap_alloc_new _ _ | with_reducible exact four_same _ _ _ _ hz2 | with_reducible exact four_same _ _ _ _ (heap_alloc_new _ _)))
 case done =>
  rintro D ys W hD hys hI hK
  have ke := hI.be.cell
  have fe := hI.be.frozen
  have HI := nhide hI
  clear hI
  gi_wp2
  have hK1 := (KeepsOthers.setCell W ⟨w.heap.size + 1, 0, none⟩ (.int .i64 0)).same D _ hK rfl
  refine ⟨by simp, .inl ⟨_, _, rfl, run_takeDeferred hK1, ?_⟩⟩
  have e2 := cell_kept (HI.out.be.set (.int .i64 0)).cell (grownBy_putObj' _ D (.deferred none)) (fun r e => by cases e; exact ⟨_, hK1, rfl⟩)
  exact ⟨.int .i64 0, by simp [results, Tryz.f106, go_sem, e2], rfl, (HI.out.below.setCell (p := ⟨w.heap.size + 1, 0, none⟩) (Nat.le_succ _) _).trans (belowK_b (w := w) (Nat.le_refl _) _ D _ (.deferred none) (by omega) hK1 rfl rfl)⟩
 case stop =>
  rintro D c pre W hD _ hX hK
  exact absurd hX id
end Pbpag
end Go.Proofs.YtkkclcihjojphaaGreatDoor
