import Derived.Test.YtkkclcihjojphaaGreatDoorPkM
set_option linter.unusedVariables false
set_option linter.unusedSimpArgs false
set_option maxRecDepth 100000
set_option maxHeartbeats 20000000
namespace Go.Proofs.YtkkclcihjojphaaGreatDoor
namespace Pbpag
open Pbase Pchold Pfind Play Pmem Pmst Ppmach Ptint Go.RowKit Go.Shelf
attribute [local go_sem] Oper.semAt_some
def refL (N : Nat) (T : Nat -> Ptyp.FS) (ns : List (Int × Int)) : Nat -> Ptyp.FS := ns.foldl (fun T x => Ptyp.mapA N T x.1 Ptyp.gRf) T
theorem refL_snoc (N : Nat) (T : Nat -> Ptyp.FS) (l : List (Int × Int)) (x : Int × Int) : refL N T (l ++ [x]) = Ptyp.mapA N (refL N T l) x.1 Ptyp.gRf := by simp [refL]
theorem Lv.grown {w0 w A C : World} {p : Nat} {o : Nat -> Nat} {P : Pq} {s : St} (h : Lv w0 w A p o P s) (hw : ∀ i, PMine o i -> i < w.heap.size) (h0 : w0.heap.size <= w.heap.size) {row : Option Nat} {B' : Nat} (hB : w.heap.size <= B') (hg : A.grownBy C row) (hr : ∀ r, row = some r -> B' <= r) : Lv w0 w C p o P s :=
 have hs : w.heap.size <= A.heap.size := h.k.size
 have ne : ∀ i, i < w.heap.size -> some i ≠ row := fun i hi e => by have := hr i e.symm; omega
 ⟨⟨⟨h.fx.x.v.keep h.fx.ws.c4 hg.size (fun i a b hi => hg.block i hi (ne i (hw i ⟨a, b⟩))), ⟨hg.os.trans h.fx.x.k.os, hg.tape.trans h.fx.x.k.tape, hg.output.trans h.fx.x.k.output, Nat.le_trans h.fx.x.k.size hg.size, fun i hi hn => (hg.block i (Nat.lt_of_lt_of_le hi h.fx.x.k.size) (ne i (by omega))).trans (h.fx.x.k.block i hi hn)⟩⟩, h.fx.ws, h.fx.old, h.fx.tb, h.fx.fit⟩,
   ⟨hg.os.trans h.k.os, hg.tape.trans h.k.tape, hg.output.trans h.k.output, Nat.le_trans hs hg.size, fun i hi hn => (hg.block i (Nat.lt_of_lt_of_le hi hs) (ne i hi)).trans (h.k.block i hi hn)⟩⟩
theorem Lv.obj {w0 w A : World} {p : Nat} {o : Nat -> Nat} {P : Pq} {s : St} (h : Lv w0 w A p o P s) (hw : ∀ i, PMine o i -> i < w.heap.size) (h0 : w0.heap.size <= w.heap.size) {D : Nat} (hD : w.heap.size <= D) (ob : Obj) : Lv w0 w (A.putObj D ob) p o P s :=
 h.grown hw h0 hD (grownBy_putObj' A D ob) (fun r e => by cases e; exact Nat.le_refl _)
theorem keeps_lv {w0 w A C : World} {p : Nat} {o : Nat -> Nat} {P : Pq} {s : St} (h : Lv w0 A C p o P s) (hw : ∀ i, PMine o i -> i < w.heap.size) {B : Nat} (hB : w.heap.size <= B) : KeepsFrom B A C := ⟨h.k.size, fun k ob hk ha _ => (h.k.block k (Array.getElem?_eq_some_iff.1 ha).1 (fun hm => by have := hw k hm; omega)).trans ha⟩
structure TkI (w0 w : World) (p : Nat) (o : Nat -> Nat) (P : Pq) (s : St) (pre : List { x : Int × Int // True }) (W : World) : Prop where
 bm : Boxed W w.heap.size 35 (.pointer (some ⟨p, 0, none⟩))
 lv : Lv w0 w W p o P { s with T := refL s.N s.T (pre.map Subtype.val) }
theorem tkI_own (w0 w : World) (p : Nat) (o : Nat -> Nat) (P : Pq) (s : St) (hw : ∀ i, PMine o i -> i < w.heap.size) (h0 : w0.heap.size <= w.heap.size) {B' : Nat} (hB : w.heap.size <= B') : OwnFrom B' (TkI w0 w p o P s) := fun pre A C row hs hg hr => by
 have hr' : ∀ r, row = some r -> ∃ o : Obj, A.heap[r]? = some o /\ o.isCells = false := fun r e => (hr r e).2
 exact ⟨boxed_own _ _ (fun _ : Unit => .pointer (some ⟨p, 0, none⟩)) () A C row hs.bm hg hr', hs.lv.grown hw h0 hB hg (fun r e => (hr r e).1)⟩
def TkA (w : World) (p gf : Nat) (lb : Array Value) (x : { x : Int × Int // True }) (a' : Act) (W : World) : Prop :=
 ∃ q, W.heap[q]? = some (.cells #[.int .i64 x.1.1, .int .i64 x.1.2] 274 (0, 0)) /\ w.heap.size < q /\ a' = { tmps := #[.pointer (some ⟨p, 0, none⟩), .func (.func gf) #[] lb, .pointer (some ⟨w.heap.size, 0, none⟩), undef, .pointer (some ⟨q, 0, none⟩), .func (.func gf) #[] lb, .agg #[.int .i64 x.1.1, .int .i64 x.1.2], undef, undef, undef, undef, undef], defers := [] }
theorem tkA_own (w : World) (p gf : Nat) (lb : Array Value) (x : { x : Int × Int // True }) (a' : Act) (B' : Nat) : OwnFrom B' (fun (_ : Unit) W => TkA w p gf lb x a' W) := fun _ A C row hs hg hr => by
 obtain ⟨q, hq, hlt, e⟩ := hs
 exact ⟨q, (hg.block q (Array.getElem?_eq_some_iff.1 hq).1 (fun e' => by obtain ⟨_, o, ho, hc⟩ := hr q e'.symm; rw [hq] at ho; cases ho; cases hc)).trans hq, hlt, e⟩
theorem take_any {w0 w : World} {p : Nat} {o : Nat -> Nat} {P : Pq} {s : St} (h : Fx w0 w p o P s) (gf : Nat) (lb : Array Value) (ns : List (Int × Int)) (hen : ∀ args w, (callFunc gf args).run Tryz.prog w = .ok (.enter gf args) w)
 {Kp : World -> World -> Prop} (hKt : ∀ {A B C : World}, Kp A B -> Kp B C -> Kp A C) (hKT : ∀ {X Y : World}, Tint (PMine o) X Y -> Kp X Y)
 (hKo : ∀ (W : World) (l : Nat) (o o' : Obj), w.heap.size <= l -> W.heap[l]? = some o -> o.isCells = false -> o.isWalk = false -> Kp W (W.putObj l o'))
 (hseq : ∀ V, Below w.heap.size w V -> SeqStopsK Fence.wide 8 Tryz.prog gf lb (encG (G := fun _ => True)) Kp (fun ys => ys.map Subtype.val = ns) (fun _ => True) 2 V) :
 Calls Tryz.prog 111 #[.pointer (some ⟨p, 0, none⟩), .func (.func gf) #[] lb] w fun e W' => (∃ v, e = .returned v) /\ Lv w0 w W' p o P { s with T := refL s.N s.T ns } := by
 have HM : Hid (∀ wx s', Fx w0 wx p o P s' -> Calls Tryz.prog 32 #[.pointer (some ⟨p, 0, none⟩)] wx fun e w' => e = .returned (.pointer (some ⟨P.pt, 0, none⟩)) /\ Lv w0 wx w' p o P s') := fun wx s' h => gx_typ h
 have HR : Hid (∀ wx s' (f : Int), Fx w0 wx p o P s' -> Calls Tryz.prog 53 #[.pointer (some ⟨P.pt, 0, none⟩), .int .i64 f] wx fun e w' => e = .returned (.int .i64 (Ptyp.errA s'.N s'.T f Ptyp.hRf)) /\ Lv w0 wx w' p o P { s' with T := Ptyp.mapA s'.N s'.T f Ptyp.gRf }) := fun wx s' f h => gx_ref f h
 have hown : ∀ i, PMine o i -> i < w.heap.size := fun i hi => h.x.v.own i hi.1 hi.2
 have h00 : w0.heap.size <= w.heap.size := h.below.size
 have H := nhide h
 clear h
 refine (callsIn_wide (n := 9)).1 ?_
 refine callsIn_of_wp_marks Tryz.func111 rfl trivial ?_ rfl
 simp only [Tryz.ntmps111, List.size_toArray, List.length_cons, List.length_nil, Nat.reduceAdd, Nat.reduceSub, Array.replicate_succ, Array.replicate_zero, List.push_toArray, List.append_toArray, List.nil_append, List.cons_append]
 gi_wp2
 have hm : Tryz.prog.follows .mixedOrders = true := by kernel_rfl
 have b1 := Boxed.new w 35 (.pointer (some ⟨p, 0, none⟩))
 have hI0 : TkI w0 w p o P s [] (w.alloc (.cells #[.pointer (some ⟨p, 0, none⟩)] 35)) := ⟨b1, (lv_refl H.out).on (bal (Below.refl _ _) _)⟩
 have hs0 : (w.alloc (.cells #[.pointer (some ⟨p, 0, none⟩)] 35)).heap.size = w.heap.size + 1 := by simp
 have hV0 : Below w.heap.size w (w.alloc (.cells #[.pointer (some ⟨p, 0, none⟩)] 35)) := bal (Below.refl _ _) _
 clear b1
 generalize w.alloc _ = V at hI0 hs0 hV0 ⊢
 refine wpIn_rangeFunc_ownH rfl (by omega) (gf := gf) (lb := lb) rfl trivial hen (hseq V hV0) hKt (fun W l o o' hl hWl ho hw => hKo W l o o' (by omega) hWl ho hw) (Below.refl _ _) (fun _ => rfl)
  (TkI w0 w p o P s) (fun _ _ _ => False) (tkI_own w0 w p o P s hown h00 (by omega)) (fun c s A C row hs _ _ => hs) hI0
  (TkA w p gf lb) (fun x a' => tkA_own w p gf lb x a' _) ?assign ?body ?done ?stop
 case assign =>
  intro l pre x W K hI hK
  unfold encG
  gi_wp2
  exact hK _ _ ((KeepsOthers.alloc W _).from _) (hKT (Tint.of_below _ (bal (Below.refl _ _) _))) (tkI_own w0 w p o P s hown h00 (Nat.le_refl _) pre W _ none hI (World.grownBy_alloc W _ none) (fun r e => by cases e)) ⟨W.heap.size, heap_alloc_new W _, hI.bm.lt, rfl⟩
 case body =>
  rintro l pre x a' W hl _ hI ⟨q, hq, hlt, rfl⟩ hpl
  have c0 : W.cell? ⟨w.heap.size, 0, none⟩ = some (.pointer (some ⟨p, 0, none⟩)) := hI.bm.cell
  have k0 : W.cell? ⟨q, 0, none⟩ = some (.int .i64 x.1.1) := (cell_of_row _ _ _ _ _ _ hq).trans rfl
  have hqs : q < W.heap.size := (Array.getElem?_eq_some_iff.1 hq).1
  have hqm : ¬ PMine o q := fun hm => by have := hown q hm; omega
  have hwm : ¬ PMine o w.heap.size := fun hm => absurd (hown _ hm) (Nat.lt_irrefl _)
  have HS := nhide (refL_snoc s.N s.T (pre.map Subtype.val) x.1)
  have HI := nhide hI
  obtain ⟨s1, hs1⟩ : ∃ s1, s1 = { s with T := refL s.N s.T (pre.map Subtype.val) } := ⟨_, rfl⟩
  obtain ⟨s2, hs2⟩ : ∃ s2, s2 = { s1 with T := Ptyp.mapA s1.N s1.T x.1.1 Ptyp.gRf } := ⟨_, rfl⟩
  have H0 : Hid (Lv w0 W W p o P s1) := by rw [hs1]; exact lv_refl hI.lv.fx
  have HRx : Hid (∀ wx, Fx w0 wx p o P s1 -> Calls Tryz.prog 53 #[.pointer (some ⟨P.pt, 0, none⟩), .int .i64 x.1.1] wx fun e w' => e = .returned (.int .i64 (Ptyp.errA s1.N s1.T x.1.1 Ptyp.hRf)) /\ Lv w0 wx w' p o P s2) := fun wx h => by rw [hs2]; exact HR.out wx s1 _ h
  have HN : Hid (∀ W', Lv w0 W W' p o P s2 -> TkI w0 w p o P s (pre ++ [x]) W') := fun W' g => by
   refine ⟨(g.k.block _ hI.bm.lt hwm).trans hI.bm, ?_⟩
   have e : s2 = { s with T := refL s.N s.T ((pre ++ [x]).map Subtype.val) } := by
    rw [hs2, hs1, List.map_append]
    show _ = { s with T := refL s.N s.T (pre.map Subtype.val ++ [x.1]) }
    rw [HS.out]
   rw [<- e]
   exact (hI.lv.then (w2 := W') (s' := s2) g)
  generalize Ptyp.errA s1.N s1.T x.1.1 Ptyp.hRf = E at HRx
  clear hq HR hI hs1 hs2 HS
  have kd0 : W.drew.cell? ⟨q, 0, none⟩ = some (.int .i64 x.1.1) := k0
  have HK : ∀ (a : Act) (W' : World), Lv w0 W W' p o P s2 -> ownPostG V.heap.size Kp (TkI w0 w p o P s) (fun _ _ _ => False) (pre ++ [x]) W .normal a W' := fun a W' g => ⟨keeps_lv g hown (by omega), hKT g.k, HN.out _ g⟩
  gi_wp2
  gi_region_with (first
   | (refine ⟨trivial, ?_⟩; gi_at_call 32; refine (CallsIn.inRound l (callsIn_wide.2 (HM.out _ s1 ?hb))).mono ?_; (case hb => first | exact H0.out.fx | exact (H0.out.on (Below.refl _ _).drew).fx); rintro e w1 ⟨rfl, hw1⟩; have H1 : Hid (Lv w0 W w1 p o P s1) := nhide ((by first | exact H0.out | exact H0.out.on (Below.refl _ _).drew : Lv w0 W _ p o P s1).then hw1); clear hw1; have c1a : w1.cell? ⟨q, 0, none⟩ = some (.int .i64 x.1.1) := (H1.out.k.cell hqs hqm).trans k0)
   | (refine ⟨trivial, ?_⟩; gi_at_call 53; refine (CallsIn.inRound l (callsIn_wide.2 (HRx.out _ ?hb))).mono ?_; (case hb => first | exact H1.out.fx | exact (H1.out.on (Below.refl _ _).drew).fx); rintro e w2 ⟨rfl, hw2⟩; have H2 : Hid (Lv w0 W w2 p o P s2) := nhide ((by first | exact H1.out | exact H1.out.on (Below.refl _ _).drew : Lv w0 W _ p o P s1).then hw2); clear hw2)
   | fail)
  all_goals (gi_wp2; refine HK _ _ ?_; (first | exact H2.out | exact H2.out.on (Below.refl _ _).drew))
 case done =>
  rintro D ys W hD hys hI hK
  have HI := nhide hI
  have HY := nhide hys
  clear hI hys
  gi_wp2
  refine ⟨by simp, .inl ⟨_, _, rfl, run_takeDeferred hK, ?_⟩⟩
  have := HI.out.lv.obj hown h00 (D := D) (by omega) (.deferred none)
  rw [HY.out] at this
  exact ⟨_, results_none rfl _ _ _, ⟨_, rfl⟩, this⟩
 case stop =>
  rintro D c pre W hD _ hX hK
  exact absurd hX id
end Pbpag
end Go.Proofs.YtkkclcihjojphaaGreatDoor
