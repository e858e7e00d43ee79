/- build's take and what taken answers, over any needs, in a machine (written by mk_gb.py). -/
import Derived.Test.YtcgekcjnaadcmaaGreatDoorGonA
namespace Go.Proofs.YtcgekcjnaadcmaaGreatDoor.Pbuild
open Go.Proofs.YtcgekcjnaadcmaaGreatDoor.Pbase Go.Proofs.YtcgekcjnaadcmaaGreatDoor.Pchold Go.Proofs.YtcgekcjnaadcmaaGreatDoor.Pfind Go.Proofs.YtcgekcjnaadcmaaGreatDoor.Play Go.Proofs.YtcgekcjnaadcmaaGreatDoor.Pmem Go.Proofs.YtcgekcjnaadcmaaGreatDoor.Pmst Go.Proofs.YtcgekcjnaadcmaaGreatDoor.Ppmach Go.Proofs.YtcgekcjnaadcmaaGreatDoor.Ptint
open Go.RowKit Go.Shelf
attribute [local go_sem] Oper.semAt_some
set_option linter.unusedVariables false
set_option linter.unusedSimpArgs false

/-- The table once all these are needed once more, or less. -/
def refL (N : Nat) (T : Nat → Ptyp.FS) (ns : List (Int × Int)) : Nat → Ptyp.FS := ns.foldl (fun T x => Ptyp.mapA N T x.1 Ptyp.gRf) T
def unrL (N : Nat) (now : Int) (T : Nat → Ptyp.FS) (ns : List (Int × Int)) : Nat → Ptyp.FS := ns.foldl (fun T x => Ptyp.mapA N T x.1 (Ptyp.gUr now)) T
theorem refL_snoc (N : Nat) (T : Nat → Ptyp.FS) (l : List (Int × Int)) (x : Int × Int) : refL N T (l ++ [x]) = Ptyp.mapA N (refL N T l) x.1 Ptyp.gRf := by simp [refL]
theorem unrL_snoc (N : Nat) (now : Int) (T : Nat → Ptyp.FS) (l : List (Int × Int)) (x : Int × Int) : unrL N now T (l ++ [x]) = Ptyp.mapA N (unrL N now T l) x.1 (Ptyp.gUr now) := by simp [unrL]
/-- What a loop's own book-keeping leaves of a machine that was there ahead of it. -/
theorem Lv.grown {w0 w A C : World} {p : Nat} {o : Nat → Nat} {P : Pq} {s : St} (h : Lv w0 w A p o P s) (hw : ∀ i, PMine o i → i < w.heap.size) (h0 : w0.heap.size ≤ w.heap.size) {row : Option Nat} {B' : Nat} (hB : w.heap.size ≤ B') (hg : A.grownBy C row) (hr : ∀ r, row = some r → B' ≤ r) : Lv w0 w C p o P s :=
  have hs : w.heap.size ≤ A.heap.size := h.k.size
  have ne : ∀ i, i < w.heap.size → some i ≠ row := fun i hi e => by have := hr i e.symm; omega
  ⟨⟨⟨h.fx.x.v.keep h.fx.ws.c4 hg.size (fun i a b hi => hg.block i hi (ne i (hw i ⟨a, b⟩))), ⟨hg.os.trans h.fx.x.k.os, hg.tape.trans h.fx.x.k.tape, hg.output.trans h.fx.x.k.output, Nat.le_trans h.fx.x.k.size hg.size, fun i hi hn => (hg.block i (Nat.lt_of_lt_of_le hi h.fx.x.k.size) (ne i (by omega))).trans (h.fx.x.k.block i hi hn)⟩⟩, h.fx.ws, h.fx.old, h.fx.tb, h.fx.fit⟩,
    ⟨hg.os.trans h.k.os, hg.tape.trans h.k.tape, hg.output.trans h.k.output, Nat.le_trans hs hg.size, fun i hi hn => (hg.block i (Nat.lt_of_lt_of_le hi hs) (ne i hi)).trans (h.k.block i hi hn)⟩⟩
/-- The same, behind a block of the loop's own that is not cells. -/
theorem Lv.obj {w0 w A : World} {p : Nat} {o : Nat → Nat} {P : Pq} {s : St} (h : Lv w0 w A p o P s) (hw : ∀ i, PMine o i → i < w.heap.size) (h0 : w0.heap.size ≤ w.heap.size) {D : Nat} (hD : w.heap.size ≤ D) (ob : Obj) : Lv w0 w (A.putObj D ob) p o P s :=
  h.grown hw h0 hD (grownBy_putObj' A D ob) (fun r e => by cases e; exact Nat.le_refl _)
theorem keeps_lv {w0 w A C : World} {p : Nat} {o : Nat → Nat} {P : Pq} {s : St} (h : Lv w0 A C p o P s) (hw : ∀ i, PMine o i → i < w.heap.size) {B : Nat} (hB : w.heap.size ≤ B) : KeepsFrom B A C := ⟨h.k.size, fun k ob hk ha _ => (h.k.block k (Array.getElem?_eq_some_iff.1 ha).1 (fun hm => by have := hw k hm; omega)).trans ha⟩
/-- Between two rounds of take. -/
structure TkI (w0 w : World) (p : Nat) (o : Nat → Nat) (P : Pq) (s : St) (pre : List { x : Int × Int // True }) (W : World) : Prop where
  bm : Boxed W w.heap.size 22 (.pointer (some ⟨p, 0, none⟩))
  lv : Lv w0 w W p o P { s with T := refL s.N s.T (pre.map Subtype.val) }
theorem tkI_own (w0 w : World) (p : Nat) (o : Nat → Nat) (P : Pq) (s : St) (hw : ∀ i, PMine o i → i < w.heap.size) (h0 : w0.heap.size ≤ w.heap.size) {B' : Nat} (hB : w.heap.size ≤ B') : OwnFrom B' (TkI w0 w p o P s) := fun pre A C row hs hg hr => by
  have hr' : ∀ r, row = some r → ∃ o : Obj, A.heap[r]? = some o ∧ o.isCells = false := fun r e => (hr r e).2
  exact ⟨boxed_own _ _ (fun _ : Unit => .pointer (some ⟨p, 0, none⟩)) () A C row hs.bm hg hr', hs.lv.grown hw h0 hB hg (fun r e => (hr r e).1)⟩
/-- What a round begins with: the need in a block of its own. -/
def TkA (w : World) (p gf : Nat) (lb : Array Value) (x : { x : Int × Int // True }) (a' : Act) (W : World) : Prop :=
  ∃ q, W.heap[q]? = some (.cells #[.int .i64 x.1.1, .int .i64 x.1.2] 174 (0, 0)) ∧ w.heap.size < q ∧ a' = { tmps := #[.pointer (some ⟨p, 0, none⟩), .func (.func gf) #[] lb, .pointer (some ⟨w.heap.size, 0, none⟩), undef, .pointer (some ⟨q, 0, none⟩), .func (.func gf) #[] lb, .agg #[.int .i64 x.1.1, .int .i64 x.1.2], undef, undef, undef, undef, undef], defers := [] }
theorem tkA_own (w : World) (p gf : Nat) (lb : Array Value) (x : { x : Int × Int // True }) (a' : Act) (B' : Nat) : OwnFrom B' (fun (_ : Unit) W => TkA w p gf lb x a' W) := fun _ A C row hs hg hr => by
  obtain ⟨q, hq, hlt, e⟩ := hs
  exact ⟨q, (hg.block q (Array.getElem?_eq_some_iff.1 hq).1 (fun e' => by obtain ⟨_, o, ho, hc⟩ := hr q e'.symm; rw [hq] at ho; cases ho; cases hc)).trans hq, hlt, e⟩
set_option maxRecDepth 100000 in
set_option maxHeartbeats 4000000 in
theorem take_any {w0 w : World} {p : Nat} {o : Nat → Nat} {P : Pq} {s : St} (h : Fx w0 w p o P s) (gf : Nat) (lb : Array Value) (ns : List (Int × Int)) (hen : ∀ args w, (callFunc gf args).run Tryz.prog w = .ok (.enter gf args) w)
    {Kp : World → World → Prop} (hKt : ∀ {A B C : World}, Kp A B → Kp B C → Kp A C) (hKT : ∀ {X Y : World}, Tint (PMine o) X Y → Kp X Y)
    (hKo : ∀ (W : World) (l : Nat) (o o' : Obj), w.heap.size ≤ l → W.heap[l]? = some o → o.isCells = false → o.isWalk = false → Kp W (W.putObj l o'))
    (hseq : ∀ V, Below w.heap.size w V → SeqStopsK Fence.wide 8 Tryz.prog gf lb (encG (G := fun _ => True)) Kp (fun ys => ys.map Subtype.val = ns) (fun _ => True) 2 V) :
    Calls Tryz.prog 37 #[.pointer (some ⟨p, 0, none⟩), .func (.func gf) #[] lb] w fun e W' => (∃ v, e = .returned v) ∧ Lv w0 w W' p o P { s with T := refL s.N s.T ns } := by
  have HM : Hid (∀ wx s', Fx w0 wx p o P s' → Calls Tryz.prog 20 #[.pointer (some ⟨p, 0, none⟩)] wx fun e w' => e = .returned (.pointer (some ⟨P.pt, 0, none⟩)) ∧ Lv w0 wx w' p o P s') := fun wx s' h => gx_typ h
  have HR : Hid (∀ wx s' (f : Int), Fx w0 wx p o P s' → Calls Tryz.prog 96 #[.pointer (some ⟨P.pt, 0, none⟩), .int .i64 f] wx fun e w' => e = .returned (.int .i64 (Ptyp.errA s'.N s'.T f Ptyp.hRf)) ∧ Lv w0 wx w' p o P { s' with T := Ptyp.mapA s'.N s'.T f Ptyp.gRf }) := fun wx s' f h => gx_ref f h
  have hown : ∀ i, PMine o i → i < w.heap.size := fun i hi => h.x.v.own i hi.1 hi.2
  have h00 : w0.heap.size ≤ w.heap.size := h.below.size
  have H := nhide h
  clear h
  refine (callsIn_wide (n := 9)).1 ?_
  refine callsIn_of_wp_marks Tryz.func37 rfl trivial ?_ rfl
  simp only [Tryz.ntmps37, List.size_toArray, List.length_cons, List.length_nil, Nat.reduceAdd, Nat.reduceSub, Array.replicate_succ, Array.replicate_zero, List.push_toArray, List.append_toArray, List.nil_append, List.cons_append]
  gi_wp2
  have hm : Tryz.prog.follows .mixedOrders = true := by kernel_rfl
  have b1 := Boxed.new w 22 (.pointer (some ⟨p, 0, none⟩))
  have hI0 : TkI w0 w p o P s [] (w.alloc (.cells #[.pointer (some ⟨p, 0, none⟩)] 22)) := ⟨b1, (lv_refl H.out).on (bal (Below.refl _ _) _)⟩
  have hs0 : (w.alloc (.cells #[.pointer (some ⟨p, 0, none⟩)] 22)).heap.size = w.heap.size + 1 := by simp
  have hV0 : Below w.heap.size w (w.alloc (.cells #[.pointer (some ⟨p, 0, none⟩)] 22)) := bal (Below.refl _ _) _
  clear b1
  generalize w.alloc _ = V at hI0 hs0 hV0 ⊢
  refine wpIn_rangeFunc_ownH rfl (by omega) (gf := gf) (lb := lb) rfl trivial hen (hseq V hV0) hKt (fun W l o o' hl hWl ho hw => hKo W l o o' (by omega) hWl ho hw) (Below.refl _ _) (fun _ => rfl)
    (TkI w0 w p o P s) (fun _ _ _ => False) (tkI_own w0 w p o P s hown h00 (by omega)) (fun c s A C row hs _ _ => hs) hI0
    (TkA w p gf lb) (fun x a' => tkA_own w p gf lb x a' _) ?assign ?body ?done ?stop
  case assign =>
    intro l pre x W K hI hK
    unfold encG
    gi_wp2
    exact hK _ _ ((KeepsOthers.alloc W _).from _) (hKT (Tint.of_below _ (bal (Below.refl _ _) _))) (tkI_own w0 w p o P s hown h00 (Nat.le_refl _) pre W _ none hI (World.grownBy_alloc W _ none) (fun r e => by cases e)) ⟨W.heap.size, heap_alloc_new W _, hI.bm.lt, rfl⟩
  case body =>
    rintro l pre x a' W hl _ hI ⟨q, hq, hlt, rfl⟩ hpl
    have c0 : W.cell? ⟨w.heap.size, 0, none⟩ = some (.pointer (some ⟨p, 0, none⟩)) := hI.bm.cell
    have k0 : W.cell? ⟨q, 0, none⟩ = some (.int .i64 x.1.1) := (cell_of_row _ _ _ _ _ _ hq).trans rfl
    have hqs : q < W.heap.size := (Array.getElem?_eq_some_iff.1 hq).1
    have hqm : ¬ PMine o q := fun hm => by have := hown q hm; omega
    have hwm : ¬ PMine o w.heap.size := fun hm => absurd (hown _ hm) (Nat.lt_irrefl _)
    have HS := nhide (refL_snoc s.N s.T (pre.map Subtype.val) x.1)
    have HI := nhide hI
    obtain ⟨s1, hs1⟩ : ∃ s1, s1 = { s with T := refL s.N s.T (pre.map Subtype.val) } := ⟨_, rfl⟩
    obtain ⟨s2, hs2⟩ : ∃ s2, s2 = { s1 with T := Ptyp.mapA s1.N s1.T x.1.1 Ptyp.gRf } := ⟨_, rfl⟩
    have H0 : Hid (Lv w0 W W p o P s1) := by rw [hs1]; exact lv_refl hI.lv.fx
    have HRx : Hid (∀ wx, Fx w0 wx p o P s1 → Calls Tryz.prog 96 #[.pointer (some ⟨P.pt, 0, none⟩), .int .i64 x.1.1] wx fun e w' => e = .returned (.int .i64 (Ptyp.errA s1.N s1.T x.1.1 Ptyp.hRf)) ∧ Lv w0 wx w' p o P s2) := fun wx h => by rw [hs2]; exact HR.out wx s1 _ h
    have HN : Hid (∀ W', Lv w0 W W' p o P s2 → TkI w0 w p o P s (pre ++ [x]) W') := fun W' g => by
      refine ⟨(g.k.block _ hI.bm.lt hwm).trans hI.bm, ?_⟩
      have e : s2 = { s with T := refL s.N s.T ((pre ++ [x]).map Subtype.val) } := by
        rw [hs2, hs1, List.map_append]
        show _ = { s with T := refL s.N s.T (pre.map Subtype.val ++ [x.1]) }
        rw [HS.out]
      rw [← e]
      exact (hI.lv.then (w2 := W') (s' := s2) g)
    generalize Ptyp.errA s1.N s1.T x.1.1 Ptyp.hRf = E at HRx
    clear hq HR hI hs1 hs2 HS
    have kd0 : W.drew.cell? ⟨q, 0, none⟩ = some (.int .i64 x.1.1) := k0
    have HK : ∀ (a : Act) (W' : World), Lv w0 W W' p o P s2 → ownPostG V.heap.size Kp (TkI w0 w p o P s) (fun _ _ _ => False) (pre ++ [x]) W .normal a W' := fun a W' g => ⟨keeps_lv g hown (by omega), hKT g.k, HN.out _ g⟩
    gi_wp2
    gi_region_with (first
      | (refine ⟨trivial, ?_⟩; gi_at_call 20; refine (CallsIn.inRound l (callsIn_wide.2 (HM.out _ s1 ?hb))).mono ?_; (case hb => first | exact H0.out.fx | exact (H0.out.on (Below.refl _ _).drew).fx); rintro e w1 ⟨rfl, hw1⟩; have H1 : Hid (Lv w0 W w1 p o P s1) := nhide ((by first | exact H0.out | exact H0.out.on (Below.refl _ _).drew : Lv w0 W _ p o P s1).then hw1); clear hw1; have c1a : w1.cell? ⟨q, 0, none⟩ = some (.int .i64 x.1.1) := (H1.out.k.cell hqs hqm).trans k0)
      | (refine ⟨trivial, ?_⟩; gi_at_call 96; refine (CallsIn.inRound l (callsIn_wide.2 (HRx.out _ ?hb))).mono ?_; (case hb => first | exact H1.out.fx | exact (H1.out.on (Below.refl _ _).drew).fx); rintro e w2 ⟨rfl, hw2⟩; have H2 : Hid (Lv w0 W w2 p o P s2) := nhide ((by first | exact H1.out | exact H1.out.on (Below.refl _ _).drew : Lv w0 W _ p o P s1).then hw2); clear hw2)
      | fail)
    all_goals (gi_wp2; refine HK _ _ ?_; (first | exact H2.out | exact H2.out.on (Below.refl _ _).drew))
  case done =>
    rintro D ys W hD hys hI hK
    have HI := nhide hI
    have HY := nhide hys
    clear hI hys
    gi_wp2
    refine ⟨by simp, .inl ⟨_, _, rfl, run_takeDeferred hK, ?_⟩⟩
    have := HI.out.lv.obj hown h00 (D := D) (by omega) (.deferred none)
    rw [HY.out] at this
    exact ⟨_, results_none rfl _ _ _, ⟨_, rfl⟩, this⟩
  case stop =>
    rintro D c pre W hD _ hX hK
    exact absurd hX id
/-- What taken answers: a call that gives back. -/
theorem taken_any (p gf : Nat) (lb : Array Value) (w : World) : Calls Tryz.prog 46 #[.pointer (some ⟨p, 0, none⟩), .func (.func gf) #[] lb] w fun e w' => e = .returned (.func (.func 114) #[] #[.pointer (some ⟨w.heap.size + 1, 0, none⟩), .pointer (some ⟨w.heap.size, 0, none⟩)]) ∧ Below w.heap.size w w' ∧ RowB w' w.heap.size 22 #[.pointer (some ⟨p, 0, none⟩)] ∧ RowB w' (w.heap.size + 1) 64 #[.func (.func gf) #[] lb] := by
  go_enter Tryz.func46, Tryz.ntmps46
  go_wp2
  go_ret
  have h2 := heap_alloc_new (w.alloc (.cells #[.pointer (some ⟨p, 0, none⟩)] 22)) (.cells #[.func (.func gf) #[] lb] 64)
  rw [World.size_alloc] at h2
  exact ⟨rfl, bal (bal (Below.refl _ _) _) _, RowB.on (heap_alloc_new w _) (bal (Below.refl _ _) _), h2⟩
/-- Between two rounds of what taken answers. -/
structure TnI (w0 w : World) (p : Nat) (o : Nat → Nat) (P : Pq) (s : St) (Bm : Nat) (pre : List { x : Int × Int // True }) (W : World) : Prop where
  bm : Boxed W Bm 22 (.pointer (some ⟨p, 0, none⟩))
  lv : Lv w0 w W p o P { s with T := unrL s.N s.C.now s.T (pre.map Subtype.val) }
theorem tnI_own (w0 w : World) (p : Nat) (o : Nat → Nat) (P : Pq) (s : St) (Bm : Nat) (hw : ∀ i, PMine o i → i < w.heap.size) (h0 : w0.heap.size ≤ w.heap.size) {B' : Nat} (hB : w.heap.size ≤ B') : OwnFrom B' (TnI w0 w p o P s Bm) := fun pre A C row hs hg hr => by
  have hr' : ∀ r, row = some r → ∃ o : Obj, A.heap[r]? = some o ∧ o.isCells = false := fun r e => (hr r e).2
  exact ⟨boxed_own _ _ (fun _ : Unit => .pointer (some ⟨p, 0, none⟩)) () A C row hs.bm hg hr', hs.lv.grown hw h0 hB hg (fun r e => (hr r e).1)⟩
def TnA (w : World) (Ba Bm gf : Nat) (lb : Array Value) (x : { x : Int × Int // True }) (a' : Act) (W : World) : Prop :=
  ∃ q, W.heap[q]? = some (.cells #[.int .i64 x.1.1, .int .i64 x.1.2] 174 (0, 0)) ∧ w.heap.size ≤ q ∧ a' = { tmps := #[.pointer (some ⟨Ba, 0, none⟩), .pointer (some ⟨Bm, 0, none⟩), .pointer (some ⟨q, 0, none⟩), .func (.func gf) #[] lb, .agg #[.int .i64 x.1.1, .int .i64 x.1.2], undef, undef, undef, undef, undef, undef, undef], defers := [] }
theorem tnA_own (w : World) (Ba Bm gf : Nat) (lb : Array Value) (x : { x : Int × Int // True }) (a' : Act) (B' : Nat) : OwnFrom B' (fun (_ : Unit) W => TnA w Ba Bm gf lb x a' W) := fun _ A C row hs hg hr => by
  obtain ⟨q, hq, hlt, e⟩ := hs
  exact ⟨q, (hg.block q (Array.getElem?_eq_some_iff.1 hq).1 (fun e' => by obtain ⟨_, o, ho, hc⟩ := hr q e'.symm; rw [hq] at ho; cases ho; cases hc)).trans hq, hlt, e⟩
set_option maxRecDepth 100000 in
set_option maxHeartbeats 4000000 in
theorem untake_any {w0 w : World} {p : Nat} {o : Nat → Nat} {P : Pq} {s : St} (h : Fx w0 w p o P s) {Ba Bm : Nat} (hbm : RowB w Bm 22 #[.pointer (some ⟨p, 0, none⟩)]) (hnm : ¬ PMine o Bm) (gf : Nat) (lb : Array Value) (hba : RowB w Ba 64 #[.func (.func gf) #[] lb]) (ns : List (Int × Int)) (hen : ∀ args w, (callFunc gf args).run Tryz.prog w = .ok (.enter gf args) w)
    {Kp : World → World → Prop} (hKt : ∀ {A B C : World}, Kp A B → Kp B C → Kp A C) (hKT : ∀ {X Y : World}, Tint (PMine o) X Y → Kp X Y)
    (hKo : ∀ (W : World) (l : Nat) (o o' : Obj), w.heap.size ≤ l → W.heap[l]? = some o → o.isCells = false → o.isWalk = false → Kp W (W.putObj l o'))
    (hseq : ∀ V, Below w.heap.size w V → SeqStopsK Fence.wide 8 Tryz.prog gf lb (encG (G := fun _ => True)) Kp (fun ys => ys.map Subtype.val = ns) (fun _ => True) 2 V) :
    Calls Tryz.prog 114 #[.pointer (some ⟨Ba, 0, none⟩), .pointer (some ⟨Bm, 0, none⟩)] w fun e W' => (∃ v, e = .returned v) ∧ Lv w0 w W' p o P { s with T := unrL s.N s.C.now s.T ns } := by
  have HM : Hid (∀ wx s', Fx w0 wx p o P s' → Calls Tryz.prog 20 #[.pointer (some ⟨p, 0, none⟩)] wx fun e w' => e = .returned (.pointer (some ⟨P.pt, 0, none⟩)) ∧ Lv w0 wx w' p o P s') := fun wx s' h => gx_typ h
  have HNw : Hid (∀ wx s', Fx w0 wx p o P s' → Calls Tryz.prog 52 #[.pointer (some ⟨p, 0, none⟩)] wx fun e w' => e = .returned (.int .i64 s'.C.now) ∧ Lv w0 wx w' p o P s') := fun wx s' h => gx_now h
  have HR : Hid (∀ wx s' (f now : Int), Fx w0 wx p o P s' → Calls Tryz.prog 115 #[.pointer (some ⟨P.pt, 0, none⟩), .int .i64 f, .int .i64 now] wx fun e w' => e = .returned (.int .i64 (Ptyp.errA s'.N s'.T f Ptyp.hUr)) ∧ Lv w0 wx w' p o P { s' with T := Ptyp.mapA s'.N s'.T f (Ptyp.gUr now) }) := fun wx s' f now h => gx_unref f now h
  have hown : ∀ i, PMine o i → i < w.heap.size := fun i hi => h.x.v.own i hi.1 hi.2
  have h00 : w0.heap.size ≤ w.heap.size := h.below.size
  have H := nhide h
  have ca : w.cell? ⟨Ba, 0, none⟩ = some (.func (.func gf) #[] lb) := hba.cell 0 rfl
  clear h
  refine (callsIn_wide (n := 9)).1 ?_
  refine callsIn_of_wp_marks Tryz.func114 rfl trivial ?_ rfl
  simp only [Tryz.ntmps114, List.size_toArray, List.length_cons, List.length_nil, Nat.reduceAdd, Nat.reduceSub, Array.replicate_succ, Array.replicate_zero, List.push_toArray, List.append_toArray, List.nil_append, List.cons_append]
  gi_wp2
  have hm : Tryz.prog.follows .mixedOrders = true := by kernel_rfl
  have hI0 : TnI w0 w p o P s Bm [] w := ⟨hbm, lv_refl H.out⟩
  refine wpIn_rangeFunc_ownH rfl (by omega) (gf := gf) (lb := lb) rfl trivial hen (hseq w (Below.refl _ _)) hKt (fun W l o o' hl hWl ho hw => hKo W l o o' hl hWl ho hw) (Below.refl _ _) (fun _ => rfl)
    (TnI w0 w p o P s Bm) (fun _ _ _ => False) (tnI_own w0 w p o P s Bm hown h00 (Nat.le_refl _)) (fun c s A C row hs _ _ => hs) hI0
    (TnA w Ba Bm gf lb) (fun x a' => tnA_own w Ba Bm gf lb x a' _) ?assign ?body ?done ?stop
  case assign =>
    intro l pre x W K hI hK
    unfold encG
    gi_wp2
    exact hK _ _ ((KeepsOthers.alloc W _).from _) (hKT (Tint.of_below _ (bal (Below.refl _ _) _))) (tnI_own w0 w p o P s Bm hown h00 (Nat.le_refl _) pre W _ none hI (World.grownBy_alloc W _ none) (fun r e => by cases e)) ⟨W.heap.size, heap_alloc_new W _, hI.lv.size, rfl⟩
  case body =>
    rintro l pre x a' W hl _ hI ⟨q, hq, hlt, rfl⟩ hpl
    have c0 : W.cell? ⟨Bm, 0, none⟩ = some (.pointer (some ⟨p, 0, none⟩)) := hI.bm.cell
    have k0 : W.cell? ⟨q, 0, none⟩ = some (.int .i64 x.1.1) := (cell_of_row _ _ _ _ _ _ hq).trans rfl
    have hqs : q < W.heap.size := (Array.getElem?_eq_some_iff.1 hq).1
    have hbs : Bm < W.heap.size := hI.bm.lt
    have hqm : ¬ PMine o q := fun hm => by have := hown q hm; omega
    have HS := nhide (unrL_snoc s.N s.C.now s.T (pre.map Subtype.val) x.1)
    obtain ⟨s1, hs1⟩ : ∃ s1, s1 = { s with T := unrL s.N s.C.now s.T (pre.map Subtype.val) } := ⟨_, rfl⟩
    obtain ⟨s2, hs2⟩ : ∃ s2, s2 = { s1 with T := Ptyp.mapA s1.N s1.T x.1.1 (Ptyp.gUr s1.C.now) } := ⟨_, rfl⟩
    have H0 : Hid (Lv w0 W W p o P s1) := by rw [hs1]; exact lv_refl hI.lv.fx
    have HRx : Hid (∀ wx, Fx w0 wx p o P s1 → Calls Tryz.prog 115 #[.pointer (some ⟨P.pt, 0, none⟩), .int .i64 x.1.1, .int .i64 s1.C.now] wx fun e w' => e = .returned (.int .i64 (Ptyp.errA s1.N s1.T x.1.1 Ptyp.hUr)) ∧ Lv w0 wx w' p o P s2) := fun wx h => by rw [hs2]; exact HR.out wx s1 _ _ h
    have HN : Hid (∀ W', Lv w0 W W' p o P s2 → TnI w0 w p o P s Bm (pre ++ [x]) W') := fun W' g => by
      refine ⟨(g.k.block _ hI.bm.lt hnm).trans hI.bm, ?_⟩
      have e : s2 = { s with T := unrL s.N s.C.now s.T ((pre ++ [x]).map Subtype.val) } := by
        rw [hs2, hs1, List.map_append]
        show _ = { s with T := unrL s.N s.C.now s.T (pre.map Subtype.val ++ [x.1]) }
        rw [HS.out]
      rw [← e]
      exact (hI.lv.then (w2 := W') (s' := s2) g)
    generalize Ptyp.errA s1.N s1.T x.1.1 Ptyp.hUr = E at HRx
    generalize hnow : s1.C.now = now at HRx
    clear hq HR hI hs1 hs2 HS
    have kd0 : W.drew.cell? ⟨q, 0, none⟩ = some (.int .i64 x.1.1) := k0
    have kd1 : W.drew.cell? ⟨Bm, 0, none⟩ = some (.pointer (some ⟨p, 0, none⟩)) := c0
    have HK : ∀ (a : Act) (W' : World), Lv w0 W W' p o P s2 → ownPostG w.heap.size Kp (TnI w0 w p o P s Bm) (fun _ _ _ => False) (pre ++ [x]) W .normal a W' := fun a W' g => ⟨keeps_lv g hown (by omega), hKT g.k, HN.out _ g⟩
    gi_wp2
    gi_region_with (first
      | (refine ⟨trivial, ?_⟩; gi_at_call 20; refine (CallsIn.inRound l (callsIn_wide.2 (HM.out _ s1 ?hb))).mono ?_; (case hb => first | exact H0.out.fx | exact (H0.out.on (Below.refl _ _).drew).fx); rintro e w1 ⟨rfl, hw1⟩; have H1 : Hid (Lv w0 W w1 p o P s1) := nhide ((by first | exact H0.out | exact H0.out.on (Below.refl _ _).drew : Lv w0 W _ p o P s1).then hw1); clear hw1; have c1a : w1.cell? ⟨q, 0, none⟩ = some (.int .i64 x.1.1) := (H1.out.k.cell hqs hqm).trans k0; have c1b : w1.cell? ⟨Bm, 0, none⟩ = some (.pointer (some ⟨p, 0, none⟩)) := (H1.out.k.cell hbs hnm).trans c0)
      | (refine ⟨trivial, ?_⟩; gi_at_call 52; refine (CallsIn.inRound l (callsIn_wide.2 (HNw.out _ s1 ?hb))).mono ?_; (case hb => first | exact H1.out.fx | exact (H1.out.on (Below.refl _ _).drew).fx); rw [hnow]; rintro e w2 ⟨rfl, hw1⟩; have H2 : Hid (Lv w0 W w2 p o P s1) := nhide ((by first | exact H1.out | exact H1.out.on (Below.refl _ _).drew : Lv w0 W _ p o P s1).then hw1); clear hw1; have c2a : w2.cell? ⟨q, 0, none⟩ = some (.int .i64 x.1.1) := (H2.out.k.cell hqs hqm).trans k0)
      | (refine ⟨trivial, ?_⟩; gi_at_call 115; refine (CallsIn.inRound l (callsIn_wide.2 (HRx.out _ ?hb))).mono ?_; (case hb => first | exact H2.out.fx | exact (H2.out.on (Below.refl _ _).drew).fx); rintro e w3 ⟨rfl, hw2⟩; have H3 : Hid (Lv w0 W w3 p o P s2) := nhide ((by first | exact H2.out | exact H2.out.on (Below.refl _ _).drew : Lv w0 W _ p o P s1).then hw2); clear hw2)
      | fail)
    all_goals (gi_wp2; refine HK _ _ ?_; (first | exact H3.out | exact H3.out.on (Below.refl _ _).drew))
  case done =>
    rintro D ys W hD hys hI hK
    have HI := nhide hI
    have HY := nhide hys
    clear hI hys
    gi_wp2
    refine ⟨by simp, .inl ⟨_, _, rfl, run_takeDeferred hK, ?_⟩⟩
    have := HI.out.lv.obj hown h00 (D := D) (by omega) (.deferred none)
    rw [HY.out] at this
    exact ⟨_, results_none rfl _ _ _, ⟨_, rfl⟩, this⟩
  case stop =>
    rintro D c pre W hD _ hX hK
    exact absurd hX id
end Go.Proofs.YtcgekcjnaadcmaaGreatDoor.Pbuild
