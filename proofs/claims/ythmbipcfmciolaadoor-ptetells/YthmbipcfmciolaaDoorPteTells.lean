/- For every mapping, every word and every two numbers: Check, Put, Get, Allows, Less and Quiet of package pte answer what the document's own ones answer, the errors too. Conditions: none but that package pte's table of widths starts as the program's text lays it (tied). -/
import Derived.Test.YthmbipcfmciolaaDoorRows
import Derived.Test.YthmbipcfmciolaaDoorTie
import Derived.Test.YthmbipcfmciolaaDoorCards
import Derived.Test.YthmbipcfmciolaaDoorPteJ
import Derived.Test.YthmbipcfmciolaaDoorPteS
import Derived.Deep.RegionHeld3
import Derived.Deep.CutBlock
import Derived.WalkKit
import Derived.ProofKit
import Derived.OpenShut
import Derived.ShutString
import Derived.ChangeOld
import Derived.Below
import Derived.LaidMore
import Derived.Stop.Joined
import Derived.SevenTiedAt
namespace Go.Proofs.YthmbipcfmciolaaDoor.pteTells
open Go.ChangeShapes Go.WideShapes Go.ChangeAt Go.RowKit Go.Proofs.YthmbipcfmciolaaDoor.Pbase Go.Proofs.YthmbipcfmciolaaDoor.Pfield Go.Proofs.YthmbipcfmciolaaDoor.Ppte
set_option linter.unusedVariables false

theorem own : ownKnob Tryd.prog.godebug = none := by kernel_rfl
theorem laidOut : laidOutB Tryd.prog = true := by kernel_rfl

/-- The mapping in a block of the call's own, and the table. -/
structure Al (w0 w : World) (o : Bool) (f r t : Int) : Prop where
  tab : TabW w
  below : Below w0.heap.size w0 w
  box : BoxP w w0.heap.size o f r t
theorem Al.on {w0 w w' : World} {o : Bool} {f r t : Int} (h : Al w0 w o f r t) (hB : Below w.heap.size w w') : Al w0 w' o f r t := ⟨h.tab.on hB, h.below.trans (hB.mono h.below.size), h.box.on hB⟩
theorem al_new {w : World} (hW : TabW w) (o : Bool) (f r t : Int) (ty : TypeId) : Al w (w.alloc (.cells #[.bool o, .int .i64 f, .int .i64 r, .int .i64 t] ty)) o f r t := ⟨hW.on (bal (Below.refl _ _) _), bal (Below.refl _ _) _, boxP_new w o f r t ty⟩
/-- It, and what was got. -/
structure A1 (w0 w : World) (o : Bool) (f r t : Int) (B1 : Nat) (go : Bool) (gf gr gt : Int) : Prop where
  al : Al w0 w o f r t
  b1 : BoxP w B1 go gf gr gt
theorem A1.on {w0 w w' : World} {o go : Bool} {f r t gf gr gt : Int} {B1 : Nat} (h : A1 w0 w o f r t B1 go gf gr gt) (hB : Below w.heap.size w w') : A1 w0 w' o f r t B1 go gf gr gt := ⟨h.al.on hB, h.b1.on hB⟩
theorem Al.one {w0 w : World} {o : Bool} {f r t : Int} (h : Al w0 w o f r t) (go : Bool) (gf gr gt : Int) (ty : TypeId) : A1 w0 (w.alloc (.cells #[.bool go, .int .i64 gf, .int .i64 gr, .int .i64 gt] ty)) o f r t w.heap.size go gf gr gt := ⟨h.on (bal (Below.refl _ _) _), boxP_new w go gf gr gt ty⟩
structure A2 (w0 w : World) (o : Bool) (f r t : Int) (B1 B2 : Nat) (go : Bool) (gf gr gt : Int) : Prop where
  al : Al w0 w o f r t
  b1 : BoxP w B1 go gf gr gt
  b2 : BoxP w B2 go gf gr gt
theorem A2.on {w0 w w' : World} {o go : Bool} {f r t gf gr gt : Int} {B1 B2 : Nat} (h : A2 w0 w o f r t B1 B2 go gf gr gt) (hB : Below w.heap.size w w') : A2 w0 w' o f r t B1 B2 go gf gr gt := ⟨h.al.on hB, h.b1.on hB, h.b2.on hB⟩
theorem A1.two {w0 w : World} {o go : Bool} {f r t gf gr gt : Int} {B1 : Nat} (h : A1 w0 w o f r t B1 go gf gr gt) (ty : TypeId) : A2 w0 (w.alloc (.cells #[.bool go, .int .i64 gf, .int .i64 gr, .int .i64 gt] ty)) o f r t B1 w.heap.size go gf gr gt := ⟨h.al.on (bal (Below.refl _ _) _), h.b1.on (bal (Below.refl _ _) _), boxP_new w go gf gr gt ty⟩
structure A3 (w0 w : World) (o : Bool) (f r t : Int) (B1 B2 B3 : Nat) (go : Bool) (gf gr gt : Int) (lo : Bool) (lf lr : Int) : Prop where
  a2 : A2 w0 w o f r t B1 B2 go gf gr gt
  b3 : BoxP w B3 lo lf lr 0
theorem A3.on {w0 w w' : World} {o go lo : Bool} {f r t gf gr gt lf lr : Int} {B1 B2 B3 : Nat} (h : A3 w0 w o f r t B1 B2 B3 go gf gr gt lo lf lr) (hB : Below w.heap.size w w') : A3 w0 w' o f r t B1 B2 B3 go gf gr gt lo lf lr := ⟨h.a2.on hB, h.b3.on hB⟩
theorem A2.three {w0 w : World} {o go : Bool} {f r t gf gr gt : Int} {B1 B2 : Nat} (h : A2 w0 w o f r t B1 B2 go gf gr gt) (lo : Bool) (lf lr : Int) (ty : TypeId) : A3 w0 (w.alloc (.cells #[.bool lo, .int .i64 lf, .int .i64 lr, .int .i64 0] ty)) o f r t B1 B2 w.heap.size go gf gr gt lo lf lr := ⟨h.on (bal (Below.refl _ _) _), boxP_new w lo lf lr 0 ty⟩
structure A4 (w0 w : World) (o : Bool) (f r t : Int) (B1 B2 B3 B4 : Nat) (go : Bool) (gf gr gt : Int) (lo : Bool) (lf lr : Int) : Prop where
  a3 : A3 w0 w o f r t B1 B2 B3 go gf gr gt lo lf lr
  b4 : BoxP w B4 lo lf lr 0
theorem A4.on {w0 w w' : World} {o go lo : Bool} {f r t gf gr gt lf lr : Int} {B1 B2 B3 B4 : Nat} (h : A4 w0 w o f r t B1 B2 B3 B4 go gf gr gt lo lf lr) (hB : Below w.heap.size w w') : A4 w0 w' o f r t B1 B2 B3 B4 go gf gr gt lo lf lr := ⟨h.a3.on hB, h.b4.on hB⟩
theorem A3.four {w0 w : World} {o go lo : Bool} {f r t gf gr gt lf lr : Int} {B1 B2 B3 : Nat} (h : A3 w0 w o f r t B1 B2 B3 go gf gr gt lo lf lr) (ty : TypeId) : A4 w0 (w.alloc (.cells #[.bool lo, .int .i64 lf, .int .i64 lr, .int .i64 0] ty)) o f r t B1 B2 B3 w.heap.size go gf gr gt lo lf lr := ⟨h.on (bal (Below.refl _ _) _), boxP_new w lo lf lr 0 ty⟩
theorem hidden {p : Prop} (h : p) : Hid p := h
set_option maxRecDepth 100000 in
set_option maxHeartbeats 8000000 in

theorem walk (a0 : Pt) (a1 : Int) (a2 : Int) (a3 : Int) (w : World) (w1 : (Lit.int .u64 a1).wf = true) (w2 : (Lit.int .i64 a2).wf = true) (w3 : (Lit.int .i64 a3).wf = true) (hW : TabW w) :
    Calls Tryd.prog 3 #[.agg #[.bool a0.1, .int .i64 a0.2.1, .int .i64 a0.2.2.1, .int .i64 a0.2.2.2], .int .u64 a1, .int .i64 a2, .int .i64 a3] w fun e w' => e = .returned (.bool true) ∧ Below w.heap.size w w' := by
  obtain ⟨o, f, r, t⟩ := a0
  have HA : Hid (∀ ty, Al w (w.alloc (.cells #[.bool o, .int .i64 f, .int .i64 r, .int .i64 t] ty)) o f r t) := fun ty => al_new hW o f r t ty
  have hx := bounds_u64 w1
  have hq := bounds_i64 w2
  have P1 := hidden fun v (h : Al w v o f r t) => put_any o f r t v h.tab
  have P2 := hidden fun v => rput_any o f r t v
  have G1 := hidden fun v (h : Al w v o f r t) => get_any a1 v hx h.tab
  have G2 := hidden fun v => rget_any a1 v hx
  have L1 := hidden fun v => less_any o f r t a2 v
  have L2 := hidden fun v => rless_any o f r t a2 v
  have C1 := hidden fun v => check_any o f r t v
  have C2 := hidden fun v => rcheck_any o f r t v
  have D1 := hidden fun v => allows_any o f r t a2 v hq
  have D2 := hidden fun v => rallows_any o f r t a2 v
  have Q1 := hidden fun v => quiet_any o f r t a3 v
  have Q2 := hidden fun v => rquiet_any o f r t a3 v
  clear hW w1 w2 w3 hx hq
  generalize putW o f r t = pw at P1 P2
  generalize chk o f r t = pc at P1 P2 C1 C2
  generalize getO a1 = go at G1 G2
  generalize getF a1 = gf at G1 G2
  generalize getR a1 = gr at G1 G2
  generalize getT a1 = gt at G1 G2
  generalize getE a1 = ge at G1 G2
  generalize leO o f r t a2 = lo at L1 L2
  generalize leF o f r t a2 = lf at L1 L2
  generalize leR o f r t a2 = lr at L1 L2
  generalize leE o f r t a2 = le at L1 L2
  generalize alB o f r t a2 = ab at D1 D2
  generalize quB o f r t a3 = qb at Q1 Q2
  have EG := fun v => eqlP go gf gr gt v
  have EL := fun v => eqlP lo lf lr 0 v
  have AW := hidden fun v => awake_any v
  go_enter Tryd.func3, Tryd.ntmps3
  go_upto_region 4 with (first
    | (go_at_call 5; refine (P1.out _ (HA.out _)).mono ?_; rintro e9 v1 ⟨rfl, hb⟩; have H1 := hidden ((HA.out _).on hb); clear hb HA P1; have x0 := H1.out.box.c0; have x1 := H1.out.box.c1; have x2 := H1.out.box.c2; have x3 := H1.out.box.c3; have xl := H1.out.box.lt)
    | (go_at_call 6; refine (P2.out _).mono ?_; rintro e9 v2 ⟨rfl, hb⟩; have H2 := hidden (H1.out.on hb); clear hb H1 P2 xl x0 x1 x2 x3; have x0 := H2.out.box.c0; have x1 := H2.out.box.c1; have x2 := H2.out.box.c2; have x3 := H2.out.box.c3; have xl := H2.out.box.lt)
    | (go_at_call 7; refine (G1.out _ H2.out).mono ?_; rintro e9 v3 ⟨rfl, hb⟩; have H3 := (H2.out.on hb).one go gf gr gt 23; clear hb H2 G1 xl x0 x1 x2 x3; skip)
    | fail)
  generalize v3.alloc _ = u3 at H3 ⊢
  generalize v3.heap.size = b1 at H3 ⊢
  have K3 := hidden H3
  clear H3
  have x0 := K3.out.al.box.c0
  have x1 := K3.out.al.box.c1
  have x2 := K3.out.al.box.c2
  have x3 := K3.out.al.box.c3
  have xl := K3.out.al.box.lt
  go_upto_region 5 with (first
    | (go_at_call 8; refine (G2.out _).mono ?_; rintro e9 v4 ⟨rfl, hb⟩; have H4 := (K3.out.on hb).two 23; clear hb K3 G2 xl x0 x1 x2 x3; skip)
    | fail)
  generalize v4.alloc _ = u4 at H4 ⊢
  generalize v4.heap.size = b2 at H4 ⊢
  have K4 := hidden H4
  clear H4
  have x0 := K4.out.al.box.c0
  have x1 := K4.out.al.box.c1
  have x2 := K4.out.al.box.c2
  have x3 := K4.out.al.box.c3
  have xl := K4.out.al.box.lt
  go_upto_region 6 with (first
    | (go_at_call 9; refine (L1.out _).mono ?_; rintro e9 v5 ⟨rfl, hb⟩; have H5 := (K4.out.on hb).three lo lf lr 23; clear hb K4 L1 xl x0 x1 x2 x3; skip)
    | fail)
  generalize v5.alloc _ = u5 at H5 ⊢
  generalize v5.heap.size = b3 at H5 ⊢
  have K5 := hidden H5
  clear H5
  have x0 := K5.out.a2.al.box.c0
  have x1 := K5.out.a2.al.box.c1
  have x2 := K5.out.a2.al.box.c2
  have x3 := K5.out.a2.al.box.c3
  have xl := K5.out.a2.al.box.lt
  go_upto_region 7 with (first
    | (go_at_call 10; refine (L2.out _).mono ?_; rintro e9 v6 ⟨rfl, hb⟩; have H6 := (K5.out.on hb).four 23; clear hb K5 L2 xl x0 x1 x2 x3; skip)
    | fail)
  generalize v6.alloc _ = z0 at H6 ⊢
  generalize v6.heap.size = b4 at H6 ⊢
  have HQ := hidden H6
  clear H6
  have x0 := HQ.out.a3.a2.al.box.c0
  have x1 := HQ.out.a3.a2.al.box.c1
  have x2 := HQ.out.a3.a2.al.box.c2
  have x3 := HQ.out.a3.a2.al.box.c3
  have y0 := HQ.out.a3.a2.b1.c0
  have y1 := HQ.out.a3.a2.b1.c1
  have y2 := HQ.out.a3.a2.b1.c2
  have y3 := HQ.out.a3.a2.b1.c3
  have u0 := HQ.out.a3.a2.b2.c0
  have u1 := HQ.out.a3.a2.b2.c1
  have u2 := HQ.out.a3.a2.b2.c2
  have u3 := HQ.out.a3.a2.b2.c3
  have p0 := HQ.out.a3.b3.c0
  have p1 := HQ.out.a3.b3.c1
  have p2 := HQ.out.a3.b3.c2
  have p3 := HQ.out.a3.b3.c3
  have q0 := HQ.out.b4.c0
  have q1 := HQ.out.b4.c1
  have q2 := HQ.out.b4.c2
  have q3 := HQ.out.b4.c3
  try dsimp only [List.append]
  go_region_held3 (fun w' => w'.cell? ⟨w.heap.size, 0, none⟩ = some (.bool o) ∧ w'.cell? ⟨w.heap.size, 1, none⟩ = some (.int .i64 f) ∧ w'.cell? ⟨w.heap.size, 2, none⟩ = some (.int .i64 r) ∧ w'.cell? ⟨w.heap.size, 3, none⟩ = some (.int .i64 t) ∧ w'.cell? ⟨b1, 0, none⟩ = some (.bool go) ∧ w'.cell? ⟨b1, 1, none⟩ = some (.int .i64 gf) ∧ w'.cell? ⟨b1, 2, none⟩ = some (.int .i64 gr) ∧ w'.cell? ⟨b1, 3, none⟩ = some (.int .i64 gt) ∧ w'.cell? ⟨b2, 0, none⟩ = some (.bool go) ∧ w'.cell? ⟨b2, 1, none⟩ = some (.int .i64 gf) ∧ w'.cell? ⟨b2, 2, none⟩ = some (.int .i64 gr) ∧ w'.cell? ⟨b2, 3, none⟩ = some (.int .i64 gt) ∧ w'.cell? ⟨b3, 0, none⟩ = some (.bool lo) ∧ w'.cell? ⟨b3, 1, none⟩ = some (.int .i64 lf) ∧ w'.cell? ⟨b3, 2, none⟩ = some (.int .i64 lr) ∧ w'.cell? ⟨b3, 3, none⟩ = some (.int .i64 0) ∧ w'.cell? ⟨b4, 0, none⟩ = some (.bool lo) ∧ w'.cell? ⟨b4, 1, none⟩ = some (.int .i64 lf) ∧ w'.cell? ⟨b4, 2, none⟩ = some (.int .i64 lr) ∧ w'.cell? ⟨b4, 3, none⟩ = some (.int .i64 0)) (first | exact ⟨by assumption, by assumption, by assumption, by assumption, by assumption, by assumption, by assumption, by assumption, by assumption, by assumption, by assumption, by assumption, by assumption, by assumption, by assumption, by assumption, by assumption, by assumption, by assumption, by assumption⟩ | go_keep)
  (first
    | (go_at_call 11; refine (C1.out _).mono ?_; rintro e9 z1 ⟨rfl, hb⟩; have HR := hidden (by first | exact HQ.out.on hb | exact HQ.out.on ((Below.refl _ _).drew.trans hb) : A4 w z1 o f r t b1 b2 b3 b4 go gf gr gt lo lf lr); clear hb HQ x0 x1 x2 x3 y0 y1 y2 y3 u0 u1 u2 u3 p0 p1 p2 p3 q0 q1 q2 q3; have HQ := HR; clear HR; have x0 := HQ.out.a3.a2.al.box.c0; have x1 := HQ.out.a3.a2.al.box.c1; have x2 := HQ.out.a3.a2.al.box.c2; have x3 := HQ.out.a3.a2.al.box.c3; have y0 := HQ.out.a3.a2.b1.c0; have y1 := HQ.out.a3.a2.b1.c1; have y2 := HQ.out.a3.a2.b1.c2; have y3 := HQ.out.a3.a2.b1.c3; have u0 := HQ.out.a3.a2.b2.c0; have u1 := HQ.out.a3.a2.b2.c1; have u2 := HQ.out.a3.a2.b2.c2; have u3 := HQ.out.a3.a2.b2.c3; have p0 := HQ.out.a3.b3.c0; have p1 := HQ.out.a3.b3.c1; have p2 := HQ.out.a3.b3.c2; have p3 := HQ.out.a3.b3.c3; have q0 := HQ.out.b4.c0; have q1 := HQ.out.b4.c1; have q2 := HQ.out.b4.c2; have q3 := HQ.out.b4.c3; dsimp only)
    | (go_at_call 12; refine (C2.out _).mono ?_; rintro e9 z2 ⟨rfl, hb⟩; have HR := hidden (by first | exact HQ.out.on hb | exact HQ.out.on ((Below.refl _ _).drew.trans hb) : A4 w z2 o f r t b1 b2 b3 b4 go gf gr gt lo lf lr); clear hb HQ x0 x1 x2 x3 y0 y1 y2 y3 u0 u1 u2 u3 p0 p1 p2 p3 q0 q1 q2 q3; have HQ := HR; clear HR; have x0 := HQ.out.a3.a2.al.box.c0; have x1 := HQ.out.a3.a2.al.box.c1; have x2 := HQ.out.a3.a2.al.box.c2; have x3 := HQ.out.a3.a2.al.box.c3; have y0 := HQ.out.a3.a2.b1.c0; have y1 := HQ.out.a3.a2.b1.c1; have y2 := HQ.out.a3.a2.b1.c2; have y3 := HQ.out.a3.a2.b1.c3; have u0 := HQ.out.a3.a2.b2.c0; have u1 := HQ.out.a3.a2.b2.c1; have u2 := HQ.out.a3.a2.b2.c2; have u3 := HQ.out.a3.a2.b2.c3; have p0 := HQ.out.a3.b3.c0; have p1 := HQ.out.a3.b3.c1; have p2 := HQ.out.a3.b3.c2; have p3 := HQ.out.a3.b3.c3; have q0 := HQ.out.b4.c0; have q1 := HQ.out.b4.c1; have q2 := HQ.out.b4.c2; have q3 := HQ.out.b4.c3; dsimp only)
    | (go_at_call 13; refine (D1.out _).mono ?_; rintro e9 z3 ⟨rfl, hb⟩; have HR := hidden (by first | exact HQ.out.on hb | exact HQ.out.on ((Below.refl _ _).drew.trans hb) : A4 w z3 o f r t b1 b2 b3 b4 go gf gr gt lo lf lr); clear hb HQ x0 x1 x2 x3 y0 y1 y2 y3 u0 u1 u2 u3 p0 p1 p2 p3 q0 q1 q2 q3; have HQ := HR; clear HR; have x0 := HQ.out.a3.a2.al.box.c0; have x1 := HQ.out.a3.a2.al.box.c1; have x2 := HQ.out.a3.a2.al.box.c2; have x3 := HQ.out.a3.a2.al.box.c3; have y0 := HQ.out.a3.a2.b1.c0; have y1 := HQ.out.a3.a2.b1.c1; have y2 := HQ.out.a3.a2.b1.c2; have y3 := HQ.out.a3.a2.b1.c3; have u0 := HQ.out.a3.a2.b2.c0; have u1 := HQ.out.a3.a2.b2.c1; have u2 := HQ.out.a3.a2.b2.c2; have u3 := HQ.out.a3.a2.b2.c3; have p0 := HQ.out.a3.b3.c0; have p1 := HQ.out.a3.b3.c1; have p2 := HQ.out.a3.b3.c2; have p3 := HQ.out.a3.b3.c3; have q0 := HQ.out.b4.c0; have q1 := HQ.out.b4.c1; have q2 := HQ.out.b4.c2; have q3 := HQ.out.b4.c3; dsimp only)
    | (go_at_call 14; refine (D2.out _).mono ?_; rintro e9 z4 ⟨rfl, hb⟩; have HR := hidden (by first | exact HQ.out.on hb | exact HQ.out.on ((Below.refl _ _).drew.trans hb) : A4 w z4 o f r t b1 b2 b3 b4 go gf gr gt lo lf lr); clear hb HQ x0 x1 x2 x3 y0 y1 y2 y3 u0 u1 u2 u3 p0 p1 p2 p3 q0 q1 q2 q3; have HQ := HR; clear HR; have x0 := HQ.out.a3.a2.al.box.c0; have x1 := HQ.out.a3.a2.al.box.c1; have x2 := HQ.out.a3.a2.al.box.c2; have x3 := HQ.out.a3.a2.al.box.c3; have y0 := HQ.out.a3.a2.b1.c0; have y1 := HQ.out.a3.a2.b1.c1; have y2 := HQ.out.a3.a2.b1.c2; have y3 := HQ.out.a3.a2.b1.c3; have u0 := HQ.out.a3.a2.b2.c0; have u1 := HQ.out.a3.a2.b2.c1; have u2 := HQ.out.a3.a2.b2.c2; have u3 := HQ.out.a3.a2.b2.c3; have p0 := HQ.out.a3.b3.c0; have p1 := HQ.out.a3.b3.c1; have p2 := HQ.out.a3.b3.c2; have p3 := HQ.out.a3.b3.c3; have q0 := HQ.out.b4.c0; have q1 := HQ.out.b4.c1; have q2 := HQ.out.b4.c2; have q3 := HQ.out.b4.c3; dsimp only)
    | (go_at_call 15; refine (Q1.out _).mono ?_; rintro e9 z5 ⟨rfl, hb⟩; have HR := hidden (by first | exact HQ.out.on hb | exact HQ.out.on ((Below.refl _ _).drew.trans hb) : A4 w z5 o f r t b1 b2 b3 b4 go gf gr gt lo lf lr); clear hb HQ x0 x1 x2 x3 y0 y1 y2 y3 u0 u1 u2 u3 p0 p1 p2 p3 q0 q1 q2 q3; have HQ := HR; clear HR; have x0 := HQ.out.a3.a2.al.box.c0; have x1 := HQ.out.a3.a2.al.box.c1; have x2 := HQ.out.a3.a2.al.box.c2; have x3 := HQ.out.a3.a2.al.box.c3; have y0 := HQ.out.a3.a2.b1.c0; have y1 := HQ.out.a3.a2.b1.c1; have y2 := HQ.out.a3.a2.b1.c2; have y3 := HQ.out.a3.a2.b1.c3; have u0 := HQ.out.a3.a2.b2.c0; have u1 := HQ.out.a3.a2.b2.c1; have u2 := HQ.out.a3.a2.b2.c2; have u3 := HQ.out.a3.a2.b2.c3; have p0 := HQ.out.a3.b3.c0; have p1 := HQ.out.a3.b3.c1; have p2 := HQ.out.a3.b3.c2; have p3 := HQ.out.a3.b3.c3; have q0 := HQ.out.b4.c0; have q1 := HQ.out.b4.c1; have q2 := HQ.out.b4.c2; have q3 := HQ.out.b4.c3; dsimp only)
    | (go_at_call 16; refine (Q2.out _).mono ?_; rintro e9 z6 ⟨rfl, hb⟩; have HR := hidden (by first | exact HQ.out.on hb | exact HQ.out.on ((Below.refl _ _).drew.trans hb) : A4 w z6 o f r t b1 b2 b3 b4 go gf gr gt lo lf lr); clear hb HQ x0 x1 x2 x3 y0 y1 y2 y3 u0 u1 u2 u3 p0 p1 p2 p3 q0 q1 q2 q3; have HQ := HR; clear HR; have x0 := HQ.out.a3.a2.al.box.c0; have x1 := HQ.out.a3.a2.al.box.c1; have x2 := HQ.out.a3.a2.al.box.c2; have x3 := HQ.out.a3.a2.al.box.c3; have y0 := HQ.out.a3.a2.b1.c0; have y1 := HQ.out.a3.a2.b1.c1; have y2 := HQ.out.a3.a2.b1.c2; have y3 := HQ.out.a3.a2.b1.c3; have u0 := HQ.out.a3.a2.b2.c0; have u1 := HQ.out.a3.a2.b2.c1; have u2 := HQ.out.a3.a2.b2.c2; have u3 := HQ.out.a3.a2.b2.c3; have p0 := HQ.out.a3.b3.c0; have p1 := HQ.out.a3.b3.c1; have p2 := HQ.out.a3.b3.c2; have p3 := HQ.out.a3.b3.c3; have q0 := HQ.out.b4.c0; have q1 := HQ.out.b4.c1; have q2 := HQ.out.b4.c2; have q3 := HQ.out.b4.c3; dsimp only)
    | (go_at_call 17; refine (AW.out _).mono ?_; rintro e9 z7 ⟨rfl, hb⟩; have HR := hidden (by first | exact HQ.out.on hb | exact HQ.out.on ((Below.refl _ _).drew.trans hb) : A4 w z7 o f r t b1 b2 b3 b4 go gf gr gt lo lf lr); clear hb HQ x0 x1 x2 x3 y0 y1 y2 y3 u0 u1 u2 u3 p0 p1 p2 p3 q0 q1 q2 q3; have HQ := HR; clear HR; have x0 := HQ.out.a3.a2.al.box.c0; have x1 := HQ.out.a3.a2.al.box.c1; have x2 := HQ.out.a3.a2.al.box.c2; have x3 := HQ.out.a3.a2.al.box.c3; have y0 := HQ.out.a3.a2.b1.c0; have y1 := HQ.out.a3.a2.b1.c1; have y2 := HQ.out.a3.a2.b1.c2; have y3 := HQ.out.a3.a2.b1.c3; have u0 := HQ.out.a3.a2.b2.c0; have u1 := HQ.out.a3.a2.b2.c1; have u2 := HQ.out.a3.a2.b2.c2; have u3 := HQ.out.a3.a2.b2.c3; have p0 := HQ.out.a3.b3.c0; have p1 := HQ.out.a3.b3.c1; have p2 := HQ.out.a3.b3.c2; have p3 := HQ.out.a3.b3.c3; have q0 := HQ.out.b4.c0; have q1 := HQ.out.b4.c1; have q2 := HQ.out.b4.c2; have q3 := HQ.out.b4.c3; dsimp only)
    | fail)
  go_wp2
  go_ret
  exact ⟨rfl, HQ.out.a3.a2.al.below⟩

/-! ### The statement's frame -/
/-- The heap that the program's own initialisers leave meets the condition. -/
theorem door_met (os : Os) (args : Array Value) : laidMetH Tryd.prog Rows.pteTellsRow.laid ((World.doorLaid Tryd.prog 400 os).forCall (fun _ _ => 0) ⟨#[], args, []⟩).memory :=
  laidMetH_of_parts3 (fuel := 8) (laidMet_of_run' 8 (by kernel_rfl) (by kernel_rfl)) (by kernel_rfl) (by kernel_rfl)
set_option maxRecDepth 100000 in
theorem lifted (os : Os) (started : os.Started) (H : Type) (enc : TypeId × Value → H) :
    ReturnsInHanded {} Tryd.checked os 3 .any (fun w args => (Rows.pteTellsSpec.pre enc Tryd.prog Tryd.f3 [] false w args ∧ laidMetH Tryd.prog Rows.pteTellsRow.laid w) ∧ sizedMet enc Tryd.prog Tryd.f3 (OpenSpec.ofChange Rows.pteTellsSpec) false w args) (Rows.pteTellsSpec.post enc Tryd.prog Tryd.f3 false true false false) := by
  refine returnsInHanded_of_change_and (C := Tryd.checked) (X := fun w _ => laidMetH Tryd.prog Rows.pteTellsRow.laid w) (fun _ _ _ hh h => h.of_heap hh) own started (by kernel_rfl) Tryd.func3
    (ChangeSpec.witness_shaped (enc := enc) (C := Tryd.checked) (os := os) (X := fun w _ => laidMetH Tryd.prog Rows.pteTellsRow.laid w) false (World.doorLaid Tryd.prog 400 os) #[.agg #[.bool false, .int .i64 0, .int .i64 0, .int .i64 0], .int .u64 0, .int .i64 0, .int .i64 0] 8 rfl (World.shaped_of_RefB (by kernel_rfl) (by kernel_rfl)) (by kernel_rfl) (by kernel_rfl) (by kernel_rfl) (door_met os _)) ?_
  intro W base args ds gs before hval0 hW _ _ hL _
  have hval : ∀ (j : Nat) t v, Tryd.f3.params[j]? = some t → args[j]? = some v → Value.okWide Tryd.prog W .any base t v := hval0
  have hW' := hW
  obtain ⟨p, q, hA0, hV, rfl, hfz, hnd⟩ := hW
  have hA : DataW.TrodAll enc Tryd.prog W 0 (fun _ => true) true Tryd.f3.params.toList args.toList ds p := hA0
  rw [Tryd.params3] at hA hval
  obtain ⟨v0, vs0, d0, ds0, p0, q0, hargs, rfl, rfl, h0, r0⟩ := trodAll_cons hA
  obtain ⟨v1, vs1, d1, ds1, p1, q1, rfl, rfl, rfl, h1, r1⟩ := trodAll_cons r0
  obtain ⟨v2, vs2, d2, ds2, p2, q2, rfl, rfl, rfl, h2, r2⟩ := trodAll_cons r1
  obtain ⟨v3, vs3, d3, ds3, p3, q3, rfl, rfl, rfl, h3, r3⟩ := trodAll_cons r2
  obtain ⟨rfl, rfl, rfl⟩ := trodAll_nil r3
  obtain rfl : args = #[v0, v1, v2, v3] := by cases args; simp_all
  obtain ⟨rfl, rfl⟩ := trodVars_none hV
  have k0 := h0
  have lt0 : ∀ x ∈ p0, x.block < W.heap.size := by obtain ⟨m, hm⟩ := k0; exact DataW.trod_lt m _ _ _ hm
  obtain ⟨a0, rfl⟩ := pte_val (hval 0 23 v0 rfl rfl) h0
  obtain ⟨a1, rfl, rfl, rfl, w1⟩ := open_int Tryd.underlying24 (hval 1 24 v1 rfl rfl) h1
  obtain ⟨a2, rfl, rfl, rfl, w2⟩ := open_int Tryd.underlying3 (hval 2 3 v2 rfl rfl) h2
  obtain ⟨a3, rfl, rfl, rfl, w3⟩ := open_int Tryd.underlying3 (hval 3 3 v3 rfl rfl) h3
  clear hA0 hval0
  refine (walk a0 a1 a2 a3 W w1 w2 w3 (of_laid hL)).mono fun e W' ⟨he, bel⟩ => ?_
  subst he
  exact ⟨_, rfl, _, _, _, [], _, [], hW', trodAll_mk1 (shut_bool Tryd.underlying4 _), (trodAll_cons_mk (Below.trod laidOut (by kernel_rfl) (of_decide_eq_true (by kernel_rfl)) k0 bel lt0) (trodAll_cons_mk (shut_int Tryd.underlying24 w1) (trodAll_cons_mk (shut_int Tryd.underlying3 w2) (trodAll_cons_mk (shut_int Tryd.underlying3 w3) trodAll_mk0)))), rfl, bel.frame _, fun h => by cases h⟩

theorem over : Rows.pteTellsRow.holds Tryd.pinned (OpenSpec.ofChange Rows.pteTellsSpec) :=
  OpenClaim.holds_of_wide 3 Tryd.f3 rfl rfl rfl rfl rfl rfl rfl ⟨rfl, rfl, rfl, rfl, rfl⟩ rfl rfl rfl rfl rfl (by kernel_rfl) Tryd.func3 (by kernel_rfl)
    (of_decide_eq_true (by kernel_rfl)) (by unfold Func.isWrapper; first | (rw [if_pos (by decide +kernel)]; kernel_rfl) | (rw [if_neg (by decide +kernel)]; exact ⟨rfl, rfl⟩))
    (fun os started H enc _ => lifted os started H enc)

theorem proved : Rows.PteTellsCardSaid :=
  Claim7.holds_tied_plain_at .later [] [.data] true (true, "6d8b4bd67cf4482a6d3453153a9e55ece2a044dc6ed1a0ed6c4ba496708c9cfb") false
    over (fun _ h => by cases h) (by kernel_rfl) (fun _ h => by cases h) pteTells_row_tie rfl ⟨rfl, rfl⟩ (by kernel_rfl) rfl
    (fun g fn hf hfn => by
      obtain rfl : g = 3 := Option.some.inj ((show Tryd.prog.funcNamed Rows.pteTellsRow.func = some 3 by kernel_rfl).symm.trans hf) |>.symm
      obtain rfl : fn = Tryd.f3 := (Option.some.inj (Tryd.func3.symm.trans hfn)).symm
      exact ⟨by kernel_rfl, fun j t ht => by
        rw [Tryd.params3] at ht
        have hm : t ∈ [23, 24, 3, 3] := by simpa using Array.mem_of_getElem? ht
        have hall : ([23, 24, 3, 3].all fun u => !Tryd.prog.wantsStandIn u) = true := by kernel_rfl
        exact (show Tryd.prog.wantsStandIn t = false by simpa using List.all_eq_true.1 hall t hm)⟩)
    (by kernel_rfl)
end Go.Proofs.YthmbipcfmciolaaDoor.pteTells
namespace Go.Proofs.YthmbipcfmciolaaDoor
theorem pteTells_holds : Rows.PteTellsCardSaid := pteTells.proved
#print axioms pteTells_holds
end Go.Proofs.YthmbipcfmciolaaDoor
