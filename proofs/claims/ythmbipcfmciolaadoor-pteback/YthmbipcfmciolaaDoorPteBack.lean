/- For every mapping and every word: where Put takes the mapping, Get of its word answers just that mapping; where Get takes the word, Put of what it answers is just that word, and Check takes it; where Get refuses the word it answers no mapping. Conditions: none but that package pte's table of widths starts as the program's text lays it (tied). -/
import Derived.Test.YthmbipcfmciolaaDoorRows
import Derived.Test.YthmbipcfmciolaaDoorTie
import Derived.Test.YthmbipcfmciolaaDoorCards
import Derived.Test.YthmbipcfmciolaaDoorPteJ
import Derived.Test.YthmbipcfmciolaaDoorPteE
import Derived.Test.YthmbipcfmciolaaDoorPteS
import Derived.Deep.CutBlock
import Derived.WalkKit
import Derived.ProofKit
import Derived.OpenShut
import Derived.ShutString
import Derived.ChangeOld
import Derived.Below
import Derived.LaidMore
import Derived.Stop.Joined
import Derived.SevenTiedAt
namespace Go.Proofs.YthmbipcfmciolaaDoor.pteBack
open Go.ChangeShapes Go.WideShapes Go.ChangeAt Go.RowKit Go.Proofs.YthmbipcfmciolaaDoor.Pbase Go.Proofs.YthmbipcfmciolaaDoor.Pfield Go.Proofs.YthmbipcfmciolaaDoor.Ppte
set_option linter.unusedVariables false

theorem own : ownKnob Tryd.prog.godebug = none := by kernel_rfl
theorem laidOut : laidOutB Tryd.prog = true := by kernel_rfl

/-- The mapping in a block of the call's own, and the table. -/
structure Al (w0 w : World) (o : Bool) (f r t : Int) : Prop where
  tab : TabW w
  below : Below w0.heap.size w0 w
  box : BoxP w w0.heap.size o f r t
theorem Al.on {w0 w w' : World} {o : Bool} {f r t : Int} (h : Al w0 w o f r t) (hB : Below w.heap.size w w') : Al w0 w' o f r t := ⟨h.tab.on hB, h.below.trans (hB.mono h.below.size), h.box.on hB⟩
theorem al_new {w : World} (hW : TabW w) (o : Bool) (f r t : Int) (ty : TypeId) : Al w (w.alloc (.cells #[.bool o, .int .i64 f, .int .i64 r, .int .i64 t] ty)) o f r t := ⟨hW.on (bal (Below.refl _ _) _), bal (Below.refl _ _) _, boxP_new w o f r t ty⟩
/-- It, and what was got. -/
structure A1 (w0 w : World) (o : Bool) (f r t : Int) (B1 : Nat) (go : Bool) (gf gr gt : Int) : Prop where
  al : Al w0 w o f r t
  b1 : BoxP w B1 go gf gr gt
theorem A1.on {w0 w w' : World} {o go : Bool} {f r t gf gr gt : Int} {B1 : Nat} (h : A1 w0 w o f r t B1 go gf gr gt) (hB : Below w.heap.size w w') : A1 w0 w' o f r t B1 go gf gr gt := ⟨h.al.on hB, h.b1.on hB⟩
theorem Al.one {w0 w : World} {o : Bool} {f r t : Int} (h : Al w0 w o f r t) (go : Bool) (gf gr gt : Int) (ty : TypeId) : A1 w0 (w.alloc (.cells #[.bool go, .int .i64 gf, .int .i64 gr, .int .i64 gt] ty)) o f r t w.heap.size go gf gr gt := ⟨h.on (bal (Below.refl _ _) _), boxP_new w go gf gr gt ty⟩
theorem hidden {p : Prop} (h : p) : Hid p := h
abbrev PutIs (w : World) (o : Bool) (f r t : Int) (y e : Int) : Prop := ∀ v, TabW v → Calls Tryd.prog 5 #[.agg #[.bool o, .int .i64 f, .int .i64 r, .int .i64 t]] v fun x v' => x = .returned (.tuple #[.int .u64 y, .int .i64 e]) ∧ Below v.heap.size v v'
abbrev GetIs (w : World) (y : Int) (o : Bool) (f r t e : Int) : Prop := ∀ v, TabW v → Calls Tryd.prog 7 #[.int .u64 y] v fun x v' => x = .returned (.tuple #[.agg #[.bool o, .int .i64 f, .int .i64 r, .int .i64 t], .int .i64 e]) ∧ Below v.heap.size v v'
abbrev CheckIs (w : World) (o : Bool) (f r t e : Int) : Prop := ∀ v, Calls Tryd.prog 11 #[.agg #[.bool o, .int .i64 f, .int .i64 r, .int .i64 t]] v fun x v' => x = .returned (.int .i64 e) ∧ Below v.heap.size v v'
theorem put_parts (o : Bool) (f r t : Int) (w : World) : (∃ y, PutIs w o f r t y 0 ∧ GetIs w y o f r t 0 ∧ CheckIs w o f r t 0) ∨ (PutIs w o f r t 0 1 ∧ CheckIs w o f r t 1) := by
  by_cases hp : Rt o f r t
  · refine .inl ⟨wd o f r t, fun v h => ?_, fun v h => ?_, fun v => ?_⟩
    · have := put_any o f r t v h
      rwa [putW_yes hp, chk_yes hp] at this
    · have := get_any (wd o f r t) v (wd_bd hp) h
      obtain ⟨e0, e1, e2, e3, e4⟩ := got_back hp
      rwa [e0, e1, e2, e3, e4] at this
    · have := check_any o f r t v
      rwa [chk_yes hp] at this
  · refine .inr ⟨fun v h => ?_, fun v => ?_⟩
    · have := put_any o f r t v h
      rwa [putW_no hp, chk_no hp] at this
    · have := check_any o f r t v
      rwa [chk_no hp] at this
theorem get_parts (y : Int) (w : World) (hy : 0 ≤ y ∧ y ≤ 18446744073709551615) : (∃ (o : Bool) (f r t : Int), GetIs w y o f r t 0 ∧ PutIs w o f r t y 0 ∧ CheckIs w o f r t 0) ∨ GetIs w y false 0 0 0 12 := by
  by_cases hg : Got y
  · obtain ⟨_, _, _, _, e4⟩ := get_yes hg
    obtain ⟨_, h1, h2⟩ := put_back hy e4
    refine .inl ⟨getO y, getF y, getR y, getT y, fun v h => ?_, fun v h => ?_, fun v => ?_⟩
    · have := get_any y v hy h
      rwa [e4] at this
    · have := put_any (getO y) (getF y) (getR y) (getT y) v h
      rwa [h1, h2] at this
    · have := check_any (getO y) (getF y) (getR y) (getT y) v
      rwa [h2] at this
  · refine .inr fun v h => ?_
    have := get_any y v hy h
    obtain ⟨e0, e1, e2, e3, e4⟩ := get_no hg
    rwa [e0, e1, e2, e3, e4] at this
set_option maxRecDepth 100000 in
set_option maxHeartbeats 4000000 in

theorem walk (a0 : Pt) (a1 : Int) (w : World) (w1 : (Lit.int .u64 a1).wf = true) (hW : TabW w) :
    Calls Tryd.prog 4 #[.agg #[.bool a0.1, .int .i64 a0.2.1, .int .i64 a0.2.2.1, .int .i64 a0.2.2.2], .int .u64 a1] w fun e w' => e = .returned (.bool true) ∧ Below w.heap.size w w' := by
  obtain ⟨o, f, r, t⟩ := a0
  have HA : Hid (∀ ty, Al w (w.alloc (.cells #[.bool o, .int .i64 f, .int .i64 r, .int .i64 t] ty)) o f r t) := fun ty => al_new hW o f r t ty
  have AW := hidden fun v => awake_any v
  have NE := fun v => neqP o f r t v
  have EZ := fun v => eqlP false 0 0 0 v
  have F1 := put_parts o f r t w
  have F2 := get_parts a1 w (bounds_u64 w1)
  clear hW w1
  rcases F1 with ⟨y, p1, p2, p3⟩ | ⟨p1, p3⟩
  · have P1 := hidden p1
    have P2 := hidden p2
    have PC := hidden p3
    clear p1 p2 p3
    go_enter Tryd.func4, Tryd.ntmps4
    go_upto_region 4 with (first
      | (go_at_call 5; with_reducible refine (P1.out _ (HA.out _).tab).mono ?_; rintro e1 v1 ⟨rfl, hb⟩; have H1 := hidden ((HA.out _).on hb); clear hb HA; have x0 := H1.out.box.c0; have x1 := H1.out.box.c1; have x2 := H1.out.box.c2; have x3 := H1.out.box.c3; have xl := H1.out.box.lt)
      | (go_at_call 7; with_reducible refine (P2.out _ H1.out.tab).mono ?_; rintro e2 v2 ⟨rfl, hb⟩; have H2 := (H1.out.on hb).one o f r t 23; clear hb H1 x0 x1 x2 x3 xl)
      | fail)
    generalize v2.alloc _ = u2 at H2 ⊢
    generalize v2.heap.size = D at H2 ⊢
    have K2 := hidden H2
    clear H2
    have x0 := K2.out.al.box.c0
    have x1 := K2.out.al.box.c1
    have x2 := K2.out.al.box.c2
    have x3 := K2.out.al.box.c3
    have xl := K2.out.al.box.lt
    have y0 := K2.out.b1.c0
    have y1 := K2.out.b1.c1
    have y2 := K2.out.b1.c2
    have y3 := K2.out.b1.c3
    have yl := K2.out.b1.lt
    rcases F2 with ⟨go, gf, gr, gt, q1, q2, q3⟩ | q1
    · have Q1 := hidden q1
      have Q2 := hidden q2
      have QC := hidden q3
      clear q1 q2 q3
      go_upto_region 7 with (first
        | (go_at_call 7; with_reducible refine (Q1.out _ K2.out.al.tab).mono ?_; rintro e3 v3 ⟨rfl, hb⟩; have H3 := (K2.out.al.on hb).one go gf gr gt 23; clear K2; clear hb x0 x1 x2 x3 xl y0 y1 y2 y3 yl)
        | fail)
      generalize v3.alloc _ = u3 at H3 ⊢
      generalize v3.heap.size = E at H3 ⊢
      have K3 := hidden H3
      clear H3
      have x0 := K3.out.al.box.c0
      have x1 := K3.out.al.box.c1
      have x2 := K3.out.al.box.c2
      have x3 := K3.out.al.box.c3
      have xl := K3.out.al.box.lt
      have y0 := K3.out.b1.c0
      have y1 := K3.out.b1.c1
      have y2 := K3.out.b1.c2
      have y3 := K3.out.b1.c3
      have yl := K3.out.b1.lt
      go_wp2_with (first
        | (go_at_call 5; with_reducible refine (Q2.out _ K3.out.al.tab).mono ?_; rintro e9 v9 ⟨rfl, hb⟩; have HN := hidden (K3.out.on hb); clear hb K3 x0 x1 x2 x3 xl y0 y1 y2 y3 yl; have K3 := HN; clear HN; have x0 := K3.out.al.box.c0; have x1 := K3.out.al.box.c1; have x2 := K3.out.al.box.c2; have x3 := K3.out.al.box.c3; have xl := K3.out.al.box.lt; have y0 := K3.out.b1.c0; have y1 := K3.out.b1.c1; have y2 := K3.out.b1.c2; have y3 := K3.out.b1.c3; have yl := K3.out.b1.lt)
        | (go_at_call 11; with_reducible refine (QC.out _).mono ?_; rintro e9 v9 ⟨rfl, hb⟩; have HN := hidden (K3.out.on hb); clear hb K3 x0 x1 x2 x3 xl y0 y1 y2 y3 yl; have K3 := HN; clear HN; have x0 := K3.out.al.box.c0; have x1 := K3.out.al.box.c1; have x2 := K3.out.al.box.c2; have x3 := K3.out.al.box.c3; have xl := K3.out.al.box.lt; have y0 := K3.out.b1.c0; have y1 := K3.out.b1.c1; have y2 := K3.out.b1.c2; have y3 := K3.out.b1.c3; have yl := K3.out.b1.lt)
        | (go_at_call 17; with_reducible refine (AW.out _).mono ?_; rintro e9 v9 ⟨rfl, hb⟩; have HN := hidden (K3.out.on hb); clear hb K3 x0 x1 x2 x3 xl y0 y1 y2 y3 yl; have K3 := HN; clear HN; have x0 := K3.out.al.box.c0; have x1 := K3.out.al.box.c1; have x2 := K3.out.al.box.c2; have x3 := K3.out.al.box.c3; have xl := K3.out.al.box.lt; have y0 := K3.out.b1.c0; have y1 := K3.out.b1.c1; have y2 := K3.out.b1.c2; have y3 := K3.out.b1.c3; have yl := K3.out.b1.lt)
        | fail)
      go_ret
      exact ⟨rfl, K3.out.al.below⟩
    · have Q1 := hidden q1
      clear q1
      go_upto_region 7 with (first
        | (go_at_call 7; with_reducible refine (Q1.out _ K2.out.al.tab).mono ?_; rintro e3 v3 ⟨rfl, hb⟩; have H3 := (K2.out.al.on hb).one false 0 0 0 23; clear K2; clear hb x0 x1 x2 x3 xl y0 y1 y2 y3 yl)
        | fail)
      generalize v3.alloc _ = u3 at H3 ⊢
      generalize v3.heap.size = E at H3 ⊢
      have K3 := hidden H3
      clear H3
      have x0 := K3.out.al.box.c0
      have x1 := K3.out.al.box.c1
      have x2 := K3.out.al.box.c2
      have x3 := K3.out.al.box.c3
      have xl := K3.out.al.box.lt
      have y0 := K3.out.b1.c0
      have y1 := K3.out.b1.c1
      have y2 := K3.out.b1.c2
      have y3 := K3.out.b1.c3
      have yl := K3.out.b1.lt
      go_wp2_with (first
        | (go_at_call 11; with_reducible refine (PC.out _).mono ?_; rintro e9 v9 ⟨rfl, hb⟩; have HN := hidden (K3.out.on hb); clear hb K3 x0 x1 x2 x3 xl y0 y1 y2 y3 yl; have K3 := HN; clear HN; have x0 := K3.out.al.box.c0; have x1 := K3.out.al.box.c1; have x2 := K3.out.al.box.c2; have x3 := K3.out.al.box.c3; have xl := K3.out.al.box.lt; have y0 := K3.out.b1.c0; have y1 := K3.out.b1.c1; have y2 := K3.out.b1.c2; have y3 := K3.out.b1.c3; have yl := K3.out.b1.lt)
        | (go_at_call 17; with_reducible refine (AW.out _).mono ?_; rintro e9 v9 ⟨rfl, hb⟩; have HN := hidden (K3.out.on hb); clear hb K3 x0 x1 x2 x3 xl y0 y1 y2 y3 yl; have K3 := HN; clear HN; have x0 := K3.out.al.box.c0; have x1 := K3.out.al.box.c1; have x2 := K3.out.al.box.c2; have x3 := K3.out.al.box.c3; have xl := K3.out.al.box.lt; have y0 := K3.out.b1.c0; have y1 := K3.out.b1.c1; have y2 := K3.out.b1.c2; have y3 := K3.out.b1.c3; have yl := K3.out.b1.lt)
        | fail)
      go_ret
      exact ⟨rfl, K3.out.al.below⟩
  · have P1 := hidden p1
    have PC := hidden p3
    clear p1 p3
    rcases F2 with ⟨go, gf, gr, gt, q1, q2, q3⟩ | q1
    · have Q1 := hidden q1
      have Q2 := hidden q2
      have QC := hidden q3
      clear q1 q2 q3
      go_enter Tryd.func4, Tryd.ntmps4
      go_upto_region 7 with (first
        | (go_at_call 5; with_reducible refine (P1.out _ (HA.out _).tab).mono ?_; rintro e1 v1 ⟨rfl, hb⟩; have H1 := hidden ((HA.out _).on hb); clear hb HA; have x0 := H1.out.box.c0; have x1 := H1.out.box.c1; have x2 := H1.out.box.c2; have x3 := H1.out.box.c3; have xl := H1.out.box.lt)
        | (go_at_call 7; with_reducible refine (Q1.out _ H1.out.tab).mono ?_; rintro e3 v3 ⟨rfl, hb⟩; have H3 := (H1.out.on hb).one go gf gr gt 23; clear hb H1 x0 x1 x2 x3 xl)
        | fail)
      generalize v3.alloc _ = u3 at H3 ⊢
      generalize v3.heap.size = E at H3 ⊢
      have K3 := hidden H3
      clear H3
      have x0 := K3.out.al.box.c0
      have x1 := K3.out.al.box.c1
      have x2 := K3.out.al.box.c2
      have x3 := K3.out.al.box.c3
      have xl := K3.out.al.box.lt
      have y0 := K3.out.b1.c0
      have y1 := K3.out.b1.c1
      have y2 := K3.out.b1.c2
      have y3 := K3.out.b1.c3
      have yl := K3.out.b1.lt
      go_wp2_with (first
        | (go_at_call 5; with_reducible refine (Q2.out _ K3.out.al.tab).mono ?_; rintro e9 v9 ⟨rfl, hb⟩; have HN := hidden (K3.out.on hb); clear hb K3 x0 x1 x2 x3 xl y0 y1 y2 y3 yl; have K3 := HN; clear HN; have x0 := K3.out.al.box.c0; have x1 := K3.out.al.box.c1; have x2 := K3.out.al.box.c2; have x3 := K3.out.al.box.c3; have xl := K3.out.al.box.lt; have y0 := K3.out.b1.c0; have y1 := K3.out.b1.c1; have y2 := K3.out.b1.c2; have y3 := K3.out.b1.c3; have yl := K3.out.b1.lt)
        | (go_at_call 11; with_reducible refine (QC.out _).mono ?_; rintro e9 v9 ⟨rfl, hb⟩; have HN := hidden (K3.out.on hb); clear hb K3 x0 x1 x2 x3 xl y0 y1 y2 y3 yl; have K3 := HN; clear HN; have x0 := K3.out.al.box.c0; have x1 := K3.out.al.box.c1; have x2 := K3.out.al.box.c2; have x3 := K3.out.al.box.c3; have xl := K3.out.al.box.lt; have y0 := K3.out.b1.c0; have y1 := K3.out.b1.c1; have y2 := K3.out.b1.c2; have y3 := K3.out.b1.c3; have yl := K3.out.b1.lt)
        | (go_at_call 17; with_reducible refine (AW.out _).mono ?_; rintro e9 v9 ⟨rfl, hb⟩; have HN := hidden (K3.out.on hb); clear hb K3 x0 x1 x2 x3 xl y0 y1 y2 y3 yl; have K3 := HN; clear HN; have x0 := K3.out.al.box.c0; have x1 := K3.out.al.box.c1; have x2 := K3.out.al.box.c2; have x3 := K3.out.al.box.c3; have xl := K3.out.al.box.lt; have y0 := K3.out.b1.c0; have y1 := K3.out.b1.c1; have y2 := K3.out.b1.c2; have y3 := K3.out.b1.c3; have yl := K3.out.b1.lt)
        | fail)
      go_ret
      exact ⟨rfl, K3.out.al.below⟩
    · have Q1 := hidden q1
      clear q1
      go_enter Tryd.func4, Tryd.ntmps4
      go_upto_region 7 with (first
        | (go_at_call 5; with_reducible refine (P1.out _ (HA.out _).tab).mono ?_; rintro e1 v1 ⟨rfl, hb⟩; have H1 := hidden ((HA.out _).on hb); clear hb HA; have x0 := H1.out.box.c0; have x1 := H1.out.box.c1; have x2 := H1.out.box.c2; have x3 := H1.out.box.c3; have xl := H1.out.box.lt)
        | (go_at_call 7; with_reducible refine (Q1.out _ H1.out.tab).mono ?_; rintro e3 v3 ⟨rfl, hb⟩; have H3 := (H1.out.on hb).one false 0 0 0 23; clear hb H1 x0 x1 x2 x3 xl)
        | fail)
      generalize v3.alloc _ = u3 at H3 ⊢
      generalize v3.heap.size = E at H3 ⊢
      have K3 := hidden H3
      clear H3
      have x0 := K3.out.al.box.c0
      have x1 := K3.out.al.box.c1
      have x2 := K3.out.al.box.c2
      have x3 := K3.out.al.box.c3
      have xl := K3.out.al.box.lt
      have y0 := K3.out.b1.c0
      have y1 := K3.out.b1.c1
      have y2 := K3.out.b1.c2
      have y3 := K3.out.b1.c3
      have yl := K3.out.b1.lt
      go_wp2_with (first
        | (go_at_call 11; with_reducible refine (PC.out _).mono ?_; rintro e9 v9 ⟨rfl, hb⟩; have HN := hidden (K3.out.on hb); clear hb K3 x0 x1 x2 x3 xl y0 y1 y2 y3 yl; have K3 := HN; clear HN; have x0 := K3.out.al.box.c0; have x1 := K3.out.al.box.c1; have x2 := K3.out.al.box.c2; have x3 := K3.out.al.box.c3; have xl := K3.out.al.box.lt; have y0 := K3.out.b1.c0; have y1 := K3.out.b1.c1; have y2 := K3.out.b1.c2; have y3 := K3.out.b1.c3; have yl := K3.out.b1.lt)
        | (go_at_call 17; with_reducible refine (AW.out _).mono ?_; rintro e9 v9 ⟨rfl, hb⟩; have HN := hidden (K3.out.on hb); clear hb K3 x0 x1 x2 x3 xl y0 y1 y2 y3 yl; have K3 := HN; clear HN; have x0 := K3.out.al.box.c0; have x1 := K3.out.al.box.c1; have x2 := K3.out.al.box.c2; have x3 := K3.out.al.box.c3; have xl := K3.out.al.box.lt; have y0 := K3.out.b1.c0; have y1 := K3.out.b1.c1; have y2 := K3.out.b1.c2; have y3 := K3.out.b1.c3; have yl := K3.out.b1.lt)
        | fail)
      go_ret
      exact ⟨rfl, K3.out.al.below⟩

/-! ### The statement's frame -/
/-- The heap that the program's own initialisers leave meets the condition. -/
theorem door_met (os : Os) (args : Array Value) : laidMetH Tryd.prog Rows.pteBackRow.laid ((World.doorLaid Tryd.prog 400 os).forCall (fun _ _ => 0) ⟨#[], args, []⟩).memory :=
  laidMetH_of_parts3 (fuel := 8) (laidMet_of_run' 8 (by kernel_rfl) (by kernel_rfl)) (by kernel_rfl) (by kernel_rfl)
set_option maxRecDepth 100000 in
theorem lifted (os : Os) (started : os.Started) (H : Type) (enc : TypeId × Value → H) :
    ReturnsInHanded {} Tryd.checked os 4 .any (fun w args => (Rows.pteBackSpec.pre enc Tryd.prog Tryd.f4 [] false w args ∧ laidMetH Tryd.prog Rows.pteBackRow.laid w) ∧ sizedMet enc Tryd.prog Tryd.f4 (OpenSpec.ofChange Rows.pteBackSpec) false w args) (Rows.pteBackSpec.post enc Tryd.prog Tryd.f4 false true false false) := by
  refine returnsInHanded_of_change_and (C := Tryd.checked) (X := fun w _ => laidMetH Tryd.prog Rows.pteBackRow.laid w) (fun _ _ _ hh h => h.of_heap hh) own started (by kernel_rfl) Tryd.func4
    (ChangeSpec.witness_shaped (enc := enc) (C := Tryd.checked) (os := os) (X := fun w _ => laidMetH Tryd.prog Rows.pteBackRow.laid w) false (World.doorLaid Tryd.prog 400 os) #[.agg #[.bool false, .int .i64 0, .int .i64 0, .int .i64 0], .int .u64 0] 8 rfl (World.shaped_of_RefB (by kernel_rfl) (by kernel_rfl)) (by kernel_rfl) (by kernel_rfl) (by kernel_rfl) (door_met os _)) ?_
  intro W base args ds gs before hval0 hW _ _ hL _
  have hval : ∀ (j : Nat) t v, Tryd.f4.params[j]? = some t → args[j]? = some v → Value.okWide Tryd.prog W .any base t v := hval0
  have hW' := hW
  obtain ⟨p, q, hA0, hV, rfl, hfz, hnd⟩ := hW
  have hA : DataW.TrodAll enc Tryd.prog W 0 (fun _ => true) true Tryd.f4.params.toList args.toList ds p := hA0
  rw [Tryd.params4] at hA hval
  obtain ⟨v0, vs0, d0, ds0, p0, q0, hargs, rfl, rfl, h0, r0⟩ := trodAll_cons hA
  obtain ⟨v1, vs1, d1, ds1, p1, q1, rfl, rfl, rfl, h1, r1⟩ := trodAll_cons r0
  obtain ⟨rfl, rfl, rfl⟩ := trodAll_nil r1
  obtain rfl : args = #[v0, v1] := by cases args; simp_all
  obtain ⟨rfl, rfl⟩ := trodVars_none hV
  have k0 := h0
  have lt0 : ∀ x ∈ p0, x.block < W.heap.size := by obtain ⟨m, hm⟩ := k0; exact DataW.trod_lt m _ _ _ hm
  obtain ⟨a0, rfl⟩ := pte_val (hval 0 23 v0 rfl rfl) h0
  obtain ⟨a1, rfl, rfl, rfl, w1⟩ := open_int Tryd.underlying24 (hval 1 24 v1 rfl rfl) h1
  clear hA0 hval0
  refine (walk a0 a1 W w1 (of_laid hL)).mono fun e W' ⟨he, bel⟩ => ?_
  subst he
  exact ⟨_, rfl, _, _, _, [], _, [], hW', trodAll_mk1 (shut_bool Tryd.underlying4 _), (trodAll_cons_mk (Below.trod laidOut (by kernel_rfl) (of_decide_eq_true (by kernel_rfl)) k0 bel lt0) (trodAll_cons_mk (shut_int Tryd.underlying24 w1) trodAll_mk0)), rfl, bel.frame _, fun h => by cases h⟩

theorem over : Rows.pteBackRow.holds Tryd.pinned (OpenSpec.ofChange Rows.pteBackSpec) :=
  OpenClaim.holds_of_wide 4 Tryd.f4 rfl rfl rfl rfl rfl rfl rfl ⟨rfl, rfl, rfl, rfl, rfl⟩ rfl rfl rfl rfl rfl (by kernel_rfl) Tryd.func4 (by kernel_rfl)
    (of_decide_eq_true (by kernel_rfl)) (by unfold Func.isWrapper; first | (rw [if_pos (by decide +kernel)]; kernel_rfl) | (rw [if_neg (by decide +kernel)]; exact ⟨rfl, rfl⟩))
    (fun os started H enc _ => lifted os started H enc)

theorem proved : Rows.PteBackCardSaid :=
  Claim7.holds_tied_plain_at .later [] [.data] true (true, "6d8b4bd67cf4482a6d3453153a9e55ece2a044dc6ed1a0ed6c4ba496708c9cfb") false
    over (fun _ h => by cases h) (by kernel_rfl) (fun _ h => by cases h) pteBack_row_tie rfl ⟨rfl, rfl⟩ (by kernel_rfl) rfl
    (fun g fn hf hfn => by
      obtain rfl : g = 4 := Option.some.inj ((show Tryd.prog.funcNamed Rows.pteBackRow.func = some 4 by kernel_rfl).symm.trans hf) |>.symm
      obtain rfl : fn = Tryd.f4 := (Option.some.inj (Tryd.func4.symm.trans hfn)).symm
      exact ⟨by kernel_rfl, fun j t ht => by
        rw [Tryd.params4] at ht
        have hm : t ∈ [23, 24] := by simpa using Array.mem_of_getElem? ht
        have hall : ([23, 24].all fun u => !Tryd.prog.wantsStandIn u) = true := by kernel_rfl
        exact (show Tryd.prog.wantsStandIn t = false by simpa using List.all_eq_true.1 hall t hm)⟩)
    (by kernel_rfl)
end Go.Proofs.YthmbipcfmciolaaDoor.pteBack
namespace Go.Proofs.YthmbipcfmciolaaDoor
theorem pteBack_holds : Rows.PteBackCardSaid := pteBack.proved
#print axioms pteBack_holds
end Go.Proofs.YthmbipcfmciolaaDoor
