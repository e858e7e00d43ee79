/- For every two capabilities (whatever numbers), every number of rights and every two words: all that package cap answers of them (Put, Get, Holds, Check, Weaken, Under, Lives) is what the document answers. Conditions: none but that package cap's two tables start as the program's text lays them (tied). -/
import Derived.Test.YtdednjeofolleaaDoorRows
import Derived.Test.YtdednjeofolleaaDoorTie
import Derived.Test.YtdednjeofolleaaDoorCards
import Derived.Deep.RegionHeld3
import Derived.Test.YtdednjeofolleaaDoorCapB
import Derived.Test.YtdednjeofolleaaDoorCapH
import Derived.Test.YtdednjeofolleaaDoorCapI
import Derived.WalkKit
import Derived.ProofKit
import Derived.OpenShut
import Derived.ShutString
import Derived.ChangeOld
import Derived.Below
import Derived.LaidMore
import Derived.Stop.Joined
import Derived.SevenTiedAt
namespace Go.Proofs.YtdednjeofolleaaDoor.capTells
open Go.ChangeShapes Go.WideShapes Go.ChangeAt Go.RowKit
set_option linter.unusedVariables false

theorem own : ownKnob Tryd.prog.godebug = none := by kernel_rfl
theorem laidOut : laidOutB Tryd.prog = true := by kernel_rfl

/-- Two capabilities in blocks of the call's own, and the tables. -/
structure Duo (w0 w : World) (k r t l e a k' r' t' l' e' a' : Int) : Prop where
  pair : Pair w0 w k r t l e a k' r' t' l' e' a'
  tabw : TabW w
theorem duo_on {w0 w w' : World} {k r t l e a k' r' t' l' e' a' : Int} (h : Duo w0 w k r t l e a k' r' t' l' e' a') (hB : Below w.heap.size w w') : Duo w0 w' k r t l e a k' r' t' l' e' a' := ⟨h.pair.on hB, h.tabw.on hB⟩
theorem duo_new (w : World) (hT : TabM w) (hW : TabW w) (k r t l e a k' r' t' l' e' a' : Int) (ty ty' : TypeId) :
    Duo w ((w.alloc (.cells #[.int .i64 k, .int .i64 r, .int .i64 t, .int .i64 l, .int .i64 e, .int .i64 a] ty)).alloc (.cells #[.int .i64 k', .int .i64 r', .int .i64 t', .int .i64 l', .int .i64 e', .int .i64 a'] ty')) k r t l e a k' r' t' l' e' a' :=
  ⟨pair_new w hT k r t l e a k' r' t' l' e' a' ty ty', hW.on (bal (bal (Below.refl _ _) _) _)⟩
set_option maxRecDepth 100000 in
set_option maxHeartbeats 8000000 in

theorem walk (a0k a0r a0t a0l a0e a0c : Int) (a1k a1r a1t a1l a1e a1c : Int) (a2 : Int) (a3 : Int) (a4 : Int) (w : World) (w2 : (Lit.int .i64 a2).wf = true) (w3 : (Lit.int .u64 a3).wf = true) (w4 : (Lit.int .u64 a4).wf = true) (hT : TabM w) (hW : TabW w) :
    Calls Tryd.prog 3 #[.agg #[.int .i64 a0k, .int .i64 a0r, .int .i64 a0t, .int .i64 a0l, .int .i64 a0e, .int .i64 a0c], .agg #[.int .i64 a1k, .int .i64 a1r, .int .i64 a1t, .int .i64 a1l, .int .i64 a1e, .int .i64 a1c], .int .i64 a2, .int .u64 a3, .int .u64 a4] w fun e w' => e = .returned (.bool true) ∧ Below w.heap.size w w' := by
  have b3 := bounds_u64 w3
  have b4 := bounds_u64 w4
  have HI : Hid (∀ ty ty', Duo w ((w.alloc (.cells #[.int .i64 a0k, .int .i64 a0r, .int .i64 a0t, .int .i64 a0l, .int .i64 a0e, .int .i64 a0c] ty)).alloc (.cells #[.int .i64 a1k, .int .i64 a1r, .int .i64 a1t, .int .i64 a1l, .int .i64 a1e, .int .i64 a1c] ty')) a0k a0r a0t a0l a0e a0c a1k a1r a1t a1l a1e a1c) := fun ty ty' => duo_new w hT hW _ _ _ _ _ _ _ _ _ _ _ _ ty ty'
  clear hT hW w2 w3 w4
  obtain ⟨p1, hp1⟩ : ∃ z, z = putW a0k a0r a0t a0l a0e a0c := ⟨_, rfl⟩
  obtain ⟨p2, hp2⟩ : ∃ z, z = putA a0k a0r a0t a0l a0e a0c := ⟨_, rfl⟩
  obtain ⟨cc, hcc⟩ : ∃ z, z = chk a0k a0r a0t a0l a0e a0c := ⟨_, rfl⟩
  obtain ⟨g0, hg0⟩ : ∃ z, z = getC a3 a4 0 := ⟨_, rfl⟩
  obtain ⟨g1, hg1⟩ : ∃ z, z = getC a3 a4 1 := ⟨_, rfl⟩
  obtain ⟨g2, hg2⟩ : ∃ z, z = getC a3 a4 2 := ⟨_, rfl⟩
  obtain ⟨g3, hg3⟩ : ∃ z, z = getC a3 a4 3 := ⟨_, rfl⟩
  obtain ⟨g4, hg4⟩ : ∃ z, z = getC a3 a4 4 := ⟨_, rfl⟩
  obtain ⟨g5, hg5⟩ : ∃ z, z = getC a3 a4 5 := ⟨_, rfl⟩
  obtain ⟨ge, hge⟩ : ∃ z, z = getE a3 a4 := ⟨_, rfl⟩
  obtain ⟨ub, hub⟩ : ∃ z, z = undB a0k a0r a0t a0l a0e a0c a1k a1r a1t a1l a1e a1c := ⟨_, rfl⟩
  obtain ⟨lv, hlv⟩ : ∃ z, z = livB a0k := ⟨_, rfl⟩
  obtain ⟨hb0, hhb0⟩ : ∃ z, z = holB a0k := ⟨_, rfl⟩
  obtain ⟨hi0, hhi0⟩ : ∃ z, z = holI a0k a0t := ⟨_, rfl⟩
  obtain ⟨wk, hwk⟩ : ∃ z, z = bits .and .i64 a0r a2 := ⟨_, rfl⟩
  have C1 : Hid (∀ wc, Duo w wc a0k a0r a0t a0l a0e a0c a1k a1r a1t a1l a1e a1c → Calls Tryd.prog 6 #[.agg #[.int .i64 a0k, .int .i64 a0r, .int .i64 a0t, .int .i64 a0l, .int .i64 a0e, .int .i64 a0c]] wc fun x w' => x = .returned (.tuple #[.int .u64 p1, .int .u64 p2, .int .i64 cc]) ∧ Below wc.heap.size wc w') := fun wc h => (by
    have hh := put_any a0k a0r a0t a0l a0e a0c wc h.pair.tab h.tabw
    rwa [← hp1, ← hp2, ← hcc] at hh)
  have C2 : Hid (∀ wc, Duo w wc a0k a0r a0t a0l a0e a0c a1k a1r a1t a1l a1e a1c → Calls Tryd.prog 7 #[.agg #[.int .i64 a0k, .int .i64 a0r, .int .i64 a0t, .int .i64 a0l, .int .i64 a0e, .int .i64 a0c]] wc fun x w' => x = .returned (.tuple #[.int .u64 p1, .int .u64 p2, .int .i64 cc]) ∧ Below wc.heap.size wc w') := fun wc h => (by
    have hh := rput_any a0k a0r a0t a0l a0e a0c wc
    rwa [← hp1, ← hp2, ← hcc] at hh)
  have C3 : Hid (∀ wc, Duo w wc a0k a0r a0t a0l a0e a0c a1k a1r a1t a1l a1e a1c → Calls Tryd.prog 8 #[.int .u64 a3, .int .u64 a4] wc fun x w' => x = .returned (.tuple #[.agg #[.int .i64 g0, .int .i64 g1, .int .i64 g2, .int .i64 g3, .int .i64 g4, .int .i64 g5], .int .i64 ge]) ∧ Below wc.heap.size wc w') := fun wc h => (by
    have hh := get_any a3 a4 wc b3 b4 h.pair.tab h.tabw
    rwa [← hg0, ← hg1, ← hg2, ← hg3, ← hg4, ← hg5, ← hge] at hh)
  have C4 : Hid (∀ wc, Duo w wc a0k a0r a0t a0l a0e a0c a1k a1r a1t a1l a1e a1c → Calls Tryd.prog 9 #[.int .u64 a3, .int .u64 a4] wc fun x w' => x = .returned (.tuple #[.agg #[.int .i64 g0, .int .i64 g1, .int .i64 g2, .int .i64 g3, .int .i64 g4, .int .i64 g5], .int .i64 ge]) ∧ Below wc.heap.size wc w') := fun wc h => (by
    have hh := rget_any a3 a4 wc b3 b4
    rwa [← hg0, ← hg1, ← hg2, ← hg3, ← hg4, ← hg5, ← hge] at hh)
  have C5 : Hid (∀ wc, Duo w wc a0k a0r a0t a0l a0e a0c a1k a1r a1t a1l a1e a1c → Calls Tryd.prog 10 #[.agg #[.int .i64 a0k, .int .i64 a0r, .int .i64 a0t, .int .i64 a0l, .int .i64 a0e, .int .i64 a0c]] wc fun x w' => x = .returned (.tuple #[.int .i64 hi0, .bool hb0]) ∧ Below wc.heap.size wc w') := fun wc h => (by
    have hh := holds_any a0k a0r a0t a0l a0e a0c wc
    rwa [← hhi0, ← hhb0] at hh)
  have C6 : Hid (∀ wc, Duo w wc a0k a0r a0t a0l a0e a0c a1k a1r a1t a1l a1e a1c → Calls Tryd.prog 11 #[.agg #[.int .i64 a0k, .int .i64 a0r, .int .i64 a0t, .int .i64 a0l, .int .i64 a0e, .int .i64 a0c]] wc fun x w' => x = .returned (.tuple #[.int .i64 hi0, .bool hb0]) ∧ Below wc.heap.size wc w') := fun wc h => (by
    have hh := rholds_any a0k a0r a0t a0l a0e a0c wc
    rwa [← hhi0, ← hhb0] at hh)
  have C7 : Hid (∀ wc, Duo w wc a0k a0r a0t a0l a0e a0c a1k a1r a1t a1l a1e a1c → Calls Tryd.prog 12 #[.agg #[.int .i64 a0k, .int .i64 a0r, .int .i64 a0t, .int .i64 a0l, .int .i64 a0e, .int .i64 a0c]] wc fun x w' => x = .returned (.int .i64 cc) ∧ Below wc.heap.size wc w') := fun wc h => (by
    have hh := check_any a0k a0r a0t a0l a0e a0c wc h.pair.tab
    rwa [← hcc] at hh)
  have C8 : Hid (∀ wc, Duo w wc a0k a0r a0t a0l a0e a0c a1k a1r a1t a1l a1e a1c → Calls Tryd.prog 13 #[.agg #[.int .i64 a0k, .int .i64 a0r, .int .i64 a0t, .int .i64 a0l, .int .i64 a0e, .int .i64 a0c]] wc fun x w' => x = .returned (.int .i64 cc) ∧ Below wc.heap.size wc w') := fun wc h => (by
    have hh := rcheck_any a0k a0r a0t a0l a0e a0c wc
    rwa [← hcc] at hh)
  have C9 : Hid (∀ wc, Duo w wc a0k a0r a0t a0l a0e a0c a1k a1r a1t a1l a1e a1c → Calls Tryd.prog 14 #[.agg #[.int .i64 a0k, .int .i64 a0r, .int .i64 a0t, .int .i64 a0l, .int .i64 a0e, .int .i64 a0c], .int .i64 a2] wc fun x w' => x = .returned (.agg #[.int .i64 a0k, .int .i64 wk, .int .i64 a0t, .int .i64 a0l, .int .i64 a0e, .int .i64 a0c]) ∧ Below wc.heap.size wc w') := fun wc h => (by
    have hh := weaken_any a0k a0r a0t a0l a0e a0c a2 wc
    rwa [← hwk] at hh)
  have C10 : Hid (∀ wc, Duo w wc a0k a0r a0t a0l a0e a0c a1k a1r a1t a1l a1e a1c → Calls Tryd.prog 15 #[.agg #[.int .i64 a0k, .int .i64 a0r, .int .i64 a0t, .int .i64 a0l, .int .i64 a0e, .int .i64 a0c], .int .i64 a2] wc fun x w' => x = .returned (.agg #[.int .i64 a0k, .int .i64 wk, .int .i64 a0t, .int .i64 a0l, .int .i64 a0e, .int .i64 a0c]) ∧ Below wc.heap.size wc w') := fun wc h => (by
    have hh := rweaken_any a0k a0r a0t a0l a0e a0c a2 wc
    rwa [← hwk] at hh)
  have C11 : Hid (∀ wc, Duo w wc a0k a0r a0t a0l a0e a0c a1k a1r a1t a1l a1e a1c → Calls Tryd.prog 16 #[.agg #[.int .i64 a0k, .int .i64 a0r, .int .i64 a0t, .int .i64 a0l, .int .i64 a0e, .int .i64 a0c], .agg #[.int .i64 a1k, .int .i64 a1r, .int .i64 a1t, .int .i64 a1l, .int .i64 a1e, .int .i64 a1c]] wc fun x w' => x = .returned (.bool ub) ∧ Below wc.heap.size wc w') := fun wc h => (by
    have hh := under_any a0k a0r a0t a0l a0e a0c a1k a1r a1t a1l a1e a1c wc h.pair.tab
    rwa [← hub] at hh)
  have C12 : Hid (∀ wc, Duo w wc a0k a0r a0t a0l a0e a0c a1k a1r a1t a1l a1e a1c → Calls Tryd.prog 17 #[.agg #[.int .i64 a0k, .int .i64 a0r, .int .i64 a0t, .int .i64 a0l, .int .i64 a0e, .int .i64 a0c], .agg #[.int .i64 a1k, .int .i64 a1r, .int .i64 a1t, .int .i64 a1l, .int .i64 a1e, .int .i64 a1c]] wc fun x w' => x = .returned (.bool ub) ∧ Below wc.heap.size wc w') := fun wc h => (by
    have hh := runder_any a0k a0r a0t a0l a0e a0c a1k a1r a1t a1l a1e a1c wc
    rwa [← hub] at hh)
  have C13 : Hid (∀ wc, Duo w wc a0k a0r a0t a0l a0e a0c a1k a1r a1t a1l a1e a1c → Calls Tryd.prog 18 #[.agg #[.int .i64 a0k, .int .i64 a0r, .int .i64 a0t, .int .i64 a0l, .int .i64 a0e, .int .i64 a0c]] wc fun x w' => x = .returned (.bool lv) ∧ Below wc.heap.size wc w') := fun wc h => (by
    have hh := lives_any a0k a0r a0t a0l a0e a0c wc
    rwa [← hlv] at hh)
  have C14 : Hid (∀ wc, Duo w wc a0k a0r a0t a0l a0e a0c a1k a1r a1t a1l a1e a1c → Calls Tryd.prog 19 #[.agg #[.int .i64 a0k, .int .i64 a0r, .int .i64 a0t, .int .i64 a0l, .int .i64 a0e, .int .i64 a0c]] wc fun x w' => x = .returned (.bool lv) ∧ Below wc.heap.size wc w') := fun wc h => (by
    have hh := rlives_any a0k a0r a0t a0l a0e a0c wc
    rwa [← hlv] at hh)
  clear hp1 hp2 hcc hg0 hg1 hg2 hg3 hg4 hg5 hge hub hlv hhb0 hhi0 hwk b3 b4
  go_enter Tryd.func3, Tryd.ntmps3
  go_wp2_with (first
    | (go_at_call 6; refine (C1.out _ (HI.out _ _)).mono ?_; rintro e1 v1 ⟨rfl, hb⟩; have H1 : Hid (Duo w v1 a0k a0r a0t a0l a0e a0c a1k a1r a1t a1l a1e a1c) := duo_on (HI.out _ _) hb; clear hb HI C1; have x0 := H1.out.pair.p.c0; have x1 := H1.out.pair.p.c1; have x2 := H1.out.pair.p.c2; have x3 := H1.out.pair.p.c3; have x4 := H1.out.pair.p.c4; have x5 := H1.out.pair.p.c5; have y0 := H1.out.pair.q.c0; have y1 := H1.out.pair.q.c1; have y2 := H1.out.pair.q.c2; have y3 := H1.out.pair.q.c3; have y4 := H1.out.pair.q.c4; have y5 := H1.out.pair.q.c5; have xl := H1.out.pair.p.lt; have yl := H1.out.pair.q.lt)
    | (go_at_call 7; refine (C2.out _ H1.out).mono ?_; rintro e1 v2 ⟨rfl, hb⟩; have H2 : Hid (Duo w v2 a0k a0r a0t a0l a0e a0c a1k a1r a1t a1l a1e a1c) := duo_on H1.out hb; clear hb H1 C2 xl yl x0 x1 x2 x3 x4 x5 y0 y1 y2 y3 y4 y5; have x0 := H2.out.pair.p.c0; have x1 := H2.out.pair.p.c1; have x2 := H2.out.pair.p.c2; have x3 := H2.out.pair.p.c3; have x4 := H2.out.pair.p.c4; have x5 := H2.out.pair.p.c5; have y0 := H2.out.pair.q.c0; have y1 := H2.out.pair.q.c1; have y2 := H2.out.pair.q.c2; have y3 := H2.out.pair.q.c3; have y4 := H2.out.pair.q.c4; have y5 := H2.out.pair.q.c5; have xl := H2.out.pair.p.lt; have yl := H2.out.pair.q.lt)
    | (go_at_call 8; refine (C3.out _ H2.out).mono ?_; rintro e1 v3 ⟨rfl, hb⟩; have H3 : Hid (Duo w v3 a0k a0r a0t a0l a0e a0c a1k a1r a1t a1l a1e a1c) := duo_on H2.out hb; clear hb H2 C3 xl yl x0 x1 x2 x3 x4 x5 y0 y1 y2 y3 y4 y5; have x0 := H3.out.pair.p.c0; have x1 := H3.out.pair.p.c1; have x2 := H3.out.pair.p.c2; have x3 := H3.out.pair.p.c3; have x4 := H3.out.pair.p.c4; have x5 := H3.out.pair.p.c5; have y0 := H3.out.pair.q.c0; have y1 := H3.out.pair.q.c1; have y2 := H3.out.pair.q.c2; have y3 := H3.out.pair.q.c3; have y4 := H3.out.pair.q.c4; have y5 := H3.out.pair.q.c5; have xl := H3.out.pair.p.lt; have yl := H3.out.pair.q.lt)
    | (go_at_call 9; refine (C4.out _ (duo_on H3.out (bal (Below.refl _ _) _))).mono ?_; rintro e1 v4 ⟨rfl, hb⟩; have H4 : Hid (Duo w v4 a0k a0r a0t a0l a0e a0c a1k a1r a1t a1l a1e a1c) := duo_on (duo_on H3.out (bal (Below.refl _ _) _)) hb; have B1 : Hid (Box6 v4 v3.heap.size g0 g1 g2 g3 g4 g5) := (box6_new v3 g0 g1 g2 g3 g4 g5 23).on hb; clear hb H3 C4 xl yl x0 x1 x2 x3 x4 x5 y0 y1 y2 y3 y4 y5; have x0 := H4.out.pair.p.c0; have x1 := H4.out.pair.p.c1; have x2 := H4.out.pair.p.c2; have x3 := H4.out.pair.p.c3; have x4 := H4.out.pair.p.c4; have x5 := H4.out.pair.p.c5; have y0 := H4.out.pair.q.c0; have y1 := H4.out.pair.q.c1; have y2 := H4.out.pair.q.c2; have y3 := H4.out.pair.q.c3; have y4 := H4.out.pair.q.c4; have y5 := H4.out.pair.q.c5; have xl := H4.out.pair.p.lt; have yl := H4.out.pair.q.lt; have u0 := B1.out.c0; have u1 := B1.out.c1; have u2 := B1.out.c2; have u3 := B1.out.c3; have u4 := B1.out.c4; have u5 := B1.out.c5; have ul := B1.out.lt)
    | (go_at_call 10; refine (C5.out _ (duo_on H4.out (bal (Below.refl _ _) _))).mono ?_; rintro e1 v5 ⟨rfl, hb⟩; have HQ : Hid (Duo w v5 a0k a0r a0t a0l a0e a0c a1k a1r a1t a1l a1e a1c) := duo_on (duo_on H4.out (bal (Below.refl _ _) _)) hb; have B3 : Hid (Box6 v5 v3.heap.size g0 g1 g2 g3 g4 g5) := (B1.out.on (bal (Below.refl _ _) _)).on hb; have B2 : Hid (Box6 v5 v4.heap.size g0 g1 g2 g3 g4 g5) := (box6_new v4 g0 g1 g2 g3 g4 g5 23).on hb; clear hb H4 B1 C5 xl yl ul x0 x1 x2 x3 x4 x5 y0 y1 y2 y3 y4 y5 u0 u1 u2 u3 u4 u5; have B1 := B3; clear B3; have x0 := HQ.out.pair.p.c0; have x1 := HQ.out.pair.p.c1; have x2 := HQ.out.pair.p.c2; have x3 := HQ.out.pair.p.c3; have x4 := HQ.out.pair.p.c4; have x5 := HQ.out.pair.p.c5; have y0 := HQ.out.pair.q.c0; have y1 := HQ.out.pair.q.c1; have y2 := HQ.out.pair.q.c2; have y3 := HQ.out.pair.q.c3; have y4 := HQ.out.pair.q.c4; have y5 := HQ.out.pair.q.c5; have xl := HQ.out.pair.p.lt; have yl := HQ.out.pair.q.lt; have u0 := B1.out.c0; have u1 := B1.out.c1; have u2 := B1.out.c2; have u3 := B1.out.c3; have u4 := B1.out.c4; have u5 := B1.out.c5; have q0 := B2.out.c0; have q1 := B2.out.c1; have q2 := B2.out.c2; have q3 := B2.out.c3; have q4 := B2.out.c4; have q5 := B2.out.c5)
    | (go_at_call 11; refine (C6.out _ HQ.out).mono ?_; rintro e1 v6 ⟨rfl, hb⟩; have HR : Hid (Duo w v6 a0k a0r a0t a0l a0e a0c a1k a1r a1t a1l a1e a1c) := duo_on HQ.out hb; have B3 : Hid (Box6 v6 v3.heap.size g0 g1 g2 g3 g4 g5) := B1.out.on hb; have B4 : Hid (Box6 v6 v4.heap.size g0 g1 g2 g3 g4 g5) := B2.out.on hb; clear hb HQ B1 B2 C6 xl yl x0 x1 x2 x3 x4 x5 y0 y1 y2 y3 y4 y5 u0 u1 u2 u3 u4 u5 q0 q1 q2 q3 q4 q5; have HQ := HR; have B1 := B3; have B2 := B4; clear HR B3 B4; have x0 := HQ.out.pair.p.c0; have x1 := HQ.out.pair.p.c1; have x2 := HQ.out.pair.p.c2; have x3 := HQ.out.pair.p.c3; have x4 := HQ.out.pair.p.c4; have x5 := HQ.out.pair.p.c5; have y0 := HQ.out.pair.q.c0; have y1 := HQ.out.pair.q.c1; have y2 := HQ.out.pair.q.c2; have y3 := HQ.out.pair.q.c3; have y4 := HQ.out.pair.q.c4; have y5 := HQ.out.pair.q.c5; have xl := HQ.out.pair.p.lt; have yl := HQ.out.pair.q.lt; have u0 := B1.out.c0; have u1 := B1.out.c1; have u2 := B1.out.c2; have u3 := B1.out.c3; have u4 := B1.out.c4; have u5 := B1.out.c5; have q0 := B2.out.c0; have q1 := B2.out.c1; have q2 := B2.out.c2; have q3 := B2.out.c3; have q4 := B2.out.c4; have q5 := B2.out.c5)
    | fail)
  generalize v3.heap.size = b1 at B1 u0 u1 u2 u3 u4 u5 ⊢
  generalize v4.heap.size = b2 at B2 q0 q1 q2 q3 q4 q5 ⊢
  clear xl yl
  dsimp only [List.append]
  go_region_held3 (fun w' => w'.cell? ⟨w.heap.size, 0, none⟩ = some (.int .i64 a0k) ∧ w'.cell? ⟨w.heap.size, 1, none⟩ = some (.int .i64 a0r) ∧ w'.cell? ⟨w.heap.size, 2, none⟩ = some (.int .i64 a0t) ∧ w'.cell? ⟨w.heap.size, 3, none⟩ = some (.int .i64 a0l) ∧ w'.cell? ⟨w.heap.size, 4, none⟩ = some (.int .i64 a0e) ∧ w'.cell? ⟨w.heap.size, 5, none⟩ = some (.int .i64 a0c) ∧ w'.cell? ⟨w.heap.size + 1, 0, none⟩ = some (.int .i64 a1k) ∧ w'.cell? ⟨w.heap.size + 1, 1, none⟩ = some (.int .i64 a1r) ∧ w'.cell? ⟨w.heap.size + 1, 2, none⟩ = some (.int .i64 a1t) ∧ w'.cell? ⟨w.heap.size + 1, 3, none⟩ = some (.int .i64 a1l) ∧ w'.cell? ⟨w.heap.size + 1, 4, none⟩ = some (.int .i64 a1e) ∧ w'.cell? ⟨w.heap.size + 1, 5, none⟩ = some (.int .i64 a1c) ∧ w'.cell? ⟨b1, 0, none⟩ = some (.int .i64 g0) ∧ w'.cell? ⟨b1, 1, none⟩ = some (.int .i64 g1) ∧ w'.cell? ⟨b1, 2, none⟩ = some (.int .i64 g2) ∧ w'.cell? ⟨b1, 3, none⟩ = some (.int .i64 g3) ∧ w'.cell? ⟨b1, 4, none⟩ = some (.int .i64 g4) ∧ w'.cell? ⟨b1, 5, none⟩ = some (.int .i64 g5) ∧ w'.cell? ⟨b2, 0, none⟩ = some (.int .i64 g0) ∧ w'.cell? ⟨b2, 1, none⟩ = some (.int .i64 g1) ∧ w'.cell? ⟨b2, 2, none⟩ = some (.int .i64 g2) ∧ w'.cell? ⟨b2, 3, none⟩ = some (.int .i64 g3) ∧ w'.cell? ⟨b2, 4, none⟩ = some (.int .i64 g4) ∧ w'.cell? ⟨b2, 5, none⟩ = some (.int .i64 g5)) (first | exact ⟨by assumption, by assumption, by assumption, by assumption, by assumption, by assumption, by assumption, by assumption, by assumption, by assumption, by assumption, by assumption, by assumption, by assumption, by assumption, by assumption, by assumption, by assumption, by assumption, by assumption, by assumption, by assumption, by assumption, by assumption⟩ | go_keep)
  (first
    | (go_at_call 12; refine (C7.out _ (by first | exact HQ.out | exact duo_on HQ.out (Below.refl _ _).drew)).mono ?_; rintro e1 v7 ⟨rfl, hb⟩; have HR : Hid (Duo w v7 a0k a0r a0t a0l a0e a0c a1k a1r a1t a1l a1e a1c) := (by first | exact duo_on HQ.out hb | exact duo_on HQ.out ((Below.refl _ _).drew.trans hb)); have B3 : Hid (Box6 v7 b1 g0 g1 g2 g3 g4 g5) := (by first | exact B1.out.on hb | exact B1.out.on ((Below.refl _ _).drew.trans hb)); have B4 : Hid (Box6 v7 b2 g0 g1 g2 g3 g4 g5) := (by first | exact B2.out.on hb | exact B2.out.on ((Below.refl _ _).drew.trans hb)); clear hb HQ B1 B2 C7 x0 x1 x2 x3 x4 x5 y0 y1 y2 y3 y4 y5 u0 u1 u2 u3 u4 u5 q0 q1 q2 q3 q4 q5; have HQ := HR; have B1 := B3; have B2 := B4; clear HR B3 B4; have x0 := HQ.out.pair.p.c0; have x1 := HQ.out.pair.p.c1; have x2 := HQ.out.pair.p.c2; have x3 := HQ.out.pair.p.c3; have x4 := HQ.out.pair.p.c4; have x5 := HQ.out.pair.p.c5; have y0 := HQ.out.pair.q.c0; have y1 := HQ.out.pair.q.c1; have y2 := HQ.out.pair.q.c2; have y3 := HQ.out.pair.q.c3; have y4 := HQ.out.pair.q.c4; have y5 := HQ.out.pair.q.c5; have u0 := B1.out.c0; have u1 := B1.out.c1; have u2 := B1.out.c2; have u3 := B1.out.c3; have u4 := B1.out.c4; have u5 := B1.out.c5; have q0 := B2.out.c0; have q1 := B2.out.c1; have q2 := B2.out.c2; have q3 := B2.out.c3; have q4 := B2.out.c4; have q5 := B2.out.c5; dsimp only)
    | (go_at_call 13; refine (C8.out _ (by first | exact HQ.out | exact duo_on HQ.out (Below.refl _ _).drew)).mono ?_; rintro e1 v8 ⟨rfl, hb⟩; have HR : Hid (Duo w v8 a0k a0r a0t a0l a0e a0c a1k a1r a1t a1l a1e a1c) := (by first | exact duo_on HQ.out hb | exact duo_on HQ.out ((Below.refl _ _).drew.trans hb)); have B3 : Hid (Box6 v8 b1 g0 g1 g2 g3 g4 g5) := (by first | exact B1.out.on hb | exact B1.out.on ((Below.refl _ _).drew.trans hb)); have B4 : Hid (Box6 v8 b2 g0 g1 g2 g3 g4 g5) := (by first | exact B2.out.on hb | exact B2.out.on ((Below.refl _ _).drew.trans hb)); clear hb HQ B1 B2 C8 x0 x1 x2 x3 x4 x5 y0 y1 y2 y3 y4 y5 u0 u1 u2 u3 u4 u5 q0 q1 q2 q3 q4 q5; have HQ := HR; have B1 := B3; have B2 := B4; clear HR B3 B4; have x0 := HQ.out.pair.p.c0; have x1 := HQ.out.pair.p.c1; have x2 := HQ.out.pair.p.c2; have x3 := HQ.out.pair.p.c3; have x4 := HQ.out.pair.p.c4; have x5 := HQ.out.pair.p.c5; have y0 := HQ.out.pair.q.c0; have y1 := HQ.out.pair.q.c1; have y2 := HQ.out.pair.q.c2; have y3 := HQ.out.pair.q.c3; have y4 := HQ.out.pair.q.c4; have y5 := HQ.out.pair.q.c5; have u0 := B1.out.c0; have u1 := B1.out.c1; have u2 := B1.out.c2; have u3 := B1.out.c3; have u4 := B1.out.c4; have u5 := B1.out.c5; have q0 := B2.out.c0; have q1 := B2.out.c1; have q2 := B2.out.c2; have q3 := B2.out.c3; have q4 := B2.out.c4; have q5 := B2.out.c5; dsimp only)
    | (go_at_call 14; refine (C9.out _ (by first | exact HQ.out | exact duo_on HQ.out (Below.refl _ _).drew)).mono ?_; rintro e1 v9 ⟨rfl, hb⟩; have HR : Hid (Duo w v9 a0k a0r a0t a0l a0e a0c a1k a1r a1t a1l a1e a1c) := (by first | exact duo_on HQ.out hb | exact duo_on HQ.out ((Below.refl _ _).drew.trans hb)); have B3 : Hid (Box6 v9 b1 g0 g1 g2 g3 g4 g5) := (by first | exact B1.out.on hb | exact B1.out.on ((Below.refl _ _).drew.trans hb)); have B4 : Hid (Box6 v9 b2 g0 g1 g2 g3 g4 g5) := (by first | exact B2.out.on hb | exact B2.out.on ((Below.refl _ _).drew.trans hb)); clear hb HQ B1 B2 C9 x0 x1 x2 x3 x4 x5 y0 y1 y2 y3 y4 y5 u0 u1 u2 u3 u4 u5 q0 q1 q2 q3 q4 q5; have HQ := HR; have B1 := B3; have B2 := B4; clear HR B3 B4; have x0 := HQ.out.pair.p.c0; have x1 := HQ.out.pair.p.c1; have x2 := HQ.out.pair.p.c2; have x3 := HQ.out.pair.p.c3; have x4 := HQ.out.pair.p.c4; have x5 := HQ.out.pair.p.c5; have y0 := HQ.out.pair.q.c0; have y1 := HQ.out.pair.q.c1; have y2 := HQ.out.pair.q.c2; have y3 := HQ.out.pair.q.c3; have y4 := HQ.out.pair.q.c4; have y5 := HQ.out.pair.q.c5; have u0 := B1.out.c0; have u1 := B1.out.c1; have u2 := B1.out.c2; have u3 := B1.out.c3; have u4 := B1.out.c4; have u5 := B1.out.c5; have q0 := B2.out.c0; have q1 := B2.out.c1; have q2 := B2.out.c2; have q3 := B2.out.c3; have q4 := B2.out.c4; have q5 := B2.out.c5; dsimp only)
    | (go_at_call 15; refine (C10.out _ (by first | exact HQ.out | exact duo_on HQ.out (Below.refl _ _).drew)).mono ?_; rintro e1 v10 ⟨rfl, hb⟩; have HR : Hid (Duo w v10 a0k a0r a0t a0l a0e a0c a1k a1r a1t a1l a1e a1c) := (by first | exact duo_on HQ.out hb | exact duo_on HQ.out ((Below.refl _ _).drew.trans hb)); have B3 : Hid (Box6 v10 b1 g0 g1 g2 g3 g4 g5) := (by first | exact B1.out.on hb | exact B1.out.on ((Below.refl _ _).drew.trans hb)); have B4 : Hid (Box6 v10 b2 g0 g1 g2 g3 g4 g5) := (by first | exact B2.out.on hb | exact B2.out.on ((Below.refl _ _).drew.trans hb)); clear hb HQ B1 B2 C10 x0 x1 x2 x3 x4 x5 y0 y1 y2 y3 y4 y5 u0 u1 u2 u3 u4 u5 q0 q1 q2 q3 q4 q5; have HQ := HR; have B1 := B3; have B2 := B4; clear HR B3 B4; have x0 := HQ.out.pair.p.c0; have x1 := HQ.out.pair.p.c1; have x2 := HQ.out.pair.p.c2; have x3 := HQ.out.pair.p.c3; have x4 := HQ.out.pair.p.c4; have x5 := HQ.out.pair.p.c5; have y0 := HQ.out.pair.q.c0; have y1 := HQ.out.pair.q.c1; have y2 := HQ.out.pair.q.c2; have y3 := HQ.out.pair.q.c3; have y4 := HQ.out.pair.q.c4; have y5 := HQ.out.pair.q.c5; have u0 := B1.out.c0; have u1 := B1.out.c1; have u2 := B1.out.c2; have u3 := B1.out.c3; have u4 := B1.out.c4; have u5 := B1.out.c5; have q0 := B2.out.c0; have q1 := B2.out.c1; have q2 := B2.out.c2; have q3 := B2.out.c3; have q4 := B2.out.c4; have q5 := B2.out.c5; dsimp only)
    | (go_at_call 16; refine (C11.out _ (by first | exact HQ.out | exact duo_on HQ.out (Below.refl _ _).drew)).mono ?_; rintro e1 v11 ⟨rfl, hb⟩; have HR : Hid (Duo w v11 a0k a0r a0t a0l a0e a0c a1k a1r a1t a1l a1e a1c) := (by first | exact duo_on HQ.out hb | exact duo_on HQ.out ((Below.refl _ _).drew.trans hb)); have B3 : Hid (Box6 v11 b1 g0 g1 g2 g3 g4 g5) := (by first | exact B1.out.on hb | exact B1.out.on ((Below.refl _ _).drew.trans hb)); have B4 : Hid (Box6 v11 b2 g0 g1 g2 g3 g4 g5) := (by first | exact B2.out.on hb | exact B2.out.on ((Below.refl _ _).drew.trans hb)); clear hb HQ B1 B2 C11 x0 x1 x2 x3 x4 x5 y0 y1 y2 y3 y4 y5 u0 u1 u2 u3 u4 u5 q0 q1 q2 q3 q4 q5; have HQ := HR; have B1 := B3; have B2 := B4; clear HR B3 B4; have x0 := HQ.out.pair.p.c0; have x1 := HQ.out.pair.p.c1; have x2 := HQ.out.pair.p.c2; have x3 := HQ.out.pair.p.c3; have x4 := HQ.out.pair.p.c4; have x5 := HQ.out.pair.p.c5; have y0 := HQ.out.pair.q.c0; have y1 := HQ.out.pair.q.c1; have y2 := HQ.out.pair.q.c2; have y3 := HQ.out.pair.q.c3; have y4 := HQ.out.pair.q.c4; have y5 := HQ.out.pair.q.c5; have u0 := B1.out.c0; have u1 := B1.out.c1; have u2 := B1.out.c2; have u3 := B1.out.c3; have u4 := B1.out.c4; have u5 := B1.out.c5; have q0 := B2.out.c0; have q1 := B2.out.c1; have q2 := B2.out.c2; have q3 := B2.out.c3; have q4 := B2.out.c4; have q5 := B2.out.c5; dsimp only)
    | (go_at_call 17; refine (C12.out _ (by first | exact HQ.out | exact duo_on HQ.out (Below.refl _ _).drew)).mono ?_; rintro e1 v12 ⟨rfl, hb⟩; have HR : Hid (Duo w v12 a0k a0r a0t a0l a0e a0c a1k a1r a1t a1l a1e a1c) := (by first | exact duo_on HQ.out hb | exact duo_on HQ.out ((Below.refl _ _).drew.trans hb)); have B3 : Hid (Box6 v12 b1 g0 g1 g2 g3 g4 g5) := (by first | exact B1.out.on hb | exact B1.out.on ((Below.refl _ _).drew.trans hb)); have B4 : Hid (Box6 v12 b2 g0 g1 g2 g3 g4 g5) := (by first | exact B2.out.on hb | exact B2.out.on ((Below.refl _ _).drew.trans hb)); clear hb HQ B1 B2 C12 x0 x1 x2 x3 x4 x5 y0 y1 y2 y3 y4 y5 u0 u1 u2 u3 u4 u5 q0 q1 q2 q3 q4 q5; have HQ := HR; have B1 := B3; have B2 := B4; clear HR B3 B4; have x0 := HQ.out.pair.p.c0; have x1 := HQ.out.pair.p.c1; have x2 := HQ.out.pair.p.c2; have x3 := HQ.out.pair.p.c3; have x4 := HQ.out.pair.p.c4; have x5 := HQ.out.pair.p.c5; have y0 := HQ.out.pair.q.c0; have y1 := HQ.out.pair.q.c1; have y2 := HQ.out.pair.q.c2; have y3 := HQ.out.pair.q.c3; have y4 := HQ.out.pair.q.c4; have y5 := HQ.out.pair.q.c5; have u0 := B1.out.c0; have u1 := B1.out.c1; have u2 := B1.out.c2; have u3 := B1.out.c3; have u4 := B1.out.c4; have u5 := B1.out.c5; have q0 := B2.out.c0; have q1 := B2.out.c1; have q2 := B2.out.c2; have q3 := B2.out.c3; have q4 := B2.out.c4; have q5 := B2.out.c5; dsimp only)
    | (go_at_call 18; refine (C13.out _ (by first | exact HQ.out | exact duo_on HQ.out (Below.refl _ _).drew)).mono ?_; rintro e1 v13 ⟨rfl, hb⟩; have HR : Hid (Duo w v13 a0k a0r a0t a0l a0e a0c a1k a1r a1t a1l a1e a1c) := (by first | exact duo_on HQ.out hb | exact duo_on HQ.out ((Below.refl _ _).drew.trans hb)); have B3 : Hid (Box6 v13 b1 g0 g1 g2 g3 g4 g5) := (by first | exact B1.out.on hb | exact B1.out.on ((Below.refl _ _).drew.trans hb)); have B4 : Hid (Box6 v13 b2 g0 g1 g2 g3 g4 g5) := (by first | exact B2.out.on hb | exact B2.out.on ((Below.refl _ _).drew.trans hb)); clear hb HQ B1 B2 C13 x0 x1 x2 x3 x4 x5 y0 y1 y2 y3 y4 y5 u0 u1 u2 u3 u4 u5 q0 q1 q2 q3 q4 q5; have HQ := HR; have B1 := B3; have B2 := B4; clear HR B3 B4; have x0 := HQ.out.pair.p.c0; have x1 := HQ.out.pair.p.c1; have x2 := HQ.out.pair.p.c2; have x3 := HQ.out.pair.p.c3; have x4 := HQ.out.pair.p.c4; have x5 := HQ.out.pair.p.c5; have y0 := HQ.out.pair.q.c0; have y1 := HQ.out.pair.q.c1; have y2 := HQ.out.pair.q.c2; have y3 := HQ.out.pair.q.c3; have y4 := HQ.out.pair.q.c4; have y5 := HQ.out.pair.q.c5; have u0 := B1.out.c0; have u1 := B1.out.c1; have u2 := B1.out.c2; have u3 := B1.out.c3; have u4 := B1.out.c4; have u5 := B1.out.c5; have q0 := B2.out.c0; have q1 := B2.out.c1; have q2 := B2.out.c2; have q3 := B2.out.c3; have q4 := B2.out.c4; have q5 := B2.out.c5; dsimp only)
    | (go_at_call 19; refine (C14.out _ (by first | exact HQ.out | exact duo_on HQ.out (Below.refl _ _).drew)).mono ?_; rintro e1 v14 ⟨rfl, hb⟩; have HR : Hid (Duo w v14 a0k a0r a0t a0l a0e a0c a1k a1r a1t a1l a1e a1c) := (by first | exact duo_on HQ.out hb | exact duo_on HQ.out ((Below.refl _ _).drew.trans hb)); have B3 : Hid (Box6 v14 b1 g0 g1 g2 g3 g4 g5) := (by first | exact B1.out.on hb | exact B1.out.on ((Below.refl _ _).drew.trans hb)); have B4 : Hid (Box6 v14 b2 g0 g1 g2 g3 g4 g5) := (by first | exact B2.out.on hb | exact B2.out.on ((Below.refl _ _).drew.trans hb)); clear hb HQ B1 B2 C14 x0 x1 x2 x3 x4 x5 y0 y1 y2 y3 y4 y5 u0 u1 u2 u3 u4 u5 q0 q1 q2 q3 q4 q5; have HQ := HR; have B1 := B3; have B2 := B4; clear HR B3 B4; have x0 := HQ.out.pair.p.c0; have x1 := HQ.out.pair.p.c1; have x2 := HQ.out.pair.p.c2; have x3 := HQ.out.pair.p.c3; have x4 := HQ.out.pair.p.c4; have x5 := HQ.out.pair.p.c5; have y0 := HQ.out.pair.q.c0; have y1 := HQ.out.pair.q.c1; have y2 := HQ.out.pair.q.c2; have y3 := HQ.out.pair.q.c3; have y4 := HQ.out.pair.q.c4; have y5 := HQ.out.pair.q.c5; have u0 := B1.out.c0; have u1 := B1.out.c1; have u2 := B1.out.c2; have u3 := B1.out.c3; have u4 := B1.out.c4; have u5 := B1.out.c5; have q0 := B2.out.c0; have q1 := B2.out.c1; have q2 := B2.out.c2; have q3 := B2.out.c3; have q4 := B2.out.c4; have q5 := B2.out.c5; dsimp only)
    | (go_at_call 20; refine (awake_any _).mono ?_; rintro e1 v20 ⟨rfl, hb⟩; have H20 : Hid (Below w.heap.size w v20) := HQ.out.pair.below.trans (hb.mono HQ.out.pair.below.size); have HR : Hid (Duo w v20 a0k a0r a0t a0l a0e a0c a1k a1r a1t a1l a1e a1c) := duo_on HQ.out hb; have B3 : Hid (Box6 v20 b1 g0 g1 g2 g3 g4 g5) := B1.out.on hb; have B4 : Hid (Box6 v20 b2 g0 g1 g2 g3 g4 g5) := B2.out.on hb; clear hb HQ B1 B2 x0 x1 x2 x3 x4 x5 y0 y1 y2 y3 y4 y5 u0 u1 u2 u3 u4 u5 q0 q1 q2 q3 q4 q5; have HQ := HR; have B1 := B3; have B2 := B4; clear HR B3 B4; have x0 := HQ.out.pair.p.c0; have x1 := HQ.out.pair.p.c1; have x2 := HQ.out.pair.p.c2; have x3 := HQ.out.pair.p.c3; have x4 := HQ.out.pair.p.c4; have x5 := HQ.out.pair.p.c5; have y0 := HQ.out.pair.q.c0; have y1 := HQ.out.pair.q.c1; have y2 := HQ.out.pair.q.c2; have y3 := HQ.out.pair.q.c3; have y4 := HQ.out.pair.q.c4; have y5 := HQ.out.pair.q.c5; have u0 := B1.out.c0; have u1 := B1.out.c1; have u2 := B1.out.c2; have u3 := B1.out.c3; have u4 := B1.out.c4; have u5 := B1.out.c5; have q0 := B2.out.c0; have q1 := B2.out.c1; have q2 := B2.out.c2; have q3 := B2.out.c3; have q4 := B2.out.c4; have q5 := B2.out.c5; dsimp only)
    | fail)
  go_wp2
  go_ret
  exact ⟨rfl, H20.out⟩

/-! ### The statement's frame -/
/-- The heap that the program's own initialisers leave meets the condition. -/
theorem door_met (os : Os) (args : Array Value) : laidMetH Tryd.prog Rows.capTellsRow.laid ((World.doorLaid Tryd.prog 400 os).forCall (fun _ _ => 0) ⟨#[], args, []⟩).memory :=
  laidMetH_of_parts3 (fuel := 8) (laidMet_of_run' 8 (by kernel_rfl) (by kernel_rfl)) (by kernel_rfl) (by kernel_rfl)
set_option maxRecDepth 100000 in
theorem lifted (os : Os) (started : os.Started) (H : Type) (enc : TypeId × Value → H) :
    ReturnsInHanded {} Tryd.checked os 3 .any (fun w args => (Rows.capTellsSpec.pre enc Tryd.prog Tryd.f3 [] false w args ∧ laidMetH Tryd.prog Rows.capTellsRow.laid w) ∧ sizedMet enc Tryd.prog Tryd.f3 (OpenSpec.ofChange Rows.capTellsSpec) false w args) (Rows.capTellsSpec.post enc Tryd.prog Tryd.f3 false true false false) := by
  refine returnsInHanded_of_change_and (C := Tryd.checked) (X := fun w _ => laidMetH Tryd.prog Rows.capTellsRow.laid w) (fun _ _ _ hh h => h.of_heap hh) own started (by kernel_rfl) Tryd.func3
    (ChangeSpec.witness_shaped (enc := enc) (C := Tryd.checked) (os := os) (X := fun w _ => laidMetH Tryd.prog Rows.capTellsRow.laid w) false (World.doorLaid Tryd.prog 400 os) #[.agg #[.int .i64 0, .int .i64 0, .int .i64 0, .int .i64 0, .int .i64 0, .int .i64 0], .agg #[.int .i64 0, .int .i64 0, .int .i64 0, .int .i64 0, .int .i64 0, .int .i64 0], .int .i64 0, .int .u64 0, .int .u64 0] 8 rfl (World.shaped_of_RefB (by kernel_rfl) (by kernel_rfl)) (by kernel_rfl) (by kernel_rfl) (by kernel_rfl) (door_met os _)) ?_
  intro W base args ds gs before hval0 hW _ _ hL _
  have hval : ∀ (j : Nat) t v, Tryd.f3.params[j]? = some t → args[j]? = some v → Value.okWide Tryd.prog W .any base t v := hval0
  have hW' := hW
  obtain ⟨p, q, hA0, hV, rfl, hfz, hnd⟩ := hW
  have hA : DataW.TrodAll enc Tryd.prog W 0 (fun _ => true) true Tryd.f3.params.toList args.toList ds p := hA0
  rw [Tryd.params3] at hA hval
  obtain ⟨v0, vs0, d0, ds0, p0, q0, hargs, rfl, rfl, h0, r0⟩ := trodAll_cons hA
  obtain ⟨v1, vs1, d1, ds1, p1, q1, rfl, rfl, rfl, h1, r1⟩ := trodAll_cons r0
  obtain ⟨v2, vs2, d2, ds2, p2, q2, rfl, rfl, rfl, h2, r2⟩ := trodAll_cons r1
  obtain ⟨v3, vs3, d3, ds3, p3, q3, rfl, rfl, rfl, h3, r3⟩ := trodAll_cons r2
  obtain ⟨v4, vs4, d4, ds4, p4, q4, rfl, rfl, rfl, h4, r4⟩ := trodAll_cons r3
  obtain ⟨rfl, rfl, rfl⟩ := trodAll_nil r4
  obtain rfl : args = #[v0, v1, v2, v3, v4] := by cases args; simp_all
  obtain ⟨rfl, rfl⟩ := trodVars_none hV
  have k0 := h0
  have lt0 : ∀ x ∈ p0, x.block < W.heap.size := by obtain ⟨m, hm⟩ := k0; exact DataW.trod_lt m _ _ _ hm
  obtain ⟨a0k, a0r, a0t, a0l, a0e, a0c, rfl⟩ := cap_val (hval 0 23 v0 rfl rfl) h0
  have k1 := h1
  have lt1 : ∀ x ∈ p1, x.block < W.heap.size := by obtain ⟨m, hm⟩ := k1; exact DataW.trod_lt m _ _ _ hm
  obtain ⟨a1k, a1r, a1t, a1l, a1e, a1c, rfl⟩ := cap_val (hval 1 23 v1 rfl rfl) h1
  obtain ⟨a2, rfl, rfl, rfl, w2⟩ := open_int Tryd.underlying3 (hval 2 3 v2 rfl rfl) h2
  obtain ⟨a3, rfl, rfl, rfl, w3⟩ := open_int Tryd.underlying24 (hval 3 24 v3 rfl rfl) h3
  obtain ⟨a4, rfl, rfl, rfl, w4⟩ := open_int Tryd.underlying24 (hval 4 24 v4 rfl rfl) h4
  clear hA0 hval0
  refine (walk a0k a0r a0t a0l a0e a0c a1k a1r a1t a1l a1e a1c a2 a3 a4 W w2 w3 w4 (of_laid hL).1 (of_laid hL).2).mono fun e W' ⟨he, bel⟩ => ?_
  subst he
  exact ⟨_, rfl, _, _, _, [], _, [], hW', trodAll_mk1 (shut_bool Tryd.underlying4 _), (trodAll_cons_mk (Below.trod laidOut (by kernel_rfl) (of_decide_eq_true (by kernel_rfl)) k0 bel lt0) (trodAll_cons_mk (Below.trod laidOut (by kernel_rfl) (of_decide_eq_true (by kernel_rfl)) k1 bel lt1) (trodAll_cons_mk (shut_int Tryd.underlying3 w2) (trodAll_cons_mk (shut_int Tryd.underlying24 w3) (trodAll_cons_mk (shut_int Tryd.underlying24 w4) trodAll_mk0))))), rfl, bel.frame _, fun h => by cases h⟩

theorem over : Rows.capTellsRow.holds Tryd.pinned (OpenSpec.ofChange Rows.capTellsSpec) :=
  OpenClaim.holds_of_wide 3 Tryd.f3 rfl rfl rfl rfl rfl rfl rfl ⟨rfl, rfl, rfl, rfl, rfl⟩ rfl rfl rfl rfl rfl (by kernel_rfl) Tryd.func3 (by kernel_rfl)
    (of_decide_eq_true (by kernel_rfl)) (by unfold Func.isWrapper; first | (rw [if_pos (by decide +kernel)]; kernel_rfl) | (rw [if_neg (by decide +kernel)]; exact ⟨rfl, rfl⟩))
    (fun os started H enc _ => lifted os started H enc)

theorem proved : Rows.CapTellsCardSaid :=
  Claim7.holds_tied_plain_at .later [] [.data, .data] true (true, "d5f88be2eaf5d1560f58489bfb54e48e94ffe99f7f0f18d7c6c9b7a1f5d33d37") false
    over (fun _ h => by cases h) (by kernel_rfl) (fun _ h => by cases h) capTells_row_tie rfl ⟨rfl, rfl⟩ (by kernel_rfl) rfl
    (fun g fn hf hfn => by
      obtain rfl : g = 3 := Option.some.inj ((show Tryd.prog.funcNamed Rows.capTellsRow.func = some 3 by kernel_rfl).symm.trans hf) |>.symm
      obtain rfl : fn = Tryd.f3 := (Option.some.inj (Tryd.func3.symm.trans hfn)).symm
      exact ⟨by kernel_rfl, fun j t ht => by
        rw [Tryd.params3] at ht
        have hm : t ∈ [23, 23, 3, 24, 24] := by simpa using Array.mem_of_getElem? ht
        have hall : ([23, 23, 3, 24, 24].all fun u => !Tryd.prog.wantsStandIn u) = true := by kernel_rfl
        exact (show Tryd.prog.wantsStandIn t = false by simpa using List.all_eq_true.1 hall t hm)⟩)
    (by kernel_rfl)
end Go.Proofs.YtdednjeofolleaaDoor.capTells
namespace Go.Proofs.YtdednjeofolleaaDoor
theorem capTells_holds : Rows.CapTellsCardSaid := capTells.proved
#print axioms capTells_holds
end Go.Proofs.YtdednjeofolleaaDoor
