/- The walk of CallBack, over the program's contracts (written by mk_v.py). -/
import Derived.Test.YtjibbppjdojbpaaDoorCalI
import Derived.Test.YtjibbppjdojbpaaDoorCalP
import Derived.Outline
import Derived.BigRegion
import Derived.Deep.CutBlock
namespace Go.Proofs.YtjibbppjdojbpaaDoor.Pcall
open Go.Proofs.YtjibbppjdojbpaaDoor.Pbase Go.Proofs.YtjibbppjdojbpaaDoor.Pfield
open Go.RowKit M
set_option linter.unusedVariables false

/-- The call that was handed in, in a block of the call's own. -/
structure Bl (w W : World) (c : Cl) : Prop where
  box : RowC W w.heap.size c
  below : Below w.heap.size w W
theorem bl_new (w : World) (c : Cl) : Bl w (w.alloc (.cells #[.int .i64 c.n, .int .i64 c.a, .int .i64 c.b, .int .i64 c.c, .int .i64 c.d, .int .i64 c.e] 24)) c := ⟨rowC_new w c, bal (Below.refl _ _) _⟩
theorem Bl.on {w W W' : World} {c : Cl} (h : Bl w W c) (hB : Below W.heap.size W W') : Bl w W' c := ⟨h.box.on hB, h.below.trans (hB.mono h.below.size)⟩
theorem rc_kc (c : Cl) : (rcB c = true ∧ kcE c = 0) ∨ (rcB c = false ∧ kcE c = 1) := by
  cases h : rcB c
  · exact .inr ⟨rfl, kc_no h⟩
  · exact .inl ⟨rfl, kc_yes h⟩
theorem ge_or (z : Int) : getE z = 0 ∨ (getE z = 12 ∧ getC z = cl0) := by
  cases h : rcB (gC z)
  · exact .inr (get_no h)
  · exact .inl (get_yes h).1
set_option maxRecDepth 100000 in
set_option maxHeartbeats 4000000 in
theorem back_yes_yes (c : Cl) (z n : Int) (hc : Fc c) (hz : 0 ≤ z ∧ z ≤ 18446744073709551615) (w : World) (HP : Pc w) (hr : rcB c = true) (hg : getE z = 0) :
    Calls Tryd.prog 4 #[.agg #[.int .i64 c.n, .int .i64 c.a, .int .i64 c.b, .int .i64 c.c, .int .i64 c.d, .int .i64 c.e], .int .u64 z, .int .i64 n] w fun e w' => e = .returned (.bool true) ∧ Below w.heap.size w w' := by
  have H0 := chide (bl_new w c)
  have P1 : Hid (∀ wc, Below w.heap.size w wc → Calls Tryd.prog 6 #[.agg #[.int .i64 c.n, .int .i64 c.a, .int .i64 c.b, .int .i64 c.c, .int .i64 c.d, .int .i64 c.e]] wc fun e w' => e = .returned (.tuple #[.int .u64 (putW c), .int .i64 0]) ∧ Below wc.heap.size wc w') := fun wc hB => by
    have := HP.put wc c hc hB
    rwa [kc_yes hr] at this
  have P2 : Hid (∀ wc, Below w.heap.size w wc → Calls Tryd.prog 8 #[.int .u64 (putW c)] wc fun e w' => e = .returned (.tuple #[.agg #[.int .i64 c.n, .int .i64 c.a, .int .i64 c.b, .int .i64 c.c, .int .i64 c.d, .int .i64 c.e], .int .i64 0]) ∧ Below wc.heap.size wc w') := fun wc hB => by
    have := HP.get wc (putW c) (putW_bd c) hB
    rwa [(got_back hr).1, (got_back hr).2] at this
  have g1 : ∀ W, (binOp .neq 24 (.agg #[.int .i64 c.n, .int .i64 c.a, .int .i64 c.b, .int .i64 c.c, .int .i64 c.d, .int .i64 c.e]) (.agg #[.int .i64 c.n, .int .i64 c.a, .int .i64 c.b, .int .i64 c.c, .int .i64 c.d, .int .i64 c.e])).run Tryd.prog W = .ok (.bool false) W := neqC c
  have P3 : Hid (∀ wc, Below w.heap.size w wc → Calls Tryd.prog 16 #[.int .i64 n] wc fun e w' => e = .returned (.string (wdT n)) ∧ Below wc.heap.size wc w') := fun wc hB => HP.word wc n hB
  have P4 : Hid (∀ wc, Below w.heap.size w wc → Calls Tryd.prog 10 #[.string (wdT n)] wc fun e w' => e = .returned (.tuple #[.int .i64 (nuI (wdT n)), .bool (nuB (wdT n))]) ∧ Below wc.heap.size wc w') := fun wc hB => HP.number wc _ hB
  have HN : Hid (0 ≤ n ∧ n ≤ 29 → nuB (wdT n) = true ∧ nuI (wdT n) = n) := fun h => nu_wd h
  have P5 : Hid (∀ wc, Below w.heap.size w wc → Calls Tryd.prog 8 #[.int .u64 z] wc fun e w' => e = .returned (.tuple #[.agg #[.int .i64 (getC z).n, .int .i64 (getC z).a, .int .i64 (getC z).b, .int .i64 (getC z).c, .int .i64 (getC z).d, .int .i64 (getC z).e], .int .i64 0]) ∧ Below wc.heap.size wc w') := fun wc hB => by
    have := HP.get wc z hz hB
    rwa [hg] at this
  obtain ⟨k1, k2⟩ := put_back hz hg
  have P6 : Hid (∀ wc, Below w.heap.size w wc → Calls Tryd.prog 6 #[.agg #[.int .i64 (getC z).n, .int .i64 (getC z).a, .int .i64 (getC z).b, .int .i64 (getC z).c, .int .i64 (getC z).d, .int .i64 (getC z).e]] wc fun e w' => e = .returned (.tuple #[.int .u64 z, .int .i64 0]) ∧ Below wc.heap.size wc w') := fun wc hB => by
    have := HP.put wc (getC z) (getC_fc hz) hB
    rwa [k1, k2] at this
  have P7 : Hid (∀ wc, Below w.heap.size w wc → Calls Tryd.prog 12 #[.agg #[.int .i64 (getC z).n, .int .i64 (getC z).a, .int .i64 (getC z).b, .int .i64 (getC z).c, .int .i64 (getC z).d, .int .i64 (getC z).e]] wc fun e w' => e = .returned (.int .i64 0) ∧ Below wc.heap.size wc w') := fun wc hB => by
    have := HP.check wc (getC z) (getC_fc hz) hB
    rwa [k1] at this
  clear k1 k2
  have P8 : Hid (∀ wc, Below w.heap.size w wc → Calls Tryd.prog 18 #[] wc fun e w' => e = .returned (.bool true) ∧ Below wc.heap.size wc w') := fun wc hB => awake_any HP wc hB
  clear HP hc hz hr hg
  generalize nuI (wdT n) = i at P4 HN
  generalize nuB (wdT n) = ok at P4 HN
  generalize wdT n = t at P3 P4
  generalize putW c = r1 at P1 P2
  generalize getC z = x at P5 P6 P7
  go_enter Tryd.func4, Tryd.ntmps4
  go_upto_region 1 with fail
  generalize w.alloc _ = w1 at H0 ⊢
  have q0 := H0.out.box.c0; have q1 := H0.out.box.c1; have q2 := H0.out.box.c2; have q3 := H0.out.box.c3; have q4 := H0.out.box.c4; have q5 := H0.out.box.c5
  go_upto_region 4 with (first
    | (go_at_call 6; refine (P1.out _ H0.out.below).mono ?_; rintro e1 w2 ⟨rfl, hb⟩; have H1 := chide (H0.out.on hb); clear hb P1 H0 q0 q1 q2 q3 q4 q5)
    | (go_at_call 8; refine (P2.out _ H1.out.below).mono ?_; rintro e2 w3 ⟨rfl, hb⟩; have H2 := chide (H1.out.on hb); clear hb P2 H1)
    | fail)
  have H3 : Hid (Bl w (w3.alloc (.cells #[.int .i64 c.n, .int .i64 c.a, .int .i64 c.b, .int .i64 c.c, .int .i64 c.d, .int .i64 c.e] 24)) c ∧ RowC (w3.alloc (.cells #[.int .i64 c.n, .int .i64 c.a, .int .i64 c.b, .int .i64 c.c, .int .i64 c.d, .int .i64 c.e] 24)) w3.heap.size c) := ⟨H2.out.on (bal (Below.refl _ _) _), rowC_new _ _⟩
  generalize w3.alloc _ = w4 at H3 ⊢
  generalize w3.heap.size = D at H3 ⊢
  clear H2
  have q0 := H3.out.1.box.c0; have q1 := H3.out.1.box.c1; have q2 := H3.out.1.box.c2; have q3 := H3.out.1.box.c3; have q4 := H3.out.1.box.c4; have q5 := H3.out.1.box.c5
  have p0 := H3.out.2.c0; have p1 := H3.out.2.c1; have p2 := H3.out.2.c2; have p3 := H3.out.2.c3; have p4 := H3.out.2.c4; have p5 := H3.out.2.c5
  have H4 : Hid (Bl w w4 c) := H3.out.1
  go_upto_region 7 with (first
    | (go_at_call 16; refine (P3.out _ H4.out.below).mono ?_; rintro e3 w5 ⟨rfl, hb⟩; have H5 := chide (H4.out.on hb); clear hb P3 H4 H3 q0 q1 q2 q3 q4 q5 p0 p1 p2 p3 p4 p5)
    | (go_at_call 10; refine (P4.out _ H5.out.below).mono ?_; rintro e4 w6 ⟨rfl, hb⟩; have H6 := chide (H5.out.on hb); clear hb P4 H5)
    | fail)
  go_cut [56] from 42 to 56 (fun v wc => v = .bool false ∧ wc = w6)
  case first =>
    by_cases hn : 0 ≤ n ∧ n ≤ 29
    · obtain ⟨rfl, rfl⟩ := HN.out hn
      obtain ⟨n0, n1⟩ := hn
      have n2 : (i != i) = false := by simp
      go_wp2_with fail
      go_meet
      exact ⟨rfl, rfl⟩
    · rcases (show ¬ 0 ≤ n ∨ (0 ≤ n ∧ ¬ n ≤ 29) by omega) with n0 | ⟨n0, n1⟩
      all_goals
        clear hn
        go_wp2_with fail
        go_meet
        exact ⟨rfl, rfl⟩
  case rest =>
    obtain ⟨rfl, rfl⟩ := hcut
    clear HN
    go_upto_region 10 with (first
      | (go_at_call 8; refine (P5.out _ H6.out.below).mono ?_; rintro e5 w7 ⟨rfl, hb⟩; have H7 := chide (H6.out.on hb); clear hb P5 H6)
      | fail)
    have H8 : Hid (Below w.heap.size w (w7.alloc (.cells #[.int .i64 x.n, .int .i64 x.a, .int .i64 x.b, .int .i64 x.c, .int .i64 x.d, .int .i64 x.e] 24)) ∧ RowC (w7.alloc (.cells #[.int .i64 x.n, .int .i64 x.a, .int .i64 x.b, .int .i64 x.c, .int .i64 x.d, .int .i64 x.e] 24)) w7.heap.size x) := ⟨bal H7.out.below _, rowC_new _ _⟩
    generalize w7.alloc _ = w8 at H8 ⊢
    generalize w7.heap.size = D at H8 ⊢
    clear H7
    have p0 := H8.out.2.c0; have p1 := H8.out.2.c1; have p2 := H8.out.2.c2; have p3 := H8.out.2.c3; have p4 := H8.out.2.c4; have p5 := H8.out.2.c5
    go_wp2_with (first
      | (go_at_call 6; refine (P6.out _ H8.out.1).mono ?_; rintro e6 w9 ⟨rfl, hb⟩; have H9 : Hid (Below w.heap.size w w9 ∧ RowC w9 D x) := ⟨H8.out.1.trans (hb.mono H8.out.1.size), H8.out.2.on hb⟩; clear hb P6 H8 p0 p1 p2 p3 p4 p5; have p0 := H9.out.2.c0; have p1 := H9.out.2.c1; have p2 := H9.out.2.c2; have p3 := H9.out.2.c3; have p4 := H9.out.2.c4; have p5 := H9.out.2.c5)
      | (go_at_call 12; refine (P7.out _ H9.out.1).mono ?_; rintro e7 wa ⟨rfl, hb⟩; have Ha : Hid (Below w.heap.size w wa) := H9.out.1.trans (hb.mono H9.out.1.size); clear hb P7 H9)
      | (go_at_call 18; refine (P8.out _ Ha.out).mono ?_; rintro e8 wb ⟨rfl, hb⟩; have Hb : Hid (Below w.heap.size w wb) := Ha.out.trans (hb.mono Ha.out.size); clear hb P8 Ha)
      | fail)
    go_ret
    exact ⟨rfl, Hb.out⟩
set_option maxRecDepth 100000 in
set_option maxHeartbeats 4000000 in
theorem back_yes_no (c : Cl) (z n : Int) (hc : Fc c) (hz : 0 ≤ z ∧ z ≤ 18446744073709551615) (w : World) (HP : Pc w) (hr : rcB c = true) (hg : getE z = 12 ∧ getC z = cl0) :
    Calls Tryd.prog 4 #[.agg #[.int .i64 c.n, .int .i64 c.a, .int .i64 c.b, .int .i64 c.c, .int .i64 c.d, .int .i64 c.e], .int .u64 z, .int .i64 n] w fun e w' => e = .returned (.bool true) ∧ Below w.heap.size w w' := by
  have H0 := chide (bl_new w c)
  have P1 : Hid (∀ wc, Below w.heap.size w wc → Calls Tryd.prog 6 #[.agg #[.int .i64 c.n, .int .i64 c.a, .int .i64 c.b, .int .i64 c.c, .int .i64 c.d, .int .i64 c.e]] wc fun e w' => e = .returned (.tuple #[.int .u64 (putW c), .int .i64 0]) ∧ Below wc.heap.size wc w') := fun wc hB => by
    have := HP.put wc c hc hB
    rwa [kc_yes hr] at this
  have P2 : Hid (∀ wc, Below w.heap.size w wc → Calls Tryd.prog 8 #[.int .u64 (putW c)] wc fun e w' => e = .returned (.tuple #[.agg #[.int .i64 c.n, .int .i64 c.a, .int .i64 c.b, .int .i64 c.c, .int .i64 c.d, .int .i64 c.e], .int .i64 0]) ∧ Below wc.heap.size wc w') := fun wc hB => by
    have := HP.get wc (putW c) (putW_bd c) hB
    rwa [(got_back hr).1, (got_back hr).2] at this
  have g1 : ∀ W, (binOp .neq 24 (.agg #[.int .i64 c.n, .int .i64 c.a, .int .i64 c.b, .int .i64 c.c, .int .i64 c.d, .int .i64 c.e]) (.agg #[.int .i64 c.n, .int .i64 c.a, .int .i64 c.b, .int .i64 c.c, .int .i64 c.d, .int .i64 c.e])).run Tryd.prog W = .ok (.bool false) W := neqC c
  have P3 : Hid (∀ wc, Below w.heap.size w wc → Calls Tryd.prog 16 #[.int .i64 n] wc fun e w' => e = .returned (.string (wdT n)) ∧ Below wc.heap.size wc w') := fun wc hB => HP.word wc n hB
  have P4 : Hid (∀ wc, Below w.heap.size w wc → Calls Tryd.prog 10 #[.string (wdT n)] wc fun e w' => e = .returned (.tuple #[.int .i64 (nuI (wdT n)), .bool (nuB (wdT n))]) ∧ Below wc.heap.size wc w') := fun wc hB => HP.number wc _ hB
  have HN : Hid (0 ≤ n ∧ n ≤ 29 → nuB (wdT n) = true ∧ nuI (wdT n) = n) := fun h => nu_wd h
  have P5 : Hid (∀ wc, Below w.heap.size w wc → Calls Tryd.prog 8 #[.int .u64 z] wc fun e w' => e = .returned (.tuple #[.agg #[.int .i64 0, .int .i64 0, .int .i64 0, .int .i64 0, .int .i64 0, .int .i64 0], .int .i64 12]) ∧ Below wc.heap.size wc w') := fun wc hB => by
    have := HP.get wc z hz hB
    rwa [hg.1, hg.2] at this
  have P7 : Hid (∀ wc, Below w.heap.size w wc → Calls Tryd.prog 12 #[.agg #[.int .i64 c.n, .int .i64 c.a, .int .i64 c.b, .int .i64 c.c, .int .i64 c.d, .int .i64 c.e]] wc fun e w' => e = .returned (.int .i64 0) ∧ Below wc.heap.size wc w') := fun wc hB => by
    have := HP.check wc c hc hB
    rwa [kc_yes hr] at this
  have g2 : ∀ W, (binOp .eql 24 (.agg #[.int .i64 0, .int .i64 0, .int .i64 0, .int .i64 0, .int .i64 0, .int .i64 0]) (.agg #[.int .i64 0, .int .i64 0, .int .i64 0, .int .i64 0, .int .i64 0, .int .i64 0])).run Tryd.prog W = .ok (.bool true) W := eqlC cl0
  have P8 : Hid (∀ wc, Below w.heap.size w wc → Calls Tryd.prog 18 #[] wc fun e w' => e = .returned (.bool true) ∧ Below wc.heap.size wc w') := fun wc hB => awake_any HP wc hB
  clear HP hc hz hr hg
  generalize nuI (wdT n) = i at P4 HN
  generalize nuB (wdT n) = ok at P4 HN
  generalize wdT n = t at P3 P4
  generalize putW c = r1 at P1 P2
  go_enter Tryd.func4, Tryd.ntmps4
  go_upto_region 1 with fail
  generalize w.alloc _ = w1 at H0 ⊢
  have q0 := H0.out.box.c0; have q1 := H0.out.box.c1; have q2 := H0.out.box.c2; have q3 := H0.out.box.c3; have q4 := H0.out.box.c4; have q5 := H0.out.box.c5
  go_upto_region 4 with (first
    | (go_at_call 6; refine (P1.out _ H0.out.below).mono ?_; rintro e1 w2 ⟨rfl, hb⟩; have H1 := chide (H0.out.on hb); clear hb P1 H0 q0 q1 q2 q3 q4 q5)
    | (go_at_call 8; refine (P2.out _ H1.out.below).mono ?_; rintro e2 w3 ⟨rfl, hb⟩; have H2 := chide (H1.out.on hb); clear hb P2 H1)
    | fail)
  have H3 : Hid (Bl w (w3.alloc (.cells #[.int .i64 c.n, .int .i64 c.a, .int .i64 c.b, .int .i64 c.c, .int .i64 c.d, .int .i64 c.e] 24)) c ∧ RowC (w3.alloc (.cells #[.int .i64 c.n, .int .i64 c.a, .int .i64 c.b, .int .i64 c.c, .int .i64 c.d, .int .i64 c.e] 24)) w3.heap.size c) := ⟨H2.out.on (bal (Below.refl _ _) _), rowC_new _ _⟩
  generalize w3.alloc _ = w4 at H3 ⊢
  generalize w3.heap.size = D at H3 ⊢
  clear H2
  have q0 := H3.out.1.box.c0; have q1 := H3.out.1.box.c1; have q2 := H3.out.1.box.c2; have q3 := H3.out.1.box.c3; have q4 := H3.out.1.box.c4; have q5 := H3.out.1.box.c5
  have p0 := H3.out.2.c0; have p1 := H3.out.2.c1; have p2 := H3.out.2.c2; have p3 := H3.out.2.c3; have p4 := H3.out.2.c4; have p5 := H3.out.2.c5
  have H4 : Hid (Bl w w4 c) := H3.out.1
  go_upto_region 7 with (first
    | (go_at_call 16; refine (P3.out _ H4.out.below).mono ?_; rintro e3 w5 ⟨rfl, hb⟩; have H5 := chide (H4.out.on hb); clear hb P3 H4 H3 q0 q1 q2 q3 q4 q5 p0 p1 p2 p3 p4 p5)
    | (go_at_call 10; refine (P4.out _ H5.out.below).mono ?_; rintro e4 w6 ⟨rfl, hb⟩; have H6 := chide (H5.out.on hb); clear hb P4 H5)
    | fail)
  go_cut [56] from 42 to 56 (fun v wc => v = .bool false ∧ wc = w6)
  case first =>
    by_cases hn : 0 ≤ n ∧ n ≤ 29
    · obtain ⟨rfl, rfl⟩ := HN.out hn
      obtain ⟨n0, n1⟩ := hn
      have n2 : (i != i) = false := by simp
      go_wp2_with fail
      go_meet
      exact ⟨rfl, rfl⟩
    · rcases (show ¬ 0 ≤ n ∨ (0 ≤ n ∧ ¬ n ≤ 29) by omega) with n0 | ⟨n0, n1⟩
      all_goals
        clear hn
        go_wp2_with fail
        go_meet
        exact ⟨rfl, rfl⟩
  case rest =>
    obtain ⟨rfl, rfl⟩ := hcut
    clear HN
    go_upto_region 10 with (first
      | (go_at_call 8; refine (P5.out _ H6.out.below).mono ?_; rintro e5 w7 ⟨rfl, hb⟩; have H7 := chide (H6.out.on hb); clear hb P5 H6)
      | fail)
    have H8 : Hid (Bl w (w7.alloc (.cells #[.int .i64 0, .int .i64 0, .int .i64 0, .int .i64 0, .int .i64 0, .int .i64 0] 24)) c ∧ RowC (w7.alloc (.cells #[.int .i64 0, .int .i64 0, .int .i64 0, .int .i64 0, .int .i64 0, .int .i64 0] 24)) w7.heap.size cl0) := ⟨H7.out.on (bal (Below.refl _ _) _), rowC_new _ cl0⟩
    generalize w7.alloc _ = w8 at H8 ⊢
    generalize w7.heap.size = D at H8 ⊢
    clear H7
    have p0 : w8.cell? ⟨D, 0, none⟩ = some (.int .i64 0) := H8.out.2.c0
    have p1 : w8.cell? ⟨D, 1, none⟩ = some (.int .i64 0) := H8.out.2.c1
    have p2 : w8.cell? ⟨D, 2, none⟩ = some (.int .i64 0) := H8.out.2.c2
    have p3 : w8.cell? ⟨D, 3, none⟩ = some (.int .i64 0) := H8.out.2.c3
    have p4 : w8.cell? ⟨D, 4, none⟩ = some (.int .i64 0) := H8.out.2.c4
    have p5 : w8.cell? ⟨D, 5, none⟩ = some (.int .i64 0) := H8.out.2.c5
    have q0 := H8.out.1.box.c0; have q1 := H8.out.1.box.c1; have q2 := H8.out.1.box.c2; have q3 := H8.out.1.box.c3; have q4 := H8.out.1.box.c4; have q5 := H8.out.1.box.c5
    go_wp2_with (first
      | (go_at_call 12; refine (P7.out _ H8.out.1.below).mono ?_; rintro e7 wa ⟨rfl, hb⟩; have Ha : Hid (Below w.heap.size w wa) := H8.out.1.below.trans (hb.mono H8.out.1.below.size); clear hb P7 H8)
      | (go_at_call 18; refine (P8.out _ Ha.out).mono ?_; rintro e8 wb ⟨rfl, hb⟩; have Hb : Hid (Below w.heap.size w wb) := Ha.out.trans (hb.mono Ha.out.size); clear hb P8 Ha)
      | fail)
    go_ret
    exact ⟨rfl, Hb.out⟩
set_option maxRecDepth 100000 in
set_option maxHeartbeats 4000000 in
theorem back_no_yes (c : Cl) (z n : Int) (hc : Fc c) (hz : 0 ≤ z ∧ z ≤ 18446744073709551615) (w : World) (HP : Pc w) (hr : rcB c = false) (hg : getE z = 0) :
    Calls Tryd.prog 4 #[.agg #[.int .i64 c.n, .int .i64 c.a, .int .i64 c.b, .int .i64 c.c, .int .i64 c.d, .int .i64 c.e], .int .u64 z, .int .i64 n] w fun e w' => e = .returned (.bool true) ∧ Below w.heap.size w w' := by
  have H0 := chide (bl_new w c)
  have P1 : Hid (∀ wc, Below w.heap.size w wc → Calls Tryd.prog 6 #[.agg #[.int .i64 c.n, .int .i64 c.a, .int .i64 c.b, .int .i64 c.c, .int .i64 c.d, .int .i64 c.e]] wc fun e w' => e = .returned (.tuple #[.int .u64 (putW c), .int .i64 1]) ∧ Below wc.heap.size wc w') := fun wc hB => by
    have := HP.put wc c hc hB
    rwa [kc_no hr] at this
  have P3 : Hid (∀ wc, Below w.heap.size w wc → Calls Tryd.prog 16 #[.int .i64 n] wc fun e w' => e = .returned (.string (wdT n)) ∧ Below wc.heap.size wc w') := fun wc hB => HP.word wc n hB
  have P4 : Hid (∀ wc, Below w.heap.size w wc → Calls Tryd.prog 10 #[.string (wdT n)] wc fun e w' => e = .returned (.tuple #[.int .i64 (nuI (wdT n)), .bool (nuB (wdT n))]) ∧ Below wc.heap.size wc w') := fun wc hB => HP.number wc _ hB
  have HN : Hid (0 ≤ n ∧ n ≤ 29 → nuB (wdT n) = true ∧ nuI (wdT n) = n) := fun h => nu_wd h
  have P5 : Hid (∀ wc, Below w.heap.size w wc → Calls Tryd.prog 8 #[.int .u64 z] wc fun e w' => e = .returned (.tuple #[.agg #[.int .i64 (getC z).n, .int .i64 (getC z).a, .int .i64 (getC z).b, .int .i64 (getC z).c, .int .i64 (getC z).d, .int .i64 (getC z).e], .int .i64 0]) ∧ Below wc.heap.size wc w') := fun wc hB => by
    have := HP.get wc z hz hB
    rwa [hg] at this
  obtain ⟨k1, k2⟩ := put_back hz hg
  have P6 : Hid (∀ wc, Below w.heap.size w wc → Calls Tryd.prog 6 #[.agg #[.int .i64 (getC z).n, .int .i64 (getC z).a, .int .i64 (getC z).b, .int .i64 (getC z).c, .int .i64 (getC z).d, .int .i64 (getC z).e]] wc fun e w' => e = .returned (.tuple #[.int .u64 z, .int .i64 0]) ∧ Below wc.heap.size wc w') := fun wc hB => by
    have := HP.put wc (getC z) (getC_fc hz) hB
    rwa [k1, k2] at this
  have P7 : Hid (∀ wc, Below w.heap.size w wc → Calls Tryd.prog 12 #[.agg #[.int .i64 (getC z).n, .int .i64 (getC z).a, .int .i64 (getC z).b, .int .i64 (getC z).c, .int .i64 (getC z).d, .int .i64 (getC z).e]] wc fun e w' => e = .returned (.int .i64 0) ∧ Below wc.heap.size wc w') := fun wc hB => by
    have := HP.check wc (getC z) (getC_fc hz) hB
    rwa [k1] at this
  clear k1 k2
  have P8 : Hid (∀ wc, Below w.heap.size w wc → Calls Tryd.prog 18 #[] wc fun e w' => e = .returned (.bool true) ∧ Below wc.heap.size wc w') := fun wc hB => awake_any HP wc hB
  clear HP hc hz hr hg
  generalize nuI (wdT n) = i at P4 HN
  generalize nuB (wdT n) = ok at P4 HN
  generalize wdT n = t at P3 P4
  generalize putW c = r1 at P1
  generalize getC z = x at P5 P6 P7
  go_enter Tryd.func4, Tryd.ntmps4
  go_upto_region 1 with fail
  generalize w.alloc _ = w1 at H0 ⊢
  have q0 := H0.out.box.c0; have q1 := H0.out.box.c1; have q2 := H0.out.box.c2; have q3 := H0.out.box.c3; have q4 := H0.out.box.c4; have q5 := H0.out.box.c5
  go_upto_region 7 with (first
    | (go_at_call 6; refine (P1.out _ H0.out.below).mono ?_; rintro e1 w2 ⟨rfl, hb⟩; have H4 := chide (H0.out.on hb); clear hb P1 H0 q0 q1 q2 q3 q4 q5)
    | (go_at_call 16; refine (P3.out _ H4.out.below).mono ?_; rintro e3 w5 ⟨rfl, hb⟩; have H5 := chide (H4.out.on hb); clear hb P3 H4)
    | (go_at_call 10; refine (P4.out _ H5.out.below).mono ?_; rintro e4 w6 ⟨rfl, hb⟩; have H6 := chide (H5.out.on hb); clear hb P4 H5)
    | fail)
  go_cut [56] from 42 to 56 (fun v wc => v = .bool false ∧ wc = w6)
  case first =>
    by_cases hn : 0 ≤ n ∧ n ≤ 29
    · obtain ⟨rfl, rfl⟩ := HN.out hn
      obtain ⟨n0, n1⟩ := hn
      have n2 : (i != i) = false := by simp
      go_wp2_with fail
      go_meet
      exact ⟨rfl, rfl⟩
    · rcases (show ¬ 0 ≤ n ∨ (0 ≤ n ∧ ¬ n ≤ 29) by omega) with n0 | ⟨n0, n1⟩
      all_goals
        clear hn
        go_wp2_with fail
        go_meet
        exact ⟨rfl, rfl⟩
  case rest =>
    obtain ⟨rfl, rfl⟩ := hcut
    clear HN
    go_upto_region 10 with (first
      | (go_at_call 8; refine (P5.out _ H6.out.below).mono ?_; rintro e5 w7 ⟨rfl, hb⟩; have H7 := chide (H6.out.on hb); clear hb P5 H6)
      | fail)
    have H8 : Hid (Below w.heap.size w (w7.alloc (.cells #[.int .i64 x.n, .int .i64 x.a, .int .i64 x.b, .int .i64 x.c, .int .i64 x.d, .int .i64 x.e] 24)) ∧ RowC (w7.alloc (.cells #[.int .i64 x.n, .int .i64 x.a, .int .i64 x.b, .int .i64 x.c, .int .i64 x.d, .int .i64 x.e] 24)) w7.heap.size x) := ⟨bal H7.out.below _, rowC_new _ _⟩
    generalize w7.alloc _ = w8 at H8 ⊢
    generalize w7.heap.size = D at H8 ⊢
    clear H7
    have p0 := H8.out.2.c0; have p1 := H8.out.2.c1; have p2 := H8.out.2.c2; have p3 := H8.out.2.c3; have p4 := H8.out.2.c4; have p5 := H8.out.2.c5
    go_wp2_with (first
      | (go_at_call 6; refine (P6.out _ H8.out.1).mono ?_; rintro e6 w9 ⟨rfl, hb⟩; have H9 : Hid (Below w.heap.size w w9 ∧ RowC w9 D x) := ⟨H8.out.1.trans (hb.mono H8.out.1.size), H8.out.2.on hb⟩; clear hb P6 H8 p0 p1 p2 p3 p4 p5; have p0 := H9.out.2.c0; have p1 := H9.out.2.c1; have p2 := H9.out.2.c2; have p3 := H9.out.2.c3; have p4 := H9.out.2.c4; have p5 := H9.out.2.c5)
      | (go_at_call 12; refine (P7.out _ H9.out.1).mono ?_; rintro e7 wa ⟨rfl, hb⟩; have Ha : Hid (Below w.heap.size w wa) := H9.out.1.trans (hb.mono H9.out.1.size); clear hb P7 H9)
      | (go_at_call 18; refine (P8.out _ Ha.out).mono ?_; rintro e8 wb ⟨rfl, hb⟩; have Hb : Hid (Below w.heap.size w wb) := Ha.out.trans (hb.mono Ha.out.size); clear hb P8 Ha)
      | fail)
    go_ret
    exact ⟨rfl, Hb.out⟩
set_option maxRecDepth 100000 in
set_option maxHeartbeats 4000000 in
theorem back_no_no (c : Cl) (z n : Int) (hc : Fc c) (hz : 0 ≤ z ∧ z ≤ 18446744073709551615) (w : World) (HP : Pc w) (hr : rcB c = false) (hg : getE z = 12 ∧ getC z = cl0) :
    Calls Tryd.prog 4 #[.agg #[.int .i64 c.n, .int .i64 c.a, .int .i64 c.b, .int .i64 c.c, .int .i64 c.d, .int .i64 c.e], .int .u64 z, .int .i64 n] w fun e w' => e = .returned (.bool true) ∧ Below w.heap.size w w' := by
  have H0 := chide (bl_new w c)
  have P1 : Hid (∀ wc, Below w.heap.size w wc → Calls Tryd.prog 6 #[.agg #[.int .i64 c.n, .int .i64 c.a, .int .i64 c.b, .int .i64 c.c, .int .i64 c.d, .int .i64 c.e]] wc fun e w' => e = .returned (.tuple #[.int .u64 (putW c), .int .i64 1]) ∧ Below wc.heap.size wc w') := fun wc hB => by
    have := HP.put wc c hc hB
    rwa [kc_no hr] at this
  have P3 : Hid (∀ wc, Below w.heap.size w wc → Calls Tryd.prog 16 #[.int .i64 n] wc fun e w' => e = .returned (.string (wdT n)) ∧ Below wc.heap.size wc w') := fun wc hB => HP.word wc n hB
  have P4 : Hid (∀ wc, Below w.heap.size w wc → Calls Tryd.prog 10 #[.string (wdT n)] wc fun e w' => e = .returned (.tuple #[.int .i64 (nuI (wdT n)), .bool (nuB (wdT n))]) ∧ Below wc.heap.size wc w') := fun wc hB => HP.number wc _ hB
  have HN : Hid (0 ≤ n ∧ n ≤ 29 → nuB (wdT n) = true ∧ nuI (wdT n) = n) := fun h => nu_wd h
  have P5 : Hid (∀ wc, Below w.heap.size w wc → Calls Tryd.prog 8 #[.int .u64 z] wc fun e w' => e = .returned (.tuple #[.agg #[.int .i64 0, .int .i64 0, .int .i64 0, .int .i64 0, .int .i64 0, .int .i64 0], .int .i64 12]) ∧ Below wc.heap.size wc w') := fun wc hB => by
    have := HP.get wc z hz hB
    rwa [hg.1, hg.2] at this
  have P7 : Hid (∀ wc, Below w.heap.size w wc → Calls Tryd.prog 12 #[.agg #[.int .i64 c.n, .int .i64 c.a, .int .i64 c.b, .int .i64 c.c, .int .i64 c.d, .int .i64 c.e]] wc fun e w' => e = .returned (.int .i64 1) ∧ Below wc.heap.size wc w') := fun wc hB => by
    have := HP.check wc c hc hB
    rwa [kc_no hr] at this
  have g2 : ∀ W, (binOp .eql 24 (.agg #[.int .i64 0, .int .i64 0, .int .i64 0, .int .i64 0, .int .i64 0, .int .i64 0]) (.agg #[.int .i64 0, .int .i64 0, .int .i64 0, .int .i64 0, .int .i64 0, .int .i64 0])).run Tryd.prog W = .ok (.bool true) W := eqlC cl0
  have P8 : Hid (∀ wc, Below w.heap.size w wc → Calls Tryd.prog 18 #[] wc fun e w' => e = .returned (.bool true) ∧ Below wc.heap.size wc w') := fun wc hB => awake_any HP wc hB
  clear HP hc hz hr hg
  generalize nuI (wdT n) = i at P4 HN
  generalize nuB (wdT n) = ok at P4 HN
  generalize wdT n = t at P3 P4
  generalize putW c = r1 at P1
  go_enter Tryd.func4, Tryd.ntmps4
  go_upto_region 1 with fail
  generalize w.alloc _ = w1 at H0 ⊢
  have q0 := H0.out.box.c0; have q1 := H0.out.box.c1; have q2 := H0.out.box.c2; have q3 := H0.out.box.c3; have q4 := H0.out.box.c4; have q5 := H0.out.box.c5
  go_upto_region 7 with (first
    | (go_at_call 6; refine (P1.out _ H0.out.below).mono ?_; rintro e1 w2 ⟨rfl, hb⟩; have H4 := chide (H0.out.on hb); clear hb P1 H0 q0 q1 q2 q3 q4 q5)
    | (go_at_call 16; refine (P3.out _ H4.out.below).mono ?_; rintro e3 w5 ⟨rfl, hb⟩; have H5 := chide (H4.out.on hb); clear hb P3 H4)
    | (go_at_call 10; refine (P4.out _ H5.out.below).mono ?_; rintro e4 w6 ⟨rfl, hb⟩; have H6 := chide (H5.out.on hb); clear hb P4 H5)
    | fail)
  go_cut [56] from 42 to 56 (fun v wc => v = .bool false ∧ wc = w6)
  case first =>
    by_cases hn : 0 ≤ n ∧ n ≤ 29
    · obtain ⟨rfl, rfl⟩ := HN.out hn
      obtain ⟨n0, n1⟩ := hn
      have n2 : (i != i) = false := by simp
      go_wp2_with fail
      go_meet
      exact ⟨rfl, rfl⟩
    · rcases (show ¬ 0 ≤ n ∨ (0 ≤ n ∧ ¬ n ≤ 29) by omega) with n0 | ⟨n0, n1⟩
      all_goals
        clear hn
        go_wp2_with fail
        go_meet
        exact ⟨rfl, rfl⟩
  case rest =>
    obtain ⟨rfl, rfl⟩ := hcut
    clear HN
    go_upto_region 10 with (first
      | (go_at_call 8; refine (P5.out _ H6.out.below).mono ?_; rintro e5 w7 ⟨rfl, hb⟩; have H7 := chide (H6.out.on hb); clear hb P5 H6)
      | fail)
    have H8 : Hid (Bl w (w7.alloc (.cells #[.int .i64 0, .int .i64 0, .int .i64 0, .int .i64 0, .int .i64 0, .int .i64 0] 24)) c ∧ RowC (w7.alloc (.cells #[.int .i64 0, .int .i64 0, .int .i64 0, .int .i64 0, .int .i64 0, .int .i64 0] 24)) w7.heap.size cl0) := ⟨H7.out.on (bal (Below.refl _ _) _), rowC_new _ cl0⟩
    generalize w7.alloc _ = w8 at H8 ⊢
    generalize w7.heap.size = D at H8 ⊢
    clear H7
    have p0 : w8.cell? ⟨D, 0, none⟩ = some (.int .i64 0) := H8.out.2.c0
    have p1 : w8.cell? ⟨D, 1, none⟩ = some (.int .i64 0) := H8.out.2.c1
    have p2 : w8.cell? ⟨D, 2, none⟩ = some (.int .i64 0) := H8.out.2.c2
    have p3 : w8.cell? ⟨D, 3, none⟩ = some (.int .i64 0) := H8.out.2.c3
    have p4 : w8.cell? ⟨D, 4, none⟩ = some (.int .i64 0) := H8.out.2.c4
    have p5 : w8.cell? ⟨D, 5, none⟩ = some (.int .i64 0) := H8.out.2.c5
    have q0 := H8.out.1.box.c0; have q1 := H8.out.1.box.c1; have q2 := H8.out.1.box.c2; have q3 := H8.out.1.box.c3; have q4 := H8.out.1.box.c4; have q5 := H8.out.1.box.c5
    go_wp2_with (first
      | (go_at_call 12; refine (P7.out _ H8.out.1.below).mono ?_; rintro e7 wa ⟨rfl, hb⟩; have Ha : Hid (Below w.heap.size w wa) := H8.out.1.below.trans (hb.mono H8.out.1.below.size); clear hb P7 H8)
      | (go_at_call 18; refine (P8.out _ Ha.out).mono ?_; rintro e8 wb ⟨rfl, hb⟩; have Hb : Hid (Below w.heap.size w wb) := Ha.out.trans (hb.mono Ha.out.size); clear hb P8 Ha)
      | fail)
    go_ret
    exact ⟨rfl, Hb.out⟩
theorem back_walk (c : Cl) (z n : Int) (hc : Fc c) (hz : 0 ≤ z ∧ z ≤ 18446744073709551615) (w : World) (HP : Pc w) :
    Calls Tryd.prog 4 #[.agg #[.int .i64 c.n, .int .i64 c.a, .int .i64 c.b, .int .i64 c.c, .int .i64 c.d, .int .i64 c.e], .int .u64 z, .int .i64 n] w fun e w' => e = .returned (.bool true) ∧ Below w.heap.size w w' := by
  rcases rc_kc c with ⟨hr, _⟩ | ⟨hr, _⟩
  · rcases ge_or z with hg | hg
    · exact back_yes_yes c z n hc hz w HP hr hg
    · exact back_yes_no c z n hc hz w HP hr hg
  · rcases ge_or z with hg | hg
    · exact back_no_yes c z n hc hz w HP hr hg
    · exact back_no_no c z n hc hz w HP hr hg
end Go.Proofs.YtjibbppjdojbpaaDoor.Pcall
