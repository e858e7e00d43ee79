/- For every capability (whatever numbers) and every two words: the words of one that Put takes are read by Get as just it; two words that Get takes are just those that Put makes of what was read, which is right; where Get takes none it answers the capability of zeros, and Put takes just what Check does. Conditions: none but that package cap's two tables start as the program's text lays them (tied). -/
import Derived.Test.YtdednjeofolleaaDoorRows
import Derived.Test.YtdednjeofolleaaDoorTie
import Derived.Test.YtdednjeofolleaaDoorCards
import Derived.Test.YtdednjeofolleaaDoorCapB
import Derived.Test.YtdednjeofolleaaDoorCapI
import Derived.WalkKit
import Derived.ProofKit
import Derived.OpenShut
import Derived.ShutString
import Derived.ChangeOld
import Derived.Below
import Derived.LaidMore
import Derived.Stop.Joined
import Derived.SevenTiedAt
namespace Go.Proofs.YtdednjeofolleaaDoor.capBack
open Go.ChangeShapes Go.WideShapes Go.ChangeAt Go.RowKit
set_option linter.unusedVariables false

theorem own : ownKnob Tryd.prog.godebug = none := by kernel_rfl
theorem laidOut : laidOutB Tryd.prog = true := by kernel_rfl



theorem walk (a0k a0r a0t a0l a0e a0c : Int) (a1 : Int) (a2 : Int) (w : World) (w1 : (Lit.int .u64 a1).wf = true) (w2 : (Lit.int .u64 a2).wf = true) (hT : TabM w) (hW : TabW w) :
    Calls Tryd.prog 4 #[.agg #[.int .i64 a0k, .int .i64 a0r, .int .i64 a0t, .int .i64 a0l, .int .i64 a0e, .int .i64 a0c], .int .u64 a1, .int .u64 a2] w fun e w' => e = .returned (.bool true) ∧ Below w.heap.size w w' := by
  have b1 := bounds_u64 w1
  have b2 := bounds_u64 w2
  have HI : Hid (∀ ty, One w (w.alloc (.cells #[.int .i64 a0k, .int .i64 a0r, .int .i64 a0t, .int .i64 a0l, .int .i64 a0e, .int .i64 a0c] ty)) a0k a0r a0t a0l a0e a0c) := fun ty => one_new w hT hW _ _ _ _ _ _ ty
  have HC : Hid (∀ wc, One w wc a0k a0r a0t a0l a0e a0c → Calls Tryd.prog 12 #[.agg #[.int .i64 a0k, .int .i64 a0r, .int .i64 a0t, .int .i64 a0l, .int .i64 a0e, .int .i64 a0c]] wc fun x w' => x = .returned (.int .i64 (chk a0k a0r a0t a0l a0e a0c)) ∧ Below wc.heap.size wc w') := fun wc h => check_any _ _ _ _ _ _ wc h.tab
  clear hT hW w1 w2
  by_cases hr : Rt a0k a0r a0t a0l a0e a0c
  case pos =>
    obtain ⟨hzb, _, qe, q0, q1, q2, q3, q4, q5⟩ := back_get hr
    have hz := putW_yes hr
    have hy := putA_yes hr
    have hc := chk_yes hr
    generalize packF ws [a0k, a0r, a0t, a0l, a0e] = z at hzb qe q0 q1 q2 q3 q4 q5 hz
    have HP : Hid (∀ wc, One w wc a0k a0r a0t a0l a0e a0c → Calls Tryd.prog 6 #[.agg #[.int .i64 a0k, .int .i64 a0r, .int .i64 a0t, .int .i64 a0l, .int .i64 a0e, .int .i64 a0c]] wc fun x w' => x = .returned (.tuple #[.int .u64 z, .int .u64 a0c, .int .i64 0]) ∧ Below wc.heap.size wc w') := fun wc h => (by
      have hh := put_any a0k a0r a0t a0l a0e a0c wc h.tab h.tabw
      rwa [hz, hy, hc] at hh)
    have HG : Hid (∀ wc, One w wc a0k a0r a0t a0l a0e a0c → Calls Tryd.prog 8 #[.int .u64 z, .int .u64 a0c] wc fun x w' => x = .returned (.tuple #[.agg #[.int .i64 a0k, .int .i64 a0r, .int .i64 a0t, .int .i64 a0l, .int .i64 a0e, .int .i64 a0c], .int .i64 0]) ∧ Below wc.heap.size wc w') := fun wc h => (by
      have hh := get_any z a0c wc hzb (by unfold Rt at hr; omega) h.tab h.tabw
      rwa [q0, q1, q2, q3, q4, q5, qe] at hh)
    clear hz hy qe q0 q1 q2 q3 q4 q5 hzb hr
    by_cases hg : Got a1 a2
    case pos =>
      obtain ⟨_, k1, k2, k3⟩ := back_put b1 hg
      obtain ⟨m0, m1, m2, m3, m4, m5⟩ := getC_yes hg
      have me := getE_yes hg
      have HF : Hid (∀ wc, One w wc a0k a0r a0t a0l a0e a0c → Calls Tryd.prog 8 #[.int .u64 a1, .int .u64 a2] wc fun x w' => x = .returned (.tuple #[.agg #[.int .i64 (gN a1 0), .int .i64 (gN a1 1), .int .i64 (gN a1 2), .int .i64 (gN a1 3), .int .i64 (gN a1 4), .int .i64 a2], .int .i64 0]) ∧ Below wc.heap.size wc w') := fun wc h => (by
        have hh := get_any a1 a2 wc b1 b2 h.tab h.tabw
        rwa [m0, m1, m2, m3, m4, m5, me] at hh)
      have HQ : Hid (∀ wc, One w wc a0k a0r a0t a0l a0e a0c → Calls Tryd.prog 6 #[.agg #[.int .i64 (gN a1 0), .int .i64 (gN a1 1), .int .i64 (gN a1 2), .int .i64 (gN a1 3), .int .i64 (gN a1 4), .int .i64 a2]] wc fun x w' => x = .returned (.tuple #[.int .u64 a1, .int .u64 a2, .int .i64 0]) ∧ Below wc.heap.size wc w') := fun wc h => (by
        have hh := put_any (gN a1 0) (gN a1 1) (gN a1 2) (gN a1 3) (gN a1 4) a2 wc h.tab h.tabw
        rwa [k1, k2, k3] at hh)
      have HD : Hid (∀ wc, One w wc a0k a0r a0t a0l a0e a0c → Calls Tryd.prog 12 #[.agg #[.int .i64 (gN a1 0), .int .i64 (gN a1 1), .int .i64 (gN a1 2), .int .i64 (gN a1 3), .int .i64 (gN a1 4), .int .i64 a2]] wc fun x w' => x = .returned (.int .i64 0) ∧ Below wc.heap.size wc w') := fun wc h => (by
        have hh := check_any (gN a1 0) (gN a1 1) (gN a1 2) (gN a1 3) (gN a1 4) a2 wc h.tab
        rwa [k3] at hh)
      clear m0 m1 m2 m3 m4 m5 me k1 k2 k3 hg b1 b2 HC hc
      go_enter Tryd.func4, Tryd.ntmps4
      go_wp2_with (first
        | (go_at_call 6; refine (HP.out _ (HI.out _)).mono ?_; rintro e1 v1 ⟨rfl, hb⟩; have H1 : Hid (One w v1 a0k a0r a0t a0l a0e a0c) := (HI.out _).on hb; clear hb HI HP; have x0 := H1.out.p.c0; have x1 := H1.out.p.c1; have x2 := H1.out.p.c2; have x3 := H1.out.p.c3; have x4 := H1.out.p.c4; have x5 := H1.out.p.c5; have xl := H1.out.p.lt)
        | (go_at_call 8; refine (HG.out _ H1.out).mono ?_; rintro e2 v2 ⟨rfl, hb⟩; have H2 : Hid (One w v2 a0k a0r a0t a0l a0e a0c) := H1.out.on hb; clear hb HG H1 xl x0 x1 x2 x3 x4 x5; have x0 := H2.out.p.c0; have x1 := H2.out.p.c1; have x2 := H2.out.p.c2; have x3 := H2.out.p.c3; have x4 := H2.out.p.c4; have x5 := H2.out.p.c5; have xl := H2.out.p.lt)
        | (go_at_call 8; refine (HF.out _ (H2.out.on (bal (Below.refl _ _) _))).mono ?_; rintro e3 v3 ⟨rfl, hb⟩; have H3 : Hid (One w v3 a0k a0r a0t a0l a0e a0c) := H2.out.on ((bal (Below.refl _ _) _).trans (hb.mono (by simp))); clear hb HF H2 xl x0 x1 x2 x3 x4 x5; have x0 := H3.out.p.c0; have x1 := H3.out.p.c1; have x2 := H3.out.p.c2; have x3 := H3.out.p.c3; have x4 := H3.out.p.c4; have x5 := H3.out.p.c5; have xl := H3.out.p.lt)
        | (go_at_call 6; refine (HQ.out _ (H3.out.on (bal (Below.refl _ _) _))).mono ?_; rintro e4 v4 ⟨rfl, hb⟩; have H4 : Hid (One w v4 a0k a0r a0t a0l a0e a0c) := H3.out.on ((bal (Below.refl _ _) _).trans (hb.mono (by simp))); have HB : Hid (Box6 v4 v3.heap.size (gN a1 0) (gN a1 1) (gN a1 2) (gN a1 3) (gN a1 4) a2) := (box6_new v3 (gN a1 0) (gN a1 1) (gN a1 2) (gN a1 3) (gN a1 4) a2 23).on hb; clear hb HQ H3 xl x0 x1 x2 x3 x4 x5; have y0 := HB.out.c0; have y1 := HB.out.c1; have y2 := HB.out.c2; have y3 := HB.out.c3; have y4 := HB.out.c4; have y5 := HB.out.c5)
        | (go_at_call 12; refine (HD.out _ H4.out).mono ?_; rintro e5 v5 ⟨rfl, hb⟩; have H5 : Hid (One w v5 a0k a0r a0t a0l a0e a0c) := H4.out.on hb; clear hb HD H4)
        | (go_at_call 20; refine (awake_any _).mono ?_; rintro e6 v6 ⟨rfl, hb⟩; have H6 : Hid (Below w.heap.size w v6) := H5.out.below.trans (hb.mono H5.out.below.size); clear hb)
        | fail)
      go_ret
      exact ⟨rfl, H6.out⟩
    case neg =>
      have HF : Hid (∀ wc, One w wc a0k a0r a0t a0l a0e a0c → Calls Tryd.prog 8 #[.int .u64 a1, .int .u64 a2] wc fun x w' => x = .returned (.tuple #[.agg #[.int .i64 0, .int .i64 0, .int .i64 0, .int .i64 0, .int .i64 0, .int .i64 0], .int .i64 12]) ∧ Below wc.heap.size wc w') := fun wc h => (by
        have hh := get_any a1 a2 wc b1 b2 h.tab h.tabw
        simp only [getC_no hg, getE_no hg] at hh; exact hh)
      clear hg b1 b2
      go_enter Tryd.func4, Tryd.ntmps4
      go_wp2_with (first
        | (go_at_call 6; refine (HP.out _ (HI.out _)).mono ?_; rintro e1 v1 ⟨rfl, hb⟩; have H1 : Hid (One w v1 a0k a0r a0t a0l a0e a0c) := (HI.out _).on hb; clear hb HI HP; have x0 := H1.out.p.c0; have x1 := H1.out.p.c1; have x2 := H1.out.p.c2; have x3 := H1.out.p.c3; have x4 := H1.out.p.c4; have x5 := H1.out.p.c5; have xl := H1.out.p.lt)
        | (go_at_call 8; refine (HG.out _ H1.out).mono ?_; rintro e2 v2 ⟨rfl, hb⟩; have H2 : Hid (One w v2 a0k a0r a0t a0l a0e a0c) := H1.out.on hb; clear hb HG H1 xl x0 x1 x2 x3 x4 x5; have x0 := H2.out.p.c0; have x1 := H2.out.p.c1; have x2 := H2.out.p.c2; have x3 := H2.out.p.c3; have x4 := H2.out.p.c4; have x5 := H2.out.p.c5; have xl := H2.out.p.lt)
        | (go_at_call 8; refine (HF.out _ (H2.out.on (bal (Below.refl _ _) _))).mono ?_; rintro e3 v3 ⟨rfl, hb⟩; have H3 : Hid (One w v3 a0k a0r a0t a0l a0e a0c) := H2.out.on ((bal (Below.refl _ _) _).trans (hb.mono (by simp))); clear hb HF H2 xl x0 x1 x2 x3 x4 x5; have x0 := H3.out.p.c0; have x1 := H3.out.p.c1; have x2 := H3.out.p.c2; have x3 := H3.out.p.c3; have x4 := H3.out.p.c4; have x5 := H3.out.p.c5; have xl := H3.out.p.lt)
        | (go_at_call 12; refine (HC.out _ (H3.out.on (bal (Below.refl _ _) _))).mono ?_; rintro e5 v5 ⟨rfl, hb⟩; rw [hc]; have H5 : Hid (One w v5 a0k a0r a0t a0l a0e a0c) := H3.out.on ((bal (Below.refl _ _) _).trans (hb.mono (by simp))); clear hb H3)
        | (go_at_call 20; refine (awake_any _).mono ?_; rintro e6 v6 ⟨rfl, hb⟩; have H6 : Hid (Below w.heap.size w v6) := H5.out.below.trans (hb.mono H5.out.below.size); clear hb)
        | fail)
      go_ret
      exact ⟨rfl, H6.out⟩
  case neg =>
    have hz := putW_no hr
    have hy := putA_no hr
    have hc := chk_no hr
    have HP : Hid (∀ wc, One w wc a0k a0r a0t a0l a0e a0c → Calls Tryd.prog 6 #[.agg #[.int .i64 a0k, .int .i64 a0r, .int .i64 a0t, .int .i64 a0l, .int .i64 a0e, .int .i64 a0c]] wc fun x w' => x = .returned (.tuple #[.int .u64 0, .int .u64 0, .int .i64 1]) ∧ Below wc.heap.size wc w') := fun wc h => (by
      have hh := put_any a0k a0r a0t a0l a0e a0c wc h.tab h.tabw
      rwa [hz, hy, hc] at hh)
    clear hz hy hr
    by_cases hg : Got a1 a2
    case pos =>
      obtain ⟨_, k1, k2, k3⟩ := back_put b1 hg
      obtain ⟨m0, m1, m2, m3, m4, m5⟩ := getC_yes hg
      have me := getE_yes hg
      have HF : Hid (∀ wc, One w wc a0k a0r a0t a0l a0e a0c → Calls Tryd.prog 8 #[.int .u64 a1, .int .u64 a2] wc fun x w' => x = .returned (.tuple #[.agg #[.int .i64 (gN a1 0), .int .i64 (gN a1 1), .int .i64 (gN a1 2), .int .i64 (gN a1 3), .int .i64 (gN a1 4), .int .i64 a2], .int .i64 0]) ∧ Below wc.heap.size wc w') := fun wc h => (by
        have hh := get_any a1 a2 wc b1 b2 h.tab h.tabw
        rwa [m0, m1, m2, m3, m4, m5, me] at hh)
      have HQ : Hid (∀ wc, One w wc a0k a0r a0t a0l a0e a0c → Calls Tryd.prog 6 #[.agg #[.int .i64 (gN a1 0), .int .i64 (gN a1 1), .int .i64 (gN a1 2), .int .i64 (gN a1 3), .int .i64 (gN a1 4), .int .i64 a2]] wc fun x w' => x = .returned (.tuple #[.int .u64 a1, .int .u64 a2, .int .i64 0]) ∧ Below wc.heap.size wc w') := fun wc h => (by
        have hh := put_any (gN a1 0) (gN a1 1) (gN a1 2) (gN a1 3) (gN a1 4) a2 wc h.tab h.tabw
        rwa [k1, k2, k3] at hh)
      have HD : Hid (∀ wc, One w wc a0k a0r a0t a0l a0e a0c → Calls Tryd.prog 12 #[.agg #[.int .i64 (gN a1 0), .int .i64 (gN a1 1), .int .i64 (gN a1 2), .int .i64 (gN a1 3), .int .i64 (gN a1 4), .int .i64 a2]] wc fun x w' => x = .returned (.int .i64 0) ∧ Below wc.heap.size wc w') := fun wc h => (by
        have hh := check_any (gN a1 0) (gN a1 1) (gN a1 2) (gN a1 3) (gN a1 4) a2 wc h.tab
        rwa [k3] at hh)
      clear m0 m1 m2 m3 m4 m5 me k1 k2 k3 hg b1 b2 HC hc
      go_enter Tryd.func4, Tryd.ntmps4
      go_wp2_with (first
        | (go_at_call 6; refine (HP.out _ (HI.out _)).mono ?_; rintro e1 v1 ⟨rfl, hb⟩; have H1 : Hid (One w v1 a0k a0r a0t a0l a0e a0c) := (HI.out _).on hb; clear hb HI HP; have x0 := H1.out.p.c0; have x1 := H1.out.p.c1; have x2 := H1.out.p.c2; have x3 := H1.out.p.c3; have x4 := H1.out.p.c4; have x5 := H1.out.p.c5; have xl := H1.out.p.lt)
        | (go_at_call 8; refine (HF.out _ H1.out).mono ?_; rintro e3 v3 ⟨rfl, hb⟩; have H3 : Hid (One w v3 a0k a0r a0t a0l a0e a0c) := H1.out.on hb; clear hb HF H1 xl x0 x1 x2 x3 x4 x5; have x0 := H3.out.p.c0; have x1 := H3.out.p.c1; have x2 := H3.out.p.c2; have x3 := H3.out.p.c3; have x4 := H3.out.p.c4; have x5 := H3.out.p.c5; have xl := H3.out.p.lt)
        | (go_at_call 6; refine (HQ.out _ (H3.out.on (bal (Below.refl _ _) _))).mono ?_; rintro e4 v4 ⟨rfl, hb⟩; have H4 : Hid (One w v4 a0k a0r a0t a0l a0e a0c) := H3.out.on ((bal (Below.refl _ _) _).trans (hb.mono (by simp))); have HB : Hid (Box6 v4 v3.heap.size (gN a1 0) (gN a1 1) (gN a1 2) (gN a1 3) (gN a1 4) a2) := (box6_new v3 (gN a1 0) (gN a1 1) (gN a1 2) (gN a1 3) (gN a1 4) a2 23).on hb; clear hb HQ H3 xl x0 x1 x2 x3 x4 x5; have y0 := HB.out.c0; have y1 := HB.out.c1; have y2 := HB.out.c2; have y3 := HB.out.c3; have y4 := HB.out.c4; have y5 := HB.out.c5)
        | (go_at_call 12; refine (HD.out _ H4.out).mono ?_; rintro e5 v5 ⟨rfl, hb⟩; have H5 : Hid (One w v5 a0k a0r a0t a0l a0e a0c) := H4.out.on hb; clear hb HD H4)
        | (go_at_call 20; refine (awake_any _).mono ?_; rintro e6 v6 ⟨rfl, hb⟩; have H6 : Hid (Below w.heap.size w v6) := H5.out.below.trans (hb.mono H5.out.below.size); clear hb)
        | fail)
      go_ret
      exact ⟨rfl, H6.out⟩
    case neg =>
      have HF : Hid (∀ wc, One w wc a0k a0r a0t a0l a0e a0c → Calls Tryd.prog 8 #[.int .u64 a1, .int .u64 a2] wc fun x w' => x = .returned (.tuple #[.agg #[.int .i64 0, .int .i64 0, .int .i64 0, .int .i64 0, .int .i64 0, .int .i64 0], .int .i64 12]) ∧ Below wc.heap.size wc w') := fun wc h => (by
        have hh := get_any a1 a2 wc b1 b2 h.tab h.tabw
        simp only [getC_no hg, getE_no hg] at hh; exact hh)
      clear hg b1 b2
      go_enter Tryd.func4, Tryd.ntmps4
      go_wp2_with (first
        | (go_at_call 6; refine (HP.out _ (HI.out _)).mono ?_; rintro e1 v1 ⟨rfl, hb⟩; have H1 : Hid (One w v1 a0k a0r a0t a0l a0e a0c) := (HI.out _).on hb; clear hb HI HP; have x0 := H1.out.p.c0; have x1 := H1.out.p.c1; have x2 := H1.out.p.c2; have x3 := H1.out.p.c3; have x4 := H1.out.p.c4; have x5 := H1.out.p.c5; have xl := H1.out.p.lt)
        | (go_at_call 8; refine (HF.out _ H1.out).mono ?_; rintro e3 v3 ⟨rfl, hb⟩; have H3 : Hid (One w v3 a0k a0r a0t a0l a0e a0c) := H1.out.on hb; clear hb HF H1 xl x0 x1 x2 x3 x4 x5; have x0 := H3.out.p.c0; have x1 := H3.out.p.c1; have x2 := H3.out.p.c2; have x3 := H3.out.p.c3; have x4 := H3.out.p.c4; have x5 := H3.out.p.c5; have xl := H3.out.p.lt)
        | (go_at_call 12; refine (HC.out _ (H3.out.on (bal (Below.refl _ _) _))).mono ?_; rintro e5 v5 ⟨rfl, hb⟩; rw [hc]; have H5 : Hid (One w v5 a0k a0r a0t a0l a0e a0c) := H3.out.on ((bal (Below.refl _ _) _).trans (hb.mono (by simp))); clear hb H3)
        | (go_at_call 20; refine (awake_any _).mono ?_; rintro e6 v6 ⟨rfl, hb⟩; have H6 : Hid (Below w.heap.size w v6) := H5.out.below.trans (hb.mono H5.out.below.size); clear hb)
        | fail)
      go_ret
      exact ⟨rfl, H6.out⟩

/-! ### The statement's frame -/
/-- The heap that the program's own initialisers leave meets the condition. -/
theorem door_met (os : Os) (args : Array Value) : laidMetH Tryd.prog Rows.capBackRow.laid ((World.doorLaid Tryd.prog 400 os).forCall (fun _ _ => 0) ⟨#[], args, []⟩).memory :=
  laidMetH_of_parts3 (fuel := 8) (laidMet_of_run' 8 (by kernel_rfl) (by kernel_rfl)) (by kernel_rfl) (by kernel_rfl)
set_option maxRecDepth 100000 in
theorem lifted (os : Os) (started : os.Started) (H : Type) (enc : TypeId × Value → H) :
    ReturnsInHanded {} Tryd.checked os 4 .any (fun w args => (Rows.capBackSpec.pre enc Tryd.prog Tryd.f4 [] false w args ∧ laidMetH Tryd.prog Rows.capBackRow.laid w) ∧ sizedMet enc Tryd.prog Tryd.f4 (OpenSpec.ofChange Rows.capBackSpec) false w args) (Rows.capBackSpec.post enc Tryd.prog Tryd.f4 false true false false) := by
  refine returnsInHanded_of_change_and (C := Tryd.checked) (X := fun w _ => laidMetH Tryd.prog Rows.capBackRow.laid w) (fun _ _ _ hh h => h.of_heap hh) own started (by kernel_rfl) Tryd.func4
    (ChangeSpec.witness_shaped (enc := enc) (C := Tryd.checked) (os := os) (X := fun w _ => laidMetH Tryd.prog Rows.capBackRow.laid w) false (World.doorLaid Tryd.prog 400 os) #[.agg #[.int .i64 0, .int .i64 0, .int .i64 0, .int .i64 0, .int .i64 0, .int .i64 0], .int .u64 0, .int .u64 0] 8 rfl (World.shaped_of_RefB (by kernel_rfl) (by kernel_rfl)) (by kernel_rfl) (by kernel_rfl) (by kernel_rfl) (door_met os _)) ?_
  intro W base args ds gs before hval0 hW _ _ hL _
  have hval : ∀ (j : Nat) t v, Tryd.f4.params[j]? = some t → args[j]? = some v → Value.okWide Tryd.prog W .any base t v := hval0
  have hW' := hW
  obtain ⟨p, q, hA0, hV, rfl, hfz, hnd⟩ := hW
  have hA : DataW.TrodAll enc Tryd.prog W 0 (fun _ => true) true Tryd.f4.params.toList args.toList ds p := hA0
  rw [Tryd.params4] at hA hval
  obtain ⟨v0, vs0, d0, ds0, p0, q0, hargs, rfl, rfl, h0, r0⟩ := trodAll_cons hA
  obtain ⟨v1, vs1, d1, ds1, p1, q1, rfl, rfl, rfl, h1, r1⟩ := trodAll_cons r0
  obtain ⟨v2, vs2, d2, ds2, p2, q2, rfl, rfl, rfl, h2, r2⟩ := trodAll_cons r1
  obtain ⟨rfl, rfl, rfl⟩ := trodAll_nil r2
  obtain rfl : args = #[v0, v1, v2] := by cases args; simp_all
  obtain ⟨rfl, rfl⟩ := trodVars_none hV
  have k0 := h0
  have lt0 : ∀ x ∈ p0, x.block < W.heap.size := by obtain ⟨m, hm⟩ := k0; exact DataW.trod_lt m _ _ _ hm
  obtain ⟨a0k, a0r, a0t, a0l, a0e, a0c, rfl⟩ := cap_val (hval 0 23 v0 rfl rfl) h0
  obtain ⟨a1, rfl, rfl, rfl, w1⟩ := open_int Tryd.underlying24 (hval 1 24 v1 rfl rfl) h1
  obtain ⟨a2, rfl, rfl, rfl, w2⟩ := open_int Tryd.underlying24 (hval 2 24 v2 rfl rfl) h2
  clear hA0 hval0
  refine (walk a0k a0r a0t a0l a0e a0c a1 a2 W w1 w2 (of_laid hL).1 (of_laid hL).2).mono fun e W' ⟨he, bel⟩ => ?_
  subst he
  exact ⟨_, rfl, _, _, _, [], _, [], hW', trodAll_mk1 (shut_bool Tryd.underlying4 _), (trodAll_cons_mk (Below.trod laidOut (by kernel_rfl) (of_decide_eq_true (by kernel_rfl)) k0 bel lt0) (trodAll_cons_mk (shut_int Tryd.underlying24 w1) (trodAll_cons_mk (shut_int Tryd.underlying24 w2) trodAll_mk0))), rfl, bel.frame _, fun h => by cases h⟩

theorem over : Rows.capBackRow.holds Tryd.pinned (OpenSpec.ofChange Rows.capBackSpec) :=
  OpenClaim.holds_of_wide 4 Tryd.f4 rfl rfl rfl rfl rfl rfl rfl ⟨rfl, rfl, rfl, rfl, rfl⟩ rfl rfl rfl rfl rfl (by kernel_rfl) Tryd.func4 (by kernel_rfl)
    (of_decide_eq_true (by kernel_rfl)) (by unfold Func.isWrapper; first | (rw [if_pos (by decide +kernel)]; kernel_rfl) | (rw [if_neg (by decide +kernel)]; exact ⟨rfl, rfl⟩))
    (fun os started H enc _ => lifted os started H enc)

theorem proved : Rows.CapBackCardSaid :=
  Claim7.holds_tied_plain_at .later [] [.data, .data] true (true, "d5f88be2eaf5d1560f58489bfb54e48e94ffe99f7f0f18d7c6c9b7a1f5d33d37") false
    over (fun _ h => by cases h) (by kernel_rfl) (fun _ h => by cases h) capBack_row_tie rfl ⟨rfl, rfl⟩ (by kernel_rfl) rfl
    (fun g fn hf hfn => by
      obtain rfl : g = 4 := Option.some.inj ((show Tryd.prog.funcNamed Rows.capBackRow.func = some 4 by kernel_rfl).symm.trans hf) |>.symm
      obtain rfl : fn = Tryd.f4 := (Option.some.inj (Tryd.func4.symm.trans hfn)).symm
      exact ⟨by kernel_rfl, fun j t ht => by
        rw [Tryd.params4] at ht
        have hm : t ∈ [23, 24, 24] := by simpa using Array.mem_of_getElem? ht
        have hall : ([23, 24, 24].all fun u => !Tryd.prog.wantsStandIn u) = true := by kernel_rfl
        exact (show Tryd.prog.wantsStandIn t = false by simpa using List.all_eq_true.1 hall t hm)⟩)
    (by kernel_rfl)
end Go.Proofs.YtdednjeofolleaaDoor.capBack
namespace Go.Proofs.YtdednjeofolleaaDoor
theorem capBack_holds : Rows.CapBackCardSaid := capBack.proved
#print axioms capBack_holds
end Go.Proofs.YtdednjeofolleaaDoor
