/- The walk of RingOrder. -/
import Derived.Test.YtdplailaolfpkaaDoorRngD
import Derived.Test.YtdplailaolfpkaaDoorRngH
import Derived.Test.YtdplailaolfpkaaDoorRngI
import Derived.Test.YtdplailaolfpkaaDoorRngO
import Derived.Test.YtdplailaolfpkaaDoorRngQ
import Derived.BigRegion
import Derived.BigQuiet
import Derived.Deep.CutBlock
namespace Go.Proofs.YtdplailaolfpkaaDoor.Pring
open Go.Proofs.YtdplailaolfpkaaDoor.Pbase Go.Proofs.YtdplailaolfpkaaDoor.Pfield Go.Proofs.YtdplailaolfpkaaDoor.Play Go.Proofs.YtdplailaolfpkaaDoor.Pmem
open Go.RowKit M
set_option linter.unusedVariables false

/-- A memory of one frame whose ring is told by the list L. -/
structure Rq (w W : World) (L : List Ev) : Prop where
  ex : ∃ M, MemIs W (w.heap.size + 1) w.heap.size 1 M ∧ Rg 1 M 0 L
  below : Below w.heap.size w W
section
variable {w W W' : World} {L : List Ev}
theorem Rq.on (h : Rq w W L) (hB : Below W.heap.size W W') : Rq w W' L := by
  obtain ⟨M, h1, h2⟩ := h.ex
  exact ⟨⟨M, h1.grown hB, h2⟩, h.below.trans (hB.mono h.below.size)⟩
theorem Rq.under (h : Rq w W L) (hB : Below (w.heap.size + 2) W W') : Rq w W' L := by
  obtain ⟨M, h1, h2⟩ := h.ex
  exact ⟨⟨M, h1.below hB (by omega) (by omega), h2⟩, h.below.trans (hB.mono (by omega))⟩
theorem Rq.two (h : Rq w W L) : w.heap.size + 2 ≤ W.heap.size := by
  obtain ⟨M, h1, h2⟩ := h.ex
  exact h1.lt.1
theorem Rq.le (h : Rq w W L) : L.length ≤ 8 := by
  obtain ⟨M, h1, h2⟩ := h.ex
  have := (pl_yes h2.fit h2.pl).2.2.2
  rw [h2.cn] at this
  omega
end
theorem make_rq (w : World) (hT : Ts w) : Calls Tryd.prog 15 #[.pointer (some ⟨w.heap.size + 1, 0, none⟩), .int .i64 0, .agg #[.int .i64 6, .int .i64 0, .bool false, .int .i64 0]] (newW w 1) fun e w' => e = .returned (.int .i64 0) ∧ Rq w w' [] := by
  have hb := newW_below w 1
  have h := Phead.hmake_any (w.heap.size + 1) w.heap.size 1 0 6 0 false 0 _ (newW w 1) (by omega) (by omega) (newW_is w 1) (hT.hd.on hb)
  rw [show Phead.errP 1 0 6 0 false 0 = 0 by rw [made_err (by omega)]; rfl] at h
  exact h.mono fun e w' ⟨q1, q2, q3⟩ => ⟨q1, ⟨_, q2, rg_made (N := 1) (f := 0) (by omega) Fit.zero⟩, hb.trans (q3.below (Nat.le_refl _) hb.size)⟩
section
variable {w wc : World} {L : List Ev}
theorem put_yes {x : Ev} (hT : Ts w) (h : Rq w wc L) (hx : Eo x) (hl : L.length < 8) : Calls Tryd.prog 11 #[.pointer (some ⟨w.heap.size + 1, 0, none⟩), .int .i64 0, .agg #[.int .i64 x.k, .int .i64 x.t]] wc fun e w' => e = .returned (.int .i64 0) ∧ Rq w w' (L ++ [x]) ∧ But w.heap.size wc w' := by
  obtain ⟨M, ho, hs⟩ := h.ex
  have hp := put_any (w.heap.size + 1) w.heap.size 1 0 x M wc (mx_of hT h.below ho hs.fit (by omega) (by omega))
  obtain ⟨e1, e2⟩ := rg_put hs hx hl
  rw [e1] at hp
  exact hp.mono fun e w' ⟨q1, q2, q3⟩ => ⟨q1, ⟨⟨_, q2.mem, e2⟩, h.below.trans (q3.below (Nat.le_refl _) h.below.size)⟩, q3⟩
theorem put_no {x : Ev} (hT : Ts w) (h : Rq w wc L) (hx : ¬ (Eo x ∧ L.length < 8)) : Calls Tryd.prog 11 #[.pointer (some ⟨w.heap.size + 1, 0, none⟩), .int .i64 0, .agg #[.int .i64 x.k, .int .i64 x.t]] wc fun e w' => ∃ E, E ≠ 0 ∧ e = .returned (.int .i64 E) ∧ Rq w w' L ∧ But w.heap.size wc w' := by
  obtain ⟨M, ho, hs⟩ := h.ex
  have hp := put_any (w.heap.size + 1) w.heap.size 1 0 x M wc (mx_of hT h.below ho hs.fit (by omega) (by omega))
  obtain ⟨e1, e2⟩ := rg_bad hs hx
  rw [e2] at hp
  exact hp.mono fun e w' ⟨q1, q2, q3⟩ => ⟨_, e1, q1, ⟨⟨_, q2.mem, hs⟩, h.below.trans (q3.below (Nat.le_refl _) h.below.size)⟩, q3⟩
theorem take_yes {x : Ev} (hT : Ts w) (h : Rq w wc (x :: L)) : Calls Tryd.prog 13 #[.pointer (some ⟨w.heap.size + 1, 0, none⟩), .int .i64 0] wc fun e w' => e = .returned (.tuple #[.agg #[.int .i64 x.k, .int .i64 x.t], .int .i64 0]) ∧ Rq w w' L ∧ But w.heap.size wc w' := by
  obtain ⟨M, ho, hs⟩ := h.ex
  have hp := take_any (w.heap.size + 1) w.heap.size 1 0 M wc (mx_of hT h.below ho hs.fit (by omega) (by omega))
  obtain ⟨e1, e2, e3⟩ := rg_take hs
  rw [e1, e2] at hp
  exact hp.mono fun e w' ⟨q1, q2, q3⟩ => ⟨q1, ⟨⟨_, q2.mem, e3⟩, h.below.trans (q3.below (Nat.le_refl _) h.below.size)⟩, q3⟩
theorem take_no (hT : Ts w) (h : Rq w wc []) : Calls Tryd.prog 13 #[.pointer (some ⟨w.heap.size + 1, 0, none⟩), .int .i64 0] wc fun e w' => e = .returned (.tuple #[.agg #[.int .i64 0, .int .i64 0], .int .i64 3]) ∧ Rq w w' [] ∧ But w.heap.size wc w' := by
  obtain ⟨M, ho, hs⟩ := h.ex
  have hp := take_any (w.heap.size + 1) w.heap.size 1 0 M wc (mx_of hT h.below ho hs.fit (by omega) (by omega))
  obtain ⟨e1, e2, e3⟩ := tk_none hs.pl hs.cn
  rw [e1, e2, e3] at hp
  exact hp.mono fun e w' ⟨q1, q2, q3⟩ => ⟨q1, ⟨⟨_, q2.mem, hs⟩, h.below.trans (q3.below (Nat.le_refl _) h.below.size)⟩, q3⟩
theorem all_rq (hT : Ts w) (h : Rq w wc L) : Calls Tryd.prog 17 #[.pointer (some ⟨w.heap.size + 1, 0, none⟩), .int .i64 0] wc fun e w' => ∃ a cap, e = .returned (.tuple #[.slice a L.length cap, .int .i64 0]) ∧ Evs w' 0 (.slice a L.length cap) L ∧ Below wc.heap.size wc w' := by
  obtain ⟨M, ho, hs⟩ := h.ex
  have hp := all_any (w.heap.size + 1) w.heap.size 1 0 M wc (mx_of hT h.below ho hs.fit (by omega) (by omega))
  obtain ⟨e1, e2⟩ := rg_all hs
  rw [e1, e2] at hp
  refine hp.mono ?_
  rintro e w' ⟨v, rfl, r1, r2⟩
  obtain ⟨a, cp, rfl⟩ := r1.slice
  exact ⟨a, cp, rfl, r1.downTo (Nat.zero_le _), r2⟩
end
/-- The ring's list, and the same list in a slice of the statement's own. -/
structure Ow (w W : World) (v : Value) (L S : List Ev) : Prop where
  rq : Rq w W S
  qu : Qu W (w.heap.size + 2) v L
section
variable {w W W' : World} {v : Value} {L S S' : List Ev}
theorem Ow.on (h : Ow w W v L S) (hB : Below W.heap.size W W') : Ow w W' v L S := ⟨h.rq.on hB, h.qu.on hB⟩
theorem Ow.turn (h : Ow w W v L S) (hs : Rq w W' S') (hB : But w.heap.size W W') : Ow w W' v L S' := ⟨hs, h.qu.but hB (by omega)⟩
end
set_option maxRecDepth 100000 in
set_option maxHeartbeats 8000000 in
theorem order_walk (a0 : Option Addr) (len0 cap0 : Nat) (a1 : Option Addr) (len1 cap1 : Nat) (w : World) (D0 : Hid (CameO w.heap.size w a0 len0)) (l0 : len0 ≤ 9223372036854775807) (D1 : Hid (CameE w.heap.size w a1 len1)) (l1 : len1 ≤ 9223372036854775807) (hT : Ts w) :
    Calls Tryd.prog 4 #[.slice a0 len0 cap0, .slice a1 len1 cap1] w fun e w' => e = .returned (.bool true) ∧ Below w.heap.size w w' := by
  obtain ⟨it, hi, hz0, hz1, hz2⟩ := info_parts infoEv
  have HT := rhide hT
  have HM := rhide (make_rq w hT)
  clear hT
  go_enter Tryd.func4, Tryd.ntmps4
  go_upto_block 0 with (first
    | (go_at_call 25; refine (new_ok 1 _ (by omega) (by omega)).mono ?_; rintro r1 w1 ⟨rfl, hw⟩; rw [← hw] at HM; clear hw)
    | (go_at_call 15; refine HM.out.mono ?_; rintro r2 w2 ⟨rfl, hw⟩; have H1 : Hid (Ow w w2 (.slice none 0 0) [] []) := ⟨hw, qu_nil _ _⟩; clear hw HM)
    | fail)
  go_cut [7, 8] from 27 to 110 (fun v7 v8 wc => ∃ L, Ow w wc v7 L L)
  case first =>
    go_wp2
    go_loopw [7, 8] (fun v i wr => ∃ k : Nat, k ≤ len0 ∧ i = .int .i64 k ∧ ∃ L, Ow w wr v L L) (fun _ i _ => len0 - (intOf i).toNat)
    case atStart => exact ⟨0, by omega, rfl, [], H1.out⟩
    case round =>
      obtain ⟨k, hk0, rfl, L, hI⟩ := hrel
      obtain ⟨av, cv, rfl⟩ := hI.qu.slice
      have HI := rhide hI
      have hl8 := hI.rq.le
      clear hI H1
      by_cases hin : k < len0 ∧ k < len1 ∧ k < 100
      · obtain ⟨h1, h2, h3⟩ := hin
        obtain ⟨b0, o0, tk, rfl, G0⟩ := D0.out.at h1
        obtain ⟨b1, o1, c, rfl, hc, G1⟩ := D1.out.at h2
        have i1 : (k : Int) < (len0 : Int) := by omega
        have i2 : (k : Int) < (len1 : Int) := by omega
        have i3 : (k : Int) < 100 := by omega
        have c0 := G0.out wr HI.out.rq.below
        have g0' := G1.out wr HI.out.rq.below
        obtain ⟨g0, g1⟩ := g0'
        clear hc
        cases tk
        case true =>
          clear g0 g1
          cases L with
          | nil =>
            have hn : (decide ((0 : Int) < (([] : List Ev).length : Int))) = false := rfl
            go_upto_region 10 with (first
              | (go_at_call 13; refine (take_no HT.out HI.out.rq).mono ?_; rintro e3 w3 ⟨rfl, hs, hb⟩; have H3 := rhide (HI.out.turn hs hb); clear hs hb HI c0)
              | fail)
            have H4 := rhide (H3.out.on (bal (Below.refl w3.heap.size w3) (.cells #[.int .i64 0, .int .i64 0] 32)))
            clear H3
            generalize w3.alloc _ = v3 at H4 ⊢
            go_quiet (fail)
            go_wp2
            go_roundw
            case rel => exact ⟨k + 1, by omega, by go_num, [], H4.out.on (below_drew' _ _ _)⟩
            case measure => simp [intOf]; omega
          | cons x L =>
            obtain ⟨g, off, rfl, q0, q1⟩ := HI.out.qu.at (i := 0) (x := x) rfl
            clear q0 q1
            obtain ⟨n, hn⟩ : ∃ n, (x :: L).length = n := ⟨_, rfl⟩
            have hn1 : 1 ≤ n := by rw [← hn]; simp
            rw [hn] at HI hl8 ⊢
            have hd : decide ((0 : Int) < (n : Int)) = true := by simp; omega
            have hlt : (0 : Int) < (n : Int) := by omega
            have hdn : decide (0 < n) = true := by simp; omega
            have hnp : 0 < n := by omega
            have hsl := fun w => run_tail (g := g) (off := off) (cap := cv) hn1 w
            have hne := neqE x
            go_upto_region 10 with (first
              | (go_at_call 13; refine (take_yes HT.out HI.out.rq).mono ?_; rintro e3 w3 ⟨rfl, hs, hb⟩; have H3 := rhide (HI.out.turn hs hb); clear hs hb HI c0)
              | fail)
            have K4 : Ow w (w3.alloc (.cells #[.int .i64 x.k, .int .i64 x.t] 32)) (.slice (some ⟨g, off, none⟩) n cv) (x :: L) L ∧ RowE (w3.alloc (.cells #[.int .i64 x.k, .int .i64 x.t] 32)) w3.heap.size x := ⟨H3.out.on (bal (Below.refl _ _) _), rowE_new w3 x⟩
            clear H3
            generalize w3.alloc _ = v3 at K4 ⊢
            generalize w3.heap.size = D at K4 ⊢
            have x0 := K4.2.c0
            have x1 := K4.2.c1
            obtain ⟨g', off', e', q0, q1⟩ := K4.1.qu.at (i := 0) (x := x) rfl
            cases e'
            simp only [Nat.zero_mul, Nat.add_zero] at q0 q1
            have H4 := rhide K4.1
            clear K4
            go_quiet (fail)
            clear x0 x1 q0 q1
            have H5 := rhide (H4.out.on (below_drew' _ _ nq))
            clear H4
            generalize World.drewN _ _ = v5 at H5 ⊢
            go_wp2
            go_roundw
            case rel => exact ⟨k + 1, by omega, by go_num, L, H5.out.rq, H5.out.qu.tail⟩
            case measure => simp [intOf]; omega
        case false =>
          by_cases hx : Eo c ∧ L.length < 8
          · obtain ⟨hx, hl⟩ := hx
            have HC : Hid (∀ wc, Calls Tryd.prog 21 #[.agg #[.int .i64 c.k, .int .i64 c.t]] wc fun e w' => e = .returned (.int .i64 0) ∧ Below wc.heap.size wc w') := fun wc => by
              have := check_any c wc
              rwa [ck_yes hx] at this
            have HX := rhide (And.intro hx hl)
            have n8 : (L.length : Int) < 8 := by omega
            clear hx
            go_wp2_with (first
              | (go_at_call 11; refine (put_yes HT.out HI.out.rq HX.out.1 HX.out.2).mono ?_; rintro e3 w3 ⟨rfl, hs, hb⟩; have H3 := rhide (HI.out.turn hs hb); clear hs hb HI c0 g0 g1; obtain ⟨g0, g1⟩ := G1.out w3 H3.out.rq.below)
              | (go_at_call 21; refine (HC.out _).mono ?_; rintro e4 w4 ⟨rfl, hb⟩; have H4 := rhide (H3.out.on hb); clear hb HC H3 g0 g1; obtain ⟨g0, g1⟩ := G1.out w4 H4.out.rq.below)
              | (at_builtin; refine wpList_append_qu rfl _ _ rfl H4.out.qu (by omega) H4.out.rq.two it hi hz0 hz1 hz2 c w4.heap.size (bal (Below.refl _ _) _) (rowE_new w4 c).c0 (rowE_new w4 c).c1 rfl rfl ?_; intro v' w5 q1 q2; have H5 : Hid (Ow w w5 v' (L ++ [c]) (L ++ [c])) := ⟨H4.out.rq.under q2, q1⟩; clear q1 q2)
              | fail)
            go_roundw
            case rel => exact ⟨k + 1, by omega, by go_num, L ++ [c], H5.out⟩
            case measure => simp [intOf]; omega
          · have HP : Hid (∀ wc, Rq w wc L → Calls Tryd.prog 11 #[.pointer (some ⟨w.heap.size + 1, 0, none⟩), .int .i64 0, .agg #[.int .i64 c.k, .int .i64 c.t]] wc fun e w' => ∃ E, E ≠ 0 ∧ e = .returned (.int .i64 E) ∧ Rq w w' L ∧ But w.heap.size wc w') := fun wc h => put_no HT.out h hx
            by_cases hc : Eo c
            · have n8 : ¬ (L.length : Int) < 8 := fun h => hx ⟨hc, by omega⟩
              have HC : Hid (∀ wc, Calls Tryd.prog 21 #[.agg #[.int .i64 c.k, .int .i64 c.t]] wc fun e w' => e = .returned (.int .i64 0) ∧ Below wc.heap.size wc w') := fun wc => by
                have := check_any c wc
                rwa [ck_yes hc] at this
              clear hx hc
              go_wp2_with (first
                | (go_at_call 11; refine (HP.out _ HI.out.rq).mono ?_; rintro e3 w3 ⟨E, hE, rfl, hs, hb⟩; have hE' : (E == 0) = false := (by simp [hE]); have H3 := rhide (HI.out.turn hs hb); clear hs hb hE HI HP c0 g0 g1; obtain ⟨g0, g1⟩ := G1.out w3 H3.out.rq.below)
                | (go_at_call 21; refine (HC.out _).mono ?_; rintro e4 w4 ⟨rfl, hb⟩; have H4 := rhide (H3.out.on hb); clear hb HC H3)
                | fail)
              go_roundw
              case rel => exact ⟨k + 1, by omega, by go_num, L, H4.out⟩
              case measure => simp [intOf]; omega
            · have HC : Hid (∀ wc, Calls Tryd.prog 21 #[.agg #[.int .i64 c.k, .int .i64 c.t]] wc fun e w' => e = .returned (.int .i64 1) ∧ Below wc.heap.size wc w') := fun wc => by
                have := check_any c wc
                rwa [ck_no hc] at this
              clear hx hc
              go_wp2_with (first
                | (go_at_call 11; refine (HP.out _ HI.out.rq).mono ?_; rintro e3 w3 ⟨E, hE, rfl, hs, hb⟩; have hE' : (E == 0) = false := (by simp [hE]); have H3 := rhide (HI.out.turn hs hb); clear hs hb hE HI HP c0 g0 g1; obtain ⟨g0, g1⟩ := G1.out w3 H3.out.rq.below)
                | (go_at_call 21; refine (HC.out _).mono ?_; rintro e4 w4 ⟨rfl, hb⟩; have H4 := rhide (H3.out.on hb); clear hb HC H3)
                | fail)
              go_roundw
              case rel => exact ⟨k + 1, by omega, by go_num, L, H4.out⟩
              case measure => simp [intOf]; omega
      · have hin' : ¬ k < len0 ∨ (k < len0 ∧ ¬ k < len1) ∨ (k < len0 ∧ k < len1 ∧ ¬ k < 100) := by omega
        clear hin
        rcases hin' with h1 | ⟨h1, h2⟩ | ⟨h1, h2, h3⟩
        all_goals
          go_wp2_with fail
          go_meet
          exact ⟨L, HI.out⟩
  case rest =>
    obtain ⟨L, h0⟩ := hcut
    obtain ⟨av, cv, rfl⟩ := h0.qu.slice
    have H2 := rhide h0
    have hl8 := h0.rq.le
    have bL : ((L.length : Int) != (L.length : Int)) = false := by simp
    clear h0 H1
    go_wp2_with (first
      | (go_at_call 17; refine (all_rq HT.out H2.out.rq).mono ?_; rintro e3 w3 ⟨a3, cap3, rfl, hr, hb⟩; have H3 : Hid (Ow w w3 (.slice av L.length cv) L L ∧ Evs w3 0 (.slice a3 L.length cap3) L) := ⟨H2.out.on hb, hr⟩; clear hr hb H2)
      | fail)
    go_loopw [14] (fun i wr => ∃ j : Nat, j ≤ L.length ∧ i = .int .i64 j ∧ Ow w wr (.slice av L.length cv) L L ∧ Evs wr 0 (.slice a3 L.length cap3) L) (fun i _ => L.length - (intOf i).toNat)
    case atStart => exact ⟨0, by omega, rfl, H3.out⟩
    case round =>
      obtain ⟨j, hj0, rfl, hJ⟩ := hrel
      have HJ := rhide hJ
      clear hJ H3
      by_cases hjn : j < L.length
      · have n1 : (j : Int) < (L.length : Int) := by omega
        have hwj : wrap64 ((j : Int) + 1) = (j : Int) + 1 := by unfold wrap64; omega
        obtain ⟨x, hx⟩ : ∃ x, L[j]? = some x := ⟨_, List.getElem?_eq_getElem hjn⟩
        obtain ⟨ga, oa, rfl, q0, q1⟩ := HJ.out.1.qu.at hx
        obtain ⟨gb, rfl, _, _, r0, r1⟩ := HJ.out.2.at hx
        have hnx := neqE x
        clear hx
        go_wp2
        go_region
        go_wp2
        go_roundw
        case rel => first | exact ⟨j + 1, by omega, by go_num, HJ.out⟩ | exact ⟨j + 1, by omega, by go_num, HJ.out.1.on (Below.refl _ _).drew, HJ.out.2.on (Below.refl _ _).drew⟩
        case measure => simp [intOf]; omega
      · go_wp2_with (first
          | (go_at_call 24; refine (awake_any _).mono ?_; rintro e8 w8 ⟨rfl, hb⟩; have H8 : Hid (Below w.heap.size w w8) := HJ.out.1.rq.below.trans (hb.mono HJ.out.1.rq.below.size); clear hb)
          | fail)
        go_ret
        exact ⟨rfl, H8.out⟩
end Go.Proofs.YtdplailaolfpkaaDoor.Pring
