/- The walk of StackLast. -/
import Derived.Test.YtoipfcmjphlmfaaDoorStkK
import Derived.Maps.AppendAt
import Derived.Deep.RegionHeld3
namespace Go.Proofs.YtoipfcmjphlmfaaDoor.Pstack
open Go.Proofs.YtoipfcmjphlmfaaDoor.Pbase Go.Proofs.YtoipfcmjphlmfaaDoor.Pfield Go.Proofs.YtoipfcmjphlmfaaDoor.Play Go.Proofs.YtoipfcmjphlmfaaDoor.Pmem Go.Proofs.YtoipfcmjphlmfaaDoor.Pthd
open Go.RowKit M
set_option linter.unusedVariables false

/-! ### a list of records of the call's own -/
def sixL (x : Rc) : List Value := [.int .i64 x.co, .int .i64 x.tb, .int .i64 x.pg, .int .i64 x.l, .int .i64 x.e, .int .i64 x.ip]
def cellsL (L : List Rc) : List Value := L.flatMap sixL
theorem cellsL_snoc (L : List Rc) (x : Rc) : cellsL (L ++ [x]) = cellsL L ++ sixL x := by simp [cellsL]
theorem cellsL_len (L : List Rc) : (cellsL L).length = L.length * 6 := by
  induction L with
  | nil => rfl
  | cons x L ih => rw [show cellsL (x :: L) = sixL x ++ cellsL L from rfl, List.length_append, ih]; simp [sixL]; omega
theorem cellsL_at : ∀ (L : List Rc) (i j : Nat) (x : Rc), L[i]? = some x → j < 6 → (cellsL L)[i * 6 + j]? = (sixL x)[j]?
  | [], i, j, x, hi, _ => by simp at hi
  | y :: L, 0, j, x, hi, hj => by
    simp at hi
    subst hi
    rw [show cellsL (y :: L) = sixL y ++ cellsL L from rfl, List.getElem?_append_left (by simp [sixL]; omega)]
    simp
  | y :: L, i + 1, j, x, hi, hj => by
    rw [List.getElem?_cons_succ] at hi
    rw [show cellsL (y :: L) = sixL y ++ cellsL L from rfl, List.getElem?_append_right (by simp [sixL]; omega), show (i + 1) * 6 + j - (sixL y).length = i * 6 + j by simp [sixL]; omega]
    exact cellsL_at L i j x hi hj
theorem sixL_one (x : Rc) : ∀ u ∈ sixL x, u.oneCell' = true := by
  intro u hu
  simp only [sixL, List.mem_cons, List.not_mem_nil, or_false] at hu
  rcases hu with rfl | rfl | rfl | rfl | rfl | rfl <;> rfl
theorem own_geL {w : World} {base : Nat} {e : TypeId} {v : Value} {n : Nat} {xs : List Value} (h : w.ownsRow base e 6 v n xs) : ∀ k, v.ownBlock = some k → base ≤ k := fun k hk => (h.lt k hk).1
theorem own_but {W W' : World} {base b : Nat} {e : TypeId} {size : Nat} {v : Value} {n : Nat} {xs : List Value} (h : W.ownsRow base e size v n xs) (hB : But b W W') (hb : b < base) : W'.ownsRow base e size v n xs := by
  refine ⟨h.1, ?_⟩
  rcases h.2 with h2 | ⟨g, cap, cur, e1, hb1, hg, rest⟩
  · exact .inl h2
  · exact .inr ⟨g, cap, cur, e1, hb1, (hB.block g (Array.getElem?_eq_some_iff.1 hg).1 (by omega)).trans hg, rest⟩
theorem recs_of_L {w : World} {base : Nat} {v : Value} {L : List Rc} (h : w.ownsRow base 32 6 v L.length (cellsL L)) : Recs w base v L := by
  rcases h.2 with ⟨e, e0⟩ | ⟨g, cap, cur, rfl, hb, hg, _, _, _, ht⟩
  · exact ⟨none, 0, by rw [e0]; exact e, .inl e0⟩
  · refine ⟨some ⟨g, 0, none⟩, cap, rfl, .inr ⟨g, rfl, hb, (Array.getElem?_eq_some_iff.1 hg).1, fun i x hi => ?_⟩⟩
    have hid : i < L.length := (List.getElem?_eq_some_iff.1 hi).1
    have key : ∀ j, j < 6 → w.cell? ⟨g, i * 6 + j, none⟩ = (sixL x)[j]? := fun j hj => by
      have := cellsL_at L i j x hi hj
      rw [← ht, List.getElem?_take, if_pos (by omega), Array.getElem?_toList] at this
      rw [cell_of_row _ _ _ _ _ _ hg, this]
    exact ⟨key 0 (by omega), key 1 (by omega), key 2 (by omega), key 3 (by omega), key 4 (by omega), key 5 (by omega)⟩
/-- The stack's list S, and the list v of the records L. -/
structure Lw (w W : World) (v : Value) (L S : List Rc) : Prop where
  sq : Sq w W (w.heap.size + 1) w.heap.size S
  row : W.ownsRow (w.heap.size + 2) 32 6 v L.length (cellsL L)
theorem Lw.on {w W W' : World} {v : Value} {L S : List Rc} (h : Lw w W v L S) (hB : Below W.heap.size W W') : Lw w W' v L S :=
  ⟨h.sq.on hB, h.row.kept (grown_none hB) (by cases hv : v.ownBlock <;> simp)⟩
theorem Lw.turn {w W W' : World} {v : Value} {L S S' : List Rc} (h : Lw w W v L S) (hs : Sq w W' (w.heap.size + 1) w.heap.size S') (hB : But w.heap.size W W') : Lw w W' v L S' := ⟨hs, own_but h.row hB (by omega)⟩
theorem Sq.under {w W W' : World} {S : List Rc} (hT : Ts w) (h : Sq w W (w.heap.size + 1) w.heap.size S) (hB : Below (w.heap.size + 2) W W') : Sq w W' (w.heap.size + 1) w.heap.size S := by
  obtain ⟨M, ho, hs⟩ := h.ex
  have hb := ho.below.trans (hB.mono (by omega))
  exact ⟨M, ⟨sx_of hT hb (ho.sx.mx.mem.below hB (by omega) (by omega)) ho.sx.mx.fit (by omega) (by omega), ho.ge, hb⟩, hs⟩
theorem Sq.two {w W : World} {S : List Rc} (h : Sq w W (w.heap.size + 1) w.heap.size S) : w.heap.size + 2 ≤ W.heap.size := by
  obtain ⟨M, ho, hs⟩ := h.ex
  exact ho.sx.mx.mem.lt.1
theorem Lw.step {w W W' : World} {v v' : Value} {L S : List Rc} {x : Rc} {o : Obj} (hT : Ts w) (h : Lw w W v L S) (hown : W'.ownsRow (w.heap.size + 2) 32 6 v' (L.length + 1) (cellsL L ++ sixL x)) (hg : (W.alloc o).grownBy W' v.ownBlock) : Lw w W' v' (L ++ [x]) S := by
  have h2 := h.sq.two
  refine ⟨h.sq.under hT (((Below.refl (w.heap.size + 2) W).alloc h2 o).grown hg (by simp; omega) (own_geL h.row)), ?_⟩
  rw [cellsL_snoc, List.length_append, List.length_singleton]
  exact hown
/-- And what All answered. -/
structure Lz (w W : World) (v : Value) (L S : List Rc) (a : Option Addr) (cap : Nat) : Prop where
  lw : Lw w W v L S
  all : Recs W (w.heap.size + 2) (.slice a L.length cap) L
theorem Lz.on {w W W' : World} {v : Value} {L S : List Rc} {a : Option Addr} {cap : Nat} (h : Lz w W v L S a cap) (hB : Below W.heap.size W W') : Lz w W' v L S a cap := ⟨h.lw.on hB, h.all.on hB⟩
theorem Lz.turn {w W W' : World} {v : Value} {L S S' : List Rc} {a : Option Addr} {cap : Nat} (h : Lz w W v L S a cap) (hs : Sq w W' (w.heap.size + 1) w.heap.size S') (hB : But w.heap.size W W') : Lz w W' v L S' a cap := ⟨h.lw.turn hs hB, h.all.but hB (by omega)⟩
theorem take_pop {L L4 : List Rc} {m : Nat} {x X : Rc} (hx : L[m]? = some x) (h : L.take (m + 1) = L4 ++ [X]) : L4 = L.take m ∧ X = x := by
  have hm : m < L.length := (List.getElem?_eq_some_iff.1 hx).1
  have e : L.take (m + 1) = L.take m ++ [x] := by
    rw [List.take_add_one, hx]
    rfl
  rw [e] at h
  have := List.append_inj' h rfl
  exact ⟨this.1.symm, by simpa using this.2.symm⟩
theorem pop_at {w wc : World} {L : List Rc} {m : Nat} {x : Rc} (hx : L[m]? = some x) (h : Sq w wc (w.heap.size + 1) w.heap.size (L.take (m + 1))) : Calls Tryd.prog 10 #[.pointer (some ⟨w.heap.size + 1, 0, none⟩), .int .i64 0] wc fun e w' => e = .returned (.tuple #[.agg #[.int .i64 x.co, .int .i64 x.tb, .int .i64 x.pg, .int .i64 x.l, .int .i64 x.e, .int .i64 x.ip], .int .i64 0]) ∧ Sq w w' (w.heap.size + 1) w.heap.size (L.take m) ∧ But w.heap.size wc w' := by
  refine (pop_sq h).mono ?_
  rintro e w' ⟨E, X, L4, rfl, hs, hb, hk⟩
  rcases hk with ⟨h0, _, _⟩ | ⟨h1, rfl⟩
  · have hm : m < L.length := (List.getElem?_eq_some_iff.1 hx).1
    have := congrArg List.length h0
    rw [List.length_take, List.length_nil] at this
    omega
  · obtain ⟨rfl, rfl⟩ := take_pop hx h1
    exact ⟨rfl, hs, hb⟩
theorem pop_none {w wc : World} (h : Sq w wc (w.heap.size + 1) w.heap.size []) : Calls Tryd.prog 10 #[.pointer (some ⟨w.heap.size + 1, 0, none⟩), .int .i64 0] wc fun e w' => ∃ X : Rc, e = .returned (.tuple #[.agg #[.int .i64 X.co, .int .i64 X.tb, .int .i64 X.pg, .int .i64 X.l, .int .i64 X.e, .int .i64 X.ip], .int .i64 8]) ∧ Sq w w' (w.heap.size + 1) w.heap.size [] := by
  refine (pop_sq h).mono ?_
  rintro e w' ⟨E, X, L4, rfl, hs, hb, hk⟩
  rcases hk with ⟨_, rfl, rfl⟩ | ⟨h1, _⟩
  · exact ⟨X, rfl, hs⟩
  · simp at h1
set_option maxRecDepth 100000 in
set_option maxHeartbeats 8000000 in
theorem last_walk (a0 : Option Addr) (len0 cap0 : Nat) (w : World) (D0 : Hid (CameR w.heap.size w a0 len0)) (l0 : len0 ≤ 9223372036854775807) (hT : Ts w) :
    Calls Tryd.prog 3 #[.slice a0 len0 cap0] w fun e w' => e = .returned (.bool true) ∧ Below w.heap.size w w' := by
  obtain ⟨it, hi, hz0, hz1, hz2⟩ := info_parts infoFrame
  have HT := rhide hT
  have H0 := rhide (ow_new hT (N := 1) (by omega) (by omega))
  clear hT
  go_enter Tryd.func3, Tryd.ntmps3
  go_upto_block 0 with (first
    | (go_at_call 5; refine (new_ok 1 _ (by omega) (by omega)).mono ?_; rintro r1 w1 ⟨rfl, hw⟩; rw [← hw] at H0; clear hw)
    | (go_at_call 6; refine (make_sq _ _ _ _ H0.out).mono ?_; rintro r2 w2 ⟨rfl, hw⟩; have H1 : Hid (Lw w w2 (.slice none 0 0) [] []) := ⟨hw, World.ownsRow_nil _ _ _ _⟩; clear hw H0)
    | fail)
  go_cut [5, 6] from 27 to 65 (fun v5 v6 wc => ∃ L, Lw w wc v5 L L)
  case first =>
    go_wp2
    go_loopw [5, 6] (fun v i wr => ∃ k : Nat, k ≤ len0 ∧ i = .int .i64 k ∧ ∃ L, Lw w wr v L L) (fun _ i _ => len0 - (intOf i).toNat)
    case atStart => exact ⟨0, by omega, rfl, [], H1.out⟩
    case round =>
      obtain ⟨k, hk0, rfl, L, hI⟩ := hrel
      obtain ⟨av, cv, rfl⟩ := ownsRow_slice hI.row
      have HI := rhide hI
      have hl6 := hI.sq.le
      clear hI H1
      by_cases hin : k < len0 ∧ k < 40
      · obtain ⟨h1, h2⟩ := hin
        obtain ⟨b0, o0, c, rfl, hc, G0⟩ := D0.out.at h1
        have i1 : (k : Int) < (len0 : Int) := by omega
        have i2 : (k : Int) < 40 := by omega
        obtain ⟨g0, g1, g2, g3, g4, g5⟩ := G0.out wr HI.out.sq.below
        clear hc
        go_upto_region 9 with (first
          | (go_at_call 7; refine (push_sq c HI.out.sq).mono ?_; rintro e3 w3 ⟨E, L', rfl, hs, hb, hk⟩; have H3 := rhide (HI.out.turn hs hb); have HKk := rhide hk; clear hs hb hk HI g0 g1 g2 g3 g4 g5; obtain ⟨g0, g1, g2, g3, g4, g5⟩ := G0.out w3 H3.out.sq.below)
          | fail)
        rcases HKk.out with ⟨rfl, hro, hlt, rfl⟩ | ⟨hE, hno, rfl⟩
        · have HC : Hid (∀ wc, Calls Tryd.prog 8 #[.agg #[.int .i64 c.co, .int .i64 c.tb, .int .i64 c.pg, .int .i64 c.l, .int .i64 c.e, .int .i64 c.ip]] wc fun e w' => e = .returned (.int .i64 0) ∧ Below wc.heap.size wc w') := fun wc => by
            have := check_any c wc
            rwa [show rkE c = 0 by unfold rkE; rw [roB_yes hro]; rfl] at this
          have n6 : (L.length : Int) < 6 := by omega
          clear hro HKk
          go_wp2_with (first
            | (go_at_call 8; refine (HC.out _).mono ?_; rintro e4 w4 ⟨rfl, hb⟩; have H4 := rhide (H3.out.on hb); clear hb HC H3 g0 g1 g2 g3 g4 g5; obtain ⟨g0, g1, g2, g3, g4, g5⟩ := G0.out w4 H4.out.sq.below; have hsz := H4.out.sq.two)
            | (at_builtin; refine wpList_append_own _ rfl _ _ 22 rfl (w.heap.size + 2) 32 it (.agg #[.int .i64 0, .int .i64 0, .int .i64 0, .int .i64 0, .int .i64 0, .int .i64 0]) 6 48 Tryd.underlying22 hi hz0 hz1 hz2 rfl (by decide) _ _ _ rfl (H4.out.row.alloc _) ⟨w4.heap.size, 0, none⟩ 1 1 (sixL c) rfl rfl (six_new w4 _ _ _ _ _ _ _) (sixL_one c) (by unfold maxLen; omega) (by omega) (by simp; omega) ?_; intro v' w5 hown hgrow _; have H5 := rhide (H4.out.step HT.out hown hgrow); clear hown hgrow)
            | fail)
          go_roundw
          case rel => exact ⟨k + 1, by omega, by go_num, L ++ [c], H5.out⟩
          case measure => simp [intOf]; omega
        · have hE' : (E == 0) = false := by simp [hE]
          clear HKk
          by_cases hro : Ro c
          · have h6 : L'.length = 6 := hno.resolve_left fun h => h hro
            have HC : Hid (∀ wc, Calls Tryd.prog 8 #[.agg #[.int .i64 c.co, .int .i64 c.tb, .int .i64 c.pg, .int .i64 c.l, .int .i64 c.e, .int .i64 c.ip]] wc fun e w' => e = .returned (.int .i64 0) ∧ Below wc.heap.size wc w') := fun wc => by
              have := check_any c wc
              rwa [show rkE c = 0 by unfold rkE; rw [roB_yes hro]; rfl] at this
            have n6 : ¬ (L'.length : Int) < 6 := by omega
            clear hro hno hE h6
            go_wp2_with (first
              | (go_at_call 8; refine (HC.out _).mono ?_; rintro e4 w4 ⟨rfl, hb⟩; have H4 := rhide (H3.out.on hb); clear hb HC H3)
              | fail)
            go_roundw
            case rel => exact ⟨k + 1, by omega, by go_num, L', H4.out⟩
            case measure => simp [intOf]; omega
          · have HC : Hid (∀ wc, Calls Tryd.prog 8 #[.agg #[.int .i64 c.co, .int .i64 c.tb, .int .i64 c.pg, .int .i64 c.l, .int .i64 c.e, .int .i64 c.ip]] wc fun e w' => e = .returned (.int .i64 1) ∧ Below wc.heap.size wc w') := fun wc => by
              have := check_any c wc
              rwa [show rkE c = 1 by unfold rkE; rw [roB_no hro]; rfl] at this
            clear hro hno hE
            go_wp2_with (first
              | (go_at_call 8; refine (HC.out _).mono ?_; rintro e4 w4 ⟨rfl, hb⟩; have H4 := rhide (H3.out.on hb); clear hb HC H3)
              | fail)
            go_roundw
            case rel => exact ⟨k + 1, by omega, by go_num, L', H4.out⟩
            case measure => simp [intOf]; omega
      · have hin' : ¬ k < len0 ∨ (k < len0 ∧ ¬ k < 40) := by omega
        clear hin
        rcases hin' with h1 | ⟨h1, h2⟩
        all_goals
          go_wp2_with fail
          go_meet
          exact ⟨L, HI.out⟩
  case rest =>
    obtain ⟨L, h0⟩ := hcut
    obtain ⟨av, cv, rfl⟩ := ownsRow_slice h0.row
    have H2 := rhide h0
    have hl6 := h0.sq.le
    have hw : wrap64 ((L.length : Int) - 1) = (L.length : Int) - 1 := by unfold wrap64; omega
    have bL : ((L.length : Int) != (L.length : Int)) = false := by simp
    clear h0 H1
    go_wp2_with (first
      | (go_at_call 9; refine (all_sq H2.out.sq).mono ?_; rintro e3 w3 ⟨a3, cap3, rfl, hr, hb⟩; have H3 : Hid (Lz w w3 (.slice av L.length cv) L (L.take L.length) a3 cap3) := ⟨by rw [List.take_length]; exact H2.out.on hb, hr.mono (base' := w.heap.size + 2) H2.out.sq.two⟩; clear hr hb H2)
      | fail)
    go_loopw [10] (fun i wr => ∃ j : Nat, j ≤ L.length ∧ i = .int .i64 ((j : Int) - 1) ∧ Lz w wr (.slice av L.length cv) L (L.take j) a3 cap3) (fun i _ => (intOf i + 1).toNat)
    case atStart => exact ⟨L.length, by omega, rfl, H3.out⟩
    case round =>
      obtain ⟨j, hj0, hi', hJ⟩ := hrel
      have HJ := rhide hJ
      clear hJ H3
      rcases j with _ | m
      · have hi2 : u10 = .int .i64 (-1) := by rw [hi']; rfl
        subst hi2
        clear hi'
        have H6 : Hid (Sq w wr (w.heap.size + 1) w.heap.size []) := HJ.out.lw.sq
        clear HJ
        go_wp2_with (first
          | (go_at_call 10; refine (pop_none H6.out).mono ?_; rintro e4 w4 ⟨X, rfl, hs⟩; have H7 := rhide (hs.on (bal (Below.refl _ _) (.cells #[.int .i64 X.co, .int .i64 X.tb, .int .i64 X.pg, .int .i64 X.l, .int .i64 X.e, .int .i64 X.ip] 32))); clear hs H6)
          | (go_at_call 11; refine (awake_any _ (HT.out.on H7.out.below)).mono ?_; rintro e8 w8 ⟨rfl, hb⟩; have H8 := rhide (H7.out.on hb); clear hb H7)
          | fail)
        go_ret
        exact ⟨rfl, H8.out.below⟩
      · have hi2 : u10 = .int .i64 (m : Int) := by rw [hi']; congr 1; omega
        subst hi2
        clear hi'
        have n0 : (0 : Int) ≤ (m : Int) := by omega
        have n1 : (m : Int) < (L.length : Int) := by omega
        obtain ⟨x, hx⟩ : ∃ x, L[m]? = some x := ⟨_, List.getElem?_eq_getElem (by omega)⟩
        have HX := rhide hx
        go_upto_region 20 with (first
          | (go_at_call 10; refine (pop_at HX.out HJ.out.lw.sq).mono ?_; rintro e4 w4 ⟨rfl, hs, hb⟩; have H5 := rhide (HJ.out.turn hs hb); clear hs hb HJ)
          | fail)
        have K6 : Lz w (w4.alloc (.cells #[.int .i64 x.co, .int .i64 x.tb, .int .i64 x.pg, .int .i64 x.l, .int .i64 x.e, .int .i64 x.ip] 32)) (.slice av L.length cv) L (L.take m) a3 cap3 ∧ RowR (w4.alloc (.cells #[.int .i64 x.co, .int .i64 x.tb, .int .i64 x.pg, .int .i64 x.l, .int .i64 x.e, .int .i64 x.ip] 32)) w4.heap.size x := ⟨H5.out.on (bal (Below.refl _ _) _), rowR_new w4 x⟩
        generalize w4.alloc _ = v4 at K6 ⊢
        generalize w4.heap.size = D at K6 ⊢
        obtain ⟨ga, rfl, _, _, q0, q1, q2, q3, q4, q5⟩ := (recs_of_L K6.1.lw.row).at hx
        obtain ⟨gb, rfl, _, _, r0, r1, r2, r3, r4, r5⟩ := K6.1.all.at hx
        have H6 := rhide K6
        have x0 := H6.out.2.c0
        have x1 := H6.out.2.c1
        have x2 := H6.out.2.c2
        have x3 := H6.out.2.c3
        have x4 := H6.out.2.c4
        have x5 := H6.out.2.c5
        have hne := neqR x
        have hwm : wrap64 ((m : Int) - 1) = (m : Int) - 1 := by unfold wrap64; omega
        clear K6 H5 hx
        go_region
        all_goals
          go_wp2
          go_roundw
          case rel => first | exact ⟨m, by omega, rfl, H6.out.1⟩ | exact ⟨m, by omega, rfl, H6.out.1.on (Below.refl _ _).drew⟩
          case measure => simp [intOf]
end Go.Proofs.YtoipfcmjphlmfaaDoor.Pstack
