/- A memory of one frame whose thread's stack is told by a list; the walk of StackBelow. -/
import Derived.Test.YtoipfcmjphlmfaaDoorStkE
import Derived.Test.YtoipfcmjphlmfaaDoorStkH
import Derived.Test.YtoipfcmjphlmfaaDoorBunMem
import Derived.BigRegion
import Derived.BigQuiet
import Derived.Deep.CutBlock
namespace Go.Proofs.YtoipfcmjphlmfaaDoor.Pstack
open Go.Proofs.YtoipfcmjphlmfaaDoor.Pbase Go.Proofs.YtoipfcmjphlmfaaDoor.Pfield Go.Proofs.YtoipfcmjphlmfaaDoor.Play Go.Proofs.YtoipfcmjphlmfaaDoor.Pmem Go.Proofs.YtoipfcmjphlmfaaDoor.Pthd
open Go.RowKit M
set_option linter.unusedVariables false

theorem Recs.mono {w : World} {base base' : Nat} {v : Value} {L : List Rc} (h : Recs w base v L) (hb : base' ≤ base) : Recs w base' v L := h.keep hb (Nat.le_refl _) (fun _ _ _ => rfl)
structure Sq (w W : World) (p b : Nat) (L : List Rc) : Prop where
  ex : ∃ M, Ow w W p b 1 M ∧ Stk M L
section
variable {w W W' : World} {p b : Nat} {L L' : List Rc}
theorem Sq.on (h : Sq w W p b L) (hB : Below W.heap.size W W') : Sq w W' p b L := by
  obtain ⟨M, h1, h2⟩ := h.ex
  exact ⟨M, h1.on hB, h2⟩
theorem Sq.below (h : Sq w W p b L) : Below w.heap.size w W := by
  obtain ⟨M, h1, h2⟩ := h.ex
  exact h1.below
theorem Sq.ltb (h : Sq w W p b L) : b < W.heap.size := by
  obtain ⟨M, h1, h2⟩ := h.ex
  exact h1.sx.ltb
theorem Sq.le (h : Sq w W p b L) : L.length ≤ 6 := by
  obtain ⟨M, h1, h2⟩ := h.ex
  exact h2.le
end
theorem make_sq (w wc : World) (p b : Nat) (h : Ow w wc p b 1 fun _ _ => 0) : Calls Tryd.prog 6 #[.pointer (some ⟨p, 0, none⟩), .int .i64 0, .agg #[.int .i64 0, .int .i64 0, .int .i64 0, .int .i64 0, .int .i64 0]] wc fun e w' => e = .returned (.int .i64 0) ∧ Sq w w' p b [] := by
  have := Pthd.make_any p b 1 0 th0 _ wc h.sx.mx (by unfold Pthd.Fi In64 th0; decide)
  rw [stk_made.1] at this
  exact this.mono fun e w' ⟨q1, q2, q3⟩ => ⟨q1, _, h.turn (h.sx.but q2 q3) q3, stk_made.2⟩
theorem push_sq {w wc : World} {p b : Nat} {L : List Rc} (x : Rc) (h : Sq w wc p b L) : Calls Tryd.prog 7 #[.pointer (some ⟨p, 0, none⟩), .int .i64 0, .agg #[.int .i64 x.co, .int .i64 x.tb, .int .i64 x.pg, .int .i64 x.l, .int .i64 x.e, .int .i64 x.ip]] wc fun e w' => ∃ E L', e = .returned (.int .i64 E) ∧ Sq w w' p b L' ∧ But b wc w' ∧ ((E = 0 ∧ Ro x ∧ L.length < 6 ∧ L' = L ++ [x]) ∨ (E ≠ 0 ∧ (¬ Ro x ∨ L.length = 6) ∧ L' = L)) := by
  obtain ⟨M, ho, hs⟩ := h.ex
  have hp := push_any p b 1 0 x M wc ho.sx
  by_cases hx : Ro x
  · by_cases hl : L.length < 6
    · obtain ⟨e1, e2⟩ := hs.push hx hl
      rw [e1] at hp
      exact hp.mono fun e w' ⟨q1, q2, q3⟩ => ⟨0, L ++ [x], q1, ⟨_, ho.turn q2 q3, e2⟩, q3, .inl ⟨rfl, hx, hl, rfl⟩⟩
    · have h6 : L.length = 6 := by have := hs.le; omega
      obtain ⟨e1, e2⟩ := hs.full hx h6
      rw [e1, e2] at hp
      exact hp.mono fun e w' ⟨q1, q2, q3⟩ => ⟨8, L, q1, ⟨_, ho.turn q2 q3, hs⟩, q3, .inr ⟨by decide, .inr h6, rfl⟩⟩
  · obtain ⟨e1, e2, _⟩ := ps_no (M := M) 1 0 hx
    rw [e1, e2] at hp
    exact hp.mono fun e w' ⟨q1, q2, q3⟩ => ⟨1, L, q1, ⟨_, ho.turn q2 q3, hs⟩, q3, .inr ⟨by decide, .inl hx, rfl⟩⟩
theorem pop_sq {w wc : World} {p b : Nat} {L : List Rc} (h : Sq w wc p b L) : Calls Tryd.prog 10 #[.pointer (some ⟨p, 0, none⟩), .int .i64 0] wc fun e w' => ∃ E X L', e = .returned (.tuple #[.agg #[.int .i64 X.co, .int .i64 X.tb, .int .i64 X.pg, .int .i64 X.l, .int .i64 X.e, .int .i64 X.ip], .int .i64 E]) ∧ Sq w w' p b L' ∧ But b wc w' ∧ ((L = [] ∧ L' = [] ∧ E = 8) ∨ (L = L' ++ [X] ∧ E = 0)) := by
  obtain ⟨M, ho, hs⟩ := h.ex
  have hp := pop_any p b 1 0 M wc ho.sx
  rcases List.eq_nil_or_concat L with rfl | ⟨L', x, e⟩
  · rw [hs.top_nil, hs.pop_nil] at hp
    exact hp.mono fun e w' ⟨q1, q2, q3⟩ => ⟨8, _, [], q1, ⟨_, ho.turn q2 q3, hs⟩, q3, .inl ⟨rfl, rfl, rfl⟩⟩
  · have e' : L = L' ++ [x] := by simpa using e
    subst e'
    rw [hs.top.1, hs.top.2] at hp
    exact hp.mono fun e w' ⟨q1, q2, q3⟩ => ⟨0, x, L', q1, ⟨_, ho.turn q2 q3, hs.pop⟩, q3, .inr ⟨rfl, rfl⟩⟩
theorem ip_sq {w wc : World} {p b : Nat} {L : List Rc} (q : Int) (h : Sq w wc p b L) : Calls Tryd.prog 12 #[.pointer (some ⟨p, 0, none⟩), .int .i64 0, .int .i64 q] wc fun e w' => ∃ E L', e = .returned (.int .i64 E) ∧ Sq w w' p b L' ∧ But b wc w' ∧ Keeps L L' := by
  obtain ⟨M, ho, hs⟩ := h.ex
  have hp := ip_any p b 1 0 q M wc ho.sx
  by_cases hc : tpE 1 M 0 = 0 ∧ 0 ≤ q ∧ q ≤ 1073741824
  · rcases List.eq_nil_or_concat L with rfl | ⟨L', x, e⟩
    · rw [hs.top_nil] at hc
      exact absurd hc.1 (by decide)
    · have e' : L = L' ++ [x] := by simpa using e
      subst e'
      obtain ⟨_, e2⟩ := hs.ip hc.2
      exact hp.mono fun e w' ⟨q1, q2, q3⟩ => ⟨_, _, q1, ⟨_, ho.turn q2 q3, e2⟩, q3, keeps_last L' x _⟩
  · rw [ip_no hc] at hp
    exact hp.mono fun e w' ⟨q1, q2, q3⟩ => ⟨_, L, q1, ⟨_, ho.turn q2 q3, hs⟩, q3, keeps_same L⟩
theorem all_sq {w wc : World} {p b : Nat} {L : List Rc} (h : Sq w wc p b L) : Calls Tryd.prog 9 #[.pointer (some ⟨p, 0, none⟩), .int .i64 0] wc fun e w' => ∃ a cap, e = .returned (.tuple #[.slice a L.length cap, .int .i64 0]) ∧ Recs w' wc.heap.size (.slice a L.length cap) L ∧ Below wc.heap.size wc w' := by
  obtain ⟨M, ho, hs⟩ := h.ex
  have hp := all_any p b 1 0 M wc ho.sx
  rw [hs.all.1, hs.all.2] at hp
  refine hp.mono ?_
  rintro e w' ⟨v, rfl, h1, h2⟩
  obtain ⟨a, cap, rfl⟩ := h1.slice
  exact ⟨a, cap, rfl, h1, h2⟩
theorem keeps_push' {L L' : List Rc} {x : Rc} {E : Int} {P Q : Prop} (h : (E = 0 ∧ P ∧ L.length < 6 ∧ L' = L ++ [x]) ∨ (E ≠ 0 ∧ Q ∧ L' = L)) : Keeps L L' := by
  rcases h with ⟨_, _, _, rfl⟩ | ⟨_, _, rfl⟩
  · exact keeps_push L x
  · exact keeps_same L'
theorem keeps_pop' {L L' : List Rc} {X : Rc} {E : Int} (h : (L = [] ∧ L' = [] ∧ E = 8) ∨ (L = L' ++ [X] ∧ E = 0)) : Keeps L L' := by
  rcases h with ⟨rfl, rfl, _⟩ | ⟨rfl, _⟩
  · exact keeps_same []
  · exact keeps_pop L' X
theorem rem3s {z : Int} (h : (Lit.int .u8 z).wf = true) : z.tmod 3 = 0 ∨ z.tmod 3 = 1 ∨ z.tmod 3 = 2 := by
  obtain ⟨r, h1, h2⟩ := rem_u8 h 3 (by omega)
  have : z.tmod 3 = (r : Int) := h1
  omega
/-- Two lists as a reader asks them, behind an act. -/
structure Tw (w W : World) (p b : Nat) (L L2 : List Rc) (a : Option Addr) (cap : Nat) (a2 : Option Addr) (cap2 : Nat) : Prop where
  sq : Sq w W p b L2
  ks : Keeps L L2
  one : Recs W (b + 1) (.slice a L.length cap) L
  two : Recs W (b + 1) (.slice a2 L2.length cap2) L2
theorem Tw.on {w W W' : World} {p b : Nat} {L L2 : List Rc} {a : Option Addr} {cap : Nat} {a2 : Option Addr} {cap2 : Nat} (h : Tw w W p b L L2 a cap a2 cap2) (hB : Below W.heap.size W W') : Tw w W' p b L L2 a cap a2 cap2 := ⟨h.sq.on hB, h.ks, h.one.on hB, h.two.on hB⟩
set_option maxRecDepth 100000 in
set_option maxHeartbeats 8000000 in
theorem below_walk (a0 : Option Addr) (len0 cap0 : Nat) (a1 : Option Addr) (len1 cap1 : Nat) (a2 : Option Addr) (len2 cap2 : Nat) (w : World) (D0 : Hid (CameR w.heap.size w a0 len0)) (l0 : len0 ≤ 9223372036854775807) (D1 : Hid (Came .u8 w.heap.size w a1 len1)) (l1 : len1 ≤ 9223372036854775807) (D2 : Hid (CameR w.heap.size w a2 len2)) (l2 : len2 ≤ 9223372036854775807) (hT : Ts w) :
    Calls Tryd.prog 4 #[.slice a0 len0 cap0, .slice a1 len1 cap1, .slice a2 len2 cap2] w fun e w' => e = .returned (.bool true) ∧ Below w.heap.size w w' := by
  have HT := rhide hT
  have H0 := rhide (ow_new hT (N := 1) (by omega) (by omega))
  clear hT
  go_enter Tryd.func4, Tryd.ntmps4
  go_upto_block 0 with (first
    | (go_at_call 5; refine (new_ok 1 _ (by omega) (by omega)).mono ?_; rintro r1 w1 ⟨rfl, hw⟩; rw [← hw] at H0; clear hw)
    | (go_at_call 6; refine (make_sq _ _ _ _ H0.out).mono ?_; rintro r2 w2 ⟨rfl, hw⟩; have H1 := rhide hw; clear hw H0)
    | fail)
  generalize hp : w.heap.size + 1 = p at H1 ⊢
  clear hp
  go_cut [9] from 28 to 43 (fun v9 wc => ∃ L, Sq w wc p w.heap.size L)
  case first =>
    go_wp2
    go_loopw [9] (fun i wr => ∃ k : Nat, k ≤ len0 ∧ i = .int .i64 k ∧ ∃ L, Sq w wr p w.heap.size L) (fun i _ => len0 - (intOf i).toNat)
    case atStart => exact ⟨0, by omega, rfl, _, H1.out⟩
    case round =>
      obtain ⟨k, hk0, rfl, L, hI⟩ := hrel
      have HI := rhide hI
      clear hI H1
      by_cases hin : k < len0 ∧ k < 10
      · obtain ⟨h1, h2⟩ := hin
        obtain ⟨b0, o0, c, rfl, hc, G0⟩ := D0.out.at h1
        have i1 : (k : Int) < (len0 : Int) := by omega
        have i2 : (k : Int) < 10 := by omega
        obtain ⟨g0, g1, g2, g3, g4, g5⟩ := G0.out wr HI.out.below
        clear hc
        go_wp2_with (first
          | (go_at_call 7; refine (push_sq c HI.out).mono ?_; rintro e3 w3 ⟨E, L', rfl, hs, hb, _⟩; have H3 := rhide hs; clear hs hb HI)
          | fail)
        go_roundw
        case rel => exact ⟨k + 1, by omega, by go_num, L', H3.out⟩
        case measure => simp [intOf]; omega
      · have hin' : ¬ k < len0 ∨ (k < len0 ∧ ¬ k < 10) := by omega
        clear hin
        rcases hin' with h1 | ⟨h1, h2⟩
        all_goals
          go_wp2_with fail
          go_meet
          exact ⟨L, HI.out⟩
  case rest =>
    obtain ⟨L0, h0⟩ := hcut
    have H2 := rhide h0
    clear h0 H1
    go_wp2
    go_loopw [10] (fun i wr => ∃ k : Nat, k ≤ len1 ∧ i = .int .i64 k ∧ ∃ L, Sq w wr p w.heap.size L) (fun i _ => len1 - (intOf i).toNat)
    case atStart => exact ⟨0, by omega, rfl, _, H2.out⟩
    case round =>
      obtain ⟨k, hk0, rfl, L, hI⟩ := hrel
      have HI := rhide hI
      clear hI H2
      by_cases hin : k < len1 ∧ k < len2 ∧ k < 40
      · obtain ⟨h1, h2, h3⟩ := hin
        obtain ⟨b1, o1, z1, rfl, HZ1, G1⟩ := D1.out.any h1
        obtain ⟨b2, o2, c, rfl, hc, G2⟩ := D2.out.at h2
        have i1 : (k : Int) < (len1 : Int) := by omega
        have i2 : (k : Int) < (len2 : Int) := by omega
        have i3 : (k : Int) < 40 := by omega
        have hq' := rem3s HZ1.out
        have hl6 := HI.out.le
        have hw : wrap64 ((L.length : Int) - 1) = (L.length : Int) - 1 := by unfold wrap64; omega
        have t1 : True := trivial
        clear HZ1 hc
        rcases hq' with hq | hq | hq
        all_goals
          go_wp2_with (first
            | (go_at_call 9; clear t1; refine (all_sq HI.out).mono ?_; rintro e3 w3 ⟨a3, cap3, rfl, hr, hb⟩; have H3 := rhide (HI.out.on hb); have HR3 := rhide (hr.mono (base' := w.heap.size + 1) HI.out.ltb); clear hr hb HI; have c1 := G1.out w3 H3.out.below; obtain ⟨g0, g1, g2, g3, g4, g5⟩ := G2.out w3 H3.out.below)
            | (go_at_call 7; refine (push_sq c H3.out).mono ?_; rintro e4 w4 ⟨E4, L2, rfl, hs, hb, hk⟩; have H4 := rhide hs; have HR4 := rhide (HR3.out.but hb (by omega)); have HK := rhide (keeps_push' hk); clear hs hb hk H3 HR3 c1 g0 g1 g2 g3 g4 g5)
            | (go_at_call 10; refine (pop_sq H3.out).mono ?_; rintro e4 w4 ⟨E4, X4, L2, rfl, hs, hb, hk⟩; have H4 := rhide hs; have HR4 := rhide (HR3.out.but hb (by omega)); have HK := rhide (keeps_pop' hk); clear hs hb hk H3 HR3 c1 g0 g1 g2 g3 g4 g5)
            | (go_at_call 12; refine (ip_sq c.ip H3.out).mono ?_; rintro e4 w4 ⟨E4, L2, rfl, hs, hb, hk⟩; have H4 := rhide hs; have HR4 := rhide (HR3.out.but hb (by omega)); have HK := rhide hk; clear hs hb hk H3 HR3 c1 g0 g1 g2 g3 g4 g5)
            | (go_at_call 9; refine (all_sq H4.out).mono ?_; rintro e5 w5 ⟨a5, cap5, rfl, hr, hb⟩; have H5 : Hid (Tw w w5 p w.heap.size L L2 a3 cap3 a5 cap5) := ⟨H4.out.on hb, HK.out, HR4.out.on hb, hr.mono (base' := w.heap.size + 1) H4.out.ltb⟩; clear hr hb H4 HR4 HK)
            | fail)
          go_loopw [15] (fun i wr => ∃ j : Nat, j ≤ L2.length ∧ i = .int .i64 j ∧ Tw w wr p w.heap.size L L2 a3 cap3 a5 cap5) (fun i _ => L2.length - (intOf i).toNat)
          case atStart => exact ⟨0, by omega, rfl, H5.out⟩
          case round =>
            obtain ⟨j, hj0, rfl, hJ⟩ := hrel
            have HJ := rhide hJ
            clear hJ H5
            by_cases hjn : j + 1 < L.length ∧ j < L2.length
            · obtain ⟨j1, j2⟩ := hjn
              have n1 : (j : Int) < (L.length : Int) - 1 := by omega
              have n2 : (j : Int) < (L2.length : Int) := by omega
              have n3 : (j : Int) < (L.length : Int) := by omega
              obtain ⟨x, hx⟩ : ∃ x, L2[j]? = some x := ⟨_, List.getElem?_eq_getElem j2⟩
              have hx1 : L[j]? = some x := (HJ.out.ks j j1 j2).trans hx
              obtain ⟨ga, rfl, _, _, q0, q1, q2, q3, q4, q5⟩ := HJ.out.one.at hx1
              obtain ⟨gb, rfl, _, _, r0, r1, r2, r3, r4, r5⟩ := HJ.out.two.at hx
              have hne := neqR x
              clear hx hx1
              go_wp2
              go_region
              go_wp2
              go_roundw
              case rel => first | exact ⟨j + 1, by omega, by go_num, HJ.out⟩ | exact ⟨j + 1, by omega, by go_num, HJ.out.on (Below.refl _ _).drew⟩
              case measure => simp [intOf]; omega
            · have hjn' : ¬ (j : Int) < (L.length : Int) - 1 ∨ ((j : Int) < (L.length : Int) - 1 ∧ ¬ (j : Int) < (L2.length : Int)) := by omega
              clear hjn
              rcases hjn' with n1 | ⟨n1, n2⟩
              all_goals
                go_wp2
                go_roundw
                case rel => exact ⟨k + 1, by omega, by go_num, L2, HJ.out.sq⟩
                case measure => simp [intOf]; omega
      · have hin' : ¬ k < len1 ∨ (k < len1 ∧ ¬ k < len2) ∨ (k < len1 ∧ k < len2 ∧ ¬ k < 40) := by omega
        clear hin
        rcases hin' with h1 | ⟨h1, h2⟩ | ⟨h1, h2, h3⟩
        all_goals
          go_wp2_with (first
            | (go_at_call 11; refine (awake_any _ (HT.out.on HI.out.below)).mono ?_; rintro e8 w8 ⟨rfl, hb⟩; have H8 := rhide (HI.out.on hb); clear hb HI)
            | fail)
          go_ret
          exact ⟨rfl, H8.out.below⟩
end Go.Proofs.YtoipfcmjphlmfaaDoor.Pstack
