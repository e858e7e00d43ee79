/- The walk of HwAll, over what it asks of the program. -/
import Derived.Test.YtefoofcfbcmjcaaHwP
import Derived.Test.YtefoofcfbcmjcaaBunBase
import Derived.BigRegion
import Derived.Deep.DeepCutAuto
import Derived.Deep.CutBlock
namespace Go.Proofs.Ytefoofcfbcmjcaa.Phw
open Go.Proofs.Ytefoofcfbcmjcaa.Pbase
open Go.RowKit
set_option linter.unusedVariables false

/-- The first i lines lead to f. -/
def allS (f : Int) (i : Nat) : Nat → Int := fun j => if j < i then f + 1 else 0
theorem all_zero (f : Int) : allS f 0 = fun _ => 0 := by
  funext j
  unfold allS
  rw [if_neg (by omega)]
theorem all_step (f : Int) (i : Nat) : upL (allS f i) i (f + 1) = allS f (i + 1) := by
  funext j
  unfold upL allS
  by_cases h : j = i
  · rw [if_pos h, if_pos (by omega)]
  · rw [if_neg h]
    by_cases h2 : j < i
    · rw [if_pos h2, if_pos (by omega)]
    · rw [if_neg h2, if_neg (by omega)]
/-- The lines that are not detached lead to f. -/
def offS (f : Int) (o : Nat → Bool) : Nat → Int := fun j => if j < 8 ∧ o j = false then f + 1 else 0
def upB (o : Nat → Bool) (k : Nat) : Nat → Bool := fun j => if j = k then true else o j
theorem off_none (f : Int) : allS f 8 = offS f fun _ => false := by
  funext j
  unfold allS offS
  simp
theorem off_yes {f : Int} {o : Nat → Bool} {k : Nat} (hk : k < 8) (h : o k = false) (hf : 0 ≤ f) : ofE (offS f o) k = 0 ∧ ofX (offS f o) k = f ∧ deS (offS f o) k = offS f (upB o k) := by
  have e : offS f o k = f + 1 := by unfold offS; rw [if_pos ⟨hk, h⟩]
  obtain ⟨h1, h2, h3⟩ := of_ok (okL_nat hk) (S := offS f o) (by rw [Int.toNat_natCast, e]; omega)
  rw [h2, h3, Int.toNat_natCast, e]
  refine ⟨h1, by omega, ?_⟩
  funext j
  unfold upL
  by_cases hj : j = k
  · rw [if_pos hj]
    unfold offS upB
    rw [if_neg (by rw [if_pos hj]; simp)]
  · rw [if_neg hj]
    unfold offS upB
    rw [if_neg hj]
theorem off_no {f : Int} {o : Nat → Bool} {k : Nat} (hk : k < 8) (h : o k = true) : ofE (offS f o) k = 3 ∧ ofX (offS f o) k = 0 ∧ deS (offS f o) k = offS f (upB o k) := by
  have e : offS f o k = 0 := by unfold offS; rw [if_neg (by rw [h]; simp)]
  obtain ⟨h1, h2, h3⟩ := of_none (okL_nat hk) (S := offS f o) (by rw [Int.toNat_natCast, e])
  refine ⟨h1, h2, ?_⟩
  rw [h3]
  have : upB o k = o := by
    funext j
    unfold upB
    by_cases hj : j = k
    · rw [if_pos hj, hj, h]
    · rw [if_neg hj]
  rw [this]
/-- How many lead there. -/
def leftN (f : Int) (o : Nat → Bool) : Nat := hsK (offS f o) f 8
theorem left_le (f : Int) (o : Nat → Bool) : leftN f o ≤ 8 := hsK_le _ _ _
theorem left_all {f : Int} (hf : okG f = true) : leftN f (fun _ => false) = 8 := by
  unfold leftN
  simp [hsK, offS, hf]
theorem left_yes {f : Int} {o : Nat → Bool} {k : Nat} (hk : k < 8) (h : o k = false) (hf : okG f = true) : leftN f (upB o k) + 1 = leftN f o := by
  have hfr := (okG_iff f).1 hf
  have e : offS f o k = f + 1 := by unfold offS; rw [if_pos ⟨hk, h⟩]
  have h3 := (off_yes (f := f) hk h hfr.1).2.2
  have h4 := (of_ok (okL_nat hk) (S := offS f o) (by rw [Int.toNat_natCast, e]; omega)).2.2
  rw [Int.toNat_natCast, h3] at h4
  have := hsK_up (offS f o) f k 0 8
  rw [if_pos ⟨hk, hf, e⟩, if_neg (by omega), ← h4] at this
  exact this
theorem left_no {f : Int} {o : Nat → Bool} {k : Nat} (h : o k = true) : leftN f (upB o k) = leftN f o := by
  have : upB o k = o := by
    funext j
    unfold upB
    by_cases hj : j = k
    · rw [if_pos hj, hj, h]
    · rw [if_neg hj]
  rw [this]
/-- Eight bools in a block. -/
def ListB (W : World) (D : Nat) (o : Nat → Bool) : Prop := ∃ cur t, W.heap[D]? = some (.cells cur t (0, 0)) ∧ ∀ j, j < 8 → cur[j]? = some (.bool (o j))
section
variable {W W' : World} {D : Nat} {o : Nat → Bool}
theorem ListB.cell (h : ListB W D o) {j : Nat} (hj : j < 8) : W.cell? ⟨D, j, none⟩ = some (.bool (o j)) := by
  obtain ⟨cur, t, h1, h2⟩ := h
  rw [cell_of_row W D j _ _ _ h1, h2 j hj]
theorem ListB.free (h : ListB W D o) (j : Nat) : W.frozen? ⟨D, j, none⟩ = false := by
  obtain ⟨cur, t, h1, _⟩ := h
  exact frozen_of_row W D j _ _ h1
theorem ListB.lt (h : ListB W D o) : D < W.heap.size := by
  obtain ⟨cur, t, h1, _⟩ := h
  exact (Array.getElem?_eq_some_iff.1 h1).1
theorem ListB.on (h : ListB W D o) (hk : W'.heap[D]? = W.heap[D]?) : ListB W' D o := by
  obtain ⟨cur, t, h1, h2⟩ := h
  exact ⟨cur, t, hk.trans h1, h2⟩
theorem ListB.put (h : ListB W D o) {c : Nat} (hc : c < 8) : ListB (W.setCell ⟨D, c, none⟩ (.bool true)) D (upB o c) := by
  obtain ⟨cur, t, h1, h2⟩ := h
  refine ⟨cur.setIfInBounds c (.bool true), t, heap_setCell_same _ _ _ _ _ _ h1, fun j hj => ?_⟩
  rw [Array.getElem?_setIfInBounds]
  by_cases e : c = j
  · subst e
    have hlt : c < cur.size := by
      rcases Nat.lt_or_ge c cur.size with h | h
      · exact h
      · have := h2 c hc; rw [Array.getElem?_eq_none h] at this; cases this
    simp [hlt, upB]
  · rw [if_neg e, h2 j hj]
    simp [Ne.symm e, upB]
end
/-- The lines and the statement's own list of those that are detached. -/
structure Al (LI : World → Nat → Nat → (Nat → Int) → Prop) (w W : World) (p b D : Nat) (S : Nat → Int) (o : Nat → Bool) : Prop where
  hp : Hp LI w W p b S
  row : ListB W D o
  lt : p < D ∧ b < D
section
variable {LI : World → Nat → Nat → (Nat → Int) → Prop} {w W W' : World} {p b D : Nat} {S S' : Nat → Int} {o : Nat → Bool}
theorem Al.on (h : Al LI w W p b D S o) (HP : Pg LI) (hB : Below W.heap.size W W') : Al LI w W' p b D S o := ⟨h.hp.on HP hB, h.row.on (hB.block D h.row.lt), h.lt⟩
theorem Al.turn (h : Al LI w W p b D S o) (hp : Hp LI w W' p b S') (hB : But b W W') : Al LI w W' p b D S' o := by
  have := h.lt
  exact ⟨hp, h.row.on (hB.block D h.row.lt (by omega)), h.lt⟩
theorem Al.put (h : Al LI w W p b D S o) (HP : Pg LI) {c : Nat} (hc : c < 8) : Al LI w (W.setCell ⟨D, c, none⟩ (.bool true)) p b D S (upB o c) := by
  have h1 := h.lt
  have h2 := h.hp.ge
  have hB : Below D W (W.setCell ⟨D, c, none⟩ (.bool true)) := (Below.refl D W).setCell (show D ≤ (⟨D, c, none⟩ : Addr).block from Nat.le_refl D) _
  exact ⟨⟨HP.on _ _ _ _ _ h.hp.li (hB.block p h1.1) (hB.block b h1.2), h.hp.gd, h2, h.hp.below.trans (hB.mono (by omega))⟩, h.row.put hc, h1⟩
theorem al_new (h : Hp LI w W p b S) (HP : Pg LI) (t : TypeId) : Al LI w (W.alloc (.cells #[.bool false, .bool false, .bool false, .bool false, .bool false, .bool false, .bool false, .bool false] t)) p b W.heap.size S fun _ => false := by
  refine ⟨h.on HP ((Below.refl _ _).alloc (Nat.le_refl _) _), ⟨_, t, heap_alloc_new _ _, fun j hj => ?_⟩, HP.lt _ _ _ _ h.li⟩
  match j, hj with
  | 0, _ => rfl
  | 1, _ => rfl
  | 2, _ => rfl
  | 3, _ => rfl
  | 4, _ => rfl
  | 5, _ => rfl
  | 6, _ => rfl
  | 7, _ => rfl
end
set_option maxRecDepth 100000 in
set_option maxHeartbeats 8000000 in
theorem all_walk {LI : World → Nat → Nat → (Nat → Int) → Prop} (f : Int) (a1 : Option Addr) (len1 cap1 : Nat) (w : World) (hf : I64 f) (D1 : Hid (Came .u8 w.heap.size w a1 len1)) (l1 : len1 ≤ 9223372036854775807) (HP : Hid (Pg LI)) :
    Calls Try.prog 6 #[.int .i64 f, .slice a1 len1 cap1] w fun e w' => e = .returned (.bool true) ∧ Below w.heap.size w w' := by
  by_cases hok : okG f = true
  case neg =>
    have hb : f < 0 ∨ (¬ f < 0 ∧ (64 : Int) ≤ f) := by
      rw [okG_iff] at hok
      omega
    clear hok
    rcases hb with n1 | ⟨n1, n2⟩
    all_goals
      go_enter Try.func6, Try.ntmps6
      go_wp2_with (first
        | (go_at_call 7; refine (hp_new HP.out _).mono ?_; rintro e1 w1 ⟨p, b, rfl, h⟩; have H1 := rhide h; clear h)
        | (go_at_call 17; refine (awake_any HP _).mono ?_; rintro e8 v8 ⟨rfl, hB8⟩; have H8 : Hid (Below w.heap.size w v8) := H1.out.below.trans (hB8.mono H1.out.below.size); clear hB8)
        | fail)
      go_ret
      exact ⟨rfl, H8.out⟩
  case pos =>
  obtain ⟨f1, f2⟩ := (okG_iff f).1 hok
  have n1 : ¬ f < 0 := by omega
  have n2 : ¬ (64 : Int) ≤ f := by omega
  have HF := rhide hf
  have HK := rhide hok
  clear hf hok
  go_enter Try.func6, Try.ntmps6
  go_wp2_with (first
    | (go_at_call 7; refine (hp_new HP.out _).mono ?_; rintro e1 w1 ⟨p, b, rfl, h⟩; have H1 := rhide h; clear h)
    | fail)
  go_loopw [6] (fun i wr => ∃ k : Nat, k ≤ 8 ∧ i = .int .i64 k ∧ Hp LI w wr p b (allS f k)) (fun i _ => 8 - (intOf i).toNat)
  case atStart => exact ⟨0, by omega, rfl, by rw [all_zero]; exact H1.out⟩
  case round =>
    obtain ⟨k, hk, rfl, hI⟩ := hrel
    have HI := rhide hI
    clear hI H1
    by_cases hlt : k < 8
    · have i1 : (k : Int) < 8 := by omega
      have hL : okL (k : Int) = true := okL_nat hlt
      have h0 : allS f k k = 0 := by unfold allS; rw [if_neg (by omega)]
      have h1 : allS f (k + 1) k = f + 1 := by unfold allS; rw [if_pos (by omega)]
      obtain ⟨e1, e2⟩ := at_ok (S := allS f k) (l := (k : Int)) (f := f) (by rw [hL, HK.out]; rfl) (by rw [Int.toNat_natCast]; exact h0)
      rw [Int.toNat_natCast, all_step] at e2
      obtain ⟨e3, e4⟩ := at_used (S := allS f (k + 1)) (l := (k : Int)) (f := f) (by rw [hL, HK.out]; rfl) (by rw [Int.toNat_natCast, h1]; omega)
      have HA : Hid (∀ wx, Hp LI w wx p b (allS f k) → Calls Try.prog 11 #[.pointer (some ⟨p, 0, none⟩), .int .i64 k, .int .i64 f] wx fun e w' => e = .returned (.int .i64 0) ∧ Hp LI w w' p b (allS f (k + 1))) := fun wx h => by
        have := hp_attach HP.out h (l := (k : Int)) (f := f) (by unfold I64; omega) HF.out
        rw [e1, e2] at this
        exact this.mono fun e w' ⟨q1, q2, _⟩ => ⟨q1, q2⟩
      have HB : Hid (∀ wx, Hp LI w wx p b (allS f (k + 1)) → Calls Try.prog 11 #[.pointer (some ⟨p, 0, none⟩), .int .i64 k, .int .i64 f] wx fun e w' => e = .returned (.int .i64 10) ∧ Hp LI w w' p b (allS f (k + 1))) := fun wx h => by
        have := hp_attach HP.out h (l := (k : Int)) (f := f) (by unfold I64; omega) HF.out
        rw [e3, e4] at this
        exact this.mono fun e w' ⟨q1, q2, _⟩ => ⟨q1, q2⟩
      clear e1 e2 e3 e4 h0 h1 hL
      go_wp2_with (first
        | (go_at_call 11; refine (HA.out _ HI.out).mono ?_; rintro e3 w3 ⟨rfl, h⟩; have H3 := rhide h; clear h HA HI)
        | (go_at_call 11; refine (HB.out _ H3.out).mono ?_; rintro e4 w4 ⟨rfl, h⟩; have H4 := rhide h; clear h HB H3)
        | fail)
      go_roundw
      case rel => exact ⟨k + 1, by omega, by go_num, H4.out⟩
      case measure => simp [intOf]; omega
    · obtain rfl : k = 8 := by omega
      go_upto_region 10 with fail
      have K2 : Al LI w (wr.alloc (.cells #[.bool false, .bool false, .bool false, .bool false, .bool false, .bool false, .bool false, .bool false] 43)) p b wr.heap.size (offS f fun _ => false) (fun _ => false) := al_new (by rw [← off_none]; exact HI.out) HP.out _
      generalize wr.alloc _ = v2 at K2 ⊢
      generalize wr.heap.size = D at K2 ⊢
      have H2 := rhide K2
      clear K2 HI
      have hn := left_all HK.out
      go_wp2
      go_loopw [8, 9] (fun n i wr => ∃ (k : Nat) (o : Nat → Bool), k ≤ len1 ∧ i = .int .i64 k ∧ n = .int .i64 (leftN f o : Nat) ∧ Al LI w wr p b D (offS f o) o) (fun _ i _ => len1 - (intOf i).toNat)
      case atStart => exact ⟨0, _, by omega, rfl, by rw [hn]; rfl, H2.out⟩
      case round =>
        obtain ⟨k, o, hk1, rfl, rfl, hJ⟩ := hrel
        have HJ := rhide hJ
        clear hJ H2 hn
        have hle := left_le f o
        by_cases hin : k < len1 ∧ k < 20
        · obtain ⟨h0, h1⟩ := hin
          obtain ⟨b0, o0, z, rfl, hz, G0⟩ := D1.out.any h0
          have i0 : (k : Int) < (len1 : Int) := by omega
          have i2 : (k : Int) < 20 := by omega
          have c0 := G0.out wr HJ.out.hp.below
          obtain ⟨t, ht, ht8⟩ := rem_u8 hz.out 8 (by omega)
          have hzb := bounds_u8 hz.out
          have ht' : z.tmod 8 = (t : Int) := ht
          have u1 : IntKind.i64.wrap z = z := wrapi_small (by omega) (by omega)
          have i3 : (t : Int) < 8 := by omega
          clear hz ht hzb
          cases ho : o t
          case false =>
            obtain ⟨d1, d2, d3⟩ := off_yes (f := f) ht8 ho f1
            have hs := left_yes ht8 ho HK.out
            have HD : Hid (∀ wx, Al LI w wx p b D (offS f o) o → Calls Try.prog 9 #[.pointer (some ⟨p, 0, none⟩), .int .i64 t] wx fun e w' => e = .returned (.tuple #[.int .i64 f, .int .i64 0]) ∧ Al LI w w' p b D (offS f (upB o t)) o) := fun wx h => by
              have := hp_detach HP.out h.hp (l := (t : Int)) (by unfold I64; omega)
              rw [d1, d2, d3] at this
              exact this.mono fun e w' ⟨q1, q2, q3⟩ => ⟨q1, h.turn q2 q3⟩
            clear d1 d2 d3
            generalize leftN f o = m at hs hle ⊢
            have bf : (f != f) = false := by simp
            have dm : wrap64 ((m : Int) - 1) = (m : Int) - 1 := by unfold wrap64; omega
            have dm' : IntKind.i64.wrap ((m : Int) - 1) = (m : Int) - 1 := wrapi_small (by omega) (by omega)
            go_wp2_with (first
              | (go_at_call 9; refine (HD.out _ HJ.out).mono ?_; rintro e3 w3 ⟨rfl, h⟩; have H3 := rhide h; clear h HD HJ c0; have c1 : w3.cell? ⟨D, t, none⟩ = some (.bool false) := (by rw [H3.out.row.cell ht8, ho]); have fz := H3.out.row.free t)
              | fail)
            go_roundw
            case rel => exact ⟨k + 1, upB o t, by omega, by go_num, by (congr 1; omega), H3.out.put HP.out ht8⟩
            case measure => simp [intOf]; omega
          case true =>
            obtain ⟨d1, d2, d3⟩ := off_no (f := f) ht8 ho
            have hs := left_no (f := f) ho
            have HD : Hid (∀ wx, Al LI w wx p b D (offS f o) o → Calls Try.prog 9 #[.pointer (some ⟨p, 0, none⟩), .int .i64 t] wx fun e w' => e = .returned (.tuple #[.int .i64 0, .int .i64 3]) ∧ Al LI w w' p b D (offS f (upB o t)) o) := fun wx h => by
              have := hp_detach HP.out h.hp (l := (t : Int)) (by unfold I64; omega)
              rw [d1, d2, d3] at this
              exact this.mono fun e w' ⟨q1, q2, q3⟩ => ⟨q1, h.turn q2 q3⟩
            clear d1 d2 d3
            go_wp2_with (first
              | (go_at_call 9; refine (HD.out _ HJ.out).mono ?_; rintro e3 w3 ⟨rfl, h⟩; have H3 := rhide h; clear h HD HJ c0; have c1 : w3.cell? ⟨D, t, none⟩ = some (.bool true) := (by rw [H3.out.row.cell ht8, ho]); have fz := H3.out.row.free t)
              | fail)
            go_roundw
            case rel => exact ⟨k + 1, upB o t, by omega, by go_num, by rw [hs], H3.out.put HP.out ht8⟩
            case measure => simp [intOf]; omega
        · have hin' : ¬ (k : Int) < (len1 : Int) ∨ ((k : Int) < (len1 : Int) ∧ ¬ (k : Int) < 20) := by omega
          clear hin
          have HH : Hid (∀ wx, Al LI w wx p b D (offS f o) o → Calls Try.prog 15 #[.pointer (some ⟨p, 0, none⟩), .int .i64 f] wx fun e w' => e = .returned (.int .i64 (leftN f o : Nat)) ∧ Al LI w w' p b D (offS f o) o) := fun wx h => (hp_has HP.out h.hp HF.out).mono fun e w' ⟨q1, q2, q3⟩ => ⟨q1, h.on HP.out q3⟩
          generalize leftN f o = m at hle HH ⊢
          have bm : ((m : Int) == (m : Int)) = true := by simp
          rcases hin' with n1 | ⟨n1, n2⟩
          all_goals
            go_wp2_with (first
              | (go_at_call 15; refine (HH.out _ HJ.out).mono ?_; rintro e3 w3 ⟨rfl, h⟩; have H3 := rhide h; clear h HH HJ)
              | (go_at_call 17; refine (awake_any HP _).mono ?_; rintro e8 v8 ⟨rfl, hB8⟩; have H8 : Hid (Below w.heap.size w v8) := H3.out.hp.below.trans (hB8.mono H3.out.hp.below.size); clear hB8)
              | fail)
            go_ret
            exact ⟨rfl, H8.out⟩
end Go.Proofs.Ytefoofcfbcmjcaa.Phw
