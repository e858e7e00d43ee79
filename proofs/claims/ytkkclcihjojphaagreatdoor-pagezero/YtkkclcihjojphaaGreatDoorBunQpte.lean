import Derived.Test.YtkkclcihjojphaaGreatDoorPkA
import Derived.Test.YtkkclcihjojphaaGreatDoorBunField
import Derived.Deep.CutBlock
import Derived.BigRegion
set_option linter.unusedVariables false
set_option linter.unusedSimpArgs false
set_option maxRecDepth 100000
set_option maxHeartbeats 20000000
namespace Go.Proofs.YtkkclcihjojphaaGreatDoor
namespace Ppte
open Pbase Go.RowKit
def Rt (o : Bool) (f r t : Int) : Prop := (o = true -> 0 <= f /\ f <= 63 /\ 1 <= r /\ r <= 3 /\ t = 0) /\ (o = false -> f = 0 /\ r = 0 /\ 0 <= t /\ t <= 1073741824)
def rtB (o : Bool) (f r t : Int) : Bool :=
 (!o || (decide (0 <= f) && decide (f < 64) && decide (1 <= r) && decide (r <= 3) && decide (t = 0))) && (o || (decide (f = 0) && decide (r = 0) && decide (0 <= t) && decide (t <= 1073741824)))
theorem rtB_iff (o : Bool) (f r t : Int) : rtB o f r t = true ↔ Rt o f r t := by
 unfold rtB Rt
 cases o
 · simp
   omega
 · simp
   omega
theorem rtB_yes {o : Bool} {f r t : Int} (h : Rt o f r t) : rtB o f r t = true := (rtB_iff o f r t).2 h
theorem rtB_no {o : Bool} {f r t : Int} (h : ¬ Rt o f r t) : rtB o f r t = false := Bool.eq_false_iff.2 fun e => h ((rtB_iff o f r t).1 e)
def chk (o : Bool) (f r t : Int) : Int := if rtB o f r t = true then 0 else 1
theorem chk_yes {o : Bool} {f r t : Int} (h : Rt o f r t) : chk o f r t = 0 := by unfold chk; rw [if_pos (rtB_yes h)]
theorem chk_no {o : Bool} {f r t : Int} (h : ¬ Rt o f r t) : chk o f r t = 1 := by unfold chk; rw [rtB_no h]; rfl
theorem rt_bd {o : Bool} {f r t : Int} (h : Rt o f r t) : (0 <= f /\ f <= 63) /\ (0 <= r /\ r <= 3) /\ 0 <= t /\ t <= 1073741824 := by
 unfold Rt at h
 cases o
 · have := h.2 rfl; omega
 · have := h.1 rfl; omega
def quB (o : Bool) (f r t fl : Int) : Bool := rtB o f r t && !o && (decide (t = 0) || decide (t < fl))
def mpB (o : Bool) (f r t : Int) : Bool := rtB o f r t && o
def nnB (o : Bool) (f r t : Int) : Bool := rtB o f r t && !o
theorem mpB_yes {f r t : Int} (h : 0 <= f /\ f <= 63 /\ 1 <= r /\ r <= 3 /\ t = 0) : mpB true f r t = true := by
 unfold mpB
 rw [rtB_yes (o := true) ⟨fun _ => h, fun e => by cases e⟩]
 rfl
theorem mpB_no {f r t : Int} (h : ¬ (0 <= f /\ f <= 63 /\ 1 <= r /\ r <= 3 /\ t = 0)) : mpB true f r t = false := by
 unfold mpB
 rw [rtB_no (o := true) fun hh => h (hh.1 rfl)]
 rfl
theorem mpB_off (f r t : Int) : mpB false f r t = false := by simp [mpB]
theorem nnB_yes {f r t : Int} (h : f = 0 /\ r = 0 /\ 0 <= t /\ t <= 1073741824) : nnB false f r t = true := by
 unfold nnB
 rw [rtB_yes (o := false) ⟨fun e => (by cases e), fun _ => h⟩]
 rfl
theorem nnB_no {f r t : Int} (h : ¬ (f = 0 /\ r = 0 /\ 0 <= t /\ t <= 1073741824)) : nnB false f r t = false := by
 unfold nnB
 rw [rtB_no (o := false) fun hh => h (hh.2 rfl)]
 rfl
theorem nnB_on (f r t : Int) : nnB true f r t = false := by simp [nnB]
theorem rtB_or (o : Bool) (f r t : Int) : rtB o f r t = (mpB o f r t || nnB o f r t) := by
 unfold mpB nnB
 cases rtB o f r t <;> cases o <;> rfl
theorem chk_of (o : Bool) (f r t : Int) : chk o f r t = if mpB o f r t || nnB o f r t then 0 else 1 := by
 unfold chk
 rw [rtB_or]
theorem quB_of (o : Bool) (f r t fl : Int) : quB o f r t fl = (nnB o f r t && (decide (t = 0) || decide (t < fl))) := rfl
end Ppte
namespace Ppte
open Pbase Pfield Go.RowKit M
def ws : List Int := [1, 6, 2, 31]
theorem ws_length : ws.length = 4 := rfl
def bz : Bool -> Int
 | true => 1
 | false => 0
theorem mask1 : maskF 1 = 1 := by decide
theorem mask6 : maskF 6 = 63 := by decide
theorem mask2 : maskF 2 = 3 := by decide
theorem mask31 : maskF 31 = 2147483647 := by decide
def wd (o : Bool) (f r t : Int) : Int := packF ws [bz o, f, r, t]
theorem put_can {o : Bool} {f r t : Int} (h : Rt o f r t) : (∀ j : Nat, 0 <= [bz o, f, r, t][j]?.getD 0 /\ [bz o, f, r, t][j]?.getD 0 <= 18446744073709551615) /\ ∀ j, j < ws.length -> okP ws [bz o, f, r, t] j = true := by
 have hz : 0 <= bz o /\ bz o <= 1 := by cases o <;> simp [bz]
 have hb := rt_bd h
 generalize bz o = b at hz
 constructor
 · intro j
   match j with
   | 0 | 1 | 2 | 3 => simp; omega
   | j + 4 => simp
 · intro j hj
   match j, hj with
   | 0, _ | 1, _ | 2, _ | 3, _ =>
     simp [okP, inB, fitsB, mask1, mask6, mask2, mask31, sumTo, ws, wrap64]
     omega
def gN (x : Int) (j : Nat) : Int := (getsI x ws)[j]?.getD 0
theorem gN_bd {x : Int} (hx : 0 <= x /\ x <= 18446744073709551615) (h : canU x ws) : (0 <= gN x 0 /\ gN x 0 <= 1) /\ (0 <= gN x 1 /\ gN x 1 <= 63) /\ (0 <= gN x 2 /\ gN x 2 <= 3) /\ (0 <= gN x 3 /\ gN x 3 <= 2147483647) := by
 obtain ⟨h1, h2, _⟩ := unpack_pack hx h
 have m0 := (ok_parts (h2 0 (by decide))).2
 have m1 := (ok_parts (h2 1 (by decide))).2
 have m2 := (ok_parts (h2 2 (by decide))).2
 have m3 := (ok_parts (h2 3 (by decide))).2
 rw [show ws[0]?.getD 0 = 1 from rfl, fitsB, mask1, decide_eq_true_eq] at m0
 rw [show ws[1]?.getD 0 = 6 from rfl, fitsB, mask6, decide_eq_true_eq] at m1
 rw [show ws[2]?.getD 0 = 2 from rfl, fitsB, mask2, decide_eq_true_eq] at m2
 rw [show ws[3]?.getD 0 = 31 from rfl, fitsB, mask31, decide_eq_true_eq] at m3
 exact ⟨⟨(h1 0).1, m0⟩, ⟨(h1 1).1, m1⟩, ⟨(h1 2).1, m2⟩, ⟨(h1 3).1, m3⟩⟩
theorem wd_bd {o : Bool} {f r t : Int} (h : Rt o f r t) : 0 <= wd o f r t /\ wd o f r t <= 18446744073709551615 :=
 (pack_unpack (zs := ws) (vs := [bz o, f, r, t]) rfl (put_can h).1 (put_can h).2).1
def putW (o : Bool) (f r t : Int) : Int := if rtB o f r t = true then wd o f r t else 0
theorem putW_yes {o : Bool} {f r t : Int} (h : Rt o f r t) : putW o f r t = wd o f r t := by unfold putW; rw [if_pos (rtB_yes h)]
theorem putW_no {o : Bool} {f r t : Int} (h : ¬ Rt o f r t) : putW o f r t = 0 := by unfold putW; rw [rtB_no h]; rfl
def Got (x : Int) : Prop := canU x ws /\ Rt (gN x 0 == 1) (gN x 1) (gN x 2) (gN x 3)
def gotB (x : Int) : Bool := (List.range ws.length).all (okU ws) && fitsB x (sumTo ws ws.length) && rtB (gN x 0 == 1) (gN x 1) (gN x 2) (gN x 3)
theorem gotB_iff (x : Int) : gotB x = true ↔ Got x := by
 unfold gotB Got canU
 simp only [Bool.and_eq_true, rtB_iff, List.all_eq_true, List.mem_range]
theorem gotB_yes {x : Int} (h : Got x) : gotB x = true := (gotB_iff x).2 h
theorem gotB_no {x : Int} (h : ¬ Got x) : gotB x = false := Bool.eq_false_iff.2 fun e => h ((gotB_iff x).1 e)
def getO (x : Int) : Bool := gotB x && (gN x 0 == 1)
def getF (x : Int) : Int := if gotB x = true then gN x 1 else 0
def getR (x : Int) : Int := if gotB x = true then gN x 2 else 0
def getT (x : Int) : Int := if gotB x = true then gN x 3 else 0
def getE (x : Int) : Int := if gotB x = true then 0 else 12
theorem get_no {x : Int} (h : ¬ Got x) : getO x = false /\ getF x = 0 /\ getR x = 0 /\ getT x = 0 /\ getE x = 12 := by simp [getO, getF, getR, getT, getE, gotB_no h]
theorem get_yes {x : Int} (h : Got x) : getO x = (gN x 0 == 1) /\ getF x = gN x 1 /\ getR x = gN x 2 /\ getT x = gN x 3 /\ getE x = 0 := by simp [getO, getF, getR, getT, getE, gotB_yes h]
theorem got_back {o : Bool} {f r t : Int} (h : Rt o f r t) : getO (wd o f r t) = o /\ getF (wd o f r t) = f /\ getR (wd o f r t) = r /\ getT (wd o f r t) = t /\ getE (wd o f r t) = 0 := by
 obtain ⟨hb, hc, hg⟩ := pack_unpack (zs := ws) (vs := [bz o, f, r, t]) rfl (put_can h).1 (put_can h).2
 change canU (wd o f r t) ws at hc
 change getsI (wd o f r t) ws = _ at hg
 generalize wd o f r t = x at hc hg
 have g0 : (gN x 0 == 1) = o := by unfold gN; rw [hg]; cases o <;> rfl
 have g1 : gN x 1 = f := by unfold gN; rw [hg]; rfl
 have g2 : gN x 2 = r := by unfold gN; rw [hg]; rfl
 have g3 : gN x 3 = t := by unfold gN; rw [hg]; rfl
 have hG : Got x := ⟨hc, by rw [g0, g1, g2, g3]; exact h⟩
 obtain ⟨e0, e1, e2, e3, e4⟩ := get_yes hG
 exact ⟨e0.trans g0, e1.trans g1, e2.trans g2, e3.trans g3, e4⟩
end Ppte
namespace Ppte
open Pbase Go.RowKit
structure BoxP (w : World) (B : Nat) (o : Bool) (f r t : Int) : Prop where
 lt : B < w.heap.size
 c0 : w.cell? ⟨B, 0, none⟩ = some (.bool o)
 c1 : w.cell? ⟨B, 1, none⟩ = some (.int .i64 f)
 c2 : w.cell? ⟨B, 2, none⟩ = some (.int .i64 r)
 c3 : w.cell? ⟨B, 3, none⟩ = some (.int .i64 t)
 fz : ∀ j, w.frozen? ⟨B, j, none⟩ = false
theorem BoxP.on {w w' : World} {B : Nat} {o : Bool} {f r t : Int} (h : BoxP w B o f r t) (hB : Below w.heap.size w w') : BoxP w' B o f r t :=
 ⟨Nat.lt_of_lt_of_le h.lt hB.size, (hB.cell (p := ⟨B, 0, none⟩) h.lt).trans h.c0, (hB.cell (p := ⟨B, 1, none⟩) h.lt).trans h.c1, (hB.cell (p := ⟨B, 2, none⟩) h.lt).trans h.c2, (hB.cell (p := ⟨B, 3, none⟩) h.lt).trans h.c3, fun j => (hB.frozen (p := ⟨B, j, none⟩) h.lt).trans (h.fz j)⟩
theorem boxP_new (w : World) (o : Bool) (f r t : Int) (ty : TypeId) : BoxP (w.alloc (.cells #[.bool o, .int .i64 f, .int .i64 r, .int .i64 t] ty)) w.heap.size o f r t := by
 have h := heap_alloc_new w (.cells #[.bool o, .int .i64 f, .int .i64 r, .int .i64 t] ty)
 refine ⟨by simp, ?_, ?_, ?_, ?_, fun j => frozen_of_row _ _ _ _ _ h⟩ <;> (rw [cell_of_row _ _ _ _ _ _ h]; rfl)
theorem maps_any (o : Bool) (f r t : Int) (w : World) :
 Calls Tryz.prog 54 #[.agg #[.bool o, .int .i64 f, .int .i64 r, .int .i64 t]] w fun e w' => e = .returned (.bool (mpB o f r t)) /\ Below w.heap.size w w' := by
 cases o
 case false =>
  rw [mpB_off]
  go_enter Tryz.func54, Tryz.ntmps54
  go_wp2
  go_ret
  exact ⟨rfl, bal (Below.refl _ _) _⟩
 case true =>
 by_cases hc : 0 <= f /\ f <= 63 /\ 1 <= r /\ r <= 3 /\ t = 0
 · rw [mpB_yes hc]
   obtain ⟨h0, h1, h2, h3, rfl⟩ := hc
   have h4 : f < 64 := by omega
   go_enter Tryz.func54, Tryz.ntmps54
   go_wp2
   go_ret
   exact ⟨rfl, bal (Below.refl _ _) _⟩
 · rw [mpB_no hc]
   have hk : f < 0 \/ (¬ f < 0 /\ ¬ f < 64) \/ (¬ f < 0 /\ f < 64 /\ r < 1) \/ (¬ f < 0 /\ f < 64 /\ ¬ r < 1 /\ 3 < r) \/ ¬ f < 0 /\ f < 64 /\ ¬ r < 1 /\ ¬ 3 < r /\ ((t : Int) == 0) = false := by
    simp only [beq_eq_false_iff_ne, ne_eq]
    omega
   clear hc
   rcases hk with h0 | ⟨h0, h1⟩ | ⟨h0, h1, h2⟩ | ⟨h0, h1, h2, h3⟩ | ⟨h0, h1, h2, h3, h4⟩
   all_goals
    go_enter Tryz.func54, Tryz.ntmps54
    go_wp2
    go_ret
    exact ⟨rfl, bal (Below.refl _ _) _⟩
theorem none_any (o : Bool) (f r t : Int) (w : World) :
 Calls Tryz.prog 82 #[.agg #[.bool o, .int .i64 f, .int .i64 r, .int .i64 t]] w fun e w' => e = .returned (.bool (nnB o f r t)) /\ Below w.heap.size w w' := by
 cases o
 case true =>
  rw [nnB_on]
  go_enter Tryz.func82, Tryz.ntmps82
  go_wp2
  go_ret
  exact ⟨rfl, bal (Below.refl _ _) _⟩
 case false =>
 by_cases hc : f = 0 /\ r = 0 /\ 0 <= t /\ t <= 1073741824
 · rw [nnB_yes hc]
   obtain ⟨rfl, rfl, h2, h3⟩ := hc
   go_enter Tryz.func82, Tryz.ntmps82
   go_wp2
   go_ret
   exact ⟨rfl, bal (Below.refl _ _) _⟩
 · rw [nnB_no hc]
   have hk : ((f : Int) == 0) = false \/ (f = 0 /\ ((r : Int) == 0) = false) \/ (f = 0 /\ r = 0 /\ t < 0) \/ f = 0 /\ r = 0 /\ ¬ t < 0 /\ 1073741824 < t := by
    simp only [beq_eq_false_iff_ne, ne_eq]
    omega
   clear hc
   rcases hk with h0 | ⟨rfl, h1⟩ | ⟨rfl, rfl, h2⟩ | ⟨rfl, rfl, h2, h3⟩
   all_goals
    go_enter Tryz.func82, Tryz.ntmps82
    go_wp2
    go_ret
    exact ⟨by first | rfl | (show Ending.returned (.bool (decide (t <= 1073741824))) = _; rw [decide_eq_false (by omega)]), bal (Below.refl _ _) _⟩
theorem check_any (o : Bool) (f r t : Int) (w : World) :
 Calls Tryz.prog 48 #[.agg #[.bool o, .int .i64 f, .int .i64 r, .int .i64 t]] w fun e w' => e = .returned (.int .i64 (chk o f r t)) /\ Below w.heap.size w w' := by
 rw [chk_of]
 have HX : Hid (∀ ty, BoxP (w.alloc (.cells #[.bool o, .int .i64 f, .int .i64 r, .int .i64 t] ty)) w.heap.size o f r t) := fun ty => boxP_new w o f r t ty
 have HM : Hid (∀ w1, Calls Tryz.prog 54 #[.agg #[.bool o, .int .i64 f, .int .i64 r, .int .i64 t]] w1 fun e w' => e = .returned (.bool (mpB o f r t)) /\ Below w1.heap.size w1 w') := fun w1 => maps_any o f r t w1
 have HN : Hid (∀ w1, Calls Tryz.prog 82 #[.agg #[.bool o, .int .i64 f, .int .i64 r, .int .i64 t]] w1 fun e w' => e = .returned (.bool (nnB o f r t)) /\ Below w1.heap.size w1 w') := fun w1 => none_any o f r t w1
 generalize mpB o f r t = m at HM ⊢
 generalize nnB o f r t = n at HN ⊢
 cases m <;> cases n
 all_goals
  go_enter Tryz.func48, Tryz.ntmps48
  go_wp2_with (first
   | (go_at_call 54; refine (HM.out _).mono ?_; rintro e1 w1 ⟨rfl, hb1⟩; have H1 : Hid (Below w.heap.size w w1) := (bal (Below.refl _ _) _).trans (hb1.mono (by simp)); have X1 := (HX.out _).on hb1; clear hb1 HX; have x0 := X1.c0; have x1 := X1.c1; have x2 := X1.c2; have x3 := X1.c3; have xl := X1.lt; clear X1)
   | (go_at_call 82; refine (HN.out _).mono ?_; rintro e2 w2 ⟨rfl, hb2⟩; have H2 : Hid (Below w.heap.size w w2) := H1.out.trans (hb2.mono H1.out.size); clear hb2 H1; have H1 : Hid (Below w.heap.size w w2) := H2; clear H2)
   | fail)
  go_ret
  exact ⟨rfl, H1.out⟩
theorem quiet_any (o : Bool) (f r t q : Int) (w : World) :
 Calls Tryz.prog 84 #[.agg #[.bool o, .int .i64 f, .int .i64 r, .int .i64 t], .int .i64 q] w fun e w' => e = .returned (.bool (quB o f r t q)) /\ Below w.heap.size w w' := by
 rw [quB_of]
 have HX : Hid (∀ ty, BoxP (w.alloc (.cells #[.bool o, .int .i64 f, .int .i64 r, .int .i64 t] ty)) w.heap.size o f r t) := fun ty => boxP_new w o f r t ty
 have HN : Hid (∀ w1, Calls Tryz.prog 82 #[.agg #[.bool o, .int .i64 f, .int .i64 r, .int .i64 t]] w1 fun e w' => e = .returned (.bool (nnB o f r t)) /\ Below w1.heap.size w1 w') := fun w1 => none_any o f r t w1
 generalize nnB o f r t = m at HN ⊢
 have hk : (m = false \/ (m = true /\ t = 0)) \/ (m = true /\ ((t : Int) == 0) = false /\ t < q) \/ (m = true /\ ((t : Int) == 0) = false /\ ¬ t < q) := by
  cases m
  · simp
  · simp only [beq_eq_false_iff_ne, ne_eq]
    simp
    omega
 have hv : (m && (decide (t = 0) || decide (t < q))) = (m && ((t : Int) == 0 || decide (t < q))) := by
  congr 2
 rw [hv]
 clear hv
 rcases hk with (rfl | ⟨rfl, rfl⟩) | ⟨rfl, h0, h1⟩ | ⟨rfl, h0, h1⟩
 case' inr.inl => rw [h0, decide_eq_true h1]
 case' inr.inr => rw [h0, decide_eq_false h1]
 all_goals
  go_enter Tryz.func84, Tryz.ntmps84
  go_wp2_with (first
   | (go_at_call 82; refine (HN.out _).mono ?_; rintro e1 w1 ⟨rfl, hb1⟩; have H1 : Hid (Below w.heap.size w w1) := (bal (Below.refl _ _) _).trans (hb1.mono (by simp)); have X1 := (HX.out _).on hb1; clear hb1 HX; have x0 := X1.c0; have x1 := X1.c1; have x2 := X1.c2; have x3 := X1.c3; have xl := X1.lt; clear X1)
   | fail)
  go_ret
  refine ⟨?_, H1.out⟩
  first
   | rfl
   | (show Ending.returned (.bool (decide (t < q))) = _; rw [decide_eq_false (by omega)]; rfl)
end Ppte
namespace Ppte
open Pbase Pfield Go.RowKit M
structure TabW (w : World) : Prop where
 lt : 0 < w.heap.size
 row : ∃ t fr, w.heap[(0 : Nat)]? = some (.cells #[.int .i64 1, .int .i64 6, .int .i64 2, .int .i64 31] t fr)
theorem TabW.on {w w' : World} (h : TabW w) (hB : Below w.heap.size w w') : TabW w' :=
 ⟨Nat.lt_of_lt_of_le h.lt hB.size, by obtain ⟨t, fr, hr⟩ := h.row; exact ⟨t, fr, (hB.block 0 h.lt).trans hr⟩⟩
theorem TabW.cells {w : World} (h : TabW w) : w.cell? ⟨0, 0, none⟩ = some (.int .i64 1) /\ w.cell? ⟨0, 1, none⟩ = some (.int .i64 6) /\ w.cell? ⟨0, 2, none⟩ = some (.int .i64 2) /\ w.cell? ⟨0, 3, none⟩ = some (.int .i64 31) := by
 obtain ⟨t, fr, hr⟩ := h.row
 exact ⟨(cell_of_row _ _ 0 _ _ _ hr).trans rfl, (cell_of_row _ _ 1 _ _ _ hr).trans rfl, (cell_of_row _ _ 2 _ _ _ hr).trans rfl, (cell_of_row _ _ 3 _ _ _ hr).trans rfl⟩
theorem ints_ws (w : World) (ty : TypeId) : Ints .i64 (w.alloc (.cells #[.int .i64 1, .int .i64 6, .int .i64 2, .int .i64 31] ty)).heap.size (w.alloc (.cells #[.int .i64 1, .int .i64 6, .int .i64 2, .int .i64 31] ty)) (.slice (some ⟨w.heap.size, 0, none⟩) 4 4) ws := by
 refine .inr ⟨w.heap.size, 0, 4, rfl, by simp, fun j hj => ?_⟩
 rw [Nat.zero_add, cell_of_row _ _ j _ _ _ (heap_alloc_new w _)]
 match j, hj with
 | 0, _ | 1, _ | 2, _ | 3, _ => rfl
theorem ints_four (q : IntKind) (w : World) (x y z v : Int) (ty : TypeId) : Ints q (w.alloc (.cells #[.int q x, .int q y, .int q z, .int q v] ty)).heap.size (w.alloc (.cells #[.int q x, .int q y, .int q z, .int q v] ty)) (.slice (some ⟨w.heap.size, 0, none⟩) 4 4) [x, y, z, v] := by
 refine .inr ⟨w.heap.size, 0, 4, rfl, by simp, fun j hj => ?_⟩
 rw [Nat.zero_add, cell_of_row _ _ j _ _ _ (heap_alloc_new w _)]
 match j, hj with
 | 0, _ | 1, _ | 2, _ | 3, _ => rfl
theorem bit_any (o : Bool) (w : World) : Calls Tryz.prog 136 #[.bool o] w fun e w' => e = .returned (.int .i64 (bz o)) /\ w' = w := by
 cases o
 · go_enter Tryz.func136, Tryz.ntmps136
   go_wp2
   go_ret
   exact ⟨rfl, rfl⟩
 · go_enter Tryz.func136, Tryz.ntmps136
   go_wp2
   go_ret
   exact ⟨rfl, rfl⟩
theorem infoU : (Tryz.prog.info? 83).map (fun i => (i.zero, i.size, i.bytes)) = some (some (.int .u64 0), 1, 8) := by kernel_rfl
theorem one_cell (w : World) (v : Value) (t : TypeId) : ∀ j u, ([v] : List Value)[j]? = some u -> (w.alloc (.cells #[v] t)).cell? ((⟨w.heap.size, 0, none⟩ : Addr).add j) = some u := by
 intro j u hj
 match j, hj with
 | 0, hj => simp at hj; subst hj; simp [Addr.add]
theorem own_ge' {w : World} {base : Nat} {e : TypeId} {v : Value} {n : Nat} {xs : List Value} (h : w.ownsRow base e 1 v n xs) : ∀ k, v.ownBlock = some k -> base <= k := fun k hk => (h.lt k hk).1
theorem ints_own {q : IntKind} {W : World} {base : Nat} {t : TypeId} {v : Value} {n : Nat} {xs : List Int} (h : W.ownsRow base t 1 v n (xs.map (Value.int q))) (hn : xs.length = n) : ∃ a c, v = .slice a n c /\ n <= c /\ Ints q W.heap.size W (.slice a n c) xs := by
 subst hn
 rcases h.2 with ⟨rfl, h0⟩ | ⟨g, cap, cur, rfl, hg, hb, h1, h2, h3, h4⟩
 · refine ⟨none, 0, by rw [h0], by omega, .inl ⟨none, 0, by rw [h0], by simpa using h0⟩⟩
 · refine ⟨_, _, rfl, h1, .inr ⟨g, 0, cap, rfl, (Array.getElem?_eq_some_iff.1 hb).1, fun j hj => ?_⟩⟩
   have hc := h.cellAt (g := g) j (by simpa using hj)
   rw [Nat.zero_add, hc]
   simp [hj]
theorem take_snoc (p : IntKind) (zs : List Int) {k : Nat} (h : k < zs.length) : ((zs.take (k + 1)).map (Value.int p)) = (zs.take k).map (Value.int p) ++ [.int p (zs[k]?.getD 0)] := by
 rw [List.take_succ_eq_append_getElem h, List.map_append, List.map_cons, List.map_nil, List.getElem?_eq_getElem h, Option.getD_some]
theorem small_at {zs : List Int} (h : ∀ j : Nat, 0 <= zs[j]?.getD 0 /\ zs[j]?.getD 0 <= 18446744073709551615) (k : Nat) : IntKind.u64.wrap (zs[k]?.getD 0) = zs[k]?.getD 0 := wrapu_small (h k).1 (h k).2
theorem packP_ok (a : Option Addr) (cap : Nat) (zs : List Int) (w : World) (hl : zs.length = 4) (hI : Ints .i64 w.heap.size w (.slice a 4 cap) zs) (hs : ∀ j : Nat, 0 <= zs[j]?.getD 0 /\ zs[j]?.getD 0 <= 18446744073709551615) (hW : TabW w) (hA : ∀ j, j < ws.length -> okP ws zs j = true) :
 Calls Tryz.prog 135 #[.slice a 4 cap] w fun e w' => e = .returned (.tuple #[.int .u64 (packF ws zs), .int .i64 0]) /\ Below w.heap.size w w' := by
 obtain ⟨it, hi, hz0, hz1, hz2⟩ := info_parts infoU
 have HI : Hid (Ints .i64 w.heap.size w (.slice a 4 cap) zs) := hI
 have HL : Hid (zs.length = 4) := hl
 have HS : Hid (∀ j : Nat, 0 <= zs[j]?.getD 0 /\ zs[j]?.getD 0 <= 18446744073709551615) := hs
 have HW : Hid (TabW w) := hW
 have HA : Hid (∀ j, j < ws.length -> okP ws zs j = true) := hA
 clear hI hl hs hW hA
 obtain ⟨y, hy⟩ : ∃ y, y = packF ws zs := ⟨_, rfl⟩
 rw [<- hy]
 have HY : Hid (y = packF ws zs) := hy
 clear hy
 go_enter Tryz.func135, Tryz.ntmps135
 go_wp2_with (first
  | (at_make; refine wpList_make_own _ rfl _ _ 211 rfl w.heap.size 83 it (.int .u64 0) 1 Tryz.underlying211 hi hz0 hz1 _ _ _ 4 rfl rfl (by omega) (by rw [hz2]; omega) (by unfold maxLen; omega) (Nat.le_refl _) ?_; intro w0 hown0 hgrow0; have HO0 : Hid (w0.ownsRow w.heap.size 83 1 (.slice (some ⟨w.heap.size, 0, none⟩) 0 4) 0 ((zs.take 0).map (Value.int .u64))) := hown0; have HB0 : Hid (Below w.heap.size w w0) := (Below.refl _ _).grown hgrow0 (Nat.le_refl _) (fun k h => by cases h); clear hown0 hgrow0)
  | fail)
 go_loopw [4, 13] (fun l i wr => ∃ k : Nat, k <= 4 /\ i = .int .i64 k /\ wr.ownsRow w.heap.size 83 1 l k ((zs.take k).map (Value.int .u64)) /\ Below w.heap.size w wr) (fun _ i _ => 4 - (intOf i).toNat)
 case atStart => exact ⟨0, by omega, rfl, HO0.out, HB0.out⟩
 case round =>
  obtain ⟨k, hk, rfl, hO, hB⟩ := hrel
  obtain ⟨av, cv, rfl⟩ := ownsRow_slice hO
  have HO : Hid (wr.ownsRow w.heap.size 83 1 (.slice av k cv) k ((zs.take k).map (Value.int .u64))) := hO
  have HB : Hid (Below w.heap.size w wr) := hB
  clear hO hB HO0 HB0
  by_cases hlt : k < 4
  · have hki : (k : Int) < 4 := by omega
    obtain ⟨bz, oz, z, ha, hz, HZ⟩ := ints_at' (HI.out.below HB.out) (show k < zs.length by rw [HL.out]; exact hlt)
    subst ha
    go_wp2_with (first
     | (at_builtin; refine wpList_append_own_at _ rfl _ _ 211 rfl w.heap.size 83 it (.int .u64 0) 1 8 Tryz.underlying211 hi hz0 hz1 hz2 rfl (by decide) _ _ _ rfl (HO.out.alloc _) _ 1 1 [.int .u64 (IntKind.u64.wrap z)] rfl rfl (one_cell wr _ _) (by simp [Value.oneCell']) (by unfold maxLen; omega) (by omega) (by have := HB.out.size; simp; omega) ?_; intro v1 w3 hown hgrow _ hat; have HO3 : Hid (w3.ownsRow w.heap.size 83 1 v1 (k + 1) ((zs.take (k + 1)).map (Value.int .u64))) := (by rw [take_snoc .u64 zs (by rw [HL.out]; exact hlt), <- small_at HS.out k, HZ.out]; exact hown); have H3 : Hid (Below w.heap.size w w3) := (HB.out.alloc HB.out.size _).grown hgrow (by have := HB.out.size; simp; omega) (own_ge' HO.out); clear hown hgrow hat)
     | fail)
    go_roundw
    case rel => exact ⟨k + 1, by omega, by go_num, HO3.out, H3.out⟩
    case measure => simp [intOf]; omega
  · obtain rfl : k = 4 := by omega
    have ho := HO.out
    rw [List.take_of_length_le (by rw [HL.out]; omega)] at ho
    obtain ⟨a', c', e, hc', hi'⟩ := ints_own ho HL.out
    cases e
    have HJ : Hid (Ints .u64 wr.heap.size wr (.slice av 4 cv) zs) := hi'
    clear ho hi' HO hc'
    have HT : Hid (TabW wr) := HW.out.on HB.out
    obtain ⟨g0, g1, g2, g3⟩ := HT.out.cells
    have gl := HT.out.lt
    have HK : Hid (∀ ty, Calls Tryz.prog 220 #[.slice (some ⟨wr.heap.size, 0, none⟩) 4 4, .slice av 4 cv] (wr.alloc (.cells #[.int .i64 1, .int .i64 6, .int .i64 2, .int .i64 31] ty)) fun e w' => e = .returned (.tuple #[.int .u64 y, .int .i64 0]) /\ Below w.heap.size w w') := fun ty =>
     (pack_ok (some ⟨wr.heap.size, 0, none⟩) av 4 cv ws zs _ (by decide) HL.out.symm HS.out (ints_ws wr ty) (HJ.out.on (bal (Below.refl _ _) _)) HA.out).mono fun e w' ⟨he, hb⟩ => ⟨by rw [HY.out]; exact he, HB.out.trans (((bal (Below.refl _ _) _).trans (hb.mono (by simp))).mono HB.out.size)⟩
    go_wp2_with (first
     | (go_at_call 220; refine (HK.out _).mono ?_; rintro e2 w2 ⟨rfl, hb2⟩; have H2 : Hid (Below w.heap.size w w2) := hb2; clear hb2)
     | fail)
    go_ret2
    exact ⟨rfl, H2.out⟩
theorem put_any (o : Bool) (f r t : Int) (w : World) (hW : TabW w) :
 Calls Tryz.prog 75 #[.agg #[.bool o, .int .i64 f, .int .i64 r, .int .i64 t]] w fun e w' => e = .returned (.tuple #[.int .u64 (putW o f r t), .int .i64 (chk o f r t)]) /\ Below w.heap.size w w' := by
 have HX : Hid (∀ ty, BoxP (w.alloc (.cells #[.bool o, .int .i64 f, .int .i64 r, .int .i64 t] ty)) w.heap.size o f r t) := fun ty => boxP_new w o f r t ty
 have HC : Hid (∀ w1, Calls Tryz.prog 48 #[.agg #[.bool o, .int .i64 f, .int .i64 r, .int .i64 t]] w1 fun e w' => e = .returned (.int .i64 (chk o f r t)) /\ Below w1.heap.size w1 w') := fun w1 => check_any o f r t w1
 by_cases hp : Rt o f r t
 case neg =>
  rw [putW_no hp]
  rw [chk_no hp] at HC ⊢
  clear hp hW
  go_enter Tryz.func75, Tryz.ntmps75
  go_wp2_with (first
   | (go_at_call 48; refine (HC.out _).mono ?_; rintro e1 w1 ⟨rfl, hb1⟩; have H1 : Hid (Below w.heap.size w w1) := (bal (Below.refl _ _) _).trans (hb1.mono (by simp)); clear hb1)
   | fail)
  go_ret2
  exact ⟨rfl, H1.out⟩
 case pos =>
 rw [putW_yes hp]
 rw [chk_yes hp] at HC ⊢
 obtain ⟨y, hy⟩ : ∃ y, y = wd o f r t := ⟨_, rfl⟩
 rw [<- hy]
 have HK : Hid (∀ v v', Below w.heap.size w v -> Below (v.alloc (.cells #[.int .i64 (bz o), .int .i64 f, .int .i64 r, .int .i64 t] 3)).heap.size (v.alloc (.cells #[.int .i64 (bz o), .int .i64 f, .int .i64 r, .int .i64 t] 3)) v' -> Calls Tryz.prog 135 #[.slice (some ⟨v.heap.size, 0, none⟩) 4 4] v' fun e w' => e = .returned (.tuple #[.int .u64 y, .int .i64 0]) /\ Below v.heap.size v w') := fun v v' hv hv' =>
  (packP_ok (some ⟨v.heap.size, 0, none⟩) 4 [bz o, f, r, t] _ rfl ((ints_four .i64 v _ _ _ _ _).on hv') (put_can hp).1 (((hW.on hv).on (bal (Below.refl _ _) _)).on hv') (put_can hp).2).mono fun e w' ⟨he, hb⟩ => ⟨by rw [hy]; exact he, ((bal (Below.refl v.heap.size v) _).trans (hv'.mono (by simp))).trans (hb.mono (by have := hv'.size; simp at this; omega))⟩
 clear hp hW hy
 go_enter Tryz.func75, Tryz.ntmps75
 go_upto_region 4 with (first
  | (go_at_call 48; refine (HC.out _).mono ?_; rintro e1 w1 ⟨rfl, hb1⟩; have H1 : Hid (Below w.heap.size w w1) := (bal (Below.refl _ _) _).trans (hb1.mono (by simp)); have HX1 : Hid (BoxP w1 w.heap.size o f r t) := (HX.out _).on hb1; clear hb1 HX; have x0 := HX1.out.c0; have x1 := HX1.out.c1; have x2 := HX1.out.c2; have x3 := HX1.out.c3; have xl := HX1.out.lt)
  | fail)
 go_region_held3 (fun w' => w'.cell? ⟨w.heap.size, 0, none⟩ = some (.bool o) /\ w'.cell? ⟨w.heap.size, 1, none⟩ = some (.int .i64 f) /\ w'.cell? ⟨w.heap.size, 2, none⟩ = some (.int .i64 r) /\ w'.cell? ⟨w.heap.size, 3, none⟩ = some (.int .i64 t)) (first | exact ⟨by assumption, by assumption, by assumption, by assumption⟩ | go_keep)
 (first
   | (go_at_call 136; refine (bit_any o _).mono ?_; rintro e2 w2 ⟨rfl, hw2⟩; subst w2)
   | (go_at_call 135; (first | refine (HK.out w1 _ H1.out (by first | exact Below.refl _ _ | exact (Below.refl _ _).drew)).mono ?_ | refine (HK.out w1.drew _ H1.out.drew (by first | exact Below.refl _ _ | exact (Below.refl _ _).drew)).mono ?_); rintro e3 w3 ⟨rfl, hb3⟩; have hm : Below w1.heap.size w1 w3 := (by first | exact hb3 | exact (Below.refl _ _).drew.trans hb3); have H3 : Hid (Below w.heap.size w w3) := H1.out.trans (hm.mono H1.out.size); have X3 := HX1.out.on hm; clear hb3 hm x0 x1 x2 x3 xl HX1; have x0 := X3.c0; have x1 := X3.c1; have x2 := X3.c2; have x3 := X3.c3; clear X3; dsimp only)
   | fail)
 all_goals
  go_wp2
  go_ret2
  exact ⟨rfl, H3.out⟩
structure Four (w : World) (b o : Nat) (x : Int) : Prop where
 lt : b < w.heap.size
 c0 : w.cell? ⟨b, o, none⟩ = some (.int .u64 (gN x 0))
 c1 : w.cell? ⟨b, o + 1, none⟩ = some (.int .u64 (gN x 1))
 c2 : w.cell? ⟨b, o + 2, none⟩ = some (.int .u64 (gN x 2))
 c3 : w.cell? ⟨b, o + 3, none⟩ = some (.int .u64 (gN x 3))
theorem four_of {w : World} {a : Option Addr} {c : Nat} {x : Int} (h : Ints .u64 w.heap.size w (.slice a ws.length c) (getsI x ws)) : ∃ b o, a = some ⟨b, o, none⟩ /\ Four w b o x := by
 have hl := getsI_length x ws
 rcases h with ⟨_, _, e1, e2⟩ | ⟨b, o, cap, e1, hb, hc⟩
 · rw [e2, ws_length] at hl; cases hl
 · cases e1
   rw [hl, ws_length] at hc
   exact ⟨b, o, rfl, hb, hc 0 (by omega), hc 1 (by omega), hc 2 (by omega), hc 3 (by omega)⟩
theorem unpack_four (a0 : Option Addr) (x : Int) (w : World) (hx : 0 <= x /\ x <= 18446744073709551615) (hI : Ints .i64 w.heap.size w (.slice a0 4 4) ws) (hA : canU x ws) :
 Calls Tryz.prog 140 #[.slice a0 4 4, .int .u64 x] w fun e' W' => ∃ b o c, e' = .returned (.tuple #[.slice (some ⟨b, o, none⟩) 4 c, .int .i64 0]) /\ Four W' b o x /\ Below w.heap.size w W' :=
 (unpack_ok a0 4 ws x w (by decide) hx hI hA).mono fun e' W' ⟨a, c, he, hi, hB⟩ => by
   obtain ⟨b, o, rfl, h5⟩ := four_of hi
   exact ⟨b, o, c, he, h5, hB⟩
theorem on_bit {n : Int} (h : 0 <= n /\ n <= 1) : (n != 0) = (n == 1) := by
 rcases (show n = 0 \/ n = 1 by omega) with rfl | rfl <;> rfl
theorem get_any (x : Int) (w : World) (hx : 0 <= x /\ x <= 18446744073709551615) (hW : TabW w) :
 Calls Tryz.prog 79 #[.int .u64 x] w fun v w' => v = .returned (.tuple #[.agg #[.bool (getO x), .int .i64 (getF x), .int .i64 (getR x), .int .i64 (getT x)], .int .i64 (getE x)]) /\ Below w.heap.size w w' := by
 obtain ⟨g0, g1, g2, g3⟩ := hW.cells
 have gl := hW.lt
 clear hW
 have HO : Hid (∀ ty o w1, Below ((w.alloc (.cells #[.bool false, .int .i64 0, .int .i64 0, .int .i64 0] ty)).alloc o).heap.size ((w.alloc (.cells #[.bool false, .int .i64 0, .int .i64 0, .int .i64 0] ty)).alloc o) w1 -> BoxP w1 w.heap.size false 0 0 0) := fun ty o w1 h => ((boxP_new w false 0 0 0 ty).on (bal (Below.refl _ _) o)).on h
 have HX : Hid (0 <= x /\ x <= 18446744073709551615) := hx
 clear hx
 have HW : Hid (∀ o ty, Ints .i64 ((w.alloc o).alloc (.cells #[.int .i64 1, .int .i64 6, .int .i64 2, .int .i64 31] ty)).heap.size ((w.alloc o).alloc (.cells #[.int .i64 1, .int .i64 6, .int .i64 2, .int .i64 31] ty)) (.slice (some ⟨w.heap.size + 1, 0, none⟩) 4 4) ws /\ Below w.heap.size w ((w.alloc o).alloc (.cells #[.int .i64 1, .int .i64 6, .int .i64 2, .int .i64 31] ty))) := fun o ty => ⟨by have := ints_ws (w.alloc o) ty; rwa [show (w.alloc o).heap.size = w.heap.size + 1 by simp] at this, bal (bal (Below.refl _ _) _) _⟩
 by_cases hc : canU x ws
 case neg =>
  have hno : ¬ Got x := fun h => hc h.1
  obtain ⟨e0, e1, e2, e3, e4⟩ := get_no hno
  rw [e0, e1, e2, e3, e4]
  have HN : Hid (¬ canU x ws) := hc
  clear hc hno e0 e1 e2 e3 e4
  go_enter Tryz.func79, Tryz.ntmps79
  go_wp2_with (first
   | (go_at_call 140; refine (unpack_bad (some ⟨w.heap.size + 1, 0, none⟩) 4 ws x _ (by decide) HX.out (HW.out _ _).1 HN.out).mono ?_; rintro e1 w1 ⟨rfl, hb1⟩; have H1 : Hid (Below w.heap.size w w1) := (HW.out _ _).2.trans (hb1.mono (HW.out _ _).2.size); have X1 := HO.out _ _ _ hb1; clear hb1 HO; have x0 := X1.c0; have x1 := X1.c1; have x2 := X1.c2; have x3 := X1.c3; have z0 := X1.fz 0; have z1 := X1.fz 1; have z2 := X1.fz 2; have z3 := X1.fz 3; have xl := X1.lt; clear X1)
   | fail)
  refine bodyPost_ret (v := .tuple #[.agg #[.bool false, .int .i64 0, .int .i64 0, .int .i64 0], .int .i64 12]) (by simp [results, Tryz.results79, go_sem, x0, x1, x2, x3]) rfl ⟨rfl, ?_⟩
  exact bst (bst (bst (bst H1.out (Nat.le_refl _) _ _) (Nat.le_refl _) _ _) (Nat.le_refl _) _ _) (Nat.le_refl _) _ _
 case pos =>
 have HN : Hid (canU x ws) := hc
 clear hc
 obtain ⟨hp0, ⟨p1, q1⟩, ⟨p2, q2⟩, ⟨p3, q3⟩⟩ := gN_bd HX.out HN.out
 have d0 : (gN x 0 != 0) = (gN x 0 == 1) := on_bit hp0
 have d1 : IntKind.i64.wrap (gN x 1) = gN x 1 := wrapi_small p1 (by omega)
 have d2 : IntKind.i64.wrap (gN x 2) = gN x 2 := wrapi_small p2 (by omega)
 have d3 : IntKind.i64.wrap (gN x 3) = gN x 3 := wrapi_small p3 (by omega)
 obtain ⟨ob, hob⟩ : ∃ ob, (gN x 0 == 1) = ob := ⟨_, rfl⟩
 rw [hob] at d0
 by_cases hr : Rt ob (gN x 1) (gN x 2) (gN x 3)
 case pos =>
  have hG : Got x := ⟨HN.out, by rw [hob]; exact hr⟩
  obtain ⟨e0, e1, e2, e3, e4⟩ := get_yes hG
  rw [e0, e1, e2, e3, e4, hob]
  clear e0 e1 e2 e3 e4 hG
  have hc : chk ob (gN x 1) (gN x 2) (gN x 3) = 0 := chk_yes hr
  clear hr p1 p2 p3 q1 q2 q3 hp0 hob
  go_enter Tryz.func79, Tryz.ntmps79
  go_wp2_with (first
   | (go_at_call 140; refine (unpack_four (some ⟨w.heap.size + 1, 0, none⟩) x _ HX.out (HW.out _ _).1 HN.out).mono ?_; rintro e1 w1 ⟨b, o, c, rfl, h5, hb1⟩; have H1 : Hid (Below w.heap.size w w1) := (HW.out _ _).2.trans (hb1.mono (HW.out _ _).2.size); have H5 : Hid (Four w1 b o x) := h5; have HX1 : Hid (BoxP w1 w.heap.size false 0 0 0) := HO.out _ _ _ hb1; clear hb1 HO h5; have f0 := H5.out.c0; have f1 := H5.out.c1; have f2 := H5.out.c2; have f3 := H5.out.c3; have fl := H5.out.lt)
   | fail)
  go_region_held3 (fun w' => w'.cell? ⟨b, o, none⟩ = some (.int .u64 (gN x 0)) /\ w'.cell? ⟨b, o + 1, none⟩ = some (.int .u64 (gN x 1)) /\ w'.cell? ⟨b, o + 2, none⟩ = some (.int .u64 (gN x 2)) /\ w'.cell? ⟨b, o + 3, none⟩ = some (.int .u64 (gN x 3))) (first | exact ⟨by assumption, by assumption, by assumption, by assumption⟩ | go_keep)
  (fail)
  try simp only [d0, d1, d2, d3]
  have hbx := (boxP_new w1 ob (gN x 1) (gN x 2) (gN x 3) 44).on (Below.refl _ _).drew
  have hbr := HX1.out.on (bal (Below.refl _ _) (.cells #[.bool ob, .int .i64 (gN x 1), .int .i64 (gN x 2), .int .i64 (gN x 3)] 44)).drew
  have hbb := (bal H1.out (.cells #[.bool ob, .int .i64 (gN x 1), .int .i64 (gN x 2), .int .i64 (gN x 3)] 44)).drew
  have hne := HX1.out.lt
  clear f0 f1 f2 f3 fl H5
  generalize (w1.alloc _).drew = w2 at hbx hbr hbb ⊢
  have HP2 : Hid (BoxP w2 w1.heap.size ob (gN x 1) (gN x 2) (gN x 3)) := hbx
  have HR2 : Hid (BoxP w2 w.heap.size false 0 0 0) := hbr
  have HB2 : Hid (Below w.heap.size w w2) := hbb
  have HQ2 : Hid (w.heap.size < w1.heap.size) := hne
  have y0 := hbx.c0
  have y1 := hbx.c1
  have y2 := hbx.c2
  have y3 := hbx.c3
  clear hbx hbr hbb hne HX1
  generalize w1.heap.size = D at HP2 HQ2 y0 y1 y2 y3 ⊢
  go_wp2_with (first
   | (go_at_call 48; refine (check_any _ _ _ _ _).mono ?_; rintro e2 w3 ⟨rfl, hb3⟩; rw [hc]; have H3 : Hid (Below w.heap.size w w3) := HB2.out.trans (hb3.mono HB2.out.size); clear y0 y1 y2 y3; have Y1 := HP2.out.on hb3; have y0 := Y1.c0; have y1 := Y1.c1; have y2 := Y1.c2; have y3 := Y1.c3; clear Y1; have X1 := HR2.out.on hb3; have x0 := X1.c0; have x1 := X1.c1; have x2 := X1.c2; have x3 := X1.c3; have z0 := X1.fz 0; have z1 := X1.fz 1; have z2 := X1.fz 2; have z3 := X1.fz 3; have xl := X1.lt; clear X1 hb3; have ne1 : ¬ D = w.heap.size := Nat.ne_of_gt HQ2.out; have ne2 : ¬ w.heap.size = D := Nat.ne_of_lt HQ2.out)
   | fail)
  refine bodyPost_ret (v := .tuple #[.agg #[.bool ob, .int .i64 (gN x 1), .int .i64 (gN x 2), .int .i64 (gN x 3)], .int .i64 0]) (by simp [results, Tryz.results79, go_sem, x0, x1, x2, x3]) rfl ⟨rfl, ?_⟩
  exact bst (bst (bst (bst H3.out (Nat.le_refl _) _ _) (Nat.le_refl _) _ _) (Nat.le_refl _) _ _) (Nat.le_refl _) _ _
 case neg =>
  have hG : ¬ Got x := fun h => hr (by rw [<- hob]; exact h.2)
  obtain ⟨e0, e1, e2, e3, e4⟩ := get_no hG
  rw [e0, e1, e2, e3, e4]
  clear e0 e1 e2 e3 e4 hG
  have hc : chk ob (gN x 1) (gN x 2) (gN x 3) = 1 := chk_no hr
  clear hr p1 p2 p3 q1 q2 q3 hp0 hob
  go_enter Tryz.func79, Tryz.ntmps79
  go_wp2_with (first
   | (go_at_call 140; refine (unpack_four (some ⟨w.heap.size + 1, 0, none⟩) x _ HX.out (HW.out _ _).1 HN.out).mono ?_; rintro e1 w1 ⟨b, o, c, rfl, h5, hb1⟩; have H1 : Hid (Below w.heap.size w w1) := (HW.out _ _).2.trans (hb1.mono (HW.out _ _).2.size); have H5 : Hid (Four w1 b o x) := h5; have HX1 : Hid (BoxP w1 w.heap.size false 0 0 0) := HO.out _ _ _ hb1; clear hb1 HO h5; have f0 := H5.out.c0; have f1 := H5.out.c1; have f2 := H5.out.c2; have f3 := H5.out.c3; have fl := H5.out.lt)
   | fail)
  go_region_held3 (fun w' => w'.cell? ⟨b, o, none⟩ = some (.int .u64 (gN x 0)) /\ w'.cell? ⟨b, o + 1, none⟩ = some (.int .u64 (gN x 1)) /\ w'.cell? ⟨b, o + 2, none⟩ = some (.int .u64 (gN x 2)) /\ w'.cell? ⟨b, o + 3, none⟩ = some (.int .u64 (gN x 3))) (first | exact ⟨by assumption, by assumption, by assumption, by assumption⟩ | go_keep)
  (fail)
  try simp only [d0, d1, d2, d3]
  have hbx := (boxP_new w1 ob (gN x 1) (gN x 2) (gN x 3) 44).on (Below.refl _ _).drew
  have hbr := HX1.out.on (bal (Below.refl _ _) (.cells #[.bool ob, .int .i64 (gN x 1), .int .i64 (gN x 2), .int .i64 (gN x 3)] 44)).drew
  have hbb := (bal H1.out (.cells #[.bool ob, .int .i64 (gN x 1), .int .i64 (gN x 2), .int .i64 (gN x 3)] 44)).drew
  have hne := HX1.out.lt
  clear f0 f1 f2 f3 fl H5
  generalize (w1.alloc _).drew = w2 at hbx hbr hbb ⊢
  have HP2 : Hid (BoxP w2 w1.heap.size ob (gN x 1) (gN x 2) (gN x 3)) := hbx
  have HR2 : Hid (BoxP w2 w.heap.size false 0 0 0) := hbr
  have HB2 : Hid (Below w.heap.size w w2) := hbb
  have HQ2 : Hid (w.heap.size < w1.heap.size) := hne
  have y0 := hbx.c0
  have y1 := hbx.c1
  have y2 := hbx.c2
  have y3 := hbx.c3
  clear hbx hbr hbb hne HX1
  generalize w1.heap.size = D at HP2 HQ2 y0 y1 y2 y3 ⊢
  go_wp2_with (first
   | (go_at_call 48; refine (check_any _ _ _ _ _).mono ?_; rintro e2 w3 ⟨rfl, hb3⟩; rw [hc]; have H3 : Hid (Below w.heap.size w w3) := HB2.out.trans (hb3.mono HB2.out.size); clear y0 y1 y2 y3; have Y1 := HP2.out.on hb3; have y0 := Y1.c0; have y1 := Y1.c1; have y2 := Y1.c2; have y3 := Y1.c3; clear Y1; have X1 := HR2.out.on hb3; have x0 := X1.c0; have x1 := X1.c1; have x2 := X1.c2; have x3 := X1.c3; have z0 := X1.fz 0; have z1 := X1.fz 1; have z2 := X1.fz 2; have z3 := X1.fz 3; have xl := X1.lt; clear X1 hb3; have ne1 : ¬ D = w.heap.size := Nat.ne_of_gt HQ2.out; have ne2 : ¬ w.heap.size = D := Nat.ne_of_lt HQ2.out)
   | fail)
  refine bodyPost_ret (v := .tuple #[.agg #[.bool false, .int .i64 0, .int .i64 0, .int .i64 0], .int .i64 12]) (by simp [results, Tryz.results79, go_sem, x0, x1, x2, x3]) rfl ⟨rfl, ?_⟩
  exact bst (bst (bst (bst H3.out (Nat.le_refl _) _ _) (Nat.le_refl _) _ _) (Nat.le_refl _) _ _) (Nat.le_refl _) _ _
end Ppte
namespace Ppte
open Pbase Pfield Go.RowKit Go.ChangeShapes Go.WideShapes
theorem gTw : (Tryz.prog.globals[(0 : Nat)]?).map (·.type) = some 210 := by kernel_rfl
theorem cellsWide : Tryz.prog.cellsOf 210 = 4 := by kernel_rfl
theorem w_datum :  (Rows.laid_palanquin_pte_widths : DataW Unit) = .agg (ws.map fun z => .lit (.int .i64 z)) := rfl
theorem tabW_of {W : World} {g : Nat} {t : TypeId} {cs : Array Value} {fuel : Nat} {p : List MemPlace} {n : String} (hn : Tryz.prog.globalNamed n = some 0) (hg : Tryz.prog.globalNamed n = some g) (ht : (Tryz.prog.globals[g]?).map (·.type) = some t) (hv : W.var? Tryz.prog n = some cs)
 (hd : DataW.trod (fun _ => ()) Tryz.prog W 0 (fun _ => true) false fuel t cs.toList = some (Rows.laid_palanquin_pte_widths, p)) : TabW W := by
 obtain rfl := Option.some.inj (hn.symm.trans hg)
 obtain rfl := Option.some.inj (gTw.symm.trans ht)
 obtain ⟨t1, fr, hb⟩ := var_block hg hv
 refine ⟨block_lt hb, t1, fr, ?_⟩
 rw [w_datum] at hd
 obtain ⟨_, hl, hc⟩ := array_ints Tryz.underlying210 cellsWide hd
 obtain ⟨cl⟩ := cs
 simp only at hl hc hb
 match cl, hl with
 | [v0, v1, v2, v3], _ =>
   have g0 := hc 0 (by omega)
   have g1 := hc 1 (by omega)
   have g2 := hc 2 (by omega)
   have g3 := hc 3 (by omega)
   simp [ws] at g0 g1 g2 g3
   rw [hb, g0, g1, g2, g3]
end Ppte
end Go.Proofs.YtkkclcihjojphaaGreatDoor
