/- Texts on finished packages, joined. -/
import Derived.Test.YtcgekcjnaadcmaaGreatDoorBunBase
import Derived.Laws.BitsAllLaws
import Derived.Test.YtcgekcjnaadcmaaGreatDoorBunField
import Derived.Below
import Derived.OwnWalk
import Derived.Laws.Rows
import Derived.Maps.AppendAt
import Derived.Deep.RegionHeld3
import Derived.Deep.RegionWith
import Derived.Deep.CutBlock
import Derived.BigRegion
import Derived.BigQuiet
import Derived.Test.YtcgekcjnaadcmaaGreatDoorRows
import Derived.ProofKit
import Derived.OpenShut
import Derived.Carry
import Derived.LaidMore

/- Plain words on mappings: which are right, what is allowed, lessened, quiet. No program is named here. -/
namespace Go.Proofs.YtcgekcjnaadcmaaGreatDoor.Ppte
open Go.Proofs.YtcgekcjnaadcmaaGreatDoor.Pbase
open Go.RowKit
set_option linter.unusedVariables false

/-- When a mapping, on or not, of frame f, rights r, time t is right. -/
def Rt (o : Bool) (f r t : Int) : Prop := (o = true → 0 ≤ f ∧ f ≤ 63 ∧ 1 ≤ r ∧ r ≤ 3 ∧ t = 0) ∧ (o = false → f = 0 ∧ r = 0 ∧ 0 ≤ t ∧ t ≤ 1073741824)
/-- Is it right? -/
def rtB (o : Bool) (f r t : Int) : Bool :=
  (!o || (decide (0 ≤ f) && decide (f < 64) && decide (1 ≤ r) && decide (r ≤ 3) && decide (t = 0))) && (o || (decide (f = 0) && decide (r = 0) && decide (0 ≤ t) && decide (t ≤ 1073741824)))
theorem rtB_iff (o : Bool) (f r t : Int) : rtB o f r t = true ↔ Rt o f r t := by
  unfold rtB Rt
  cases o
  · simp
    omega
  · simp
    omega
theorem rtB_yes {o : Bool} {f r t : Int} (h : Rt o f r t) : rtB o f r t = true := (rtB_iff o f r t).2 h
theorem rtB_no {o : Bool} {f r t : Int} (h : ¬ Rt o f r t) : rtB o f r t = false := Bool.eq_false_iff.2 fun e => h ((rtB_iff o f r t).1 e)
/-- What Check answers. -/
def chk (o : Bool) (f r t : Int) : Int := if rtB o f r t = true then 0 else 1
theorem chk_yes {o : Bool} {f r t : Int} (h : Rt o f r t) : chk o f r t = 0 := by unfold chk; rw [if_pos (rtB_yes h)]
theorem chk_no {o : Bool} {f r t : Int} (h : ¬ Rt o f r t) : chk o f r t = 1 := by unfold chk; rw [rtB_no h]; rfl
theorem rt_bd {o : Bool} {f r t : Int} (h : Rt o f r t) : (0 ≤ f ∧ f ≤ 63) ∧ (0 ≤ r ∧ r ≤ 3) ∧ 0 ≤ t ∧ t ≤ 1073741824 := by
  unfold Rt at h
  cases o
  · have := h.2 rfl; omega
  · have := h.1 rfl; omega

/-! ### rights -/
/-! ### the tests, as the program and the document make them -/
def mpB (o : Bool) (f r t : Int) : Bool := rtB o f r t && o
def nnB (o : Bool) (f r t : Int) : Bool := rtB o f r t && !o
theorem mpB_yes {f r t : Int} (h : 0 ≤ f ∧ f ≤ 63 ∧ 1 ≤ r ∧ r ≤ 3 ∧ t = 0) : mpB true f r t = true := by
  unfold mpB
  rw [rtB_yes (o := true) ⟨fun _ => h, fun e => by cases e⟩]
  rfl
theorem mpB_no {f r t : Int} (h : ¬ (0 ≤ f ∧ f ≤ 63 ∧ 1 ≤ r ∧ r ≤ 3 ∧ t = 0)) : mpB true f r t = false := by
  unfold mpB
  rw [rtB_no (o := true) fun hh => h (hh.1 rfl)]
  rfl
theorem mpB_off (f r t : Int) : mpB false f r t = false := by simp [mpB]
theorem nnB_yes {f r t : Int} (h : f = 0 ∧ r = 0 ∧ 0 ≤ t ∧ t ≤ 1073741824) : nnB false f r t = true := by
  unfold nnB
  rw [rtB_yes (o := false) ⟨fun e => (by cases e), fun _ => h⟩]
  rfl
theorem nnB_no {f r t : Int} (h : ¬ (f = 0 ∧ r = 0 ∧ 0 ≤ t ∧ t ≤ 1073741824)) : nnB false f r t = false := by
  unfold nnB
  rw [rtB_no (o := false) fun hh => h (hh.2 rfl)]
  rfl
theorem nnB_on (f r t : Int) : nnB true f r t = false := by simp [nnB]
theorem rtB_or (o : Bool) (f r t : Int) : rtB o f r t = (mpB o f r t || nnB o f r t) := by
  unfold mpB nnB
  cases rtB o f r t <;> cases o <;> rfl
theorem chk_of (o : Bool) (f r t : Int) : chk o f r t = if mpB o f r t || nnB o f r t then 0 else 1 := by
  unfold chk
  rw [rtB_or]
end Go.Proofs.YtcgekcjnaadcmaaGreatDoor.Ppte

/- Plain words on mappings' words: what is put, what a word says. No program is named here. -/
namespace Go.Proofs.YtcgekcjnaadcmaaGreatDoor.Ppte
open Go.Proofs.YtcgekcjnaadcmaaGreatDoor.Pbase Go.Proofs.YtcgekcjnaadcmaaGreatDoor.Pfield
open Go.RowKit M
set_option linter.unusedVariables false

/-! ### words -/
def ws : List Int := [1, 6, 2, 31]
theorem ws_length : ws.length = 4 := rfl
def bz : Bool → Int
  | true => 1
  | false => 0
theorem mask1 : maskF 1 = 1 := by decide
theorem mask6 : maskF 6 = 63 := by decide
theorem mask2 : maskF 2 = 3 := by decide
theorem mask31 : maskF 31 = 2147483647 := by decide
/-- The word of one. -/
def wd (o : Bool) (f r t : Int) : Int := packF ws [bz o, f, r, t]
theorem put_can {o : Bool} {f r t : Int} (h : Rt o f r t) : (∀ j : Nat, 0 ≤ [bz o, f, r, t][j]?.getD 0 ∧ [bz o, f, r, t][j]?.getD 0 ≤ 18446744073709551615) ∧ ∀ j, j < ws.length → okP ws [bz o, f, r, t] j = true := by
  have hz : 0 ≤ bz o ∧ bz o ≤ 1 := by cases o <;> simp [bz]
  have hb := rt_bd h
  generalize bz o = b at hz
  constructor
  · intro j
    match j with
    | 0 | 1 | 2 | 3 => simp; omega
    | j + 4 => simp
  · intro j hj
    match j, hj with
    | 0, _ | 1, _ | 2, _ | 3, _ =>
      simp [okP, inB, fitsB, mask1, mask6, mask2, mask31, sumTo, ws, wrap64]
      omega
/-- The j-th part of a word. -/
def gN (x : Int) (j : Nat) : Int := (getsI x ws)[j]?.getD 0
theorem gN_bd {x : Int} (hx : 0 ≤ x ∧ x ≤ 18446744073709551615) (h : canU x ws) : (0 ≤ gN x 0 ∧ gN x 0 ≤ 1) ∧ (0 ≤ gN x 1 ∧ gN x 1 ≤ 63) ∧ (0 ≤ gN x 2 ∧ gN x 2 ≤ 3) ∧ (0 ≤ gN x 3 ∧ gN x 3 ≤ 2147483647) := by
  obtain ⟨h1, h2, _⟩ := unpack_pack hx h
  have m0 := (ok_parts (h2 0 (by decide))).2
  have m1 := (ok_parts (h2 1 (by decide))).2
  have m2 := (ok_parts (h2 2 (by decide))).2
  have m3 := (ok_parts (h2 3 (by decide))).2
  rw [show ws[0]?.getD 0 = 1 from rfl, fitsB, mask1, decide_eq_true_eq] at m0
  rw [show ws[1]?.getD 0 = 6 from rfl, fitsB, mask6, decide_eq_true_eq] at m1
  rw [show ws[2]?.getD 0 = 2 from rfl, fitsB, mask2, decide_eq_true_eq] at m2
  rw [show ws[3]?.getD 0 = 31 from rfl, fitsB, mask31, decide_eq_true_eq] at m3
  exact ⟨⟨(h1 0).1, m0⟩, ⟨(h1 1).1, m1⟩, ⟨(h1 2).1, m2⟩, ⟨(h1 3).1, m3⟩⟩
theorem bz_back {n : Int} (h : 0 ≤ n ∧ n ≤ 1) : bz (n == 1) = n := by
  rcases (show n = 0 ∨ n = 1 by omega) with rfl | rfl <;> rfl
/-! ### what a word says -/
def Got (x : Int) : Prop := canU x ws ∧ Rt (gN x 0 == 1) (gN x 1) (gN x 2) (gN x 3)
def gotB (x : Int) : Bool := (List.range ws.length).all (okU ws) && fitsB x (sumTo ws ws.length) && rtB (gN x 0 == 1) (gN x 1) (gN x 2) (gN x 3)
theorem gotB_iff (x : Int) : gotB x = true ↔ Got x := by
  unfold gotB Got canU
  simp only [Bool.and_eq_true, rtB_iff, List.all_eq_true, List.mem_range]
theorem gotB_yes {x : Int} (h : Got x) : gotB x = true := (gotB_iff x).2 h
theorem gotB_no {x : Int} (h : ¬ Got x) : gotB x = false := Bool.eq_false_iff.2 fun e => h ((gotB_iff x).1 e)
def getO (x : Int) : Bool := gotB x && (gN x 0 == 1)
def getF (x : Int) : Int := if gotB x = true then gN x 1 else 0
def getR (x : Int) : Int := if gotB x = true then gN x 2 else 0
def getT (x : Int) : Int := if gotB x = true then gN x 3 else 0
def getE (x : Int) : Int := if gotB x = true then 0 else 12
theorem get_no {x : Int} (h : ¬ Got x) : getO x = false ∧ getF x = 0 ∧ getR x = 0 ∧ getT x = 0 ∧ getE x = 12 := by simp [getO, getF, getR, getT, getE, gotB_no h]
theorem get_yes {x : Int} (h : Got x) : getO x = (gN x 0 == 1) ∧ getF x = gN x 1 ∧ getR x = gN x 2 ∧ getT x = gN x 3 ∧ getE x = 0 := by simp [getO, getF, getR, getT, getE, gotB_yes h]
/-- What is put is got. -/
theorem got_back {o : Bool} {f r t : Int} (h : Rt o f r t) : getO (wd o f r t) = o ∧ getF (wd o f r t) = f ∧ getR (wd o f r t) = r ∧ getT (wd o f r t) = t ∧ getE (wd o f r t) = 0 := by
  obtain ⟨hb, hc, hg⟩ := pack_unpack (zs := ws) (vs := [bz o, f, r, t]) rfl (put_can h).1 (put_can h).2
  change canU (wd o f r t) ws at hc
  change getsI (wd o f r t) ws = _ at hg
  generalize wd o f r t = x at hc hg
  have g0 : (gN x 0 == 1) = o := by unfold gN; rw [hg]; cases o <;> rfl
  have g1 : gN x 1 = f := by unfold gN; rw [hg]; rfl
  have g2 : gN x 2 = r := by unfold gN; rw [hg]; rfl
  have g3 : gN x 3 = t := by unfold gN; rw [hg]; rfl
  have hG : Got x := ⟨hc, by rw [g0, g1, g2, g3]; exact h⟩
  obtain ⟨e0, e1, e2, e3, e4⟩ := get_yes hG
  exact ⟨e0.trans g0, e1.trans g1, e2.trans g2, e3.trans g3, e4⟩
end Go.Proofs.YtcgekcjnaadcmaaGreatDoor.Ppte

/- maps, isNone, Check, Allows, Less, Quiet of package pte: for every mapping, what they answer. -/
namespace Go.Proofs.YtcgekcjnaadcmaaGreatDoor.Ppte
open Go.Proofs.YtcgekcjnaadcmaaGreatDoor.Pbase
open Go.RowKit
set_option linter.unusedVariables false

/-- A mapping in a block. -/
structure BoxP (w : World) (B : Nat) (o : Bool) (f r t : Int) : Prop where
  lt : B < w.heap.size
  c0 : w.cell? ⟨B, 0, none⟩ = some (.bool o)
  c1 : w.cell? ⟨B, 1, none⟩ = some (.int .i64 f)
  c2 : w.cell? ⟨B, 2, none⟩ = some (.int .i64 r)
  c3 : w.cell? ⟨B, 3, none⟩ = some (.int .i64 t)
  fz : ∀ j, w.frozen? ⟨B, j, none⟩ = false
theorem BoxP.on {w w' : World} {B : Nat} {o : Bool} {f r t : Int} (h : BoxP w B o f r t) (hB : Below w.heap.size w w') : BoxP w' B o f r t :=
  ⟨Nat.lt_of_lt_of_le h.lt hB.size, (hB.cell (p := ⟨B, 0, none⟩) h.lt).trans h.c0, (hB.cell (p := ⟨B, 1, none⟩) h.lt).trans h.c1, (hB.cell (p := ⟨B, 2, none⟩) h.lt).trans h.c2, (hB.cell (p := ⟨B, 3, none⟩) h.lt).trans h.c3, fun j => (hB.frozen (p := ⟨B, j, none⟩) h.lt).trans (h.fz j)⟩
theorem boxP_new (w : World) (o : Bool) (f r t : Int) (ty : TypeId) : BoxP (w.alloc (.cells #[.bool o, .int .i64 f, .int .i64 r, .int .i64 t] ty)) w.heap.size o f r t := by
  have h := heap_alloc_new w (.cells #[.bool o, .int .i64 f, .int .i64 r, .int .i64 t] ty)
  refine ⟨by simp, ?_, ?_, ?_, ?_, fun j => frozen_of_row _ _ _ _ _ h⟩ <;> (rw [cell_of_row _ _ _ _ _ _ h]; rfl)
/-! ### maps, isNone -/
set_option maxRecDepth 100000 in
theorem maps_any (o : Bool) (f r t : Int) (w : World) :
    Calls Tryz.prog 203 #[.agg #[.bool o, .int .i64 f, .int .i64 r, .int .i64 t]] w fun e w' => e = .returned (.bool (mpB o f r t)) ∧ Below w.heap.size w w' := by
  cases o
  case false =>
    rw [mpB_off]
    go_enter Tryz.func203, Tryz.ntmps203
    go_wp2
    go_ret
    exact ⟨rfl, bal (Below.refl _ _) _⟩
  case true =>
  by_cases hc : 0 ≤ f ∧ f ≤ 63 ∧ 1 ≤ r ∧ r ≤ 3 ∧ t = 0
  · rw [mpB_yes hc]
    obtain ⟨h0, h1, h2, h3, rfl⟩ := hc
    have h4 : f < 64 := by omega
    go_enter Tryz.func203, Tryz.ntmps203
    go_wp2
    go_ret
    exact ⟨rfl, bal (Below.refl _ _) _⟩
  · rw [mpB_no hc]
    have hk : f < 0 ∨ (¬ f < 0 ∧ ¬ f < 64) ∨ (¬ f < 0 ∧ f < 64 ∧ r < 1) ∨ (¬ f < 0 ∧ f < 64 ∧ ¬ r < 1 ∧ 3 < r) ∨ ¬ f < 0 ∧ f < 64 ∧ ¬ r < 1 ∧ ¬ 3 < r ∧ ((t : Int) == 0) = false := by
      simp only [beq_eq_false_iff_ne, ne_eq]
      omega
    clear hc
    rcases hk with h0 | ⟨h0, h1⟩ | ⟨h0, h1, h2⟩ | ⟨h0, h1, h2, h3⟩ | ⟨h0, h1, h2, h3, h4⟩
    all_goals
      go_enter Tryz.func203, Tryz.ntmps203
      go_wp2
      go_ret
      exact ⟨rfl, bal (Below.refl _ _) _⟩
set_option maxRecDepth 100000 in
theorem none_any (o : Bool) (f r t : Int) (w : World) :
    Calls Tryz.prog 204 #[.agg #[.bool o, .int .i64 f, .int .i64 r, .int .i64 t]] w fun e w' => e = .returned (.bool (nnB o f r t)) ∧ Below w.heap.size w w' := by
  cases o
  case true =>
    rw [nnB_on]
    go_enter Tryz.func204, Tryz.ntmps204
    go_wp2
    go_ret
    exact ⟨rfl, bal (Below.refl _ _) _⟩
  case false =>
  by_cases hc : f = 0 ∧ r = 0 ∧ 0 ≤ t ∧ t ≤ 1073741824
  · rw [nnB_yes hc]
    obtain ⟨rfl, rfl, h2, h3⟩ := hc
    go_enter Tryz.func204, Tryz.ntmps204
    go_wp2
    go_ret
    exact ⟨rfl, bal (Below.refl _ _) _⟩
  · rw [nnB_no hc]
    have hk : ((f : Int) == 0) = false ∨ (f = 0 ∧ ((r : Int) == 0) = false) ∨ (f = 0 ∧ r = 0 ∧ t < 0) ∨ f = 0 ∧ r = 0 ∧ ¬ t < 0 ∧ 1073741824 < t := by
      simp only [beq_eq_false_iff_ne, ne_eq]
      omega
    clear hc
    rcases hk with h0 | ⟨rfl, h1⟩ | ⟨rfl, rfl, h2⟩ | ⟨rfl, rfl, h2, h3⟩
    all_goals
      go_enter Tryz.func204, Tryz.ntmps204
      go_wp2
      go_ret
      exact ⟨by first | rfl | (show Ending.returned (.bool (decide (t ≤ 1073741824))) = _; rw [decide_eq_false (by omega)]), bal (Below.refl _ _) _⟩

/-! ### Check -/
set_option maxRecDepth 100000 in
theorem check_any (o : Bool) (f r t : Int) (w : World) :
    Calls Tryz.prog 201 #[.agg #[.bool o, .int .i64 f, .int .i64 r, .int .i64 t]] w fun e w' => e = .returned (.int .i64 (chk o f r t)) ∧ Below w.heap.size w w' := by
  rw [chk_of]
  have HX : Hid (∀ ty, BoxP (w.alloc (.cells #[.bool o, .int .i64 f, .int .i64 r, .int .i64 t] ty)) w.heap.size o f r t) := fun ty => boxP_new w o f r t ty
  have HM : Hid (∀ w1, Calls Tryz.prog 203 #[.agg #[.bool o, .int .i64 f, .int .i64 r, .int .i64 t]] w1 fun e w' => e = .returned (.bool (mpB o f r t)) ∧ Below w1.heap.size w1 w') := fun w1 => maps_any o f r t w1
  have HN : Hid (∀ w1, Calls Tryz.prog 204 #[.agg #[.bool o, .int .i64 f, .int .i64 r, .int .i64 t]] w1 fun e w' => e = .returned (.bool (nnB o f r t)) ∧ Below w1.heap.size w1 w') := fun w1 => none_any o f r t w1
  generalize mpB o f r t = m at HM ⊢
  generalize nnB o f r t = n at HN ⊢
  cases m <;> cases n
  all_goals
    go_enter Tryz.func201, Tryz.ntmps201
    go_wp2_with (first
      | (go_at_call 203; refine (HM.out _).mono ?_; rintro e1 w1 ⟨rfl, hb1⟩; have H1 : Hid (Below w.heap.size w w1) := (bal (Below.refl _ _) _).trans (hb1.mono (by simp)); have X1 := (HX.out _).on hb1; clear hb1 HX; have x0 := X1.c0; have x1 := X1.c1; have x2 := X1.c2; have x3 := X1.c3; have xl := X1.lt; clear X1)
      | (go_at_call 204; refine (HN.out _).mono ?_; rintro e2 w2 ⟨rfl, hb2⟩; have H2 : Hid (Below w.heap.size w w2) := H1.out.trans (hb2.mono H1.out.size); clear hb2 H1; have H1 : Hid (Below w.heap.size w w2) := H2; clear H2)
      | fail)
    go_ret
    exact ⟨rfl, H1.out⟩

/-! ### Allows, Quiet -/
/-! ### Less -/
end Go.Proofs.YtcgekcjnaadcmaaGreatDoor.Ppte

/- bit, pack, Put, Get of package pte: for every mapping and every word, what they answer. -/
namespace Go.Proofs.YtcgekcjnaadcmaaGreatDoor.Ppte
open Go.Proofs.YtcgekcjnaadcmaaGreatDoor.Pbase Go.Proofs.YtcgekcjnaadcmaaGreatDoor.Pfield
open Go.RowKit M
set_option linter.unusedVariables false

/-- The table of widths. -/
structure TabW (w : World) : Prop where
  lt : 4 < w.heap.size
  row : ∃ t fr, w.heap[(4 : Nat)]? = some (.cells #[.int .i64 1, .int .i64 6, .int .i64 2, .int .i64 31] t fr)
theorem TabW.on {w w' : World} (h : TabW w) (hB : Below w.heap.size w w') : TabW w' :=
  ⟨Nat.lt_of_lt_of_le h.lt hB.size, by obtain ⟨t, fr, hr⟩ := h.row; exact ⟨t, fr, (hB.block 4 h.lt).trans hr⟩⟩
theorem TabW.cells {w : World} (h : TabW w) : w.cell? ⟨4, 0, none⟩ = some (.int .i64 1) ∧ w.cell? ⟨4, 1, none⟩ = some (.int .i64 6) ∧ w.cell? ⟨4, 2, none⟩ = some (.int .i64 2) ∧ w.cell? ⟨4, 3, none⟩ = some (.int .i64 31) := by
  obtain ⟨t, fr, hr⟩ := h.row
  exact ⟨(cell_of_row _ _ 0 _ _ _ hr).trans rfl, (cell_of_row _ _ 1 _ _ _ hr).trans rfl, (cell_of_row _ _ 2 _ _ _ hr).trans rfl, (cell_of_row _ _ 3 _ _ _ hr).trans rfl⟩
theorem ints_ws (w : World) (ty : TypeId) : Ints .i64 (w.alloc (.cells #[.int .i64 1, .int .i64 6, .int .i64 2, .int .i64 31] ty)).heap.size (w.alloc (.cells #[.int .i64 1, .int .i64 6, .int .i64 2, .int .i64 31] ty)) (.slice (some ⟨w.heap.size, 0, none⟩) 4 4) ws := by
  refine .inr ⟨w.heap.size, 0, 4, rfl, by simp, fun j hj => ?_⟩
  rw [Nat.zero_add, cell_of_row _ _ j _ _ _ (heap_alloc_new w _)]
  match j, hj with
  | 0, _ | 1, _ | 2, _ | 3, _ => rfl
/-! ### pack -/
/-! ### Put -/
end Go.Proofs.YtcgekcjnaadcmaaGreatDoor.Ppte

/- What Get of package pte answers, for every word. -/
namespace Go.Proofs.YtcgekcjnaadcmaaGreatDoor.Ppte
open Go.Proofs.YtcgekcjnaadcmaaGreatDoor.Pbase Go.Proofs.YtcgekcjnaadcmaaGreatDoor.Pfield
open Go.RowKit M
set_option linter.unusedVariables false

/-- The parts of a word, in a block. -/
structure Four (w : World) (b o : Nat) (x : Int) : Prop where
  lt : b < w.heap.size
  c0 : w.cell? ⟨b, o, none⟩ = some (.int .u64 (gN x 0))
  c1 : w.cell? ⟨b, o + 1, none⟩ = some (.int .u64 (gN x 1))
  c2 : w.cell? ⟨b, o + 2, none⟩ = some (.int .u64 (gN x 2))
  c3 : w.cell? ⟨b, o + 3, none⟩ = some (.int .u64 (gN x 3))
theorem four_of {w : World} {a : Option Addr} {c : Nat} {x : Int} (h : Ints .u64 w.heap.size w (.slice a ws.length c) (getsI x ws)) : ∃ b o, a = some ⟨b, o, none⟩ ∧ Four w b o x := by
  have hl := getsI_length x ws
  rcases h with ⟨_, _, e1, e2⟩ | ⟨b, o, cap, e1, hb, hc⟩
  · rw [e2, ws_length] at hl; cases hl
  · cases e1
    rw [hl, ws_length] at hc
    exact ⟨b, o, rfl, hb, hc 0 (by omega), hc 1 (by omega), hc 2 (by omega), hc 3 (by omega)⟩
theorem unpack_four (a0 : Option Addr) (x : Int) (w : World) (hx : 0 ≤ x ∧ x ≤ 18446744073709551615) (hI : Ints .i64 w.heap.size w (.slice a0 4 4) ws) (hA : canU x ws) :
    Calls Tryz.prog 160 #[.slice a0 4 4, .int .u64 x] w fun e' W' => ∃ b o c, e' = .returned (.tuple #[.slice (some ⟨b, o, none⟩) 4 c, .int .i64 0]) ∧ Four W' b o x ∧ Below w.heap.size w W' :=
  (unpack_ok a0 4 ws x w (by decide) hx hI hA).mono fun e' W' ⟨a, c, he, hi, hB⟩ => by
    obtain ⟨b, o, rfl, h5⟩ := four_of hi
    exact ⟨b, o, c, he, h5, hB⟩
theorem on_bit {n : Int} (h : 0 ≤ n ∧ n ≤ 1) : (n != 0) = (n == 1) := by
  rcases (show n = 0 ∨ n = 1 by omega) with rfl | rfl <;> rfl
set_option maxRecDepth 100000 in
set_option maxHeartbeats 2000000 in
theorem get_any (x : Int) (w : World) (hx : 0 ≤ x ∧ x ≤ 18446744073709551615) (hW : TabW w) :
    Calls Tryz.prog 197 #[.int .u64 x] w fun v w' => v = .returned (.tuple #[.agg #[.bool (getO x), .int .i64 (getF x), .int .i64 (getR x), .int .i64 (getT x)], .int .i64 (getE x)]) ∧ Below w.heap.size w w' := by
  obtain ⟨g0, g1, g2, g3⟩ := hW.cells
  have gl := hW.lt
  clear hW
  have HO : Hid (∀ ty o w1, Below ((w.alloc (.cells #[.bool false, .int .i64 0, .int .i64 0, .int .i64 0] ty)).alloc o).heap.size ((w.alloc (.cells #[.bool false, .int .i64 0, .int .i64 0, .int .i64 0] ty)).alloc o) w1 → BoxP w1 w.heap.size false 0 0 0) := fun ty o w1 h => ((boxP_new w false 0 0 0 ty).on (bal (Below.refl _ _) o)).on h
  have HX : Hid (0 ≤ x ∧ x ≤ 18446744073709551615) := hx
  clear hx
  have HW : Hid (∀ o ty, Ints .i64 ((w.alloc o).alloc (.cells #[.int .i64 1, .int .i64 6, .int .i64 2, .int .i64 31] ty)).heap.size ((w.alloc o).alloc (.cells #[.int .i64 1, .int .i64 6, .int .i64 2, .int .i64 31] ty)) (.slice (some ⟨w.heap.size + 1, 0, none⟩) 4 4) ws ∧ Below w.heap.size w ((w.alloc o).alloc (.cells #[.int .i64 1, .int .i64 6, .int .i64 2, .int .i64 31] ty))) := fun o ty => ⟨by have := ints_ws (w.alloc o) ty; rwa [show (w.alloc o).heap.size = w.heap.size + 1 by simp] at this, bal (bal (Below.refl _ _) _) _⟩
  by_cases hc : canU x ws
  case neg =>
    have hno : ¬ Got x := fun h => hc h.1
    obtain ⟨e0, e1, e2, e3, e4⟩ := get_no hno
    rw [e0, e1, e2, e3, e4]
    have HN : Hid (¬ canU x ws) := hc
    clear hc hno e0 e1 e2 e3 e4
    go_enter Tryz.func197, Tryz.ntmps197
    go_wp2_with (first
      | (go_at_call 160; refine (unpack_bad (some ⟨w.heap.size + 1, 0, none⟩) 4 ws x _ (by decide) HX.out (HW.out _ _).1 HN.out).mono ?_; rintro e1 w1 ⟨rfl, hb1⟩; have H1 : Hid (Below w.heap.size w w1) := (HW.out _ _).2.trans (hb1.mono (HW.out _ _).2.size); have X1 := HO.out _ _ _ hb1; clear hb1 HO; have x0 := X1.c0; have x1 := X1.c1; have x2 := X1.c2; have x3 := X1.c3; have z0 := X1.fz 0; have z1 := X1.fz 1; have z2 := X1.fz 2; have z3 := X1.fz 3; have xl := X1.lt; clear X1)
      | fail)
    refine bodyPost_ret (v := .tuple #[.agg #[.bool false, .int .i64 0, .int .i64 0, .int .i64 0], .int .i64 12]) (by simp [results, Tryz.results197, go_sem, x0, x1, x2, x3]) rfl ⟨rfl, ?_⟩
    exact bst (bst (bst (bst H1.out (Nat.le_refl _) _ _) (Nat.le_refl _) _ _) (Nat.le_refl _) _ _) (Nat.le_refl _) _ _
  case pos =>
  have HN : Hid (canU x ws) := hc
  clear hc
  obtain ⟨hp0, ⟨p1, q1⟩, ⟨p2, q2⟩, ⟨p3, q3⟩⟩ := gN_bd HX.out HN.out
  have d0 : (gN x 0 != 0) = (gN x 0 == 1) := on_bit hp0
  have d1 : IntKind.i64.wrap (gN x 1) = gN x 1 := wrapi_small p1 (by omega)
  have d2 : IntKind.i64.wrap (gN x 2) = gN x 2 := wrapi_small p2 (by omega)
  have d3 : IntKind.i64.wrap (gN x 3) = gN x 3 := wrapi_small p3 (by omega)
  obtain ⟨ob, hob⟩ : ∃ ob, (gN x 0 == 1) = ob := ⟨_, rfl⟩
  rw [hob] at d0
  by_cases hr : Rt ob (gN x 1) (gN x 2) (gN x 3)
  case pos =>
    have hG : Got x := ⟨HN.out, by rw [hob]; exact hr⟩
    obtain ⟨e0, e1, e2, e3, e4⟩ := get_yes hG
    rw [e0, e1, e2, e3, e4, hob]
    clear e0 e1 e2 e3 e4 hG
    have hc : chk ob (gN x 1) (gN x 2) (gN x 3) = 0 := chk_yes hr
    clear hr p1 p2 p3 q1 q2 q3 hp0 hob
    go_enter Tryz.func197, Tryz.ntmps197
    go_wp2_with (first
      | (go_at_call 160; refine (unpack_four (some ⟨w.heap.size + 1, 0, none⟩) x _ HX.out (HW.out _ _).1 HN.out).mono ?_; rintro e1 w1 ⟨b, o, c, rfl, h5, hb1⟩; have H1 : Hid (Below w.heap.size w w1) := (HW.out _ _).2.trans (hb1.mono (HW.out _ _).2.size); have H5 : Hid (Four w1 b o x) := h5; have HX1 : Hid (BoxP w1 w.heap.size false 0 0 0) := HO.out _ _ _ hb1; clear hb1 HO h5; have f0 := H5.out.c0; have f1 := H5.out.c1; have f2 := H5.out.c2; have f3 := H5.out.c3; have fl := H5.out.lt)
      | fail)
    go_region_held3 (fun w' => w'.cell? ⟨b, o, none⟩ = some (.int .u64 (gN x 0)) ∧ w'.cell? ⟨b, o + 1, none⟩ = some (.int .u64 (gN x 1)) ∧ w'.cell? ⟨b, o + 2, none⟩ = some (.int .u64 (gN x 2)) ∧ w'.cell? ⟨b, o + 3, none⟩ = some (.int .u64 (gN x 3))) (first | exact ⟨by assumption, by assumption, by assumption, by assumption⟩ | go_keep)
    (fail)
    try simp only [d0, d1, d2, d3]
    have hbx := (boxP_new w1 ob (gN x 1) (gN x 2) (gN x 3) 300).on (Below.refl _ _).drew
    have hbr := HX1.out.on (bal (Below.refl _ _) (.cells #[.bool ob, .int .i64 (gN x 1), .int .i64 (gN x 2), .int .i64 (gN x 3)] 300)).drew
    have hbb := (bal H1.out (.cells #[.bool ob, .int .i64 (gN x 1), .int .i64 (gN x 2), .int .i64 (gN x 3)] 300)).drew
    have hne := HX1.out.lt
    clear f0 f1 f2 f3 fl H5
    generalize (w1.alloc _).drew = w2 at hbx hbr hbb ⊢
    have HP2 : Hid (BoxP w2 w1.heap.size ob (gN x 1) (gN x 2) (gN x 3)) := hbx
    have HR2 : Hid (BoxP w2 w.heap.size false 0 0 0) := hbr
    have HB2 : Hid (Below w.heap.size w w2) := hbb
    have HQ2 : Hid (w.heap.size < w1.heap.size) := hne
    have y0 := hbx.c0
    have y1 := hbx.c1
    have y2 := hbx.c2
    have y3 := hbx.c3
    clear hbx hbr hbb hne HX1
    generalize w1.heap.size = D at HP2 HQ2 y0 y1 y2 y3 ⊢
    go_wp2_with (first
      | (go_at_call 201; refine (check_any _ _ _ _ _).mono ?_; rintro e2 w3 ⟨rfl, hb3⟩; rw [hc]; have H3 : Hid (Below w.heap.size w w3) := HB2.out.trans (hb3.mono HB2.out.size); clear y0 y1 y2 y3; have Y1 := HP2.out.on hb3; have y0 := Y1.c0; have y1 := Y1.c1; have y2 := Y1.c2; have y3 := Y1.c3; clear Y1; have X1 := HR2.out.on hb3; have x0 := X1.c0; have x1 := X1.c1; have x2 := X1.c2; have x3 := X1.c3; have z0 := X1.fz 0; have z1 := X1.fz 1; have z2 := X1.fz 2; have z3 := X1.fz 3; have xl := X1.lt; clear X1 hb3; have ne1 : ¬ D = w.heap.size := Nat.ne_of_gt HQ2.out; have ne2 : ¬ w.heap.size = D := Nat.ne_of_lt HQ2.out)
      | fail)
    refine bodyPost_ret (v := .tuple #[.agg #[.bool ob, .int .i64 (gN x 1), .int .i64 (gN x 2), .int .i64 (gN x 3)], .int .i64 0]) (by simp [results, Tryz.results197, go_sem, x0, x1, x2, x3]) rfl ⟨rfl, ?_⟩
    exact bst (bst (bst (bst H3.out (Nat.le_refl _) _ _) (Nat.le_refl _) _ _) (Nat.le_refl _) _ _) (Nat.le_refl _) _ _
  case neg =>
    have hG : ¬ Got x := fun h => hr (by rw [← hob]; exact h.2)
    obtain ⟨e0, e1, e2, e3, e4⟩ := get_no hG
    rw [e0, e1, e2, e3, e4]
    clear e0 e1 e2 e3 e4 hG
    have hc : chk ob (gN x 1) (gN x 2) (gN x 3) = 1 := chk_no hr
    clear hr p1 p2 p3 q1 q2 q3 hp0 hob
    go_enter Tryz.func197, Tryz.ntmps197
    go_wp2_with (first
      | (go_at_call 160; refine (unpack_four (some ⟨w.heap.size + 1, 0, none⟩) x _ HX.out (HW.out _ _).1 HN.out).mono ?_; rintro e1 w1 ⟨b, o, c, rfl, h5, hb1⟩; have H1 : Hid (Below w.heap.size w w1) := (HW.out _ _).2.trans (hb1.mono (HW.out _ _).2.size); have H5 : Hid (Four w1 b o x) := h5; have HX1 : Hid (BoxP w1 w.heap.size false 0 0 0) := HO.out _ _ _ hb1; clear hb1 HO h5; have f0 := H5.out.c0; have f1 := H5.out.c1; have f2 := H5.out.c2; have f3 := H5.out.c3; have fl := H5.out.lt)
      | fail)
    go_region_held3 (fun w' => w'.cell? ⟨b, o, none⟩ = some (.int .u64 (gN x 0)) ∧ w'.cell? ⟨b, o + 1, none⟩ = some (.int .u64 (gN x 1)) ∧ w'.cell? ⟨b, o + 2, none⟩ = some (.int .u64 (gN x 2)) ∧ w'.cell? ⟨b, o + 3, none⟩ = some (.int .u64 (gN x 3))) (first | exact ⟨by assumption, by assumption, by assumption, by assumption⟩ | go_keep)
    (fail)
    try simp only [d0, d1, d2, d3]
    have hbx := (boxP_new w1 ob (gN x 1) (gN x 2) (gN x 3) 300).on (Below.refl _ _).drew
    have hbr := HX1.out.on (bal (Below.refl _ _) (.cells #[.bool ob, .int .i64 (gN x 1), .int .i64 (gN x 2), .int .i64 (gN x 3)] 300)).drew
    have hbb := (bal H1.out (.cells #[.bool ob, .int .i64 (gN x 1), .int .i64 (gN x 2), .int .i64 (gN x 3)] 300)).drew
    have hne := HX1.out.lt
    clear f0 f1 f2 f3 fl H5
    generalize (w1.alloc _).drew = w2 at hbx hbr hbb ⊢
    have HP2 : Hid (BoxP w2 w1.heap.size ob (gN x 1) (gN x 2) (gN x 3)) := hbx
    have HR2 : Hid (BoxP w2 w.heap.size false 0 0 0) := hbr
    have HB2 : Hid (Below w.heap.size w w2) := hbb
    have HQ2 : Hid (w.heap.size < w1.heap.size) := hne
    have y0 := hbx.c0
    have y1 := hbx.c1
    have y2 := hbx.c2
    have y3 := hbx.c3
    clear hbx hbr hbb hne HX1
    generalize w1.heap.size = D at HP2 HQ2 y0 y1 y2 y3 ⊢
    go_wp2_with (first
      | (go_at_call 201; refine (check_any _ _ _ _ _).mono ?_; rintro e2 w3 ⟨rfl, hb3⟩; rw [hc]; have H3 : Hid (Below w.heap.size w w3) := HB2.out.trans (hb3.mono HB2.out.size); clear y0 y1 y2 y3; have Y1 := HP2.out.on hb3; have y0 := Y1.c0; have y1 := Y1.c1; have y2 := Y1.c2; have y3 := Y1.c3; clear Y1; have X1 := HR2.out.on hb3; have x0 := X1.c0; have x1 := X1.c1; have x2 := X1.c2; have x3 := X1.c3; have z0 := X1.fz 0; have z1 := X1.fz 1; have z2 := X1.fz 2; have z3 := X1.fz 3; have xl := X1.lt; clear X1 hb3; have ne1 : ¬ D = w.heap.size := Nat.ne_of_gt HQ2.out; have ne2 : ¬ w.heap.size = D := Nat.ne_of_lt HQ2.out)
      | fail)
    refine bodyPost_ret (v := .tuple #[.agg #[.bool false, .int .i64 0, .int .i64 0, .int .i64 0], .int .i64 12]) (by simp [results, Tryz.results197, go_sem, x0, x1, x2, x3]) rfl ⟨rfl, ?_⟩
    exact bst (bst (bst (bst H3.out (Nat.le_refl _) _ _) (Nat.le_refl _) _ _) (Nat.le_refl _) _ _) (Nat.le_refl _) _ _
end Go.Proofs.YtcgekcjnaadcmaaGreatDoor.Ppte

/- The table of widths, out of what a row's condition says of it. -/
namespace Go.Proofs.YtcgekcjnaadcmaaGreatDoor.Ppte
open Go.Proofs.YtcgekcjnaadcmaaGreatDoor.Pbase Go.Proofs.YtcgekcjnaadcmaaGreatDoor.Pfield
open Go.RowKit Go.ChangeShapes Go.WideShapes
set_option linter.unusedVariables false

theorem gTw : (Tryz.prog.globals[(4 : Nat)]?).map (·.type) = some 345 := by kernel_rfl
theorem cellsWide : Tryz.prog.cellsOf 345 = 4 := by kernel_rfl
theorem w_datum : /- 4 -/ (Rows.laid_palanquin_pte_widths : DataW Unit) = .agg (ws.map fun z => .lit (.int .i64 z)) := rfl
theorem tabW_of {W : World} {g : Nat} {t : TypeId} {cs : Array Value} {fuel : Nat} {p : List MemPlace} {n : String} (hn : Tryz.prog.globalNamed n = some 4) (hg : Tryz.prog.globalNamed n = some g) (ht : (Tryz.prog.globals[g]?).map (·.type) = some t) (hv : W.var? Tryz.prog n = some cs)
    (hd : DataW.trod (fun _ => ()) Tryz.prog W 0 (fun _ => true) false fuel t cs.toList = some (Rows.laid_palanquin_pte_widths, p)) : TabW W := by
  obtain rfl := Option.some.inj (hn.symm.trans hg)
  obtain rfl := Option.some.inj (gTw.symm.trans ht)
  obtain ⟨t1, fr, hb⟩ := var_block hg hv
  refine ⟨block_lt hb, t1, fr, ?_⟩
  rw [w_datum] at hd
  obtain ⟨_, hl, hc⟩ := array_ints Tryz.underlying345 cellsWide hd
  obtain ⟨cl⟩ := cs
  simp only at hl hc hb
  match cl, hl with
  | [v0, v1, v2, v3], _ =>
    have g0 := hc 0 (by omega)
    have g1 := hc 1 (by omega)
    have g2 := hc 2 (by omega)
    have g3 := hc 3 (by omega)
    simp [ws] at g0 g1 g2 g3
    rw [hb, g0, g1, g2, g3]
end Go.Proofs.YtcgekcjnaadcmaaGreatDoor.Ppte
