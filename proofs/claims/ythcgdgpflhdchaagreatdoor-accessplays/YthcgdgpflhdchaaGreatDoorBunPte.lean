/- Texts on finished packages, joined. -/
import Derived.Test.YthcgdgpflhdchaaGreatDoorBunBase
import Derived.Laws.BitsAllLaws
import Derived.Test.YthcgdgpflhdchaaGreatDoorBunField
import Derived.Below
import Derived.OwnWalk
import Derived.Laws.Rows
import Derived.Maps.AppendAt
import Derived.Deep.RegionHeld3
import Derived.Deep.RegionWith
import Derived.Deep.CutBlock
import Derived.BigRegion
import Derived.BigQuiet
import Derived.Test.YthcgdgpflhdchaaGreatDoorRows
import Derived.ProofKit
import Derived.OpenShut
import Derived.Carry
import Derived.LaidMore

/- Plain words on mappings: which are right, what is allowed, lessened, quiet. No program is named here. -/
namespace Go.Proofs.YthcgdgpflhdchaaGreatDoor.Ppte
open Go.Proofs.YthcgdgpflhdchaaGreatDoor.Pbase
open Go.RowKit
set_option linter.unusedVariables false

/-- When a mapping, on or not, of frame f, rights r, time t is right. -/
def Rt (o : Bool) (f r t : Int) : Prop := (o = true → 0 ≤ f ∧ f ≤ 63 ∧ 1 ≤ r ∧ r ≤ 3 ∧ t = 0) ∧ (o = false → f = 0 ∧ r = 0 ∧ 0 ≤ t ∧ t ≤ 1073741824)
/-- Is it right? -/
def rtB (o : Bool) (f r t : Int) : Bool :=
  (!o || (decide (0 ≤ f) && decide (f < 64) && decide (1 ≤ r) && decide (r ≤ 3) && decide (t = 0))) && (o || (decide (f = 0) && decide (r = 0) && decide (0 ≤ t) && decide (t ≤ 1073741824)))
theorem rtB_iff (o : Bool) (f r t : Int) : rtB o f r t = true ↔ Rt o f r t := by
  unfold rtB Rt
  cases o
  · simp
    omega
  · simp
    omega
theorem rtB_yes {o : Bool} {f r t : Int} (h : Rt o f r t) : rtB o f r t = true := (rtB_iff o f r t).2 h
theorem rtB_no {o : Bool} {f r t : Int} (h : ¬ Rt o f r t) : rtB o f r t = false := Bool.eq_false_iff.2 fun e => h ((rtB_iff o f r t).1 e)
/-- What Check answers. -/
def chk (o : Bool) (f r t : Int) : Int := if rtB o f r t = true then 0 else 1
theorem chk_yes {o : Bool} {f r t : Int} (h : Rt o f r t) : chk o f r t = 0 := by unfold chk; rw [if_pos (rtB_yes h)]
theorem chk_no {o : Bool} {f r t : Int} (h : ¬ Rt o f r t) : chk o f r t = 1 := by unfold chk; rw [rtB_no h]; rfl
theorem rt_bd {o : Bool} {f r t : Int} (h : Rt o f r t) : (0 ≤ f ∧ f ≤ 63) ∧ (0 ≤ r ∧ r ≤ 3) ∧ 0 ≤ t ∧ t ≤ 1073741824 := by
  unfold Rt at h
  cases o
  · have := h.2 rfl; omega
  · have := h.1 rfl; omega

/-! ### rights -/
/-- What is left of rights. -/
def anR (r q : Int) : Int := bits .and .i64 r q
def alB (o : Bool) (f r t q : Int) : Bool := rtB o f r t && o && (anR r q == q)
def leB (o : Bool) (f r t q : Int) : Bool := rtB o f r t && o && !(anR r q == 0)
def leE (o : Bool) (f r t q : Int) : Int := if leB o f r t q = true then 0 else 1
def leO (o : Bool) (f r t q : Int) : Bool := leB o f r t q
def leF (o : Bool) (f r t q : Int) : Int := if leB o f r t q = true then f else 0
def leR (o : Bool) (f r t q : Int) : Int := if leB o f r t q = true then anR r q else 0
def quB (o : Bool) (f r t fl : Int) : Bool := rtB o f r t && !o && (decide (t = 0) || decide (t < fl))
/-- The low bits of a number as the machine holds it. -/
def lowM (q : Int) : Nat := (BitVec.ofInt 64 q).toNat
theorem and_low {x : Int} (q : Int) (h0 : 0 ≤ x) (h1 : x ≤ 3) : anR x q = ((x.toNat &&& lowM q : Nat) : Int) ∧ x.toNat &&& lowM q ≤ x.toNat := by
  obtain ⟨A, rfl⟩ := Int.eq_ofNat_of_zero_le h0
  refine ⟨?_, Nat.and_le_left⟩
  have hx : A &&& lowM q ≤ A := Nat.and_le_left
  unfold lowM at hx ⊢
  show IntKind.i64.wrap ((BitVec.ofInt 64 (A : Int) &&& BitVec.ofInt 64 q).toNat : Int) = _
  rw [BitVec.toNat_and, ofInt_u64 A (by omega)]
  obtain ⟨y, hy⟩ : ∃ y, y = A &&& (BitVec.ofInt 64 q).toNat := ⟨_, rfl⟩
  rw [← hy] at hx
  rw [Int.toNat_natCast, ← hy]
  unfold IntKind.wrap
  simp [IntKind.bits, IntKind.signed]
  omega
theorem low_small (n : Nat) (h : n ≤ 3) : lowM (n : Int) = n := by
  unfold lowM
  rw [ofInt_u64 n (by omega)]
/-- With fewer rights nothing more is allowed. -/
theorem and_more {r q k : Int} (h0 : 0 ≤ r) (h1 : r ≤ 3) (h : anR (anR r q) k = k) : anR r k = k := by
  obtain ⟨e1, l1⟩ := and_low q h0 h1
  have hr : r.toNat ≤ 3 := by omega
  obtain ⟨A, hA⟩ : ∃ A, A = r.toNat &&& lowM q := ⟨_, rfl⟩
  rw [← hA] at e1 l1
  have hA3 : A ≤ 3 := by omega
  obtain ⟨e2, l2⟩ := and_low (x := (A : Int)) k (by omega) (by omega)
  rw [e1, e2] at h
  rw [Int.toNat_natCast] at h l2
  obtain ⟨B, hB⟩ : ∃ B, B = A &&& lowM k := ⟨_, rfl⟩
  rw [← hB] at h l2
  obtain ⟨e3, _⟩ := and_low k h0 h1
  rw [e3, ← h, low_small B (by omega)]
  have hk : lowM k = B := by rw [← h]; exact low_small B (by omega)
  rw [hk] at hB
  -- B = A &&& B, A = r &&& lowM q
  have : r.toNat &&& B = B := by
    rw [hB, hA, ← Nat.and_assoc, ← Nat.and_assoc, Nat.and_self]
  rw [this]
/-- What Less leaves is right. -/
theorem less_right {o : Bool} {f r t q : Int} (h : leB o f r t q = true) : o = true ∧ Rt true f (anR r q) 0 ∧ Rt true f r t ∧ t = 0 := by
  unfold leB at h
  simp only [Bool.and_eq_true] at h
  obtain ⟨⟨h1, rfl⟩, h2⟩ := h
  have hr := (rtB_iff true f r t).1 h1
  have hr' := hr.1 rfl
  obtain ⟨e1, l1⟩ := and_low q (by omega) (by omega : r ≤ 3)
  have hne : anR r q ≠ 0 := by simpa using h2
  refine ⟨rfl, ⟨fun _ => ?_, fun e => by cases e⟩, hr, hr'.2.2.2.2⟩
  rw [e1] at hne ⊢
  omega
/-- All that PteLess asks: of Less, and of Quiet at two floors. -/
theorem less_all {o : Bool} {f r t q k : Int} (h : leE o f r t q = 0) : leO o f r t q = true ∧ leF o f r t q = f ∧ leR o f r t q = anR r q ∧ (alB true f (anR r q) 0 k = true → alB o f r t k = true) ∧ chk true f (anR r q) 0 = 0 := by
  have hb : leB o f r t q = true := by
    unfold leE at h
    by_cases hb : leB o f r t q = true
    · exact hb
    · rw [if_neg hb] at h; cases h
  obtain ⟨rfl, h1, h2, rfl⟩ := less_right hb
  refine ⟨hb, by simp [leF, hb], by simp [leR, hb], fun ha => ?_, chk_yes h1⟩
  have hr := h2.1 rfl
  simp only [alB, Bool.and_eq_true, beq_iff_eq] at ha ⊢
  exact ⟨⟨rtB_yes h2, trivial⟩, and_more (by omega) (by omega) ha.2⟩
theorem quiet_more {o : Bool} {f r t a b : Int} (hab : a ≤ b) (h : quB o f r t a = true) : quB o f r t b = true := by
  simp only [quB, Bool.and_eq_true, Bool.or_eq_true, decide_eq_true_eq] at h ⊢
  exact ⟨h.1, h.2.elim .inl fun hh => .inr (by omega)⟩
theorem quiet_off {o : Bool} {f r t a q : Int} (h : quB o f r t a = true) : alB o f r t q = false := by
  simp only [quB, Bool.and_eq_true] at h
  have ho : o = false := by simpa using h.1.2
  simp [alB, ho]

/-! ### the tests, as the program and the document make them -/
def mpB (o : Bool) (f r t : Int) : Bool := rtB o f r t && o
def nnB (o : Bool) (f r t : Int) : Bool := rtB o f r t && !o
theorem mpB_yes {f r t : Int} (h : 0 ≤ f ∧ f ≤ 63 ∧ 1 ≤ r ∧ r ≤ 3 ∧ t = 0) : mpB true f r t = true := by
  unfold mpB
  rw [rtB_yes (o := true) ⟨fun _ => h, fun e => by cases e⟩]
  rfl
theorem mpB_no {f r t : Int} (h : ¬ (0 ≤ f ∧ f ≤ 63 ∧ 1 ≤ r ∧ r ≤ 3 ∧ t = 0)) : mpB true f r t = false := by
  unfold mpB
  rw [rtB_no (o := true) fun hh => h (hh.1 rfl)]
  rfl
theorem mpB_off (f r t : Int) : mpB false f r t = false := by simp [mpB]
theorem nnB_yes {f r t : Int} (h : f = 0 ∧ r = 0 ∧ 0 ≤ t ∧ t ≤ 1073741824) : nnB false f r t = true := by
  unfold nnB
  rw [rtB_yes (o := false) ⟨fun e => (by cases e), fun _ => h⟩]
  rfl
theorem nnB_no {f r t : Int} (h : ¬ (f = 0 ∧ r = 0 ∧ 0 ≤ t ∧ t ≤ 1073741824)) : nnB false f r t = false := by
  unfold nnB
  rw [rtB_no (o := false) fun hh => h (hh.2 rfl)]
  rfl
theorem nnB_on (f r t : Int) : nnB true f r t = false := by simp [nnB]
theorem rtB_or (o : Bool) (f r t : Int) : rtB o f r t = (mpB o f r t || nnB o f r t) := by
  unfold mpB nnB
  cases rtB o f r t <;> cases o <;> rfl
theorem chk_of (o : Bool) (f r t : Int) : chk o f r t = if mpB o f r t || nnB o f r t then 0 else 1 := by
  unfold chk
  rw [rtB_or]
theorem mpB_rt {o : Bool} {f r t : Int} (h : mpB o f r t = true) : o = true ∧ 0 ≤ f ∧ f ≤ 63 ∧ 1 ≤ r ∧ r ≤ 3 ∧ t = 0 := by
  simp only [mpB, Bool.and_eq_true] at h
  obtain ⟨h1, rfl⟩ := h
  exact ⟨rfl, ((rtB_iff true f r t).1 h1).1 rfl⟩
theorem back_toInt (x : BitVec 64) : IntKind.i64.wrap (x.toNat : Int) = x.toInt := by
  have := x.isLt
  unfold IntKind.wrap
  simp [IntKind.bits, IntKind.signed]
  rw [BitVec.toInt_eq_toNat_cond]
  split <;> omega
theorem toInt_of {q : Int} (h : -9223372036854775808 ≤ q ∧ q ≤ 9223372036854775807) : (BitVec.ofInt 64 q).toInt = q := by
  rw [BitVec.toInt_ofInt]
  unfold Int.bmod
  simp only
  split <;> omega
theorem and_iff (A B : BitVec 64) : A &&& ~~~B = 0#64 ↔ B &&& A = A := by
  constructor
  · intro h
    apply BitVec.eq_of_getElem_eq
    intro i hi
    have := congrArg (fun x : BitVec 64 => x[i]) h
    simp at this ⊢
    exact this
  · intro h
    apply BitVec.eq_of_getElem_eq
    intro i hi
    have := congrArg (fun x : BitVec 64 => x[i]) h
    simp at this ⊢
    exact this
/-- Nothing of q beside r: r has all of q. -/
theorem an_not {q : Int} (r : Int) (h : -9223372036854775808 ≤ q ∧ q ≤ 9223372036854775807) : (bits .andNot .i64 q r == 0) = (anR r q == q) := by
  show (IntKind.i64.wrap ((BitVec.ofInt 64 q &&& ~~~ BitVec.ofInt 64 r).toNat : Int) == 0) = (IntKind.i64.wrap ((BitVec.ofInt 64 r &&& BitVec.ofInt 64 q).toNat : Int) == q)
  rw [back_toInt, back_toInt]
  have e1 : ((BitVec.ofInt 64 q &&& ~~~ BitVec.ofInt 64 r).toInt = 0) ↔ BitVec.ofInt 64 q &&& ~~~ BitVec.ofInt 64 r = 0#64 := by
    rw [show (0 : Int) = (0#64).toInt from rfl, BitVec.toInt_inj]
  have e2 : ((BitVec.ofInt 64 r &&& BitVec.ofInt 64 q).toInt = q) ↔ BitVec.ofInt 64 r &&& BitVec.ofInt 64 q = BitVec.ofInt 64 q := by
    conv => lhs; rhs; rw [← toInt_of h]
    rw [BitVec.toInt_inj]
  rw [Bool.eq_iff_iff, beq_iff_eq, beq_iff_eq, e1, e2]
  exact and_iff _ _
theorem alB_of (o : Bool) (f r t q : Int) : alB o f r t q = (mpB o f r t && (anR r q == q)) := rfl
theorem leB_of (o : Bool) (f r t q : Int) : leB o f r t q = (mpB o f r t && !(anR r q == 0)) := rfl
theorem quB_of (o : Bool) (f r t fl : Int) : quB o f r t fl = (nnB o f r t && (decide (t = 0) || decide (t < fl))) := rfl
end Go.Proofs.YthcgdgpflhdchaaGreatDoor.Ppte

/- Plain words on mappings' words: what is put, what a word says. No program is named here. -/
namespace Go.Proofs.YthcgdgpflhdchaaGreatDoor.Ppte
open Go.Proofs.YthcgdgpflhdchaaGreatDoor.Pbase Go.Proofs.YthcgdgpflhdchaaGreatDoor.Pfield
open Go.RowKit M
set_option linter.unusedVariables false

/-! ### words -/
def ws : List Int := [1, 6, 2, 31]
theorem ws_length : ws.length = 4 := rfl
def bz : Bool → Int
  | true => 1
  | false => 0
theorem mask1 : maskF 1 = 1 := by decide
theorem mask6 : maskF 6 = 63 := by decide
theorem mask2 : maskF 2 = 3 := by decide
theorem mask31 : maskF 31 = 2147483647 := by decide
/-- The word of one. -/
def wd (o : Bool) (f r t : Int) : Int := packF ws [bz o, f, r, t]
theorem put_can {o : Bool} {f r t : Int} (h : Rt o f r t) : (∀ j : Nat, 0 ≤ [bz o, f, r, t][j]?.getD 0 ∧ [bz o, f, r, t][j]?.getD 0 ≤ 18446744073709551615) ∧ ∀ j, j < ws.length → okP ws [bz o, f, r, t] j = true := by
  have hz : 0 ≤ bz o ∧ bz o ≤ 1 := by cases o <;> simp [bz]
  have hb := rt_bd h
  generalize bz o = b at hz
  constructor
  · intro j
    match j with
    | 0 | 1 | 2 | 3 => simp; omega
    | j + 4 => simp
  · intro j hj
    match j, hj with
    | 0, _ | 1, _ | 2, _ | 3, _ =>
      simp [okP, inB, fitsB, mask1, mask6, mask2, mask31, sumTo, ws, wrap64]
      omega
/-- The j-th part of a word. -/
def gN (x : Int) (j : Nat) : Int := (getsI x ws)[j]?.getD 0
theorem gN_bd {x : Int} (hx : 0 ≤ x ∧ x ≤ 18446744073709551615) (h : canU x ws) : (0 ≤ gN x 0 ∧ gN x 0 ≤ 1) ∧ (0 ≤ gN x 1 ∧ gN x 1 ≤ 63) ∧ (0 ≤ gN x 2 ∧ gN x 2 ≤ 3) ∧ (0 ≤ gN x 3 ∧ gN x 3 ≤ 2147483647) := by
  obtain ⟨h1, h2, _⟩ := unpack_pack hx h
  have m0 := (ok_parts (h2 0 (by decide))).2
  have m1 := (ok_parts (h2 1 (by decide))).2
  have m2 := (ok_parts (h2 2 (by decide))).2
  have m3 := (ok_parts (h2 3 (by decide))).2
  rw [show ws[0]?.getD 0 = 1 from rfl, fitsB, mask1, decide_eq_true_eq] at m0
  rw [show ws[1]?.getD 0 = 6 from rfl, fitsB, mask6, decide_eq_true_eq] at m1
  rw [show ws[2]?.getD 0 = 2 from rfl, fitsB, mask2, decide_eq_true_eq] at m2
  rw [show ws[3]?.getD 0 = 31 from rfl, fitsB, mask31, decide_eq_true_eq] at m3
  exact ⟨⟨(h1 0).1, m0⟩, ⟨(h1 1).1, m1⟩, ⟨(h1 2).1, m2⟩, ⟨(h1 3).1, m3⟩⟩
theorem bz_back {n : Int} (h : 0 ≤ n ∧ n ≤ 1) : bz (n == 1) = n := by
  rcases (show n = 0 ∨ n = 1 by omega) with rfl | rfl <;> rfl
/-- The parts of a word make just that word. -/
theorem wd_back {x : Int} (hx : 0 ≤ x ∧ x ≤ 18446744073709551615) (h : canU x ws) : wd (gN x 0 == 1) (gN x 1) (gN x 2) (gN x 3) = x := by
  unfold wd
  rw [bz_back (gN_bd hx h).1]
  have hl := getsI_length x ws
  have he : getsI x ws = [gN x 0, gN x 1, gN x 2, gN x 3] := by
    unfold gN
    generalize getsI x ws = l at hl
    match l, hl with
    | [v0, v1, v2, v3], _ => rfl
  have := (unpack_pack hx h).2.2
  rwa [he] at this
theorem wd_bd {o : Bool} {f r t : Int} (h : Rt o f r t) : 0 ≤ wd o f r t ∧ wd o f r t ≤ 18446744073709551615 :=
  (pack_unpack (zs := ws) (vs := [bz o, f, r, t]) rfl (put_can h).1 (put_can h).2).1
/-- What Put answers. -/
def putW (o : Bool) (f r t : Int) : Int := if rtB o f r t = true then wd o f r t else 0
theorem putW_yes {o : Bool} {f r t : Int} (h : Rt o f r t) : putW o f r t = wd o f r t := by unfold putW; rw [if_pos (rtB_yes h)]
theorem putW_no {o : Bool} {f r t : Int} (h : ¬ Rt o f r t) : putW o f r t = 0 := by unfold putW; rw [rtB_no h]; rfl

/-! ### what a word says -/
def Got (x : Int) : Prop := canU x ws ∧ Rt (gN x 0 == 1) (gN x 1) (gN x 2) (gN x 3)
def gotB (x : Int) : Bool := (List.range ws.length).all (okU ws) && fitsB x (sumTo ws ws.length) && rtB (gN x 0 == 1) (gN x 1) (gN x 2) (gN x 3)
theorem gotB_iff (x : Int) : gotB x = true ↔ Got x := by
  unfold gotB Got canU
  simp only [Bool.and_eq_true, rtB_iff, List.all_eq_true, List.mem_range]
theorem gotB_yes {x : Int} (h : Got x) : gotB x = true := (gotB_iff x).2 h
theorem gotB_no {x : Int} (h : ¬ Got x) : gotB x = false := Bool.eq_false_iff.2 fun e => h ((gotB_iff x).1 e)
def getO (x : Int) : Bool := gotB x && (gN x 0 == 1)
def getF (x : Int) : Int := if gotB x = true then gN x 1 else 0
def getR (x : Int) : Int := if gotB x = true then gN x 2 else 0
def getT (x : Int) : Int := if gotB x = true then gN x 3 else 0
def getE (x : Int) : Int := if gotB x = true then 0 else 12
theorem get_no {x : Int} (h : ¬ Got x) : getO x = false ∧ getF x = 0 ∧ getR x = 0 ∧ getT x = 0 ∧ getE x = 12 := by simp [getO, getF, getR, getT, getE, gotB_no h]
theorem get_yes {x : Int} (h : Got x) : getO x = (gN x 0 == 1) ∧ getF x = gN x 1 ∧ getR x = gN x 2 ∧ getT x = gN x 3 ∧ getE x = 0 := by simp [getO, getF, getR, getT, getE, gotB_yes h]
/-- What is put is got. -/
theorem got_back {o : Bool} {f r t : Int} (h : Rt o f r t) : getO (wd o f r t) = o ∧ getF (wd o f r t) = f ∧ getR (wd o f r t) = r ∧ getT (wd o f r t) = t ∧ getE (wd o f r t) = 0 := by
  obtain ⟨hb, hc, hg⟩ := pack_unpack (zs := ws) (vs := [bz o, f, r, t]) rfl (put_can h).1 (put_can h).2
  change canU (wd o f r t) ws at hc
  change getsI (wd o f r t) ws = _ at hg
  generalize wd o f r t = x at hc hg
  have g0 : (gN x 0 == 1) = o := by unfold gN; rw [hg]; cases o <;> rfl
  have g1 : gN x 1 = f := by unfold gN; rw [hg]; rfl
  have g2 : gN x 2 = r := by unfold gN; rw [hg]; rfl
  have g3 : gN x 3 = t := by unfold gN; rw [hg]; rfl
  have hG : Got x := ⟨hc, by rw [g0, g1, g2, g3]; exact h⟩
  obtain ⟨e0, e1, e2, e3, e4⟩ := get_yes hG
  exact ⟨e0.trans g0, e1.trans g1, e2.trans g2, e3.trans g3, e4⟩
/-- What is got is put. -/
theorem put_back {x : Int} (hx : 0 ≤ x ∧ x ≤ 18446744073709551615) (h : getE x = 0) : Rt (getO x) (getF x) (getR x) (getT x) ∧ putW (getO x) (getF x) (getR x) (getT x) = x ∧ chk (getO x) (getF x) (getR x) (getT x) = 0 := by
  by_cases hG : Got x
  · obtain ⟨e0, e1, e2, e3, e4⟩ := get_yes hG
    rw [e0, e1, e2, e3]
    exact ⟨hG.2, by rw [putW_yes hG.2]; exact wd_back hx hG.1, chk_yes hG.2⟩
  · rw [(get_no hG).2.2.2.2] at h
    cases h
end Go.Proofs.YthcgdgpflhdchaaGreatDoor.Ppte

/- maps, isNone, Check, Allows, Less, Quiet of package pte: for every mapping, what they answer. -/
namespace Go.Proofs.YthcgdgpflhdchaaGreatDoor.Ppte
open Go.Proofs.YthcgdgpflhdchaaGreatDoor.Pbase
open Go.RowKit
set_option linter.unusedVariables false

/-- A mapping in a block. -/
structure BoxP (w : World) (B : Nat) (o : Bool) (f r t : Int) : Prop where
  lt : B < w.heap.size
  c0 : w.cell? ⟨B, 0, none⟩ = some (.bool o)
  c1 : w.cell? ⟨B, 1, none⟩ = some (.int .i64 f)
  c2 : w.cell? ⟨B, 2, none⟩ = some (.int .i64 r)
  c3 : w.cell? ⟨B, 3, none⟩ = some (.int .i64 t)
  fz : ∀ j, w.frozen? ⟨B, j, none⟩ = false
theorem BoxP.on {w w' : World} {B : Nat} {o : Bool} {f r t : Int} (h : BoxP w B o f r t) (hB : Below w.heap.size w w') : BoxP w' B o f r t :=
  ⟨Nat.lt_of_lt_of_le h.lt hB.size, (hB.cell (p := ⟨B, 0, none⟩) h.lt).trans h.c0, (hB.cell (p := ⟨B, 1, none⟩) h.lt).trans h.c1, (hB.cell (p := ⟨B, 2, none⟩) h.lt).trans h.c2, (hB.cell (p := ⟨B, 3, none⟩) h.lt).trans h.c3, fun j => (hB.frozen (p := ⟨B, j, none⟩) h.lt).trans (h.fz j)⟩
theorem boxP_new (w : World) (o : Bool) (f r t : Int) (ty : TypeId) : BoxP (w.alloc (.cells #[.bool o, .int .i64 f, .int .i64 r, .int .i64 t] ty)) w.heap.size o f r t := by
  have h := heap_alloc_new w (.cells #[.bool o, .int .i64 f, .int .i64 r, .int .i64 t] ty)
  refine ⟨by simp, ?_, ?_, ?_, ?_, fun j => frozen_of_row _ _ _ _ _ h⟩ <;> (rw [cell_of_row _ _ _ _ _ _ h]; rfl)
theorem boxP_two (w : World) (o : Bool) (f r t : Int) (ty ty' : TypeId) (cs : Array Value) : BoxP ((w.alloc (.cells #[.bool o, .int .i64 f, .int .i64 r, .int .i64 t] ty)).alloc (.cells cs ty')) w.heap.size o f r t :=
  (boxP_new w o f r t ty).on (bal (Below.refl _ _) _)

/-! ### maps, isNone -/
set_option maxRecDepth 100000 in
theorem maps_any (o : Bool) (f r t : Int) (w : World) :
    Calls Tryz.prog 51 #[.agg #[.bool o, .int .i64 f, .int .i64 r, .int .i64 t]] w fun e w' => e = .returned (.bool (mpB o f r t)) ∧ Below w.heap.size w w' := by
  cases o
  case false =>
    rw [mpB_off]
    go_enter Tryz.func51, Tryz.ntmps51
    go_wp2
    go_ret
    exact ⟨rfl, bal (Below.refl _ _) _⟩
  case true =>
  by_cases hc : 0 ≤ f ∧ f ≤ 63 ∧ 1 ≤ r ∧ r ≤ 3 ∧ t = 0
  · rw [mpB_yes hc]
    obtain ⟨h0, h1, h2, h3, rfl⟩ := hc
    have h4 : f < 64 := by omega
    go_enter Tryz.func51, Tryz.ntmps51
    go_wp2
    go_ret
    exact ⟨rfl, bal (Below.refl _ _) _⟩
  · rw [mpB_no hc]
    have hk : f < 0 ∨ (¬ f < 0 ∧ ¬ f < 64) ∨ (¬ f < 0 ∧ f < 64 ∧ r < 1) ∨ (¬ f < 0 ∧ f < 64 ∧ ¬ r < 1 ∧ 3 < r) ∨ ¬ f < 0 ∧ f < 64 ∧ ¬ r < 1 ∧ ¬ 3 < r ∧ ((t : Int) == 0) = false := by
      simp only [beq_eq_false_iff_ne, ne_eq]
      omega
    clear hc
    rcases hk with h0 | ⟨h0, h1⟩ | ⟨h0, h1, h2⟩ | ⟨h0, h1, h2, h3⟩ | ⟨h0, h1, h2, h3, h4⟩
    all_goals
      go_enter Tryz.func51, Tryz.ntmps51
      go_wp2
      go_ret
      exact ⟨rfl, bal (Below.refl _ _) _⟩
set_option maxRecDepth 100000 in
theorem none_any (o : Bool) (f r t : Int) (w : World) :
    Calls Tryz.prog 89 #[.agg #[.bool o, .int .i64 f, .int .i64 r, .int .i64 t]] w fun e w' => e = .returned (.bool (nnB o f r t)) ∧ Below w.heap.size w w' := by
  cases o
  case true =>
    rw [nnB_on]
    go_enter Tryz.func89, Tryz.ntmps89
    go_wp2
    go_ret
    exact ⟨rfl, bal (Below.refl _ _) _⟩
  case false =>
  by_cases hc : f = 0 ∧ r = 0 ∧ 0 ≤ t ∧ t ≤ 1073741824
  · rw [nnB_yes hc]
    obtain ⟨rfl, rfl, h2, h3⟩ := hc
    go_enter Tryz.func89, Tryz.ntmps89
    go_wp2
    go_ret
    exact ⟨rfl, bal (Below.refl _ _) _⟩
  · rw [nnB_no hc]
    have hk : ((f : Int) == 0) = false ∨ (f = 0 ∧ ((r : Int) == 0) = false) ∨ (f = 0 ∧ r = 0 ∧ t < 0) ∨ f = 0 ∧ r = 0 ∧ ¬ t < 0 ∧ 1073741824 < t := by
      simp only [beq_eq_false_iff_ne, ne_eq]
      omega
    clear hc
    rcases hk with h0 | ⟨rfl, h1⟩ | ⟨rfl, rfl, h2⟩ | ⟨rfl, rfl, h2, h3⟩
    all_goals
      go_enter Tryz.func89, Tryz.ntmps89
      go_wp2
      go_ret
      exact ⟨by first | rfl | (show Ending.returned (.bool (decide (t ≤ 1073741824))) = _; rw [decide_eq_false (by omega)]), bal (Below.refl _ _) _⟩

/-! ### Check -/
set_option maxRecDepth 100000 in
theorem check_any (o : Bool) (f r t : Int) (w : World) :
    Calls Tryz.prog 64 #[.agg #[.bool o, .int .i64 f, .int .i64 r, .int .i64 t]] w fun e w' => e = .returned (.int .i64 (chk o f r t)) ∧ Below w.heap.size w w' := by
  rw [chk_of]
  have HX : Hid (∀ ty, BoxP (w.alloc (.cells #[.bool o, .int .i64 f, .int .i64 r, .int .i64 t] ty)) w.heap.size o f r t) := fun ty => boxP_new w o f r t ty
  have HM : Hid (∀ w1, Calls Tryz.prog 51 #[.agg #[.bool o, .int .i64 f, .int .i64 r, .int .i64 t]] w1 fun e w' => e = .returned (.bool (mpB o f r t)) ∧ Below w1.heap.size w1 w') := fun w1 => maps_any o f r t w1
  have HN : Hid (∀ w1, Calls Tryz.prog 89 #[.agg #[.bool o, .int .i64 f, .int .i64 r, .int .i64 t]] w1 fun e w' => e = .returned (.bool (nnB o f r t)) ∧ Below w1.heap.size w1 w') := fun w1 => none_any o f r t w1
  generalize mpB o f r t = m at HM ⊢
  generalize nnB o f r t = n at HN ⊢
  cases m <;> cases n
  all_goals
    go_enter Tryz.func64, Tryz.ntmps64
    go_wp2_with (first
      | (go_at_call 51; refine (HM.out _).mono ?_; rintro e1 w1 ⟨rfl, hb1⟩; have H1 : Hid (Below w.heap.size w w1) := (bal (Below.refl _ _) _).trans (hb1.mono (by simp)); have X1 := (HX.out _).on hb1; clear hb1 HX; have x0 := X1.c0; have x1 := X1.c1; have x2 := X1.c2; have x3 := X1.c3; have xl := X1.lt; clear X1)
      | (go_at_call 89; refine (HN.out _).mono ?_; rintro e2 w2 ⟨rfl, hb2⟩; have H2 : Hid (Below w.heap.size w w2) := H1.out.trans (hb2.mono H1.out.size); clear hb2 H1; have H1 : Hid (Below w.heap.size w w2) := H2; clear H2)
      | fail)
    go_ret
    exact ⟨rfl, H1.out⟩

/-! ### Allows, Quiet -/
set_option maxRecDepth 100000 in
theorem allows_any (o : Bool) (f r t q : Int) (w : World) (hq : -9223372036854775808 ≤ q ∧ q ≤ 9223372036854775807) :
    Calls Tryz.prog 29 #[.agg #[.bool o, .int .i64 f, .int .i64 r, .int .i64 t], .int .i64 q] w fun e w' => e = .returned (.bool (alB o f r t q)) ∧ Below w.heap.size w w' := by
  rw [alB_of, ← an_not r hq]
  clear hq
  have HX : Hid (∀ ty, BoxP (w.alloc (.cells #[.bool o, .int .i64 f, .int .i64 r, .int .i64 t] ty)) w.heap.size o f r t) := fun ty => boxP_new w o f r t ty
  have HM : Hid (∀ w1, Calls Tryz.prog 51 #[.agg #[.bool o, .int .i64 f, .int .i64 r, .int .i64 t]] w1 fun e w' => e = .returned (.bool (mpB o f r t)) ∧ Below w1.heap.size w1 w') := fun w1 => maps_any o f r t w1
  generalize mpB o f r t = m at HM ⊢
  obtain ⟨b, hb⟩ : ∃ b, (bits .andNot .i64 q r == 0) = b := ⟨_, rfl⟩
  rw [hb]
  cases m <;> cases b
  all_goals
    go_enter Tryz.func29, Tryz.ntmps29
    go_wp2_with (first
      | (go_at_call 51; refine (HM.out _).mono ?_; rintro e1 w1 ⟨rfl, hb1⟩; have H1 : Hid (Below w.heap.size w w1) := (bal (Below.refl _ _) _).trans (hb1.mono (by simp)); have X1 := (HX.out _).on hb1; clear hb1 HX; have x0 := X1.c0; have x1 := X1.c1; have x2 := X1.c2; have x3 := X1.c3; have xl := X1.lt; clear X1)
      | fail)
    go_ret
    exact ⟨rfl, H1.out⟩
set_option maxRecDepth 100000 in
theorem quiet_any (o : Bool) (f r t q : Int) (w : World) :
    Calls Tryz.prog 87 #[.agg #[.bool o, .int .i64 f, .int .i64 r, .int .i64 t], .int .i64 q] w fun e w' => e = .returned (.bool (quB o f r t q)) ∧ Below w.heap.size w w' := by
  rw [quB_of]
  have HX : Hid (∀ ty, BoxP (w.alloc (.cells #[.bool o, .int .i64 f, .int .i64 r, .int .i64 t] ty)) w.heap.size o f r t) := fun ty => boxP_new w o f r t ty
  have HN : Hid (∀ w1, Calls Tryz.prog 89 #[.agg #[.bool o, .int .i64 f, .int .i64 r, .int .i64 t]] w1 fun e w' => e = .returned (.bool (nnB o f r t)) ∧ Below w1.heap.size w1 w') := fun w1 => none_any o f r t w1
  generalize nnB o f r t = m at HN ⊢
  have hk : (m = false ∨ (m = true ∧ t = 0)) ∨ (m = true ∧ ((t : Int) == 0) = false ∧ t < q) ∨ (m = true ∧ ((t : Int) == 0) = false ∧ ¬ t < q) := by
    cases m
    · simp
    · simp only [beq_eq_false_iff_ne, ne_eq]
      simp
      omega
  have hv : (m && (decide (t = 0) || decide (t < q))) = (m && ((t : Int) == 0 || decide (t < q))) := by
    congr 2
  rw [hv]
  clear hv
  rcases hk with (rfl | ⟨rfl, rfl⟩) | ⟨rfl, h0, h1⟩ | ⟨rfl, h0, h1⟩
  case' inr.inl => rw [h0, decide_eq_true h1]
  case' inr.inr => rw [h0, decide_eq_false h1]
  all_goals
    go_enter Tryz.func87, Tryz.ntmps87
    go_wp2_with (first
      | (go_at_call 89; refine (HN.out _).mono ?_; rintro e1 w1 ⟨rfl, hb1⟩; have H1 : Hid (Below w.heap.size w w1) := (bal (Below.refl _ _) _).trans (hb1.mono (by simp)); have X1 := (HX.out _).on hb1; clear hb1 HX; have x0 := X1.c0; have x1 := X1.c1; have x2 := X1.c2; have x3 := X1.c3; have xl := X1.lt; clear X1)
      | fail)
    go_ret
    refine ⟨?_, H1.out⟩
    first
      | rfl
      | (show Ending.returned (.bool (decide (t < q))) = _; rw [decide_eq_false (by omega)]; rfl)

/-! ### Less -/
end Go.Proofs.YthcgdgpflhdchaaGreatDoor.Ppte

/- bit, pack, Put, Get of package pte: for every mapping and every word, what they answer. -/
namespace Go.Proofs.YthcgdgpflhdchaaGreatDoor.Ppte
open Go.Proofs.YthcgdgpflhdchaaGreatDoor.Pbase Go.Proofs.YthcgdgpflhdchaaGreatDoor.Pfield
open Go.RowKit M
set_option linter.unusedVariables false

/-- The table of widths. -/
structure TabW (w : World) : Prop where
  lt : 2 < w.heap.size
  row : ∃ t fr, w.heap[(2 : Nat)]? = some (.cells #[.int .i64 1, .int .i64 6, .int .i64 2, .int .i64 31] t fr)
theorem TabW.on {w w' : World} (h : TabW w) (hB : Below w.heap.size w w') : TabW w' :=
  ⟨Nat.lt_of_lt_of_le h.lt hB.size, by obtain ⟨t, fr, hr⟩ := h.row; exact ⟨t, fr, (hB.block 2 h.lt).trans hr⟩⟩
theorem TabW.cells {w : World} (h : TabW w) : w.cell? ⟨2, 0, none⟩ = some (.int .i64 1) ∧ w.cell? ⟨2, 1, none⟩ = some (.int .i64 6) ∧ w.cell? ⟨2, 2, none⟩ = some (.int .i64 2) ∧ w.cell? ⟨2, 3, none⟩ = some (.int .i64 31) := by
  obtain ⟨t, fr, hr⟩ := h.row
  exact ⟨(cell_of_row _ _ 0 _ _ _ hr).trans rfl, (cell_of_row _ _ 1 _ _ _ hr).trans rfl, (cell_of_row _ _ 2 _ _ _ hr).trans rfl, (cell_of_row _ _ 3 _ _ _ hr).trans rfl⟩
theorem ints_ws (w : World) (ty : TypeId) : Ints .i64 (w.alloc (.cells #[.int .i64 1, .int .i64 6, .int .i64 2, .int .i64 31] ty)).heap.size (w.alloc (.cells #[.int .i64 1, .int .i64 6, .int .i64 2, .int .i64 31] ty)) (.slice (some ⟨w.heap.size, 0, none⟩) 4 4) ws := by
  refine .inr ⟨w.heap.size, 0, 4, rfl, by simp, fun j hj => ?_⟩
  rw [Nat.zero_add, cell_of_row _ _ j _ _ _ (heap_alloc_new w _)]
  match j, hj with
  | 0, _ | 1, _ | 2, _ | 3, _ => rfl
theorem ints_four (q : IntKind) (w : World) (x y z v : Int) (ty : TypeId) : Ints q (w.alloc (.cells #[.int q x, .int q y, .int q z, .int q v] ty)).heap.size (w.alloc (.cells #[.int q x, .int q y, .int q z, .int q v] ty)) (.slice (some ⟨w.heap.size, 0, none⟩) 4 4) [x, y, z, v] := by
  refine .inr ⟨w.heap.size, 0, 4, rfl, by simp, fun j hj => ?_⟩
  rw [Nat.zero_add, cell_of_row _ _ j _ _ _ (heap_alloc_new w _)]
  match j, hj with
  | 0, _ | 1, _ | 2, _ | 3, _ => rfl
theorem bit_any (o : Bool) (w : World) : Calls Tryz.prog 121 #[.bool o] w fun e w' => e = .returned (.int .i64 (bz o)) ∧ w' = w := by
  cases o
  · go_enter Tryz.func121, Tryz.ntmps121
    go_wp2
    go_ret
    exact ⟨rfl, rfl⟩
  · go_enter Tryz.func121, Tryz.ntmps121
    go_wp2
    go_ret
    exact ⟨rfl, rfl⟩

/-! ### pack -/
theorem infoU : (Tryz.prog.info? 37).map (fun i => (i.zero, i.size, i.bytes)) = some (some (.int .u64 0), 1, 8) := by kernel_rfl
theorem one_cell (w : World) (v : Value) (t : TypeId) : ∀ j u, ([v] : List Value)[j]? = some u → (w.alloc (.cells #[v] t)).cell? ((⟨w.heap.size, 0, none⟩ : Addr).add j) = some u := by
  intro j u hj
  match j, hj with
  | 0, hj => simp at hj; subst hj; simp [Addr.add]
theorem own_ge' {w : World} {base : Nat} {e : TypeId} {v : Value} {n : Nat} {xs : List Value} (h : w.ownsRow base e 1 v n xs) : ∀ k, v.ownBlock = some k → base ≤ k := fun k hk => (h.lt k hk).1
/-- A row of the call's own is a slice of numbers. -/
theorem ints_own {q : IntKind} {W : World} {base : Nat} {t : TypeId} {v : Value} {n : Nat} {xs : List Int} (h : W.ownsRow base t 1 v n (xs.map (Value.int q))) (hn : xs.length = n) : ∃ a c, v = .slice a n c ∧ n ≤ c ∧ Ints q W.heap.size W (.slice a n c) xs := by
  subst hn
  rcases h.2 with ⟨rfl, h0⟩ | ⟨g, cap, cur, rfl, hg, hb, h1, h2, h3, h4⟩
  · refine ⟨none, 0, by rw [h0], by omega, .inl ⟨none, 0, by rw [h0], by simpa using h0⟩⟩
  · refine ⟨_, _, rfl, h1, .inr ⟨g, 0, cap, rfl, (Array.getElem?_eq_some_iff.1 hb).1, fun j hj => ?_⟩⟩
    have hc := h.cellAt (g := g) j (by simpa using hj)
    rw [Nat.zero_add, hc]
    simp [hj]
theorem take_snoc (p : IntKind) (zs : List Int) {k : Nat} (h : k < zs.length) : ((zs.take (k + 1)).map (Value.int p)) = (zs.take k).map (Value.int p) ++ [.int p (zs[k]?.getD 0)] := by
  rw [List.take_succ_eq_append_getElem h, List.map_append, List.map_cons, List.map_nil, List.getElem?_eq_getElem h, Option.getD_some]
/-- Numbers that are no less than 0 go over into words as they are. -/
theorem small_at {zs : List Int} (h : ∀ j : Nat, 0 ≤ zs[j]?.getD 0 ∧ zs[j]?.getD 0 ≤ 18446744073709551615) (k : Nat) : IntKind.u64.wrap (zs[k]?.getD 0) = zs[k]?.getD 0 := wrapu_small (h k).1 (h k).2
set_option maxRecDepth 100000 in
set_option maxHeartbeats 1000000 in
theorem packP_ok (a : Option Addr) (cap : Nat) (zs : List Int) (w : World) (hl : zs.length = 4) (hI : Ints .i64 w.heap.size w (.slice a 4 cap) zs) (hs : ∀ j : Nat, 0 ≤ zs[j]?.getD 0 ∧ zs[j]?.getD 0 ≤ 18446744073709551615) (hW : TabW w) (hA : ∀ j, j < ws.length → okP ws zs j = true) :
    Calls Tryz.prog 120 #[.slice a 4 cap] w fun e w' => e = .returned (.tuple #[.int .u64 (packF ws zs), .int .i64 0]) ∧ Below w.heap.size w w' := by
  obtain ⟨it, hi, hz0, hz1, hz2⟩ := info_parts infoU
  have HI : Hid (Ints .i64 w.heap.size w (.slice a 4 cap) zs) := hI
  have HL : Hid (zs.length = 4) := hl
  have HS : Hid (∀ j : Nat, 0 ≤ zs[j]?.getD 0 ∧ zs[j]?.getD 0 ≤ 18446744073709551615) := hs
  have HW : Hid (TabW w) := hW
  have HA : Hid (∀ j, j < ws.length → okP ws zs j = true) := hA
  clear hI hl hs hW hA
  obtain ⟨y, hy⟩ : ∃ y, y = packF ws zs := ⟨_, rfl⟩
  rw [← hy]
  have HY : Hid (y = packF ws zs) := hy
  clear hy
  go_enter Tryz.func120, Tryz.ntmps120
  go_wp2_with (first
    | (at_make; refine wpList_make_own _ rfl _ _ 22 rfl w.heap.size 37 it (.int .u64 0) 1 Tryz.underlying22 hi hz0 hz1 _ _ _ 4 rfl rfl (by omega) (by rw [hz2]; omega) (by unfold maxLen; omega) (Nat.le_refl _) ?_; intro w0 hown0 hgrow0; have HO0 : Hid (w0.ownsRow w.heap.size 37 1 (.slice (some ⟨w.heap.size, 0, none⟩) 0 4) 0 ((zs.take 0).map (Value.int .u64))) := hown0; have HB0 : Hid (Below w.heap.size w w0) := (Below.refl _ _).grown hgrow0 (Nat.le_refl _) (fun k h => by cases h); clear hown0 hgrow0)
    | fail)
  go_loopw [4, 13] (fun l i wr => ∃ k : Nat, k ≤ 4 ∧ i = .int .i64 k ∧ wr.ownsRow w.heap.size 37 1 l k ((zs.take k).map (Value.int .u64)) ∧ Below w.heap.size w wr) (fun _ i _ => 4 - (intOf i).toNat)
  case atStart => exact ⟨0, by omega, rfl, HO0.out, HB0.out⟩
  case round =>
    obtain ⟨k, hk, rfl, hO, hB⟩ := hrel
    obtain ⟨av, cv, rfl⟩ := ownsRow_slice hO
    have HO : Hid (wr.ownsRow w.heap.size 37 1 (.slice av k cv) k ((zs.take k).map (Value.int .u64))) := hO
    have HB : Hid (Below w.heap.size w wr) := hB
    clear hO hB HO0 HB0
    by_cases hlt : k < 4
    · have hki : (k : Int) < 4 := by omega
      obtain ⟨bz, oz, z, ha, hz, HZ⟩ := ints_at' (HI.out.below HB.out) (show k < zs.length by rw [HL.out]; exact hlt)
      subst ha
      go_wp2_with (first
        | (at_builtin; refine wpList_append_own_at _ rfl _ _ 22 rfl w.heap.size 37 it (.int .u64 0) 1 8 Tryz.underlying22 hi hz0 hz1 hz2 rfl (by decide) _ _ _ rfl (HO.out.alloc _) _ 1 1 [.int .u64 (IntKind.u64.wrap z)] rfl rfl (one_cell wr _ _) (by simp [Value.oneCell']) (by unfold maxLen; omega) (by omega) (by have := HB.out.size; simp; omega) ?_; intro v1 w3 hown hgrow _ hat; have HO3 : Hid (w3.ownsRow w.heap.size 37 1 v1 (k + 1) ((zs.take (k + 1)).map (Value.int .u64))) := (by rw [take_snoc .u64 zs (by rw [HL.out]; exact hlt), ← small_at HS.out k, HZ.out]; exact hown); have H3 : Hid (Below w.heap.size w w3) := (HB.out.alloc HB.out.size _).grown hgrow (by have := HB.out.size; simp; omega) (own_ge' HO.out); clear hown hgrow hat)
        | fail)
      go_roundw
      case rel => exact ⟨k + 1, by omega, by go_num, HO3.out, H3.out⟩
      case measure => simp [intOf]; omega
    · obtain rfl : k = 4 := by omega
      have ho := HO.out
      rw [List.take_of_length_le (by rw [HL.out]; omega)] at ho
      obtain ⟨a', c', e, hc', hi'⟩ := ints_own ho HL.out
      cases e
      have HJ : Hid (Ints .u64 wr.heap.size wr (.slice av 4 cv) zs) := hi'
      clear ho hi' HO hc'
      have HT : Hid (TabW wr) := HW.out.on HB.out
      obtain ⟨g0, g1, g2, g3⟩ := HT.out.cells
      have gl := HT.out.lt
      have HK : Hid (∀ ty, Calls Tryz.prog 93 #[.slice (some ⟨wr.heap.size, 0, none⟩) 4 4, .slice av 4 cv] (wr.alloc (.cells #[.int .i64 1, .int .i64 6, .int .i64 2, .int .i64 31] ty)) fun e w' => e = .returned (.tuple #[.int .u64 y, .int .i64 0]) ∧ Below w.heap.size w w') := fun ty =>
        (pack_ok (some ⟨wr.heap.size, 0, none⟩) av 4 cv ws zs _ (by decide) HL.out.symm HS.out (ints_ws wr ty) (HJ.out.on (bal (Below.refl _ _) _)) HA.out).mono fun e w' ⟨he, hb⟩ => ⟨by rw [HY.out]; exact he, HB.out.trans (((bal (Below.refl _ _) _).trans (hb.mono (by simp))).mono HB.out.size)⟩
      go_wp2_with (first
        | (go_at_call 93; refine (HK.out _).mono ?_; rintro e2 w2 ⟨rfl, hb2⟩; have H2 : Hid (Below w.heap.size w w2) := hb2; clear hb2)
        | fail)
      go_ret2
      exact ⟨rfl, H2.out⟩

/-! ### Put -/
set_option maxRecDepth 100000 in
set_option maxHeartbeats 1000000 in
theorem put_any (o : Bool) (f r t : Int) (w : World) (hW : TabW w) :
    Calls Tryz.prog 110 #[.agg #[.bool o, .int .i64 f, .int .i64 r, .int .i64 t]] w fun e w' => e = .returned (.tuple #[.int .u64 (putW o f r t), .int .i64 (chk o f r t)]) ∧ Below w.heap.size w w' := by
  have HX : Hid (∀ ty, BoxP (w.alloc (.cells #[.bool o, .int .i64 f, .int .i64 r, .int .i64 t] ty)) w.heap.size o f r t) := fun ty => boxP_new w o f r t ty
  have HC : Hid (∀ w1, Calls Tryz.prog 64 #[.agg #[.bool o, .int .i64 f, .int .i64 r, .int .i64 t]] w1 fun e w' => e = .returned (.int .i64 (chk o f r t)) ∧ Below w1.heap.size w1 w') := fun w1 => check_any o f r t w1
  by_cases hp : Rt o f r t
  case neg =>
    rw [putW_no hp]
    rw [chk_no hp] at HC ⊢
    clear hp hW
    go_enter Tryz.func110, Tryz.ntmps110
    go_wp2_with (first
      | (go_at_call 64; refine (HC.out _).mono ?_; rintro e1 w1 ⟨rfl, hb1⟩; have H1 : Hid (Below w.heap.size w w1) := (bal (Below.refl _ _) _).trans (hb1.mono (by simp)); clear hb1)
      | fail)
    go_ret2
    exact ⟨rfl, H1.out⟩
  case pos =>
  rw [putW_yes hp]
  rw [chk_yes hp] at HC ⊢
  obtain ⟨y, hy⟩ : ∃ y, y = wd o f r t := ⟨_, rfl⟩
  rw [← hy]
  have HK : Hid (∀ v v', Below w.heap.size w v → Below (v.alloc (.cells #[.int .i64 (bz o), .int .i64 f, .int .i64 r, .int .i64 t] 3)).heap.size (v.alloc (.cells #[.int .i64 (bz o), .int .i64 f, .int .i64 r, .int .i64 t] 3)) v' → Calls Tryz.prog 120 #[.slice (some ⟨v.heap.size, 0, none⟩) 4 4] v' fun e w' => e = .returned (.tuple #[.int .u64 y, .int .i64 0]) ∧ Below v.heap.size v w') := fun v v' hv hv' =>
    (packP_ok (some ⟨v.heap.size, 0, none⟩) 4 [bz o, f, r, t] _ rfl ((ints_four .i64 v _ _ _ _ _).on hv') (put_can hp).1 (((hW.on hv).on (bal (Below.refl _ _) _)).on hv') (put_can hp).2).mono fun e w' ⟨he, hb⟩ => ⟨by rw [hy]; exact he, ((bal (Below.refl v.heap.size v) _).trans (hv'.mono (by simp))).trans (hb.mono (by have := hv'.size; simp at this; omega))⟩
  clear hp hW hy
  go_enter Tryz.func110, Tryz.ntmps110
  go_upto_region 4 with (first
    | (go_at_call 64; refine (HC.out _).mono ?_; rintro e1 w1 ⟨rfl, hb1⟩; have H1 : Hid (Below w.heap.size w w1) := (bal (Below.refl _ _) _).trans (hb1.mono (by simp)); have HX1 : Hid (BoxP w1 w.heap.size o f r t) := (HX.out _).on hb1; clear hb1 HX; have x0 := HX1.out.c0; have x1 := HX1.out.c1; have x2 := HX1.out.c2; have x3 := HX1.out.c3; have xl := HX1.out.lt)
    | fail)
  go_region_held3 (fun w' => w'.cell? ⟨w.heap.size, 0, none⟩ = some (.bool o) ∧ w'.cell? ⟨w.heap.size, 1, none⟩ = some (.int .i64 f) ∧ w'.cell? ⟨w.heap.size, 2, none⟩ = some (.int .i64 r) ∧ w'.cell? ⟨w.heap.size, 3, none⟩ = some (.int .i64 t)) (first | exact ⟨by assumption, by assumption, by assumption, by assumption⟩ | go_keep)
  (first
    | (go_at_call 121; refine (bit_any o _).mono ?_; rintro e2 w2 ⟨rfl, hw2⟩; subst w2)
    | (go_at_call 120; (first | refine (HK.out w1 _ H1.out (by first | exact Below.refl _ _ | exact (Below.refl _ _).drew)).mono ?_ | refine (HK.out w1.drew _ H1.out.drew (by first | exact Below.refl _ _ | exact (Below.refl _ _).drew)).mono ?_); rintro e3 w3 ⟨rfl, hb3⟩; have hm : Below w1.heap.size w1 w3 := (by first | exact hb3 | exact (Below.refl _ _).drew.trans hb3); have H3 : Hid (Below w.heap.size w w3) := H1.out.trans (hm.mono H1.out.size); have X3 := HX1.out.on hm; clear hb3 hm x0 x1 x2 x3 xl HX1; have x0 := X3.c0; have x1 := X3.c1; have x2 := X3.c2; have x3 := X3.c3; clear X3; dsimp only)
    | fail)
  all_goals
    go_wp2
    go_ret2
    exact ⟨rfl, H3.out⟩
end Go.Proofs.YthcgdgpflhdchaaGreatDoor.Ppte

/- What Get of package pte answers, for every word. -/
namespace Go.Proofs.YthcgdgpflhdchaaGreatDoor.Ppte
open Go.Proofs.YthcgdgpflhdchaaGreatDoor.Pbase Go.Proofs.YthcgdgpflhdchaaGreatDoor.Pfield
open Go.RowKit M
set_option linter.unusedVariables false

/-- The parts of a word, in a block. -/
structure Four (w : World) (b o : Nat) (x : Int) : Prop where
  lt : b < w.heap.size
  c0 : w.cell? ⟨b, o, none⟩ = some (.int .u64 (gN x 0))
  c1 : w.cell? ⟨b, o + 1, none⟩ = some (.int .u64 (gN x 1))
  c2 : w.cell? ⟨b, o + 2, none⟩ = some (.int .u64 (gN x 2))
  c3 : w.cell? ⟨b, o + 3, none⟩ = some (.int .u64 (gN x 3))
theorem four_of {w : World} {a : Option Addr} {c : Nat} {x : Int} (h : Ints .u64 w.heap.size w (.slice a ws.length c) (getsI x ws)) : ∃ b o, a = some ⟨b, o, none⟩ ∧ Four w b o x := by
  have hl := getsI_length x ws
  rcases h with ⟨_, _, e1, e2⟩ | ⟨b, o, cap, e1, hb, hc⟩
  · rw [e2, ws_length] at hl; cases hl
  · cases e1
    rw [hl, ws_length] at hc
    exact ⟨b, o, rfl, hb, hc 0 (by omega), hc 1 (by omega), hc 2 (by omega), hc 3 (by omega)⟩
theorem unpack_four (a0 : Option Addr) (x : Int) (w : World) (hx : 0 ≤ x ∧ x ≤ 18446744073709551615) (hI : Ints .i64 w.heap.size w (.slice a0 4 4) ws) (hA : canU x ws) :
    Calls Tryz.prog 91 #[.slice a0 4 4, .int .u64 x] w fun e' W' => ∃ b o c, e' = .returned (.tuple #[.slice (some ⟨b, o, none⟩) 4 c, .int .i64 0]) ∧ Four W' b o x ∧ Below w.heap.size w W' :=
  (unpack_ok a0 4 ws x w (by decide) hx hI hA).mono fun e' W' ⟨a, c, he, hi, hB⟩ => by
    obtain ⟨b, o, rfl, h5⟩ := four_of hi
    exact ⟨b, o, c, he, h5, hB⟩
theorem on_bit {n : Int} (h : 0 ≤ n ∧ n ≤ 1) : (n != 0) = (n == 1) := by
  rcases (show n = 0 ∨ n = 1 by omega) with rfl | rfl <;> rfl
set_option maxRecDepth 100000 in
set_option maxHeartbeats 2000000 in
theorem get_any (x : Int) (w : World) (hx : 0 ≤ x ∧ x ≤ 18446744073709551615) (hW : TabW w) :
    Calls Tryz.prog 86 #[.int .u64 x] w fun v w' => v = .returned (.tuple #[.agg #[.bool (getO x), .int .i64 (getF x), .int .i64 (getR x), .int .i64 (getT x)], .int .i64 (getE x)]) ∧ Below w.heap.size w w' := by
  obtain ⟨g0, g1, g2, g3⟩ := hW.cells
  have gl := hW.lt
  clear hW
  have HO : Hid (∀ ty o w1, Below ((w.alloc (.cells #[.bool false, .int .i64 0, .int .i64 0, .int .i64 0] ty)).alloc o).heap.size ((w.alloc (.cells #[.bool false, .int .i64 0, .int .i64 0, .int .i64 0] ty)).alloc o) w1 → BoxP w1 w.heap.size false 0 0 0) := fun ty o w1 h => ((boxP_new w false 0 0 0 ty).on (bal (Below.refl _ _) o)).on h
  have HX : Hid (0 ≤ x ∧ x ≤ 18446744073709551615) := hx
  clear hx
  have HW : Hid (∀ o ty, Ints .i64 ((w.alloc o).alloc (.cells #[.int .i64 1, .int .i64 6, .int .i64 2, .int .i64 31] ty)).heap.size ((w.alloc o).alloc (.cells #[.int .i64 1, .int .i64 6, .int .i64 2, .int .i64 31] ty)) (.slice (some ⟨w.heap.size + 1, 0, none⟩) 4 4) ws ∧ Below w.heap.size w ((w.alloc o).alloc (.cells #[.int .i64 1, .int .i64 6, .int .i64 2, .int .i64 31] ty))) := fun o ty => ⟨by have := ints_ws (w.alloc o) ty; rwa [show (w.alloc o).heap.size = w.heap.size + 1 by simp] at this, bal (bal (Below.refl _ _) _) _⟩
  by_cases hc : canU x ws
  case neg =>
    have hno : ¬ Got x := fun h => hc h.1
    obtain ⟨e0, e1, e2, e3, e4⟩ := get_no hno
    rw [e0, e1, e2, e3, e4]
    have HN : Hid (¬ canU x ws) := hc
    clear hc hno e0 e1 e2 e3 e4
    go_enter Tryz.func86, Tryz.ntmps86
    go_wp2_with (first
      | (go_at_call 91; refine (unpack_bad (some ⟨w.heap.size + 1, 0, none⟩) 4 ws x _ (by decide) HX.out (HW.out _ _).1 HN.out).mono ?_; rintro e1 w1 ⟨rfl, hb1⟩; have H1 : Hid (Below w.heap.size w w1) := (HW.out _ _).2.trans (hb1.mono (HW.out _ _).2.size); have X1 := HO.out _ _ _ hb1; clear hb1 HO; have x0 := X1.c0; have x1 := X1.c1; have x2 := X1.c2; have x3 := X1.c3; have z0 := X1.fz 0; have z1 := X1.fz 1; have z2 := X1.fz 2; have z3 := X1.fz 3; have xl := X1.lt; clear X1)
      | fail)
    refine bodyPost_ret (v := .tuple #[.agg #[.bool false, .int .i64 0, .int .i64 0, .int .i64 0], .int .i64 12]) (by simp [results, Tryz.results86, go_sem, x0, x1, x2, x3]) rfl ⟨rfl, ?_⟩
    exact bst (bst (bst (bst H1.out (Nat.le_refl _) _ _) (Nat.le_refl _) _ _) (Nat.le_refl _) _ _) (Nat.le_refl _) _ _
  case pos =>
  have HN : Hid (canU x ws) := hc
  clear hc
  obtain ⟨hp0, ⟨p1, q1⟩, ⟨p2, q2⟩, ⟨p3, q3⟩⟩ := gN_bd HX.out HN.out
  have d0 : (gN x 0 != 0) = (gN x 0 == 1) := on_bit hp0
  have d1 : IntKind.i64.wrap (gN x 1) = gN x 1 := wrapi_small p1 (by omega)
  have d2 : IntKind.i64.wrap (gN x 2) = gN x 2 := wrapi_small p2 (by omega)
  have d3 : IntKind.i64.wrap (gN x 3) = gN x 3 := wrapi_small p3 (by omega)
  obtain ⟨ob, hob⟩ : ∃ ob, (gN x 0 == 1) = ob := ⟨_, rfl⟩
  rw [hob] at d0
  by_cases hr : Rt ob (gN x 1) (gN x 2) (gN x 3)
  case pos =>
    have hG : Got x := ⟨HN.out, by rw [hob]; exact hr⟩
    obtain ⟨e0, e1, e2, e3, e4⟩ := get_yes hG
    rw [e0, e1, e2, e3, e4, hob]
    clear e0 e1 e2 e3 e4 hG
    have hc : chk ob (gN x 1) (gN x 2) (gN x 3) = 0 := chk_yes hr
    clear hr p1 p2 p3 q1 q2 q3 hp0 hob
    go_enter Tryz.func86, Tryz.ntmps86
    go_wp2_with (first
      | (go_at_call 91; refine (unpack_four (some ⟨w.heap.size + 1, 0, none⟩) x _ HX.out (HW.out _ _).1 HN.out).mono ?_; rintro e1 w1 ⟨b, o, c, rfl, h5, hb1⟩; have H1 : Hid (Below w.heap.size w w1) := (HW.out _ _).2.trans (hb1.mono (HW.out _ _).2.size); have H5 : Hid (Four w1 b o x) := h5; have HX1 : Hid (BoxP w1 w.heap.size false 0 0 0) := HO.out _ _ _ hb1; clear hb1 HO h5; have f0 := H5.out.c0; have f1 := H5.out.c1; have f2 := H5.out.c2; have f3 := H5.out.c3; have fl := H5.out.lt)
      | fail)
    go_region_held3 (fun w' => w'.cell? ⟨b, o, none⟩ = some (.int .u64 (gN x 0)) ∧ w'.cell? ⟨b, o + 1, none⟩ = some (.int .u64 (gN x 1)) ∧ w'.cell? ⟨b, o + 2, none⟩ = some (.int .u64 (gN x 2)) ∧ w'.cell? ⟨b, o + 3, none⟩ = some (.int .u64 (gN x 3))) (first | exact ⟨by assumption, by assumption, by assumption, by assumption⟩ | go_keep)
    (fail)
    try simp only [d0, d1, d2, d3]
    have hbx := (boxP_new w1 ob (gN x 1) (gN x 2) (gN x 3) 57).on (Below.refl _ _).drew
    have hbr := HX1.out.on (bal (Below.refl _ _) (.cells #[.bool ob, .int .i64 (gN x 1), .int .i64 (gN x 2), .int .i64 (gN x 3)] 57)).drew
    have hbb := (bal H1.out (.cells #[.bool ob, .int .i64 (gN x 1), .int .i64 (gN x 2), .int .i64 (gN x 3)] 57)).drew
    have hne := HX1.out.lt
    clear f0 f1 f2 f3 fl H5
    generalize (w1.alloc _).drew = w2 at hbx hbr hbb ⊢
    have HP2 : Hid (BoxP w2 w1.heap.size ob (gN x 1) (gN x 2) (gN x 3)) := hbx
    have HR2 : Hid (BoxP w2 w.heap.size false 0 0 0) := hbr
    have HB2 : Hid (Below w.heap.size w w2) := hbb
    have HQ2 : Hid (w.heap.size < w1.heap.size) := hne
    have y0 := hbx.c0
    have y1 := hbx.c1
    have y2 := hbx.c2
    have y3 := hbx.c3
    clear hbx hbr hbb hne HX1
    generalize w1.heap.size = D at HP2 HQ2 y0 y1 y2 y3 ⊢
    go_wp2_with (first
      | (go_at_call 64; refine (check_any _ _ _ _ _).mono ?_; rintro e2 w3 ⟨rfl, hb3⟩; rw [hc]; have H3 : Hid (Below w.heap.size w w3) := HB2.out.trans (hb3.mono HB2.out.size); clear y0 y1 y2 y3; have Y1 := HP2.out.on hb3; have y0 := Y1.c0; have y1 := Y1.c1; have y2 := Y1.c2; have y3 := Y1.c3; clear Y1; have X1 := HR2.out.on hb3; have x0 := X1.c0; have x1 := X1.c1; have x2 := X1.c2; have x3 := X1.c3; have z0 := X1.fz 0; have z1 := X1.fz 1; have z2 := X1.fz 2; have z3 := X1.fz 3; have xl := X1.lt; clear X1 hb3; have ne1 : ¬ D = w.heap.size := Nat.ne_of_gt HQ2.out; have ne2 : ¬ w.heap.size = D := Nat.ne_of_lt HQ2.out)
      | fail)
    refine bodyPost_ret (v := .tuple #[.agg #[.bool ob, .int .i64 (gN x 1), .int .i64 (gN x 2), .int .i64 (gN x 3)], .int .i64 0]) (by simp [results, Tryz.results86, go_sem, x0, x1, x2, x3]) rfl ⟨rfl, ?_⟩
    exact bst (bst (bst (bst H3.out (Nat.le_refl _) _ _) (Nat.le_refl _) _ _) (Nat.le_refl _) _ _) (Nat.le_refl _) _ _
  case neg =>
    have hG : ¬ Got x := fun h => hr (by rw [← hob]; exact h.2)
    obtain ⟨e0, e1, e2, e3, e4⟩ := get_no hG
    rw [e0, e1, e2, e3, e4]
    clear e0 e1 e2 e3 e4 hG
    have hc : chk ob (gN x 1) (gN x 2) (gN x 3) = 1 := chk_no hr
    clear hr p1 p2 p3 q1 q2 q3 hp0 hob
    go_enter Tryz.func86, Tryz.ntmps86
    go_wp2_with (first
      | (go_at_call 91; refine (unpack_four (some ⟨w.heap.size + 1, 0, none⟩) x _ HX.out (HW.out _ _).1 HN.out).mono ?_; rintro e1 w1 ⟨b, o, c, rfl, h5, hb1⟩; have H1 : Hid (Below w.heap.size w w1) := (HW.out _ _).2.trans (hb1.mono (HW.out _ _).2.size); have H5 : Hid (Four w1 b o x) := h5; have HX1 : Hid (BoxP w1 w.heap.size false 0 0 0) := HO.out _ _ _ hb1; clear hb1 HO h5; have f0 := H5.out.c0; have f1 := H5.out.c1; have f2 := H5.out.c2; have f3 := H5.out.c3; have fl := H5.out.lt)
      | fail)
    go_region_held3 (fun w' => w'.cell? ⟨b, o, none⟩ = some (.int .u64 (gN x 0)) ∧ w'.cell? ⟨b, o + 1, none⟩ = some (.int .u64 (gN x 1)) ∧ w'.cell? ⟨b, o + 2, none⟩ = some (.int .u64 (gN x 2)) ∧ w'.cell? ⟨b, o + 3, none⟩ = some (.int .u64 (gN x 3))) (first | exact ⟨by assumption, by assumption, by assumption, by assumption⟩ | go_keep)
    (fail)
    try simp only [d0, d1, d2, d3]
    have hbx := (boxP_new w1 ob (gN x 1) (gN x 2) (gN x 3) 57).on (Below.refl _ _).drew
    have hbr := HX1.out.on (bal (Below.refl _ _) (.cells #[.bool ob, .int .i64 (gN x 1), .int .i64 (gN x 2), .int .i64 (gN x 3)] 57)).drew
    have hbb := (bal H1.out (.cells #[.bool ob, .int .i64 (gN x 1), .int .i64 (gN x 2), .int .i64 (gN x 3)] 57)).drew
    have hne := HX1.out.lt
    clear f0 f1 f2 f3 fl H5
    generalize (w1.alloc _).drew = w2 at hbx hbr hbb ⊢
    have HP2 : Hid (BoxP w2 w1.heap.size ob (gN x 1) (gN x 2) (gN x 3)) := hbx
    have HR2 : Hid (BoxP w2 w.heap.size false 0 0 0) := hbr
    have HB2 : Hid (Below w.heap.size w w2) := hbb
    have HQ2 : Hid (w.heap.size < w1.heap.size) := hne
    have y0 := hbx.c0
    have y1 := hbx.c1
    have y2 := hbx.c2
    have y3 := hbx.c3
    clear hbx hbr hbb hne HX1
    generalize w1.heap.size = D at HP2 HQ2 y0 y1 y2 y3 ⊢
    go_wp2_with (first
      | (go_at_call 64; refine (check_any _ _ _ _ _).mono ?_; rintro e2 w3 ⟨rfl, hb3⟩; rw [hc]; have H3 : Hid (Below w.heap.size w w3) := HB2.out.trans (hb3.mono HB2.out.size); clear y0 y1 y2 y3; have Y1 := HP2.out.on hb3; have y0 := Y1.c0; have y1 := Y1.c1; have y2 := Y1.c2; have y3 := Y1.c3; clear Y1; have X1 := HR2.out.on hb3; have x0 := X1.c0; have x1 := X1.c1; have x2 := X1.c2; have x3 := X1.c3; have z0 := X1.fz 0; have z1 := X1.fz 1; have z2 := X1.fz 2; have z3 := X1.fz 3; have xl := X1.lt; clear X1 hb3; have ne1 : ¬ D = w.heap.size := Nat.ne_of_gt HQ2.out; have ne2 : ¬ w.heap.size = D := Nat.ne_of_lt HQ2.out)
      | fail)
    refine bodyPost_ret (v := .tuple #[.agg #[.bool false, .int .i64 0, .int .i64 0, .int .i64 0], .int .i64 12]) (by simp [results, Tryz.results86, go_sem, x0, x1, x2, x3]) rfl ⟨rfl, ?_⟩
    exact bst (bst (bst (bst H3.out (Nat.le_refl _) _ _) (Nat.le_refl _) _ _) (Nat.le_refl _) _ _) (Nat.le_refl _) _ _
end Go.Proofs.YthcgdgpflhdchaaGreatDoor.Ppte

/- What the document's right, Check, Put, Get, Allows, Less, Quiet of layer 14 answer, for every mapping and every word. -/
namespace Go.Proofs.YthcgdgpflhdchaaGreatDoor.Ppte
open Go.Proofs.YthcgdgpflhdchaaGreatDoor.Pbase Go.Proofs.YthcgdgpflhdchaaGreatDoor.Pfield
open Go.RowKit M
set_option linter.unusedVariables false

/-! ### right, Check -/
set_option maxRecDepth 100000 in
theorem right_any (o : Bool) (f r t : Int) (w : World) :
    Calls Tryz.prog 54 #[.agg #[.bool o, .int .i64 f, .int .i64 r, .int .i64 t]] w fun e w' => e = .returned (.bool (rtB o f r t)) ∧ Below w.heap.size w w' := by
  cases o
  case true =>
    by_cases hc : 0 ≤ f ∧ f ≤ 63 ∧ 1 ≤ r ∧ r ≤ 3 ∧ t = 0
    · rw [rtB_yes (o := true) ⟨fun _ => hc, fun e => by cases e⟩]
      obtain ⟨h0, h1, h2, h3, rfl⟩ := hc
      have h4 : f < 64 := by omega
      go_enter Tryz.func54, Tryz.ntmps54
      go_wp2
      go_ret
      exact ⟨rfl, bal (Below.refl _ _) _⟩
    · rw [rtB_no (o := true) fun h => hc (h.1 rfl)]
      have hk : f < 0 ∨ (¬ f < 0 ∧ ¬ f < 64) ∨ (¬ f < 0 ∧ f < 64 ∧ r < 1) ∨ (¬ f < 0 ∧ f < 64 ∧ ¬ r < 1 ∧ 3 < r) ∨ ¬ f < 0 ∧ f < 64 ∧ ¬ r < 1 ∧ ¬ 3 < r ∧ ((t : Int) == 0) = false := by
        simp only [beq_eq_false_iff_ne, ne_eq]
        omega
      clear hc
      rcases hk with h0 | ⟨h0, h1⟩ | ⟨h0, h1, h2⟩ | ⟨h0, h1, h2, h3⟩ | ⟨h0, h1, h2, h3, h4⟩
      all_goals
        go_enter Tryz.func54, Tryz.ntmps54
        go_wp2
        go_ret
        exact ⟨rfl, bal (Below.refl _ _) _⟩
  case false =>
  by_cases hc : f = 0 ∧ r = 0 ∧ 0 ≤ t ∧ t ≤ 1073741824
  · rw [rtB_yes (o := false) ⟨fun e => (by cases e), fun _ => hc⟩]
    obtain ⟨rfl, rfl, h2, h3⟩ := hc
    go_enter Tryz.func54, Tryz.ntmps54
    go_wp2
    go_ret
    exact ⟨rfl, bal (Below.refl _ _) _⟩
  · rw [rtB_no (o := false) fun h => hc (h.2 rfl)]
    have hk : ((f : Int) == 0) = false ∨ (f = 0 ∧ ((r : Int) == 0) = false) ∨ (f = 0 ∧ r = 0 ∧ t < 0) ∨ f = 0 ∧ r = 0 ∧ ¬ t < 0 ∧ 1073741824 < t := by
      simp only [beq_eq_false_iff_ne, ne_eq]
      omega
    clear hc
    rcases hk with h0 | ⟨rfl, h1⟩ | ⟨rfl, rfl, h2⟩ | ⟨rfl, rfl, h2, h3⟩
    all_goals
      go_enter Tryz.func54, Tryz.ntmps54
      go_wp2
      go_ret
      exact ⟨by first | rfl | (show Ending.returned (.bool (decide (t ≤ 1073741824))) = _; rw [decide_eq_false (by omega)]), bal (Below.refl _ _) _⟩
theorem chk_rt (o : Bool) (f r t : Int) : chk o f r t = if rtB o f r t = true then 0 else 1 := rfl
/-! ### Put -/
/-! ### Get -/
theorem runpack_four (a0 : Option Addr) (x : Int) (w : World) (hx : 0 ≤ x ∧ x ≤ 18446744073709551615) (hI : Ints .i64 w.heap.size w (.slice a0 4 4) ws) (hA : canU x ws) :
    Calls Tryz.prog 116 #[.slice a0 4 4, .int .u64 x] w fun e' W' => ∃ b o c, e' = .returned (.tuple #[.slice (some ⟨b, o, none⟩) 4 c, .int .i64 0]) ∧ Four W' b o x ∧ Below w.heap.size w W' :=
  (runpack_ok a0 4 ws x w (by decide) hx hI hA).mono fun e' W' ⟨a, c, he, hi, hB⟩ => by
    obtain ⟨b, o, rfl, h5⟩ := four_of hi
    exact ⟨b, o, c, he, h5, hB⟩
set_option maxRecDepth 100000 in
set_option maxHeartbeats 2000000 in
theorem rget_any (x : Int) (w : World) (hx : 0 ≤ x ∧ x ≤ 18446744073709551615) :
    Calls Tryz.prog 96 #[.int .u64 x] w fun v w' => v = .returned (.tuple #[.agg #[.bool (getO x), .int .i64 (getF x), .int .i64 (getR x), .int .i64 (getT x)], .int .i64 (getE x)]) ∧ Below w.heap.size w w' := by
  have HO : Hid (∀ ty o w1, Below ((w.alloc (.cells #[.bool false, .int .i64 0, .int .i64 0, .int .i64 0] ty)).alloc o).heap.size ((w.alloc (.cells #[.bool false, .int .i64 0, .int .i64 0, .int .i64 0] ty)).alloc o) w1 → BoxP w1 w.heap.size false 0 0 0) := fun ty o w1 h => ((boxP_new w false 0 0 0 ty).on (bal (Below.refl _ _) o)).on h
  have HX : Hid (0 ≤ x ∧ x ≤ 18446744073709551615) := hx
  clear hx
  have HW : Hid (∀ o ty, Ints .i64 ((w.alloc o).alloc (.cells #[.int .i64 1, .int .i64 6, .int .i64 2, .int .i64 31] ty)).heap.size ((w.alloc o).alloc (.cells #[.int .i64 1, .int .i64 6, .int .i64 2, .int .i64 31] ty)) (.slice (some ⟨w.heap.size + 1, 0, none⟩) 4 4) ws ∧ Below w.heap.size w ((w.alloc o).alloc (.cells #[.int .i64 1, .int .i64 6, .int .i64 2, .int .i64 31] ty))) := fun o ty => ⟨by have := ints_ws (w.alloc o) ty; rwa [show (w.alloc o).heap.size = w.heap.size + 1 by simp] at this, bal (bal (Below.refl _ _) _) _⟩
  by_cases hc : canU x ws
  case neg =>
    have hno : ¬ Got x := fun h => hc h.1
    obtain ⟨e0, e1, e2, e3, e4⟩ := get_no hno
    rw [e0, e1, e2, e3, e4]
    have HN : Hid (¬ canU x ws) := hc
    clear hc hno e0 e1 e2 e3 e4
    go_enter Tryz.func96, Tryz.ntmps96
    go_wp2_with (first
      | (go_at_call 116; refine (runpack_bad (some ⟨w.heap.size + 1, 0, none⟩) 4 ws x _ (by decide) HX.out (HW.out _ _).1 HN.out).mono ?_; rintro e1 w1 ⟨rfl, hb1⟩; have H1 : Hid (Below w.heap.size w w1) := (HW.out _ _).2.trans (hb1.mono (HW.out _ _).2.size); have X1 := HO.out _ _ _ hb1; clear hb1 HO; have x0 := X1.c0; have x1 := X1.c1; have x2 := X1.c2; have x3 := X1.c3; have z0 := X1.fz 0; have z1 := X1.fz 1; have z2 := X1.fz 2; have z3 := X1.fz 3; have xl := X1.lt; clear X1)
      | fail)
    refine bodyPost_ret (v := .tuple #[.agg #[.bool false, .int .i64 0, .int .i64 0, .int .i64 0], .int .i64 12]) (by simp [results, Tryz.results96, go_sem, x0, x1, x2, x3]) rfl ⟨rfl, ?_⟩
    exact bst (bst (bst (bst H1.out (Nat.le_refl _) _ _) (Nat.le_refl _) _ _) (Nat.le_refl _) _ _) (Nat.le_refl _) _ _
  case pos =>
  have HN : Hid (canU x ws) := hc
  clear hc
  obtain ⟨hp0, ⟨p1, q1⟩, ⟨p2, q2⟩, ⟨p3, q3⟩⟩ := gN_bd HX.out HN.out
  have d1 : IntKind.i64.wrap (gN x 1) = gN x 1 := wrapi_small p1 (by omega)
  have d2 : IntKind.i64.wrap (gN x 2) = gN x 2 := wrapi_small p2 (by omega)
  have d3 : IntKind.i64.wrap (gN x 3) = gN x 3 := wrapi_small p3 (by omega)
  obtain ⟨ob, d0⟩ : ∃ ob, (gN x 0 == 1) = ob := ⟨_, rfl⟩
  by_cases hr : Rt ob (gN x 1) (gN x 2) (gN x 3)
  case pos =>
    have hG : Got x := ⟨HN.out, by rw [d0]; exact hr⟩
    obtain ⟨e0, e1, e2, e3, e4⟩ := get_yes hG
    rw [e0, e1, e2, e3, e4, d0]
    clear e0 e1 e2 e3 e4 hG
    have hc : rtB ob (gN x 1) (gN x 2) (gN x 3) = true := rtB_yes hr
    clear hr p1 p2 p3 q1 q2 q3 hp0
    go_enter Tryz.func96, Tryz.ntmps96
    go_wp2_with (first
      | (go_at_call 116; refine (runpack_four (some ⟨w.heap.size + 1, 0, none⟩) x _ HX.out (HW.out _ _).1 HN.out).mono ?_; rintro e1 w1 ⟨b, o, c, rfl, h5, hb1⟩; have H1 : Hid (Below w.heap.size w w1) := (HW.out _ _).2.trans (hb1.mono (HW.out _ _).2.size); have H5 : Hid (Four w1 b o x) := h5; have HX1 : Hid (BoxP w1 w.heap.size false 0 0 0) := HO.out _ _ _ hb1; clear hb1 HO h5; have f0 := H5.out.c0; have f1 := H5.out.c1; have f2 := H5.out.c2; have f3 := H5.out.c3; have fl := H5.out.lt)
      | fail)
    go_region_held3 (fun w' => w'.cell? ⟨b, o, none⟩ = some (.int .u64 (gN x 0)) ∧ w'.cell? ⟨b, o + 1, none⟩ = some (.int .u64 (gN x 1)) ∧ w'.cell? ⟨b, o + 2, none⟩ = some (.int .u64 (gN x 2)) ∧ w'.cell? ⟨b, o + 3, none⟩ = some (.int .u64 (gN x 3))) (first | exact ⟨by assumption, by assumption, by assumption, by assumption⟩ | go_keep)
    (fail)
    try simp only [d0, d1, d2, d3]
    have hbx := (boxP_new w1 ob (gN x 1) (gN x 2) (gN x 3) 57).on (Below.refl _ _).drew
    have hbr := HX1.out.on (bal (Below.refl _ _) (.cells #[.bool ob, .int .i64 (gN x 1), .int .i64 (gN x 2), .int .i64 (gN x 3)] 57)).drew
    have hbb := (bal H1.out (.cells #[.bool ob, .int .i64 (gN x 1), .int .i64 (gN x 2), .int .i64 (gN x 3)] 57)).drew
    have hne := HX1.out.lt
    clear f0 f1 f2 f3 fl H5
    generalize (w1.alloc _).drew = w2 at hbx hbr hbb ⊢
    have HP2 : Hid (BoxP w2 w1.heap.size ob (gN x 1) (gN x 2) (gN x 3)) := hbx
    have HR2 : Hid (BoxP w2 w.heap.size false 0 0 0) := hbr
    have HB2 : Hid (Below w.heap.size w w2) := hbb
    have HQ2 : Hid (w.heap.size < w1.heap.size) := hne
    have y0 := hbx.c0
    have y1 := hbx.c1
    have y2 := hbx.c2
    have y3 := hbx.c3
    clear hbx hbr hbb hne HX1
    generalize w1.heap.size = D at HP2 HQ2 y0 y1 y2 y3 ⊢
    go_wp2_with (first
      | (go_at_call 54; refine (right_any _ _ _ _ _).mono ?_; rintro e2 w3 ⟨rfl, hb3⟩; rw [hc]; have H3 : Hid (Below w.heap.size w w3) := HB2.out.trans (hb3.mono HB2.out.size); clear y0 y1 y2 y3; have Y1 := HP2.out.on hb3; have y0 := Y1.c0; have y1 := Y1.c1; have y2 := Y1.c2; have y3 := Y1.c3; clear Y1; have X1 := HR2.out.on hb3; have x0 := X1.c0; have x1 := X1.c1; have x2 := X1.c2; have x3 := X1.c3; have z0 := X1.fz 0; have z1 := X1.fz 1; have z2 := X1.fz 2; have z3 := X1.fz 3; have xl := X1.lt; clear X1 hb3; have ne1 : ¬ D = w.heap.size := Nat.ne_of_gt HQ2.out; have ne2 : ¬ w.heap.size = D := Nat.ne_of_lt HQ2.out)
      | fail)
    refine bodyPost_ret (v := .tuple #[.agg #[.bool ob, .int .i64 (gN x 1), .int .i64 (gN x 2), .int .i64 (gN x 3)], .int .i64 0]) (by simp [results, Tryz.results96, go_sem, x0, x1, x2, x3]) rfl ⟨rfl, ?_⟩
    exact bst (bst (bst (bst H3.out (Nat.le_refl _) _ _) (Nat.le_refl _) _ _) (Nat.le_refl _) _ _) (Nat.le_refl _) _ _
  case neg =>
    have hG : ¬ Got x := fun h => hr (by rw [← d0]; exact h.2)
    obtain ⟨e0, e1, e2, e3, e4⟩ := get_no hG
    rw [e0, e1, e2, e3, e4]
    clear e0 e1 e2 e3 e4 hG
    have hc : rtB ob (gN x 1) (gN x 2) (gN x 3) = false := rtB_no hr
    clear hr p1 p2 p3 q1 q2 q3 hp0
    go_enter Tryz.func96, Tryz.ntmps96
    go_wp2_with (first
      | (go_at_call 116; refine (runpack_four (some ⟨w.heap.size + 1, 0, none⟩) x _ HX.out (HW.out _ _).1 HN.out).mono ?_; rintro e1 w1 ⟨b, o, c, rfl, h5, hb1⟩; have H1 : Hid (Below w.heap.size w w1) := (HW.out _ _).2.trans (hb1.mono (HW.out _ _).2.size); have H5 : Hid (Four w1 b o x) := h5; have HX1 : Hid (BoxP w1 w.heap.size false 0 0 0) := HO.out _ _ _ hb1; clear hb1 HO h5; have f0 := H5.out.c0; have f1 := H5.out.c1; have f2 := H5.out.c2; have f3 := H5.out.c3; have fl := H5.out.lt)
      | fail)
    go_region_held3 (fun w' => w'.cell? ⟨b, o, none⟩ = some (.int .u64 (gN x 0)) ∧ w'.cell? ⟨b, o + 1, none⟩ = some (.int .u64 (gN x 1)) ∧ w'.cell? ⟨b, o + 2, none⟩ = some (.int .u64 (gN x 2)) ∧ w'.cell? ⟨b, o + 3, none⟩ = some (.int .u64 (gN x 3))) (first | exact ⟨by assumption, by assumption, by assumption, by assumption⟩ | go_keep)
    (fail)
    try simp only [d0, d1, d2, d3]
    have hbx := (boxP_new w1 ob (gN x 1) (gN x 2) (gN x 3) 57).on (Below.refl _ _).drew
    have hbr := HX1.out.on (bal (Below.refl _ _) (.cells #[.bool ob, .int .i64 (gN x 1), .int .i64 (gN x 2), .int .i64 (gN x 3)] 57)).drew
    have hbb := (bal H1.out (.cells #[.bool ob, .int .i64 (gN x 1), .int .i64 (gN x 2), .int .i64 (gN x 3)] 57)).drew
    have hne := HX1.out.lt
    clear f0 f1 f2 f3 fl H5
    generalize (w1.alloc _).drew = w2 at hbx hbr hbb ⊢
    have HP2 : Hid (BoxP w2 w1.heap.size ob (gN x 1) (gN x 2) (gN x 3)) := hbx
    have HR2 : Hid (BoxP w2 w.heap.size false 0 0 0) := hbr
    have HB2 : Hid (Below w.heap.size w w2) := hbb
    have HQ2 : Hid (w.heap.size < w1.heap.size) := hne
    have y0 := hbx.c0
    have y1 := hbx.c1
    have y2 := hbx.c2
    have y3 := hbx.c3
    clear hbx hbr hbb hne HX1
    generalize w1.heap.size = D at HP2 HQ2 y0 y1 y2 y3 ⊢
    go_wp2_with (first
      | (go_at_call 54; refine (right_any _ _ _ _ _).mono ?_; rintro e2 w3 ⟨rfl, hb3⟩; rw [hc]; have H3 : Hid (Below w.heap.size w w3) := HB2.out.trans (hb3.mono HB2.out.size); clear y0 y1 y2 y3; have Y1 := HP2.out.on hb3; have y0 := Y1.c0; have y1 := Y1.c1; have y2 := Y1.c2; have y3 := Y1.c3; clear Y1; have X1 := HR2.out.on hb3; have x0 := X1.c0; have x1 := X1.c1; have x2 := X1.c2; have x3 := X1.c3; have z0 := X1.fz 0; have z1 := X1.fz 1; have z2 := X1.fz 2; have z3 := X1.fz 3; have xl := X1.lt; clear X1 hb3; have ne1 : ¬ D = w.heap.size := Nat.ne_of_gt HQ2.out; have ne2 : ¬ w.heap.size = D := Nat.ne_of_lt HQ2.out)
      | fail)
    refine bodyPost_ret (v := .tuple #[.agg #[.bool false, .int .i64 0, .int .i64 0, .int .i64 0], .int .i64 12]) (by simp [results, Tryz.results96, go_sem, x0, x1, x2, x3]) rfl ⟨rfl, ?_⟩
    exact bst (bst (bst (bst H3.out (Nat.le_refl _) _ _) (Nat.le_refl _) _ _) (Nat.le_refl _) _ _) (Nat.le_refl _) _ _
end Go.Proofs.YthcgdgpflhdchaaGreatDoor.Ppte

/- What the document's Allows, Less, Quiet of layer 14 answer; mappings held against each other. -/
namespace Go.Proofs.YthcgdgpflhdchaaGreatDoor.Ppte
open Go.Proofs.YthcgdgpflhdchaaGreatDoor.Pbase Go.Proofs.YthcgdgpflhdchaaGreatDoor.Pfield
open Go.RowKit M
set_option linter.unusedVariables false

set_option maxRecDepth 100000 in
theorem rallows_any (o : Bool) (f r t q : Int) (w : World) :
    Calls Tryz.prog 34 #[.agg #[.bool o, .int .i64 f, .int .i64 r, .int .i64 t], .int .i64 q] w fun e w' => e = .returned (.bool (alB o f r t q)) ∧ Below w.heap.size w w' := by
  unfold alB anR
  have HX : Hid (∀ ty, BoxP (w.alloc (.cells #[.bool o, .int .i64 f, .int .i64 r, .int .i64 t] ty)) w.heap.size o f r t) := fun ty => boxP_new w o f r t ty
  have HR : Hid (∀ w1, Calls Tryz.prog 54 #[.agg #[.bool o, .int .i64 f, .int .i64 r, .int .i64 t]] w1 fun e w' => e = .returned (.bool (rtB o f r t)) ∧ Below w1.heap.size w1 w') := fun w1 => right_any o f r t w1
  generalize rtB o f r t = m at HR ⊢
  obtain ⟨b, hb⟩ : ∃ b, (bits .and .i64 r q == q) = b := ⟨_, rfl⟩
  rw [hb]
  cases m <;> cases o <;> cases b
  all_goals
    go_enter Tryz.func34, Tryz.ntmps34
    go_wp2_with (first
      | (go_at_call 54; refine (HR.out _).mono ?_; rintro e1 w1 ⟨rfl, hb1⟩; have H1 : Hid (Below w.heap.size w w1) := (bal (Below.refl _ _) _).trans (hb1.mono (by simp)); have X1 := (HX.out _).on hb1; clear hb1 HX; have x0 := X1.c0; have x1 := X1.c1; have x2 := X1.c2; have x3 := X1.c3; have xl := X1.lt; clear X1)
      | fail)
    go_ret
    exact ⟨rfl, H1.out⟩
/-! ### Less -/
theorem leB_rt {o : Bool} {f r t : Int} (h : rtB o f r t = true) : o = true → t = 0 := fun ho => by
  subst ho
  exact (((rtB_iff true f r t).1 h).1 rfl).2.2.2.2
theorem boxP_set {w : World} {B : Nat} {o : Bool} {f r t : Int} (v : Int) (h : BoxP w B o f r t) : BoxP (w.setCell ⟨B, 2, none⟩ (.int .i64 v)) B o f v t := by
  have ne : ∀ j, j ≠ 2 → (⟨B, 2, none⟩ : Addr) ≠ ⟨B, j, none⟩ := fun j hj hh => by cases hh; exact hj rfl
  exact ⟨by simpa using h.lt, (World.cell?_setCell_other w _ _ _ (ne 0 (by decide))).trans h.c0, (World.cell?_setCell_other w _ _ _ (ne 1 (by decide))).trans h.c1, World.cell?_setCell_same w _ _ h.c2, (World.cell?_setCell_other w _ _ _ (ne 3 (by decide))).trans h.c3, fun j => by simpa using h.fz j⟩
/-! ### mappings held against each other -/
theorem eqP (o : Bool) (f r t : Int) (o' : Bool) (f' r' t' : Int) (w : World) : (Op.equalIn 10000 57 (.agg #[.bool o, .int .i64 f, .int .i64 r, .int .i64 t]) (.agg #[.bool o', .int .i64 f', .int .i64 r', .int .i64 t'])).run Tryz.prog w = .ok (o == o' && f == f' && r == r' && t == t') w := by
  show (Op.equalIn (9998 + 1 + 1) 57 (.agg #[.bool o, .int .i64 f, .int .i64 r, .int .i64 t]) (.agg #[.bool o', .int .i64 f', .int .i64 r', .int .i64 t'])).run _ _ = _
  rw [run_equalIn_agg (P := Tryz.prog) w _ _ _ _ (by kernel_rfl) (by kernel_rfl)]
  have hf : (Tryz.prog.fieldsOf 57).toList = [⟨ "On", 4, 0, false, "", "", 0⟩, ⟨ "F", 3, 1, false, "", "", 8⟩, ⟨ "R", 3, 2, false, "", "", 16⟩, ⟨ "Time", 3, 3, false, "", "", 24⟩] := by kernel_rfl
  rw [hf]
  have p0 : ∀ (o : Bool) (x y v : Int) (w : World), (part 4 #[.bool o, .int .i64 x, .int .i64 y, .int .i64 v] 0).run Tryz.prog w = .ok (.bool o) w := fun _ _ _ _ _ => by kernel_rfl
  have p1 : ∀ (o : Bool) (x y v : Int) (w : World), (part 3 #[.bool o, .int .i64 x, .int .i64 y, .int .i64 v] 1).run Tryz.prog w = .ok (.int .i64 x) w := fun _ _ _ _ _ => by kernel_rfl
  have p2 : ∀ (o : Bool) (x y v : Int) (w : World), (part 3 #[.bool o, .int .i64 x, .int .i64 y, .int .i64 v] 2).run Tryz.prog w = .ok (.int .i64 y) w := fun _ _ _ _ _ => by kernel_rfl
  have p3 : ∀ (o : Bool) (x y v : Int) (w : World), (part 3 #[.bool o, .int .i64 x, .int .i64 y, .int .i64 v] 3).run Tryz.prog w = .ok (.int .i64 v) w := fun _ _ _ _ _ => by kernel_rfl
  have q0 : ∀ (x y : Bool) (w : World), (Op.equalIn (9998 + 1) 4 (.bool x) (.bool y)).run Tryz.prog w = .ok (x == y) w := fun x y w => run_equalIn_bool w 9998 4 x y Tryz.underlying4
  have q : ∀ (x y : Int) (w : World), (Op.equalIn (9998 + 1) 3 (.int .i64 x) (.int .i64 y)).run Tryz.prog w = .ok (x == y) w := fun x y w => run_equalIn_int w 9998 3 .i64 .i64 x y Tryz.underlying3
  simp only [Op.eqFields, Sem.run_bind, Sem.run_ite, p0, p1, p2, p3, q0, q, Result.andThen_ok, Sem.run_pure]
  by_cases h1 : o = o' <;> by_cases h2 : f = f' <;> by_cases h3 : r = r' <;> by_cases h4 : t = t' <;> simp [h1, h2, h3, h4]
theorem eqlP (o : Bool) (f r t : Int) (w : World) : (binOp .eql 57 (.agg #[.bool o, .int .i64 f, .int .i64 r, .int .i64 t]) (.agg #[.bool o, .int .i64 f, .int .i64 r, .int .i64 t])).run Tryz.prog w = .ok (.bool true) w := by
  rw [run_eql_struct, eqP]
  simp
theorem neqP (o : Bool) (f r t : Int) (w : World) : (binOp .neq 57 (.agg #[.bool o, .int .i64 f, .int .i64 r, .int .i64 t]) (.agg #[.bool o, .int .i64 f, .int .i64 r, .int .i64 t])).run Tryz.prog w = .ok (.bool false) w := by
  rw [run_neq_struct, eqP]
  simp
end Go.Proofs.YthcgdgpflhdchaaGreatDoor.Ppte

/- The table of widths, out of what a row's condition says of it. -/
namespace Go.Proofs.YthcgdgpflhdchaaGreatDoor.Ppte
open Go.Proofs.YthcgdgpflhdchaaGreatDoor.Pbase Go.Proofs.YthcgdgpflhdchaaGreatDoor.Pfield
open Go.RowKit Go.ChangeShapes Go.WideShapes
set_option linter.unusedVariables false

theorem gTw : (Tryz.prog.globals[(2 : Nat)]?).map (·.type) = some 184 := by kernel_rfl
theorem cellsWide : Tryz.prog.cellsOf 184 = 4 := by kernel_rfl
theorem w_datum : /- 2 -/ (Rows.laid_palanquin_pte_widths : DataW Unit) = .agg (ws.map fun z => .lit (.int .i64 z)) := rfl
theorem tabW_of {W : World} {g : Nat} {t : TypeId} {cs : Array Value} {fuel : Nat} {p : List MemPlace} {n : String} (hn : Tryz.prog.globalNamed n = some 2) (hg : Tryz.prog.globalNamed n = some g) (ht : (Tryz.prog.globals[g]?).map (·.type) = some t) (hv : W.var? Tryz.prog n = some cs)
    (hd : DataW.trod (fun _ => ()) Tryz.prog W 0 (fun _ => true) false fuel t cs.toList = some (Rows.laid_palanquin_pte_widths, p)) : TabW W := by
  obtain rfl := Option.some.inj (hn.symm.trans hg)
  obtain rfl := Option.some.inj (gTw.symm.trans ht)
  obtain ⟨t1, fr, hb⟩ := var_block hg hv
  refine ⟨block_lt hb, t1, fr, ?_⟩
  rw [w_datum] at hd
  obtain ⟨_, hl, hc⟩ := array_ints Tryz.underlying184 cellsWide hd
  obtain ⟨cl⟩ := cs
  simp only at hl hc hb
  match cl, hl with
  | [v0, v1, v2, v3], _ =>
    have g0 := hc 0 (by omega)
    have g1 := hc 1 (by omega)
    have g2 := hc 2 (by omega)
    have g3 := hc 3 (by omega)
    simp [ws] at g0 g1 g2 g3
    rw [hb, g0, g1, g2, g3]
end Go.Proofs.YthcgdgpflhdchaaGreatDoor.Ppte
