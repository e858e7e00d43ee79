/- Plain words on mappings: which are right, what is allowed, lessened, quiet. No program is named here. -/
import Derived.Test.YthmbipcfmciolaaDoorBunBase
import Derived.Laws.BitsAllLaws
namespace Go.Proofs.YthmbipcfmciolaaDoor.Ppte
open Go.Proofs.YthmbipcfmciolaaDoor.Pbase
open Go.RowKit
set_option linter.unusedVariables false

/-- When a mapping, on or not, of frame f, rights r, time t is right. -/
def Rt (o : Bool) (f r t : Int) : Prop := (o = true → 0 ≤ f ∧ f ≤ 63 ∧ 1 ≤ r ∧ r ≤ 3 ∧ t = 0) ∧ (o = false → f = 0 ∧ r = 0 ∧ 0 ≤ t ∧ t ≤ 1073741824)
/-- Is it right? -/
def rtB (o : Bool) (f r t : Int) : Bool :=
  (!o || (decide (0 ≤ f) && decide (f < 64) && decide (1 ≤ r) && decide (r ≤ 3) && decide (t = 0))) && (o || (decide (f = 0) && decide (r = 0) && decide (0 ≤ t) && decide (t ≤ 1073741824)))
theorem rtB_iff (o : Bool) (f r t : Int) : rtB o f r t = true ↔ Rt o f r t := by
  unfold rtB Rt
  cases o
  · simp
    omega
  · simp
    omega
theorem rtB_yes {o : Bool} {f r t : Int} (h : Rt o f r t) : rtB o f r t = true := (rtB_iff o f r t).2 h
theorem rtB_no {o : Bool} {f r t : Int} (h : ¬ Rt o f r t) : rtB o f r t = false := Bool.eq_false_iff.2 fun e => h ((rtB_iff o f r t).1 e)
/-- What Check answers. -/
def chk (o : Bool) (f r t : Int) : Int := if rtB o f r t = true then 0 else 1
theorem chk_yes {o : Bool} {f r t : Int} (h : Rt o f r t) : chk o f r t = 0 := by unfold chk; rw [if_pos (rtB_yes h)]
theorem chk_no {o : Bool} {f r t : Int} (h : ¬ Rt o f r t) : chk o f r t = 1 := by unfold chk; rw [rtB_no h]; rfl
theorem rt_bd {o : Bool} {f r t : Int} (h : Rt o f r t) : (0 ≤ f ∧ f ≤ 63) ∧ (0 ≤ r ∧ r ≤ 3) ∧ 0 ≤ t ∧ t ≤ 1073741824 := by
  unfold Rt at h
  cases o
  · have := h.2 rfl; omega
  · have := h.1 rfl; omega

/-! ### rights -/
/-- What is left of rights. -/
def anR (r q : Int) : Int := bits .and .i64 r q
def alB (o : Bool) (f r t q : Int) : Bool := rtB o f r t && o && (anR r q == q)
def leB (o : Bool) (f r t q : Int) : Bool := rtB o f r t && o && !(anR r q == 0)
def leE (o : Bool) (f r t q : Int) : Int := if leB o f r t q = true then 0 else 1
def leO (o : Bool) (f r t q : Int) : Bool := leB o f r t q
def leF (o : Bool) (f r t q : Int) : Int := if leB o f r t q = true then f else 0
def leR (o : Bool) (f r t q : Int) : Int := if leB o f r t q = true then anR r q else 0
def quB (o : Bool) (f r t fl : Int) : Bool := rtB o f r t && !o && (decide (t = 0) || decide (t < fl))
/-- The low bits of a number as the machine holds it. -/
def lowM (q : Int) : Nat := (BitVec.ofInt 64 q).toNat
theorem and_low {x : Int} (q : Int) (h0 : 0 ≤ x) (h1 : x ≤ 3) : anR x q = ((x.toNat &&& lowM q : Nat) : Int) ∧ x.toNat &&& lowM q ≤ x.toNat := by
  obtain ⟨A, rfl⟩ := Int.eq_ofNat_of_zero_le h0
  refine ⟨?_, Nat.and_le_left⟩
  have hx : A &&& lowM q ≤ A := Nat.and_le_left
  unfold lowM at hx ⊢
  show IntKind.i64.wrap ((BitVec.ofInt 64 (A : Int) &&& BitVec.ofInt 64 q).toNat : Int) = _
  rw [BitVec.toNat_and, ofInt_u64 A (by omega)]
  obtain ⟨y, hy⟩ : ∃ y, y = A &&& (BitVec.ofInt 64 q).toNat := ⟨_, rfl⟩
  rw [← hy] at hx
  rw [Int.toNat_natCast, ← hy]
  unfold IntKind.wrap
  simp [IntKind.bits, IntKind.signed]
  omega
theorem low_small (n : Nat) (h : n ≤ 3) : lowM (n : Int) = n := by
  unfold lowM
  rw [ofInt_u64 n (by omega)]
/-- With fewer rights nothing more is allowed. -/
theorem and_more {r q k : Int} (h0 : 0 ≤ r) (h1 : r ≤ 3) (h : anR (anR r q) k = k) : anR r k = k := by
  obtain ⟨e1, l1⟩ := and_low q h0 h1
  have hr : r.toNat ≤ 3 := by omega
  obtain ⟨A, hA⟩ : ∃ A, A = r.toNat &&& lowM q := ⟨_, rfl⟩
  rw [← hA] at e1 l1
  have hA3 : A ≤ 3 := by omega
  obtain ⟨e2, l2⟩ := and_low (x := (A : Int)) k (by omega) (by omega)
  rw [e1, e2] at h
  rw [Int.toNat_natCast] at h l2
  obtain ⟨B, hB⟩ : ∃ B, B = A &&& lowM k := ⟨_, rfl⟩
  rw [← hB] at h l2
  obtain ⟨e3, _⟩ := and_low k h0 h1
  rw [e3, ← h, low_small B (by omega)]
  have hk : lowM k = B := by rw [← h]; exact low_small B (by omega)
  rw [hk] at hB
  -- B = A &&& B, A = r &&& lowM q
  have : r.toNat &&& B = B := by
    rw [hB, hA, ← Nat.and_assoc, ← Nat.and_assoc, Nat.and_self]
  rw [this]
/-- What Less leaves is right. -/
theorem less_right {o : Bool} {f r t q : Int} (h : leB o f r t q = true) : o = true ∧ Rt true f (anR r q) 0 ∧ Rt true f r t ∧ t = 0 := by
  unfold leB at h
  simp only [Bool.and_eq_true] at h
  obtain ⟨⟨h1, rfl⟩, h2⟩ := h
  have hr := (rtB_iff true f r t).1 h1
  have hr' := hr.1 rfl
  obtain ⟨e1, l1⟩ := and_low q (by omega) (by omega : r ≤ 3)
  have hne : anR r q ≠ 0 := by simpa using h2
  refine ⟨rfl, ⟨fun _ => ?_, fun e => by cases e⟩, hr, hr'.2.2.2.2⟩
  rw [e1] at hne ⊢
  omega
/-- All that PteLess asks: of Less, and of Quiet at two floors. -/
theorem less_all {o : Bool} {f r t q k : Int} (h : leE o f r t q = 0) : leO o f r t q = true ∧ leF o f r t q = f ∧ leR o f r t q = anR r q ∧ (alB true f (anR r q) 0 k = true → alB o f r t k = true) ∧ chk true f (anR r q) 0 = 0 := by
  have hb : leB o f r t q = true := by
    unfold leE at h
    by_cases hb : leB o f r t q = true
    · exact hb
    · rw [if_neg hb] at h; cases h
  obtain ⟨rfl, h1, h2, rfl⟩ := less_right hb
  refine ⟨hb, by simp [leF, hb], by simp [leR, hb], fun ha => ?_, chk_yes h1⟩
  have hr := h2.1 rfl
  simp only [alB, Bool.and_eq_true, beq_iff_eq] at ha ⊢
  exact ⟨⟨rtB_yes h2, trivial⟩, and_more (by omega) (by omega) ha.2⟩
theorem quiet_more {o : Bool} {f r t a b : Int} (hab : a ≤ b) (h : quB o f r t a = true) : quB o f r t b = true := by
  simp only [quB, Bool.and_eq_true, Bool.or_eq_true, decide_eq_true_eq] at h ⊢
  exact ⟨h.1, h.2.elim .inl fun hh => .inr (by omega)⟩
theorem quiet_off {o : Bool} {f r t a q : Int} (h : quB o f r t a = true) : alB o f r t q = false := by
  simp only [quB, Bool.and_eq_true] at h
  have ho : o = false := by simpa using h.1.2
  simp [alB, ho]

/-! ### the tests, as the program and the document make them -/
def mpB (o : Bool) (f r t : Int) : Bool := rtB o f r t && o
def nnB (o : Bool) (f r t : Int) : Bool := rtB o f r t && !o
theorem mpB_yes {f r t : Int} (h : 0 ≤ f ∧ f ≤ 63 ∧ 1 ≤ r ∧ r ≤ 3 ∧ t = 0) : mpB true f r t = true := by
  unfold mpB
  rw [rtB_yes (o := true) ⟨fun _ => h, fun e => by cases e⟩]
  rfl
theorem mpB_no {f r t : Int} (h : ¬ (0 ≤ f ∧ f ≤ 63 ∧ 1 ≤ r ∧ r ≤ 3 ∧ t = 0)) : mpB true f r t = false := by
  unfold mpB
  rw [rtB_no (o := true) fun hh => h (hh.1 rfl)]
  rfl
theorem mpB_off (f r t : Int) : mpB false f r t = false := by simp [mpB]
theorem nnB_yes {f r t : Int} (h : f = 0 ∧ r = 0 ∧ 0 ≤ t ∧ t ≤ 1073741824) : nnB false f r t = true := by
  unfold nnB
  rw [rtB_yes (o := false) ⟨fun e => (by cases e), fun _ => h⟩]
  rfl
theorem nnB_no {f r t : Int} (h : ¬ (f = 0 ∧ r = 0 ∧ 0 ≤ t ∧ t ≤ 1073741824)) : nnB false f r t = false := by
  unfold nnB
  rw [rtB_no (o := false) fun hh => h (hh.2 rfl)]
  rfl
theorem nnB_on (f r t : Int) : nnB true f r t = false := by simp [nnB]
theorem rtB_or (o : Bool) (f r t : Int) : rtB o f r t = (mpB o f r t || nnB o f r t) := by
  unfold mpB nnB
  cases rtB o f r t <;> cases o <;> rfl
theorem chk_of (o : Bool) (f r t : Int) : chk o f r t = if mpB o f r t || nnB o f r t then 0 else 1 := by
  unfold chk
  rw [rtB_or]
theorem mpB_rt {o : Bool} {f r t : Int} (h : mpB o f r t = true) : o = true ∧ 0 ≤ f ∧ f ≤ 63 ∧ 1 ≤ r ∧ r ≤ 3 ∧ t = 0 := by
  simp only [mpB, Bool.and_eq_true] at h
  obtain ⟨h1, rfl⟩ := h
  exact ⟨rfl, ((rtB_iff true f r t).1 h1).1 rfl⟩
theorem back_toInt (x : BitVec 64) : IntKind.i64.wrap (x.toNat : Int) = x.toInt := by
  have := x.isLt
  unfold IntKind.wrap
  simp [IntKind.bits, IntKind.signed]
  rw [BitVec.toInt_eq_toNat_cond]
  split <;> omega
theorem toInt_of {q : Int} (h : -9223372036854775808 ≤ q ∧ q ≤ 9223372036854775807) : (BitVec.ofInt 64 q).toInt = q := by
  rw [BitVec.toInt_ofInt]
  unfold Int.bmod
  simp only
  split <;> omega
theorem and_iff (A B : BitVec 64) : A &&& ~~~B = 0#64 ↔ B &&& A = A := by
  constructor
  · intro h
    apply BitVec.eq_of_getElem_eq
    intro i hi
    have := congrArg (fun x : BitVec 64 => x[i]) h
    simp at this ⊢
    exact this
  · intro h
    apply BitVec.eq_of_getElem_eq
    intro i hi
    have := congrArg (fun x : BitVec 64 => x[i]) h
    simp at this ⊢
    exact this
/-- Nothing of q beside r: r has all of q. -/
theorem an_not {q : Int} (r : Int) (h : -9223372036854775808 ≤ q ∧ q ≤ 9223372036854775807) : (bits .andNot .i64 q r == 0) = (anR r q == q) := by
  show (IntKind.i64.wrap ((BitVec.ofInt 64 q &&& ~~~ BitVec.ofInt 64 r).toNat : Int) == 0) = (IntKind.i64.wrap ((BitVec.ofInt 64 r &&& BitVec.ofInt 64 q).toNat : Int) == q)
  rw [back_toInt, back_toInt]
  have e1 : ((BitVec.ofInt 64 q &&& ~~~ BitVec.ofInt 64 r).toInt = 0) ↔ BitVec.ofInt 64 q &&& ~~~ BitVec.ofInt 64 r = 0#64 := by
    rw [show (0 : Int) = (0#64).toInt from rfl, BitVec.toInt_inj]
  have e2 : ((BitVec.ofInt 64 r &&& BitVec.ofInt 64 q).toInt = q) ↔ BitVec.ofInt 64 r &&& BitVec.ofInt 64 q = BitVec.ofInt 64 q := by
    conv => lhs; rhs; rw [← toInt_of h]
    rw [BitVec.toInt_inj]
  rw [Bool.eq_iff_iff, beq_iff_eq, beq_iff_eq, e1, e2]
  exact and_iff _ _
theorem alB_of (o : Bool) (f r t q : Int) : alB o f r t q = (mpB o f r t && (anR r q == q)) := rfl
theorem leB_of (o : Bool) (f r t q : Int) : leB o f r t q = (mpB o f r t && !(anR r q == 0)) := rfl
theorem quB_of (o : Bool) (f r t fl : Int) : quB o f r t fl = (nnB o f r t && (decide (t = 0) || decide (t < fl))) := rfl
end Go.Proofs.YthmbipcfmciolaaDoor.Ppte
