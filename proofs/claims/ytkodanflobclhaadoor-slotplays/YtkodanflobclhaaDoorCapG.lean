/- Plain words on capabilities: which are right, their words, what is under what. No program is named here. -/
import Derived.Test.YtkodanflobclhaaDoorBasG
import Derived.Test.YtkodanflobclhaaDoorFldV
namespace Go.Proofs.YtkodanflobclhaaDoor.Pcap
open Go.Proofs.YtkodanflobclhaaDoor.Pbase Go.Proofs.YtkodanflobclhaaDoor.Pfield
open Go.RowKit M
set_option linter.unusedVariables false

/-- When a capability of kind k with the numbers r, t, l, e, a is right. -/
def Rt (k r t l e a : Int) : Prop :=
  0 ≤ k ∧ k ≤ 11 ∧ 0 ≤ r ∧ r ≤ 31 ∧ 0 ≤ t ∧ t ≤ 63 ∧ 0 ≤ l ∧ l ≤ 63 ∧ 0 ≤ e ∧ e ≤ 65535 ∧ 0 ≤ a ∧ a ≤ 1073741824 ∧
  (k = 0 → r = 0 ∧ t = 0 ∧ l = 0 ∧ e = 0 ∧ a = 0) ∧ (k = 1 → r = 0 ∧ t = 0 ∧ l = 0 ∧ e = 0) ∧
  (k = 2 → l = 0 ∧ e = 0 ∧ 1 ≤ a ∧ a ≤ 64 ∧ t + a ≤ 64) ∧ (k = 5 → a = 0) ∧ (k = 11 → t = 0 ∧ l = 0 ∧ e = 0 ∧ a = 0) ∧
  (k ≠ 0 ∧ k ≠ 1 ∧ k ≠ 2 ∧ k ≠ 5 ∧ k ≠ 7 ∧ k ≠ 11 → l = 0 ∧ e = 0 ∧ a = 0)
/-- Is it right? -/
def rtB (k r t l e a : Int) : Bool :=
  decide (0 ≤ k) && decide (k ≤ 11) && decide (0 ≤ r) && decide (r ≤ 31) && decide (0 ≤ t) && decide (t ≤ 63) && decide (0 ≤ l) && decide (l ≤ 63) && decide (0 ≤ e) && decide (e ≤ 65535) && decide (0 ≤ a) && decide (a ≤ 1073741824) &&
  (decide (k ≠ 0) || decide (r = 0 ∧ t = 0 ∧ l = 0 ∧ e = 0 ∧ a = 0)) && (decide (k ≠ 1) || decide (r = 0 ∧ t = 0 ∧ l = 0 ∧ e = 0)) &&
  (decide (k ≠ 2) || decide (l = 0 ∧ e = 0 ∧ 1 ≤ a ∧ a ≤ 64 ∧ t + a ≤ 64)) && (decide (k ≠ 5) || decide (a = 0)) && (decide (k ≠ 11) || decide (t = 0 ∧ l = 0 ∧ e = 0 ∧ a = 0)) &&
  (decide (k = 0 ∨ k = 1 ∨ k = 2 ∨ k = 5 ∨ k = 7 ∨ k = 11) || decide (l = 0 ∧ e = 0 ∧ a = 0))
theorem rtB_iff (k r t l e a : Int) : rtB k r t l e a = true ↔ Rt k r t l e a := by
  unfold rtB Rt
  simp only [Bool.and_eq_true, Bool.or_eq_true, decide_eq_true_eq]
  omega
theorem rtB_yes {k r t l e a : Int} (h : Rt k r t l e a) : rtB k r t l e a = true := (rtB_iff k r t l e a).2 h
theorem rtB_no {k r t l e a : Int} (h : ¬ Rt k r t l e a) : rtB k r t l e a = false := Bool.eq_false_iff.2 fun e1 => h ((rtB_iff k r t l e a).1 e1)
/-- What Check answers. -/
def chk (k r t l e a : Int) : Int := if rtB k r t l e a = true then 0 else 1
theorem chk_yes {k r t l e a : Int} (h : Rt k r t l e a) : chk k r t l e a = 0 := by unfold chk; rw [if_pos (rtB_yes h)]
theorem chk_no {k r t l e a : Int} (h : ¬ Rt k r t l e a) : chk k r t l e a = 1 := by unfold chk; rw [rtB_no h]; rfl

/-! ### the table -/
/-- How great the numbers of each kind may be. -/
def mostL : List (List Int) :=
  [[0, 0, 0, 0, 0, 0], [0, 0, 0, 0, 0, 1073741824], [0, 31, 63, 0, 0, 64], [0, 31, 63, 0, 0, 0], [0, 31, 63, 0, 0, 0], [0, 31, 63, 63, 65535, 0],
   [0, 31, 63, 0, 0, 0], [0, 31, 63, 63, 65535, 1073741824], [0, 31, 63, 0, 0, 0], [0, 31, 63, 0, 0, 0], [0, 31, 63, 0, 0, 0], [0, 31, 0, 0, 0, 0]]
def mostAt (k n : Nat) : Int := (mostL[k]?.getD [])[n]?.getD 0
/-- The numbers of one, in their order. -/
def nth (k r t l e a : Int) (j : Nat) : Int := [k, r, t, l, e, a][j]?.getD 0
theorem rt_of_table {K : Nat} {r t l e a : Int} (hK : K < 12) : (∀ j, 1 ≤ j → j < 6 → 0 ≤ nth K r t l e a j ∧ nth K r t l e a j ≤ mostAt K j) ∧ (K = 2 → a ≠ 0 ∧ t + a ≤ 64) ↔ Rt K r t l e a := by
  constructor
  · rintro ⟨h, h2⟩
    have h1 := h 1 (by omega) (by omega)
    have h2' := h 2 (by omega) (by omega)
    have h3 := h 3 (by omega) (by omega)
    have h4 := h 4 (by omega) (by omega)
    have h5 := h 5 (by omega) (by omega)
    unfold Rt
    match K, hK with
    | 0, _ | 1, _ | 2, _ | 3, _ | 4, _ | 5, _ | 6, _ | 7, _ | 8, _ | 9, _ | 10, _ | 11, _ =>
      simp [nth, mostAt, mostL] at h1 h2' h3 h4 h5 h2 ⊢
      omega
  · intro h
    unfold Rt at h
    refine ⟨fun j hj1 hj6 => ?_, fun hk => by subst hk; omega⟩
    match K, hK with
    | 0, _ | 1, _ | 2, _ | 3, _ | 4, _ | 5, _ | 6, _ | 7, _ | 8, _ | 9, _ | 10, _ | 11, _ =>
      match j, hj1, hj6 with
      | 1, _, _ | 2, _, _ | 3, _, _ | 4, _, _ | 5, _, _ =>
        simp [nth, mostAt, mostL] at h ⊢
        omega

/-! ### rights -/
/-- All of x's are y's. -/
def sub5 (x y : Int) : Bool := decide (x.toNat &&& y.toNat = x.toNat)
theorem sub5_refl (x : Int) : sub5 x x = true := by simp [sub5]
theorem sub5_trans {x y z : Int} (h1 : sub5 x y = true) (h2 : sub5 y z = true) : sub5 x z = true := by
  simp only [sub5, decide_eq_true_eq] at *
  rw [← h1, Nat.and_assoc, h2]
theorem andNot_all : ∀ a b : Fin 32, (bits .andNot .i64 (a.1 : Int) (b.1 : Int) == 0) = decide (a.1 &&& b.1 = a.1) := by decide +kernel
theorem and_all : ∀ a b : Fin 32, (bits .and .i64 (a.1 : Int) (b.1 : Int) == (a.1 : Int)) = decide (a.1 &&& b.1 = a.1) := by decide +kernel
theorem andNot_sub {x y : Int} (h0 : 0 ≤ x) (h1 : x ≤ 31) (h2 : 0 ≤ y) (h3 : y ≤ 31) : (bits .andNot .i64 x y == 0) = sub5 x y := by
  obtain ⟨A, rfl⟩ := Int.eq_ofNat_of_zero_le h0
  obtain ⟨B, rfl⟩ := Int.eq_ofNat_of_zero_le h2
  exact andNot_all ⟨A, by omega⟩ ⟨B, by omega⟩
theorem and_sub {x y : Int} (h0 : 0 ≤ x) (h1 : x ≤ 31) (h2 : 0 ≤ y) (h3 : y ≤ 31) : (bits .and .i64 x y == x) = sub5 x y := by
  obtain ⟨A, rfl⟩ := Int.eq_ofNat_of_zero_le h0
  obtain ⟨B, rfl⟩ := Int.eq_ofNat_of_zero_le h2
  exact and_all ⟨A, by omega⟩ ⟨B, by omega⟩
theorem and_small {x : Int} (r : Int) (h0 : 0 ≤ x) (h1 : x ≤ 31) : ∃ m : Nat, bits .and .i64 x r = ((x.toNat &&& m : Nat) : Int) ∧ x.toNat &&& m ≤ x.toNat := by
  obtain ⟨A, rfl⟩ := Int.eq_ofNat_of_zero_le h0
  refine ⟨(BitVec.ofInt 64 r).toNat, ?_, Nat.and_le_left⟩
  have hx : A &&& (BitVec.ofInt 64 r).toNat ≤ A := Nat.and_le_left
  show IntKind.i64.wrap ((BitVec.ofInt 64 (A : Int) &&& BitVec.ofInt 64 r).toNat : Int) = _
  rw [BitVec.toNat_and, ofInt_u64 A (by omega)]
  obtain ⟨y, hy⟩ : ∃ y, y = A &&& (BitVec.ofInt 64 r).toNat := ⟨_, rfl⟩
  rw [← hy] at hx
  rw [Int.toNat_natCast, ← hy]
  unfold IntKind.wrap
  simp [IntKind.bits, IntKind.signed]
  omega
theorem weak_rt {k r t l e a : Int} (x : Int) (hk : 1 < k) (h : Rt k r t l e a) : Rt k (bits .and .i64 r x) t l e a ∧ sub5 (bits .and .i64 r x) r = true := by
  have h' := h
  unfold Rt at h'
  obtain ⟨m, e1, e2⟩ := and_small x h'.2.2.1 h'.2.2.2.1
  constructor
  · unfold Rt
    rw [e1]
    omega
  · rw [e1]
    simp only [sub5, decide_eq_true_eq, Int.toNat_natCast]
    rw [Nat.and_comm r.toNat m, Nat.and_assoc, Nat.and_self]

/-! ### what is under what -/
def undB (k r t l e a k' r' t' l' e' a' : Int) : Bool :=
  rtB k r t l e a && rtB k' r' t' l' e' a' && decide (k = k') && decide (1 < k) && sub5 r r' && (if k = 2 then decide (t' ≤ t) && decide (t + a ≤ t' + a') else decide (t = t') && decide (l = l') && decide (e = e') && decide (a = a'))
/-! ### words -/
/-- The widths of the first word's parts. -/
def ws : List Int := [4, 5, 6, 6, 16]
theorem mask4 : maskF 4 = 15 := by decide
theorem mask5 : maskF 5 = 31 := by decide
theorem mask6 : maskF 6 = 63 := by decide
theorem mask16 : maskF 16 = 65535 := by decide
theorem put_can {k r t l e a : Int} (h : Rt k r t l e a) : (∀ j : Nat, 0 ≤ [k, r, t, l, e][j]?.getD 0 ∧ [k, r, t, l, e][j]?.getD 0 ≤ 18446744073709551615) ∧ ∀ j, j < ws.length → okP ws [k, r, t, l, e] j = true := by
  unfold Rt at h
  constructor
  · intro j
    match j with
    | 0 | 1 | 2 | 3 | 4 => simp; omega
    | j + 5 => simp
  · intro j hj
    match j, hj with
    | 0, _ | 1, _ | 2, _ | 3, _ | 4, _ =>
      simp [okP, inB, fitsB, mask4, mask5, mask6, mask16, sumTo, ws, wrap64]
      omega
end Go.Proofs.YtkodanflobclhaaDoor.Pcap
