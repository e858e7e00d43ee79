/- Plain words on lines: where each leads (0: nowhere; else the frame and 1), what each call answers and makes of it. No program is named here. -/
import Derived.Test.YtefoofcfbcmjcaaBunBase
namespace Go.Proofs.Ytefoofcfbcmjcaa.Phw
open Go.Proofs.Ytefoofcfbcmjcaa.Pbase
open Go.RowKit
set_option linter.unusedVariables false

theorem rhide {p : Prop} (h : p) : Hid p := h
def okL (l : Int) : Bool := decide (0 ≤ l) && decide (l < 8)
def okG (f : Int) : Bool := decide (0 ≤ f) && decide (f < 64)
theorem okL_iff (l : Int) : okL l = true ↔ 0 ≤ l ∧ l < 8 := by unfold okL; simp
theorem okG_iff (f : Int) : okG f = true ↔ 0 ≤ f ∧ f < 64 := by unfold okG; simp
theorem okL_nat {i : Nat} (h : i < 8) : okL (i : Int) = true := (okL_iff _).2 ⟨by omega, by omega⟩
/-- Where the lines lead. -/
def Gd (S : Nat → Int) : Prop := ∀ i, 0 ≤ S i ∧ S i ≤ 64
def upL (S : Nat → Int) (l : Nat) (v : Int) : Nat → Int := fun i => if i = l then v else S i
theorem up_own (S : Nat → Int) (l : Nat) (v : Int) : upL S l v l = v := by unfold upL; rw [if_pos rfl]
theorem up_out {S : Nat → Int} {l i : Nat} {v : Int} (h : i ≠ l) : upL S l v i = S i := by unfold upL; rw [if_neg h]
theorem Gd.up {S : Nat → Int} (h : Gd S) (l : Nat) {v : Int} (hv : 0 ≤ v ∧ v ≤ 64) : Gd (upL S l v) := fun i => by
  unfold upL
  split
  · exact hv
  · exact h i
theorem gd_zero : Gd fun _ => 0 := fun _ => ⟨Int.le_refl 0, show (0 : Int) ≤ 64 by decide⟩
/-- Attach. -/
def atE (S : Nat → Int) (l f : Int) : Int := if (okL l && okG f) = true then if S l.toNat = 0 then 0 else 10 else 1
def atS (S : Nat → Int) (l f : Int) : Nat → Int := if atE S l f = 0 then upL S l.toNat (f + 1) else S
/-- Of; Detach. -/
def ofE (S : Nat → Int) (l : Int) : Int := if okL l = true then if S l.toNat = 0 then 3 else 0 else 1
def ofX (S : Nat → Int) (l : Int) : Int := if ofE S l = 0 then S l.toNat - 1 else 0
def deS (S : Nat → Int) (l : Int) : Nat → Int := if ofE S l = 0 then upL S l.toNat 0 else S
/-- Has. -/
def hsK (S : Nat → Int) (f : Int) : Nat → Nat
  | 0 => 0
  | k + 1 => hsK S f k + if okG f = true ∧ S k = f + 1 then 1 else 0
def hsN (S : Nat → Int) (f : Int) : Int := (hsK S f 8 : Nat)
/-! ### which way -/
section
variable {S : Nat → Int} {l f : Int}
theorem at_arg (h : ¬ (okL l && okG f) = true) : atE S l f = 1 ∧ atS S l f = S := by
  have e : atE S l f = 1 := by unfold atE; rw [if_neg h]
  exact ⟨e, by unfold atS; rw [if_neg (by rw [e]; decide)]⟩
theorem at_used (h : (okL l && okG f) = true) (h0 : S l.toNat ≠ 0) : atE S l f = 10 ∧ atS S l f = S := by
  have e : atE S l f = 10 := by unfold atE; rw [if_pos h, if_neg h0]
  exact ⟨e, by unfold atS; rw [if_neg (by rw [e]; decide)]⟩
theorem at_ok (h : (okL l && okG f) = true) (h0 : S l.toNat = 0) : atE S l f = 0 ∧ atS S l f = upL S l.toNat (f + 1) := by
  have e : atE S l f = 0 := by unfold atE; rw [if_pos h, if_pos h0]
  exact ⟨e, by unfold atS; rw [if_pos e]⟩
theorem of_arg (h : ¬ okL l = true) : ofE S l = 1 ∧ ofX S l = 0 ∧ deS S l = S := by
  have e : ofE S l = 1 := by unfold ofE; rw [if_neg h]
  exact ⟨e, by unfold ofX; rw [if_neg (by rw [e]; decide)], by unfold deS; rw [if_neg (by rw [e]; decide)]⟩
theorem of_none (h : okL l = true) (h0 : S l.toNat = 0) : ofE S l = 3 ∧ ofX S l = 0 ∧ deS S l = S := by
  have e : ofE S l = 3 := by unfold ofE; rw [if_pos h, if_pos h0]
  exact ⟨e, by unfold ofX; rw [if_neg (by rw [e]; decide)], by unfold deS; rw [if_neg (by rw [e]; decide)]⟩
theorem of_ok (h : okL l = true) (h0 : S l.toNat ≠ 0) : ofE S l = 0 ∧ ofX S l = S l.toNat - 1 ∧ deS S l = upL S l.toNat 0 := by
  have e : ofE S l = 0 := by unfold ofE; rw [if_pos h, if_neg h0]
  exact ⟨e, by unfold ofX; rw [if_pos e], by unfold deS; rw [if_pos e]⟩
theorem Gd.at (h : Gd S) (l f : Int) : Gd (atS S l f) := by
  by_cases h1 : (okL l && okG f) = true
  · by_cases h0 : S l.toNat = 0
    · rw [(at_ok h1 h0).2]
      have := (okG_iff f).1 (by simp at h1; exact h1.2)
      exact h.up _ (by omega)
    · rw [(at_used h1 h0).2]
      exact h
  · rw [(at_arg h1).2]
    exact h
theorem Gd.de (h : Gd S) (l : Int) : Gd (deS S l) := by
  unfold deS
  split
  · exact h.up _ (by omega)
  · exact h
end
/-! ### how many lead there -/
theorem hsK_le (S : Nat → Int) (f : Int) (k : Nat) : hsK S f k ≤ k := by
  induction k with
  | zero => simp [hsK]
  | succ k ih =>
    unfold hsK
    split <;> omega
/-- A line that led nowhere, or elsewhere, leads there: one more. -/
theorem hsK_up (S : Nat → Int) (f : Int) (l : Nat) (v : Int) (k : Nat) : hsK (upL S l v) f k + (if l < k ∧ okG f = true ∧ S l = f + 1 then 1 else 0) = hsK S f k + (if l < k ∧ okG f = true ∧ v = f + 1 then 1 else 0) := by
  induction k with
  | zero => simp [hsK]
  | succ k ih =>
    unfold hsK
    by_cases hk : k = l
    · subst hk
      rw [up_own]
      simp only [Nat.lt_irrefl, false_and, if_false, Nat.add_zero, Nat.lt_succ_self, true_and] at ih ⊢
      omega
    · rw [up_out hk]
      have e : (l < k + 1) ↔ (l < k) := by omega
      simp only [e]
      omega
/-- All lines to all frames are no more than there are. -/
def sumK (S : Nat → Int) : Nat → Nat
  | 0 => 0
  | x + 1 => sumK S x + hsK S x 8
def ledK (S : Nat → Int) (x : Nat) : Nat → Nat
  | 0 => 0
  | k + 1 => ledK S x k + if 1 ≤ S k ∧ S k ≤ x then 1 else 0
theorem ledK_le (S : Nat → Int) (x k : Nat) : ledK S x k ≤ k := by
  induction k with
  | zero => simp [ledK]
  | succ k ih =>
    unfold ledK
    split <;> omega
theorem led_step (S : Nat → Int) (x k : Nat) (hx : x < 64) : ledK S (x + 1) k = ledK S x k + hsK S x k := by
  induction k with
  | zero => simp [ledK, hsK]
  | succ k ih =>
    unfold ledK hsK
    have h1 : okG (x : Int) = true := (okG_iff _).2 ⟨by omega, by omega⟩
    simp only [h1, true_and]
    rw [ih]
    by_cases a : S k = (x : Int) + 1
    · rw [if_pos (by omega), if_neg (by omega), if_pos a]
      omega
    · by_cases b : 1 ≤ S k ∧ S k ≤ x
      · rw [if_pos (by omega), if_pos b, if_neg a]
        omega
      · rw [if_neg (by omega), if_neg b, if_neg a]
        omega
theorem sum_led (S : Nat → Int) : ∀ x, x ≤ 64 → sumK S x = ledK S x 8
  | 0, _ => by
    have : ∀ k, ledK S 0 k = 0 := fun k => by
      induction k with
      | zero => rfl
      | succ k ih =>
        unfold ledK
        rw [ih, if_neg (by omega)]
    rw [this]
    rfl
  | x + 1, h => by
    unfold sumK
    rw [sum_led S x (by omega), led_step S x 8 (by omega)]
theorem sum_le (S : Nat → Int) {x : Nat} (h : x ≤ 64) : sumK S x ≤ 8 := by
  rw [sum_led S x h]
  exact ledK_le S x 8
end Go.Proofs.Ytefoofcfbcmjcaa.Phw
