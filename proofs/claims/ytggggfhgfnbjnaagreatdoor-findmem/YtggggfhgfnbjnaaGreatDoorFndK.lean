/- Rights as bits: what is asked for and is there. -/
import Derived.Test.YtggggfhgfnbjnaaGreatDoorFndA
import Derived.Test.YtggggfhgfnbjnaaGreatDoorBunCap
namespace Go.Proofs.YtggggfhgfnbjnaaGreatDoor.Pfind
open Go.Proofs.YtggggfhgfnbjnaaGreatDoor.Pbase
open Go.RowKit
set_option linter.unusedVariables false

def I6 (x : Int) : Prop := -9223372036854775808 ≤ x ∧ x ≤ 9223372036854775807
theorem wrap_toInt (z : BitVec 64) : IntKind.i64.wrap (z.toNat : Int) = z.toInt := by
  have h := z.isLt
  rw [BitVec.toInt_eq_toNat_cond]
  unfold IntKind.wrap
  simp [IntKind.bits, IntKind.signed]
  split <;> omega
theorem and_bv (x y : Int) : bits .and .i64 x y = (BitVec.ofInt 64 x &&& BitVec.ofInt 64 y).toInt := by
  rw [← wrap_toInt]; rfl
theorem andNot_bv (x y : Int) : bits .andNot .i64 x y = (BitVec.ofInt 64 x &&& ~~~ BitVec.ofInt 64 y).toInt := by
  rw [← wrap_toInt]; rfl
theorem ofInt_back {x : Int} (h : I6 x) : (BitVec.ofInt 64 x).toInt = x := by
  unfold I6 at h
  rw [BitVec.toInt_ofInt]
  unfold Int.bmod
  simp
  split <;> omega
theorem ofInt_toInt (z : BitVec 64) : BitVec.ofInt 64 z.toInt = z := BitVec.ofInt_toInt
theorem bv_sub (a b : BitVec 64) : (a &&& ~~~ b = 0#64) ↔ b &&& a = a := by
  constructor
  · intro h
    apply BitVec.eq_of_getLsbD_eq
    intro i hi
    have := congrArg (fun z => z.getLsbD i) h
    simp [hi] at this ⊢
    intro h2
    exact this h2
  · intro h
    apply BitVec.eq_of_getLsbD_eq
    intro i hi
    have := congrArg (fun z => z.getLsbD i) h
    simp [hi] at this ⊢
    exact this
theorem toInt_zero {z : BitVec 64} : z.toInt = 0 ↔ z = 0#64 := by
  constructor
  · intro h; rw [← ofInt_toInt z, h]; rfl
  · intro h; rw [h]; rfl
/-- All of r is in R, said in both ways. -/
theorem all_in {r R : Int} (hr : I6 r) : (bits .andNot .i64 r R == 0) = (bits .and .i64 R r == r) := by
  rw [andNot_bv, and_bv, Bool.eq_iff_iff, beq_iff_eq, beq_iff_eq, toInt_zero, bv_sub]
  constructor
  · intro h; rw [h]; exact ofInt_back hr
  · intro h
    have := congrArg (BitVec.ofInt 64) h
    rwa [ofInt_toInt] at this
/-- What is in R of r is so of fewer of it. -/
theorem fewer_in {r s R : Int} (h : (bits .andNot .i64 r R == 0) = true) : (bits .andNot .i64 (bits .and .i64 r s) R == 0) = true := by
  rw [andNot_bv, beq_iff_eq, toInt_zero] at h ⊢
  rw [and_bv, ofInt_toInt]
  apply BitVec.eq_of_getLsbD_eq
  intro i hi
  have := congrArg (fun z => z.getLsbD i) h
  simp [hi] at this ⊢
  intro h1 _
  exact this h1
end Go.Proofs.YtggggfhgfnbjnaaGreatDoor.Pfind
