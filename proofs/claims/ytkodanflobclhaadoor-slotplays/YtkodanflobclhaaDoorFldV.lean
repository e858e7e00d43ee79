/- What is packed is unpacked, and what is unpacked is packed: the plain arithmetic of it. -/
import Derived.Test.YtkodanflobclhaaDoorFldT
namespace Go.Proofs.YtkodanflobclhaaDoor.Pfield
open Go.RowKit M
set_option linter.unusedVariables false

theorem put_low (x s z : Nat) (h : s + z ≤ 64) (hx : x ≤ 18446744073709551615) : putN (x % 2 ^ s) s z (getN x s z) = x % 2 ^ (s + z) := by
  have hm : x % 2 ^ s ≤ x := Nat.mod_le _ _
  apply Nat.eq_of_testBit_eq
  intro i
  rw [testBit_putN _ _ _ _ _ h (by omega) (getN_lt _ _ _), Nat.testBit_mod_two_pow, Nat.testBit_mod_two_pow]
  by_cases h1 : s ≤ i ∧ i < s + z
  · rw [if_pos h1, testBit_getN, show s + (i - s) = i by omega]
    simp [h1.2]; omega
  · rw [if_neg h1]
    by_cases h2 : i < s
    · simp [h2, show i < s + z by omega]
    · simp [h2, show ¬ i < s + z by omega]
theorem put_fits (x s z v : Nat) (h : s + z ≤ 64) (hx : x < 2 ^ s) (hv : v < 2 ^ z) : putN x s z v < 2 ^ (s + z) := by
  have hp := pow_le_64 (k := s) (by omega)
  apply Nat.lt_pow_two_of_testBit
  intro i hi
  rw [testBit_putN _ _ _ _ _ h (by omega) hv, if_neg (by omega)]
  exact Nat.testBit_lt_two_pow (Nat.lt_of_lt_of_le hx (Nat.pow_le_pow_right (show 0 < 2 by omega) (by omega)))
theorem fits_iff {v s : Int} (h0 : 0 ≤ v) (h1 : 0 ≤ s) (h2 : s ≤ 64) : fitsB v s = true ↔ v.toNat < 2 ^ s.toNat := by
  constructor
  · intro h; exact fits_lt h h2
  · intro h
    unfold fitsB maskF
    rw [show min s 64 = s by omega, decide_eq_true_eq]
    have := Nat.two_pow_pos s.toNat
    omega

/-! ### the sums -/
/-- The first k widths fit a word. -/
def okTo (zs : List Int) (k : Nat) : Prop := ∀ j, j < k → 0 ≤ sumTo zs j ∧ 1 ≤ zs[j]?.getD 0 ∧ zs[j]?.getD 0 ≤ 64 - sumTo zs j
theorem okTo_step {zs : List Int} {k : Nat} (h : okTo zs (k + 1)) : sumTo zs (k + 1) = sumTo zs k + zs[k]?.getD 0 := by
  obtain ⟨h0, h1, h2⟩ := h k (by omega)
  exact sumTo_step rfl h0 h1 h2
theorem okTo_less {zs : List Int} {k j : Nat} (h : okTo zs k) (hj : j ≤ k) : okTo zs j := fun i hi => h i (by omega)
theorem okTo_bd {zs : List Int} : ∀ {k : Nat}, okTo zs k → 0 ≤ sumTo zs k ∧ sumTo zs k ≤ 64
  | 0, _ => by simp [sumTo]
  | k + 1, h => by
    rw [okTo_step h]
    obtain ⟨h0, h1, h2⟩ := h k (by omega)
    omega
theorem okTo_mono {zs : List Int} : ∀ {k j : Nat}, okTo zs k → j ≤ k → sumTo zs j ≤ sumTo zs k
  | 0, j, _, hj => by rw [show j = 0 by omega]; omega
  | k + 1, j, h, hj => by
    by_cases e : j = k + 1
    · rw [e]; omega
    · have h1 := okTo_mono (okTo_less h (Nat.le_succ k)) (show j ≤ k by omega)
      rw [okTo_step h]
      obtain ⟨_, h2, _⟩ := h k (by omega)
      omega

/-! ### packed, then unpacked -/
def pk (zs vs : List Int) (k : Nat) : Int := packs zs vs (upto zs.length k)
theorem pk_zero (zs vs : List Int) : pk zs vs 0 = 0 := rfl
theorem pk_succ {zs vs : List Int} {k : Nat} (h : k < zs.length) : pk zs vs (k + 1) = putF (pk zs vs k) (sumTo zs k) (zs[k]?.getD 0) (vs[k]?.getD 0) := by
  unfold pk
  rw [upto_succ h, packs_snoc]
theorem okP_okTo {zs vs : List Int} {k : Nat} (h : ∀ j, j < k → okP zs vs j = true) : okTo zs k := fun j hj => (ok_parts (h j hj)).1
theorem pk_inv {zs vs : List Int} (hv : ∀ j : Nat, 0 ≤ vs[j]?.getD 0 ∧ vs[j]?.getD 0 ≤ 18446744073709551615) : ∀ {k : Nat}, k ≤ zs.length → (∀ j, j < k → okP zs vs j = true) →
    0 ≤ pk zs vs k ∧ pk zs vs k ≤ 18446744073709551615 ∧ (pk zs vs k).toNat < 2 ^ (sumTo zs k).toNat ∧ ∀ j, j < k → getF (pk zs vs k) (sumTo zs j) (zs[j]?.getD 0) = vs[j]?.getD 0
  | 0, _, _ => by
    rw [pk_zero]
    refine ⟨by omega, by omega, Nat.two_pow_pos _, fun j hj => by omega⟩
  | k + 1, hk, h => by
    obtain ⟨b0, b1, b2, b3⟩ := pk_inv hv (show k ≤ zs.length by omega) (fun j hj => h j (by omega))
    obtain ⟨⟨h0, h1, h2⟩, hf⟩ := ok_parts (h k (by omega))
    have hT := okP_okTo h
    have hst := okTo_step hT
    have hbd := putF_bd (pk zs vs k) (sumTo zs k) (zs[k]?.getD 0) (vs[k]?.getD 0) h0 h1 h2 b1 hf
    rw [pk_succ (by omega)]
    refine ⟨hbd.1, hbd.2, ?_, fun j hj => ?_⟩
    · have hp := put_fits (pk zs vs k).toNat (sumTo zs k).toNat (zs[k]?.getD 0).toNat (vs[k]?.getD 0).toNat (by omega) b2 (fits_lt hf (by omega))
      unfold putF
      rw [Int.toNat_natCast, hst, show (sumTo zs k + zs[k]?.getD 0).toNat = (sumTo zs k).toNat + (zs[k]?.getD 0).toNat by omega]
      exact hp
    · by_cases e : j = k
      · rw [e]; exact getF_put _ _ _ _ h0 h1 h2 b1 (hv k).1 hf
      · rw [← b3 j (by omega)]
        obtain ⟨j0, j1, j2⟩ := hT j (by omega)
        have hj1 := okTo_step (okTo_less hT (show j + 1 ≤ k + 1 by omega))
        have hj2 := okTo_mono (okTo_less hT (Nat.le_succ k)) (show j + 1 ≤ k by omega)
        exact getF_put_other _ _ _ _ _ _ h0 h1 h2 b1 hf j0 j1 (.inl (by omega))
theorem pack_unpack {zs vs : List Int} (hlv : zs.length = vs.length) (hv : ∀ j : Nat, 0 ≤ vs[j]?.getD 0 ∧ vs[j]?.getD 0 ≤ 18446744073709551615) (hA : ∀ j, j < zs.length → okP zs vs j = true) :
    (0 ≤ packF zs vs ∧ packF zs vs ≤ 18446744073709551615) ∧ canU (packF zs vs) zs ∧ getsI (packF zs vs) zs = vs := by
  obtain ⟨b0, b1, b2, b3⟩ := pk_inv hv (Nat.le_refl _) hA
  have hT := okP_okTo hA
  have hs := okTo_bd hT
  refine ⟨⟨b0, b1⟩, ⟨fun j hj => (inB_iff _ _).2 (hT j hj), (fits_iff b0 hs.1 hs.2).2 b2⟩, ?_⟩
  apply List.ext_getElem (by rw [getsI_length, hlv])
  intro j h1 h2
  have hj : j < zs.length := by omega
  have e1 := getsI_at (packF zs vs) zs hj
  rw [List.getElem?_eq_getElem h1, Option.getD_some] at e1
  have e2 := b3 j hj
  rw [List.getElem?_eq_getElem h2, Option.getD_some] at e2
  rw [e1]
  exact e2

/-! ### unpacked, then packed -/
theorem okU_okTo {zs : List Int} {k : Nat} (h : ∀ j, j < k → okU zs j = true) : okTo zs k := fun j hj => (inB_iff _ _).1 (h j hj)
theorem unpack_pack {zs : List Int} {x : Int} (hx : 0 ≤ x ∧ x ≤ 18446744073709551615) (hU : canU x zs) :
    (∀ j : Nat, 0 ≤ (getsI x zs)[j]?.getD 0 ∧ (getsI x zs)[j]?.getD 0 ≤ 18446744073709551615) ∧ (∀ j, j < zs.length → okP zs (getsI x zs) j = true) ∧ packF zs (getsI x zs) = x := by
  have hT := okU_okTo hU.1
  have hs := okTo_bd hT
  have hfit := (fits_iff hx.1 hs.1 hs.2).1 hU.2
  have hg : ∀ j, j < zs.length → 0 ≤ (getsI x zs)[j]?.getD 0 ∧ (getsI x zs)[j]?.getD 0 ≤ 18446744073709551615 ∧ ((getsI x zs)[j]?.getD 0).toNat = getN x.toNat (sumTo zs j).toNat (zs[j]?.getD 0).toNat := by
    intro j hj
    obtain ⟨h0, h1, h2⟩ := hT j hj
    rw [getsI_at x zs hj]
    have := getF_bd x (sumTo zs j) (zs[j]?.getD 0) (by omega)
    exact ⟨this.1, this.2, by unfold getF; rw [Int.toNat_natCast]⟩
  have hok : ∀ j, j < zs.length → okP zs (getsI x zs) j = true := by
    intro j hj
    obtain ⟨h0, h1, h2⟩ := hT j hj
    obtain ⟨g0, g1, g2⟩ := hg j hj
    unfold okP
    rw [(inB_iff _ _).2 ⟨h0, h1, h2⟩, Bool.true_and]
    refine (fits_iff g0 (by omega) (by omega)).2 ?_
    rw [g2]; exact getN_lt _ _ _
  have hp : ∀ k, k ≤ zs.length → pk zs (getsI x zs) k = ((x.toNat % 2 ^ (sumTo zs k).toNat : Nat) : Int) := by
    intro k
    induction k with
    | zero => intro _; rw [pk_zero]; simp [sumTo, Nat.mod_one]
    | succ k ih =>
      intro hk
      obtain ⟨h0, h1, h2⟩ := hT k (by omega)
      obtain ⟨g0, g1, g2⟩ := hg k (by omega)
      have hst := okTo_step (okTo_less hT hk)
      rw [pk_succ (by omega), ih (by omega)]
      unfold putF
      rw [Int.toNat_natCast, g2, put_low _ _ _ (by omega) (by omega), hst, show (sumTo zs k + zs[k]?.getD 0).toNat = (sumTo zs k).toNat + (zs[k]?.getD 0).toNat by omega]
  refine ⟨fun j => ?_, hok, ?_⟩
  · by_cases hj : j < zs.length
    · obtain ⟨g0, g1, _⟩ := hg j hj
      exact ⟨g0, g1⟩
    · rw [List.getElem?_eq_none (by rw [getsI_length]; omega), Option.getD_none]; omega
  · have := hp zs.length (Nat.le_refl _)
    show pk zs (getsI x zs) zs.length = x
    rw [this, Nat.mod_eq_of_lt hfit]
    omega
end Go.Proofs.YtkodanflobclhaaDoor.Pfield
