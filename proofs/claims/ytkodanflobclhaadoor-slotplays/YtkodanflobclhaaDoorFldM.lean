/- Plain arithmetic of bits of words, for the statements of layer 1: cutting out, putting in, masks, signed numbers. No program is named here. -/
import Derived.WalkKit
import Derived.Laws.BitsAllLaws
namespace Go.Proofs.YtkodanflobclhaaDoor.Pfield
open Go.RowKit
namespace M

/-- The n bits of x from bit a on. -/
def getN (x a n : Nat) : Nat := x / 2 ^ a % 2 ^ n
/-- x with the n bits from bit a on being v. -/
def putN (x a n v : Nat) : Nat := (x &&& (18446744073709551615 - (2 ^ n - 1) * 2 ^ a)) ||| v * 2 ^ a

theorem testBit_getN (x a n i : Nat) : (getN x a n).testBit i = (decide (i < n) && x.testBit (a + i)) := by
  unfold getN
  rw [Nat.testBit_mod_two_pow, Nat.testBit_div_two_pow, Nat.add_comm]
theorem p64 : (2 : Nat) ^ 64 = 18446744073709551616 := by decide
theorem getN_lt (x a n : Nat) : getN x a n < 2 ^ n := Nat.mod_lt _ (Nat.two_pow_pos n)

theorem mask_lt {a n : Nat} (h : a + n ≤ 64) : (2 ^ n - 1) * 2 ^ a ≤ 18446744073709551615 := by
  have h1 : (2 ^ n - 1) * 2 ^ a < 2 ^ n * 2 ^ a := Nat.mul_lt_mul_of_pos_right (by have := Nat.two_pow_pos n; omega) (Nat.two_pow_pos a)
  have h2 : 2 ^ n * 2 ^ a ≤ 2 ^ 64 := by rw [← Nat.pow_add]; exact Nat.pow_le_pow_right (by omega) (by omega)
  have h3 : (2 : Nat) ^ 64 = 18446744073709551616 := by decide
  omega
theorem shl_lt {a n v : Nat} (h : a + n ≤ 64) (hv : v < 2 ^ n) : v * 2 ^ a ≤ 18446744073709551615 := by
  have h1 : v * 2 ^ a ≤ (2 ^ n - 1) * 2 ^ a := Nat.mul_le_mul_right _ (by omega)
  exact Nat.le_trans h1 (mask_lt h)

theorem testBit_mask (a n i : Nat) : ((2 ^ n - 1) * 2 ^ a).testBit i = (decide (a ≤ i) && decide (i < a + n)) := by
  rw [Nat.mul_comm, Nat.testBit_two_pow_mul, Nat.testBit_two_pow_sub_one]
  by_cases h : a ≤ i
  · simp [h]; omega
  · simp [h]

theorem testBit_putN (x a n v i : Nat) (h : a + n ≤ 64) (hx : x ≤ 18446744073709551615) (hv : v < 2 ^ n) :
    (putN x a n v).testBit i = if a ≤ i ∧ i < a + n then v.testBit (i - a) else x.testBit i := by
  have hm := mask_lt h
  have e : 18446744073709551615 - (2 ^ n - 1) * 2 ^ a = 2 ^ 64 - ((2 ^ n - 1) * 2 ^ a + 1) := by
    have h3 : (2 : Nat) ^ 64 = 18446744073709551616 := by decide
    omega
  unfold putN
  rw [Nat.testBit_or, Nat.testBit_and, e, Nat.testBit_two_pow_sub_succ (by have := p64; omega), testBit_mask, Nat.mul_comm v, Nat.testBit_two_pow_mul]
  by_cases h1 : a ≤ i
  · by_cases h2 : i < a + n
    · simp [h1, h2]
    · have h3 : v.testBit (i - a) = false := Nat.testBit_lt_two_pow (Nat.lt_of_lt_of_le hv (Nat.pow_le_pow_right (by omega) (by omega)))
      by_cases h4 : i < 64
      · simp [h1, h2, h3, h4]
      · have h5 : x.testBit i = false := Nat.testBit_lt_two_pow (Nat.lt_of_lt_of_le (show x < 2 ^ 64 by have := p64; omega) (Nat.pow_le_pow_right (by omega) (by omega)))
        simp [h1, h2, h3, h5]
  · have h4 : i < 64 := by omega
    simp [h1, h4]

theorem putN_le (x a n v : Nat) (h : a + n ≤ 64) (hx : x ≤ 18446744073709551615) (hv : v < 2 ^ n) : putN x a n v ≤ 18446744073709551615 := by
  have h3 : (2 : Nat) ^ 64 = 18446744073709551616 := by decide
  have h1 : putN x a n v < 2 ^ 64 := Nat.or_lt_two_pow (Nat.lt_of_le_of_lt Nat.and_le_left (by omega)) (by have := shl_lt h hv; omega)
  omega

theorem get_put (x a n v : Nat) (h : a + n ≤ 64) (hx : x ≤ 18446744073709551615) (hv : v < 2 ^ n) : getN (putN x a n v) a n = v := by
  apply Nat.eq_of_testBit_eq
  intro i
  rw [testBit_getN, testBit_putN x a n v _ h hx hv]
  by_cases h1 : i < n
  · simp [h1]
  · simp [h1]
    exact Nat.testBit_lt_two_pow (Nat.lt_of_lt_of_le hv (Nat.pow_le_pow_right (show 0 < 2 by omega) (Nat.le_of_not_lt h1)))
theorem get_put_other (x a n v f k : Nat) (h : a + n ≤ 64) (hx : x ≤ 18446744073709551615) (hv : v < 2 ^ n) (hd : f + k ≤ a ∨ a + n ≤ f) :
    getN (putN x a n v) f k = getN x f k := by
  apply Nat.eq_of_testBit_eq
  intro i
  rw [testBit_getN, testBit_getN, testBit_putN x a n v _ h hx hv]
  by_cases h1 : i < k
  · rw [if_neg (by omega)]
  · simp [h1]

/-! ### the same over whole numbers, as the walk has them -/
def getF (x a n : Int) : Int := (getN x.toNat a.toNat n.toNat : Nat)
def maskF (n : Int) : Int := ((2 ^ (min n 64).toNat - 1 : Nat) : Int)
def fitsB (v n : Int) : Bool := decide (v ≤ maskF n)
def inB (a n : Int) : Bool := decide (0 ≤ a ∧ 1 ≤ n ∧ n ≤ 64 - a)
def putF (x a n v : Int) : Int := (putN x.toNat a.toNat n.toNat v.toNat : Nat)
def sgnF (v n : Int) : Int := if v % 2 ^ n.toNat < 2 ^ (n.toNat - 1) then v % 2 ^ n.toNat else v % 2 ^ n.toNat - 2 ^ n.toNat

theorem inB_iff (a n : Int) : inB a n = true ↔ (0 ≤ a ∧ 1 ≤ n ∧ n ≤ 64 - a) := by simp [inB]

theorem pow_le_64 {k : Nat} (h : k ≤ 64) : 2 ^ k ≤ 18446744073709551616 := by
  have h3 : (2 : Nat) ^ 64 = 18446744073709551616 := by decide
  rw [← h3]; exact Nat.pow_le_pow_right (by omega) h

theorem maskF_bd (n : Int) : 0 ≤ maskF n ∧ maskF n ≤ 18446744073709551615 := by
  have := pow_le_64 (k := (min n 64).toNat) (by omega)
  unfold maskF; omega
theorem getF_bd (x a n : Int) (h2 : n ≤ 64) : 0 ≤ getF x a n ∧ getF x a n ≤ 18446744073709551615 := by
  have h := getN_lt x.toNat a.toNat n.toNat
  have := pow_le_64 (k := n.toNat) (by omega)
  unfold getF; omega
theorem fits_lt {v n : Int} (h : fitsB v n = true) (h2 : n ≤ 64) : v.toNat < 2 ^ n.toNat := by
  have hh : v ≤ maskF n := by simpa [fitsB] using h
  unfold maskF at hh
  rw [show min n 64 = n by omega] at hh
  have := Nat.two_pow_pos n.toNat
  omega
theorem putF_bd (x a n v : Int) (h0 : 0 ≤ a) (h1 : 1 ≤ n) (h2 : n ≤ 64 - a) (hx1 : x ≤ 18446744073709551615) (hv : fitsB v n = true) :
    0 ≤ putF x a n v ∧ putF x a n v ≤ 18446744073709551615 := by
  have h := putN_le x.toNat a.toNat n.toNat v.toNat (by omega) (by omega) (fits_lt hv (by omega))
  unfold putF; omega

theorem cut_nat (x a n : Nat) (h : a + n ≤ 64) : x * 2 ^ (64 - a - n) % 18446744073709551616 / 2 ^ (64 - n) = getN x a n := by
  unfold getN
  have e1 : 18446744073709551616 = 2 ^ (a + n) * 2 ^ (64 - a - n) := by
    rw [← Nat.pow_add, show a + n + (64 - a - n) = 64 by omega]
  have e2 : 64 - n = (64 - a - n) + a := by omega
  rw [e1, Nat.mul_mod_mul_right, e2, Nat.pow_add 2 (64 - a - n) a, ← Nat.div_div_eq_div_mul, Nat.mul_div_cancel _ (Nat.two_pow_pos _), Nat.pow_add, Nat.mod_mul_right_div_self]

theorem two_pow_cast (k : Nat) : ((2 ^ k : Nat) : Int) = 2 ^ k := by norm_cast
theorem cut_eq (x a n : Int) (h0 : 0 ≤ a) (h1 : 1 ≤ n) (h2 : n ≤ 64 - a) (hx : 0 ≤ x) :
    IntKind.u64.wrap (x * 2 ^ (64 - a - n).toNat) / 2 ^ (64 - n).toNat = getF x a n := by
  obtain ⟨x, rfl⟩ := Int.eq_ofNat_of_zero_le hx
  obtain ⟨a, rfl⟩ := Int.eq_ofNat_of_zero_le h0
  obtain ⟨n, rfl⟩ := Int.eq_ofNat_of_zero_le (show 0 ≤ n by omega)
  have h := cut_nat x a n (by omega)
  unfold getF
  rw [IntKind.wrap_u64, show (64 - (a : Int) - (n : Int)).toNat = 64 - a - n by omega, show (64 - (n : Int)).toNat = 64 - n by omega, ← two_pow_cast, ← two_pow_cast]
  rw [Int.toNat_natCast, Int.toNat_natCast, Int.toNat_natCast, ← h]
  rfl
theorem getF_all (n : Int) (h1 : 1 ≤ n) (h2 : n ≤ 64) : getF 18446744073709551615 0 n = maskF n := by
  unfold getF maskF getN
  rw [show min n 64 = n by omega]
  have e : (18446744073709551615 : Int).toNat = 2 ^ 64 - 1 := by decide
  rw [e]
  have : (2 ^ 64 - 1) / 2 ^ (0 : Int).toNat % 2 ^ n.toNat = 2 ^ n.toNat - 1 := by
    simp only [Int.toNat_zero, Nat.pow_zero, Nat.div_one]
    apply Nat.eq_of_testBit_eq
    intro i
    rw [Nat.testBit_mod_two_pow, Nat.testBit_two_pow_sub_one, Nat.testBit_two_pow_sub_one]
    by_cases h : i < n.toNat
    · simp [h]; omega
    · simp [h]
  rw [this]
theorem mask_eq (n : Int) (h1 : 1 ≤ n) (h2 : n ≤ 64) :
    IntKind.u64.wrap (18446744073709551615 * 2 ^ (64 - n).toNat) / 2 ^ (64 - n).toNat = maskF n := by
  have h := cut_eq 18446744073709551615 0 n (by omega) h1 (by omega) (by omega)
  rw [getF_all n h1 h2] at h
  rw [← h, show 64 - (0 : Int) - n = 64 - n by omega]
theorem maskF_low (n : Int) (h : n < 1) : maskF n = 0 := by
  unfold maskF
  rw [show (min n 64).toNat = 0 by omega]; rfl
theorem maskF_high (n : Int) (h : 64 ≤ n) : maskF n = maskF 64 := by
  unfold maskF
  rw [show min n 64 = min 64 64 by omega]

theorem fits_eq (x n : Int) (hx0 : 0 ≤ x) (hx1 : x ≤ 18446744073709551615) : (bits BinOp.andNot IntKind.u64 x (maskF n) == 0) = fitsB x n := by
  have hm := maskF_bd n
  obtain ⟨x, rfl⟩ := Int.eq_ofNat_of_zero_le hx0
  rw [u64_andNot _ _ (by omega) (by omega) (by omega) (by omega)]
  unfold fitsB maskF
  obtain ⟨k, hk⟩ : ∃ k : Nat, k = (min n 64).toNat := ⟨_, rfl⟩
  rw [← hk, Int.toNat_natCast, Int.toNat_natCast]
  have hp := pow_le_64 (k := k) (by omega)
  have hp0 := Nat.two_pow_pos k
  have e : 18446744073709551615 - (2 ^ k - 1) = 2 ^ 64 - ((2 ^ k - 1) + 1) := by have := p64; omega
  rw [e, Bool.eq_iff_iff]
  simp only [beq_iff_eq, decide_eq_true_eq]
  constructor
  · intro h
    have h' : x &&& (2 ^ 64 - ((2 ^ k - 1) + 1)) = 0 := by omega
    have : x < 2 ^ k := by
      apply Nat.lt_pow_two_of_testBit
      intro i hi
      have hb := congrArg (fun t => t.testBit i) h'
      simp only [Nat.testBit_and, Nat.zero_testBit] at hb
      rw [Nat.testBit_two_pow_sub_succ (by have := p64; omega), Nat.testBit_two_pow_sub_one] at hb
      by_cases h4 : i < 64
      · simpa [h4, show ¬ i < k by omega] using hb
      · exact Nat.testBit_lt_two_pow (Nat.lt_of_lt_of_le (show x < 2 ^ 64 by have := p64; omega) (Nat.pow_le_pow_right (show 0 < 2 by omega) (by omega)))
    omega
  · intro h
    have h1 : x < 2 ^ k := by omega
    have h2 : x &&& (2 ^ 64 - ((2 ^ k - 1) + 1)) = 0 := by
      apply Nat.eq_of_testBit_eq
      intro i
      rw [Nat.testBit_and, Nat.testBit_two_pow_sub_succ (by have := p64; omega), Nat.testBit_two_pow_sub_one, Nat.zero_testBit]
      by_cases hi : i < k
      · simp [hi]
      · rw [Nat.testBit_lt_two_pow (Nat.lt_of_lt_of_le h1 (Nat.pow_le_pow_right (show 0 < 2 by omega) (Nat.le_of_not_lt hi)))]
        simp
    rw [h2]; rfl

theorem put_eq (x a n v : Int) (h0 : 0 ≤ a) (h1 : 1 ≤ n) (h2 : n ≤ 64 - a) (hx0 : 0 ≤ x) (hx1 : x ≤ 18446744073709551615) (hv0 : 0 ≤ v) (hf : fitsB v n = true) :
    bits BinOp.or IntKind.u64 (bits BinOp.andNot IntKind.u64 x (IntKind.u64.wrap (maskF n * 2 ^ a.toNat))) (IntKind.u64.wrap (v * 2 ^ a.toNat)) = putF x a n v := by
  have hl := fits_lt hf (by omega)
  obtain ⟨x, rfl⟩ := Int.eq_ofNat_of_zero_le hx0
  obtain ⟨v, rfl⟩ := Int.eq_ofNat_of_zero_le hv0
  obtain ⟨a, rfl⟩ := Int.eq_ofNat_of_zero_le h0
  obtain ⟨n, rfl⟩ := Int.eq_ofNat_of_zero_le (show 0 ≤ n by omega)
  have hm := mask_lt (a := a) (n := n) (by omega)
  have hs := shl_lt (a := a) (n := n) (v := v) (by omega) (by simpa using hl)
  unfold putF putN maskF
  rw [show (min (n : Int) 64).toNat = n by omega]
  simp only [Int.toNat_natCast]
  rw [show (((2 ^ n - 1 : Nat) : Int) * 2 ^ a) = (((2 ^ n - 1) * 2 ^ a : Nat) : Int) by rw [Int.natCast_mul, two_pow_cast],
    show ((v : Int) * 2 ^ a) = ((v * 2 ^ a : Nat) : Int) by rw [Int.natCast_mul, two_pow_cast], IntKind.wrap_u64, IntKind.wrap_u64,
    Int.emod_eq_of_lt (by omega) (by omega), Int.emod_eq_of_lt (by omega) (by omega), u64_andNot_nat _ _ (by omega) (by omega), u64_or_nat _ _ (Nat.lt_of_le_of_lt Nat.and_le_left (by omega)) (by omega)]
theorem getF_put (x a n v : Int) (h0 : 0 ≤ a) (h1 : 1 ≤ n) (h2 : n ≤ 64 - a) (hx1 : x ≤ 18446744073709551615) (hv0 : 0 ≤ v) (hf : fitsB v n = true) : getF (putF x a n v) a n = v := by
  unfold getF putF
  rw [Int.toNat_natCast, get_put _ _ _ _ (by omega) (by omega) (fits_lt hf (by omega))]
  omega
theorem getF_put_other (x a n v f k : Int) (h0 : 0 ≤ a) (h1 : 1 ≤ n) (h2 : n ≤ 64 - a) (hx1 : x ≤ 18446744073709551615) (hf : fitsB v n = true)
    (g0 : 0 ≤ f) (g1 : 1 ≤ k) (hd : f + k ≤ a ∨ a + n ≤ f) : getF (putF x a n v) f k = getF x f k := by
  unfold getF putF
  rw [Int.toNat_natCast, get_put_other _ _ _ _ _ _ (by omega) (by omega) (fits_lt hf (by omega)) (by omega)]

theorem sgn_eq (x n : Int) (h1 : 1 ≤ n) (h2 : n ≤ 64) :
    wrap64 (wrap64 x * 2 ^ (64 - n).toNat) / 2 ^ (64 - n).toNat = sgnF x n := by
  obtain ⟨n, rfl⟩ := Int.eq_ofNat_of_zero_le (show 0 ≤ n by omega)
  rw [show (64 - (n : Int)).toNat = 64 - n by omega]
  obtain ⟨p, hp⟩ : ∃ p : Int, p = 2 ^ (64 - n) := ⟨_, rfl⟩
  obtain ⟨q, hq⟩ : ∃ q : Int, q = 2 ^ (n - 1) := ⟨_, rfl⟩
  have hp0 : 0 < p := by rw [hp]; exact Int.pow_pos (by omega)
  have hq0 : 0 < q := by rw [hq]; exact Int.pow_pos (by omega)
  have e2 : (2 : Int) ^ n = 2 * q := by rw [hq, show n = (n - 1) + 1 by omega, Int.pow_succ]; simp; omega
  have e1 : (18446744073709551616 : Int) = p * (2 * q) := by
    rw [← e2, hp, ← Int.pow_add, show 64 - n + n = 64 by omega]; rfl
  have e3 : (9223372036854775808 : Int) = p * q := by
    have : p * (2 * q) = 2 * (p * q) := by rw [Int.mul_left_comm]
    omega
  have key : ∀ y : Int, y % 18446744073709551616 = x % 18446744073709551616 → wrap64 (y * p) / p = sgnF x n := by
    intro y hy
    have hz : y % (2 * q) = x % (2 * q) := by
      rw [e1] at hy
      have hy' := congrArg (fun t => t % (2 * q)) hy
      simp only [Int.emod_emod_of_dvd _ (Int.dvd_mul_left _ _)] at hy'
      exact hy'
    unfold sgnF
    rw [Int.toNat_natCast, e2, ← hq, ← hz]
    have hb := Int.emod_nonneg y (show 2 * q ≠ 0 by omega)
    have hb2 := Int.emod_lt_of_pos y (show 0 < 2 * q by omega)
    have e5 : wrap64 (y * p) = p * ((y + q) % (2 * q) - q) := by
      unfold wrap64
      rw [e1, e3, Int.mul_sub, Int.mul_comm y p, ← Int.mul_add, Int.mul_emod_mul_of_pos _ _ hp0]
    rw [e5, Int.mul_ediv_cancel_left _ (by omega), ← Int.emod_add_emod]
    by_cases hr : y % (2 * q) < q
    · rw [if_pos hr, Int.emod_eq_of_lt (by omega) (by omega)]; omega
    · rw [if_neg hr, show y % (2 * q) + q = (y % (2 * q) - q) + 2 * q by omega, Int.add_emod_right, Int.emod_eq_of_lt (by omega) (by omega)]; omega
  rw [← hp]
  apply key
  unfold wrap64
  omega
theorem and_mask (v n : Int) (h1 : 0 ≤ n) (h2 : n ≤ 64) (hv0 : 0 ≤ v) (hv1 : v ≤ 18446744073709551615) : bits BinOp.and IntKind.u64 v (maskF n) = v % 2 ^ n.toNat := by
  have hm := maskF_bd n
  obtain ⟨v, rfl⟩ := Int.eq_ofNat_of_zero_le hv0
  rw [u64_and _ _ (by omega) (by omega) (by omega) (by omega)]
  unfold maskF
  rw [show min n 64 = n by omega, Int.toNat_natCast, Int.toNat_natCast, Nat.and_two_pow_sub_one_eq_mod, Int.natCast_emod, two_pow_cast]
theorem maskF_half (n : Int) (h1 : 1 ≤ n) (h2 : n ≤ 64) : maskF n / 2 + 1 = 2 ^ (n.toNat - 1) := by
  unfold maskF
  rw [show min n 64 = n by omega]
  have e : 2 ^ n.toNat = 2 * 2 ^ (n.toNat - 1) := by rw [← Nat.pow_succ']; congr 1; omega
  have hp := Nat.two_pow_pos (n.toNat - 1)
  rw [← two_pow_cast]
  omega
theorem sgn_facts (v n : Int) (h1 : 1 ≤ n) (h2 : n ≤ 64) (hv0 : 0 ≤ v) (hv1 : v ≤ 18446744073709551615) :
    bits BinOp.and IntKind.u64 (IntKind.u64.wrap (sgnF v n)) (maskF n) = bits BinOp.and IntKind.u64 v (maskF n) ∧
    (sgnF v n < 0 ↔ maskF n / 2 + 1 ≤ bits BinOp.and IntKind.u64 v (maskF n)) ∧ sgnF v n < maskF n / 2 + 1 ∧ -(maskF n / 2 + 1) ≤ sgnF v n := by
  rw [maskF_half n h1 h2, and_mask v n (by omega) h2 hv0 hv1, and_mask _ n (by omega) h2 (by rw [IntKind.wrap_u64]; omega) (by rw [IntKind.wrap_u64]; omega)]
  obtain ⟨n, rfl⟩ := Int.eq_ofNat_of_zero_le (show 0 ≤ n by omega)
  rw [Int.toNat_natCast, IntKind.wrap_u64]
  unfold sgnF
  rw [Int.toNat_natCast]
  obtain ⟨p, hp⟩ : ∃ p : Int, p = 2 ^ (64 - n) := ⟨_, rfl⟩
  obtain ⟨q, hq⟩ : ∃ q : Int, q = 2 ^ (n - 1) := ⟨_, rfl⟩
  have hq0 : 0 < q := by rw [hq]; exact Int.pow_pos (by omega)
  have e2 : (2 : Int) ^ n = 2 * q := by rw [hq, show n = (n - 1) + 1 by omega, Int.pow_succ]; simp; omega
  have e1 : (18446744073709551616 : Int) = p * (2 * q) := by
    rw [← e2, hp, ← Int.pow_add, show 64 - n + n = 64 by omega]; rfl
  rw [← hq, e2, e1, Int.emod_emod_of_dvd _ (Int.dvd_mul_left _ _)]
  have hb := Int.emod_nonneg v (show 2 * q ≠ 0 by omega)
  have hb2 := Int.emod_lt_of_pos v (show 0 < 2 * q by omega)
  by_cases hr : v % (2 * q) < q
  · rw [if_pos hr, Int.emod_emod_of_dvd _ (Int.dvd_refl _)]
    omega
  · rw [if_neg hr, Int.sub_emod_right, Int.emod_emod_of_dvd _ (Int.dvd_refl _)]
    omega
theorem maskF_lt64 (n : Int) (h2 : n ≤ 63) : maskF n ≤ 9223372036854775807 := by
  unfold maskF
  have h3 : (2 : Nat) ^ 63 = 9223372036854775808 := by decide
  have := Nat.pow_le_pow_right (show 0 < 2 by omega) (show (min n 64).toNat ≤ 63 by omega)
  omega
/-! ### bits, one by one -/
theorem mod_succ (x i : Nat) : x % 2 ^ (i + 1) = x % 2 ^ i + 2 ^ i * (x.testBit i).toNat := by
  rw [Nat.pow_succ, Nat.mod_mul, Nat.testBit_eq_decide_div_mod_eq]
  congr 1
  congr 1
  have := Nat.mod_lt (x / 2 ^ i) (show 0 < 2 by omega)
  by_cases h : x / 2 ^ i % 2 = 1
  · simp [h]
  · simp [h]; omega
def bitB (x i : Int) : Bool := x.toNat.testBit i.toNat
/-- The lowest k bits set. -/
def accM (k : Nat) : Int := ((2 ^ k - 1 : Nat) : Int)
theorem accM_end (n : Int) (k : Nat) (h : (k : Int) ≤ n ∨ k = 0) (h' : n ≤ k ∨ k = 64) (h64 : (k : Int) ≤ 64) : accM k = maskF n := by
  unfold accM maskF
  rw [show (min n 64).toNat = k by omega]
theorem bit_eq (x i : Int) (hx0 : 0 ≤ x) (hx1 : x ≤ 18446744073709551615) : (bits BinOp.and IntKind.u64 (x / 2 ^ i.toNat) 1 == 1) = bitB x i := by
  obtain ⟨x, rfl⟩ := Int.eq_ofNat_of_zero_le hx0
  unfold bitB
  have h : x / 2 ^ i.toNat ≤ x := Nat.div_le_self _ _
  rw [← two_pow_cast, ← Int.natCast_ediv, show (1 : Int) = ((1 : Nat) : Int) from rfl, u64_and_nat _ _ (by omega) (by omega), Int.toNat_natCast, Nat.and_one_is_mod, Nat.testBit_eq_decide_div_mod_eq, Bool.eq_iff_iff]
  simp only [beq_iff_eq, decide_eq_true_eq]
  omega
theorem pow_lt_64 {k : Nat} (h : k < 64) : 2 ^ k * 2 ≤ 18446744073709551616 := by
  rw [← Nat.pow_succ]; exact pow_le_64 (by omega)
theorem wrap_pow {k : Nat} (h : k < 64) : IntKind.u64.wrap (2 ^ k) = ((2 ^ k : Nat) : Int) := by
  have := pow_lt_64 h
  rw [← two_pow_cast, IntKind.wrap_u64, Int.emod_eq_of_lt (by omega) (by omega)]
theorem accM_succ (k : Nat) (h : k < 64) : IntKind.u64.wrap (accM k + IntKind.u64.wrap (2 ^ k)) = accM (k + 1) := by
  have h1 := pow_lt_64 h
  have h2 := Nat.two_pow_pos k
  unfold accM
  rw [wrap_pow h, IntKind.wrap_u64, Int.emod_eq_of_lt (by omega) (by omega), Nat.pow_succ]
  omega
/-- The lowest k bits of T. -/
def accT (T k : Nat) : Int := ((T % 2 ^ k : Nat) : Int)
theorem accT_zero (T : Nat) : accT T 0 = 0 := by unfold accT; rw [Nat.pow_zero, Nat.mod_one]; rfl
theorem accT_yes (T k : Nat) (h : k < 64) (hb : T.testBit k = true) : IntKind.u64.wrap (accT T k + IntKind.u64.wrap (2 ^ k)) = accT T (k + 1) := by
  have h1 := pow_lt_64 h
  have h2 := Nat.mod_lt T (Nat.two_pow_pos k)
  unfold accT
  rw [wrap_pow h, IntKind.wrap_u64, Int.emod_eq_of_lt (by omega) (by omega), mod_succ, hb]
  simp
theorem accT_no (T k : Nat) (hb : T.testBit k = false) : accT T k = accT T (k + 1) := by
  unfold accT
  rw [mod_succ, hb]
  simp
theorem accT_end (T k : Nat) (h : T < 2 ^ k) : accT T k = T := by
  unfold accT
  rw [Nat.mod_eq_of_lt h]
theorem bit_get (x a n : Int) (k : Nat) (h0 : 0 ≤ a) (hk : (k : Int) < n) : (getN x.toNat a.toNat n.toNat).testBit k = bitB x (a + k) := by
  rw [testBit_getN]
  unfold bitB
  rw [show (a + k).toNat = a.toNat + k by omega]
  simp; omega
theorem bit_put_in (x a n v : Int) (k : Nat) (h0 : 0 ≤ a) (h1 : 1 ≤ n) (h2 : n ≤ 64 - a) (hx1 : x ≤ 18446744073709551615) (hf : fitsB v n = true) (i1 : a ≤ k) (i2 : (k : Int) < a + n) :
    (putN x.toNat a.toNat n.toNat v.toNat).testBit k = bitB v (k - a) := by
  rw [testBit_putN _ _ _ _ _ (by omega) (by omega) (fits_lt hf (by omega)), if_pos (by omega)]
  unfold bitB
  rw [show ((k : Int) - a).toNat = k - a.toNat by omega]
theorem bit_put_out (x a n v : Int) (k : Nat) (h0 : 0 ≤ a) (h1 : 1 ≤ n) (h2 : n ≤ 64 - a) (hx1 : x ≤ 18446744073709551615) (hf : fitsB v n = true) (i1 : ¬ (a ≤ k ∧ (k : Int) < a + n)) :
    (putN x.toNat a.toNat n.toNat v.toNat).testBit k = bitB x k := by
  rw [testBit_putN _ _ _ _ _ (by omega) (by omega) (fits_lt hf (by omega)), if_neg (by omega)]
  unfold bitB
  rw [Int.toNat_natCast]
/-- None of the lowest k bits of v stands at n or beyond. -/
def clearTo (v n : Int) (k : Nat) : Prop := ∀ j : Nat, j < k → n ≤ j → bitB v j = false
theorem clearTo_succ {v n : Int} {k : Nat} (h : clearTo v n k) (hb : n ≤ k → bitB v k = false) : clearTo v n (k + 1) := by
  intro j hj hn
  by_cases e : j = k
  · subst e; exact hb hn
  · exact h j (by omega) hn
theorem fits_of_clear {v n : Int} (hv0 : 0 ≤ v) (hv1 : v ≤ 18446744073709551615) (h : clearTo v n 64) : fitsB v n = true := by
  obtain ⟨v, rfl⟩ := Int.eq_ofNat_of_zero_le hv0
  have : v < 2 ^ (min n 64).toNat := by
    apply Nat.lt_pow_two_of_testBit
    intro i hi
    by_cases h4 : i < 64
    · have := h i h4 (by omega)
      unfold bitB at this
      simpa using this
    · exact Nat.testBit_lt_two_pow (Nat.lt_of_lt_of_le (show v < 2 ^ 64 by have := p64; omega) (Nat.pow_le_pow_right (show 0 < 2 by omega) (by omega)))
  unfold fitsB maskF
  simp only [decide_eq_true_eq]
  omega
theorem unfit_of_bit {v n : Int} {k : Nat} (hk : k < 64) (hn : n ≤ k) (hb : bitB v k = true) : fitsB v n = false := by
  cases hf : fitsB v n
  · rfl
  · exfalso
    have hh : v ≤ maskF n := by simpa [fitsB] using hf
    unfold maskF at hh
    have h1 : v.toNat < 2 ^ (min n 64).toNat := by have := Nat.two_pow_pos (min n 64).toNat; omega
    have h2 := Nat.testBit_lt_two_pow (Nat.lt_of_lt_of_le h1 (Nat.pow_le_pow_right (show 0 < 2 by omega) (show (min n 64).toNat ≤ k by omega)))
    unfold bitB at hb
    rw [Int.toNat_natCast] at hb
    rw [h2] at hb
    cases hb
theorem sgn_low (v n : Int) (h1 : 1 ≤ n) (hv0 : 0 ≤ v) : v % 2 ^ n.toNat = v % 2 ^ (n - 1).toNat + if bitB v (n - 1) = true then 2 ^ (n - 1).toNat else 0 := by
  obtain ⟨v, rfl⟩ := Int.eq_ofNat_of_zero_le hv0
  unfold bitB
  rw [show n.toNat = (n - 1).toNat + 1 by omega, ← two_pow_cast, ← two_pow_cast, ← Int.natCast_emod, ← Int.natCast_emod, mod_succ, Int.toNat_natCast]
  cases v.testBit (n - 1).toNat <;> simp
theorem pow_le_63 {k : Nat} (h : k ≤ 63) : (2 : Int) ^ k ≤ 9223372036854775808 := by
  have h3 : (2 : Nat) ^ 63 = 9223372036854775808 := by decide
  have := Nat.pow_le_pow_right (show 0 < 2 by omega) h
  rw [← two_pow_cast]; omega
theorem sgn_no (v n : Int) (h1 : 1 ≤ n) (h2 : n ≤ 64) (hv0 : 0 ≤ v) (hv1 : v ≤ 18446744073709551615) (hb : bitB v (n - 1) = false) :
    wrap64 (bits BinOp.and IntKind.u64 v (maskF (n - 1))) = sgnF v n := by
  have hl := sgn_low v n h1 hv0
  rw [hb] at hl
  have hp := pow_le_63 (k := (n - 1).toNat) (by omega)
  have hp0 : (0 : Int) < 2 ^ (n - 1).toNat := Int.pow_pos (by omega)
  have ha := Int.emod_nonneg v (show (2 : Int) ^ (n - 1).toNat ≠ 0 by omega)
  have hc := Int.emod_lt_of_pos v hp0
  rw [and_mask v _ (by omega) (by omega) hv0 hv1]
  unfold sgnF
  rw [show n.toNat - 1 = (n - 1).toNat by omega, hl]
  simp only [Bool.false_eq_true, if_false, Int.add_zero]
  rw [if_pos hc, IntWalk.wrap64_in _ (by omega)]
theorem sgn_yes (v n : Int) (h1 : 1 ≤ n) (h2 : n ≤ 64) (hv0 : 0 ≤ v) (hv1 : v ≤ 18446744073709551615) (hb : bitB v (n - 1) = true) :
    wrap64 (wrap64 (bits BinOp.and IntKind.u64 v (maskF (n - 1))) - wrap64 (2 ^ (n - 1).toNat)) = sgnF v n := by
  have hl := sgn_low v n h1 hv0
  rw [hb] at hl
  have hp := pow_le_63 (k := (n - 1).toNat) (by omega)
  have hp0 : (0 : Int) < 2 ^ (n - 1).toNat := Int.pow_pos (by omega)
  have ha := Int.emod_nonneg v (show (2 : Int) ^ (n - 1).toNat ≠ 0 by omega)
  have hc := Int.emod_lt_of_pos v hp0
  rw [and_mask v _ (by omega) (by omega) hv0 hv1]
  unfold sgnF
  have e2 : (2 : Int) ^ n.toNat = 2 * 2 ^ (n - 1).toNat := by rw [show n.toNat = (n - 1).toNat + 1 by omega, Int.pow_succ]; omega
  rw [show n.toNat - 1 = (n - 1).toNat by omega, hl, e2]
  simp only [if_true]
  rw [if_neg (by omega)]
  unfold wrap64
  omega
theorem join_eq (h l : Int) (h0 : 0 ≤ h) (h1 : h ≤ 4294967295) (l0 : 0 ≤ l) (l1 : l ≤ 4294967295) : bits BinOp.or IntKind.u64 (h * 4294967296) l = h * 4294967296 + l := by
  obtain ⟨h, rfl⟩ := Int.eq_ofNat_of_zero_le h0
  obtain ⟨l, rfl⟩ := Int.eq_ofNat_of_zero_le l0
  rw [show (h : Int) * 4294967296 = ((h * 4294967296 : Nat) : Int) by omega, u64_or_nat _ _ (by omega) (by omega), nat_join 32 _ _ (by omega) (by omega)]
  omega
end M
end Go.Proofs.YtkodanflobclhaaDoor.Pfield
