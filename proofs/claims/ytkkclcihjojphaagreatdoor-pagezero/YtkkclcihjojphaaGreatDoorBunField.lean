import Derived.WalkKit
import Derived.Laws.BitsAllLaws
import Derived.Test.YtkkclcihjojphaaGreatDoorRows
import Derived.ProofKit
import Derived.OpenShut
import Derived.Outline
import Derived.Deep.QuietTactic
import Derived.BigQuiet
import Derived.RangeFuncNested
import Derived.RangeFuncLeaves
import Derived.RangeFuncCalls
import Derived.Sort.BigQuietIn
import Derived.RangeFuncBound
import Derived.RangeFuncBox
import Derived.Shelf.Abstract
import Derived.OwnWalkIn
import Derived.TacticsInMore
import Derived.LoopNIn
import Derived.LoopIn
import Derived.Maps.AppendAt
import Derived.OwnWalk
set_option linter.unusedVariables false
set_option linter.unusedSimpArgs false
set_option maxRecDepth 100000
set_option maxHeartbeats 20000000
namespace Go.Proofs.YtkkclcihjojphaaGreatDoor
namespace Pfield
open Go.RowKit
namespace M
def getN (x a n : Nat) : Nat := x / 2 ^ a % 2 ^ n
def putN (x a n v : Nat) : Nat := (x &&& (18446744073709551615 - (2 ^ n - 1) * 2 ^ a)) ||| v * 2 ^ a
theorem testBit_getN (x a n i : Nat) : (getN x a n).testBit i = (decide (i < n) && x.testBit (a + i)) := by
 unfold getN
 rw [Nat.testBit_mod_two_pow, Nat.testBit_div_two_pow, Nat.add_comm]
theorem p64 : (2 : Nat) ^ 64 = 18446744073709551616 := by decide
theorem getN_lt (x a n : Nat) : getN x a n < 2 ^ n := Nat.mod_lt _ (Nat.two_pow_pos n)
theorem mask_lt {a n : Nat} (h : a + n <= 64) : (2 ^ n - 1) * 2 ^ a <= 18446744073709551615 := by
 have h1 : (2 ^ n - 1) * 2 ^ a < 2 ^ n * 2 ^ a := Nat.mul_lt_mul_of_pos_right (by have := Nat.two_pow_pos n; omega) (Nat.two_pow_pos a)
 have h2 : 2 ^ n * 2 ^ a <= 2 ^ 64 := by rw [<- Nat.pow_add]; exact Nat.pow_le_pow_right (by omega) (by omega)
 have h3 : (2 : Nat) ^ 64 = 18446744073709551616 := by decide
 omega
theorem shl_lt {a n v : Nat} (h : a + n <= 64) (hv : v < 2 ^ n) : v * 2 ^ a <= 18446744073709551615 := by
 have h1 : v * 2 ^ a <= (2 ^ n - 1) * 2 ^ a := Nat.mul_le_mul_right _ (by omega)
 exact Nat.le_trans h1 (mask_lt h)
theorem testBit_mask (a n i : Nat) : ((2 ^ n - 1) * 2 ^ a).testBit i = (decide (a <= i) && decide (i < a + n)) := by
 rw [Nat.mul_comm, Nat.testBit_two_pow_mul, Nat.testBit_two_pow_sub_one]
 by_cases h : a <= i
 · simp [h]; omega
 · simp [h]
theorem testBit_putN (x a n v i : Nat) (h : a + n <= 64) (hx : x <= 18446744073709551615) (hv : v < 2 ^ n) :
 (putN x a n v).testBit i = if a <= i /\ i < a + n then v.testBit (i - a) else x.testBit i := by
 have hm := mask_lt h
 have e : 18446744073709551615 - (2 ^ n - 1) * 2 ^ a = 2 ^ 64 - ((2 ^ n - 1) * 2 ^ a + 1) := by
  have h3 : (2 : Nat) ^ 64 = 18446744073709551616 := by decide
  omega
 unfold putN
 rw [Nat.testBit_or, Nat.testBit_and, e, Nat.testBit_two_pow_sub_succ (by have := p64; omega), testBit_mask, Nat.mul_comm v, Nat.testBit_two_pow_mul]
 by_cases h1 : a <= i
 · by_cases h2 : i < a + n
   · simp [h1, h2]
   · have h3 : v.testBit (i - a) = false := Nat.testBit_lt_two_pow (Nat.lt_of_lt_of_le hv (Nat.pow_le_pow_right (by omega) (by omega)))
     by_cases h4 : i < 64
     · simp [h1, h2, h3, h4]
     · have h5 : x.testBit i = false := Nat.testBit_lt_two_pow (Nat.lt_of_lt_of_le (show x < 2 ^ 64 by have := p64; omega) (Nat.pow_le_pow_right (by omega) (by omega)))
       simp [h1, h2, h3, h5]
 · have h4 : i < 64 := by omega
   simp [h1, h4]
theorem putN_le (x a n v : Nat) (h : a + n <= 64) (hx : x <= 18446744073709551615) (hv : v < 2 ^ n) : putN x a n v <= 18446744073709551615 := by
 have h3 : (2 : Nat) ^ 64 = 18446744073709551616 := by decide
 have h1 : putN x a n v < 2 ^ 64 := Nat.or_lt_two_pow (Nat.lt_of_le_of_lt Nat.and_le_left (by omega)) (by have := shl_lt h hv; omega)
 omega
theorem get_put (x a n v : Nat) (h : a + n <= 64) (hx : x <= 18446744073709551615) (hv : v < 2 ^ n) : getN (putN x a n v) a n = v := by
 apply Nat.eq_of_testBit_eq
 intro i
 rw [testBit_getN, testBit_putN x a n v _ h hx hv]
 by_cases h1 : i < n
 · simp [h1]
 · simp [h1]
   exact Nat.testBit_lt_two_pow (Nat.lt_of_lt_of_le hv (Nat.pow_le_pow_right (show 0 < 2 by omega) (Nat.le_of_not_lt h1)))
theorem get_put_other (x a n v f k : Nat) (h : a + n <= 64) (hx : x <= 18446744073709551615) (hv : v < 2 ^ n) (hd : f + k <= a \/ a + n <= f) :
 getN (putN x a n v) f k = getN x f k := by
 apply Nat.eq_of_testBit_eq
 intro i
 rw [testBit_getN, testBit_getN, testBit_putN x a n v _ h hx hv]
 by_cases h1 : i < k
 · rw [if_neg (by omega)]
 · simp [h1]
def getF (x a n : Int) : Int := (getN x.toNat a.toNat n.toNat : Nat)
def maskF (n : Int) : Int := ((2 ^ (min n 64).toNat - 1 : Nat) : Int)
def fitsB (v n : Int) : Bool := decide (v <= maskF n)
def inB (a n : Int) : Bool := decide (0 <= a /\ 1 <= n /\ n <= 64 - a)
def putF (x a n v : Int) : Int := (putN x.toNat a.toNat n.toNat v.toNat : Nat)
theorem inB_iff (a n : Int) : inB a n = true ↔ (0 <= a /\ 1 <= n /\ n <= 64 - a) := by simp [inB]
theorem pow_le_64 {k : Nat} (h : k <= 64) : 2 ^ k <= 18446744073709551616 := by
 have h3 : (2 : Nat) ^ 64 = 18446744073709551616 := by decide
 rw [<- h3]; exact Nat.pow_le_pow_right (by omega) h
theorem maskF_bd (n : Int) : 0 <= maskF n /\ maskF n <= 18446744073709551615 := by
 have := pow_le_64 (k := (min n 64).toNat) (by omega)
 unfold maskF; omega
theorem getF_bd (x a n : Int) (h2 : n <= 64) : 0 <= getF x a n /\ getF x a n <= 18446744073709551615 := by
 have h := getN_lt x.toNat a.toNat n.toNat
 have := pow_le_64 (k := n.toNat) (by omega)
 unfold getF; omega
theorem fits_lt {v n : Int} (h : fitsB v n = true) (h2 : n <= 64) : v.toNat < 2 ^ n.toNat := by
 have hh : v <= maskF n := by simpa [fitsB] using h
 unfold maskF at hh
 rw [show min n 64 = n by omega] at hh
 have := Nat.two_pow_pos n.toNat
 omega
theorem putF_bd (x a n v : Int) (h0 : 0 <= a) (h1 : 1 <= n) (h2 : n <= 64 - a) (hx1 : x <= 18446744073709551615) (hv : fitsB v n = true) :
 0 <= putF x a n v /\ putF x a n v <= 18446744073709551615 := by
 have h := putN_le x.toNat a.toNat n.toNat v.toNat (by omega) (by omega) (fits_lt hv (by omega))
 unfold putF; omega
theorem cut_nat (x a n : Nat) (h : a + n <= 64) : x * 2 ^ (64 - a - n) % 18446744073709551616 / 2 ^ (64 - n) = getN x a n := by
 unfold getN
 have e1 : 18446744073709551616 = 2 ^ (a + n) * 2 ^ (64 - a - n) := by
  rw [<- Nat.pow_add, show a + n + (64 - a - n) = 64 by omega]
 have e2 : 64 - n = (64 - a - n) + a := by omega
 rw [e1, Nat.mul_mod_mul_right, e2, Nat.pow_add 2 (64 - a - n) a, <- Nat.div_div_eq_div_mul, Nat.mul_div_cancel _ (Nat.two_pow_pos _), Nat.pow_add, Nat.mod_mul_right_div_self]
theorem two_pow_cast (k : Nat) : ((2 ^ k : Nat) : Int) = 2 ^ k := by norm_cast
theorem cut_eq (x a n : Int) (h0 : 0 <= a) (h1 : 1 <= n) (h2 : n <= 64 - a) (hx : 0 <= x) :
 IntKind.u64.wrap (x * 2 ^ (64 - a - n).toNat) / 2 ^ (64 - n).toNat = getF x a n := by
 obtain ⟨x, rfl⟩ := Int.eq_ofNat_of_zero_le hx
 obtain ⟨a, rfl⟩ := Int.eq_ofNat_of_zero_le h0
 obtain ⟨n, rfl⟩ := Int.eq_ofNat_of_zero_le (show 0 <= n by omega)
 have h := cut_nat x a n (by omega)
 unfold getF
 rw [IntKind.wrap_u64, show (64 - (a : Int) - (n : Int)).toNat = 64 - a - n by omega, show (64 - (n : Int)).toNat = 64 - n by omega, <- two_pow_cast, <- two_pow_cast]
 rw [Int.toNat_natCast, Int.toNat_natCast, Int.toNat_natCast, <- h]
 rfl
theorem getF_all (n : Int) (h1 : 1 <= n) (h2 : n <= 64) : getF 18446744073709551615 0 n = maskF n := by
 unfold getF maskF getN
 rw [show min n 64 = n by omega]
 have e : (18446744073709551615 : Int).toNat = 2 ^ 64 - 1 := by decide
 rw [e]
 have : (2 ^ 64 - 1) / 2 ^ (0 : Int).toNat % 2 ^ n.toNat = 2 ^ n.toNat - 1 := by
  simp only [Int.toNat_zero, Nat.pow_zero, Nat.div_one]
  apply Nat.eq_of_testBit_eq
  intro i
  rw [Nat.testBit_mod_two_pow, Nat.testBit_two_pow_sub_one, Nat.testBit_two_pow_sub_one]
  by_cases h : i < n.toNat
  · simp [h]; omega
  · simp [h]
 rw [this]
theorem mask_eq (n : Int) (h1 : 1 <= n) (h2 : n <= 64) :
 IntKind.u64.wrap (18446744073709551615 * 2 ^ (64 - n).toNat) / 2 ^ (64 - n).toNat = maskF n := by
 have h := cut_eq 18446744073709551615 0 n (by omega) h1 (by omega) (by omega)
 rw [getF_all n h1 h2] at h
 rw [<- h, show 64 - (0 : Int) - n = 64 - n by omega]
theorem maskF_low (n : Int) (h : n < 1) : maskF n = 0 := by
 unfold maskF
 rw [show (min n 64).toNat = 0 by omega]; rfl
theorem maskF_high (n : Int) (h : 64 <= n) : maskF n = maskF 64 := by
 unfold maskF
 rw [show min n 64 = min 64 64 by omega]
theorem fits_eq (x n : Int) (hx0 : 0 <= x) (hx1 : x <= 18446744073709551615) : (bits BinOp.andNot IntKind.u64 x (maskF n) == 0) = fitsB x n := by
 have hm := maskF_bd n
 obtain ⟨x, rfl⟩ := Int.eq_ofNat_of_zero_le hx0
 rw [u64_andNot _ _ (by omega) (by omega) (by omega) (by omega)]
 unfold fitsB maskF
 obtain ⟨k, hk⟩ : ∃ k : Nat, k = (min n 64).toNat := ⟨_, rfl⟩
 rw [<- hk, Int.toNat_natCast, Int.toNat_natCast]
 have hp := pow_le_64 (k := k) (by omega)
 have hp0 := Nat.two_pow_pos k
 have e : 18446744073709551615 - (2 ^ k - 1) = 2 ^ 64 - ((2 ^ k - 1) + 1) := by have := p64; omega
 rw [e, Bool.eq_iff_iff]
 simp only [beq_iff_eq, decide_eq_true_eq]
 constructor
 · intro h
   have h' : x &&& (2 ^ 64 - ((2 ^ k - 1) + 1)) = 0 := by omega
   have : x < 2 ^ k := by
    apply Nat.lt_pow_two_of_testBit
    intro i hi
    have hb := congrArg (fun t => t.testBit i) h'
    simp only [Nat.testBit_and, Nat.zero_testBit] at hb
    rw [Nat.testBit_two_pow_sub_succ (by have := p64; omega), Nat.testBit_two_pow_sub_one] at hb
    by_cases h4 : i < 64
    · simpa [h4, show ¬ i < k by omega] using hb
    · exact Nat.testBit_lt_two_pow (Nat.lt_of_lt_of_le (show x < 2 ^ 64 by have := p64; omega) (Nat.pow_le_pow_right (show 0 < 2 by omega) (by omega)))
   omega
 · intro h
   have h1 : x < 2 ^ k := by omega
   have h2 : x &&& (2 ^ 64 - ((2 ^ k - 1) + 1)) = 0 := by
    apply Nat.eq_of_testBit_eq
    intro i
    rw [Nat.testBit_and, Nat.testBit_two_pow_sub_succ (by have := p64; omega), Nat.testBit_two_pow_sub_one, Nat.zero_testBit]
    by_cases hi : i < k
    · simp [hi]
    · rw [Nat.testBit_lt_two_pow (Nat.lt_of_lt_of_le h1 (Nat.pow_le_pow_right (show 0 < 2 by omega) (Nat.le_of_not_lt hi)))]
      simp
   rw [h2]; rfl
theorem put_eq (x a n v : Int) (h0 : 0 <= a) (h1 : 1 <= n) (h2 : n <= 64 - a) (hx0 : 0 <= x) (hx1 : x <= 18446744073709551615) (hv0 : 0 <= v) (hf : fitsB v n = true) :
 bits BinOp.or IntKind.u64 (bits BinOp.andNot IntKind.u64 x (IntKind.u64.wrap (maskF n * 2 ^ a.toNat))) (IntKind.u64.wrap (v * 2 ^ a.toNat)) = putF x a n v := by
 have hl := fits_lt hf (by omega)
 obtain ⟨x, rfl⟩ := Int.eq_ofNat_of_zero_le hx0
 obtain ⟨v, rfl⟩ := Int.eq_ofNat_of_zero_le hv0
 obtain ⟨a, rfl⟩ := Int.eq_ofNat_of_zero_le h0
 obtain ⟨n, rfl⟩ := Int.eq_ofNat_of_zero_le (show 0 <= n by omega)
 have hm := mask_lt (a := a) (n := n) (by omega)
 have hs := shl_lt (a := a) (n := n) (v := v) (by omega) (by simpa using hl)
 unfold putF putN maskF
 rw [show (min (n : Int) 64).toNat = n by omega]
 simp only [Int.toNat_natCast]
 rw [show (((2 ^ n - 1 : Nat) : Int) * 2 ^ a) = (((2 ^ n - 1) * 2 ^ a : Nat) : Int) by rw [Int.natCast_mul, two_pow_cast],
  show ((v : Int) * 2 ^ a) = ((v * 2 ^ a : Nat) : Int) by rw [Int.natCast_mul, two_pow_cast], IntKind.wrap_u64, IntKind.wrap_u64,
  Int.emod_eq_of_lt (by omega) (by omega), Int.emod_eq_of_lt (by omega) (by omega), u64_andNot_nat _ _ (by omega) (by omega), u64_or_nat _ _ (Nat.lt_of_le_of_lt Nat.and_le_left (by omega)) (by omega)]
theorem getF_put (x a n v : Int) (h0 : 0 <= a) (h1 : 1 <= n) (h2 : n <= 64 - a) (hx1 : x <= 18446744073709551615) (hv0 : 0 <= v) (hf : fitsB v n = true) : getF (putF x a n v) a n = v := by
 unfold getF putF
 rw [Int.toNat_natCast, get_put _ _ _ _ (by omega) (by omega) (fits_lt hf (by omega))]
 omega
theorem getF_put_other (x a n v f k : Int) (h0 : 0 <= a) (h1 : 1 <= n) (h2 : n <= 64 - a) (hx1 : x <= 18446744073709551615) (hf : fitsB v n = true)
 (g0 : 0 <= f) (g1 : 1 <= k) (hd : f + k <= a \/ a + n <= f) : getF (putF x a n v) f k = getF x f k := by
 unfold getF putF
 rw [Int.toNat_natCast, get_put_other _ _ _ _ _ _ (by omega) (by omega) (fits_lt hf (by omega)) (by omega)]
theorem mod_succ (x i : Nat) : x % 2 ^ (i + 1) = x % 2 ^ i + 2 ^ i * (x.testBit i).toNat := by
 rw [Nat.pow_succ, Nat.mod_mul, Nat.testBit_eq_decide_div_mod_eq]
 congr 1
 congr 1
 have := Nat.mod_lt (x / 2 ^ i) (show 0 < 2 by omega)
 by_cases h : x / 2 ^ i % 2 = 1
 · simp [h]
 · simp [h]; omega
def bitB (x i : Int) : Bool := x.toNat.testBit i.toNat
theorem bit_eq (x i : Int) (hx0 : 0 <= x) (hx1 : x <= 18446744073709551615) : (bits BinOp.and IntKind.u64 (x / 2 ^ i.toNat) 1 == 1) = bitB x i := by
 obtain ⟨x, rfl⟩ := Int.eq_ofNat_of_zero_le hx0
 unfold bitB
 have h : x / 2 ^ i.toNat <= x := Nat.div_le_self _ _
 rw [<- two_pow_cast, <- Int.natCast_ediv, show (1 : Int) = ((1 : Nat) : Int) from rfl, u64_and_nat _ _ (by omega) (by omega), Int.toNat_natCast, Nat.and_one_is_mod, Nat.testBit_eq_decide_div_mod_eq, Bool.eq_iff_iff]
 simp only [beq_iff_eq, decide_eq_true_eq]
 omega
theorem pow_lt_64 {k : Nat} (h : k < 64) : 2 ^ k * 2 <= 18446744073709551616 := by
 rw [<- Nat.pow_succ]; exact pow_le_64 (by omega)
theorem wrap_pow {k : Nat} (h : k < 64) : IntKind.u64.wrap (2 ^ k) = ((2 ^ k : Nat) : Int) := by
 have := pow_lt_64 h
 rw [<- two_pow_cast, IntKind.wrap_u64, Int.emod_eq_of_lt (by omega) (by omega)]
def accT (T k : Nat) : Int := ((T % 2 ^ k : Nat) : Int)
theorem accT_zero (T : Nat) : accT T 0 = 0 := by unfold accT; rw [Nat.pow_zero, Nat.mod_one]; rfl
theorem accT_yes (T k : Nat) (h : k < 64) (hb : T.testBit k = true) : IntKind.u64.wrap (accT T k + IntKind.u64.wrap (2 ^ k)) = accT T (k + 1) := by
 have h1 := pow_lt_64 h
 have h2 := Nat.mod_lt T (Nat.two_pow_pos k)
 unfold accT
 rw [wrap_pow h, IntKind.wrap_u64, Int.emod_eq_of_lt (by omega) (by omega), mod_succ, hb]
 simp
theorem accT_no (T k : Nat) (hb : T.testBit k = false) : accT T k = accT T (k + 1) := by
 unfold accT
 rw [mod_succ, hb]
 simp
theorem accT_end (T k : Nat) (h : T < 2 ^ k) : accT T k = T := by
 unfold accT
 rw [Nat.mod_eq_of_lt h]
theorem bit_get (x a n : Int) (k : Nat) (h0 : 0 <= a) (hk : (k : Int) < n) : (getN x.toNat a.toNat n.toNat).testBit k = bitB x (a + k) := by
 rw [testBit_getN]
 unfold bitB
 rw [show (a + k).toNat = a.toNat + k by omega]
 simp; omega
theorem bit_put_in (x a n v : Int) (k : Nat) (h0 : 0 <= a) (h1 : 1 <= n) (h2 : n <= 64 - a) (hx1 : x <= 18446744073709551615) (hf : fitsB v n = true) (i1 : a <= k) (i2 : (k : Int) < a + n) :
 (putN x.toNat a.toNat n.toNat v.toNat).testBit k = bitB v (k - a) := by
 rw [testBit_putN _ _ _ _ _ (by omega) (by omega) (fits_lt hf (by omega)), if_pos (by omega)]
 unfold bitB
 rw [show ((k : Int) - a).toNat = k - a.toNat by omega]
theorem bit_put_out (x a n v : Int) (k : Nat) (h0 : 0 <= a) (h1 : 1 <= n) (h2 : n <= 64 - a) (hx1 : x <= 18446744073709551615) (hf : fitsB v n = true) (i1 : ¬ (a <= k /\ (k : Int) < a + n)) :
 (putN x.toNat a.toNat n.toNat v.toNat).testBit k = bitB x k := by
 rw [testBit_putN _ _ _ _ _ (by omega) (by omega) (fits_lt hf (by omega)), if_neg (by omega)]
 unfold bitB
 rw [Int.toNat_natCast]
def clearTo (v n : Int) (k : Nat) : Prop := ∀ j : Nat, j < k -> n <= j -> bitB v j = false
theorem clearTo_succ {v n : Int} {k : Nat} (h : clearTo v n k) (hb : n <= k -> bitB v k = false) : clearTo v n (k + 1) := by
 intro j hj hn
 by_cases e : j = k
 · subst e; exact hb hn
 · exact h j (by omega) hn
theorem fits_of_clear {v n : Int} (hv0 : 0 <= v) (hv1 : v <= 18446744073709551615) (h : clearTo v n 64) : fitsB v n = true := by
 obtain ⟨v, rfl⟩ := Int.eq_ofNat_of_zero_le hv0
 have : v < 2 ^ (min n 64).toNat := by
  apply Nat.lt_pow_two_of_testBit
  intro i hi
  by_cases h4 : i < 64
  · have := h i h4 (by omega)
    unfold bitB at this
    simpa using this
  · exact Nat.testBit_lt_two_pow (Nat.lt_of_lt_of_le (show v < 2 ^ 64 by have := p64; omega) (Nat.pow_le_pow_right (show 0 < 2 by omega) (by omega)))
 unfold fitsB maskF
 simp only [decide_eq_true_eq]
 omega
theorem unfit_of_bit {v n : Int} {k : Nat} (hk : k < 64) (hn : n <= k) (hb : bitB v k = true) : fitsB v n = false := by
 cases hf : fitsB v n
 · rfl
 · exfalso
   have hh : v <= maskF n := by simpa [fitsB] using hf
   unfold maskF at hh
   have h1 : v.toNat < 2 ^ (min n 64).toNat := by have := Nat.two_pow_pos (min n 64).toNat; omega
   have h2 := Nat.testBit_lt_two_pow (Nat.lt_of_lt_of_le h1 (Nat.pow_le_pow_right (show 0 < 2 by omega) (show (min n 64).toNat <= k by omega)))
   unfold bitB at hb
   rw [Int.toNat_natCast] at hb
   rw [h2] at hb
   cases hb
end M
end Pfield
namespace Pfield
open Go.RowKit M
theorem ret_int {k : IntKind} {a b : Int} (h : a = b) : Ending.returned (.int k a) = .returned (.int k b) := by rw [h]
theorem ret_two {k k' : IntKind} {a b c : Int} (h : a = b) : Ending.returned (.tuple #[.int k a, .int k' c]) = .returned (.tuple #[.int k b, .int k' c]) := by rw [h]
theorem inWord_yes (a n : Int) (w : World) (h0 : 0 <= a) (h1 : 1 <= n) (h2 : n <= 64 - a) :
 Calls Tryz.prog 262 #[.int .i64 a, .int .i64 n] w fun e w' => e = .returned (.bool true) /\ w' = w := by
 go_enter Tryz.func262, Tryz.ntmps262
 go_wp2
 go_ret
 exact ⟨rfl, rfl⟩
theorem inWord_no (a n : Int) (w : World) (h : ¬ (0 <= a /\ 1 <= n /\ n <= 64 - a)) (ha : a <= 9223372036854775807) :
 Calls Tryz.prog 262 #[.int .i64 a, .int .i64 n] w fun e w' => e = .returned (.bool false) /\ w' = w := by
 by_cases h0 : 0 <= a
 · by_cases h1 : 1 <= n
   · have h2 : ¬ n <= 64 - a := by omega
     clear h
     go_enter Tryz.func262, Tryz.ntmps262
     go_wp2
     go_ret
     exact ⟨rfl, rfl⟩
   · clear h
     go_enter Tryz.func262, Tryz.ntmps262
     go_wp2
     go_ret
     exact ⟨rfl, rfl⟩
 · clear h
   go_enter Tryz.func262, Tryz.ntmps262
   go_wp2
   go_ret
   exact ⟨rfl, rfl⟩
theorem cut_any (x a n : Int) (w : World) (h0 : 0 <= a) (h1 : 1 <= n) (h2 : n <= 64 - a) (hx0 : 0 <= x) (hx1 : x <= 18446744073709551615) :
 Calls Tryz.prog 263 #[.int .u64 x, .int .i64 a, .int .i64 n] w fun e w' => e = .returned (.int .u64 (getF x a n)) /\ w' = w := by
 go_enter Tryz.func263, Tryz.ntmps263
 go_wp2
 go_ret
 exact ⟨ret_int (cut_eq x a n h0 h1 h2 hx0), rfl⟩
theorem mask_any (n : Int) (w : World) :
 Calls Tryz.prog 264 #[.int .i64 n] w fun e w' => e = .returned (.int .u64 (maskF n)) /\ w' = w := by
 by_cases h1 : n < 1
 · go_enter Tryz.func264, Tryz.ntmps264
   go_wp2
   go_ret
   exact ⟨ret_int (maskF_low n h1).symm, rfl⟩
 · by_cases h2 : n <= 64
   · go_enter Tryz.func264, Tryz.ntmps264
     go_wp2
     go_ret
     exact ⟨ret_int (mask_eq n (by omega) h2), rfl⟩
   · go_enter Tryz.func264, Tryz.ntmps264
     go_wp2
     go_ret
     refine ⟨ret_int ?_, rfl⟩
     rw [maskF_high n (by omega)]
     decide
theorem fits_any (x n : Int) (w : World) (hx0 : 0 <= x) (hx1 : x <= 18446744073709551615) :
 Calls Tryz.prog 225 #[.int .u64 x, .int .i64 n] w fun e w' => e = .returned (.bool (fitsB x n)) /\ w' = w := by
 have hm := maskF_bd n
 go_enter Tryz.func225, Tryz.ntmps225
 go_wp2_with (go_at_call 264; refine (mask_any _ _).mono ?_; rintro e w' ⟨rfl, rfl⟩)
 go_ret
 exact ⟨by rw [<- fits_eq x n hx0 hx1]; rfl, rfl⟩
theorem put_yes (x a n v : Int) (w : World) (h0 : 0 <= a) (h1 : 1 <= n) (h2 : n <= 64 - a) (hx0 : 0 <= x) (hx1 : x <= 18446744073709551615) (hv0 : 0 <= v) (hv1 : v <= 18446744073709551615) (hf : fitsB v n = true) :
 Calls Tryz.prog 260 #[.int .u64 x, .int .i64 a, .int .i64 n, .int .u64 v] w fun e w' => e = .returned (.tuple #[.int .u64 (putF x a n v), .int .i64 0]) /\ ∃ k, w' = w.drewN k := by
 have hm := maskF_bd n
 go_enter Tryz.func260, Tryz.ntmps260
 go_wp2_with (first
  | (go_at_call 262; refine (inWord_yes _ _ _ (by omega) (by omega) (by omega)).mono ?_; rintro e w' ⟨rfl, rfl⟩)
  | (go_at_call 225; refine (fits_any _ _ _ (by omega) (by omega)).mono ?_; rintro e w' ⟨rfl, rfl⟩))
 go_quiet ((go_at_call 264; exact Calls.quiet_of_same (mask_any _ _)))
 go_wp2
 go_ret2
 exact ⟨ret_two (put_eq x a n v h0 h1 h2 hx0 hx1 hv0 hf), nq, rfl⟩
theorem put_out (x a n v : Int) (w : World) (h : ¬ (0 <= a /\ 1 <= n /\ n <= 64 - a)) (ha : a <= 9223372036854775807) :
 Calls Tryz.prog 260 #[.int .u64 x, .int .i64 a, .int .i64 n, .int .u64 v] w fun e w' => e = .returned (.tuple #[.int .u64 0, .int .i64 1]) /\ w' = w := by
 have H : Hid (¬ (0 <= a /\ 1 <= n /\ n <= 64 - a)) := h
 clear h
 go_enter Tryz.func260, Tryz.ntmps260
 go_wp2_with (go_at_call 262; refine (inWord_no _ _ _ H.out ha).mono ?_; rintro e w' ⟨rfl, rfl⟩)
 go_ret2
 exact ⟨rfl, rfl⟩
theorem put_unfit (x a n v : Int) (w : World) (h0 : 0 <= a) (h1 : 1 <= n) (h2 : n <= 64 - a) (hv0 : 0 <= v) (hv1 : v <= 18446744073709551615) (hf : fitsB v n = false) :
 Calls Tryz.prog 260 #[.int .u64 x, .int .i64 a, .int .i64 n, .int .u64 v] w fun e w' => e = .returned (.tuple #[.int .u64 0, .int .i64 1]) /\ w' = w := by
 go_enter Tryz.func260, Tryz.ntmps260
 go_wp2_with (first
  | (go_at_call 262; refine (inWord_yes _ _ _ (by omega) (by omega) (by omega)).mono ?_; rintro e w' ⟨rfl, rfl⟩)
  | (go_at_call 225; refine (fits_any _ _ _ (by omega) (by omega)).mono ?_; rintro e w' ⟨rfl, rfl⟩))
 go_ret2
 exact ⟨rfl, rfl⟩
theorem get_yes (x a n : Int) (w : World) (h0 : 0 <= a) (h1 : 1 <= n) (h2 : n <= 64 - a) (hx0 : 0 <= x) (hx1 : x <= 18446744073709551615) :
 Calls Tryz.prog 224 #[.int .u64 x, .int .i64 a, .int .i64 n] w fun e w' => e = .returned (.tuple #[.int .u64 (getF x a n), .int .i64 0]) /\ w' = w := by
 go_enter Tryz.func224, Tryz.ntmps224
 go_wp2_with (first
  | (go_at_call 262; refine (inWord_yes _ _ _ (by omega) (by omega) (by omega)).mono ?_; rintro e w' ⟨rfl, rfl⟩)
  | (go_at_call 263; refine (cut_any _ _ _ _ (by omega) (by omega) (by omega) (by omega) (by omega)).mono ?_; rintro e w' ⟨rfl, rfl⟩))
 go_ret2
 exact ⟨rfl, rfl⟩
theorem get_no (x a n : Int) (w : World) (h : ¬ (0 <= a /\ 1 <= n /\ n <= 64 - a)) (ha : a <= 9223372036854775807) :
 Calls Tryz.prog 224 #[.int .u64 x, .int .i64 a, .int .i64 n] w fun e w' => e = .returned (.tuple #[.int .u64 0, .int .i64 1]) /\ w' = w := by
 have H : Hid (¬ (0 <= a /\ 1 <= n /\ n <= 64 - a)) := h
 clear h
 go_enter Tryz.func224, Tryz.ntmps224
 go_wp2_with (go_at_call 262; refine (inWord_no _ _ _ H.out ha).mono ?_; rintro e w' ⟨rfl, rfl⟩)
 go_ret2
 exact ⟨rfl, rfl⟩
theorem bit_any (x i : Int) (w : World) (h0 : 0 <= i) (h1 : i <= 63) (hx0 : 0 <= x) (hx1 : x <= 18446744073709551615) :
 Calls Tryz.prog 287 #[.int .u64 x, .int .i64 i] w fun e w' => e = .returned (.bool (bitB x i)) /\ w' = w := by
 go_enter Tryz.func287, Tryz.ntmps287
 go_wp2
 go_ret
 exact ⟨by rw [<- bit_eq x i hx0 hx1]; rfl, rfl⟩
theorem can_yes (a n : Int) (w : World) (h0 : 0 <= a) (h1 : 1 <= n) (h2 : n <= 64 - a) :
 Calls Tryz.prog 286 #[.int .i64 a, .int .i64 n] w fun e w' => e = .returned (.bool true) /\ w' = w := by
 have h3 : a <= 64 - n := by omega
 go_enter Tryz.func286, Tryz.ntmps286
 go_wp2
 go_ret
 exact ⟨rfl, rfl⟩
theorem can_no (a n : Int) (w : World) (h : ¬ (0 <= a /\ 1 <= n /\ n <= 64 - a)) (ha : a <= 9223372036854775807) :
 Calls Tryz.prog 286 #[.int .i64 a, .int .i64 n] w fun e w' => e = .returned (.bool false) /\ w' = w := by
 by_cases h0 : 0 <= a
 · by_cases h1 : 1 <= n
   · by_cases h2 : n <= 64
     · have h3 : ¬ a <= 64 - n := by omega
       clear h
       go_enter Tryz.func286, Tryz.ntmps286
       go_wp2
       go_ret
       exact ⟨rfl, rfl⟩
     · clear h
       go_enter Tryz.func286, Tryz.ntmps286
       go_wp2
       go_ret
       exact ⟨rfl, rfl⟩
   · clear h
     go_enter Tryz.func286, Tryz.ntmps286
     go_wp2
     go_ret
     exact ⟨rfl, rfl⟩
 · clear h
   go_enter Tryz.func286, Tryz.ntmps286
   go_wp2
   go_ret
   exact ⟨rfl, rfl⟩
theorem rget_yes (x a n : Int) (w : World) (h0 : 0 <= a) (h1 : 1 <= n) (h2 : n <= 64 - a) (hx0 : 0 <= x) (hx1 : x <= 18446744073709551615) :
 Calls Tryz.prog 273 #[.int .u64 x, .int .i64 a, .int .i64 n] w fun e w' => e = .returned (.tuple #[.int .u64 (getF x a n), .int .i64 0]) /\ w' = w := by
 go_enter Tryz.func273, Tryz.ntmps273
 go_wp2_with (go_at_call 286; refine (can_yes _ _ _ (by omega) (by omega) (by omega)).mono ?_; rintro e w' ⟨rfl, rfl⟩)
 go_loop [8, 9] (fun s i => ∃ k : Nat, (k : Int) <= n /\ i = .int .i64 k /\ s = .int .u64 (accT (getN x.toNat a.toNat n.toNat) k)) (fun _ i => n.toNat - (intOf i).toNat)
 case atStart => exact ⟨0, by omega, rfl, by rw [accT_zero]⟩
 case round =>
  obtain ⟨k, hk, rfl, rfl⟩ := hrel
  by_cases hlt : (k : Int) < n
  · have hb := bit_get x a n k h0 hlt
    cases hc : bitB x (a + k)
    · rw [hc] at hb
      have HB : Hid ((getN x.toNat a.toNat n.toNat).testBit k = false) := hb
      clear hb
      go_wp2_with (go_at_call 287; refine (bit_any _ _ _ (by omega) (by omega) (by omega) (by omega)).mono ?_; rintro e w' ⟨rfl, rfl⟩)
      go_round
      case rel => exact ⟨k + 1, by omega, by go_num, by rw [accT_no _ k HB.out]⟩
      case measure => simp [intOf]; omega
    · rw [hc] at hb
      have HB : Hid ((getN x.toNat a.toNat n.toNat).testBit k = true) := hb
      clear hb
      go_wp2_with (go_at_call 287; refine (bit_any _ _ _ (by omega) (by omega) (by omega) (by omega)).mono ?_; rintro e w' ⟨rfl, rfl⟩)
      go_round
      case rel => exact ⟨k + 1, by omega, by go_num, by rw [accT_yes _ k (by omega) HB.out]⟩
      case measure => simp [intOf]; omega
  · go_wp2
    go_ret2
    refine ⟨ret_two ?_, rfl⟩
    rw [accT_end _ k (by rw [show k = n.toNat by omega]; exact getN_lt _ _ _)]
    rfl
theorem rget_no (x a n : Int) (w : World) (h : ¬ (0 <= a /\ 1 <= n /\ n <= 64 - a)) (ha : a <= 9223372036854775807) :
 Calls Tryz.prog 273 #[.int .u64 x, .int .i64 a, .int .i64 n] w fun e w' => e = .returned (.tuple #[.int .u64 0, .int .i64 1]) /\ w' = w := by
 have H : Hid (¬ (0 <= a /\ 1 <= n /\ n <= 64 - a)) := h
 clear h
 go_enter Tryz.func273, Tryz.ntmps273
 go_wp2_with (go_at_call 286; refine (can_no _ _ _ H.out ha).mono ?_; rintro e w' ⟨rfl, rfl⟩)
 go_ret2
 exact ⟨rfl, rfl⟩
theorem rfits_any (x n : Int) (w : World) (hx0 : 0 <= x) (hx1 : x <= 18446744073709551615) :
 Calls Tryz.prog 274 #[.int .u64 x, .int .i64 n] w fun e w' => e = .returned (.bool (fitsB x n)) /\ w' = w := by
 go_enter Tryz.func274, Tryz.ntmps274
 go_wp2
 go_loop [5] (fun i => ∃ k : Nat, (k : Int) <= 64 /\ i = .int .i64 k /\ clearTo x n k) (fun i => 64 - (intOf i).toNat)
 case atStart => exact ⟨0, by omega, rfl, fun j hj => by omega⟩
 case round =>
  obtain ⟨k, hk, rfl, hcl0⟩ := hrel
  have hcl : Hid (clearTo x n k) := hcl0
  clear hcl0
  by_cases hlt : (k : Int) < 64
  · cases hc : bitB x k
    · go_wp2_with (go_at_call 287; refine (bit_any _ _ _ (by omega) (by omega) (by omega) (by omega)).mono ?_; rintro e w' ⟨rfl, rfl⟩)
      go_round
      case rel => exact ⟨k + 1, by omega, by go_num, clearTo_succ hcl.out (fun _ => hc)⟩
      case measure => simp [intOf]; omega
    · by_cases hn : n <= k
      · go_wp2_with (go_at_call 287; refine (bit_any _ _ _ (by omega) (by omega) (by omega) (by omega)).mono ?_; rintro e w' ⟨rfl, rfl⟩)
        go_ret
        exact ⟨by rw [unfit_of_bit (by omega) hn hc]; rfl, rfl⟩
      · go_wp2_with (go_at_call 287; refine (bit_any _ _ _ (by omega) (by omega) (by omega) (by omega)).mono ?_; rintro e w' ⟨rfl, rfl⟩)
        go_round
        case rel => exact ⟨k + 1, by omega, by go_num, clearTo_succ hcl.out (fun h => absurd h (by omega))⟩
        case measure => simp [intOf]; omega
  · go_wp2
    go_ret
    exact ⟨by rw [fits_of_clear hx0 hx1 (by have := hcl.out; rwa [show k = 64 by omega] at this)]; rfl, rfl⟩
theorem rput_out (x a n v : Int) (w : World) (h : ¬ (0 <= a /\ 1 <= n /\ n <= 64 - a)) (ha : a <= 9223372036854775807) :
 Calls Tryz.prog 283 #[.int .u64 x, .int .i64 a, .int .i64 n, .int .u64 v] w fun e w' => e = .returned (.tuple #[.int .u64 0, .int .i64 1]) /\ w' = w := by
 have H : Hid (¬ (0 <= a /\ 1 <= n /\ n <= 64 - a)) := h
 clear h
 go_enter Tryz.func283, Tryz.ntmps283
 go_wp2_with (go_at_call 286; refine (can_no _ _ _ H.out ha).mono ?_; rintro e w' ⟨rfl, rfl⟩)
 go_ret2
 exact ⟨rfl, rfl⟩
theorem rput_unfit (x a n v : Int) (w : World) (h0 : 0 <= a) (h1 : 1 <= n) (h2 : n <= 64 - a) (hv0 : 0 <= v) (hv1 : v <= 18446744073709551615) (hf : fitsB v n = false) :
 Calls Tryz.prog 283 #[.int .u64 x, .int .i64 a, .int .i64 n, .int .u64 v] w fun e w' => e = .returned (.tuple #[.int .u64 0, .int .i64 1]) /\ w' = w := by
 go_enter Tryz.func283, Tryz.ntmps283
 go_wp2_with (first
  | (go_at_call 286; refine (can_yes _ _ _ (by omega) (by omega) (by omega)).mono ?_; rintro e w' ⟨rfl, rfl⟩)
  | (go_at_call 274; refine (rfits_any _ _ _ (by omega) (by omega)).mono ?_; rintro e w' ⟨rfl, rfl⟩))
 go_ret2
 exact ⟨rfl, rfl⟩
theorem rput_yes (x a n v : Int) (w : World) (h0 : 0 <= a) (h1 : 1 <= n) (h2 : n <= 64 - a) (hx0 : 0 <= x) (hx1 : x <= 18446744073709551615) (hv0 : 0 <= v) (hv1 : v <= 18446744073709551615) (hf : fitsB v n = true) :
 Calls Tryz.prog 283 #[.int .u64 x, .int .i64 a, .int .i64 n, .int .u64 v] w fun e w' => e = .returned (.tuple #[.int .u64 (putF x a n v), .int .i64 0]) /\ w' = w := by
 go_enter Tryz.func283, Tryz.ntmps283
 go_wp2_with (first
  | (go_at_call 286; refine (can_yes _ _ _ (by omega) (by omega) (by omega)).mono ?_; rintro e w' ⟨rfl, rfl⟩)
  | (go_at_call 274; refine (rfits_any _ _ _ (by omega) (by omega)).mono ?_; rintro e w' ⟨rfl, rfl⟩))
 go_loop [10, 11] (fun s i => ∃ k : Nat, (k : Int) <= 64 /\ i = .int .i64 k /\ s = .int .u64 (accT (putN x.toNat a.toNat n.toNat v.toNat) k)) (fun _ i => 64 - (intOf i).toNat)
 case atStart => exact ⟨0, by omega, rfl, by rw [accT_zero]⟩
 case round =>
  obtain ⟨k, hk, rfl, rfl⟩ := hrel
  by_cases hlt : (k : Int) < 64
  · by_cases i1 : a <= k
    · by_cases i2 : (k : Int) < a + n
      · have hb := bit_put_in x a n v k h0 h1 h2 hx1 hf i1 i2
        cases hc : bitB v (k - a)
        · rw [hc] at hb
          have HB : Hid ((putN x.toNat a.toNat n.toNat v.toNat).testBit k = false) := hb
          clear hb
          go_wp2_with (go_at_call 287; refine (bit_any _ _ _ (by omega) (by omega) (by omega) (by omega)).mono ?_; rintro e w' ⟨rfl, rfl⟩)
          go_round
          case rel => exact ⟨k + 1, by omega, by go_num, by rw [accT_no _ k HB.out]⟩
          case measure => simp [intOf]; omega
        · rw [hc] at hb
          have HB : Hid ((putN x.toNat a.toNat n.toNat v.toNat).testBit k = true) := hb
          clear hb
          go_wp2_with (go_at_call 287; refine (bit_any _ _ _ (by omega) (by omega) (by omega) (by omega)).mono ?_; rintro e w' ⟨rfl, rfl⟩)
          go_round
          case rel => exact ⟨k + 1, by omega, by go_num, by rw [accT_yes _ k (by omega) HB.out]⟩
          case measure => simp [intOf]; omega
      · have hb := bit_put_out x a n v k h0 h1 h2 hx1 hf (by omega)
        cases hc : bitB x k
        · rw [hc] at hb
          have HB : Hid ((putN x.toNat a.toNat n.toNat v.toNat).testBit k = false) := hb
          clear hb
          go_wp2_with (go_at_call 287; refine (bit_any _ _ _ (by omega) (by omega) (by omega) (by omega)).mono ?_; rintro e w' ⟨rfl, rfl⟩)
          go_round
          case rel => exact ⟨k + 1, by omega, by go_num, by rw [accT_no _ k HB.out]⟩
          case measure => simp [intOf]; omega
        · rw [hc] at hb
          have HB : Hid ((putN x.toNat a.toNat n.toNat v.toNat).testBit k = true) := hb
          clear hb
          go_wp2_with (go_at_call 287; refine (bit_any _ _ _ (by omega) (by omega) (by omega) (by omega)).mono ?_; rintro e w' ⟨rfl, rfl⟩)
          go_round
          case rel => exact ⟨k + 1, by omega, by go_num, by rw [accT_yes _ k (by omega) HB.out]⟩
          case measure => simp [intOf]; omega
    · have hb := bit_put_out x a n v k h0 h1 h2 hx1 hf (by omega)
      cases hc : bitB x k
      · rw [hc] at hb
        have HB : Hid ((putN x.toNat a.toNat n.toNat v.toNat).testBit k = false) := hb
        clear hb
        go_wp2_with (go_at_call 287; refine (bit_any _ _ _ (by omega) (by omega) (by omega) (by omega)).mono ?_; rintro e w' ⟨rfl, rfl⟩)
        go_round
        case rel => exact ⟨k + 1, by omega, by go_num, by rw [accT_no _ k HB.out]⟩
        case measure => simp [intOf]; omega
      · rw [hc] at hb
        have HB : Hid ((putN x.toNat a.toNat n.toNat v.toNat).testBit k = true) := hb
        clear hb
        go_wp2_with (go_at_call 287; refine (bit_any _ _ _ (by omega) (by omega) (by omega) (by omega)).mono ?_; rintro e w' ⟨rfl, rfl⟩)
        go_round
        case rel => exact ⟨k + 1, by omega, by go_num, by rw [accT_yes _ k (by omega) HB.out]⟩
        case measure => simp [intOf]; omega
  · go_wp2
    go_ret2
    refine ⟨ret_two ?_, rfl⟩
    rw [accT_end _ k (by rw [show k = 64 by omega]; have := p64; have := putN_le x.toNat a.toNat n.toNat v.toNat (by omega) (by omega) (fits_lt hf (by omega)); omega)]
    rfl
end Pfield
namespace Pfield
theorem oper_wpIn_inRound {F : Fence} {n : Nat} {P : Program} {o : Oper} {a : Act} {w : World} {next : Act -> World -> Prop} {Q : Exit -> Act -> World -> Prop} (r : Nat) (hro : F.round = none) (hd : ∀ c, o.op ≠ .defer c)
 (h : o.wpIn F n P a w next Q) : o.wpIn (F.inRound r) n P a w next Q := by
 unfold Oper.wpIn at *
 rw [hro, Oper.semAt_none] at h
 rw [Fence.inRound_round, Oper.semAt_some r _ _ hd]
 exact h
theorem wpOpIn_inRound {F : Fence} {n : Nat} {P : Program} {ops : Array Oper} {i : Nat} {a : Act} {w : World} {K : Act -> World -> Prop} {Q : Exit -> Act -> World -> Prop} (r : Nat) (hro : F.round = none) (hd : ∀ (i : Nat) o, ops[i]? = some o -> ∀ c, o.op ≠ .defer c)
 (h : wpOpIn F n P ops Q i K a w) : wpOpIn (F.inRound r) n P ops Q i K a w := by
 unfold wpOpIn at *
 split
 · rename_i ho; simpa only [ho] using h
 · rename_i o ho
   simp only [ho] at h
   split
   · rename_i hw; simp only [hw, if_true] at h; exact oper_wpIn_inRound r hro (hd i o ho) h
   · rename_i hw; simp only [hw] at h; exact h
theorem wpAnyIn_inRound {F : Fence} {n : Nat} {P : Program} {md : Region.Mode} {ops : Array Oper} {Q : Exit -> Act -> World -> Prop} (r : Nat) (hro : F.round = none) (hd : ∀ (i : Nat) o, ops[i]? = some o -> ∀ c, o.op ≠ .defer c) :
 ∀ (fuel : Nat) (listed : Array Bool) (a : Act) (w : World), wpAnyIn F n P md ops Q fuel listed a w -> wpAnyIn (F.inRound r) n P md ops Q fuel listed a w
 | 0, _, _, _, h => h
 | fuel + 1, _, _, _, h => ⟨h.1, fun i hi => wpOpIn_inRound r hro hd (wpOpIn_mono (fun a w => wpAnyIn_inRound r hro hd fuel _ a w) (h.2 i hi))⟩
def noDefer (l : List Oper) : Bool := l.all fun o => match o.op with | .defer _ => false | _ => true
theorem noDefer_spec {l : List Oper} (h : noDefer l = true) : ∀ (i : Nat) o, l.toArray[i]? = some o -> ∀ c, o.op ≠ .defer c := by
 intro i o ho c hc
 have hm : o ∈ l := List.mem_of_getElem? (by simpa using ho)
 have := List.all_eq_true.1 h o hm
 rw [hc] at this
 cases this
theorem region_quiet_round {F : Fence} {n : Nat} {P : Program} {id : Nat} {Q : Exit -> Act -> World -> Prop} {a : Act} {w : World} {l : List Oper} {r : Nat} (hro : F.round = none) (hm : P.follows .mixedOrders = true) (hB : Region.lexB .any l.toArray = true) (hn : noDefer l = true)
 (h : wpQuietIn F n P l.toArray (fun w' => ∃ n, w' = w.drewN n) (fun a' => ∀ w', (∃ n, w' = w.drewN n) -> Q .normal a' w') l a) : (Code.region id l.toArray true).wpIn (F.inRound r) n P Q a w := by
 have hB' := hB
 simp only [Region.lexB, Bool.and_eq_true] at hB'
 refine wpIn_region_any hm (wpAnyIn_inRound r hro (noDefer_spec hn) _ _ _ _ ?_)
 refine wpAnyIn_of_quiet (C := fun w' => ∃ n, w' = w.drewN n) (Q := fun a' => ∀ w', (∃ n, w' = w.drewN n) -> Q .normal a' w') hro (fun _ w' hw' h => h w' hw') _ _ _ _ ⟨1, rfl⟩ ?_
 have := wpAnyQIn_lex (F := F) (n := n) (C := fun w' => ∃ n, w' = w.drewN n) (md := .any) hB'.1 l 0 (Array.replicate l.toArray.size false) a (by simp) (by simpa using hB'.2) h
 simpa using this
end Pfield
namespace Pfield
open Go.RowKit Go.Shelf M
attribute [local go_sem] Oper.semAt_some
def sumTo (zs : List Int) : Nat -> Int
 | 0 => 0
 | k + 1 => wrap64 (sumTo zs k + zs[k]?.getD 0)
def upto (len k : Nat) : List (Fin len) := (List.finRange len).take k
theorem upto_succ {len k : Nat} (h : k < len) : upto len (k + 1) = upto len k ++ [⟨k, h⟩] := by
 unfold upto
 rw [List.take_succ_eq_append_getElem (by simpa using h)]
 simp
theorem upto_length {len k : Nat} (h : k <= len) : (upto len k).length = k := by simp [upto, h]
def Ints (q : IntKind) (n₀ : Nat) (W : World) (sv : Value) (zs : List Int) : Prop :=
 (∃ a cap, sv = .slice a 0 cap /\ zs = []) \/ ∃ b off cap, sv = .slice (some ⟨b, off, none⟩) zs.length cap /\ b < n₀ /\ ∀ j, j < zs.length -> W.cell? ⟨b, off + j, none⟩ = some (.int q (zs[j]?.getD 0))
theorem Ints.below {q : IntKind} {n₀ : Nat} {A B : World} (h : Below n₀ A B) {sv : Value} {zs : List Int} : Ints q n₀ A sv zs -> Ints q n₀ B sv zs
 | .inl e => .inl e
 | .inr ⟨b, off, cap, e, hb, hc⟩ => .inr ⟨b, off, cap, e, hb, fun j hj => (h.cell (p := ⟨b, off + j, none⟩) hb).trans (hc j hj)⟩
theorem starts1_in (n : Nat) (hn : 1 <= n) (l Bs n₀ b off len cap : Nat) (zs : List Int) (hreach : len <= 9223372036854775807) (hb : b < n₀) (J Jx : List (Fin len) -> World -> Prop)
 (hY : ∀ pre (x : Fin len) W, J pre W -> pre.length < len -> YieldAt Fence.wide (n - 1) Tryz.prog l #[.int .i64 (x.1 : Int), .int .i64 (sumTo zs x.1)] W fun e W' =>
   (e = .returned (.bool true) /\ J (pre ++ [x]) W' /\ Below n₀ W W') \/ (e = .returned (.bool false) /\ Jx (pre ++ [x]) W'))
 (W : World) (hBs : W.cell? ⟨Bs, 0, none⟩ = some (.slice (some ⟨b, off, none⟩) len cap)) (hc : ∀ j, j < len -> W.cell? ⟨b, off + j, none⟩ = some (.int .i64 (zs[j]?.getD 0))) (h0 : J [] W) :
 CallsIn Fence.wide n Tryz.prog 261 #[.func (.yield l) #[] #[], .pointer (some ⟨Bs, 0, none⟩)] W fun e W' => (∃ v, e = .returned v) /\
  ((∃ ys, ys = upto len len /\ J ys W') \/ (∃ pre, (∃ k, k <= len /\ pre = upto len k) /\ Jx pre W')) := by
 refine callsIn_of_wp Tryz.func261 rfl trivial ?_ rfl
 simp only [Tryz.ntmps261, List.size_toArray, List.length_cons, List.length_nil, Nat.reduceAdd, Nat.reduceSub, Array.replicate_succ, Array.replicate_zero, List.push_toArray, List.append_toArray, List.nil_append, List.cons_append]
 gi_wp2
 gi_loopw [3, 8] (fun s i wr => ∃ k : Nat, k <= len /\ i = .int .i64 k /\ s = .int .i64 (sumTo zs k) /\ J (upto len k) wr /\ Below n₀ W wr)
  (fun _ i _ => len - (intOf i).toNat)
 case atStart => exact ⟨0, Nat.zero_le _, rfl, rfl, h0, Below.refl _ _⟩
 case round =>
  obtain ⟨k, hk, rfl, rfl, hJs, hnx⟩ := hrel
  have hcx : k < len -> wr.cell? ⟨b, off + k, none⟩ = some (.int .i64 (zs[k]?.getD 0)) := fun h => (hnx.cell (p := ⟨b, off + k, none⟩) hb).trans (hc k h)
  by_cases hlt : k < len
  · obtain ⟨fn, tmps, assign, body, hy, hR⟩ := hY _ ⟨k, hlt⟩ wr hJs (by rw [upto_length hk]; exact hlt)
    dsimp only at hy
    have hcx' := hcx hlt
    gi_wp2
    refine hR.mono ?_
    rintro e W3 (⟨rfl, hJ3, hk3⟩ | ⟨rfl, hJx3⟩)
    · gi_wp2
      go_roundw
      case rel => exact ⟨k + 1, by omega, by simp, rfl, by rw [upto_succ hlt]; exact hJ3, hnx.trans hk3⟩
      case measure => simp [intOf]; omega
    · gi_wp2
      refine bodyPost_ret (results_none rfl _ _ _) rfl ?_
      exact ⟨⟨_, rfl⟩, .inr ⟨_, ⟨k + 1, by omega, (upto_succ hlt).symm⟩, hJx3⟩⟩
  · obtain rfl : k = len := by omega
    gi_wp2
    go_end0
    exact ⟨⟨_, rfl⟩, .inl ⟨_, rfl, hJs⟩⟩
theorem starts1_nil_in (n : Nat) (l Bs : Nat) (a : Option Addr) (cap : Nat) (J : List (Fin 0) -> World -> Prop) (W : World) (hBs : W.cell? ⟨Bs, 0, none⟩ = some (.slice a 0 cap)) (h0 : J [] W) :
 CallsIn Fence.wide n Tryz.prog 261 #[.func (.yield l) #[] #[], .pointer (some ⟨Bs, 0, none⟩)] W fun e W' => (∃ v, e = .returned v) /\ J [] W' := by
 refine callsIn_of_wp Tryz.func261 rfl trivial ?_ rfl
 simp only [Tryz.ntmps261, List.size_toArray, List.length_cons, List.length_nil, Nat.reduceAdd, Nat.reduceSub, Array.replicate_succ, Array.replicate_zero, List.push_toArray, List.append_toArray, List.nil_append, List.cons_append]
 gi_wp2
 gi_loopw [8] (fun i wr => i = .int .i64 0 /\ J [] wr) (fun _ _ => 0)
 case atStart => exact ⟨rfl, h0⟩
 case round =>
  obtain ⟨rfl, hJs⟩ := hrel
  gi_wp2
  go_end0
  exact ⟨⟨_, rfl⟩, hJs⟩
theorem starts_in (n : Nat) (a : Option Addr) (len cap : Nat) (w : World) :
 CallsIn Fence.wide n Tryz.prog 223 #[.slice a len cap] w fun e w' => e = .returned (.func (.func 261) #[] #[.pointer (some ⟨w.heap.size, 0, none⟩)]) /\ w' = w.alloc (.cells #[.slice a len cap] 147) := by
 refine callsIn_of_wp Tryz.func223 rfl trivial ?_ rfl
 simp only [Tryz.ntmps223, List.size_toArray, List.length_cons, List.length_nil, Nat.reduceAdd, Nat.reduceSub, Array.replicate_succ, Array.replicate_zero, List.push_toArray, List.append_toArray, List.nil_append, List.cons_append]
 gi_wp2
 go_ret
 exact ⟨rfl, rfl⟩
theorem starts_stops (n : Nat) (hn : 1 <= n) (Bs n₀ : Nat) (sv : Value) (zs : List Int) (hreach : zs.length <= 9223372036854775807) (w : World) (hBs : Bs < w.heap.size) (hn₀ : n₀ <= w.heap.size)
 (hc : w.cell? ⟨Bs, 0, none⟩ = some sv) (hI : Ints .i64 n₀ w sv zs) :
 SeqStopsK Fence.wide n Tryz.prog 261 #[.pointer (some ⟨Bs, 0, none⟩)] (fun x : Fin zs.length => #[Value.int .i64 (x.1 : Int), Value.int .i64 (sumTo zs x.1)]) (Below n₀) (fun ys => ys = upto zs.length zs.length)
  (fun pre => ∃ k, k <= zs.length /\ pre = upto zs.length k) zs.length w := fun l J Jx W hW _ _ hY h0 => by
 have hc' := (hW.cell (p := ⟨Bs, 0, none⟩) hBs).trans hc
 rcases hI.below (hW.mono hn₀) with ⟨a, cap, rfl, rfl⟩ | ⟨b, off, cap, rfl, hb, hcs⟩
 · exact (starts1_nil_in n l Bs a cap J W hc' h0).mono fun e W' ⟨he, hj⟩ => ⟨he, .inl ⟨_, rfl, hj⟩⟩
 · exact starts1_in n hn l Bs n₀ b off zs.length cap zs hreach hb J Jx hY W hc' hcs h0
end Pfield
namespace Pfield
open Go.RowKit Go.Shelf M
attribute [local go_sem] Oper.semAt_some
def okP (zs vs : List Int) (j : Nat) : Bool := inB (sumTo zs j) (zs[j]?.getD 0) && fitsB (vs[j]?.getD 0) (zs[j]?.getD 0)
def packs {len : Nat} (zs vs : List Int) (pre : List (Fin len)) : Int := pre.foldl (fun x j => putF x (sumTo zs j.1) (zs[j.1]?.getD 0) (vs[j.1]?.getD 0)) 0
theorem packs_snoc {len : Nat} (zs vs : List Int) (pre : List (Fin len)) (j : Fin len) : packs zs vs (pre ++ [j]) = putF (packs zs vs pre) (sumTo zs j.1) (zs[j.1]?.getD 0) (vs[j.1]?.getD 0) := by simp [packs]
theorem upto_mem {len j : Nat} (h : j < len) : (⟨j, h⟩ : Fin len) ∈ upto len len := by
 unfold upto
 rw [List.take_of_length_le (by simp)]
 exact List.mem_finRange _
theorem ints_at' {q : IntKind} {n₀ : Nat} {W : World} {a : Option Addr} {len cap : Nat} {zs : List Int} (h : Ints q n₀ W (.slice a len cap) zs) {j : Nat} (hj : j < zs.length) :
 ∃ b off z, a = some ⟨b, off, none⟩ /\ W.cell? ⟨b, off + j, none⟩ = some (.int q z) /\ Hid (zs[j]?.getD 0 = z) := by
 rcases h with ⟨a', cap', e, rfl⟩ | ⟨b, off, cap', e, hb, hc⟩
 · simp at hj
 · simp at e
   exact ⟨b, off, _, e.1, hc j hj, rfl⟩
theorem sumTo_bd (zs : List Int) (k : Nat) : -9223372036854775808 <= sumTo zs k /\ sumTo zs k <= 9223372036854775807 := by
 cases k with
 | zero => simp [sumTo]
 | succ k => unfold sumTo wrap64; omega
theorem ok_parts {zs vs : List Int} {j : Nat} (h : okP zs vs j = true) : (0 <= sumTo zs j /\ 1 <= zs[j]?.getD 0 /\ zs[j]?.getD 0 <= 64 - sumTo zs j) /\ fitsB (vs[j]?.getD 0) (zs[j]?.getD 0) = true := by
 unfold okP at h
 rw [Bool.and_eq_true, inB_iff] at h
 exact h
theorem packs_bd {len : Nat} (zs vs : List Int) (pre : List (Fin len)) (h : ∀ j ∈ pre, okP zs vs j.1 = true) : 0 <= packs zs vs pre /\ packs zs vs pre <= 18446744073709551615 := by
 have key : ∀ (pre : List (Fin len)) (x : Int), (∀ j ∈ pre, okP zs vs j.1 = true) -> 0 <= x /\ x <= 18446744073709551615 ->
  0 <= pre.foldl (fun x j => putF x (sumTo zs j.1) (zs[j.1]?.getD 0) (vs[j.1]?.getD 0)) x /\ pre.foldl (fun x j => putF x (sumTo zs j.1) (zs[j.1]?.getD 0) (vs[j.1]?.getD 0)) x <= 18446744073709551615 := by
  intro pre
  induction pre with
  | nil => intro x _ hx; exact hx
  | cons j pre ih =>
    intro x hj hx
    obtain ⟨⟨h0, h1, h2⟩, hf⟩ := ok_parts (hj j (by simp))
    exact ih _ (fun i hi => hj i (by simp [hi])) (putF_bd _ _ _ _ h0 h1 h2 hx.2 hf)
 exact key pre 0 h (by omega)
theorem boxed_drewN {W : World} {B : Nat} {t : TypeId} {v : Value} (h : Boxed W B t v) (n : Nat) : Boxed (W.drewN n) B t v := h
theorem below_drewN {B : Nat} {a w : World} (h : Below B a w) (n : Nat) : Below B a (w.drewN n) := h.trans ⟨rfl, rfl, rfl, Nat.le_refl _, fun _ _ => rfl⟩
theorem others_drewN (W : World) (n : Nat) : KeepsOthers W (W.drewN n) := ⟨Nat.le_refl _, fun _ _ h _ => h⟩
def PackI (B : Nat) (sv0 sv1 : Value) (zs vs : List Int) (pre : List (Fin zs.length)) (W : World) : Prop :=
 (∀ j ∈ pre, okP zs vs j.1 = true) /\ Boxed W B 147 sv0 /\ Boxed W (B + 1) 211 sv1 /\ Boxed W (B + 1 + 1) 83 (.int .u64 0) /\ Boxed W (B + 1 + 1 + 1) 32 (.int .i64 0) /\ Boxed W (B + 1 + 1 + 1 + 1) 83 (.int .u64 (packs zs vs pre))
theorem packI_own (B : Nat) (sv0 sv1 : Value) (zs vs : List Int) : Own (PackI B sv0 sv1 zs vs) := fun s A C row hs hg hr =>
 ⟨hs.1, boxed_own B 147 (fun _ : Unit => sv0) () A C row hs.2.1 hg hr, boxed_own _ 211 (fun _ : Unit => sv1) () A C row hs.2.2.1 hg hr, boxed_own _ 83 (fun _ : Unit => .int .u64 0) () A C row hs.2.2.2.1 hg hr,
   boxed_own _ 32 (fun _ : Unit => .int .i64 0) () A C row hs.2.2.2.2.1 hg hr, boxed_own _ 83 (fun _ : Unit => .int .u64 (packs zs vs s)) () A C row hs.2.2.2.2.2 hg hr⟩
def PackX (B : Nat) (zs vs : List Int) (c : Code) (pre : List (Fin zs.length)) (W : World) : Prop :=
 c = .ret /\ (∃ j ∈ pre, okP zs vs j.1 = false) /\ Boxed W (B + 1 + 1) 83 (.int .u64 0) /\ Boxed W (B + 1 + 1 + 1) 32 (.int .i64 1)
theorem packX_own (B : Nat) (zs vs : List Int) (c : Code) : Own (PackX B zs vs c) := fun s A C row hs hg hr =>
 ⟨hs.1, hs.2.1, boxed_own _ 83 (fun _ : Unit => .int .u64 0) () A C row hs.2.2.1 hg hr, boxed_own _ 32 (fun _ : Unit => .int .i64 1) () A C row hs.2.2.2 hg hr⟩
theorem pack_in (a0 a1 : Option Addr) (cap0 cap1 : Nat) (zs vs : List Int) (w : World) (hl0 : zs.length <= 9223372036854775807) (hlv : zs.length = vs.length)
 (hv : ∀ j : Nat, 0 <= vs[j]?.getD 0 /\ vs[j]?.getD 0 <= 18446744073709551615)
 (hI0 : Ints .i64 w.heap.size w (.slice a0 zs.length cap0) zs) (hI1 : Ints .u64 w.heap.size w (.slice a1 zs.length cap1) vs) :
 Calls Tryz.prog 220 #[.slice a0 zs.length cap0, .slice a1 zs.length cap1] w fun e W' =>
  ((∀ j, j < zs.length -> okP zs vs j = true) /\ e = .returned (.tuple #[.int .u64 (packs zs vs (upto zs.length zs.length)), .int .i64 0]) \/
   (∃ j, j < zs.length /\ okP zs vs j = false) /\ e = .returned (.tuple #[.int .u64 0, .int .i64 1])) /\ Below w.heap.size w W' := by
 have HL : Hid (zs.length = vs.length) := hlv
 have HV : Hid (∀ j : Nat, 0 <= vs[j]?.getD 0 /\ vs[j]?.getD 0 <= 18446744073709551615) := hv
 have H0 : Hid (Ints .i64 w.heap.size w (.slice a0 zs.length cap0) zs) := hI0
 have H1 : Hid (Ints .u64 w.heap.size w (.slice a1 zs.length cap1) vs) := hI1
 clear hlv hv hI0 hI1
 refine (callsIn_wide (n := 9)).1 ?_
 refine callsIn_of_wp_marks Tryz.func220 rfl trivial ?_ rfl
 simp only [Tryz.ntmps220, List.size_toArray, List.length_cons, List.length_nil, Nat.reduceAdd, Nat.reduceSub, Array.replicate_succ, Array.replicate_zero, List.push_toArray, List.append_toArray, List.nil_append, List.cons_append]
 gi_wp2_with (refine ⟨trivial, ?_⟩; gi_at_call 223; refine (starts_in _ _ _ _ _).mono ?_; rintro e w' ⟨rfl, rfl⟩)
 have b0 := Boxed.new w 147 (.slice a0 zs.length cap0)
 have b1 := Boxed.new (w.alloc (.cells #[.slice a0 zs.length cap0] 147)) 211 (.slice a1 zs.length cap1)
 have b2 := Boxed.new ((w.alloc (.cells #[.slice a0 zs.length cap0] 147)).alloc (.cells #[.slice a1 zs.length cap1] 211)) 83 (.int .u64 0)
 have b3 := Boxed.new (((w.alloc (.cells #[.slice a0 zs.length cap0] 147)).alloc (.cells #[.slice a1 zs.length cap1] 211)).alloc (.cells #[.int .u64 0] 83)) 32 (.int .i64 0)
 have b4 := Boxed.new ((((w.alloc (.cells #[.slice a0 zs.length cap0] 147)).alloc (.cells #[.slice a1 zs.length cap1] 211)).alloc (.cells #[.int .u64 0] 83)).alloc (.cells #[.int .i64 0] 32)) 83 (.int .u64 0)
 have b5 := Boxed.new (((((w.alloc (.cells #[.slice a0 zs.length cap0] 147)).alloc (.cells #[.slice a1 zs.length cap1] 211)).alloc (.cells #[.int .u64 0] 83)).alloc (.cells #[.int .i64 0] 32)).alloc (.cells #[.int .u64 0] 83)) 147 (.slice a0 zs.length cap0)
 simp only [World.size_alloc] at b1 b2 b3 b4 b5
 have hB0 : Below w.heap.size w ((((((w.alloc (.cells #[.slice a0 zs.length cap0] 147)).alloc (.cells #[.slice a1 zs.length cap1] 211)).alloc (.cells #[.int .u64 0] 83)).alloc (.cells #[.int .i64 0] 32)).alloc (.cells #[.int .u64 0] 83)).alloc (.cells #[.slice a0 zs.length cap0] 147)) :=
  ((((((Below.refl _ w).alloc (Nat.le_refl _) _).alloc (by simp) _).alloc (by simp; omega) _).alloc (by simp; omega) _).alloc (by simp; omega) _).alloc (by simp; omega) _
 refine wpIn_rangeFunc_ownG rfl (by omega) (gf := 261) (lb := #[.pointer (some ⟨w.heap.size + 1 + 1 + 1 + 1 + 1, 0, none⟩)]) rfl trivial (enters_of Tryz.func261 (by kernel_rfl) rfl)
  (starts_stops 8 (by omega) (w.heap.size + 1 + 1 + 1 + 1 + 1) w.heap.size _ zs hl0 _ (by simp) (by simp; omega) b5.cell (H0.out.below hB0)) belowK_t (belowK_b (by simp; omega)) (Below.refl _ _) (fun _ => rfl)
  (fun pre W => PackI w.heap.size (.slice a0 zs.length cap0) (.slice a1 zs.length cap1) zs vs pre W /\ Below w.heap.size w W)
  (fun c pre W => PackX w.heap.size zs vs c pre W /\ Below w.heap.size w W)
  (OwnFrom.and (Own.from (packI_own _ _ _ _ _) _) (ownFrom_below (Nat.le_refl _) (by simp; omega)))
  (fun c => OwnFrom.and (Own.from (packX_own _ _ _ c) _) (ownFrom_below (Nat.le_refl _) (by simp; omega)))
  ⟨⟨by simp, ((((b0.alloc _).alloc _).alloc _).alloc _).alloc _, (((b1.alloc _).alloc _).alloc _).alloc _, ((b2.alloc _).alloc _).alloc _, (b3.alloc _).alloc _, b4.alloc _⟩, hB0⟩
  (fun x => { tmps := #[.slice a0 zs.length cap0, .slice a1 zs.length cap1, .pointer (some ⟨w.heap.size, 0, none⟩), .pointer (some ⟨w.heap.size + 1, 0, none⟩), .pointer (some ⟨w.heap.size + 1 + 1, 0, none⟩), .pointer (some ⟨w.heap.size + 1 + 1 + 1, 0, none⟩),
    .pointer (some ⟨w.heap.size + 1 + 1 + 1 + 1, 0, none⟩), .int .i64 (x.1 : Int), .int .i64 (sumTo zs x.1), undef, undef, .slice a0 zs.length cap0, .int .i64 zs.length, .slice a1 zs.length cap1, .int .i64 zs.length, .bool false, .slice a0 zs.length cap0,
    .func (.func 261) #[] #[.pointer (some ⟨w.heap.size + 1 + 1 + 1 + 1 + 1, 0, none⟩)], .int .i64 (x.1 : Int), .int .i64 (sumTo zs x.1), undef, undef, undef, undef, undef, undef, undef, undef, undef, undef, undef, undef, undef, undef, undef, undef, undef, undef, undef], defers := [] }) ?assign ?body ?done ?stop
 case assign =>
  intro l x W K hK
  gi_wp2
  exact hK
 case body =>
  rintro l pre x W ⟨⟨hok, c0, c1, c2, c3, c4⟩, hB⟩ hlt
  have hx := x.2
  have hxi : ((x.1 : Nat) : Int) < (zs.length : Int) := by omega
  have hp := packs_bd zs vs pre hok
  have hs := sumTo_bd zs x.1
  obtain ⟨bz, oz, z, ha0, hz, HZ⟩ := ints_at' (H0.out.below hB) hx
  obtain ⟨bv, ov, v, ha1, hvv, HW⟩ := ints_at' (H1.out.below hB) (show x.1 < vs.length by have := HL.out; omega)
  have hvx : 0 <= v /\ v <= 18446744073709551615 := by rw [<- HW.out]; exact HV.out x.1
  have k0 := c0.cell
  have k1 := c1.cell
  have k2 := c2.cell
  have k3 := c3.cell
  have k4 := c4.cell
  have f2 := c2.frozen
  have f3 := c3.frozen
  have f4 := c4.frozen
  have hwide : ∀ f, Fence.wide.fn f = True := fun _ => rfl
  cases hob : okP zs vs x.1
  · have HO : Hid (okP zs vs x.1 = false) := hob
    clear hob
    by_cases hin : 0 <= sumTo zs x.1 /\ 1 <= z /\ z <= 64 - sumTo zs x.1
    · obtain ⟨i0, i1, i2⟩ := hin
      have hf : fitsB v z = false := by
       have h := HO.out
       unfold okP at h
       rw [HZ.out, HW.out, (inB_iff _ _).2 ⟨i0, i1, i2⟩, Bool.true_and] at h
       exact h
      gi_wp2
      refine region_quiet_round (F := Fence.wide) rfl (by kernel_rfl) (by kernel_rfl) (by kernel_rfl) ?_
      repeat (gi_big_quiet_step ((gi_at_call 260; exact CallsIn.quiet_of_same (callsIn_wide.2 (put_unfit _ _ _ _ _ (by omega) (by omega) (by omega) (by omega) (by omega) hf)))))
      refine wpQuietIn_nil ?_
      intro _ hw'
      obtain ⟨nq, hw''⟩ := hw'
      subst hw''
      clear hwide
      gi_wp2
      exact ⟨(((others_drewN W nq).trans (KeepsOthers.setCell _ _ _)).trans (KeepsOthers.setCell _ _ _)).from _,
       ⟨rfl, ⟨x, by simp, HO.out⟩, ((boxed_drewN c2 nq).set _).other (by omega) _, ((boxed_drewN c3 nq).other (by omega) _).set _⟩,
       ((below_drewN hB nq).setCell (p := ⟨w.heap.size + 1 + 1, 0, none⟩) (by simp; omega) _).setCell (p := ⟨w.heap.size + 1 + 1 + 1, 0, none⟩) (by simp; omega) _⟩
    · have HN : Hid (¬ (0 <= sumTo zs x.1 /\ 1 <= z /\ z <= 64 - sumTo zs x.1)) := hin
      clear hin
      gi_wp2
      refine region_quiet_round (F := Fence.wide) rfl (by kernel_rfl) (by kernel_rfl) (by kernel_rfl) ?_
      repeat (gi_big_quiet_step ((gi_at_call 260; exact CallsIn.quiet_of_same (callsIn_wide.2 (put_out _ _ _ _ _ HN.out (by omega))))))
      refine wpQuietIn_nil ?_
      intro _ hw'
      obtain ⟨nq, hw''⟩ := hw'
      subst hw''
      clear hwide
      gi_wp2
      exact ⟨(((others_drewN W nq).trans (KeepsOthers.setCell _ _ _)).trans (KeepsOthers.setCell _ _ _)).from _,
       ⟨rfl, ⟨x, by simp, HO.out⟩, ((boxed_drewN c2 nq).set _).other (by omega) _, ((boxed_drewN c3 nq).other (by omega) _).set _⟩,
       ((below_drewN hB nq).setCell (p := ⟨w.heap.size + 1 + 1, 0, none⟩) (by simp; omega) _).setCell (p := ⟨w.heap.size + 1 + 1 + 1, 0, none⟩) (by simp; omega) _⟩
  · obtain ⟨⟨i0, i1, i2⟩, hf⟩ := ok_parts hob
    rw [HZ.out] at i1 i2 hf
    rw [HW.out] at hf
    have HO : Hid (okP zs vs x.1 = true) := hob
    clear hob
    gi_wp2
    refine region_quiet_round (F := Fence.wide) rfl (by kernel_rfl) (by kernel_rfl) (by kernel_rfl) ?_
    repeat (gi_big_quiet_step ((gi_at_call 260; exact CallsIn.quiet_of (callsIn_wide.2 (put_yes _ _ _ _ _ (by omega) (by omega) (by omega) (by omega) (by omega) (by omega) (by omega) hf)))))
    refine wpQuietIn_nil ?_
    intro _ hw'
    obtain ⟨nq, hw''⟩ := hw'
    subst hw''
    clear hwide
    gi_wp2
    have hpk : packs zs vs (pre ++ [x]) = putF (packs zs vs pre) (sumTo zs x.1) z v := by rw [packs_snoc, HZ.out, HW.out]
    refine ⟨((others_drewN W nq).trans (KeepsOthers.setCell _ _ _)).from _, (below_drewN (Below.refl w.heap.size W) nq).setCell (p := ⟨w.heap.size + 1 + 1 + 1 + 1, 0, none⟩) (by simp; omega) _,
     ⟨fun j hj => (List.mem_append.1 hj).elim (hok j) (fun e => by simp at e; subst e; exact HO.out), ?_, ?_, ?_, ?_, ?_⟩, (below_drewN hB nq).setCell (p := ⟨w.heap.size + 1 + 1 + 1 + 1, 0, none⟩) (by simp; omega) _⟩
    · exact (boxed_drewN c0 nq).other (by omega) _
    · exact (boxed_drewN c1 nq).other (by omega) _
    · exact (boxed_drewN c2 nq).other (by omega) _
    · exact (boxed_drewN c3 nq).other (by omega) _
    · rw [hpk]; exact (boxed_drewN c4 nq).set _
 case done =>
  rintro D ys W hD rfl ⟨⟨hok, c0, c1, c2, c3, c4⟩, hB⟩ hK
  have k4 := c4.cell
  have k2 := c2.cell
  have f2 := c2.frozen
  have k3 := c3.cell
  have f3 := c3.frozen
  gi_wp2
  have hK1 := (KeepsOthers.setCell W ⟨w.heap.size + 1 + 1, 0, none⟩ (.int .u64 (packs zs vs (upto zs.length zs.length)))).same D _ hK rfl
  have hK2 := (KeepsOthers.setCell (W.setCell ⟨w.heap.size + 1 + 1, 0, none⟩ (.int .u64 (packs zs vs (upto zs.length zs.length)))) ⟨w.heap.size + 1 + 1 + 1, 0, none⟩ (.int .i64 0)).same D _ hK1 rfl
  refine ⟨by simp, .inl ⟨_, _, rfl, run_takeDeferred hK2, ?_⟩⟩
  have e2 := cell_kept ((c2.set (.int .u64 (packs zs vs (upto zs.length zs.length)))).other (B' := w.heap.size + 1 + 1 + 1) (by omega) (.int .i64 0)).cell (grownBy_putObj' _ D (.deferred none)) (fun r e => by cases e; exact ⟨_, hK2, rfl⟩)
  have e3 := cell_kept ((c3.other (B' := w.heap.size + 1 + 1) (by omega) (.int .u64 (packs zs vs (upto zs.length zs.length)))).set (.int .i64 0)).cell (grownBy_putObj' _ D (.deferred none)) (fun r e => by cases e; exact ⟨_, hK2, rfl⟩)
  refine ⟨.tuple #[.int .u64 (packs zs vs (upto zs.length zs.length)), .int .i64 0], by simp [results, Tryz.f220, go_sem, e2, e3], .inl ⟨fun j hj => hok ⟨j, hj⟩ (upto_mem hj), rfl⟩, ?_⟩
  exact ((hB.setCell (p := ⟨w.heap.size + 1 + 1, 0, none⟩) (by simp; omega) _).setCell (p := ⟨w.heap.size + 1 + 1 + 1, 0, none⟩) (by simp; omega) _).trans (belowK_b (w := w) (Nat.le_refl _) _ D _ _ (by simp at hD; omega) hK2 rfl rfl)
 case stop =>
  rintro D c pre W hD ⟨k, hk, rfl⟩ ⟨⟨rfl, ⟨j, hj, hbad⟩, c2, c3⟩, hB⟩ hK
  gi_wp2
  refine ⟨by simp, .inl ⟨_, _, rfl, run_takeDeferred hK, ?_⟩⟩
  have e2 := cell_kept c2.cell (grownBy_putObj' _ D (.deferred none)) (fun r e => by cases e; exact ⟨_, hK, rfl⟩)
  have e3 := cell_kept c3.cell (grownBy_putObj' _ D (.deferred none)) (fun r e => by cases e; exact ⟨_, hK, rfl⟩)
  refine ⟨.tuple #[.int .u64 0, .int .i64 1], by simp [results, Tryz.f220, go_sem, e2, e3], .inr ⟨⟨j.1, j.2, hbad⟩, rfl⟩, ?_⟩
  exact hB.trans (belowK_b (w := w) (Nat.le_refl _) _ D _ _ (by simp at hD; omega) hK rfl rfl)
end Pfield
namespace Pfield
open Go.RowKit Go.Shelf M
attribute [local go_sem] Oper.semAt_some
def okU (zs : List Int) (j : Nat) : Bool := inB (sumTo zs j) (zs[j]?.getD 0)
def gets {len : Nat} (x : Int) (zs : List Int) (pre : List (Fin len)) : List Value := pre.map fun j => Value.int .u64 (getF x (sumTo zs j.1) (zs[j.1]?.getD 0))
theorem gets_snoc {len : Nat} (x : Int) (zs : List Int) (pre : List (Fin len)) (j : Fin len) : gets x zs (pre ++ [j]) = gets x zs pre ++ [Value.int .u64 (getF x (sumTo zs j.1) (zs[j.1]?.getD 0))] := by simp [gets]
def endOf {len : Nat} (zs : List Int) (pre : List (Fin len)) : Int := pre.foldl (fun _ j => sumTo zs (j.1 + 1)) 0
theorem endOf_snoc {len : Nat} (zs : List Int) (pre : List (Fin len)) (j : Fin len) : endOf zs (pre ++ [j]) = sumTo zs (j.1 + 1) := by simp [endOf]
theorem endOf_all (zs : List Int) : endOf zs (upto zs.length zs.length) = sumTo zs zs.length := by
 have key : ∀ len, zs.length = len -> endOf (len := len) zs (upto len len) = sumTo zs len := by
  intro len _
  cases len with
  | zero => rfl
  | succ k => rw [upto_succ (Nat.lt_succ_self k), endOf_snoc]
 exact key _ rfl
theorem ints_at2 {q : IntKind} {n₀ : Nat} {W : World} {a : Option Addr} {len cap : Nat} {zs : List Int} (h : Ints q n₀ W (.slice a len cap) zs) {j : Nat} (hj : j < zs.length) :
 ∃ b off z, a = some ⟨b, off, none⟩ /\ b < n₀ /\ W.cell? ⟨b, off + j, none⟩ = some (.int q z) /\ Hid (zs[j]?.getD 0 = z) := by
 rcases h with ⟨a', cap', e, rfl⟩ | ⟨b, off, cap', e, hb, hc⟩
 · simp at hj
 · simp at e
   exact ⟨b, off, _, e.1, hb, hc j hj, rfl⟩
theorem ownsRow_slice {w : World} {base : Nat} {e : TypeId} {size : Nat} {v : Value} {n : Nat} {xs : List Value} (h : w.ownsRow base e size v n xs) : ∃ a c, v = .slice a n c := by
 rcases h.2 with ⟨rfl, rfl⟩ | ⟨g, cap, _, rfl, _⟩
 · exact ⟨_, _, rfl⟩
 · exact ⟨_, _, rfl⟩
theorem ownsRow_from {w : World} {base base' : Nat} {e : TypeId} {size : Nat} {v : Value} {n : Nat} {xs : List Value} (h : w.ownsRow base e size v n xs) (hb : base' <= base) : w.ownsRow base' e size v n xs :=
 ⟨h.1, match h.2 with
   | .inl h => .inl h
   | .inr ⟨g, cap, cur, e, hg, r⟩ => .inr ⟨g, cap, cur, e, Nat.le_trans hb hg, r⟩⟩
def UnI (B N : Nat) (sv0 : Value) (x : Int) (zs : List Int) (pre : List (Fin zs.length)) (W : World) : Prop :=
 (∀ j ∈ pre, okU zs j.1 = true) /\ Boxed W B 147 sv0 /\ Boxed W (B + 1) 83 (.int .u64 x) /\ Boxed W (B + 1 + 1) 211 (.slice none 0 0) /\ Boxed W (B + 1 + 1 + 1) 32 (.int .i64 0) /\
 Boxed W (B + 1 + 1 + 1 + 1 + 1) 3 (.int .i64 (endOf zs pre)) /\
 ∃ v, Boxed W (B + 1 + 1 + 1 + 1) 211 v /\ W.ownsRow N 83 1 v pre.length (gets x zs pre) /\ (v = .slice none 0 0 ↔ pre = [])
theorem unI_own (B N : Nat) (sv0 : Value) (x : Int) (zs : List Int) : Own (UnI B N sv0 x zs) := fun s A C row hs hg hr =>
 ⟨hs.1, boxed_own B 147 (fun _ : Unit => sv0) () A C row hs.2.1 hg hr, boxed_own _ 83 (fun _ : Unit => .int .u64 x) () A C row hs.2.2.1 hg hr, boxed_own _ 211 (fun _ : Unit => .slice none 0 0) () A C row hs.2.2.2.1 hg hr,
   boxed_own _ 32 (fun _ : Unit => .int .i64 0) () A C row hs.2.2.2.2.1 hg hr, boxed_own _ 3 (fun _ : Unit => .int .i64 (endOf zs s)) () A C row hs.2.2.2.2.2.1 hg hr,
   holdsRow_own N (B + 1 + 1 + 1 + 1) 211 83 1 (fun pre : List (Fin zs.length) => pre.length) (fun pre => gets x zs pre) (fun pre v => v = .slice none 0 0 ↔ pre = []) s A C row hs.2.2.2.2.2.2 hg hr⟩
def UnX (B : Nat) (zs : List Int) (c : Code) (pre : List (Fin zs.length)) (W : World) : Prop :=
 c = .ret /\ (∃ j ∈ pre, okU zs j.1 = false) /\ Boxed W (B + 1 + 1) 211 (.slice none 0 0) /\ Boxed W (B + 1 + 1 + 1) 32 (.int .i64 1)
theorem unX_own (B : Nat) (zs : List Int) (c : Code) : Own (UnX B zs c) := fun s A C row hs hg hr =>
 ⟨hs.1, hs.2.1, boxed_own _ 211 (fun _ : Unit => .slice none 0 0) () A C row hs.2.2.1 hg hr, boxed_own _ 32 (fun _ : Unit => .int .i64 1) () A C row hs.2.2.2 hg hr⟩
theorem infoWord : (Tryz.prog.info? 83).map (fun i => (i.zero, i.size, i.bytes)) = some (some (.int .u64 0), 1, 8) := by kernel_rfl
theorem unpack_in (a0 : Option Addr) (cap0 : Nat) (zs : List Int) (x : Int) (w : World) (hl0 : zs.length <= 1000) (hx0 : 0 <= x /\ x <= 18446744073709551615)
 (hI0 : Ints .i64 w.heap.size w (.slice a0 zs.length cap0) zs) :
 Calls Tryz.prog 140 #[.slice a0 zs.length cap0, .int .u64 x] w fun e W' =>
  (((∀ j, j < zs.length -> okU zs j = true) /\ fitsB x (sumTo zs zs.length) = true /\ ∃ v, e = .returned (.tuple #[v, .int .i64 0]) /\ W'.ownsRow w.heap.size 83 1 v zs.length (gets x zs (upto zs.length zs.length))) \/
   (((∃ j, j < zs.length /\ okU zs j = false) \/ fitsB x (sumTo zs zs.length) = false) /\ e = .returned (.tuple #[.slice none 0 0, .int .i64 1]))) /\ Below w.heap.size w W' := by
 have H0 : Hid (Ints .i64 w.heap.size w (.slice a0 zs.length cap0) zs) := hI0
 clear hI0
 obtain ⟨it, hi, hz0, hz1, hz2⟩ := info_parts infoWord
 refine (callsIn_wide (n := 9)).1 ?_
 refine callsIn_of_wp_marks Tryz.func140 rfl trivial ?_ rfl
 simp only [Tryz.ntmps140, List.size_toArray, List.length_cons, List.length_nil, Nat.reduceAdd, Nat.reduceSub, Array.replicate_succ, Array.replicate_zero, List.push_toArray, List.append_toArray, List.nil_append, List.cons_append]
 gi_wp2_with (refine ⟨trivial, ?_⟩; gi_at_call 223; refine (starts_in _ _ _ _ _).mono ?_; rintro e w' ⟨rfl, rfl⟩)
 have b0 := Boxed.new w 147 (.slice a0 zs.length cap0)
 have b1 := Boxed.new (w.alloc (.cells #[.slice a0 zs.length cap0] 147)) 83 (.int .u64 x)
 have b2 := Boxed.new ((w.alloc (.cells #[.slice a0 zs.length cap0] 147)).alloc (.cells #[.int .u64 x] 83)) 211 (.slice none 0 0)
 have b3 := Boxed.new (((w.alloc (.cells #[.slice a0 zs.length cap0] 147)).alloc (.cells #[.int .u64 x] 83)).alloc (.cells #[.slice none 0 0] 211)) 32 (.int .i64 0)
 have b4 := Boxed.new ((((w.alloc (.cells #[.slice a0 zs.length cap0] 147)).alloc (.cells #[.int .u64 x] 83)).alloc (.cells #[.slice none 0 0] 211)).alloc (.cells #[.int .i64 0] 32)) 211 (.slice none 0 0)
 have b5 := Boxed.new (((((w.alloc (.cells #[.slice a0 zs.length cap0] 147)).alloc (.cells #[.int .u64 x] 83)).alloc (.cells #[.slice none 0 0] 211)).alloc (.cells #[.int .i64 0] 32)).alloc (.cells #[.slice none 0 0] 211)) 3 (.int .i64 0)
 have b6 := Boxed.new ((((((w.alloc (.cells #[.slice a0 zs.length cap0] 147)).alloc (.cells #[.int .u64 x] 83)).alloc (.cells #[.slice none 0 0] 211)).alloc (.cells #[.int .i64 0] 32)).alloc (.cells #[.slice none 0 0] 211)).alloc (.cells #[.int .i64 0] 3)) 147 (.slice a0 zs.length cap0)
 simp only [World.size_alloc] at b1 b2 b3 b4 b5 b6
 have hB0 : Below w.heap.size w (((((((w.alloc (.cells #[.slice a0 zs.length cap0] 147)).alloc (.cells #[.int .u64 x] 83)).alloc (.cells #[.slice none 0 0] 211)).alloc (.cells #[.int .i64 0] 32)).alloc (.cells #[.slice none 0 0] 211)).alloc (.cells #[.int .i64 0] 3)).alloc (.cells #[.slice a0 zs.length cap0] 147)) :=
  (((((((Below.refl _ w).alloc (Nat.le_refl _) _).alloc (by simp) _).alloc (by simp; omega) _).alloc (by simp; omega) _).alloc (by simp; omega) _).alloc (by simp; omega) _).alloc (by simp; omega) _
 refine wpIn_rangeFunc_ownG rfl (by omega) (gf := 261) (lb := #[.pointer (some ⟨w.heap.size + 1 + 1 + 1 + 1 + 1 + 1, 0, none⟩)]) rfl trivial (enters_of Tryz.func261 (by kernel_rfl) rfl)
  (starts_stops 8 (by omega) (w.heap.size + 1 + 1 + 1 + 1 + 1 + 1) w.heap.size _ zs (by omega) _ (by simp) (by simp; omega) b6.cell (H0.out.below hB0)) belowK_t (belowK_b (by simp; omega)) (Below.refl _ _) (fun _ => rfl)
  (fun pre W => (UnI w.heap.size (w.heap.size + 1 + 1 + 1 + 1 + 1 + 1 + 1) (.slice a0 zs.length cap0) x zs pre W /\ Below w.heap.size w W) /\ (w.heap.size + 1 + 1 + 1 + 1 + 1 + 1 + 1) <= W.heap.size)
  (fun c pre W => UnX w.heap.size zs c pre W /\ Below w.heap.size w W)
  (OwnFrom.and (OwnFrom.and (Own.from (unI_own _ _ _ _ _) _) (ownFrom_below (Nat.le_refl _) (by simp; omega))) (fun s A C row hs hg hr => Nat.le_trans hs hg.size))
  (fun c => OwnFrom.and (Own.from (unX_own _ _ c) _) (ownFrom_below (Nat.le_refl _) (by simp; omega)))
  ⟨⟨⟨by simp, ((((((b0.alloc _).alloc _).alloc _).alloc _).alloc _).alloc _), (((((b1.alloc _).alloc _).alloc _).alloc _).alloc _), ((((b2.alloc _).alloc _).alloc _).alloc _), (((b3.alloc _).alloc _).alloc _), (b5.alloc _), ⟨_, ((b4.alloc _).alloc _), World.ownsRow_nil _ _ _ _, by simp⟩⟩, hB0⟩, by simp⟩
  (fun j => { tmps := #[.slice a0 zs.length cap0, .int .u64 x, .pointer (some ⟨w.heap.size, 0, none⟩), .pointer (some ⟨w.heap.size + 1, 0, none⟩), .pointer (some ⟨w.heap.size + 1 + 1, 0, none⟩), .pointer (some ⟨w.heap.size + 1 + 1 + 1, 0, none⟩), .pointer (some ⟨w.heap.size + 1 + 1 + 1 + 1, 0, none⟩), .pointer (some ⟨w.heap.size + 1 + 1 + 1 + 1 + 1, 0, none⟩), .int .i64 (j.1 : Int), .int .i64 (sumTo zs j.1), undef, undef, .slice a0 zs.length cap0, .func (.func 261) #[] #[.pointer (some ⟨w.heap.size + 1 + 1 + 1 + 1 + 1 + 1, 0, none⟩)], .int .i64 (j.1 : Int), .int .i64 (sumTo zs j.1), undef, undef, undef, undef, undef, undef, undef, undef, undef, undef, undef, undef, undef, undef, undef, undef, undef, undef, undef, undef, undef, undef, undef, undef, undef, undef, undef, undef], defers := [] }) ?assign ?body ?done ?stop
 case assign =>
  intro l j W K hK
  gi_wp2
  exact hK
 case body =>
  rintro l pre j W ⟨⟨⟨hok, c0, c1, c2, c3, c5, v, c4, hrow, hnil⟩, hB⟩, hsz⟩ hlt
  have hx := j.2
  have hxi : ((j.1 : Nat) : Int) < (zs.length : Int) := by omega
  have hs := sumTo_bd zs j.1
  obtain ⟨bz, oz, z, ha0, hbz, hz, HZ⟩ := ints_at2 (H0.out.below hB) hx
  have k0 := c0.cell
  have k1 := c1.cell
  have k2 := c2.cell
  have k3 := c3.cell
  have k4 := c4.cell
  have f2 := c2.frozen
  have f3 := c3.frozen
  have hwide : ∀ f, Fence.wide.fn f = True := fun _ => rfl
  by_cases hin : 0 <= sumTo zs j.1 /\ 1 <= z /\ z <= 64 - sumTo zs j.1
  · obtain ⟨i0, i1, i2⟩ := hin
    gi_wp2
    refine region_quiet_round (F := Fence.wide) rfl (by kernel_rfl) (by kernel_rfl) (by kernel_rfl) ?_
    repeat (gi_big_quiet_step ((gi_at_call 224; exact CallsIn.quiet_of_same (callsIn_wide.2 (get_yes _ _ _ _ (by omega) (by omega) (by omega) (by omega) (by omega))))))
    refine wpQuietIn_nil ?_
    intro _ hw'
    obtain ⟨nq, hw''⟩ := hw'
    subst hw''
    clear hwide
    have hrowq : (W.drewN nq).ownsRow (w.heap.size + 1 + 1 + 1 + 1 + 1 + 1 + 1) 83 1 v pre.length (gets x zs pre) := hrow
    have HR : Hid (∀ k, v.ownBlock = some k -> (w.heap.size + 1 + 1 + 1 + 1 + 1 + 1 + 1) <= k) := fun k e => (hrow.lt k e).1
    clear hrow hnil
    gi_wp2_with (gi_at_builtin; refine wpListIn_append_own _ rfl _ _ 211 rfl (w.heap.size + 1 + 1 + 1 + 1 + 1 + 1 + 1) 83 it (.int .u64 0) 1 8 Tryz.underlying211 hi hz0 hz1 hz2 rfl (by decide) _ _ _ rfl (hrowq.alloc _) ⟨W.heap.size, 0, none⟩ 1 1 [.int .u64 (getF x (sumTo zs j.1) z)] rfl rfl (cell_one_new (W.drewN nq) _ _) (by simp [Value.oneCell']) (by unfold maxLen; omega) (by omega) (by simp; omega) ?_; intro v' w1 hown' hgrow _; obtain ⟨g', cap', rfl⟩ := ownsRow_succ hown'; obtain ⟨hv1, hv2, hr2, hk2, hb2⟩ := (boxed_drewN c4 nq).appended (by decide) (ownsRow_from hrowq (show w.heap.size <= (w.heap.size + 1 + 1 + 1 + 1 + 1 + 1 + 1) by omega)) (by simp; omega) (by omega) (ownsRow_from hown' (show w.heap.size <= (w.heap.size + 1 + 1 + 1 + 1 + 1 + 1 + 1) by omega)) hgrow; have d0 : Boxed w1 w.heap.size 147 (.slice a0 zs.length cap0) := ((boxed_drewN c0 nq).alloc _).kept hgrow (fun e => by have := HR.out _ e.symm; omega); have d5 : Boxed w1 (w.heap.size + 1 + 1 + 1 + 1 + 1) 3 (.int .i64 (endOf zs pre)) := ((boxed_drewN c5 nq).alloc _).kept hgrow (fun e => by have := HR.out _ e.symm; omega); have hb1 : Below w.heap.size (W.drewN nq) w1 := ((Below.refl _ _).alloc (by simp; omega) _).grown hgrow (by simp; omega) (fun k e => by have := HR.out k e; omega); have hzw : w1.cell? ⟨bz, oz + j.1, none⟩ = some (.int .i64 z) := (hb1.cell (p := ⟨bz, oz + j.1, none⟩) hbz).trans hz; have m0 := d0.cell; have m5 := d5.cell; have q5 := d5.frozen; have m4 := hv1.cell; have q4 := hv1.frozen)
    have d1 : Boxed w1 (w.heap.size + 1) 83 (.int .u64 x) := ((boxed_drewN c1 nq).alloc _).kept hgrow (fun e => by have := HR.out _ e.symm; omega)
    have d2 : Boxed w1 (w.heap.size + 1 + 1) 211 (.slice none 0 0) := ((boxed_drewN c2 nq).alloc _).kept hgrow (fun e => by have := HR.out _ e.symm; omega)
    have d3 : Boxed w1 (w.heap.size + 1 + 1 + 1) 32 (.int .i64 0) := ((boxed_drewN c3 nq).alloc _).kept hgrow (fun e => by have := HR.out _ e.symm; omega)
    have hsum : sumTo zs (j.1 + 1) = sumTo zs j.1 + z := by
     show wrap64 (sumTo zs j.1 + zs[j.1]?.getD 0) = _
     rw [HZ.out, IntWalk.wrap64_in _ (by omega)]
    have hokj : okU zs j.1 = true := by unfold okU; rw [HZ.out]; exact (inB_iff _ _).2 ⟨i0, i1, i2⟩
    have hbW := (below_drewN (Below.refl w.heap.size W) nq).trans hb2
    refine ⟨(((others_drewN W nq).trans hk2).trans (KeepsOthers.setCell _ _ _)).from _, hbW.setCell (p := ⟨w.heap.size + 1 + 1 + 1 + 1 + 1, 0, none⟩) (by simp; omega) _,
     ⟨⟨fun i hi => (List.mem_append.1 hi).elim (hok i) (fun e => by simp at e; subst e; exact hokj), ?_, ?_, ?_, ?_, ?_, ⟨_, hv2.other (by omega) _, ?_, by simp⟩⟩, (hB.trans hbW).setCell (p := ⟨w.heap.size + 1 + 1 + 1 + 1 + 1, 0, none⟩) (by simp; omega) _⟩, ?_⟩
    · exact (d0.other (by omega) _).other (by omega) _
    · exact (d1.other (by omega) _).other (by omega) _
    · exact (d2.other (by omega) _).other (by omega) _
    · exact (d3.other (by omega) _).other (by omega) _
    · rw [endOf_snoc, hsum]; exact (d5.other (by omega) _).set _
    · rw [gets_snoc, HZ.out, List.length_append, List.length_singleton]
      exact ownsRow_setCell_below (ownsRow_setCell_below hown' (show w.heap.size + 1 + 1 + 1 + 1 < (w.heap.size + 1 + 1 + 1 + 1 + 1 + 1 + 1) by omega) _) (show w.heap.size + 1 + 1 + 1 + 1 + 1 < (w.heap.size + 1 + 1 + 1 + 1 + 1 + 1 + 1) by omega) _
    · have := hgrow.size; simp at this ⊢; omega
  · have HN : Hid (¬ (0 <= sumTo zs j.1 /\ 1 <= z /\ z <= 64 - sumTo zs j.1)) := hin
    clear hin
    gi_wp2
    refine region_quiet_round (F := Fence.wide) rfl (by kernel_rfl) (by kernel_rfl) (by kernel_rfl) ?_
    repeat (gi_big_quiet_step ((gi_at_call 224; exact CallsIn.quiet_of_same (callsIn_wide.2 (get_no _ _ _ _ HN.out (by omega))))))
    refine wpQuietIn_nil ?_
    intro _ hw'
    obtain ⟨nq, hw''⟩ := hw'
    subst hw''
    clear hwide
    gi_wp2
    have hbad : okU zs j.1 = false := by
     unfold okU
     rw [HZ.out]
     cases hb : inB (sumTo zs j.1) z
     · rfl
     · exact absurd ((inB_iff _ _).1 hb) HN.out
    exact ⟨(((others_drewN W nq).trans (KeepsOthers.setCell _ _ _)).trans (KeepsOthers.setCell _ _ _)).from _,
     ⟨rfl, ⟨j, by simp, hbad⟩, ((boxed_drewN c2 nq).set _).other (by omega) _, ((boxed_drewN c3 nq).other (by omega) _).set _⟩,
     ((below_drewN hB nq).setCell (p := ⟨w.heap.size + 1 + 1, 0, none⟩) (by simp; omega) _).setCell (p := ⟨w.heap.size + 1 + 1 + 1, 0, none⟩) (by simp; omega) _⟩
 case done =>
  rintro D ys W hD rfl ⟨⟨⟨hok, c0, c1, c2, c3, c5, v, c4, hrow, hnil⟩, hB⟩, hsz⟩ hK
  rw [endOf_all] at c5
  rw [upto_length (Nat.le_refl _)] at hrow
  obtain ⟨av, cv, rfl⟩ := ownsRow_slice hrow
  clear hnil
  have k1 := c1.cell
  have k5 := c5.cell
  have k4 := c4.cell
  have k2 := c2.cell
  have f2 := c2.frozen
  have k3 := c3.cell
  have f3 := c3.frozen
  cases hf : fitsB x (sumTo zs zs.length)
  · gi_wp2_with (refine ⟨trivial, ?_⟩; gi_at_call 225; refine (callsIn_wide.2 (fits_any _ _ _ (by omega) (by omega))).mono ?_; rintro e w' ⟨rfl, rfl⟩)
    have hK1 := (KeepsOthers.setCell w' ⟨w.heap.size + 1 + 1, 0, none⟩ (.slice none 0 0)).same D _ hK rfl
    have hK2 := (KeepsOthers.setCell (w'.setCell ⟨w.heap.size + 1 + 1, 0, none⟩ (.slice none 0 0)) ⟨w.heap.size + 1 + 1 + 1, 0, none⟩ (.int .i64 1)).same D _ hK1 rfl
    refine ⟨by simp, .inl ⟨_, _, rfl, run_takeDeferred hK2, ?_⟩⟩
    have e2 := cell_kept ((c2.set (.slice none 0 0)).other (B' := w.heap.size + 1 + 1 + 1) (by omega) (.int .i64 1)).cell (grownBy_putObj' _ D (.deferred none)) (fun r e => by cases e; exact ⟨_, hK2, rfl⟩)
    have e3 := cell_kept ((c3.other (B' := w.heap.size + 1 + 1) (by omega) (.slice none 0 0)).set (.int .i64 1)).cell (grownBy_putObj' _ D (.deferred none)) (fun r e => by cases e; exact ⟨_, hK2, rfl⟩)
    refine ⟨.tuple #[.slice none 0 0, .int .i64 1], by simp [results, Tryz.f140, go_sem, e2, e3], .inr ⟨.inr hf, rfl⟩, ?_⟩
    exact ((hB.setCell (p := ⟨w.heap.size + 1 + 1, 0, none⟩) (by simp; omega) _).setCell (p := ⟨w.heap.size + 1 + 1 + 1, 0, none⟩) (by simp; omega) _).trans (belowK_b (w := w) (Nat.le_refl _) _ D _ _ (by simp at hD; omega) hK2 rfl rfl)
  · gi_wp2_with (refine ⟨trivial, ?_⟩; gi_at_call 225; refine (callsIn_wide.2 (fits_any _ _ _ (by omega) (by omega))).mono ?_; rintro e w' ⟨rfl, rfl⟩)
    have hK1 := (KeepsOthers.setCell w' ⟨w.heap.size + 1 + 1, 0, none⟩ (.slice av zs.length cv)).same D _ hK rfl
    have hK2 := (KeepsOthers.setCell (w'.setCell ⟨w.heap.size + 1 + 1, 0, none⟩ (.slice av zs.length cv)) ⟨w.heap.size + 1 + 1 + 1, 0, none⟩ (.int .i64 0)).same D _ hK1 rfl
    refine ⟨by simp, .inl ⟨_, _, rfl, run_takeDeferred hK2, ?_⟩⟩
    have e2 := cell_kept ((c2.set (.slice av zs.length cv)).other (B' := w.heap.size + 1 + 1 + 1) (by omega) (.int .i64 0)).cell (grownBy_putObj' _ D (.deferred none)) (fun r e => by cases e; exact ⟨_, hK2, rfl⟩)
    have e3 := cell_kept ((c3.other (B' := w.heap.size + 1 + 1) (by omega) (.slice av zs.length cv)).set (.int .i64 0)).cell (grownBy_putObj' _ D (.deferred none)) (fun r e => by cases e; exact ⟨_, hK2, rfl⟩)
    refine ⟨.tuple #[.slice av zs.length cv, .int .i64 0], by simp [results, Tryz.f140, go_sem, e2, e3], .inl ⟨fun j hj => hok ⟨j, hj⟩ (upto_mem hj), hf, _, rfl, ownsRow_putObj (ownsRow_setCell_below (ownsRow_setCell_below (ownsRow_from hrow (Nat.le_refl _)) (show w.heap.size + 1 + 1 < w.heap.size + 1 + 1 + 1 + 1 + 1 + 1 + 1 by omega) _) (show w.heap.size + 1 + 1 + 1 < w.heap.size + 1 + 1 + 1 + 1 + 1 + 1 + 1 by omega) _) _ hK2 rfl |> fun h => ownsRow_from h (by omega)⟩, ?_⟩
    exact ((hB.setCell (p := ⟨w.heap.size + 1 + 1, 0, none⟩) (by simp; omega) _).setCell (p := ⟨w.heap.size + 1 + 1 + 1, 0, none⟩) (by simp; omega) _).trans (belowK_b (w := w) (Nat.le_refl _) _ D _ _ (by simp at hD; omega) hK2 rfl rfl)
 case stop =>
  rintro D c pre W hD ⟨k, hk, rfl⟩ ⟨⟨rfl, ⟨j, hj, hbad⟩, c2, c3⟩, hB⟩ hK
  gi_wp2
  refine ⟨by simp, .inl ⟨_, _, rfl, run_takeDeferred hK, ?_⟩⟩
  have e2 := cell_kept c2.cell (grownBy_putObj' _ D (.deferred none)) (fun r e => by cases e; exact ⟨_, hK, rfl⟩)
  have e3 := cell_kept c3.cell (grownBy_putObj' _ D (.deferred none)) (fun r e => by cases e; exact ⟨_, hK, rfl⟩)
  refine ⟨.tuple #[.slice none 0 0, .int .i64 1], by simp [results, Tryz.f140, go_sem, e2, e3], .inr ⟨.inl ⟨j.1, j.2, hbad⟩, rfl⟩, ?_⟩
  exact hB.trans (belowK_b (w := w) (Nat.le_refl _) _ D _ _ (by simp at hD; omega) hK rfl rfl)
end Pfield
namespace Pfield
open Go.RowKit M
theorem sumTo_step {zs : List Int} {k : Nat} {z : Int} (h : zs[k]?.getD 0 = z) (h0 : 0 <= sumTo zs k) (h1 : 1 <= z) (h2 : z <= 64 - sumTo zs k) : sumTo zs (k + 1) = sumTo zs k + z := by
 show wrap64 (sumTo zs k + zs[k]?.getD 0) = _
 rw [h, IntWalk.wrap64_in _ (by omega)]
theorem pk_ok {zs vs : List Int} {k : Nat} (h : ∀ j, j < k -> okP zs vs j = true) (hk : k <= zs.length) : ∀ j ∈ upto zs.length k, okP zs vs j.1 = true := by
 intro j hj
 apply h
 unfold upto at hj
 obtain ⟨i, hi, e⟩ := List.mem_iff_getElem.1 hj
 simp at e hi
 have : i = j.1 := by rw [<- e]
 omega
theorem rpack_in (a0 a1 : Option Addr) (cap0 cap1 : Nat) (zs vs : List Int) (w : World) (hl0 : zs.length <= 9223372036854775807) (hlv : zs.length = vs.length)
 (hv : ∀ j : Nat, 0 <= vs[j]?.getD 0 /\ vs[j]?.getD 0 <= 18446744073709551615)
 (hI0 : Ints .i64 w.heap.size w (.slice a0 zs.length cap0) zs) (hI1 : Ints .u64 w.heap.size w (.slice a1 zs.length cap1) vs) :
 Calls Tryz.prog 255 #[.slice a0 zs.length cap0, .slice a1 zs.length cap1] w fun e W' =>
  ((∀ j, j < zs.length -> okP zs vs j = true) /\ e = .returned (.tuple #[.int .u64 (packs zs vs (upto zs.length zs.length)), .int .i64 0]) \/
   (∃ j, j < zs.length /\ okP zs vs j = false) /\ e = .returned (.tuple #[.int .u64 0, .int .i64 1])) /\ ∃ m, W' = w.drewN m := by
 have HL : Hid (zs.length = vs.length) := hlv
 have HV : Hid (∀ j : Nat, 0 <= vs[j]?.getD 0 /\ vs[j]?.getD 0 <= 18446744073709551615) := hv
 have H0 : Hid (Ints .i64 w.heap.size w (.slice a0 zs.length cap0) zs) := hI0
 have H1 : Hid (Ints .u64 w.heap.size w (.slice a1 zs.length cap1) vs) := hI1
 clear hlv hv hI0 hI1
 go_enter Tryz.func255, Tryz.ntmps255
 go_wp2
 go_loopw [6, 7, 8] (fun s t i wr => ∃ k m : Nat, k <= zs.length /\ i = .int .i64 k /\ t = .int .i64 (sumTo zs k) /\ s = .int .u64 (packs zs vs (upto zs.length k)) /\ (∀ j, j < k -> okP zs vs j = true) /\ wr = w.drewN m)
  (fun _ _ i _ => zs.length - (intOf i).toNat)
 case atStart => exact ⟨0, 0, Nat.zero_le _, rfl, rfl, rfl, fun j hj => by omega, rfl⟩
 case round =>
  obtain ⟨k, m, hk, rfl, rfl, rfl, hok0, hwr0⟩ := hrel
  have hwr : Hid (wr = w.drewN m) := hwr0
  have HA : Ints .i64 w.heap.size wr (.slice a0 zs.length cap0) zs := by rw [hwr0]; exact H0.out
  have HB : Ints .u64 w.heap.size wr (.slice a1 zs.length cap1) vs := by rw [hwr0]; exact H1.out
  have H0' : Hid (Ints .i64 w.heap.size wr (.slice a0 zs.length cap0) zs) := HA
  have H1' : Hid (Ints .u64 w.heap.size wr (.slice a1 zs.length cap1) vs) := HB
  clear hwr0 HA HB
  have hok : Hid (∀ j, j < k -> okP zs vs j = true) := hok0
  clear hok0
  have hs := sumTo_bd zs k
  have hp := packs_bd zs vs _ (pk_ok hok.out hk)
  by_cases hlt : k < zs.length
  · obtain ⟨bz, oz, z, ha0, hz, HZ⟩ := ints_at' H0'.out hlt
    obtain ⟨bv, ov, v, ha1, hvv, HW⟩ := ints_at' H1'.out (show k < vs.length by have := HL.out; omega)
    have hvx : 0 <= v /\ v <= 18446744073709551615 := by rw [<- HW.out]; exact HV.out k
    have hki : ((k : Nat) : Int) < (zs.length : Int) := by omega
    by_cases hin : 0 <= sumTo zs k /\ 1 <= z /\ z <= 64 - sumTo zs k
    · obtain ⟨i0, i1, i2⟩ := hin
      cases hf : fitsB v z
      · go_wp2
        go_quiet ((go_at_call 283; exact Calls.quiet_of_same (rput_unfit _ _ _ _ _ (by omega) (by omega) (by omega) (by omega) (by omega) hf)))
        go_wp2
        go_ret2
        refine ⟨.inr ⟨⟨k, hlt, ?_⟩, rfl⟩, _, by rw [hwr.out]; exact World.drewN_drewN _ _ _⟩
        unfold okP; rw [HZ.out, HW.out, hf, Bool.and_false]
      · have hst := sumTo_step HZ.out i0 i1 i2
        have HS : Hid (sumTo zs (k + 1) = sumTo zs k + z) := hst
        clear hst
        go_wp2
        go_quiet ((go_at_call 283; exact Calls.quiet_of_same (rput_yes _ _ _ _ _ (by omega) (by omega) (by omega) (by omega) (by omega) (by omega) (by omega) hf)))
        go_wp2
        go_roundw
        case rel =>
         refine ⟨k + 1, _, by omega, by go_num, by rw [HS.out], ?_, fun j hj => ?_, by rw [hwr.out]; exact World.drewN_drewN _ _ _⟩
         · rw [upto_succ hlt, packs_snoc, HZ.out, HW.out]
         · by_cases e : j = k
           · subst e; unfold okP; rw [HZ.out, HW.out, hf, (inB_iff _ _).2 ⟨i0, i1, i2⟩]; rfl
           · exact hok.out j (by omega)
        case measure => simp [intOf]; omega
    · have HN : Hid (¬ (0 <= sumTo zs k /\ 1 <= z /\ z <= 64 - sumTo zs k)) := hin
      clear hin
      go_wp2
      go_quiet ((go_at_call 283; exact Calls.quiet_of_same (rput_out _ _ _ _ _ HN.out (by omega))))
      go_wp2
      go_ret2
      refine ⟨.inr ⟨⟨k, hlt, ?_⟩, rfl⟩, _, by rw [hwr.out]; exact World.drewN_drewN _ _ _⟩
      unfold okP
      rw [HZ.out]
      cases hb : inB (sumTo zs k) z
      · rfl
      · exact absurd ((inB_iff _ _).1 hb) HN.out
  · obtain rfl : k = zs.length := by omega
    go_wp2
    go_ret2
    exact ⟨.inl ⟨hok.out, rfl⟩, m, hwr.out⟩
theorem runpack_in (a0 : Option Addr) (cap0 : Nat) (zs : List Int) (x : Int) (w : World) (hl0 : zs.length <= 1000) (hx0 : 0 <= x /\ x <= 18446744073709551615)
 (hI0 : Ints .i64 w.heap.size w (.slice a0 zs.length cap0) zs) :
 Calls Tryz.prog 233 #[.slice a0 zs.length cap0, .int .u64 x] w fun e W' =>
  (((∀ j, j < zs.length -> okU zs j = true) /\ fitsB x (sumTo zs zs.length) = true /\ ∃ v, e = .returned (.tuple #[v, .int .i64 0]) /\ W'.ownsRow w.heap.size 83 1 v zs.length (gets x zs (upto zs.length zs.length))) \/
   (((∃ j, j < zs.length /\ okU zs j = false) \/ fitsB x (sumTo zs zs.length) = false) /\ e = .returned (.tuple #[.slice none 0 0, .int .i64 1]))) /\ Below w.heap.size w W' := by
 have H0 : Hid (Ints .i64 w.heap.size w (.slice a0 zs.length cap0) zs) := hI0
 clear hI0
 obtain ⟨it, hi, hz0, hz1, hz2⟩ := info_parts infoWord
 go_enter Tryz.func233, Tryz.ntmps233
 go_wp2
 go_loopw [6, 7, 8] (fun s t i wr => ∃ (k : Nat) (v : Value), k <= zs.length /\ i = .int .i64 k /\ t = .int .i64 (sumTo zs k) /\ s = v /\ wr.ownsRow w.heap.size 83 1 v k (gets x zs (upto zs.length k)) /\ (∀ j, j < k -> okU zs j = true) /\ Below w.heap.size w wr)
  (fun _ _ i _ => zs.length - (intOf i).toNat)
 case atStart => exact ⟨0, _, Nat.zero_le _, rfl, rfl, rfl, World.ownsRow_nil _ _ _ _, fun j hj => by omega, Below.refl _ _⟩
 case round =>
  obtain ⟨k, v, hk, rfl, rfl, hv, hrow, hok0, hB0⟩ := hrel
  obtain ⟨av, cv, hvs⟩ := ownsRow_slice hrow
  subst hv
  subst hvs
  have hok : Hid (∀ j, j < k -> okU zs j = true) := hok0
  have hB : Hid (Below w.heap.size w wr) := hB0
  have hsz : w.heap.size <= wr.heap.size := hB0.size
  clear hok0 hB0
  have hs := sumTo_bd zs k
  by_cases hlt : k < zs.length
  · obtain ⟨bz, oz, z, rfl, hbz, hz, HZ⟩ := ints_at2 (H0.out.below hB.out) hlt
    have hki : ((k : Nat) : Int) < (zs.length : Int) := by omega
    by_cases hin : 0 <= sumTo zs k /\ 1 <= z /\ z <= 64 - sumTo zs k
    · obtain ⟨i0, i1, i2⟩ := hin
      have HS : Hid (sumTo zs (k + 1) = sumTo zs k + z) := sumTo_step HZ.out i0 i1 i2
      have HR : Hid (∀ g, (Value.slice av k cv).ownBlock = some g -> w.heap.size <= g) := fun g e => (hrow.lt g e).1
      go_wp2_with (first
       | (go_at_call 273; refine (rget_yes _ _ _ _ (by omega) (by omega) (by omega) (by omega) (by omega)).mono ?_; rintro e w' ⟨rfl, hw'⟩; subst w')
       | (at_builtin; refine wpList_append_own _ rfl _ _ 211 rfl w.heap.size 83 it (.int .u64 0) 1 8 Tryz.underlying211 hi hz0 hz1 hz2 rfl (by decide) _ _ _ rfl (hrow.alloc _) ⟨wr.heap.size, 0, none⟩ 1 1 [.int .u64 (getF x (sumTo zs k) z)] rfl rfl (cell_one_new wr _ _) (by simp [Value.oneCell']) (by unfold maxLen; omega) (by omega) (by simp; omega) ?_; intro v' w1 hown' hgrow _; obtain ⟨g', cap', rfl⟩ := ownsRow_succ hown'; have hb1 : Below w.heap.size wr w1 := ((Below.refl _ _).alloc (by omega) _).grown hgrow (by simp; omega) (fun k e => HR.out k e); have hzw : w1.cell? ⟨bz, oz + k, none⟩ = some (.int .i64 z) := (hb1.cell (p := ⟨bz, oz + k, none⟩) hbz).trans hz))
      go_roundw
      case rel =>
       refine ⟨k + 1, _, by omega, by go_num, by rw [HS.out], rfl, ?_, fun j hj => ?_, hB.out.trans hb1⟩
       · rw [upto_succ hlt, gets_snoc, HZ.out]; exact hown'
       · by_cases e : j = k
         · subst e; unfold okU; rw [HZ.out]; exact (inB_iff _ _).2 ⟨i0, i1, i2⟩
         · exact hok.out j (by omega)
      case measure => simp [intOf]; omega
    · have HN : Hid (¬ (0 <= sumTo zs k /\ 1 <= z /\ z <= 64 - sumTo zs k)) := hin
      clear hin
      go_wp2_with (go_at_call 273; refine (rget_no _ _ _ _ HN.out (by omega)).mono ?_; rintro e w' ⟨rfl, hw'⟩; subst w')
      go_ret2
      refine ⟨.inr ⟨.inl ⟨k, hlt, ?_⟩, rfl⟩, hB.out⟩
      unfold okU
      rw [HZ.out]
      cases hb : inB (sumTo zs k) z
      · rfl
      · exact absurd ((inB_iff _ _).1 hb) HN.out
  · obtain rfl : k = zs.length := by omega
    cases hf : fitsB x (sumTo zs zs.length)
    · go_wp2_with (go_at_call 274; refine (rfits_any _ _ _ (by omega) (by omega)).mono ?_; rintro e w' ⟨rfl, hw'⟩; subst w')
      go_ret2
      exact ⟨.inr ⟨.inr hf, rfl⟩, hB.out⟩
    · go_wp2_with (go_at_call 274; refine (rfits_any _ _ _ (by omega) (by omega)).mono ?_; rintro e w' ⟨rfl, hw'⟩; subst w')
      go_ret2
      exact ⟨.inl ⟨hok.out, hf, _, rfl, hrow⟩, hB.out⟩
def packF (zs vs : List Int) : Int := packs zs vs (upto zs.length zs.length)
def getsI (x : Int) (zs : List Int) : List Int := (upto zs.length zs.length).map fun j => getF x (sumTo zs j.1) (zs[j.1]?.getD 0)
theorem getsI_length (x : Int) (zs : List Int) : (getsI x zs).length = zs.length := by simp [getsI, upto_length]
theorem getsI_gets (x : Int) (zs : List Int) : gets x zs (upto zs.length zs.length) = (getsI x zs).map (Value.int .u64) := by simp [gets, getsI]
theorem getsI_at (x : Int) (zs : List Int) {k : Nat} (hk : k < zs.length) : (getsI x zs)[k]?.getD 0 = getF x (sumTo zs k) (zs[k]?.getD 0) := by
 have hl : k < (getsI x zs).length := by rw [getsI_length]; exact hk
 rw [List.getElem?_eq_getElem hl, Option.getD_some]
 simp [getsI, upto, hk]
theorem Ints.up {q : IntKind} {n₀ n₁ : Nat} {W : World} {sv : Value} {zs : List Int} (h : Ints q n₀ W sv zs) (hn : n₀ <= n₁) : Ints q n₁ W sv zs :=
 match h with
 | .inl h => .inl h
 | .inr ⟨b, off, cap, e, hb, hc⟩ => .inr ⟨b, off, cap, e, by omega, hc⟩
theorem Ints.on {q : IntKind} {w W : World} {sv : Value} {zs : List Int} (h : Ints q w.heap.size w sv zs) (hB : Below w.heap.size w W) : Ints q W.heap.size W sv zs := (h.below hB).up hB.size
theorem ints_of_row {W : World} {base : Nat} {v : Value} {n : Nat} {xs : List Int} (h : W.ownsRow base 83 1 v n (xs.map (Value.int .u64))) (hn : xs.length = n) : ∃ a c, v = .slice a n c /\ Ints .u64 W.heap.size W (.slice a n c) xs := by
 subst hn
 rcases h.2 with ⟨rfl, h0⟩ | ⟨g, cap, cur, rfl, hg, hb, h1, h2, h3, h4⟩
 · refine ⟨none, 0, by rw [h0], .inl ⟨none, 0, by rw [h0], by simpa using h0⟩⟩
 · refine ⟨_, _, rfl, .inr ⟨g, 0, cap, rfl, (Array.getElem?_eq_some_iff.1 hb).1, fun j hj => ?_⟩⟩
   have hc := h.cellAt (g := g) j (by simpa using hj)
   rw [Nat.zero_add, hc]
   simp [hj]
theorem pack_ok (a0 a1 : Option Addr) (cap0 cap1 : Nat) (zs vs : List Int) (w : World) (hl0 : zs.length <= 100) (hlv : zs.length = vs.length) (hv : ∀ j : Nat, 0 <= vs[j]?.getD 0 /\ vs[j]?.getD 0 <= 18446744073709551615) (hI0 : Ints .i64 w.heap.size w (.slice a0 zs.length cap0) zs) (hI1 : Ints .u64 w.heap.size w (.slice a1 zs.length cap1) vs) (hA : ∀ j, j < zs.length -> okP zs vs j = true) :
 Calls Tryz.prog 220 #[.slice a0 zs.length cap0, .slice a1 zs.length cap1] w fun e W' => e = .returned (.tuple #[.int .u64 (packF zs vs), .int .i64 0]) /\ Below w.heap.size w W' :=
 (pack_in a0 a1 cap0 cap1 zs vs w (by omega) hlv hv hI0 hI1).mono fun e W' ⟨h, hB⟩ => by
   rcases h with ⟨_, he⟩ | ⟨⟨j, hj, hb⟩, _⟩
   · exact ⟨he, hB⟩
   · rw [hA j hj] at hb; cases hb
theorem rpack_ok (a0 a1 : Option Addr) (cap0 cap1 : Nat) (zs vs : List Int) (w : World) (hl0 : zs.length <= 100) (hlv : zs.length = vs.length) (hv : ∀ j : Nat, 0 <= vs[j]?.getD 0 /\ vs[j]?.getD 0 <= 18446744073709551615) (hI0 : Ints .i64 w.heap.size w (.slice a0 zs.length cap0) zs) (hI1 : Ints .u64 w.heap.size w (.slice a1 zs.length cap1) vs) (hA : ∀ j, j < zs.length -> okP zs vs j = true) :
 Calls Tryz.prog 255 #[.slice a0 zs.length cap0, .slice a1 zs.length cap1] w fun e W' => e = .returned (.tuple #[.int .u64 (packF zs vs), .int .i64 0]) /\ Below w.heap.size w W' :=
 (rpack_in a0 a1 cap0 cap1 zs vs w (by omega) hlv hv hI0 hI1).mono fun e W' ⟨h, m, hm⟩ => by
   subst hm
   rcases h with ⟨_, he⟩ | ⟨⟨j, hj, hb⟩, _⟩
   · exact ⟨he, below_drewN (Below.refl _ _) _⟩
   · rw [hA j hj] at hb; cases hb
def canU (x : Int) (zs : List Int) : Prop := (∀ j, j < zs.length -> okU zs j = true) /\ fitsB x (sumTo zs zs.length) = true
theorem unpack_ok (a0 : Option Addr) (cap0 : Nat) (zs : List Int) (x : Int) (w : World) (hl0 : zs.length <= 100) (hx0 : 0 <= x /\ x <= 18446744073709551615) (hI0 : Ints .i64 w.heap.size w (.slice a0 zs.length cap0) zs) (hA : canU x zs) :
 Calls Tryz.prog 140 #[.slice a0 zs.length cap0, .int .u64 x] w fun e W' => ∃ a c, e = .returned (.tuple #[.slice a zs.length c, .int .i64 0]) /\ Ints .u64 W'.heap.size W' (.slice a zs.length c) (getsI x zs) /\ Below w.heap.size w W' :=
 (unpack_in a0 cap0 zs x w (by omega) hx0 hI0).mono fun e W' ⟨h, hB⟩ => by
   rcases h with ⟨_, _, v, he, hr⟩ | ⟨h, _⟩
   · rw [getsI_gets] at hr
     obtain ⟨a, c, rfl, hi⟩ := ints_of_row hr (getsI_length x zs)
     exact ⟨a, c, he, hi, hB⟩
   · rcases h with ⟨j, hj, hb⟩ | hb
     · rw [hA.1 j hj] at hb; cases hb
     · rw [hA.2] at hb; cases hb
theorem runpack_ok (a0 : Option Addr) (cap0 : Nat) (zs : List Int) (x : Int) (w : World) (hl0 : zs.length <= 100) (hx0 : 0 <= x /\ x <= 18446744073709551615) (hI0 : Ints .i64 w.heap.size w (.slice a0 zs.length cap0) zs) (hA : canU x zs) :
 Calls Tryz.prog 233 #[.slice a0 zs.length cap0, .int .u64 x] w fun e W' => ∃ a c, e = .returned (.tuple #[.slice a zs.length c, .int .i64 0]) /\ Ints .u64 W'.heap.size W' (.slice a zs.length c) (getsI x zs) /\ Below w.heap.size w W' :=
 (runpack_in a0 cap0 zs x w (by omega) hx0 hI0).mono fun e W' ⟨h, hB⟩ => by
   rcases h with ⟨_, _, v, he, hr⟩ | ⟨h, _⟩
   · rw [getsI_gets] at hr
     obtain ⟨a, c, rfl, hi⟩ := ints_of_row hr (getsI_length x zs)
     exact ⟨a, c, he, hi, hB⟩
   · rcases h with ⟨j, hj, hb⟩ | hb
     · rw [hA.1 j hj] at hb; cases hb
     · rw [hA.2] at hb; cases hb
theorem unpack_bad (a0 : Option Addr) (cap0 : Nat) (zs : List Int) (x : Int) (w : World) (hl0 : zs.length <= 100) (hx0 : 0 <= x /\ x <= 18446744073709551615) (hI0 : Ints .i64 w.heap.size w (.slice a0 zs.length cap0) zs) (hA : ¬ canU x zs) :
 Calls Tryz.prog 140 #[.slice a0 zs.length cap0, .int .u64 x] w fun e W' => e = .returned (.tuple #[.slice none 0 0, .int .i64 1]) /\ Below w.heap.size w W' :=
 (unpack_in a0 cap0 zs x w (by omega) hx0 hI0).mono fun e W' ⟨h, hB⟩ => by
   rcases h with ⟨h1, h2, _⟩ | ⟨_, he⟩
   · exact absurd ⟨h1, h2⟩ hA
   · exact ⟨he, hB⟩
theorem runpack_bad (a0 : Option Addr) (cap0 : Nat) (zs : List Int) (x : Int) (w : World) (hl0 : zs.length <= 100) (hx0 : 0 <= x /\ x <= 18446744073709551615) (hI0 : Ints .i64 w.heap.size w (.slice a0 zs.length cap0) zs) (hA : ¬ canU x zs) :
 Calls Tryz.prog 233 #[.slice a0 zs.length cap0, .int .u64 x] w fun e W' => e = .returned (.tuple #[.slice none 0 0, .int .i64 1]) /\ Below w.heap.size w W' :=
 (runpack_in a0 cap0 zs x w (by omega) hx0 hI0).mono fun e W' ⟨h, hB⟩ => by
   rcases h with ⟨h1, h2, _⟩ | ⟨_, he⟩
   · exact absurd ⟨h1, h2⟩ hA
   · exact ⟨he, hB⟩
theorem put_low (x s z : Nat) (h : s + z <= 64) (hx : x <= 18446744073709551615) : putN (x % 2 ^ s) s z (getN x s z) = x % 2 ^ (s + z) := by
 have hm : x % 2 ^ s <= x := Nat.mod_le _ _
 apply Nat.eq_of_testBit_eq
 intro i
 rw [testBit_putN _ _ _ _ _ h (by omega) (getN_lt _ _ _), Nat.testBit_mod_two_pow, Nat.testBit_mod_two_pow]
 by_cases h1 : s <= i /\ i < s + z
 · rw [if_pos h1, testBit_getN, show s + (i - s) = i by omega]
   simp [h1.2]; omega
 · rw [if_neg h1]
   by_cases h2 : i < s
   · simp [h2, show i < s + z by omega]
   · simp [h2, show ¬ i < s + z by omega]
theorem put_fits (x s z v : Nat) (h : s + z <= 64) (hx : x < 2 ^ s) (hv : v < 2 ^ z) : putN x s z v < 2 ^ (s + z) := by
 have hp := pow_le_64 (k := s) (by omega)
 apply Nat.lt_pow_two_of_testBit
 intro i hi
 rw [testBit_putN _ _ _ _ _ h (by omega) hv, if_neg (by omega)]
 exact Nat.testBit_lt_two_pow (Nat.lt_of_lt_of_le hx (Nat.pow_le_pow_right (show 0 < 2 by omega) (by omega)))
theorem fits_iff {v s : Int} (h0 : 0 <= v) (h1 : 0 <= s) (h2 : s <= 64) : fitsB v s = true ↔ v.toNat < 2 ^ s.toNat := by
 constructor
 · intro h; exact fits_lt h h2
 · intro h
   unfold fitsB maskF
   rw [show min s 64 = s by omega, decide_eq_true_eq]
   have := Nat.two_pow_pos s.toNat
   omega
def okTo (zs : List Int) (k : Nat) : Prop := ∀ j, j < k -> 0 <= sumTo zs j /\ 1 <= zs[j]?.getD 0 /\ zs[j]?.getD 0 <= 64 - sumTo zs j
theorem okTo_step {zs : List Int} {k : Nat} (h : okTo zs (k + 1)) : sumTo zs (k + 1) = sumTo zs k + zs[k]?.getD 0 := by
 obtain ⟨h0, h1, h2⟩ := h k (by omega)
 exact sumTo_step rfl h0 h1 h2
theorem okTo_less {zs : List Int} {k j : Nat} (h : okTo zs k) (hj : j <= k) : okTo zs j := fun i hi => h i (by omega)
theorem okTo_bd {zs : List Int} : ∀ {k : Nat}, okTo zs k -> 0 <= sumTo zs k /\ sumTo zs k <= 64
 | 0, _ => by simp [sumTo]
 | k + 1, h => by
   rw [okTo_step h]
   obtain ⟨h0, h1, h2⟩ := h k (by omega)
   omega
theorem okTo_mono {zs : List Int} : ∀ {k j : Nat}, okTo zs k -> j <= k -> sumTo zs j <= sumTo zs k
 | 0, j, _, hj => by rw [show j = 0 by omega]; omega
 | k + 1, j, h, hj => by
   by_cases e : j = k + 1
   · rw [e]; omega
   · have h1 := okTo_mono (okTo_less h (Nat.le_succ k)) (show j <= k by omega)
     rw [okTo_step h]
     obtain ⟨_, h2, _⟩ := h k (by omega)
     omega
def pk (zs vs : List Int) (k : Nat) : Int := packs zs vs (upto zs.length k)
theorem pk_zero (zs vs : List Int) : pk zs vs 0 = 0 := rfl
theorem pk_succ {zs vs : List Int} {k : Nat} (h : k < zs.length) : pk zs vs (k + 1) = putF (pk zs vs k) (sumTo zs k) (zs[k]?.getD 0) (vs[k]?.getD 0) := by
 unfold pk
 rw [upto_succ h, packs_snoc]
theorem okP_okTo {zs vs : List Int} {k : Nat} (h : ∀ j, j < k -> okP zs vs j = true) : okTo zs k := fun j hj => (ok_parts (h j hj)).1
theorem pk_inv {zs vs : List Int} (hv : ∀ j : Nat, 0 <= vs[j]?.getD 0 /\ vs[j]?.getD 0 <= 18446744073709551615) : ∀ {k : Nat}, k <= zs.length -> (∀ j, j < k -> okP zs vs j = true) ->
 0 <= pk zs vs k /\ pk zs vs k <= 18446744073709551615 /\ (pk zs vs k).toNat < 2 ^ (sumTo zs k).toNat /\ ∀ j, j < k -> getF (pk zs vs k) (sumTo zs j) (zs[j]?.getD 0) = vs[j]?.getD 0
 | 0, _, _ => by
   rw [pk_zero]
   refine ⟨by omega, by omega, Nat.two_pow_pos _, fun j hj => by omega⟩
 | k + 1, hk, h => by
   obtain ⟨b0, b1, b2, b3⟩ := pk_inv hv (show k <= zs.length by omega) (fun j hj => h j (by omega))
   obtain ⟨⟨h0, h1, h2⟩, hf⟩ := ok_parts (h k (by omega))
   have hT := okP_okTo h
   have hst := okTo_step hT
   have hbd := putF_bd (pk zs vs k) (sumTo zs k) (zs[k]?.getD 0) (vs[k]?.getD 0) h0 h1 h2 b1 hf
   rw [pk_succ (by omega)]
   refine ⟨hbd.1, hbd.2, ?_, fun j hj => ?_⟩
   · have hp := put_fits (pk zs vs k).toNat (sumTo zs k).toNat (zs[k]?.getD 0).toNat (vs[k]?.getD 0).toNat (by omega) b2 (fits_lt hf (by omega))
     unfold putF
     rw [Int.toNat_natCast, hst, show (sumTo zs k + zs[k]?.getD 0).toNat = (sumTo zs k).toNat + (zs[k]?.getD 0).toNat by omega]
     exact hp
   · by_cases e : j = k
     · rw [e]; exact getF_put _ _ _ _ h0 h1 h2 b1 (hv k).1 hf
     · rw [<- b3 j (by omega)]
       obtain ⟨j0, j1, j2⟩ := hT j (by omega)
       have hj1 := okTo_step (okTo_less hT (show j + 1 <= k + 1 by omega))
       have hj2 := okTo_mono (okTo_less hT (Nat.le_succ k)) (show j + 1 <= k by omega)
       exact getF_put_other _ _ _ _ _ _ h0 h1 h2 b1 hf j0 j1 (.inl (by omega))
theorem pack_unpack {zs vs : List Int} (hlv : zs.length = vs.length) (hv : ∀ j : Nat, 0 <= vs[j]?.getD 0 /\ vs[j]?.getD 0 <= 18446744073709551615) (hA : ∀ j, j < zs.length -> okP zs vs j = true) :
 (0 <= packF zs vs /\ packF zs vs <= 18446744073709551615) /\ canU (packF zs vs) zs /\ getsI (packF zs vs) zs = vs := by
 obtain ⟨b0, b1, b2, b3⟩ := pk_inv hv (Nat.le_refl _) hA
 have hT := okP_okTo hA
 have hs := okTo_bd hT
 refine ⟨⟨b0, b1⟩, ⟨fun j hj => (inB_iff _ _).2 (hT j hj), (fits_iff b0 hs.1 hs.2).2 b2⟩, ?_⟩
 apply List.ext_getElem (by rw [getsI_length, hlv])
 intro j h1 h2
 have hj : j < zs.length := by omega
 have e1 := getsI_at (packF zs vs) zs hj
 rw [List.getElem?_eq_getElem h1, Option.getD_some] at e1
 have e2 := b3 j hj
 rw [List.getElem?_eq_getElem h2, Option.getD_some] at e2
 rw [e1]
 exact e2
theorem okU_okTo {zs : List Int} {k : Nat} (h : ∀ j, j < k -> okU zs j = true) : okTo zs k := fun j hj => (inB_iff _ _).1 (h j hj)
theorem unpack_pack {zs : List Int} {x : Int} (hx : 0 <= x /\ x <= 18446744073709551615) (hU : canU x zs) :
 (∀ j : Nat, 0 <= (getsI x zs)[j]?.getD 0 /\ (getsI x zs)[j]?.getD 0 <= 18446744073709551615) /\ (∀ j, j < zs.length -> okP zs (getsI x zs) j = true) /\ packF zs (getsI x zs) = x := by
 have hT := okU_okTo hU.1
 have hs := okTo_bd hT
 have hfit := (fits_iff hx.1 hs.1 hs.2).1 hU.2
 have hg : ∀ j, j < zs.length -> 0 <= (getsI x zs)[j]?.getD 0 /\ (getsI x zs)[j]?.getD 0 <= 18446744073709551615 /\ ((getsI x zs)[j]?.getD 0).toNat = getN x.toNat (sumTo zs j).toNat (zs[j]?.getD 0).toNat := by
  intro j hj
  obtain ⟨h0, h1, h2⟩ := hT j hj
  rw [getsI_at x zs hj]
  have := getF_bd x (sumTo zs j) (zs[j]?.getD 0) (by omega)
  exact ⟨this.1, this.2, by unfold getF; rw [Int.toNat_natCast]⟩
 have hok : ∀ j, j < zs.length -> okP zs (getsI x zs) j = true := by
  intro j hj
  obtain ⟨h0, h1, h2⟩ := hT j hj
  obtain ⟨g0, g1, g2⟩ := hg j hj
  unfold okP
  rw [(inB_iff _ _).2 ⟨h0, h1, h2⟩, Bool.true_and]
  refine (fits_iff g0 (by omega) (by omega)).2 ?_
  rw [g2]; exact getN_lt _ _ _
 have hp : ∀ k, k <= zs.length -> pk zs (getsI x zs) k = ((x.toNat % 2 ^ (sumTo zs k).toNat : Nat) : Int) := by
  intro k
  induction k with
  | zero => intro _; rw [pk_zero]; simp [sumTo, Nat.mod_one]
  | succ k ih =>
    intro hk
    obtain ⟨h0, h1, h2⟩ := hT k (by omega)
    obtain ⟨g0, g1, g2⟩ := hg k (by omega)
    have hst := okTo_step (okTo_less hT hk)
    rw [pk_succ (by omega), ih (by omega)]
    unfold putF
    rw [Int.toNat_natCast, g2, put_low _ _ _ (by omega) (by omega), hst, show (sumTo zs k + zs[k]?.getD 0).toNat = (sumTo zs k).toNat + (zs[k]?.getD 0).toNat by omega]
 refine ⟨fun j => ?_, hok, ?_⟩
 · by_cases hj : j < zs.length
   · obtain ⟨g0, g1, _⟩ := hg j hj
     exact ⟨g0, g1⟩
   · rw [List.getElem?_eq_none (by rw [getsI_length]; omega), Option.getD_none]; omega
 · have := hp zs.length (Nat.le_refl _)
   show pk zs (getsI x zs) zs.length = x
   rw [this, Nat.mod_eq_of_lt hfit]
   omega
end Pfield
end Go.Proofs.YtkkclcihjojphaaGreatDoor
