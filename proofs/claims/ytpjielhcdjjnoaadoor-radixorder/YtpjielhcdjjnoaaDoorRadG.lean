/- Addresses in parts, as plain numbers: what can be, and what is answered; widths, and what packing and unpacking make of them. No program is named. -/
import Derived.Test.YtpjielhcdjjnoaaDoorBunField
import Derived.Test.YtpjielhcdjjnoaaDoorBunBase
namespace Go.Proofs.YtpjielhcdjjnoaaDoor.Pradix
open Go.Proofs.YtpjielhcdjjnoaaDoor.Pbase Go.Proofs.YtpjielhcdjjnoaaDoor.Pfield
open Go.RowKit M
set_option linter.unusedVariables false

/-! ### what is answered -/
def slB (a : Int) : Bool := decide (0 ≤ a) && decide (a ≤ 255)
def slE (a : Int) : Int := if slB a = true then 0 else 1
def slH (a : Int) : Int := if slB a = true then a / 16 else 0
def slL (a : Int) : Int := if slB a = true then a % 16 else 0
def soB (h l : Int) : Bool := (decide (0 ≤ h) && decide (h ≤ 15)) && (decide (0 ≤ l) && decide (l ≤ 15))
def soE (h l : Int) : Int := if soB h l = true then 0 else 1
def soA (h l : Int) : Int := if soB h l = true then h * 16 + l else 0
def pgB (a : Int) : Bool := decide (0 ≤ a) && decide (a ≤ 32767)
def pgE (a : Int) : Int := if pgB a = true then 0 else 1
def pgH (a : Int) : Int := if pgB a = true then a / 1024 else 0
def pgL (a : Int) : Int := if pgB a = true then a / 32 % 32 else 0
def pgA (a : Int) : Int := if pgB a = true then a % 32 else 0
def poB (h l t : Int) : Bool := (decide (0 ≤ h) && decide (h ≤ 31)) && (decide (0 ≤ l) && decide (l ≤ 31)) && (decide (0 ≤ t) && decide (t ≤ 31))
def poE (h l t : Int) : Int := if poB h l t = true then 0 else 1
def poA (h l t : Int) : Int := if poB h l t = true then (h * 32 + l) * 32 + t else 0
def nuA (a : Int) : Int := if pgB a = true then a / 32 else 0
theorem slB_iff (a : Int) : slB a = true ↔ 0 ≤ a ∧ a ≤ 255 := by simp [slB]
theorem soB_iff (h l : Int) : soB h l = true ↔ (0 ≤ h ∧ h ≤ 15) ∧ 0 ≤ l ∧ l ≤ 15 := by simp [soB]
theorem pgB_iff (a : Int) : pgB a = true ↔ 0 ≤ a ∧ a ≤ 32767 := by simp [pgB]
theorem poB_iff (h l t : Int) : poB h l t = true ↔ ((0 ≤ h ∧ h ≤ 31) ∧ 0 ≤ l ∧ l ≤ 31) ∧ 0 ≤ t ∧ t ≤ 31 := by simp [poB]
theorem sl_yes {a : Int} (h : 0 ≤ a ∧ a ≤ 255) : slE a = 0 ∧ slH a = a / 16 ∧ slL a = a % 16 := by simp [slE, slH, slL, (slB_iff a).2 h]
theorem sl_no {a : Int} (h : ¬ (0 ≤ a ∧ a ≤ 255)) : slE a = 1 ∧ slH a = 0 ∧ slL a = 0 := by simp [slE, slH, slL, mt (slB_iff a).1 h]
theorem so_yes {h l : Int} (k : (0 ≤ h ∧ h ≤ 15) ∧ 0 ≤ l ∧ l ≤ 15) : soE h l = 0 ∧ soA h l = h * 16 + l := by simp [soE, soA, (soB_iff h l).2 k]
theorem so_no {h l : Int} (k : ¬ ((0 ≤ h ∧ h ≤ 15) ∧ 0 ≤ l ∧ l ≤ 15)) : soE h l = 1 ∧ soA h l = 0 := by simp [soE, soA, mt (soB_iff h l).1 k]
theorem pg_yes {a : Int} (h : 0 ≤ a ∧ a ≤ 32767) : pgE a = 0 ∧ pgH a = a / 1024 ∧ pgL a = a / 32 % 32 ∧ pgA a = a % 32 ∧ nuA a = a / 32 := by simp [pgE, pgH, pgL, pgA, nuA, (pgB_iff a).2 h]
theorem pg_no {a : Int} (h : ¬ (0 ≤ a ∧ a ≤ 32767)) : pgE a = 1 ∧ pgH a = 0 ∧ pgL a = 0 ∧ pgA a = 0 ∧ nuA a = 0 := by simp [pgE, pgH, pgL, pgA, nuA, mt (pgB_iff a).1 h]
theorem po_yes {h l t : Int} (k : ((0 ≤ h ∧ h ≤ 31) ∧ 0 ≤ l ∧ l ≤ 31) ∧ 0 ≤ t ∧ t ≤ 31) : poE h l t = 0 ∧ poA h l t = (h * 32 + l) * 32 + t := by simp [poE, poA, (poB_iff h l t).2 k]
theorem po_no {h l t : Int} (k : ¬ (((0 ≤ h ∧ h ≤ 31) ∧ 0 ≤ l ∧ l ≤ 31) ∧ 0 ≤ t ∧ t ≤ 31)) : poE h l t = 1 ∧ poA h l t = 0 := by simp [poE, poA, mt (poB_iff h l t).1 k]

/-! ### words of either kind -/
theorem wrapu_bd (x : Int) : 0 ≤ IntKind.u64.wrap x ∧ IntKind.u64.wrap x ≤ 18446744073709551615 := by
  rw [IntKind.wrap_u64]; omega
theorem wrapu_le {x b : Int} (hx : -9223372036854775808 ≤ x ∧ x ≤ 9223372036854775807) (hb : b ≤ 9223372036854775807) : IntKind.u64.wrap x ≤ b ↔ 0 ≤ x ∧ x ≤ b := by
  rw [IntKind.wrap_u64]; omega
theorem bounds_i64 {z : Int} (h : (Lit.int .i64 z).wf = true) : -9223372036854775808 ≤ z ∧ z ≤ 9223372036854775807 := by
  have h' : (decide (IntKind.i64.min ≤ z) && decide (z ≤ IntKind.i64.max)) = true := h
  have e1 : IntKind.i64.min = -9223372036854775808 := by decide
  have e2 : IntKind.i64.max = 9223372036854775807 := by decide
  rw [e1, e2] at h'
  simpa using h'
def toU (zs : List Int) : List Int := zs.map IntKind.u64.wrap
def toI (zs : List Int) : List Int := zs.map wrap64
theorem toU_bd (zs : List Int) (j : Nat) : 0 ≤ (toU zs)[j]?.getD 0 ∧ (toU zs)[j]?.getD 0 ≤ 18446744073709551615 := by
  unfold toU
  rw [List.getElem?_map]
  cases zs[j]? with
  | none => simp
  | some z => exact wrapu_bd z

/-! ### widths -/
def s2 : List Int := [4, 4]
def p3 : List Int := [5, 5, 5]
def p2 : List Int := [5, 5]
theorem s2_sum : sumTo s2 0 = 0 ∧ sumTo s2 1 = 4 ∧ sumTo s2 2 = 8 := by simp [sumTo, s2, wrap64]
theorem p2_sum : sumTo p2 0 = 0 ∧ sumTo p2 1 = 5 ∧ sumTo p2 2 = 10 := by simp [sumTo, p2, wrap64]
theorem p3_sum : sumTo p3 0 = 0 ∧ sumTo p3 1 = 5 ∧ sumTo p3 2 = 10 ∧ sumTo p3 3 = 15 := by simp [sumTo, p3, wrap64]
theorem mask4 : maskF 4 = 15 := by decide
theorem mask5 : maskF 5 = 31 := by decide
theorem mask8 : maskF 8 = 255 := by decide
theorem mask15 : maskF 15 = 32767 := by decide
theorem getF_nat (x : Int) (s n : Nat) (hx : 0 ≤ x) : getF x (s : Int) (n : Int) = x / (2 ^ s : Nat) % (2 ^ n : Nat) := by
  obtain ⟨k, rfl⟩ := Int.eq_ofNat_of_zero_le hx
  simp only [getF, getN, Int.toNat_natCast, Int.natCast_emod, Int.natCast_ediv]
theorem s2_can {x : Int} : canU x s2 ↔ x ≤ 255 := by
  constructor
  · rintro ⟨_, h⟩
    rw [show sumTo s2 s2.length = 8 from s2_sum.2.2, fitsB, mask8, decide_eq_true_eq] at h
    exact h
  · intro h
    refine ⟨fun j hj => ?_, ?_⟩
    · match j, hj with
      | 0, _ | 1, _ => simp [okU, inB, sumTo, s2, wrap64]
    · rw [show sumTo s2 s2.length = 8 from s2_sum.2.2, fitsB, mask8, decide_eq_true_eq]
      exact h
theorem p3_can {x : Int} : canU x p3 ↔ x ≤ 32767 := by
  constructor
  · rintro ⟨_, h⟩
    rw [show sumTo p3 p3.length = 15 from p3_sum.2.2.2, fitsB, mask15, decide_eq_true_eq] at h
    exact h
  · intro h
    refine ⟨fun j hj => ?_, ?_⟩
    · match j, hj with
      | 0, _ | 1, _ | 2, _ => simp [okU, inB, sumTo, p3, wrap64]
    · rw [show sumTo p3 p3.length = 15 from p3_sum.2.2.2, fitsB, mask15, decide_eq_true_eq]
      exact h
theorem gets2 (x : Int) (hx : 0 ≤ x) : getsI x s2 = [x % 16, x / 16 % 16] := by
  have h : getsI x s2 = [getF x ((0 : Nat) : Int) ((4 : Nat) : Int), getF x ((4 : Nat) : Int) ((4 : Nat) : Int)] := by
    show [getF x (sumTo s2 0) 4, getF x (sumTo s2 1) 4] = _
    rw [s2_sum.1, s2_sum.2.1]
    rfl
  rw [h, getF_nat _ _ _ hx, getF_nat _ _ _ hx]
  simp
theorem gets3 (x : Int) (hx : 0 ≤ x) : getsI x p3 = [x % 32, x / 32 % 32, x / 1024 % 32] := by
  have h : getsI x p3 = [getF x ((0 : Nat) : Int) ((5 : Nat) : Int), getF x ((5 : Nat) : Int) ((5 : Nat) : Int), getF x ((10 : Nat) : Int) ((5 : Nat) : Int)] := by
    show [getF x (sumTo p3 0) 5, getF x (sumTo p3 1) 5, getF x (sumTo p3 2) 5] = _
    rw [p3_sum.1, p3_sum.2.1, p3_sum.2.2.1]
    rfl
  rw [h, getF_nat _ _ _ hx, getF_nat _ _ _ hx, getF_nat _ _ _ hx]
  simp
theorem gets22 (x : Int) (hx : 0 ≤ x) : getsI x p2 = [x % 32, x / 32 % 32] := by
  have h : getsI x p2 = [getF x ((0 : Nat) : Int) ((5 : Nat) : Int), getF x ((5 : Nat) : Int) ((5 : Nat) : Int)] := by
    show [getF x (sumTo p2 0) 5, getF x (sumTo p2 1) 5] = _
    rw [p2_sum.1, p2_sum.2.1]
    rfl
  rw [h, getF_nat _ _ _ hx, getF_nat _ _ _ hx]
  simp
theorem s2_ok {l h : Int} : (∀ j, j < s2.length → okP s2 [l, h] j = true) ↔ l ≤ 15 ∧ h ≤ 15 := by
  have e0 : okP s2 [l, h] 0 = decide (l ≤ 15) := by
    show (inB 0 4 && fitsB l 4) = _
    rw [show inB 0 4 = true by decide, Bool.true_and, fitsB, mask4]
  have e1 : okP s2 [l, h] 1 = decide (h ≤ 15) := by
    show (inB (sumTo s2 1) 4 && fitsB h 4) = _
    rw [show inB (sumTo s2 1) 4 = true by rw [s2_sum.2.1]; decide, Bool.true_and, fitsB, mask4]
  constructor
  · intro k
    have k0 := k 0 (by decide)
    have k1 := k 1 (by decide)
    rw [e0] at k0
    rw [e1] at k1
    simpa using And.intro k0 k1
  · rintro ⟨k0, k1⟩ j hj
    match j, hj with
    | 0, _ => rw [e0]; simpa using k0
    | 1, _ => rw [e1]; simpa using k1
theorem p2_ok {l h : Int} : (∀ j, j < p2.length → okP p2 [l, h] j = true) ↔ l ≤ 31 ∧ h ≤ 31 := by
  have e0 : okP p2 [l, h] 0 = decide (l ≤ 31) := by
    show (inB 0 5 && fitsB l 5) = _
    rw [show inB 0 5 = true by decide, Bool.true_and, fitsB, mask5]
  have e1 : okP p2 [l, h] 1 = decide (h ≤ 31) := by
    show (inB (sumTo p2 1) 5 && fitsB h 5) = _
    rw [show inB (sumTo p2 1) 5 = true by rw [p2_sum.2.1]; decide, Bool.true_and, fitsB, mask5]
  constructor
  · intro k
    have k0 := k 0 (by decide)
    have k1 := k 1 (by decide)
    rw [e0] at k0
    rw [e1] at k1
    simpa using And.intro k0 k1
  · rintro ⟨k0, k1⟩ j hj
    match j, hj with
    | 0, _ => rw [e0]; simpa using k0
    | 1, _ => rw [e1]; simpa using k1
theorem p3_ok {t l h : Int} : (∀ j, j < p3.length → okP p3 [t, l, h] j = true) ↔ t ≤ 31 ∧ l ≤ 31 ∧ h ≤ 31 := by
  have e0 : okP p3 [t, l, h] 0 = decide (t ≤ 31) := by
    show (inB 0 5 && fitsB t 5) = _
    rw [show inB 0 5 = true by decide, Bool.true_and, fitsB, mask5]
  have e1 : okP p3 [t, l, h] 1 = decide (l ≤ 31) := by
    show (inB (sumTo p3 1) 5 && fitsB l 5) = _
    rw [show inB (sumTo p3 1) 5 = true by rw [p3_sum.2.1]; decide, Bool.true_and, fitsB, mask5]
  have e2 : okP p3 [t, l, h] 2 = decide (h ≤ 31) := by
    show (inB (sumTo p3 2) 5 && fitsB h 5) = _
    rw [show inB (sumTo p3 2) 5 = true by rw [p3_sum.2.2.1]; decide, Bool.true_and, fitsB, mask5]
  constructor
  · intro k
    have k0 := k 0 (by decide)
    have k1 := k 1 (by decide)
    have k2 := k 2 (by decide)
    rw [e0] at k0
    rw [e1] at k1
    rw [e2] at k2
    simpa using And.intro k0 (And.intro k1 k2)
  · rintro ⟨k0, k1, k2⟩ j hj
    match j, hj with
    | 0, _ => rw [e0]; simpa using k0
    | 1, _ => rw [e1]; simpa using k1
    | 2, _ => rw [e2]; simpa using k2
theorem pack2 {zs : List Int} {l h b : Int} (hl : zs.length = 2) (hz : ∀ x, 0 ≤ x → getsI x zs = [x % b, x / b % b]) (hc : ∀ x, canU x zs ↔ x ≤ b * b - 1) (hb : 1 ≤ b) (l0 : 0 ≤ l) (h0 : 0 ≤ h) (l1 : l ≤ 18446744073709551615) (h1 : h ≤ 18446744073709551615) (hA : ∀ j, j < zs.length → okP zs [l, h] j = true) : packF zs [l, h] = h * b + l := by
  obtain ⟨⟨b0, b1⟩, hcan, hg⟩ := pack_unpack (zs := zs) (vs := [l, h]) (by rw [hl]; rfl) (fun j => by
    match j with
    | 0 => simp; omega
    | 1 => simp; omega
    | j + 2 => simp) hA
  rw [hz _ b0] at hg
  generalize packF zs [l, h] = X at *
  have hX := (hc X).1 hcan
  simp only [List.cons.injEq, and_true] at hg
  obtain ⟨g0, g1⟩ := hg
  have hlt : X / b < b := Int.ediv_lt_of_lt_mul (by omega) (by omega)
  have hge : 0 ≤ X / b := Int.ediv_nonneg b0 (by omega)
  rw [Int.emod_eq_of_lt hge hlt] at g1
  have := Int.mul_ediv_add_emod X b
  rw [g0, g1, Int.mul_comm] at this
  exact this.symm
theorem p2_can {x : Int} : canU x p2 ↔ x ≤ 1023 := by
  have m : maskF 10 = 1023 := by decide
  constructor
  · rintro ⟨_, h⟩
    rw [show sumTo p2 p2.length = 10 from p2_sum.2.2, fitsB, m, decide_eq_true_eq] at h
    exact h
  · intro h
    refine ⟨fun j hj => ?_, ?_⟩
    · match j, hj with
      | 0, _ | 1, _ => simp [okU, inB, sumTo, p2, wrap64]
    · rw [show sumTo p2 p2.length = 10 from p2_sum.2.2, fitsB, m, decide_eq_true_eq]
      exact h
theorem pack_s2 {l h : Int} (l0 : 0 ≤ l ∧ l ≤ 15) (h0 : 0 ≤ h ∧ h ≤ 15) : packF s2 [l, h] = h * 16 + l :=
  pack2 (zs := s2) rfl (fun x hx => gets2 x hx) (fun x => s2_can) (by omega) l0.1 h0.1 (by omega) (by omega) (s2_ok.2 ⟨l0.2, h0.2⟩)
theorem pack_p2 {l h : Int} (l0 : 0 ≤ l ∧ l ≤ 31) (h0 : 0 ≤ h ∧ h ≤ 31) : packF p2 [l, h] = h * 32 + l :=
  pack2 (zs := p2) rfl (fun x hx => gets22 x hx) (fun x => p2_can) (by omega) l0.1 h0.1 (by omega) (by omega) (p2_ok.2 ⟨l0.2, h0.2⟩)
theorem pack_p3 {t l h : Int} (t0 : 0 ≤ t ∧ t ≤ 31) (l0 : 0 ≤ l ∧ l ≤ 31) (h0 : 0 ≤ h ∧ h ≤ 31) : packF p3 [t, l, h] = (h * 32 + l) * 32 + t := by
  obtain ⟨⟨b0, b1⟩, hcan, hg⟩ := pack_unpack (zs := p3) (vs := [t, l, h]) rfl (fun j => by
    match j with
    | 0 => simp; omega
    | 1 => simp; omega
    | 2 => simp; omega
    | j + 3 => simp) (p3_ok.2 ⟨t0.2, l0.2, h0.2⟩)
  rw [gets3 _ b0] at hg
  have hX := p3_can.1 hcan
  generalize packF p3 [t, l, h] = X at *
  simp only [List.cons.injEq, and_true] at hg
  omega
end Go.Proofs.YtpjielhcdjjnoaaDoor.Pradix
