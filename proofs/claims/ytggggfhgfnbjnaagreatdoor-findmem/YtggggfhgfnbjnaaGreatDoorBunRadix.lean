/- Texts on finished packages, joined. -/
import Derived.Test.YtggggfhgfnbjnaaGreatDoorBunField
import Derived.Test.YtggggfhgfnbjnaaGreatDoorBunBase
import Derived.Maps.AppendAt
import Derived.OwnWalk
import Derived.Deep.RegionWith
import Derived.BigQuiet
import Derived.Test.YtggggfhgfnbjnaaGreatDoorRows
import Derived.ProofKit
import Derived.OpenShut
import Derived.Carry
import Derived.LaidMore

/- Addresses in parts, as plain numbers: what can be, and what is answered; widths, and what packing and unpacking make of them. No program is named. -/
namespace Go.Proofs.YtggggfhgfnbjnaaGreatDoor.Pradix
open Go.Proofs.YtggggfhgfnbjnaaGreatDoor.Pbase Go.Proofs.YtggggfhgfnbjnaaGreatDoor.Pfield
open Go.RowKit M
set_option linter.unusedVariables false

/-! ### what is answered -/
def slB (a : Int) : Bool := decide (0 ≤ a) && decide (a ≤ 255)
def slE (a : Int) : Int := if slB a = true then 0 else 1
def slH (a : Int) : Int := if slB a = true then a / 16 else 0
def slL (a : Int) : Int := if slB a = true then a % 16 else 0
def soB (h l : Int) : Bool := (decide (0 ≤ h) && decide (h ≤ 15)) && (decide (0 ≤ l) && decide (l ≤ 15))
def soE (h l : Int) : Int := if soB h l = true then 0 else 1
def soA (h l : Int) : Int := if soB h l = true then h * 16 + l else 0
def pgB (a : Int) : Bool := decide (0 ≤ a) && decide (a ≤ 32767)
def pgE (a : Int) : Int := if pgB a = true then 0 else 1
def pgH (a : Int) : Int := if pgB a = true then a / 1024 else 0
def pgL (a : Int) : Int := if pgB a = true then a / 32 % 32 else 0
def pgA (a : Int) : Int := if pgB a = true then a % 32 else 0
def poB (h l t : Int) : Bool := (decide (0 ≤ h) && decide (h ≤ 31)) && (decide (0 ≤ l) && decide (l ≤ 31)) && (decide (0 ≤ t) && decide (t ≤ 31))
def poE (h l t : Int) : Int := if poB h l t = true then 0 else 1
def poA (h l t : Int) : Int := if poB h l t = true then (h * 32 + l) * 32 + t else 0
def nuA (a : Int) : Int := if pgB a = true then a / 32 else 0
theorem slB_iff (a : Int) : slB a = true ↔ 0 ≤ a ∧ a ≤ 255 := by simp [slB]
theorem soB_iff (h l : Int) : soB h l = true ↔ (0 ≤ h ∧ h ≤ 15) ∧ 0 ≤ l ∧ l ≤ 15 := by simp [soB]
theorem pgB_iff (a : Int) : pgB a = true ↔ 0 ≤ a ∧ a ≤ 32767 := by simp [pgB]
theorem poB_iff (h l t : Int) : poB h l t = true ↔ ((0 ≤ h ∧ h ≤ 31) ∧ 0 ≤ l ∧ l ≤ 31) ∧ 0 ≤ t ∧ t ≤ 31 := by simp [poB]
theorem sl_yes {a : Int} (h : 0 ≤ a ∧ a ≤ 255) : slE a = 0 ∧ slH a = a / 16 ∧ slL a = a % 16 := by simp [slE, slH, slL, (slB_iff a).2 h]
theorem sl_no {a : Int} (h : ¬ (0 ≤ a ∧ a ≤ 255)) : slE a = 1 ∧ slH a = 0 ∧ slL a = 0 := by simp [slE, slH, slL, mt (slB_iff a).1 h]
theorem so_yes {h l : Int} (k : (0 ≤ h ∧ h ≤ 15) ∧ 0 ≤ l ∧ l ≤ 15) : soE h l = 0 ∧ soA h l = h * 16 + l := by simp [soE, soA, (soB_iff h l).2 k]
theorem so_no {h l : Int} (k : ¬ ((0 ≤ h ∧ h ≤ 15) ∧ 0 ≤ l ∧ l ≤ 15)) : soE h l = 1 ∧ soA h l = 0 := by simp [soE, soA, mt (soB_iff h l).1 k]
theorem pg_yes {a : Int} (h : 0 ≤ a ∧ a ≤ 32767) : pgE a = 0 ∧ pgH a = a / 1024 ∧ pgL a = a / 32 % 32 ∧ pgA a = a % 32 ∧ nuA a = a / 32 := by simp [pgE, pgH, pgL, pgA, nuA, (pgB_iff a).2 h]
theorem pg_no {a : Int} (h : ¬ (0 ≤ a ∧ a ≤ 32767)) : pgE a = 1 ∧ pgH a = 0 ∧ pgL a = 0 ∧ pgA a = 0 ∧ nuA a = 0 := by simp [pgE, pgH, pgL, pgA, nuA, mt (pgB_iff a).1 h]
theorem po_yes {h l t : Int} (k : ((0 ≤ h ∧ h ≤ 31) ∧ 0 ≤ l ∧ l ≤ 31) ∧ 0 ≤ t ∧ t ≤ 31) : poE h l t = 0 ∧ poA h l t = (h * 32 + l) * 32 + t := by simp [poE, poA, (poB_iff h l t).2 k]
theorem po_no {h l t : Int} (k : ¬ (((0 ≤ h ∧ h ≤ 31) ∧ 0 ≤ l ∧ l ≤ 31) ∧ 0 ≤ t ∧ t ≤ 31)) : poE h l t = 1 ∧ poA h l t = 0 := by simp [poE, poA, mt (poB_iff h l t).1 k]

/-! ### words of either kind -/
theorem wrapu_bd (x : Int) : 0 ≤ IntKind.u64.wrap x ∧ IntKind.u64.wrap x ≤ 18446744073709551615 := by
  rw [IntKind.wrap_u64]; omega
theorem wrapu_le {x b : Int} (hx : -9223372036854775808 ≤ x ∧ x ≤ 9223372036854775807) (hb : b ≤ 9223372036854775807) : IntKind.u64.wrap x ≤ b ↔ 0 ≤ x ∧ x ≤ b := by
  rw [IntKind.wrap_u64]; omega
theorem bounds_i64 {z : Int} (h : (Lit.int .i64 z).wf = true) : -9223372036854775808 ≤ z ∧ z ≤ 9223372036854775807 := by
  have h' : (decide (IntKind.i64.min ≤ z) && decide (z ≤ IntKind.i64.max)) = true := h
  have e1 : IntKind.i64.min = -9223372036854775808 := by decide
  have e2 : IntKind.i64.max = 9223372036854775807 := by decide
  rw [e1, e2] at h'
  simpa using h'
def toU (zs : List Int) : List Int := zs.map IntKind.u64.wrap
def toI (zs : List Int) : List Int := zs.map wrap64
theorem toU_bd (zs : List Int) (j : Nat) : 0 ≤ (toU zs)[j]?.getD 0 ∧ (toU zs)[j]?.getD 0 ≤ 18446744073709551615 := by
  unfold toU
  rw [List.getElem?_map]
  cases zs[j]? with
  | none => simp
  | some z => exact wrapu_bd z

/-! ### widths -/
def s2 : List Int := [4, 4]
def p3 : List Int := [5, 5, 5]
def p2 : List Int := [5, 5]
theorem s2_sum : sumTo s2 0 = 0 ∧ sumTo s2 1 = 4 ∧ sumTo s2 2 = 8 := by simp [sumTo, s2, wrap64]
theorem p2_sum : sumTo p2 0 = 0 ∧ sumTo p2 1 = 5 ∧ sumTo p2 2 = 10 := by simp [sumTo, p2, wrap64]
theorem p3_sum : sumTo p3 0 = 0 ∧ sumTo p3 1 = 5 ∧ sumTo p3 2 = 10 ∧ sumTo p3 3 = 15 := by simp [sumTo, p3, wrap64]
theorem mask4 : maskF 4 = 15 := by decide
theorem mask5 : maskF 5 = 31 := by decide
theorem mask8 : maskF 8 = 255 := by decide
theorem mask15 : maskF 15 = 32767 := by decide
theorem getF_nat (x : Int) (s n : Nat) (hx : 0 ≤ x) : getF x (s : Int) (n : Int) = x / (2 ^ s : Nat) % (2 ^ n : Nat) := by
  obtain ⟨k, rfl⟩ := Int.eq_ofNat_of_zero_le hx
  simp only [getF, getN, Int.toNat_natCast, Int.natCast_emod, Int.natCast_ediv]
theorem s2_can {x : Int} : canU x s2 ↔ x ≤ 255 := by
  constructor
  · rintro ⟨_, h⟩
    rw [show sumTo s2 s2.length = 8 from s2_sum.2.2, fitsB, mask8, decide_eq_true_eq] at h
    exact h
  · intro h
    refine ⟨fun j hj => ?_, ?_⟩
    · match j, hj with
      | 0, _ | 1, _ => simp [okU, inB, sumTo, s2, wrap64]
    · rw [show sumTo s2 s2.length = 8 from s2_sum.2.2, fitsB, mask8, decide_eq_true_eq]
      exact h
theorem p3_can {x : Int} : canU x p3 ↔ x ≤ 32767 := by
  constructor
  · rintro ⟨_, h⟩
    rw [show sumTo p3 p3.length = 15 from p3_sum.2.2.2, fitsB, mask15, decide_eq_true_eq] at h
    exact h
  · intro h
    refine ⟨fun j hj => ?_, ?_⟩
    · match j, hj with
      | 0, _ | 1, _ | 2, _ => simp [okU, inB, sumTo, p3, wrap64]
    · rw [show sumTo p3 p3.length = 15 from p3_sum.2.2.2, fitsB, mask15, decide_eq_true_eq]
      exact h
theorem gets2 (x : Int) (hx : 0 ≤ x) : getsI x s2 = [x % 16, x / 16 % 16] := by
  have h : getsI x s2 = [getF x ((0 : Nat) : Int) ((4 : Nat) : Int), getF x ((4 : Nat) : Int) ((4 : Nat) : Int)] := by
    show [getF x (sumTo s2 0) 4, getF x (sumTo s2 1) 4] = _
    rw [s2_sum.1, s2_sum.2.1]
    rfl
  rw [h, getF_nat _ _ _ hx, getF_nat _ _ _ hx]
  simp
theorem gets3 (x : Int) (hx : 0 ≤ x) : getsI x p3 = [x % 32, x / 32 % 32, x / 1024 % 32] := by
  have h : getsI x p3 = [getF x ((0 : Nat) : Int) ((5 : Nat) : Int), getF x ((5 : Nat) : Int) ((5 : Nat) : Int), getF x ((10 : Nat) : Int) ((5 : Nat) : Int)] := by
    show [getF x (sumTo p3 0) 5, getF x (sumTo p3 1) 5, getF x (sumTo p3 2) 5] = _
    rw [p3_sum.1, p3_sum.2.1, p3_sum.2.2.1]
    rfl
  rw [h, getF_nat _ _ _ hx, getF_nat _ _ _ hx, getF_nat _ _ _ hx]
  simp
theorem gets22 (x : Int) (hx : 0 ≤ x) : getsI x p2 = [x % 32, x / 32 % 32] := by
  have h : getsI x p2 = [getF x ((0 : Nat) : Int) ((5 : Nat) : Int), getF x ((5 : Nat) : Int) ((5 : Nat) : Int)] := by
    show [getF x (sumTo p2 0) 5, getF x (sumTo p2 1) 5] = _
    rw [p2_sum.1, p2_sum.2.1]
    rfl
  rw [h, getF_nat _ _ _ hx, getF_nat _ _ _ hx]
  simp
theorem s2_ok {l h : Int} : (∀ j, j < s2.length → okP s2 [l, h] j = true) ↔ l ≤ 15 ∧ h ≤ 15 := by
  have e0 : okP s2 [l, h] 0 = decide (l ≤ 15) := by
    show (inB 0 4 && fitsB l 4) = _
    rw [show inB 0 4 = true by decide, Bool.true_and, fitsB, mask4]
  have e1 : okP s2 [l, h] 1 = decide (h ≤ 15) := by
    show (inB (sumTo s2 1) 4 && fitsB h 4) = _
    rw [show inB (sumTo s2 1) 4 = true by rw [s2_sum.2.1]; decide, Bool.true_and, fitsB, mask4]
  constructor
  · intro k
    have k0 := k 0 (by decide)
    have k1 := k 1 (by decide)
    rw [e0] at k0
    rw [e1] at k1
    simpa using And.intro k0 k1
  · rintro ⟨k0, k1⟩ j hj
    match j, hj with
    | 0, _ => rw [e0]; simpa using k0
    | 1, _ => rw [e1]; simpa using k1
theorem p2_ok {l h : Int} : (∀ j, j < p2.length → okP p2 [l, h] j = true) ↔ l ≤ 31 ∧ h ≤ 31 := by
  have e0 : okP p2 [l, h] 0 = decide (l ≤ 31) := by
    show (inB 0 5 && fitsB l 5) = _
    rw [show inB 0 5 = true by decide, Bool.true_and, fitsB, mask5]
  have e1 : okP p2 [l, h] 1 = decide (h ≤ 31) := by
    show (inB (sumTo p2 1) 5 && fitsB h 5) = _
    rw [show inB (sumTo p2 1) 5 = true by rw [p2_sum.2.1]; decide, Bool.true_and, fitsB, mask5]
  constructor
  · intro k
    have k0 := k 0 (by decide)
    have k1 := k 1 (by decide)
    rw [e0] at k0
    rw [e1] at k1
    simpa using And.intro k0 k1
  · rintro ⟨k0, k1⟩ j hj
    match j, hj with
    | 0, _ => rw [e0]; simpa using k0
    | 1, _ => rw [e1]; simpa using k1
theorem p3_ok {t l h : Int} : (∀ j, j < p3.length → okP p3 [t, l, h] j = true) ↔ t ≤ 31 ∧ l ≤ 31 ∧ h ≤ 31 := by
  have e0 : okP p3 [t, l, h] 0 = decide (t ≤ 31) := by
    show (inB 0 5 && fitsB t 5) = _
    rw [show inB 0 5 = true by decide, Bool.true_and, fitsB, mask5]
  have e1 : okP p3 [t, l, h] 1 = decide (l ≤ 31) := by
    show (inB (sumTo p3 1) 5 && fitsB l 5) = _
    rw [show inB (sumTo p3 1) 5 = true by rw [p3_sum.2.1]; decide, Bool.true_and, fitsB, mask5]
  have e2 : okP p3 [t, l, h] 2 = decide (h ≤ 31) := by
    show (inB (sumTo p3 2) 5 && fitsB h 5) = _
    rw [show inB (sumTo p3 2) 5 = true by rw [p3_sum.2.2.1]; decide, Bool.true_and, fitsB, mask5]
  constructor
  · intro k
    have k0 := k 0 (by decide)
    have k1 := k 1 (by decide)
    have k2 := k 2 (by decide)
    rw [e0] at k0
    rw [e1] at k1
    rw [e2] at k2
    simpa using And.intro k0 (And.intro k1 k2)
  · rintro ⟨k0, k1, k2⟩ j hj
    match j, hj with
    | 0, _ => rw [e0]; simpa using k0
    | 1, _ => rw [e1]; simpa using k1
    | 2, _ => rw [e2]; simpa using k2
theorem pack2 {zs : List Int} {l h b : Int} (hl : zs.length = 2) (hz : ∀ x, 0 ≤ x → getsI x zs = [x % b, x / b % b]) (hc : ∀ x, canU x zs ↔ x ≤ b * b - 1) (hb : 1 ≤ b) (l0 : 0 ≤ l) (h0 : 0 ≤ h) (l1 : l ≤ 18446744073709551615) (h1 : h ≤ 18446744073709551615) (hA : ∀ j, j < zs.length → okP zs [l, h] j = true) : packF zs [l, h] = h * b + l := by
  obtain ⟨⟨b0, b1⟩, hcan, hg⟩ := pack_unpack (zs := zs) (vs := [l, h]) (by rw [hl]; rfl) (fun j => by
    match j with
    | 0 => simp; omega
    | 1 => simp; omega
    | j + 2 => simp) hA
  rw [hz _ b0] at hg
  generalize packF zs [l, h] = X at *
  have hX := (hc X).1 hcan
  simp only [List.cons.injEq, and_true] at hg
  obtain ⟨g0, g1⟩ := hg
  have hlt : X / b < b := Int.ediv_lt_of_lt_mul (by omega) (by omega)
  have hge : 0 ≤ X / b := Int.ediv_nonneg b0 (by omega)
  rw [Int.emod_eq_of_lt hge hlt] at g1
  have := Int.mul_ediv_add_emod X b
  rw [g0, g1, Int.mul_comm] at this
  exact this.symm
theorem p2_can {x : Int} : canU x p2 ↔ x ≤ 1023 := by
  have m : maskF 10 = 1023 := by decide
  constructor
  · rintro ⟨_, h⟩
    rw [show sumTo p2 p2.length = 10 from p2_sum.2.2, fitsB, m, decide_eq_true_eq] at h
    exact h
  · intro h
    refine ⟨fun j hj => ?_, ?_⟩
    · match j, hj with
      | 0, _ | 1, _ => simp [okU, inB, sumTo, p2, wrap64]
    · rw [show sumTo p2 p2.length = 10 from p2_sum.2.2, fitsB, m, decide_eq_true_eq]
      exact h
theorem pack_s2 {l h : Int} (l0 : 0 ≤ l ∧ l ≤ 15) (h0 : 0 ≤ h ∧ h ≤ 15) : packF s2 [l, h] = h * 16 + l :=
  pack2 (zs := s2) rfl (fun x hx => gets2 x hx) (fun x => s2_can) (by omega) l0.1 h0.1 (by omega) (by omega) (s2_ok.2 ⟨l0.2, h0.2⟩)
theorem pack_p2 {l h : Int} (l0 : 0 ≤ l ∧ l ≤ 31) (h0 : 0 ≤ h ∧ h ≤ 31) : packF p2 [l, h] = h * 32 + l :=
  pack2 (zs := p2) rfl (fun x hx => gets22 x hx) (fun x => p2_can) (by omega) l0.1 h0.1 (by omega) (by omega) (p2_ok.2 ⟨l0.2, h0.2⟩)
theorem pack_p3 {t l h : Int} (t0 : 0 ≤ t ∧ t ≤ 31) (l0 : 0 ≤ l ∧ l ≤ 31) (h0 : 0 ≤ h ∧ h ≤ 31) : packF p3 [t, l, h] = (h * 32 + l) * 32 + t := by
  obtain ⟨⟨b0, b1⟩, hcan, hg⟩ := pack_unpack (zs := p3) (vs := [t, l, h]) rfl (fun j => by
    match j with
    | 0 => simp; omega
    | 1 => simp; omega
    | 2 => simp; omega
    | j + 3 => simp) (p3_ok.2 ⟨t0.2, l0.2, h0.2⟩)
  rw [gets3 _ b0] at hg
  have hX := p3_can.1 hcan
  generalize packF p3 [t, l, h] = X at *
  simp only [List.cons.injEq, and_true] at hg
  omega
end Go.Proofs.YtggggfhgfnbjnaaGreatDoor.Pradix

/- as, cut and join of package radix: for every list of widths and every numbers, what they answer. -/
namespace Go.Proofs.YtggggfhgfnbjnaaGreatDoor.Pradix
open Go.Proofs.YtggggfhgfnbjnaaGreatDoor.Pbase Go.Proofs.YtggggfhgfnbjnaaGreatDoor.Pfield
open Go.RowKit M
set_option linter.unusedVariables false

theorem infoI : (Tryz.prog.info? 3).map (fun i => (i.zero, i.size, i.bytes)) = some (some (.int .i64 0), 1, 8) := by kernel_rfl
theorem infoU : (Tryz.prog.info? 183).map (fun i => (i.zero, i.size, i.bytes)) = some (some (.int .u64 0), 1, 8) := by kernel_rfl
theorem one_cell (w : World) (v : Value) (t : TypeId) : ∀ j u, ([v] : List Value)[j]? = some u → (w.alloc (.cells #[v] t)).cell? ((⟨w.heap.size, 0, none⟩ : Addr).add j) = some u := by
  intro j u hj
  match j, hj with
  | 0, hj => simp at hj; subst hj; simp [Addr.add]
theorem own_ge' {w : World} {base : Nat} {e : TypeId} {v : Value} {n : Nat} {xs : List Value} (h : w.ownsRow base e 1 v n xs) : ∀ k, v.ownBlock = some k → base ≤ k := fun k hk => (h.lt k hk).1
/-- A row of the call's own is a slice of numbers. -/
theorem ints_own {q : IntKind} {W : World} {base : Nat} {t : TypeId} {v : Value} {n : Nat} {xs : List Int} (h : W.ownsRow base t 1 v n (xs.map (Value.int q))) (hn : xs.length = n) : ∃ a c, v = .slice a n c ∧ n ≤ c ∧ Ints q W.heap.size W (.slice a n c) xs := by
  subst hn
  rcases h.2 with ⟨rfl, h0⟩ | ⟨g, cap, cur, rfl, hg, hb, h1, h2, h3, h4⟩
  · refine ⟨none, 0, by rw [h0], by omega, .inl ⟨none, 0, by rw [h0], by simpa using h0⟩⟩
  · refine ⟨_, _, rfl, h1, .inr ⟨g, 0, cap, rfl, (Array.getElem?_eq_some_iff.1 hb).1, fun j hj => ?_⟩⟩
    have hc := h.cellAt (g := g) j (by simpa using hj)
    rw [Nat.zero_add, hc]
    simp [hj]
theorem take_snoc (f : Int → Int) (p : IntKind) (zs : List Int) {k : Nat} (h : k < zs.length) : (((zs.map f).take (k + 1)).map (Value.int p)) = ((zs.map f).take k).map (Value.int p) ++ [.int p (f (zs[k]?.getD 0))] := by
  rw [List.take_succ_eq_append_getElem (by simpa using h)]
  simp [h]

set_option maxRecDepth 100000 in
theorem asI_any (a : Option Addr) (cap n : Nat) (zs : List Int) (w : World) (hn : n ≤ 100) (hl : zs.length = n) (hI : Ints .u64 w.heap.size w (.slice a n cap) zs) :
    Calls Tryz.prog 250 #[.slice a n cap] w fun e w' => ∃ a' c', e = .returned (.slice a' n c') ∧ n ≤ c' ∧ Ints .i64 w'.heap.size w' (.slice a' n c') (toI zs) ∧ Below w.heap.size w w' := by
  obtain ⟨it, hi, hz0, hz1, hz2⟩ := info_parts infoI
  have HI : Hid (Ints .u64 w.heap.size w (.slice a n cap) zs) := hI
  have HL : Hid (zs.length = n) := hl
  clear hI hl
  go_enter Tryz.func250, Tryz.ntmps250
  go_wp2_with (first
    | (at_make; refine wpList_make_own _ rfl _ _ 23 rfl w.heap.size 3 it (.int .i64 0) 1 Tryz.underlying23 hi hz0 hz1 _ _ _ n rfl rfl (by omega) (by rw [hz2]; omega) (by unfold maxLen; omega) (Nat.le_refl _) ?_; intro w0 hown0 hgrow0; have HO0 : Hid (w0.ownsRow w.heap.size 3 1 (.slice (some ⟨w.heap.size, 0, none⟩) 0 n) 0 (((toI zs).take 0).map (Value.int .i64))) := hown0; have HB0 : Hid (Below w.heap.size w w0) := (Below.refl _ _).grown hgrow0 (Nat.le_refl _) (fun k h => by cases h); clear hown0 hgrow0)
    | fail)
  go_loopw [3, 11] (fun l i wr => ∃ k : Nat, k ≤ n ∧ i = .int .i64 k ∧ wr.ownsRow w.heap.size 3 1 l k (((toI zs).take k).map (Value.int .i64)) ∧ Below w.heap.size w wr) (fun _ i _ => n - (intOf i).toNat)
  case atStart => exact ⟨0, by omega, rfl, HO0.out, HB0.out⟩
  case round =>
    obtain ⟨k, hk, rfl, hO, hB⟩ := hrel
    obtain ⟨av, cv, rfl⟩ := ownsRow_slice hO
    have HO : Hid (wr.ownsRow w.heap.size 3 1 (.slice av k cv) k (((toI zs).take k).map (Value.int .i64))) := hO
    have HB : Hid (Below w.heap.size w wr) := hB
    clear hO hB HO0 HB0
    by_cases hlt : k < n
    · have hki : (k : Int) < (n : Int) := by omega
      obtain ⟨bz, oz, z, ha, hz, HZ⟩ := ints_at' (HI.out.below HB.out) (show k < zs.length by rw [HL.out]; exact hlt)
      subst ha
      go_wp2_with (first
        | (at_builtin; refine wpList_append_own_at _ rfl _ _ 23 rfl w.heap.size 3 it (.int .i64 0) 1 8 Tryz.underlying23 hi hz0 hz1 hz2 rfl (by decide) _ _ _ rfl (HO.out.alloc _) _ 1 1 [.int .i64 (wrap64 z)] rfl rfl (one_cell wr _ _) (by simp [Value.oneCell']) (by unfold maxLen; omega) (by omega) (by have := HB.out.size; simp; omega) ?_; intro v1 w3 hown hgrow _ hat; have HO3 : Hid (w3.ownsRow w.heap.size 3 1 v1 (k + 1) (((toI zs).take (k + 1)).map (Value.int .i64))) := (by unfold toI; rw [take_snoc wrap64 .i64 zs (by rw [HL.out]; exact hlt), HZ.out]; exact hown); have H3 : Hid (Below w.heap.size w w3) := (HB.out.alloc HB.out.size _).grown hgrow (by have := HB.out.size; simp; omega) (own_ge' HO.out); clear hown hgrow hat)
        | fail)
      go_roundw
      case rel => exact ⟨k + 1, by omega, by go_num, HO3.out, H3.out⟩
      case measure => simp [intOf]; omega
    · obtain rfl : k = n := by omega
      go_wp2
      go_ret
      have ho := HO.out
      rw [List.take_of_length_le (by rw [toI, List.length_map, HL.out]; omega)] at ho
      obtain ⟨a', c', e, hc', hi'⟩ := ints_own ho (by rw [toI, List.length_map, HL.out])
      cases e
      exact ⟨_, _, rfl, hc', hi', HB.out⟩
/-! ### cut -/
set_option maxRecDepth 100000 in
theorem cut_ok (a0 : Option Addr) (cap0 : Nat) (zs : List Int) (a : Int) (w : World) (hl : zs.length ≤ 100) (hI : Ints .i64 w.heap.size w (.slice a0 zs.length cap0) zs) (hA : canU (IntKind.u64.wrap a) zs) :
    Calls Tryz.prog 231 #[.slice a0 zs.length cap0, .int .i64 a] w fun e w' => ∃ a' c', e = .returned (.tuple #[.slice a' zs.length c', .int .i64 0]) ∧ zs.length ≤ c' ∧ Ints .i64 w'.heap.size w' (.slice a' zs.length c') (toI (getsI (IntKind.u64.wrap a) zs)) ∧ Below w.heap.size w w' := by
  have hb := wrapu_bd a
  have HI : Hid (Ints .i64 w.heap.size w (.slice a0 zs.length cap0) zs) := hI
  have HA : Hid (canU (IntKind.u64.wrap a) zs) := hA
  have HL : Hid (zs.length ≤ 100) := hl
  obtain ⟨x, hx⟩ : ∃ x, IntKind.u64.wrap a = x := ⟨_, rfl⟩
  rw [hx] at HA hb ⊢
  have HX : Hid (0 ≤ x ∧ x ≤ 18446744073709551615) := hb
  clear hI hA hl hb
  go_enter Tryz.func231, Tryz.ntmps231
  go_wp2_with (first
    | (go_at_call 229; refine (unpack_ok a0 cap0 zs x _ HL.out HX.out HI.out HA.out).mono ?_; rintro e1 w1 ⟨a1, c1, rfl, hi1, hb1⟩; have H1 : Hid (Below w.heap.size w w1) := hb1; have HI1 : Hid (Ints .u64 w1.heap.size w1 (.slice a1 zs.length c1) (getsI x zs)) := hi1; clear hb1 hi1)
    | (go_at_call 250; refine (asI_any a1 c1 zs.length (getsI x zs) _ HL.out (getsI_length x zs) HI1.out).mono ?_; rintro e2 w2 ⟨a2, c2, rfl, hc2, hi2, hb2⟩; have HC2 : Hid (zs.length ≤ c2) := hc2; clear hc2; have H2 : Hid (Below w.heap.size w w2) := H1.out.trans (hb2.mono H1.out.size); have HI2 : Hid (Ints .i64 w2.heap.size w2 (.slice a2 zs.length c2) (toI (getsI x zs))) := hi2; clear hb2 hi2)
    | fail)
  go_ret2
  exact ⟨_, _, rfl, HC2.out, HI2.out, H2.out⟩
set_option maxRecDepth 100000 in
theorem cut_bad (a0 : Option Addr) (cap0 : Nat) (zs : List Int) (a : Int) (w : World) (hl : zs.length ≤ 100) (hI : Ints .i64 w.heap.size w (.slice a0 zs.length cap0) zs) (hA : ¬ canU (IntKind.u64.wrap a) zs) :
    Calls Tryz.prog 231 #[.slice a0 zs.length cap0, .int .i64 a] w fun e w' => ∃ a' c', e = .returned (.tuple #[.slice a' 0 c', .int .i64 1]) ∧ Below w.heap.size w w' := by
  have hb := wrapu_bd a
  have HI : Hid (Ints .i64 w.heap.size w (.slice a0 zs.length cap0) zs) := hI
  have HA : Hid (¬ canU (IntKind.u64.wrap a) zs) := hA
  have HL : Hid (zs.length ≤ 100) := hl
  obtain ⟨x, hx⟩ : ∃ x, IntKind.u64.wrap a = x := ⟨_, rfl⟩
  rw [hx] at HA hb
  have HX : Hid (0 ≤ x ∧ x ≤ 18446744073709551615) := hb
  clear hI hA hl hb
  go_enter Tryz.func231, Tryz.ntmps231
  go_wp2_with (first
    | (go_at_call 229; refine (unpack_bad a0 cap0 zs x _ HL.out HX.out HI.out HA.out).mono ?_; rintro e1 w1 ⟨rfl, hb1⟩; have H1 : Hid (Below w.heap.size w w1) := hb1; clear hb1)
    | (go_at_call 250; refine (asI_any none 0 0 [] _ (by omega) rfl (.inl ⟨none, 0, rfl, rfl⟩)).mono ?_; rintro e2 w2 ⟨a2, c2, rfl, _, hi2, hb2⟩; have H2 : Hid (Below w.heap.size w w2) := H1.out.trans (hb2.mono H1.out.size); clear hb2 hi2)
    | fail)
  go_ret2
  exact ⟨_, _, rfl, H2.out⟩

/-! ### join -/
end Go.Proofs.YtggggfhgfnbjnaaGreatDoor.Pradix

/- Slot, SlotOf, Page, PageOf and Number of package radix: for every number, what they answer. -/
namespace Go.Proofs.YtggggfhgfnbjnaaGreatDoor.Pradix
open Go.Proofs.YtggggfhgfnbjnaaGreatDoor.Pbase Go.Proofs.YtggggfhgfnbjnaaGreatDoor.Pfield
open Go.RowKit M
set_option linter.unusedVariables false

/-- The table of slots' widths. -/
structure Ws (w : World) : Prop where
  ls : 4 < w.heap.size
  s : ∃ t fr, w.heap[(4 : Nat)]? = some (.cells #[.int .i64 4, .int .i64 4] t fr)
theorem Ws.on {w w' : World} (h : Ws w) (hB : Below w.heap.size w w') : Ws w' :=
  ⟨Nat.lt_of_lt_of_le h.ls hB.size, by obtain ⟨t, fr, hr⟩ := h.s; exact ⟨t, fr, (hB.block 4 h.ls).trans hr⟩⟩
theorem Ws.s0 {w : World} (h : Ws w) : w.cell? ⟨4, 0, none⟩ = some (.int .i64 4) ∧ w.cell? ⟨4, 1, none⟩ = some (.int .i64 4) := by
  obtain ⟨t, fr, hr⟩ := h.s
  exact ⟨(cell_of_row _ _ 0 _ _ _ hr).trans rfl, (cell_of_row _ _ 1 _ _ _ hr).trans rfl⟩
theorem ints_s2 (w : World) (ty : TypeId) : Ints .i64 (w.alloc (.cells #[.int .i64 4, .int .i64 4] ty)).heap.size (w.alloc (.cells #[.int .i64 4, .int .i64 4] ty)) (.slice (some ⟨w.heap.size, 0, none⟩) 2 2) s2 := by
  refine .inr ⟨w.heap.size, 0, 2, rfl, by simp, fun j hj => ?_⟩
  rw [Nat.zero_add, cell_of_row _ _ j _ _ _ (heap_alloc_new w _)]
  match j, hj with
  | 0, _ | 1, _ => rfl
theorem ints_two (w : World) (x y : Int) (ty : TypeId) : Ints .i64 (w.alloc (.cells #[.int .i64 x, .int .i64 y] ty)).heap.size (w.alloc (.cells #[.int .i64 x, .int .i64 y] ty)) (.slice (some ⟨w.heap.size, 0, none⟩) 2 2) [x, y] := by
  refine .inr ⟨w.heap.size, 0, 2, rfl, by simp, fun j hj => ?_⟩
  rw [Nat.zero_add, cell_of_row _ _ j _ _ _ (heap_alloc_new w _)]
  match j, hj with
  | 0, _ | 1, _ => rfl
theorem ints_p3 (w : World) (ty : TypeId) : Ints .i64 (w.alloc (.cells #[.int .i64 5, .int .i64 5, .int .i64 5] ty)).heap.size (w.alloc (.cells #[.int .i64 5, .int .i64 5, .int .i64 5] ty)) (.slice (some ⟨w.heap.size, 0, none⟩) 3 3) p3 := by
  refine .inr ⟨w.heap.size, 0, 3, rfl, by simp, fun j hj => ?_⟩
  rw [Nat.zero_add, cell_of_row _ _ j _ _ _ (heap_alloc_new w _)]
  match j, hj with
  | 0, _ | 1, _ | 2, _ => rfl
theorem ints_three (w : World) (x y z : Int) (ty : TypeId) : Ints .i64 (w.alloc (.cells #[.int .i64 x, .int .i64 y, .int .i64 z] ty)).heap.size (w.alloc (.cells #[.int .i64 x, .int .i64 y, .int .i64 z] ty)) (.slice (some ⟨w.heap.size, 0, none⟩) 3 3) [x, y, z] := by
  refine .inr ⟨w.heap.size, 0, 3, rfl, by simp, fun j hj => ?_⟩
  rw [Nat.zero_add, cell_of_row _ _ j _ _ _ (heap_alloc_new w _)]
  match j, hj with
  | 0, _ | 1, _ | 2, _ => rfl
/-- All numbers but the first. -/
theorem ints_tail {q : IntKind} {n₀ : Nat} {W : World} {b o n c : Nat} {z : Int} {zs : List Int} (h : Ints q n₀ W (.slice (some ⟨b, o, none⟩) (n + 1) c) (z :: zs)) (hn : zs.length = n) (c' : Nat) : Ints q n₀ W (.slice (some ⟨b, o + 1, none⟩) n c') zs := by
  subst hn
  rcases h with ⟨_, _, _, e⟩ | ⟨b', o', cap, e, hb, hc⟩
  · cases e
  · cases e
    refine .inr ⟨b, o + 1, c', rfl, hb, fun j hj => ?_⟩
    have := hc (j + 1) (by simp; omega)
    rw [show o + 1 + j = o + (j + 1) by omega, this]
    simp
theorem cut_s2 (a0 : Option Addr) (c0 : Nat) (a : Int) (w : World) (hI : Ints .i64 w.heap.size w (.slice a0 2 c0) s2) (ha : 0 ≤ a ∧ a ≤ 255) :
    Calls Tryz.prog 231 #[.slice a0 2 c0, .int .i64 a] w fun e w' => ∃ b o c, e = .returned (.tuple #[.slice (some ⟨b, o, none⟩) 2 c, .int .i64 0]) ∧ w'.cell? ⟨b, o, none⟩ = some (.int .i64 (a % 16)) ∧ w'.cell? ⟨b, o + 1, none⟩ = some (.int .i64 (a / 16)) ∧ Below w.heap.size w w' := by
  have hw : IntKind.u64.wrap a = a := wrapu_small ha.1 (by omega)
  have hg : toI (getsI a s2) = [a % 16, a / 16] := by
    rw [gets2 a ha.1]
    simp only [toI, List.map_cons, List.map_nil, List.cons.injEq, and_true, wrap64]
    omega
  refine (cut_ok a0 c0 s2 a w (by decide) hI (by rw [hw]; exact s2_can.2 ha.2)).mono ?_
  rintro e w' ⟨a', c', he, _, hi, hB⟩
  rw [hw, hg] at hi
  rcases hi with ⟨_, _, _, e2⟩ | ⟨b, o, cap, e2, hb, hc⟩
  · cases e2
  · cases e2
    exact ⟨b, o, _, he, hc 0 (by simp), hc 1 (by simp), hB⟩
theorem cut_s2_no (a0 : Option Addr) (c0 : Nat) (a : Int) (w : World) (hI : Ints .i64 w.heap.size w (.slice a0 2 c0) s2) (hb : -9223372036854775808 ≤ a ∧ a ≤ 9223372036854775807) (ha : ¬ (0 ≤ a ∧ a ≤ 255)) :
    Calls Tryz.prog 231 #[.slice a0 2 c0, .int .i64 a] w fun e w' => ∃ a' c', e = .returned (.tuple #[.slice a' 0 c', .int .i64 1]) ∧ Below w.heap.size w w' :=
  cut_bad a0 c0 s2 a w (by decide) hI (fun h => ha ((wrapu_le hb (by omega)).1 (s2_can.1 h)))
theorem cut_p3 (a0 : Option Addr) (c0 : Nat) (a : Int) (w : World) (hI : Ints .i64 w.heap.size w (.slice a0 3 c0) p3) (ha : 0 ≤ a ∧ a ≤ 32767) :
    Calls Tryz.prog 231 #[.slice a0 3 c0, .int .i64 a] w fun e w' => ∃ b o c, e = .returned (.tuple #[.slice (some ⟨b, o, none⟩) 3 c, .int .i64 0]) ∧ 3 ≤ c ∧ Ints .i64 w'.heap.size w' (.slice (some ⟨b, o, none⟩) 3 c) [a % 32, a / 32 % 32, a / 1024] ∧ w'.cell? ⟨b, o, none⟩ = some (.int .i64 (a % 32)) ∧ w'.cell? ⟨b, o + 1, none⟩ = some (.int .i64 (a / 32 % 32)) ∧ w'.cell? ⟨b, o + 2, none⟩ = some (.int .i64 (a / 1024)) ∧ Below w.heap.size w w' := by
  have hw : IntKind.u64.wrap a = a := wrapu_small ha.1 (by omega)
  have hg : toI (getsI a p3) = [a % 32, a / 32 % 32, a / 1024] := by
    rw [gets3 a ha.1]
    simp only [toI, List.map_cons, List.map_nil, List.cons.injEq, and_true, wrap64]
    omega
  refine (cut_ok a0 c0 p3 a w (by decide) hI (by rw [hw]; exact p3_can.2 ha.2)).mono ?_
  rintro e w' ⟨a', c', he, hc', hi, hB⟩
  rw [hw, hg] at hi
  have hi2 := hi
  rcases hi with ⟨_, _, _, e2⟩ | ⟨b, o, cap, e2, hb, hc⟩
  · cases e2
  · cases e2
    exact ⟨b, o, _, he, hc', hi2, hc 0 (by simp), hc 1 (by simp), hc 2 (by simp), hB⟩
theorem cut_p3_no (a0 : Option Addr) (c0 : Nat) (a : Int) (w : World) (hI : Ints .i64 w.heap.size w (.slice a0 3 c0) p3) (hb : -9223372036854775808 ≤ a ∧ a ≤ 9223372036854775807) (ha : ¬ (0 ≤ a ∧ a ≤ 32767)) :
    Calls Tryz.prog 231 #[.slice a0 3 c0, .int .i64 a] w fun e w' => ∃ a' c', e = .returned (.tuple #[.slice a' 0 c', .int .i64 1]) ∧ Below w.heap.size w w' :=
  cut_bad a0 c0 p3 a w (by decide) hI (fun h => ha ((wrapu_le hb (by omega)).1 (p3_can.1 h)))
/-! ### Slot, SlotOf -/
set_option maxRecDepth 100000 in
theorem slot_ws (a : Int) (w : World) (hb : -9223372036854775808 ≤ a ∧ a ≤ 9223372036854775807) (hW : Ws w) :
    Calls Tryz.prog 205 #[.int .i64 a] w fun e w' => e = .returned (.tuple #[.int .i64 (slH a), .int .i64 (slL a), .int .i64 (slE a)]) ∧ Below w.heap.size w w' := by
  obtain ⟨g0, g1⟩ := hW.s0
  have gl := hW.ls
  have HI : Hid (∀ ty, Ints .i64 (w.alloc (.cells #[.int .i64 4, .int .i64 4] ty)).heap.size (w.alloc (.cells #[.int .i64 4, .int .i64 4] ty)) (.slice (some ⟨w.heap.size, 0, none⟩) 2 2) s2 ∧ Below w.heap.size w (w.alloc (.cells #[.int .i64 4, .int .i64 4] ty))) := fun ty => ⟨ints_s2 w ty, bal (Below.refl _ _) _⟩
  have HR : Hid (-9223372036854775808 ≤ a ∧ a ≤ 9223372036854775807) := hb
  clear hW hb
  by_cases hc : 0 ≤ a ∧ a ≤ 255
  · rw [(sl_yes hc).1, (sl_yes hc).2.1, (sl_yes hc).2.2]
    have HC : Hid (0 ≤ a ∧ a ≤ 255) := hc
    clear hc
    generalize hx : a / 16 = x
    generalize hy : a % 16 = y
    have HX : Hid (a / 16 = x) := hx
    have HY : Hid (a % 16 = y) := hy
    clear hx hy
    go_enter Tryz.func205, Tryz.ntmps205
    go_wp2_with (first
      | (go_at_call 231; refine (cut_s2 _ _ a _ (HI.out _).1 HC.out).mono ?_; rintro e1 w1 ⟨b, o, c, rfl, q0, q1, hb1⟩; rw [HX.out] at q1; rw [HY.out] at q0; have H1 : Hid (Below w.heap.size w w1) := (HI.out _).2.trans (hb1.mono (HI.out _).2.size); clear hb1)
      | fail)
    go_quiet (fail)
    go_wp2
    go_ret3
    exact ⟨rfl, H1.out.trans (below_drew' _ _ _)⟩
  · rw [(sl_no hc).1, (sl_no hc).2.1, (sl_no hc).2.2]
    have HC : Hid (¬ (0 ≤ a ∧ a ≤ 255)) := hc
    clear hc
    go_enter Tryz.func205, Tryz.ntmps205
    go_wp2_with (first
      | (go_at_call 231; refine (cut_s2_no _ _ a _ (HI.out _).1 HR.out HC.out).mono ?_; rintro e1 w1 ⟨a1, c1, rfl, hb1⟩; have H1 : Hid (Below w.heap.size w w1) := (HI.out _).2.trans (hb1.mono (HI.out _).2.size); clear hb1)
      | fail)
    go_ret3
    exact ⟨rfl, H1.out⟩
/-! ### Page, PageOf, Number -/
end Go.Proofs.YtggggfhgfnbjnaaGreatDoor.Pradix

/- The two tables of widths, out of what a row's condition says of them. -/
namespace Go.Proofs.YtggggfhgfnbjnaaGreatDoor.Pradix
open Go.Proofs.YtggggfhgfnbjnaaGreatDoor.Pbase Go.Proofs.YtggggfhgfnbjnaaGreatDoor.Pfield
open Go.RowKit Go.ChangeShapes Go.WideShapes
set_option linter.unusedVariables false

theorem gTs : (Tryz.prog.globals[(4 : Nat)]?).map (·.type) = some 340 := by kernel_rfl
theorem cellsTwo : Tryz.prog.cellsOf 340 = 2 := by kernel_rfl
theorem cellsThree : Tryz.prog.cellsOf 334 = 3 := by kernel_rfl
theorem s_datum : /- 4 -/ (Rows.laid_palanquin_radix_slotWidths : DataW Unit) = .agg (s2.map fun z => .lit (.int .i64 z)) := rfl
theorem tabS_of {W : World} {g : Nat} {t : TypeId} {cs : Array Value} {fuel : Nat} {p : List MemPlace} {n : String} (hn : Tryz.prog.globalNamed n = some 4) (hg : Tryz.prog.globalNamed n = some g) (ht : (Tryz.prog.globals[g]?).map (·.type) = some t) (hv : W.var? Tryz.prog n = some cs)
    (hd : DataW.trod (fun _ => ()) Tryz.prog W 0 (fun _ => true) false fuel t cs.toList = some (Rows.laid_palanquin_radix_slotWidths, p)) : 4 < W.heap.size ∧ ∃ t fr, W.heap[(4 : Nat)]? = some (.cells #[.int .i64 4, .int .i64 4] t fr) := by
  obtain rfl := Option.some.inj (hn.symm.trans hg)
  obtain rfl := Option.some.inj (gTs.symm.trans ht)
  obtain ⟨t1, fr, hb⟩ := var_block hg hv
  refine ⟨block_lt hb, t1, fr, ?_⟩
  rw [s_datum] at hd
  obtain ⟨_, hl, hc⟩ := array_ints Tryz.underlying340 cellsTwo hd
  obtain ⟨cl⟩ := cs
  simp only at hl hc hb
  match cl, hl with
  | [v0, v1], _ =>
    have g0 := hc 0 (by omega)
    have g1 := hc 1 (by omega)
    simp [s2] at g0 g1
    rw [hb, g0, g1]
end Go.Proofs.YtggggfhgfnbjnaaGreatDoor.Pradix

/- The document's Slot, SlotOf, Page, PageOf and Number: the same answers. -/
namespace Go.Proofs.YtggggfhgfnbjnaaGreatDoor.Pradix
open Go.Proofs.YtggggfhgfnbjnaaGreatDoor.Pbase Go.Proofs.YtggggfhgfnbjnaaGreatDoor.Pfield
open Go.RowKit M
set_option linter.unusedVariables false

set_option maxRecDepth 100000 in
theorem rslot_any (a : Int) (w : World) :
    Calls Tryz.prog 165 #[.int .i64 a] w fun e w' => e = .returned (.tuple #[.int .i64 (slH a), .int .i64 (slL a), .int .i64 (slE a)]) ∧ w' = w := by
  by_cases hc : 0 ≤ a ∧ a ≤ 255
  · rw [(sl_yes hc).1, (sl_yes hc).2.1, (sl_yes hc).2.2]
    have h0 : ¬ a < 0 := by omega
    have h1 : ¬ 256 ≤ a := by omega
    go_enter Tryz.func165, Tryz.ntmps165
    go_wp2
    go_ret3
    exact ⟨rfl, rfl⟩
  · rw [(sl_no hc).1, (sl_no hc).2.1, (sl_no hc).2.2]
    have hk : a < 0 ∨ ¬ a < 0 ∧ 256 ≤ a := by omega
    clear hc
    rcases hk with h0 | ⟨h0, h1⟩
    all_goals
      go_enter Tryz.func165, Tryz.ntmps165
      go_wp2
      go_ret3
      exact ⟨rfl, rfl⟩
end Go.Proofs.YtggggfhgfnbjnaaGreatDoor.Pradix
