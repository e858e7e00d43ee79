/- Texts on finished packages, joined. -/
import Derived.Test.YtggggfhgfnbjnaaGreatDoorBunBase
import Derived.Test.YtggggfhgfnbjnaaGreatDoorBunField
import Derived.Below
import Derived.OwnWalk
import Derived.Laws.Rows
import Derived.BigQuiet
import Derived.Deep.RegionHeld3
import Derived.BigRegion
import Derived.Test.YtggggfhgfnbjnaaGreatDoorRows
import Derived.ProofKit
import Derived.OpenShut
import Derived.Carry
import Derived.LaidMore
import Derived.Deep.SlicePairs

/- Plain words on capabilities: which are right, their words, what is under what. No program is named here. -/
namespace Go.Proofs.YtggggfhgfnbjnaaGreatDoor.Pcap
open Go.Proofs.YtggggfhgfnbjnaaGreatDoor.Pbase Go.Proofs.YtggggfhgfnbjnaaGreatDoor.Pfield
open Go.RowKit M
set_option linter.unusedVariables false

/-- When a capability of kind k with the numbers r, t, l, e, a is right. -/
def Rt (k r t l e a : Int) : Prop :=
  0 ≤ k ∧ k ≤ 11 ∧ 0 ≤ r ∧ r ≤ 31 ∧ 0 ≤ t ∧ t ≤ 63 ∧ 0 ≤ l ∧ l ≤ 63 ∧ 0 ≤ e ∧ e ≤ 65535 ∧ 0 ≤ a ∧ a ≤ 1073741824 ∧
  (k = 0 → r = 0 ∧ t = 0 ∧ l = 0 ∧ e = 0 ∧ a = 0) ∧ (k = 1 → r = 0 ∧ t = 0 ∧ l = 0 ∧ e = 0) ∧
  (k = 2 → l = 0 ∧ e = 0 ∧ 1 ≤ a ∧ a ≤ 64 ∧ t + a ≤ 64) ∧ (k = 5 → a = 0) ∧ (k = 11 → t = 0 ∧ l = 0 ∧ e = 0 ∧ a = 0) ∧
  (k ≠ 0 ∧ k ≠ 1 ∧ k ≠ 2 ∧ k ≠ 5 ∧ k ≠ 7 ∧ k ≠ 11 → l = 0 ∧ e = 0 ∧ a = 0)
/-- Is it right? -/
def rtB (k r t l e a : Int) : Bool :=
  decide (0 ≤ k) && decide (k ≤ 11) && decide (0 ≤ r) && decide (r ≤ 31) && decide (0 ≤ t) && decide (t ≤ 63) && decide (0 ≤ l) && decide (l ≤ 63) && decide (0 ≤ e) && decide (e ≤ 65535) && decide (0 ≤ a) && decide (a ≤ 1073741824) &&
  (decide (k ≠ 0) || decide (r = 0 ∧ t = 0 ∧ l = 0 ∧ e = 0 ∧ a = 0)) && (decide (k ≠ 1) || decide (r = 0 ∧ t = 0 ∧ l = 0 ∧ e = 0)) &&
  (decide (k ≠ 2) || decide (l = 0 ∧ e = 0 ∧ 1 ≤ a ∧ a ≤ 64 ∧ t + a ≤ 64)) && (decide (k ≠ 5) || decide (a = 0)) && (decide (k ≠ 11) || decide (t = 0 ∧ l = 0 ∧ e = 0 ∧ a = 0)) &&
  (decide (k = 0 ∨ k = 1 ∨ k = 2 ∨ k = 5 ∨ k = 7 ∨ k = 11) || decide (l = 0 ∧ e = 0 ∧ a = 0))
theorem rtB_iff (k r t l e a : Int) : rtB k r t l e a = true ↔ Rt k r t l e a := by
  unfold rtB Rt
  simp only [Bool.and_eq_true, Bool.or_eq_true, decide_eq_true_eq]
  omega
theorem rtB_yes {k r t l e a : Int} (h : Rt k r t l e a) : rtB k r t l e a = true := (rtB_iff k r t l e a).2 h
theorem rtB_no {k r t l e a : Int} (h : ¬ Rt k r t l e a) : rtB k r t l e a = false := Bool.eq_false_iff.2 fun e1 => h ((rtB_iff k r t l e a).1 e1)
/-- What Check answers. -/
def chk (k r t l e a : Int) : Int := if rtB k r t l e a = true then 0 else 1
theorem chk_yes {k r t l e a : Int} (h : Rt k r t l e a) : chk k r t l e a = 0 := by unfold chk; rw [if_pos (rtB_yes h)]
theorem chk_no {k r t l e a : Int} (h : ¬ Rt k r t l e a) : chk k r t l e a = 1 := by unfold chk; rw [rtB_no h]; rfl

/-! ### the table -/
/-- How great the numbers of each kind may be. -/
def mostL : List (List Int) :=
  [[0, 0, 0, 0, 0, 0], [0, 0, 0, 0, 0, 1073741824], [0, 31, 63, 0, 0, 64], [0, 31, 63, 0, 0, 0], [0, 31, 63, 0, 0, 0], [0, 31, 63, 63, 65535, 0],
   [0, 31, 63, 0, 0, 0], [0, 31, 63, 63, 65535, 1073741824], [0, 31, 63, 0, 0, 0], [0, 31, 63, 0, 0, 0], [0, 31, 63, 0, 0, 0], [0, 31, 0, 0, 0, 0]]
def mostAt (k n : Nat) : Int := (mostL[k]?.getD [])[n]?.getD 0
/-- The numbers of one, in their order. -/
def nth (k r t l e a : Int) (j : Nat) : Int := [k, r, t, l, e, a][j]?.getD 0
theorem rt_of_table {K : Nat} {r t l e a : Int} (hK : K < 12) : (∀ j, 1 ≤ j → j < 6 → 0 ≤ nth K r t l e a j ∧ nth K r t l e a j ≤ mostAt K j) ∧ (K = 2 → a ≠ 0 ∧ t + a ≤ 64) ↔ Rt K r t l e a := by
  constructor
  · rintro ⟨h, h2⟩
    have h1 := h 1 (by omega) (by omega)
    have h2' := h 2 (by omega) (by omega)
    have h3 := h 3 (by omega) (by omega)
    have h4 := h 4 (by omega) (by omega)
    have h5 := h 5 (by omega) (by omega)
    unfold Rt
    match K, hK with
    | 0, _ | 1, _ | 2, _ | 3, _ | 4, _ | 5, _ | 6, _ | 7, _ | 8, _ | 9, _ | 10, _ | 11, _ =>
      simp [nth, mostAt, mostL] at h1 h2' h3 h4 h5 h2 ⊢
      omega
  · intro h
    unfold Rt at h
    refine ⟨fun j hj1 hj6 => ?_, fun hk => by subst hk; omega⟩
    match K, hK with
    | 0, _ | 1, _ | 2, _ | 3, _ | 4, _ | 5, _ | 6, _ | 7, _ | 8, _ | 9, _ | 10, _ | 11, _ =>
      match j, hj1, hj6 with
      | 1, _, _ | 2, _, _ | 3, _, _ | 4, _, _ | 5, _, _ =>
        simp [nth, mostAt, mostL] at h ⊢
        omega

/-! ### rights -/
/-- All of x's are y's. -/
def sub5 (x y : Int) : Bool := decide (x.toNat &&& y.toNat = x.toNat)
theorem sub5_refl (x : Int) : sub5 x x = true := by simp [sub5]
theorem sub5_trans {x y z : Int} (h1 : sub5 x y = true) (h2 : sub5 y z = true) : sub5 x z = true := by
  simp only [sub5, decide_eq_true_eq] at *
  rw [← h1, Nat.and_assoc, h2]
theorem andNot_all : ∀ a b : Fin 32, (bits .andNot .i64 (a.1 : Int) (b.1 : Int) == 0) = decide (a.1 &&& b.1 = a.1) := by decide +kernel
theorem and_all : ∀ a b : Fin 32, (bits .and .i64 (a.1 : Int) (b.1 : Int) == (a.1 : Int)) = decide (a.1 &&& b.1 = a.1) := by decide +kernel
theorem andNot_sub {x y : Int} (h0 : 0 ≤ x) (h1 : x ≤ 31) (h2 : 0 ≤ y) (h3 : y ≤ 31) : (bits .andNot .i64 x y == 0) = sub5 x y := by
  obtain ⟨A, rfl⟩ := Int.eq_ofNat_of_zero_le h0
  obtain ⟨B, rfl⟩ := Int.eq_ofNat_of_zero_le h2
  exact andNot_all ⟨A, by omega⟩ ⟨B, by omega⟩
theorem and_sub {x y : Int} (h0 : 0 ≤ x) (h1 : x ≤ 31) (h2 : 0 ≤ y) (h3 : y ≤ 31) : (bits .and .i64 x y == x) = sub5 x y := by
  obtain ⟨A, rfl⟩ := Int.eq_ofNat_of_zero_le h0
  obtain ⟨B, rfl⟩ := Int.eq_ofNat_of_zero_le h2
  exact and_all ⟨A, by omega⟩ ⟨B, by omega⟩
theorem and_small {x : Int} (r : Int) (h0 : 0 ≤ x) (h1 : x ≤ 31) : ∃ m : Nat, bits .and .i64 x r = ((x.toNat &&& m : Nat) : Int) ∧ x.toNat &&& m ≤ x.toNat := by
  obtain ⟨A, rfl⟩ := Int.eq_ofNat_of_zero_le h0
  refine ⟨(BitVec.ofInt 64 r).toNat, ?_, Nat.and_le_left⟩
  have hx : A &&& (BitVec.ofInt 64 r).toNat ≤ A := Nat.and_le_left
  show IntKind.i64.wrap ((BitVec.ofInt 64 (A : Int) &&& BitVec.ofInt 64 r).toNat : Int) = _
  rw [BitVec.toNat_and, ofInt_u64 A (by omega)]
  obtain ⟨y, hy⟩ : ∃ y, y = A &&& (BitVec.ofInt 64 r).toNat := ⟨_, rfl⟩
  rw [← hy] at hx
  rw [Int.toNat_natCast, ← hy]
  unfold IntKind.wrap
  simp [IntKind.bits, IntKind.signed]
  omega
theorem weak_rt {k r t l e a : Int} (x : Int) (hk : 1 < k) (h : Rt k r t l e a) : Rt k (bits .and .i64 r x) t l e a ∧ sub5 (bits .and .i64 r x) r = true := by
  have h' := h
  unfold Rt at h'
  obtain ⟨m, e1, e2⟩ := and_small x h'.2.2.1 h'.2.2.2.1
  constructor
  · unfold Rt
    rw [e1]
    omega
  · rw [e1]
    simp only [sub5, decide_eq_true_eq, Int.toNat_natCast]
    rw [Nat.and_comm r.toNat m, Nat.and_assoc, Nat.and_self]

/-! ### what is under what -/
def undB (k r t l e a k' r' t' l' e' a' : Int) : Bool :=
  rtB k r t l e a && rtB k' r' t' l' e' a' && decide (k = k') && decide (1 < k) && sub5 r r' && (if k = 2 then decide (t' ≤ t) && decide (t + a ≤ t' + a') else decide (t = t') && decide (l = l') && decide (e = e') && decide (a = a'))
/-! ### words -/
/-- The widths of the first word's parts. -/
def ws : List Int := [4, 5, 6, 6, 16]
theorem mask4 : maskF 4 = 15 := by decide
theorem mask5 : maskF 5 = 31 := by decide
theorem mask6 : maskF 6 = 63 := by decide
theorem mask16 : maskF 16 = 65535 := by decide
theorem put_can {k r t l e a : Int} (h : Rt k r t l e a) : (∀ j : Nat, 0 ≤ [k, r, t, l, e][j]?.getD 0 ∧ [k, r, t, l, e][j]?.getD 0 ≤ 18446744073709551615) ∧ ∀ j, j < ws.length → okP ws [k, r, t, l, e] j = true := by
  unfold Rt at h
  constructor
  · intro j
    match j with
    | 0 | 1 | 2 | 3 | 4 => simp; omega
    | j + 5 => simp
  · intro j hj
    match j, hj with
    | 0, _ | 1, _ | 2, _ | 3, _ | 4, _ =>
      simp [okP, inB, fitsB, mask4, mask5, mask6, mask16, sumTo, ws, wrap64]
      omega
end Go.Proofs.YtggggfhgfnbjnaaGreatDoor.Pcap

/- The two tables of package cap, as a walk asks them: their cells, in every world that leaves them. -/
namespace Go.Proofs.YtggggfhgfnbjnaaGreatDoor.Pcap
open Go.Proofs.YtggggfhgfnbjnaaGreatDoor.Pbase Go.Proofs.YtggggfhgfnbjnaaGreatDoor.Pfield
open Go.RowKit M
set_option linter.unusedVariables false

/-- The table of what is allowed. -/
structure TabM (w : World) : Prop where
  lt : 0 < w.heap.size
  cell : ∀ K j : Nat, K < 12 → j < 6 → w.cell? ⟨0, K * 6 + j, none⟩ = some (.int .i64 (mostAt K j))
theorem TabM.below {w w' : World} {B : Nat} (h : TabM w) (hB : Below B w w') (hle : w.heap.size ≤ B) : TabM w' :=
  ⟨Nat.lt_of_lt_of_le h.lt hB.size, fun K j hK hj => (hB.cell (p := ⟨0, K * 6 + j, none⟩) (Nat.lt_of_lt_of_le h.lt hle)).trans (h.cell K j hK hj)⟩
theorem TabM.on {w w' : World} (h : TabM w) (hB : Below w.heap.size w w') : TabM w' := h.below hB (Nat.le_refl _)
/-- The table of widths. -/
structure TabW (w : World) : Prop where
  lt : 3 < w.heap.size
  row : ∃ t fr, w.heap[(3 : Nat)]? = some (.cells #[.int .i64 4, .int .i64 5, .int .i64 6, .int .i64 6, .int .i64 16] t fr)
theorem TabW.on {w w' : World} (h : TabW w) (hB : Below w.heap.size w w') : TabW w' :=
  ⟨Nat.lt_of_lt_of_le h.lt hB.size, by obtain ⟨t, fr, hr⟩ := h.row; exact ⟨t, fr, (hB.block 3 h.lt).trans hr⟩⟩
/-! ### Lives, Holds, end, numbersOf, Weaken -/
def livB (k : Int) : Bool := decide (k = 5) || decide (k = 7)
theorem lives_any (k r t l e a : Int) (w : World) :
    Calls Tryz.prog 88 #[.agg #[.int .i64 k, .int .i64 r, .int .i64 t, .int .i64 l, .int .i64 e, .int .i64 a]] w fun x w' => x = .returned (.bool (livB k)) ∧ Below w.heap.size w w' := by
  by_cases h5 : k = 5
  · subst h5
    go_enter Tryz.func88, Tryz.ntmps88
    go_wp2
    go_ret
    exact ⟨rfl, bal (Below.refl _ _) _⟩
  by_cases h7 : k = 7
  · subst h7
    go_enter Tryz.func88, Tryz.ntmps88
    go_wp2
    go_ret
    exact ⟨rfl, bal (Below.refl _ _) _⟩
  have b5 : (k == 5) = false := by simp [h5]
  have b7 : (k == 7) = false := by simp [h7]
  go_enter Tryz.func88, Tryz.ntmps88
  go_wp2
  go_ret
  exact ⟨by simp [livB, h5, h7], bal (Below.refl _ _) _⟩
def holB (k : Int) : Bool := decide (3 ≤ k) && decide (k ≤ 10)
def holI (k t : Int) : Int := if holB k = true then t else 0
theorem end_any (k r t l e a : Int) (w : World) :
    Calls Tryz.prog 161 #[.agg #[.int .i64 k, .int .i64 r, .int .i64 t, .int .i64 l, .int .i64 e, .int .i64 a]] w fun x w' => x = .returned (.int .i64 (wrap64 (t + a))) ∧ Below w.heap.size w w' := by
  go_enter Tryz.func161, Tryz.ntmps161
  go_wp2
  go_ret
  exact ⟨by first | rfl | simp, bal (Below.refl _ _) _⟩
theorem numbers_any (k r t l e a : Int) (w : World) :
    Calls Tryz.prog 160 #[.agg #[.int .i64 k, .int .i64 r, .int .i64 t, .int .i64 l, .int .i64 e, .int .i64 a]] w fun x w' => x = .returned (.agg #[.int .i64 k, .int .i64 r, .int .i64 t, .int .i64 l, .int .i64 e, .int .i64 a]) ∧ Below w.heap.size w w' := by
  go_enter Tryz.func160, Tryz.ntmps160
  go_wp2
  refine bodyPost_ret (v := .agg #[.int .i64 k, .int .i64 r, .int .i64 t, .int .i64 l, .int .i64 e, .int .i64 a]) (by simp [results, Tryz.results160, go_sem]) rfl ⟨rfl, bal (bal (Below.refl _ _) _) _⟩
end Go.Proofs.YtggggfhgfnbjnaaGreatDoor.Pcap

/- What Check and Under of package cap answer, for every argument that their types allow. -/
namespace Go.Proofs.YtggggfhgfnbjnaaGreatDoor.Pcap
open Go.Proofs.YtggggfhgfnbjnaaGreatDoor.Pbase Go.Proofs.YtggggfhgfnbjnaaGreatDoor.Pfield
open Go.RowKit M
set_option linter.unusedVariables false

/-- A capability, its numbers in a row, and the table lie in a world. -/
structure Two (w : World) (B C : Nat) (K : Nat) (r t l e a : Int) : Prop where
  tab : TabM w
  ltb : B < w.heap.size
  ltc : C < w.heap.size
  b : ∀ j, j < 6 → w.cell? ⟨B, j, none⟩ = some (.int .i64 (nth K r t l e a j))
  c : ∀ j, j < 6 → w.cell? ⟨C, j, none⟩ = some (.int .i64 (nth K r t l e a j))
theorem Two.on {w w' : World} {B C K : Nat} {r t l e a : Int} (h : Two w B C K r t l e a) (hB : Below w.heap.size w w') : Two w' B C K r t l e a :=
  ⟨h.tab.on hB, Nat.lt_of_lt_of_le h.ltb hB.size, Nat.lt_of_lt_of_le h.ltc hB.size, fun j hj => (hB.cell (p := ⟨B, j, none⟩) h.ltb).trans (h.b j hj), fun j hj => (hB.cell (p := ⟨C, j, none⟩) h.ltc).trans (h.c j hj)⟩
theorem row_six (K : Nat) (r t l e a : Int) (j : Nat) (hj : j < 6) : (#[Value.int .i64 (K : Int), .int .i64 r, .int .i64 t, .int .i64 l, .int .i64 e, .int .i64 a] : Array Value)[j]? = some (.int .i64 (nth K r t l e a j)) := by
  match j, hj with
  | 0, _ | 1, _ | 2, _ | 3, _ | 4, _ | 5, _ => rfl
theorem two_new {w w1 : World} {K : Nat} {r t l e a : Int} {ty ty' : TypeId} (hT : TabM w) (hb1 : Below (w.alloc (.cells #[.int .i64 (K : Int), .int .i64 r, .int .i64 t, .int .i64 l, .int .i64 e, .int .i64 a] ty)).heap.size (w.alloc (.cells #[.int .i64 (K : Int), .int .i64 r, .int .i64 t, .int .i64 l, .int .i64 e, .int .i64 a] ty)) w1) :
    Two (w1.alloc (.cells #[.int .i64 (K : Int), .int .i64 r, .int .i64 t, .int .i64 l, .int .i64 e, .int .i64 a] ty')) w.heap.size w1.heap.size K r t l e a ∧ Below w.heap.size w (w1.alloc (.cells #[.int .i64 (K : Int), .int .i64 r, .int .i64 t, .int .i64 l, .int .i64 e, .int .i64 a] ty')) := by
  have hs := hb1.size
  simp only [World.size_alloc] at hs
  have B1 : Below w.heap.size w w1 := (bal (Below.refl _ _) _).trans (hb1.mono (by simp))
  have B2 := B1.alloc B1.size (.cells #[.int .i64 (K : Int), .int .i64 r, .int .i64 t, .int .i64 l, .int .i64 e, .int .i64 a] ty')
  refine ⟨⟨hT.on B2, by simp; omega, by simp, fun j hj => ?_, fun j hj => ?_⟩, B2⟩
  · rw [cell_of_row _ _ j _ _ _ ((Below.heap_alloc w1 _ w.heap.size (by omega)).trans ((hb1.block w.heap.size (by simp)).trans (heap_alloc_new w _)))]
    exact row_six K r t l e a j hj
  · rw [cell_of_row _ _ j _ _ _ (heap_alloc_new w1 _)]
    exact row_six K r t l e a j hj
theorem ret_no {k r t l e a : Int} (h : ¬ Rt k r t l e a) : Ending.returned (Value.int .i64 1) = .returned (.int .i64 (chk k r t l e a)) := by rw [chk_no h]
theorem ret_yes {k r t l e a : Int} (h : Rt k r t l e a) : Ending.returned (Value.int .i64 0) = .returned (.int .i64 (chk k r t l e a)) := by rw [chk_yes h]
set_option maxRecDepth 100000 in
theorem check_any (k r t l e a : Int) (w : World) (hT : TabM w) :
    Calls Tryz.prog 67 #[.agg #[.int .i64 k, .int .i64 r, .int .i64 t, .int .i64 l, .int .i64 e, .int .i64 a]] w fun x w' => x = .returned (.int .i64 (chk k r t l e a)) ∧ Below w.heap.size w w' := by
  by_cases h0 : k < 0
  · rw [chk_no (by unfold Rt; omega)]
    go_enter Tryz.func67, Tryz.ntmps67
    go_wp2
    go_ret
    exact ⟨rfl, bal (Below.refl _ _) _⟩
  by_cases h12 : 12 ≤ k
  · rw [chk_no (by unfold Rt; omega)]
    go_enter Tryz.func67, Tryz.ntmps67
    go_wp2
    go_ret
    exact ⟨rfl, bal (Below.refl _ _) _⟩
  obtain ⟨K, rfl⟩ := Int.eq_ofNat_of_zero_le (show 0 ≤ k by omega)
  have hK : K < 12 := by omega
  have HT : Hid (TabM w) := hT
  clear hT h12 h0
  have n0 : ¬ (K : Int) < 0 := by omega
  have n1 : ¬ 12 ≤ (K : Int) := by omega
  have n2 : ¬ 12 ≤ K := by omega
  go_enter Tryz.func67, Tryz.ntmps67
  go_wp2_with (first
    | (go_at_call 160; refine (numbers_any _ _ _ _ _ _ _).mono ?_; rintro e1 w1 ⟨rfl, hb1⟩; have HB1 := fun ty' => two_new (ty' := ty') HT.out hb1; clear hb1)
    | fail)
  replace HB1 := HB1 243
  generalize w1.alloc _ = w2 at HB1 ⊢
  obtain ⟨h2, hb2⟩ := HB1
  have H2 : Hid (Two w2 w.heap.size w1.heap.size K r t l e a) := h2
  have HB2 : Hid (Below w.heap.size w w2) := hb2
  clear h2 hb2 HT
  generalize w1.heap.size = C at H2 ⊢
  obtain ⟨B, hB⟩ : ∃ B, B = w.heap.size := ⟨_, rfl⟩
  rw [← hB] at H2 ⊢
  have HBB : Hid (B = w.heap.size) := hB
  clear hB
  go_loopw [4] (fun n wr => ∃ N : Nat, 1 ≤ N ∧ N ≤ 6 ∧ n = .int .i64 N ∧ (∀ j, 1 ≤ j → j < N → 0 ≤ nth K r t l e a j ∧ nth K r t l e a j ≤ mostAt K j) ∧ Hid (Below w2.heap.size w2 wr)) (fun n _ => 6 - (intOf n).toNat)
  case atStart => exact ⟨1, by omega, by omega, rfl, fun j _ _ => by omega, Below.refl _ _⟩
  case round =>
    obtain ⟨N, hN1, hN6, rfl, hok, HR⟩ := hrel
    by_cases hlt : N < 6
    · have c1 := (H2.out.on HR.out).c N hlt
      have c2 := (H2.out.on HR.out).b 0 (by omega)
      have c3 := (H2.out.on HR.out).tab.cell K N hK hlt
      obtain ⟨x, hx⟩ : ∃ x, x = nth K r t l e a N := ⟨_, rfl⟩
      obtain ⟨m, hm⟩ : ∃ m, m = mostAt K N := ⟨_, rfl⟩
      rw [← hx] at c1
      rw [← hm] at c3
      rw [show nth K r t l e a 0 = K from rfl] at c2
      have HX : Hid (x = nth K r t l e a N) := hx
      have HM : Hid (m = mostAt K N) := hm
      have HO : Hid (∀ j, 1 ≤ j → j < N → 0 ≤ nth K r t l e a j ∧ nth K r t l e a j ≤ mostAt K j) := hok
      clear hx hm hok
      by_cases hx0 : x < 0
      · go_wp2
        go_quiet (fail)
        go_wp2
        go_ret
        refine ⟨?_, (HB2.out.trans (HR.out.mono HB2.out.size)).trans (below_drew' _ _ _)⟩
        refine ret_no fun h => ?_
        have := ((rt_of_table hK).2 h).1 N hN1 hlt
        rw [← HX.out] at this
        omega
      · by_cases hxm : m < x
        · go_wp2
          go_quiet (fail)
          go_wp2
          go_ret
          refine ⟨?_, (HB2.out.trans (HR.out.mono HB2.out.size)).trans (below_drew' _ _ _)⟩
          refine ret_no fun h => ?_
          have := ((rt_of_table hK).2 h).1 N hN1 hlt
          rw [← HX.out, ← HM.out] at this
          omega
        · go_wp2
          go_quiet (fail)
          go_wp2
          go_roundw
          case rel =>
            refine ⟨N + 1, by omega, by omega, by go_num, fun j h1 h2 => ?_, HR.out.trans (below_drew' _ _ _)⟩
            by_cases hj : j = N
            · rw [hj, ← HX.out, ← HM.out]; omega
            · exact HO.out j h1 (by omega)
          case measure => simp [intOf]; omega
    · obtain rfl : N = 6 := by omega
      have HO : Hid (∀ j, 1 ≤ j → j < 6 → 0 ≤ nth K r t l e a j ∧ nth K r t l e a j ≤ mostAt K j) := hok
      have c2 := (H2.out.on HR.out).b 0 (by omega)
      have c3 := (H2.out.on HR.out).b 1 (by omega)
      have c4 := (H2.out.on HR.out).b 2 (by omega)
      have c5 := (H2.out.on HR.out).b 3 (by omega)
      have c6 := (H2.out.on HR.out).b 4 (by omega)
      have c7 := (H2.out.on HR.out).b 5 (by omega)
      simp only [nth, List.getElem?_cons_zero, List.getElem?_cons_succ, Option.getD_some] at c2 c3 c4 c5 c6 c7
      have HW : Hid (Below w.heap.size w wr) := HB2.out.trans (HR.out.mono HB2.out.size)
      clear hok hlt HR HB2 H2
      by_cases hk2 : K = 2
      · subst hk2
        by_cases ha : a = 0
        · subst ha
          have HE : Hid (Ending.returned (Value.int .i64 1) = .returned (.int .i64 (chk (2 : Nat) r t l e 0))) := ret_no (by unfold Rt; simp)
          go_wp2
          go_ret
          exact ⟨HE.out, HW.out⟩
        · have b0 : (a == 0) = false := by simp [ha]
          have h2 := HO.out 2 (by omega) (by omega)
          have h5 := HO.out 5 (by omega) (by omega)
          simp only [nth, mostAt, mostL, List.getElem?_cons_zero, List.getElem?_cons_succ, Option.getD_some] at h2 h5
          have hs : wrap64 (t + a) = t + a := by unfold wrap64; omega
          by_cases hta : 64 < t + a
          · have HE : Hid (Ending.returned (Value.int .i64 1) = .returned (.int .i64 (chk (2 : Nat) r t l e a))) := ret_no (by unfold Rt; omega)
            clear h2 h5
            go_wp2_with (first
              | (go_at_call 161; refine (end_any _ _ _ _ _ _ _).mono ?_; rintro e1 w3 ⟨rfl, hb3⟩; rw [hs]; have HW3 : Hid (Below w.heap.size w w3) := HW.out.trans (hb3.mono HW.out.size); clear hb3)
              | fail)
            go_ret
            exact ⟨HE.out, HW3.out⟩
          · have HE : Hid (Ending.returned (Value.int .i64 0) = .returned (.int .i64 (chk (2 : Nat) r t l e a))) := ret_yes ((rt_of_table hK).1 ⟨HO.out, fun _ => ⟨ha, by omega⟩⟩)
            clear h2 h5
            go_wp2_with (first
              | (go_at_call 161; refine (end_any _ _ _ _ _ _ _).mono ?_; rintro e1 w3 ⟨rfl, hb3⟩; rw [hs]; have HW3 : Hid (Below w.heap.size w w3) := HW.out.trans (hb3.mono HW.out.size); clear hb3)
              | fail)
            go_ret
            exact ⟨HE.out, HW3.out⟩
      · have HE : Hid (Ending.returned (Value.int .i64 0) = .returned (.int .i64 (chk K r t l e a))) := ret_yes ((rt_of_table hK).1 ⟨HO.out, fun h => absurd h hk2⟩)
        have b2 : (((K : Nat) : Int) == 2) = false := by simp; omega
        go_wp2
        go_ret
        exact ⟨HE.out, HW.out⟩
end Go.Proofs.YtggggfhgfnbjnaaGreatDoor.Pcap

/- What Under of package cap answers, for every argument that its types allow. -/
namespace Go.Proofs.YtggggfhgfnbjnaaGreatDoor.Pcap
open Go.Proofs.YtggggfhgfnbjnaaGreatDoor.Pbase Go.Proofs.YtggggfhgfnbjnaaGreatDoor.Pfield
open Go.RowKit M
set_option linter.unusedVariables false

/-- A capability in a block. -/
structure Box6 (w : World) (B : Nat) (k r t l e a : Int) : Prop where
  lt : B < w.heap.size
  c0 : w.cell? ⟨B, 0, none⟩ = some (.int .i64 k)
  c1 : w.cell? ⟨B, 1, none⟩ = some (.int .i64 r)
  c2 : w.cell? ⟨B, 2, none⟩ = some (.int .i64 t)
  c3 : w.cell? ⟨B, 3, none⟩ = some (.int .i64 l)
  c4 : w.cell? ⟨B, 4, none⟩ = some (.int .i64 e)
  c5 : w.cell? ⟨B, 5, none⟩ = some (.int .i64 a)
  fz : ∀ j, w.frozen? ⟨B, j, none⟩ = false
theorem Box6.on {w w' : World} {B : Nat} {k r t l e a : Int} (h : Box6 w B k r t l e a) (hB : Below w.heap.size w w') : Box6 w' B k r t l e a :=
  ⟨Nat.lt_of_lt_of_le h.lt hB.size, (hB.cell (p := ⟨B, 0, none⟩) h.lt).trans h.c0, (hB.cell (p := ⟨B, 1, none⟩) h.lt).trans h.c1, (hB.cell (p := ⟨B, 2, none⟩) h.lt).trans h.c2, (hB.cell (p := ⟨B, 3, none⟩) h.lt).trans h.c3, (hB.cell (p := ⟨B, 4, none⟩) h.lt).trans h.c4, (hB.cell (p := ⟨B, 5, none⟩) h.lt).trans h.c5, fun j => (hB.frozen (p := ⟨B, j, none⟩) h.lt).trans (h.fz j)⟩
theorem box6_new (w : World) (k r t l e a : Int) (ty : TypeId) : Box6 (w.alloc (.cells #[.int .i64 k, .int .i64 r, .int .i64 t, .int .i64 l, .int .i64 e, .int .i64 a] ty)) w.heap.size k r t l e a := by
  have h := heap_alloc_new w (.cells #[.int .i64 k, .int .i64 r, .int .i64 t, .int .i64 l, .int .i64 e, .int .i64 a] ty)
  refine ⟨by simp, ?_, ?_, ?_, ?_, ?_, ?_, fun j => frozen_of_row _ _ _ _ _ h⟩ <;> (rw [cell_of_row _ _ _ _ _ _ h]; rfl)
/-- Two capabilities in two blocks of the call's own. -/
structure Pair (w0 w : World) (k r t l e a k' r' t' l' e' a' : Int) : Prop where
  tab : TabM w
  below : Below w0.heap.size w0 w
  p : Box6 w w0.heap.size k r t l e a
  q : Box6 w (w0.heap.size + 1) k' r' t' l' e' a'
theorem Pair.on {w0 w w' : World} {k r t l e a k' r' t' l' e' a' : Int} (h : Pair w0 w k r t l e a k' r' t' l' e' a') (hB : Below w.heap.size w w') : Pair w0 w' k r t l e a k' r' t' l' e' a' :=
  ⟨h.tab.on hB, h.below.trans (hB.mono h.below.size), h.p.on hB, h.q.on hB⟩
theorem pair_new (w : World) (hT : TabM w) (k r t l e a k' r' t' l' e' a' : Int) (ty ty' : TypeId) :
    Pair w ((w.alloc (.cells #[.int .i64 k, .int .i64 r, .int .i64 t, .int .i64 l, .int .i64 e, .int .i64 a] ty)).alloc (.cells #[.int .i64 k', .int .i64 r', .int .i64 t', .int .i64 l', .int .i64 e', .int .i64 a'] ty')) k r t l e a k' r' t' l' e' a' := by
  have B1 := bal (Below.refl w.heap.size w) (.cells #[.int .i64 k, .int .i64 r, .int .i64 t, .int .i64 l, .int .i64 e, .int .i64 a] ty)
  have B2 := bal B1 (.cells #[.int .i64 k', .int .i64 r', .int .i64 t', .int .i64 l', .int .i64 e', .int .i64 a'] ty')
  have q := box6_new (w.alloc (.cells #[.int .i64 k, .int .i64 r, .int .i64 t, .int .i64 l, .int .i64 e, .int .i64 a] ty)) k' r' t' l' e' a' ty'
  rw [World.size_alloc] at q
  exact ⟨hT.on B2, B2, (box6_new w k r t l e a ty).on (bal (Below.refl _ _) _), q⟩
theorem und_badp {k r t l e a k' r' t' l' e' a' : Int} (h : ¬ Rt k r t l e a) : undB k r t l e a k' r' t' l' e' a' = false := by simp [undB, rtB_no h]
theorem und_badq {k r t l e a k' r' t' l' e' a' : Int} (h : ¬ Rt k' r' t' l' e' a') : undB k r t l e a k' r' t' l' e' a' = false := by simp [undB, rtB_no h]
theorem und_kind {k r t l e a k' r' t' l' e' a' : Int} (h : k ≠ k') : undB k r t l e a k' r' t' l' e' a' = false := by simp [undB, h]
theorem und_low {k r t l e a k' r' t' l' e' a' : Int} (h : k ≤ 1) : undB k r t l e a k' r' t' l' e' a' = false := by simp [undB, show ¬ 1 < k by omega]
theorem und_rights {k r t l e a k' r' t' l' e' a' : Int} (h : sub5 r r' = false) : undB k r t l e a k' r' t' l' e' a' = false := by simp [undB, h]
theorem und_mem {r t l e a r' t' l' e' a' : Int} (h1 : Rt 2 r t l e a) (h2 : Rt 2 r' t' l' e' a') (h : sub5 r r' = true) : undB 2 r t l e a 2 r' t' l' e' a' = (decide (t' ≤ t) && decide (t + a ≤ t' + a')) := by simp [undB, h, rtB_yes h1, rtB_yes h2]
theorem und_else {k r t l e a r' t' l' e' a' : Int} (h1 : Rt k r t l e a) (h2 : Rt k r' t' l' e' a') (hk : 1 < k) (hk2 : k ≠ 2) (h : sub5 r r' = true) : undB k r t l e a k r' t' l' e' a' = (decide (t = t') && decide (l = l') && decide (e = e') && decide (a = a')) := by simp [undB, h, rtB_yes h1, rtB_yes h2, hk, hk2]
end Go.Proofs.YtggggfhgfnbjnaaGreatDoor.Pcap

/- What Put of package cap answers, for every argument that its types allow. -/
namespace Go.Proofs.YtggggfhgfnbjnaaGreatDoor.Pcap
open Go.Proofs.YtggggfhgfnbjnaaGreatDoor.Pbase Go.Proofs.YtggggfhgfnbjnaaGreatDoor.Pfield
open Go.RowKit M
set_option linter.unusedVariables false

/-- The two words that Put answers. -/
def putW (k r t l e a : Int) : Int := if rtB k r t l e a = true then packF ws [k, r, t, l, e] else 0
def putA (k r t l e a : Int) : Int := if rtB k r t l e a = true then a else 0
theorem putW_yes {k r t l e a : Int} (h : Rt k r t l e a) : putW k r t l e a = packF ws [k, r, t, l, e] := by simp [putW, rtB_yes h]
theorem putW_no {k r t l e a : Int} (h : ¬ Rt k r t l e a) : putW k r t l e a = 0 := by simp [putW, rtB_no h]
theorem putA_yes {k r t l e a : Int} (h : Rt k r t l e a) : putA k r t l e a = a := by simp [putA, rtB_yes h]
theorem putA_no {k r t l e a : Int} (h : ¬ Rt k r t l e a) : putA k r t l e a = 0 := by simp [putA, rtB_no h]

/-- The numbers lie in a row, and the first n of them as words in another. -/
structure PS (w0 w : World) (P C n : Nat) (k r t l e a : Int) : Prop where
  tabw : TabW w
  below : Below w0.heap.size w0 w
  lo : w0.heap.size ≤ P
  ltP : P < w.heap.size
  ltC : C < w.heap.size
  ne : C ≠ P
  neW : 3 ≠ P
  row : ∃ cs : Array Value, cs.size = 5 ∧ w.heap[P]? = some (.cells cs 338 (0, 0))
  all : ∀ j, j < 6 → w.cell? ⟨C, j, none⟩ = some (.int .i64 (nth k r t l e a j))
  done : ∀ j, j < n → w.cell? ⟨P, j, none⟩ = some (.int .u64 (nth k r t l e a j))
theorem PS.has {w0 w : World} {P C n : Nat} {k r t l e a : Int} (h : PS w0 w P C n k r t l e a) {j : Nat} (hj : j < 5) : ∃ v, w.cell? ⟨P, j, none⟩ = some v := by
  obtain ⟨cs, hs, hr⟩ := h.row
  exact ⟨cs[j], by rw [cell_of_row _ _ j _ _ _ hr]; simp [hs, hj]⟩
theorem PS.free {w0 w : World} {P C n : Nat} {k r t l e a : Int} (h : PS w0 w P C n k r t l e a) (j : Nat) : w.frozen? ⟨P, j, none⟩ = false := by
  obtain ⟨cs, hs, hr⟩ := h.row
  exact frozen_of_row _ _ _ _ _ hr
theorem PS.step {w0 w : World} {P C n : Nat} {k r t l e a : Int} (h : PS w0 w P C n k r t l e a) (hn : n < 5) : PS w0 (w.setCell ⟨P, n, none⟩ (.int .u64 (nth k r t l e a n))) P C (n + 1) k r t l e a := by
  obtain ⟨cs, hs, hr⟩ := h.row
  obtain ⟨v, hv⟩ := h.has hn
  obtain ⟨t1, fr, hw⟩ := h.tabw.row
  refine ⟨⟨by simpa using h.tabw.lt, t1, fr, (heap_setCell_other _ _ _ _ h.neW).trans hw⟩, h.below.setCell (p := ⟨P, n, none⟩) h.lo _, h.lo, by simpa using h.ltP, by simpa using h.ltC, h.ne, h.neW, ⟨_, by simpa using hs, heap_setCell_same _ _ _ _ _ _ hr⟩, fun j hj => ?_, fun j hj => ?_⟩
  · have hne : (⟨P, n, none⟩ : Addr) ≠ ⟨C, j, none⟩ := by intro hh; cases hh; exact h.ne rfl
    exact (World.cell?_setCell_other w _ _ _ hne).trans (h.all j hj)
  · by_cases e1 : j = n
    · subst e1
      exact World.cell?_setCell_same w _ _ hv
    · have hne : (⟨P, n, none⟩ : Addr) ≠ ⟨P, j, none⟩ := by intro hh; cases hh; exact e1 rfl
      exact (World.cell?_setCell_other w _ _ _ hne).trans (h.done j (by omega))
theorem row_six' (k r t l e a : Int) (j : Nat) (hj : j < 6) : (#[Value.int .i64 k, .int .i64 r, .int .i64 t, .int .i64 l, .int .i64 e, .int .i64 a] : Array Value)[j]? = some (.int .i64 (nth k r t l e a j)) := by
  match j, hj with
  | 0, _ | 1, _ | 2, _ | 3, _ | 4, _ | 5, _ => rfl
theorem ps_new {w w1 w2 : World} {k r t l e a : Int} {cs : Array Value} {ty : TypeId} (hcs : cs.size = 5) (hW : TabW w) (h1 : Below w.heap.size w w1) (h2 : Below (w1.alloc (.cells cs 338)).heap.size (w1.alloc (.cells cs 338)) w2) :
    PS w (w2.alloc (.cells #[.int .i64 k, .int .i64 r, .int .i64 t, .int .i64 l, .int .i64 e, .int .i64 a] ty)) w1.heap.size w2.heap.size 0 k r t l e a := by
  have hs := h2.size
  have h1s := h1.size
  simp only [World.size_alloc] at hs
  have B2 : Below w.heap.size w w2 := (bal h1 _).trans (h2.mono (by simp; omega))
  have B3 := bal B2 (.cells #[.int .i64 k, .int .i64 r, .int .i64 t, .int .i64 l, .int .i64 e, .int .i64 a] ty)
  have hlt := hW.lt
  refine ⟨hW.on B3, B3, h1s, by simp; omega, by simp, by omega, by omega, ⟨cs, hcs, ?_⟩, fun j hj => ?_, fun j hj => by omega⟩
  · exact (Below.heap_alloc w2 _ _ (by omega)).trans ((h2.block w1.heap.size (by simp)).trans (heap_alloc_new w1 _))
  · rw [cell_of_row _ _ j _ _ _ (heap_alloc_new w2 _)]
    exact row_six' k r t l e a j hj
/-- The words of the widths, copied, and the parts. -/
theorem ints_parts {w0 w : World} {P C : Nat} {k r t l e a : Int} (h : PS w0 w P C 5 k r t l e a) (ty : TypeId) :
    Ints .i64 (w.alloc (.cells #[.int .i64 4, .int .i64 5, .int .i64 6, .int .i64 6, .int .i64 16] ty)).heap.size (w.alloc (.cells #[.int .i64 4, .int .i64 5, .int .i64 6, .int .i64 6, .int .i64 16] ty)) (.slice (some ⟨w.heap.size, 0, none⟩) ws.length 5) ws ∧
    Ints .u64 (w.alloc (.cells #[.int .i64 4, .int .i64 5, .int .i64 6, .int .i64 6, .int .i64 16] ty)).heap.size (w.alloc (.cells #[.int .i64 4, .int .i64 5, .int .i64 6, .int .i64 6, .int .i64 16] ty)) (.slice (some ⟨P, 0, none⟩) ws.length 5) [k, r, t, l, e] := by
  have hP := h.ltP
  constructor
  · refine .inr ⟨w.heap.size, 0, 5, rfl, by simp, fun j hj => ?_⟩
    rw [Nat.zero_add, cell_of_row _ _ j _ _ _ (heap_alloc_new w _)]
    match j, hj with
    | 0, _ | 1, _ | 2, _ | 3, _ | 4, _ => rfl
  · refine .inr ⟨P, 0, 5, rfl, by simp; omega, fun j hj => ?_⟩
    have hj' : j < 5 := by simpa using hj
    rw [Nat.zero_add, (bal (Below.refl w.heap.size w) _).cell (p := ⟨P, j, none⟩) hP, h.done j hj']
    match j, hj' with
    | 0, _ | 1, _ | 2, _ | 3, _ | 4, _ => rfl
set_option maxRecDepth 100000 in
theorem put_any (k r t l e a : Int) (w : World) (hT : TabM w) (hW : TabW w) :
    Calls Tryz.prog 202 #[.agg #[.int .i64 k, .int .i64 r, .int .i64 t, .int .i64 l, .int .i64 e, .int .i64 a]] w fun x w' => x = .returned (.tuple #[.int .u64 (putW k r t l e a), .int .u64 (putA k r t l e a), .int .i64 (chk k r t l e a)]) ∧ Below w.heap.size w w' := by
  have HT : Hid (∀ o, TabM (w.alloc o)) := fun o => hT.on (bal (Below.refl _ _) _)
  have HW : Hid (TabW w) := hW
  have HI : Hid (∀ ty, Box6 (w.alloc (.cells #[.int .i64 k, .int .i64 r, .int .i64 t, .int .i64 l, .int .i64 e, .int .i64 a] ty)) w.heap.size k r t l e a) := fun ty => box6_new w _ _ _ _ _ _ ty
  clear hT hW
  by_cases hp : Rt k r t l e a
  case neg =>
    rw [putW_no hp, putA_no hp]
    have hc : chk k r t l e a = 1 := chk_no hp
    rw [hc]
    clear hp
    go_enter Tryz.func202, Tryz.ntmps202
    go_wp2_with (first
      | (go_at_call 67; refine (check_any _ _ _ _ _ _ _ (HT.out _)).mono ?_; rintro e1 w1 ⟨rfl, hb1⟩; rw [hc]; have H1 : Hid (Below w.heap.size w w1) := (bal (Below.refl _ _) _).trans (hb1.mono (by simp)); clear hb1)
      | fail)
    go_ret3
    exact ⟨rfl, H1.out⟩
  case pos =>
  rw [putW_yes hp, putA_yes hp]
  have hc : chk k r t l e a = 0 := chk_yes hp
  rw [hc]
  have HP : Hid (Rt k r t l e a) := hp
  clear hp
  go_enter Tryz.func202, Tryz.ntmps202
  go_wp2_with (first
    | (go_at_call 67; refine (check_any _ _ _ _ _ _ _ (HT.out _)).mono ?_; rintro e1 w1 ⟨rfl, hb1⟩; rw [hc]; have H1 : Hid (Below w.heap.size w w1) := (bal (Below.refl _ _) _).trans (hb1.mono (by simp)); have X1 := (HI.out _).on hb1; clear hb1 HT; have x0 := X1.c0; have x1 := X1.c1; have x2 := X1.c2; have x3 := X1.c3; have x4 := X1.c4; have x5 := X1.c5; have xl := X1.lt; clear X1)
    | (go_at_call 160; refine (numbers_any _ _ _ _ _ _ _).mono ?_; rintro e2 w2 ⟨rfl, hb2⟩; have H2 := fun ty' => ps_new (k := k) (r := r) (t := t) (l := l) (e := e) (a := a) (ty := ty') (by rfl) HW.out H1.out hb2; clear hb2)
    | fail)
  replace H2 := H2 243
  generalize w2.alloc _ = w3 at H2 ⊢
  have HS : Hid (PS w w3 w1.heap.size w2.heap.size 0 k r t l e a) := H2
  clear H2 x0 x1 x2 x3 x4 x5 xl
  generalize w1.heap.size = P at HS ⊢
  generalize w2.heap.size = C at HS ⊢
  go_loopw [19, 8] (fun i n wr => ∃ N : Nat, N ≤ 5 ∧ i = .int .i64 N ∧ Hid (PS w wr P C N k r t l e a)) (fun i _ _ => 5 - (intOf i).toNat)
  case atStart => exact ⟨0, by omega, rfl, HS⟩
  case round =>
    obtain ⟨N, hN, rfl, HR⟩ := hrel
    by_cases hlt : N < 5
    · have c1 := HR.out.all N (by omega)
      obtain ⟨v, c2⟩ := HR.out.has hlt
      have c3 := HR.out.free N
      obtain ⟨x, hx⟩ : ∃ x, x = nth k r t l e a N := ⟨_, rfl⟩
      rw [← hx] at c1
      have hx0 : 0 ≤ x ∧ x ≤ 18446744073709551615 := by
        have hr := HP.out
        unfold Rt at hr
        rw [hx]
        match N, hlt with
        | 0, _ | 1, _ | 2, _ | 3, _ | 4, _ => simp [nth]; omega
      obtain ⟨hx1, hx2⟩ := hx0
      have HX : Hid (x = nth k r t l e a N) := hx
      clear hx
      go_wp2
      refine ⟨⟨N + 1, by omega, by go_num, ?_⟩, by simp [intOf]; omega⟩
      rw [HX.out]
      exact HR.out.step hlt
    · obtain rfl : N = 5 := by omega
      have c5 := HR.out.all 5 (by omega)
      rw [show nth k r t l e a 5 = a from rfl] at c5
      obtain ⟨t1, fr, hg⟩ := HR.out.tabw.row
      have HG : Hid (wr.heap[(3 : Nat)]? = some (.cells #[.int .i64 4, .int .i64 5, .int .i64 6, .int .i64 6, .int .i64 16] t1 fr)) := hg
      have g0 : wr.cell? ⟨3, 0, none⟩ = some (.int .i64 4) := (cell_of_row _ _ 0 _ _ _ hg).trans rfl
      have g1 : wr.cell? ⟨3, 1, none⟩ = some (.int .i64 5) := (cell_of_row _ _ 1 _ _ _ hg).trans rfl
      have g2 : wr.cell? ⟨3, 2, none⟩ = some (.int .i64 6) := (cell_of_row _ _ 2 _ _ _ hg).trans rfl
      have g3 : wr.cell? ⟨3, 3, none⟩ = some (.int .i64 6) := (cell_of_row _ _ 3 _ _ _ hg).trans rfl
      have g4 : wr.cell? ⟨3, 4, none⟩ = some (.int .i64 16) := (cell_of_row _ _ 4 _ _ _ hg).trans rfl
      clear hg
      have hr := HP.out
      unfold Rt at hr
      have ha0 : 0 ≤ a := hr.2.2.2.2.2.2.2.2.2.2.1
      have ha1 : a ≤ 1073741824 := hr.2.2.2.2.2.2.2.2.2.2.2.1
      clear hr
      have hints := ints_parts HR.out 336
      have hB4 := bal HR.out.below (.cells #[.int .i64 4, .int .i64 5, .int .i64 6, .int .i64 6, .int .i64 16] 336)
      have c6 := ((bal (Below.refl wr.heap.size wr) (.cells #[.int .i64 4, .int .i64 5, .int .i64 6, .int .i64 6, .int .i64 16] 336)).cell (p := ⟨C, 5, none⟩) HR.out.ltC).trans c5
      have ltC : C < (wr.alloc (.cells #[.int .i64 4, .int .i64 5, .int .i64 6, .int .i64 6, .int .i64 16] 336)).heap.size := by have := HR.out.ltC; simp; omega
      go_wp2
      generalize wr.alloc _ = w4 at hints hB4 c6 ltC ⊢
      generalize wr.heap.size = D at hints ⊢
      have H4 : Hid (Below w.heap.size w w4) := hB4
      have HC : Hid (w4.cell? ⟨C, 5, none⟩ = some (.int .i64 a)) := c6
      have HL : Hid (C < w4.heap.size) := ltC
      have HK : Hid (∀ w5, Below w4.heap.size w4 w5 → Calls Tryz.prog 227 #[.slice (some ⟨D, 0, none⟩) 5 5, .slice (some ⟨P, 0, none⟩) 5 5] w5 fun e' W' => e' = .returned (.tuple #[.int .u64 (packF ws [k, r, t, l, e]), .int .i64 0]) ∧ Below w5.heap.size w5 W') := fun w5 m => pack_ok (some ⟨D, 0, none⟩) (some ⟨P, 0, none⟩) 5 5 ws [k, r, t, l, e] w5 (by decide) rfl (put_can HP.out).1 (hints.1.on m) (hints.2.on m) (put_can HP.out).2
      clear hints hB4 c6 ltC c5 g0 g1 g2 g3 g4
      obtain ⟨z, hz⟩ : ∃ z, z = packF ws [k, r, t, l, e] := ⟨_, rfl⟩
      rw [← hz] at HK
      have HZ : Hid (z = packF ws [k, r, t, l, e]) := hz
      clear hz
      go_region_held3 (fun _ => True) (first | exact trivial | go_keep)
      (first
        | (go_at_call 227; refine (HK.out _ (by first | exact Below.refl _ _ | exact (Below.refl _ _).drew)).mono ?_; rintro e5 w5 ⟨rfl, hb5⟩; have H5 : Hid (Below w4.heap.size w4 w5) := (by first | exact hb5 | exact (Below.refl _ _).drew.trans hb5); clear hb5; have x5 := (H5.out.cell (p := ⟨C, 5, none⟩) HL.out).trans HC.out)
        | fail)
      go_wp2
      go_quiet (fail)
      go_wp2
      go_ret3
      exact ⟨by rw [HZ.out]; rfl, (H4.out.trans (H5.out.mono H4.out.size)).trans (below_drew' _ _ _)⟩
end Go.Proofs.YtggggfhgfnbjnaaGreatDoor.Pcap

/- What Get of package cap answers, for every two words. -/
namespace Go.Proofs.YtggggfhgfnbjnaaGreatDoor.Pcap
open Go.Proofs.YtggggfhgfnbjnaaGreatDoor.Pbase Go.Proofs.YtggggfhgfnbjnaaGreatDoor.Pfield
open Go.RowKit M
set_option linter.unusedVariables false

/-- The j-th part of a word. -/
def gN (x : Int) (j : Nat) : Int := (getsI x ws)[j]?.getD 0
/-- The two words are some right one's. -/
def Got (x y : Int) : Prop := canU x ws ∧ y ≤ 1073741824 ∧ Rt (gN x 0) (gN x 1) (gN x 2) (gN x 3) (gN x 4) y
def gotB (x y : Int) : Bool := (List.range ws.length).all (okU ws) && fitsB x (sumTo ws ws.length) && decide (y ≤ 1073741824) && rtB (gN x 0) (gN x 1) (gN x 2) (gN x 3) (gN x 4) y
theorem gotB_iff (x y : Int) : gotB x y = true ↔ Got x y := by
  unfold gotB Got canU
  simp only [Bool.and_eq_true, decide_eq_true_eq, rtB_iff, List.all_eq_true, List.mem_range, and_assoc]
theorem gotB_yes {x y : Int} (h : Got x y) : gotB x y = true := (gotB_iff x y).2 h
theorem gotB_no {x y : Int} (h : ¬ Got x y) : gotB x y = false := Bool.eq_false_iff.2 fun e1 => h ((gotB_iff x y).1 e1)
/-- Its numbers, or 0. -/
def getC (x y : Int) (j : Nat) : Int := if gotB x y = true then nth (gN x 0) (gN x 1) (gN x 2) (gN x 3) (gN x 4) y j else 0
def getE (x y : Int) : Int := if gotB x y = true then 0 else 12
theorem getC_no {x y : Int} (h : ¬ Got x y) (j : Nat) : getC x y j = 0 := by simp [getC, gotB_no h]
theorem getE_no {x y : Int} (h : ¬ Got x y) : getE x y = 12 := by simp [getE, gotB_no h]
theorem getE_yes {x y : Int} (h : Got x y) : getE x y = 0 := by simp [getE, gotB_yes h]
theorem getC_yes {x y : Int} (h : Got x y) : getC x y 0 = gN x 0 ∧ getC x y 1 = gN x 1 ∧ getC x y 2 = gN x 2 ∧ getC x y 3 = gN x 3 ∧ getC x y 4 = gN x 4 ∧ getC x y 5 = y := by simp [getC, gotB_yes h, nth]
theorem ws_length : ws.length = 5 := rfl
theorem gN_bd {x : Int} (hx : 0 ≤ x ∧ x ≤ 18446744073709551615) (h : canU x ws) : (0 ≤ gN x 0 ∧ gN x 0 ≤ 15) ∧ (0 ≤ gN x 1 ∧ gN x 1 ≤ 31) ∧ (0 ≤ gN x 2 ∧ gN x 2 ≤ 63) ∧ (0 ≤ gN x 3 ∧ gN x 3 ≤ 63) ∧ (0 ≤ gN x 4 ∧ gN x 4 ≤ 65535) := by
  obtain ⟨h1, h2, _⟩ := unpack_pack hx h
  have m0 := (ok_parts (h2 0 (by decide))).2
  have m1 := (ok_parts (h2 1 (by decide))).2
  have m2 := (ok_parts (h2 2 (by decide))).2
  have m3 := (ok_parts (h2 3 (by decide))).2
  have m4 := (ok_parts (h2 4 (by decide))).2
  rw [show ws[0]?.getD 0 = 4 from rfl, fitsB, mask4, decide_eq_true_eq] at m0
  rw [show ws[1]?.getD 0 = 5 from rfl, fitsB, mask5, decide_eq_true_eq] at m1
  rw [show ws[2]?.getD 0 = 6 from rfl, fitsB, mask6, decide_eq_true_eq] at m2
  rw [show ws[3]?.getD 0 = 6 from rfl, fitsB, mask6, decide_eq_true_eq] at m3
  rw [show ws[4]?.getD 0 = 16 from rfl, fitsB, mask16, decide_eq_true_eq] at m4
  exact ⟨⟨(h1 0).1, m0⟩, ⟨(h1 1).1, m1⟩, ⟨(h1 2).1, m2⟩, ⟨(h1 3).1, m3⟩, ⟨(h1 4).1, m4⟩⟩
theorem ints_wide (w : World) (ty : TypeId) :
    Ints .i64 (w.alloc (.cells #[.int .i64 4, .int .i64 5, .int .i64 6, .int .i64 6, .int .i64 16] ty)).heap.size (w.alloc (.cells #[.int .i64 4, .int .i64 5, .int .i64 6, .int .i64 6, .int .i64 16] ty)) (.slice (some ⟨w.heap.size, 0, none⟩) ws.length 5) ws := by
  refine .inr ⟨w.heap.size, 0, 5, rfl, by simp, fun j hj => ?_⟩
  rw [Nat.zero_add, cell_of_row _ _ j _ _ _ (heap_alloc_new w _)]
  match j, hj with
  | 0, _ | 1, _ | 2, _ | 3, _ | 4, _ => rfl
/-- The parts of a word, in a block. -/
structure Five (w : World) (b o : Nat) (x : Int) : Prop where
  lt : b < w.heap.size
  c0 : w.cell? ⟨b, o, none⟩ = some (.int .u64 (gN x 0))
  c1 : w.cell? ⟨b, o + 1, none⟩ = some (.int .u64 (gN x 1))
  c2 : w.cell? ⟨b, o + 2, none⟩ = some (.int .u64 (gN x 2))
  c3 : w.cell? ⟨b, o + 3, none⟩ = some (.int .u64 (gN x 3))
  c4 : w.cell? ⟨b, o + 4, none⟩ = some (.int .u64 (gN x 4))
theorem five_of {w : World} {a : Option Addr} {c : Nat} {x : Int} (h : Ints .u64 w.heap.size w (.slice a ws.length c) (getsI x ws)) : ∃ b o, a = some ⟨b, o, none⟩ ∧ Five w b o x := by
  have hl := getsI_length x ws
  rcases h with ⟨_, _, e1, e2⟩ | ⟨b, o, cap, e1, hb, hc⟩
  · rw [e2, ws_length] at hl; cases hl
  · cases e1
    rw [hl, ws_length] at hc
    exact ⟨b, o, rfl, hb, hc 0 (by omega), hc 1 (by omega), hc 2 (by omega), hc 3 (by omega), hc 4 (by omega)⟩
theorem Five.on {w w' : World} {b o : Nat} {x : Int} (h : Five w b o x) (hB : Below w.heap.size w w') : Five w' b o x :=
  ⟨Nat.lt_of_lt_of_le h.lt hB.size, (hB.cell (p := ⟨b, o, none⟩) h.lt).trans h.c0, (hB.cell (p := ⟨b, o + 1, none⟩) h.lt).trans h.c1, (hB.cell (p := ⟨b, o + 2, none⟩) h.lt).trans h.c2, (hB.cell (p := ⟨b, o + 3, none⟩) h.lt).trans h.c3, (hB.cell (p := ⟨b, o + 4, none⟩) h.lt).trans h.c4⟩
theorem unpack_five (a0 : Option Addr) (x : Int) (w : World) (hx : 0 ≤ x ∧ x ≤ 18446744073709551615) (hI : Ints .i64 w.heap.size w (.slice a0 5 5) ws) (hA : canU x ws) :
    Calls Tryz.prog 229 #[.slice a0 5 5, .int .u64 x] w fun e' W' => ∃ b o c, e' = .returned (.tuple #[.slice (some ⟨b, o, none⟩) 5 c, .int .i64 0]) ∧ Five W' b o x ∧ Below w.heap.size w W' :=
  (unpack_ok a0 5 ws x w (by decide) hx hI hA).mono fun e' W' ⟨a, c, he, hi, hB⟩ => by
    obtain ⟨b, o, rfl, h5⟩ := five_of hi
    exact ⟨b, o, c, he, h5, hB⟩
set_option maxRecDepth 100000 in
set_option maxHeartbeats 2000000 in
theorem get_any (x y : Int) (w : World) (hx : 0 ≤ x ∧ x ≤ 18446744073709551615) (hy : 0 ≤ y ∧ y ≤ 18446744073709551615) (hT : TabM w) (hW : TabW w) :
    Calls Tryz.prog 201 #[.int .u64 x, .int .u64 y] w fun v w' => v = .returned (.tuple #[.agg #[.int .i64 (getC x y 0), .int .i64 (getC x y 1), .int .i64 (getC x y 2), .int .i64 (getC x y 3), .int .i64 (getC x y 4), .int .i64 (getC x y 5)], .int .i64 (getE x y)]) ∧ Below w.heap.size w w' := by
  have HT : Hid (TabM w) := hT
  obtain ⟨t1, fr, hg⟩ := hW.row
  have g0 : w.cell? ⟨3, 0, none⟩ = some (.int .i64 4) := (cell_of_row _ _ 0 _ _ _ hg).trans rfl
  have g1 : w.cell? ⟨3, 1, none⟩ = some (.int .i64 5) := (cell_of_row _ _ 1 _ _ _ hg).trans rfl
  have g2 : w.cell? ⟨3, 2, none⟩ = some (.int .i64 6) := (cell_of_row _ _ 2 _ _ _ hg).trans rfl
  have g3 : w.cell? ⟨3, 3, none⟩ = some (.int .i64 6) := (cell_of_row _ _ 3 _ _ _ hg).trans rfl
  have g4 : w.cell? ⟨3, 4, none⟩ = some (.int .i64 16) := (cell_of_row _ _ 4 _ _ _ hg).trans rfl
  have gl := hW.lt
  clear hg hW hT
  have HO : Hid (∀ ty o w1, Below ((w.alloc (.cells #[.int .i64 0, .int .i64 0, .int .i64 0, .int .i64 0, .int .i64 0, .int .i64 0] ty)).alloc o).heap.size ((w.alloc (.cells #[.int .i64 0, .int .i64 0, .int .i64 0, .int .i64 0, .int .i64 0, .int .i64 0] ty)).alloc o) w1 → Box6 w1 w.heap.size 0 0 0 0 0 0) := fun ty o w1 h => ((box6_new w 0 0 0 0 0 0 ty).on (bal (Below.refl _ _) o)).on h
  have HX : Hid (0 ≤ x ∧ x ≤ 18446744073709551615) := hx
  clear hx
  have HW : Hid (∀ o ty, Ints .i64 ((w.alloc o).alloc (.cells #[.int .i64 4, .int .i64 5, .int .i64 6, .int .i64 6, .int .i64 16] ty)).heap.size ((w.alloc o).alloc (.cells #[.int .i64 4, .int .i64 5, .int .i64 6, .int .i64 6, .int .i64 16] ty)) (.slice (some ⟨w.heap.size + 1, 0, none⟩) 5 5) ws ∧ Below w.heap.size w ((w.alloc o).alloc (.cells #[.int .i64 4, .int .i64 5, .int .i64 6, .int .i64 6, .int .i64 16] ty))) := fun o ty => ⟨by have := ints_wide (w.alloc o) ty; rwa [show (w.alloc o).heap.size = w.heap.size + 1 by simp] at this, bal (bal (Below.refl _ _) _) _⟩
  by_cases hc : canU x ws
  case neg =>
    have hno : ¬ Got x y := fun h => hc h.1
    simp only [getC_no hno, getE_no hno]
    have HN : Hid (¬ canU x ws) := hc
    clear hc hno
    go_enter Tryz.func201, Tryz.ntmps201
    go_wp2_with (first
      | (go_at_call 229; refine (unpack_bad (some ⟨w.heap.size + 1, 0, none⟩) 5 ws x _ (by decide) HX.out (HW.out _ _).1 HN.out).mono ?_; rintro e1 w1 ⟨rfl, hb1⟩; have H1 : Hid (Below w.heap.size w w1) := (HW.out _ _).2.trans (hb1.mono (HW.out _ _).2.size); have X1 := HO.out _ _ _ hb1; clear hb1 HO; have x0 := X1.c0; have x1 := X1.c1; have x2 := X1.c2; have x3 := X1.c3; have x4 := X1.c4; have x5 := X1.c5; have z0 := X1.fz 0; have z1 := X1.fz 1; have z2 := X1.fz 2; have z3 := X1.fz 3; have z4 := X1.fz 4; have z5 := X1.fz 5; have xl := X1.lt; clear X1)
      | fail)
    refine bodyPost_ret (v := .tuple #[.agg #[.int .i64 0, .int .i64 0, .int .i64 0, .int .i64 0, .int .i64 0, .int .i64 0], .int .i64 12]) (by simp [results, Tryz.results201, go_sem, x0, x1, x2, x3, x4, x5]) rfl ⟨rfl, ?_⟩
    exact bst (bst (bst (bst (bst (bst H1.out (Nat.le_refl _) _ _) (Nat.le_refl _) _ _) (Nat.le_refl _) _ _) (Nat.le_refl _) _ _) (Nat.le_refl _) _ _) (Nat.le_refl _) _ _
  case pos =>
  have HN : Hid (canU x ws) := hc
  clear hc
  obtain ⟨⟨p0, q0⟩, ⟨p1, q1⟩, ⟨p2, q2⟩, ⟨p3, q3⟩, ⟨p4, q4⟩⟩ := gN_bd HX.out HN.out
  obtain ⟨v, hv⟩ : ∃ v, v = IntKind.i64.wrap y := ⟨_, rfl⟩
  have dv : IntKind.i64.wrap y = v := hv.symm
  have d0 : IntKind.i64.wrap (gN x 0) = gN x 0 := wrapi_small p0 (by omega)
  have d1 : IntKind.i64.wrap (gN x 1) = gN x 1 := wrapi_small p1 (by omega)
  have d2 : IntKind.i64.wrap (gN x 2) = gN x 2 := wrapi_small p2 (by omega)
  have d3 : IntKind.i64.wrap (gN x 3) = gN x 3 := wrapi_small p3 (by omega)
  have d4 : IntKind.i64.wrap (gN x 4) = gN x 4 := wrapi_small p4 (by omega)
  by_cases hr : Rt (gN x 0) (gN x 1) (gN x 2) (gN x 3) (gN x 4) v
  case pos =>
    have hvy : v = y := wrapi_back hy hv (by unfold Rt at hr; omega)
    have hG : Got x y := ⟨HN.out, by unfold Rt at hr; omega, by rw [← hvy]; exact hr⟩
    obtain ⟨e0, e1, e2, e3, e4, e5⟩ := getC_yes hG
    rw [e0, e1, e2, e3, e4, e5.trans hvy.symm, getE_yes hG]
    clear e0 e1 e2 e3 e4 e5 hG
    have hc : chk (gN x 0) (gN x 1) (gN x 2) (gN x 3) (gN x 4) v = 0 := chk_yes hr
    clear hr hvy hv p0 p1 p2 p3 p4 q0 q1 q2 q3 q4 hy
    go_enter Tryz.func201, Tryz.ntmps201
    go_wp2_with (first
      | (go_at_call 229; refine (unpack_five (some ⟨w.heap.size + 1, 0, none⟩) x _ HX.out (HW.out _ _).1 HN.out).mono ?_; rintro e1 w1 ⟨b, o, c, rfl, h5, hb1⟩; have H1 : Hid (Below w.heap.size w w1) := (HW.out _ _).2.trans (hb1.mono (HW.out _ _).2.size); have H5 : Hid (Five w1 b o x) := h5; have HX1 : Hid (Box6 w1 w.heap.size 0 0 0 0 0 0) := HO.out _ _ _ hb1; clear hb1 HO h5; have f0 := H5.out.c0; have f1 := H5.out.c1; have f2 := H5.out.c2; have f3 := H5.out.c3; have f4 := H5.out.c4; have fl := H5.out.lt)
      | fail)
    go_region_held3 (fun w' => w'.cell? ⟨b, o, none⟩ = some (.int .u64 (gN x 0)) ∧ w'.cell? ⟨b, o + 1, none⟩ = some (.int .u64 (gN x 1)) ∧ w'.cell? ⟨b, o + 2, none⟩ = some (.int .u64 (gN x 2)) ∧ w'.cell? ⟨b, o + 3, none⟩ = some (.int .u64 (gN x 3)) ∧ w'.cell? ⟨b, o + 4, none⟩ = some (.int .u64 (gN x 4))) (first | exact ⟨by assumption, by assumption, by assumption, by assumption, by assumption⟩ | go_keep)
    (fail)
    try simp only [d0, d1, d2, d3, d4, dv]
    have hbx := (box6_new w1 (gN x 0) (gN x 1) (gN x 2) (gN x 3) (gN x 4) v 55).on (Below.refl _ _).drew
    have hbr := HX1.out.on (bal (Below.refl _ _) (.cells #[.int .i64 (gN x 0), .int .i64 (gN x 1), .int .i64 (gN x 2), .int .i64 (gN x 3), .int .i64 (gN x 4), .int .i64 v] 55)).drew
    have hbb := (bal H1.out (.cells #[.int .i64 (gN x 0), .int .i64 (gN x 1), .int .i64 (gN x 2), .int .i64 (gN x 3), .int .i64 (gN x 4), .int .i64 v] 55)).drew
    have hne := HX1.out.lt
    clear f0 f1 f2 f3 f4 fl H5
    generalize (w1.alloc _).drew = w2 at hbx hbr hbb ⊢
    have HP2 : Hid (Box6 w2 w1.heap.size (gN x 0) (gN x 1) (gN x 2) (gN x 3) (gN x 4) v) := hbx
    have HR2 : Hid (Box6 w2 w.heap.size 0 0 0 0 0 0) := hbr
    have HB2 : Hid (Below w.heap.size w w2) := hbb
    have HQ2 : Hid (w.heap.size < w1.heap.size) := hne
    have y0 := hbx.c0
    have y1 := hbx.c1
    have y2 := hbx.c2
    have y3 := hbx.c3
    have y4 := hbx.c4
    have y5 := hbx.c5
    clear hbx hbr hbb hne HX1
    generalize w1.heap.size = D at HP2 HQ2 y0 y1 y2 y3 y4 y5 ⊢
    go_wp2_with (first
      | (go_at_call 67; refine (check_any _ _ _ _ _ _ _ (HT.out.on HB2.out)).mono ?_; rintro e2 w3 ⟨rfl, hb3⟩; rw [hc]; have H3 : Hid (Below w.heap.size w w3) := HB2.out.trans (hb3.mono HB2.out.size); clear y0 y1 y2 y3 y4 y5; have Y1 := HP2.out.on hb3; have y0 := Y1.c0; have y1 := Y1.c1; have y2 := Y1.c2; have y3 := Y1.c3; have y4 := Y1.c4; have y5 := Y1.c5; clear Y1; have X1 := HR2.out.on hb3; have x0 := X1.c0; have x1 := X1.c1; have x2 := X1.c2; have x3 := X1.c3; have x4 := X1.c4; have x5 := X1.c5; have z0 := X1.fz 0; have z1 := X1.fz 1; have z2 := X1.fz 2; have z3 := X1.fz 3; have z4 := X1.fz 4; have z5 := X1.fz 5; have xl := X1.lt; clear X1 hb3; have ne1 : ¬ D = w.heap.size := Nat.ne_of_gt HQ2.out; have ne2 : ¬ w.heap.size = D := Nat.ne_of_lt HQ2.out)
      | fail)
    refine bodyPost_ret (v := .tuple #[.agg #[.int .i64 (gN x 0), .int .i64 (gN x 1), .int .i64 (gN x 2), .int .i64 (gN x 3), .int .i64 (gN x 4), .int .i64 v], .int .i64 0]) (by simp [results, Tryz.results201, go_sem, x0, x1, x2, x3, x4, x5]) rfl ⟨rfl, ?_⟩
    exact bst (bst (bst (bst (bst (bst H3.out (Nat.le_refl _) _ _) (Nat.le_refl _) _ _) (Nat.le_refl _) _ _) (Nat.le_refl _) _ _) (Nat.le_refl _) _ _) (Nat.le_refl _) _ _
  case neg =>
    have hG : ¬ Got x y := fun h => hr (by
      have hvy : v = y := by rw [hv]; exact wrapi_small hy.1 (by have := h.2.1; omega)
      rw [hvy]; exact h.2.2)
    simp only [getC_no hG, getE_no hG]
    have hc : chk (gN x 0) (gN x 1) (gN x 2) (gN x 3) (gN x 4) v = 1 := chk_no hr
    clear hr hv p0 p1 p2 p3 p4 q0 q1 q2 q3 q4 hy hG
    go_enter Tryz.func201, Tryz.ntmps201
    go_wp2_with (first
      | (go_at_call 229; refine (unpack_five (some ⟨w.heap.size + 1, 0, none⟩) x _ HX.out (HW.out _ _).1 HN.out).mono ?_; rintro e1 w1 ⟨b, o, c, rfl, h5, hb1⟩; have H1 : Hid (Below w.heap.size w w1) := (HW.out _ _).2.trans (hb1.mono (HW.out _ _).2.size); have H5 : Hid (Five w1 b o x) := h5; have HX1 : Hid (Box6 w1 w.heap.size 0 0 0 0 0 0) := HO.out _ _ _ hb1; clear hb1 HO h5; have f0 := H5.out.c0; have f1 := H5.out.c1; have f2 := H5.out.c2; have f3 := H5.out.c3; have f4 := H5.out.c4; have fl := H5.out.lt)
      | fail)
    go_region_held3 (fun w' => w'.cell? ⟨b, o, none⟩ = some (.int .u64 (gN x 0)) ∧ w'.cell? ⟨b, o + 1, none⟩ = some (.int .u64 (gN x 1)) ∧ w'.cell? ⟨b, o + 2, none⟩ = some (.int .u64 (gN x 2)) ∧ w'.cell? ⟨b, o + 3, none⟩ = some (.int .u64 (gN x 3)) ∧ w'.cell? ⟨b, o + 4, none⟩ = some (.int .u64 (gN x 4))) (first | exact ⟨by assumption, by assumption, by assumption, by assumption, by assumption⟩ | go_keep)
    (fail)
    try simp only [d0, d1, d2, d3, d4, dv]
    have hbx := (box6_new w1 (gN x 0) (gN x 1) (gN x 2) (gN x 3) (gN x 4) v 55).on (Below.refl _ _).drew
    have hbr := HX1.out.on (bal (Below.refl _ _) (.cells #[.int .i64 (gN x 0), .int .i64 (gN x 1), .int .i64 (gN x 2), .int .i64 (gN x 3), .int .i64 (gN x 4), .int .i64 v] 55)).drew
    have hbb := (bal H1.out (.cells #[.int .i64 (gN x 0), .int .i64 (gN x 1), .int .i64 (gN x 2), .int .i64 (gN x 3), .int .i64 (gN x 4), .int .i64 v] 55)).drew
    have hne := HX1.out.lt
    clear f0 f1 f2 f3 f4 fl H5
    generalize (w1.alloc _).drew = w2 at hbx hbr hbb ⊢
    have HP2 : Hid (Box6 w2 w1.heap.size (gN x 0) (gN x 1) (gN x 2) (gN x 3) (gN x 4) v) := hbx
    have HR2 : Hid (Box6 w2 w.heap.size 0 0 0 0 0 0) := hbr
    have HB2 : Hid (Below w.heap.size w w2) := hbb
    have HQ2 : Hid (w.heap.size < w1.heap.size) := hne
    have y0 := hbx.c0
    have y1 := hbx.c1
    have y2 := hbx.c2
    have y3 := hbx.c3
    have y4 := hbx.c4
    have y5 := hbx.c5
    clear hbx hbr hbb hne HX1
    generalize w1.heap.size = D at HP2 HQ2 y0 y1 y2 y3 y4 y5 ⊢
    go_wp2_with (first
      | (go_at_call 67; refine (check_any _ _ _ _ _ _ _ (HT.out.on HB2.out)).mono ?_; rintro e2 w3 ⟨rfl, hb3⟩; rw [hc]; have H3 : Hid (Below w.heap.size w w3) := HB2.out.trans (hb3.mono HB2.out.size); clear y0 y1 y2 y3 y4 y5; have Y1 := HP2.out.on hb3; have y0 := Y1.c0; have y1 := Y1.c1; have y2 := Y1.c2; have y3 := Y1.c3; have y4 := Y1.c4; have y5 := Y1.c5; clear Y1; have X1 := HR2.out.on hb3; have x0 := X1.c0; have x1 := X1.c1; have x2 := X1.c2; have x3 := X1.c3; have x4 := X1.c4; have x5 := X1.c5; have z0 := X1.fz 0; have z1 := X1.fz 1; have z2 := X1.fz 2; have z3 := X1.fz 3; have z4 := X1.fz 4; have z5 := X1.fz 5; have xl := X1.lt; clear X1 hb3; have ne1 : ¬ D = w.heap.size := Nat.ne_of_gt HQ2.out; have ne2 : ¬ w.heap.size = D := Nat.ne_of_lt HQ2.out)
      | fail)
    refine bodyPost_ret (v := .tuple #[.agg #[.int .i64 0, .int .i64 0, .int .i64 0, .int .i64 0, .int .i64 0, .int .i64 0], .int .i64 12]) (by simp [results, Tryz.results201, go_sem, x0, x1, x2, x3, x4, x5]) rfl ⟨rfl, ?_⟩
    exact bst (bst (bst (bst (bst (bst H3.out (Nat.le_refl _) _ _) (Nat.le_refl _) _ _) (Nat.le_refl _) _ _) (Nat.le_refl _) _ _) (Nat.le_refl _) _ _) (Nat.le_refl _) _ _
end Go.Proofs.YtggggfhgfnbjnaaGreatDoor.Pcap

/- There and back, in plain words; what 'awake' answers; the tables and blocks of a statement's own. -/
namespace Go.Proofs.YtggggfhgfnbjnaaGreatDoor.Pcap
open Go.Proofs.YtggggfhgfnbjnaaGreatDoor.Pbase Go.Proofs.YtggggfhgfnbjnaaGreatDoor.Pfield
open Go.RowKit M
set_option linter.unusedVariables false

/-- What is put is got. -/
theorem back_get {k r t l e a : Int} (h : Rt k r t l e a) : (0 ≤ packF ws [k, r, t, l, e] ∧ packF ws [k, r, t, l, e] ≤ 18446744073709551615) ∧ Got (packF ws [k, r, t, l, e]) a ∧ getE (packF ws [k, r, t, l, e]) a = 0 ∧
    getC (packF ws [k, r, t, l, e]) a 0 = k ∧ getC (packF ws [k, r, t, l, e]) a 1 = r ∧ getC (packF ws [k, r, t, l, e]) a 2 = t ∧ getC (packF ws [k, r, t, l, e]) a 3 = l ∧ getC (packF ws [k, r, t, l, e]) a 4 = e ∧ getC (packF ws [k, r, t, l, e]) a 5 = a := by
  obtain ⟨hb, hc, hg⟩ := pack_unpack (zs := ws) (vs := [k, r, t, l, e]) rfl (put_can h).1 (put_can h).2
  generalize packF ws [k, r, t, l, e] = z at hb hc hg ⊢
  have g0 : gN z 0 = k := by unfold gN; rw [hg]; rfl
  have g1 : gN z 1 = r := by unfold gN; rw [hg]; rfl
  have g2 : gN z 2 = t := by unfold gN; rw [hg]; rfl
  have g3 : gN z 3 = l := by unfold gN; rw [hg]; rfl
  have g4 : gN z 4 = e := by unfold gN; rw [hg]; rfl
  have hG : Got z a := ⟨hc, by unfold Rt at h; omega, by rw [g0, g1, g2, g3, g4]; exact h⟩
  obtain ⟨e0, e1, e2, e3, e4, e5⟩ := getC_yes hG
  exact ⟨hb, hG, getE_yes hG, e0.trans g0, e1.trans g1, e2.trans g2, e3.trans g3, e4.trans g4, e5⟩
/-- What is got is put. -/
theorem back_put {x y : Int} (hx : 0 ≤ x ∧ x ≤ 18446744073709551615) (h : Got x y) : Rt (gN x 0) (gN x 1) (gN x 2) (gN x 3) (gN x 4) y ∧ putW (gN x 0) (gN x 1) (gN x 2) (gN x 3) (gN x 4) y = x ∧ putA (gN x 0) (gN x 1) (gN x 2) (gN x 3) (gN x 4) y = y ∧ chk (gN x 0) (gN x 1) (gN x 2) (gN x 3) (gN x 4) y = 0 := by
  refine ⟨h.2.2, ?_, putA_yes h.2.2, chk_yes h.2.2⟩
  rw [putW_yes h.2.2]
  have hl := getsI_length x ws
  have he : getsI x ws = [gN x 0, gN x 1, gN x 2, gN x 3, gN x 4] := by
    unfold gN
    generalize getsI x ws = l at hl
    match l, hl with
    | [v0, v1, v2, v3, v4], _ => rfl
  have := (unpack_pack hx h.1).2.2
  rwa [he] at this
/-- A capability in a block of the call's own, and the tables. -/
structure One (w0 w : World) (k r t l e a : Int) : Prop where
  tab : TabM w
  tabw : TabW w
  below : Below w0.heap.size w0 w
  p : Box6 w w0.heap.size k r t l e a
theorem One.on {w0 w w' : World} {k r t l e a : Int} (h : One w0 w k r t l e a) (hB : Below w.heap.size w w') : One w0 w' k r t l e a :=
  ⟨h.tab.on hB, h.tabw.on hB, h.below.trans (hB.mono h.below.size), h.p.on hB⟩
theorem one_new (w : World) (hT : TabM w) (hW : TabW w) (k r t l e a : Int) (ty : TypeId) : One w (w.alloc (.cells #[.int .i64 k, .int .i64 r, .int .i64 t, .int .i64 l, .int .i64 e, .int .i64 a] ty)) k r t l e a :=
  ⟨hT.on (bal (Below.refl _ _) _), hW.on (bal (Below.refl _ _) _), bal (Below.refl _ _) _, box6_new w k r t l e a ty⟩
end Go.Proofs.YtggggfhgfnbjnaaGreatDoor.Pcap

/- What the document's answers of layer 9 are, for every argument that their types allow: the same words as the program's. -/
namespace Go.Proofs.YtggggfhgfnbjnaaGreatDoor.Pcap
open Go.Proofs.YtggggfhgfnbjnaaGreatDoor.Pbase Go.Proofs.YtggggfhgfnbjnaaGreatDoor.Pfield
open Go.RowKit M
set_option linter.unusedVariables false

theorem rlives_any (k r t l e a : Int) (w : World) :
    Calls Tryz.prog 91 #[.agg #[.int .i64 k, .int .i64 r, .int .i64 t, .int .i64 l, .int .i64 e, .int .i64 a]] w fun x w' => x = .returned (.bool (livB k)) ∧ Below w.heap.size w w' := by
  by_cases h5 : k = 5
  · subst h5
    go_enter Tryz.func91, Tryz.ntmps91
    go_wp2
    go_ret
    exact ⟨rfl, bal (Below.refl _ _) _⟩
  by_cases h7 : k = 7
  · subst h7
    go_enter Tryz.func91, Tryz.ntmps91
    go_wp2
    go_ret
    exact ⟨rfl, bal (Below.refl _ _) _⟩
  have b5 : (k == 5) = false := by simp [h5]
  have b7 : (k == 7) = false := by simp [h7]
  go_enter Tryz.func91, Tryz.ntmps91
  go_wp2
  go_ret
  exact ⟨by simp [livB, h5, h7], bal (Below.refl _ _) _⟩
/-! ### when one is right -/
theorem in_yes (n m : Int) (w : World) (h0 : 0 ≤ n) (h1 : n < m) : Calls Tryz.prog 207 #[.int .i64 n, .int .i64 m] w fun x w' => x = .returned (.bool true) ∧ w' = w := by
  go_enter Tryz.func207, Tryz.ntmps207
  go_wp2
  go_ret
  exact ⟨rfl, rfl⟩
theorem in_no (n m : Int) (w : World) (h : ¬ (0 ≤ n ∧ n < m)) : Calls Tryz.prog 207 #[.int .i64 n, .int .i64 m] w fun x w' => x = .returned (.bool false) ∧ w' = w := by
  by_cases h0 : 0 ≤ n
  · have h1 : ¬ n < m := fun h1 => h ⟨h0, h1⟩
    clear h
    go_enter Tryz.func207, Tryz.ntmps207
    go_wp2
    go_ret
    exact ⟨rfl, rfl⟩
  · clear h
    go_enter Tryz.func207, Tryz.ntmps207
    go_wp2
    go_ret
    exact ⟨rfl, rfl⟩
def inR (n m : Int) : Bool := decide (0 ≤ n) && decide (n < m)
theorem in_any (n m : Int) (w : World) : Calls Tryz.prog 207 #[.int .i64 n, .int .i64 m] w fun x w' => x = .returned (.bool (inR n m)) ∧ w' = w := by
  by_cases h : 0 ≤ n ∧ n < m
  · rw [show inR n m = true by simp [inR, h]]
    exact in_yes n m w h.1 h.2
  · rw [show inR n m = false by simp [inR]; omega]
    exact in_no n m w h
theorem ret_rt_yes {k r t l e a : Int} (h : Rt k r t l e a) : Ending.returned (Value.bool true) = .returned (.bool (rtB k r t l e a)) := by rw [rtB_yes h]
theorem ret_rt_no {k r t l e a : Int} (h : ¬ Rt k r t l e a) : Ending.returned (Value.bool false) = .returned (.bool (rtB k r t l e a)) := by rw [rtB_no h]
theorem ret_rt_eq {k r t l e a : Int} {b : Bool} (h : b = true ↔ Rt k r t l e a) : Ending.returned (Value.bool b) = .returned (.bool (rtB k r t l e a)) := by
  by_cases hr : Rt k r t l e a
  · rw [rtB_yes hr, h.2 hr]
  · rw [rtB_no hr, Bool.eq_false_iff.2 fun hb => hr (h.1 hb)]
set_option maxRecDepth 100000 in
set_option maxHeartbeats 2000000 in
theorem right_any (k r t l e a : Int) (w : World) :
    Calls Tryz.prog 164 #[.agg #[.int .i64 k, .int .i64 r, .int .i64 t, .int .i64 l, .int .i64 e, .int .i64 a]] w fun x w' => x = .returned (.bool (rtB k r t l e a)) ∧ Below w.heap.size w w' := by
  obtain ⟨k0, hk⟩ : ∃ b, b = inR k 12 := ⟨_, rfl⟩
  obtain ⟨r0, hr⟩ : ∃ b, b = inR r 32 := ⟨_, rfl⟩
  obtain ⟨t0, ht⟩ : ∃ b, b = inR t 64 := ⟨_, rfl⟩
  obtain ⟨l0, hl⟩ : ∃ b, b = inR l 64 := ⟨_, rfl⟩
  obtain ⟨e0, he⟩ : ∃ b, b = inR e 65536 := ⟨_, rfl⟩
  obtain ⟨a0, ha⟩ : ∃ b, b = inR a 1073741825 := ⟨_, rfl⟩
  have HK : Hid (∀ w1 : World, Calls Tryz.prog 207 #[.int .i64 k, .int .i64 12] w1 fun x w' => x = .returned (.bool k0) ∧ w' = w1) := fun w1 => hk ▸ in_any k 12 w1
  have HR : Hid (∀ w1 : World, Calls Tryz.prog 207 #[.int .i64 r, .int .i64 32] w1 fun x w' => x = .returned (.bool r0) ∧ w' = w1) := fun w1 => hr ▸ in_any r 32 w1
  have HT : Hid (∀ w1 : World, Calls Tryz.prog 207 #[.int .i64 t, .int .i64 64] w1 fun x w' => x = .returned (.bool t0) ∧ w' = w1) := fun w1 => ht ▸ in_any t 64 w1
  have HL : Hid (∀ w1 : World, Calls Tryz.prog 207 #[.int .i64 l, .int .i64 64] w1 fun x w' => x = .returned (.bool l0) ∧ w' = w1) := fun w1 => hl ▸ in_any l 64 w1
  have HE : Hid (∀ w1 : World, Calls Tryz.prog 207 #[.int .i64 e, .int .i64 65536] w1 fun x w' => x = .returned (.bool e0) ∧ w' = w1) := fun w1 => he ▸ in_any e 65536 w1
  have HA : Hid (∀ w1 : World, Calls Tryz.prog 207 #[.int .i64 a, .int .i64 1073741825] w1 fun x w' => x = .returned (.bool a0) ∧ w' = w1) := fun w1 => ha ▸ in_any a 1073741825 w1
  have HN : Hid (¬ (k0 = true ∧ r0 = true ∧ t0 = true ∧ l0 = true ∧ e0 = true ∧ a0 = true) → Ending.returned (Value.bool false) = .returned (.bool (rtB k r t l e a))) := fun hall => ret_rt_no (fun h => hall (by
      unfold Rt at h
      rw [hk, hr, ht, hl, he, ha]
      simp only [inR, Bool.and_eq_true, decide_eq_true_eq]
      omega))
  have HY : k0 = true → r0 = true → t0 = true → l0 = true → e0 = true → a0 = true → 0 ≤ k ∧ k < 12 ∧ 0 ≤ r ∧ r < 32 ∧ 0 ≤ t ∧ t < 64 ∧ 0 ≤ l ∧ l < 64 ∧ 0 ≤ e ∧ e < 65536 ∧ 0 ≤ a ∧ a < 1073741825 := by
    rw [hk, hr, ht, hl, he, ha]
    simp only [inR, Bool.and_eq_true, decide_eq_true_eq]
    omega
  clear hk hr ht hl he ha
  cases k0
  case false =>
    have HM : Hid (Ending.returned (Value.bool false) = .returned (.bool (rtB k r t l e a))) := HN.out (by simp)
    clear HY HN
    go_enter Tryz.func164, Tryz.ntmps164
    go_wp2_with (first
      | (go_at_call 207; refine (HK.out _).mono ?_; rintro e1 w1 ⟨rfl, rfl⟩; clear HK)
      | (go_at_call 207; refine (HR.out _).mono ?_; rintro e1 w1 ⟨rfl, rfl⟩; clear HR)
      | (go_at_call 207; refine (HT.out _).mono ?_; rintro e1 w1 ⟨rfl, rfl⟩; clear HT)
      | (go_at_call 207; refine (HL.out _).mono ?_; rintro e1 w1 ⟨rfl, rfl⟩; clear HL)
      | (go_at_call 207; refine (HE.out _).mono ?_; rintro e1 w1 ⟨rfl, rfl⟩; clear HE)
      | (go_at_call 207; refine (HA.out _).mono ?_; rintro e1 w1 ⟨rfl, rfl⟩; clear HA)
      | fail)
    go_ret
    exact ⟨HM.out, bal (Below.refl _ _) _⟩
  case true =>
  cases r0
  case false =>
    have HM : Hid (Ending.returned (Value.bool false) = .returned (.bool (rtB k r t l e a))) := HN.out (by simp)
    clear HY HN
    go_enter Tryz.func164, Tryz.ntmps164
    go_wp2_with (first
      | (go_at_call 207; refine (HK.out _).mono ?_; rintro e1 w1 ⟨rfl, rfl⟩; clear HK)
      | (go_at_call 207; refine (HR.out _).mono ?_; rintro e1 w1 ⟨rfl, rfl⟩; clear HR)
      | (go_at_call 207; refine (HT.out _).mono ?_; rintro e1 w1 ⟨rfl, rfl⟩; clear HT)
      | (go_at_call 207; refine (HL.out _).mono ?_; rintro e1 w1 ⟨rfl, rfl⟩; clear HL)
      | (go_at_call 207; refine (HE.out _).mono ?_; rintro e1 w1 ⟨rfl, rfl⟩; clear HE)
      | (go_at_call 207; refine (HA.out _).mono ?_; rintro e1 w1 ⟨rfl, rfl⟩; clear HA)
      | fail)
    go_ret
    exact ⟨HM.out, bal (Below.refl _ _) _⟩
  case true =>
  cases t0
  case false =>
    have HM : Hid (Ending.returned (Value.bool false) = .returned (.bool (rtB k r t l e a))) := HN.out (by simp)
    clear HY HN
    go_enter Tryz.func164, Tryz.ntmps164
    go_wp2_with (first
      | (go_at_call 207; refine (HK.out _).mono ?_; rintro e1 w1 ⟨rfl, rfl⟩; clear HK)
      | (go_at_call 207; refine (HR.out _).mono ?_; rintro e1 w1 ⟨rfl, rfl⟩; clear HR)
      | (go_at_call 207; refine (HT.out _).mono ?_; rintro e1 w1 ⟨rfl, rfl⟩; clear HT)
      | (go_at_call 207; refine (HL.out _).mono ?_; rintro e1 w1 ⟨rfl, rfl⟩; clear HL)
      | (go_at_call 207; refine (HE.out _).mono ?_; rintro e1 w1 ⟨rfl, rfl⟩; clear HE)
      | (go_at_call 207; refine (HA.out _).mono ?_; rintro e1 w1 ⟨rfl, rfl⟩; clear HA)
      | fail)
    go_ret
    exact ⟨HM.out, bal (Below.refl _ _) _⟩
  case true =>
  cases l0
  case false =>
    have HM : Hid (Ending.returned (Value.bool false) = .returned (.bool (rtB k r t l e a))) := HN.out (by simp)
    clear HY HN
    go_enter Tryz.func164, Tryz.ntmps164
    go_wp2_with (first
      | (go_at_call 207; refine (HK.out _).mono ?_; rintro e1 w1 ⟨rfl, rfl⟩; clear HK)
      | (go_at_call 207; refine (HR.out _).mono ?_; rintro e1 w1 ⟨rfl, rfl⟩; clear HR)
      | (go_at_call 207; refine (HT.out _).mono ?_; rintro e1 w1 ⟨rfl, rfl⟩; clear HT)
      | (go_at_call 207; refine (HL.out _).mono ?_; rintro e1 w1 ⟨rfl, rfl⟩; clear HL)
      | (go_at_call 207; refine (HE.out _).mono ?_; rintro e1 w1 ⟨rfl, rfl⟩; clear HE)
      | (go_at_call 207; refine (HA.out _).mono ?_; rintro e1 w1 ⟨rfl, rfl⟩; clear HA)
      | fail)
    go_ret
    exact ⟨HM.out, bal (Below.refl _ _) _⟩
  case true =>
  cases e0
  case false =>
    have HM : Hid (Ending.returned (Value.bool false) = .returned (.bool (rtB k r t l e a))) := HN.out (by simp)
    clear HY HN
    go_enter Tryz.func164, Tryz.ntmps164
    go_wp2_with (first
      | (go_at_call 207; refine (HK.out _).mono ?_; rintro e1 w1 ⟨rfl, rfl⟩; clear HK)
      | (go_at_call 207; refine (HR.out _).mono ?_; rintro e1 w1 ⟨rfl, rfl⟩; clear HR)
      | (go_at_call 207; refine (HT.out _).mono ?_; rintro e1 w1 ⟨rfl, rfl⟩; clear HT)
      | (go_at_call 207; refine (HL.out _).mono ?_; rintro e1 w1 ⟨rfl, rfl⟩; clear HL)
      | (go_at_call 207; refine (HE.out _).mono ?_; rintro e1 w1 ⟨rfl, rfl⟩; clear HE)
      | (go_at_call 207; refine (HA.out _).mono ?_; rintro e1 w1 ⟨rfl, rfl⟩; clear HA)
      | fail)
    go_ret
    exact ⟨HM.out, bal (Below.refl _ _) _⟩
  case true =>
  cases a0
  case false =>
    have HM : Hid (Ending.returned (Value.bool false) = .returned (.bool (rtB k r t l e a))) := HN.out (by simp)
    clear HY HN
    go_enter Tryz.func164, Tryz.ntmps164
    go_wp2_with (first
      | (go_at_call 207; refine (HK.out _).mono ?_; rintro e1 w1 ⟨rfl, rfl⟩; clear HK)
      | (go_at_call 207; refine (HR.out _).mono ?_; rintro e1 w1 ⟨rfl, rfl⟩; clear HR)
      | (go_at_call 207; refine (HT.out _).mono ?_; rintro e1 w1 ⟨rfl, rfl⟩; clear HT)
      | (go_at_call 207; refine (HL.out _).mono ?_; rintro e1 w1 ⟨rfl, rfl⟩; clear HL)
      | (go_at_call 207; refine (HE.out _).mono ?_; rintro e1 w1 ⟨rfl, rfl⟩; clear HE)
      | (go_at_call 207; refine (HA.out _).mono ?_; rintro e1 w1 ⟨rfl, rfl⟩; clear HA)
      | fail)
    go_ret
    exact ⟨HM.out, bal (Below.refl _ _) _⟩
  case true =>
  obtain ⟨k1, k2, r1, r2, t1, t2, l1, l2, e1', e2', a1, a2⟩ := HY rfl rfl rfl rfl rfl rfl
  clear HY HN
  have hs : wrap64 (t + a) = t + a := by unfold wrap64; omega
  by_cases hk0 : k = 0
  case pos =>
    subst hk0
    go_enter Tryz.func164, Tryz.ntmps164
    go_wp2_with (first
      | (go_at_call 207; refine (HK.out _).mono ?_; rintro e1 w1 ⟨rfl, rfl⟩; clear HK)
      | (go_at_call 207; refine (HR.out _).mono ?_; rintro e1 w1 ⟨rfl, rfl⟩; clear HR)
      | (go_at_call 207; refine (HT.out _).mono ?_; rintro e1 w1 ⟨rfl, rfl⟩; clear HT)
      | (go_at_call 207; refine (HL.out _).mono ?_; rintro e1 w1 ⟨rfl, rfl⟩; clear HL)
      | (go_at_call 207; refine (HE.out _).mono ?_; rintro e1 w1 ⟨rfl, rfl⟩; clear HE)
      | (go_at_call 207; refine (HA.out _).mono ?_; rintro e1 w1 ⟨rfl, rfl⟩; clear HA)
      | fail)
    all_goals
      go_ret
      exact ⟨by first | exact ret_rt_yes (by unfold Rt; omega) | exact ret_rt_no (by unfold Rt; omega) | exact ret_rt_eq (by rw [beq_iff_eq]; unfold Rt; omega) | exact ret_rt_eq (by rw [decide_eq_true_eq]; unfold Rt; omega), bal (Below.refl _ _) _⟩
  case neg =>
  have bk0 : (k == 0) = false := by simp [hk0]
  by_cases hk1 : k = 1
  case pos =>
    subst hk1
    go_enter Tryz.func164, Tryz.ntmps164
    go_wp2_with (first
      | (go_at_call 207; refine (HK.out _).mono ?_; rintro e1 w1 ⟨rfl, rfl⟩; clear HK)
      | (go_at_call 207; refine (HR.out _).mono ?_; rintro e1 w1 ⟨rfl, rfl⟩; clear HR)
      | (go_at_call 207; refine (HT.out _).mono ?_; rintro e1 w1 ⟨rfl, rfl⟩; clear HT)
      | (go_at_call 207; refine (HL.out _).mono ?_; rintro e1 w1 ⟨rfl, rfl⟩; clear HL)
      | (go_at_call 207; refine (HE.out _).mono ?_; rintro e1 w1 ⟨rfl, rfl⟩; clear HE)
      | (go_at_call 207; refine (HA.out _).mono ?_; rintro e1 w1 ⟨rfl, rfl⟩; clear HA)
      | fail)
    all_goals
      go_ret
      exact ⟨by first | exact ret_rt_yes (by unfold Rt; omega) | exact ret_rt_no (by unfold Rt; omega) | exact ret_rt_eq (by rw [beq_iff_eq]; unfold Rt; omega) | exact ret_rt_eq (by rw [decide_eq_true_eq]; unfold Rt; omega), bal (Below.refl _ _) _⟩
  case neg =>
  have bk1 : (k == 1) = false := by simp [hk1]
  by_cases hk2 : k = 2
  case pos =>
    subst hk2
    go_enter Tryz.func164, Tryz.ntmps164
    go_wp2_with (first
      | (go_at_call 207; refine (HK.out _).mono ?_; rintro e1 w1 ⟨rfl, rfl⟩; clear HK)
      | (go_at_call 207; refine (HR.out _).mono ?_; rintro e1 w1 ⟨rfl, rfl⟩; clear HR)
      | (go_at_call 207; refine (HT.out _).mono ?_; rintro e1 w1 ⟨rfl, rfl⟩; clear HT)
      | (go_at_call 207; refine (HL.out _).mono ?_; rintro e1 w1 ⟨rfl, rfl⟩; clear HL)
      | (go_at_call 207; refine (HE.out _).mono ?_; rintro e1 w1 ⟨rfl, rfl⟩; clear HE)
      | (go_at_call 207; refine (HA.out _).mono ?_; rintro e1 w1 ⟨rfl, rfl⟩; clear HA)
      | fail)
    all_goals
      go_ret
      exact ⟨by first | exact ret_rt_yes (by unfold Rt; omega) | exact ret_rt_no (by unfold Rt; omega) | exact ret_rt_eq (by rw [beq_iff_eq]; unfold Rt; omega) | exact ret_rt_eq (by rw [decide_eq_true_eq]; unfold Rt; omega), bal (Below.refl _ _) _⟩
  case neg =>
  have bk2 : (k == 2) = false := by simp [hk2]
  by_cases hk5 : k = 5
  case pos =>
    subst hk5
    go_enter Tryz.func164, Tryz.ntmps164
    go_wp2_with (first
      | (go_at_call 207; refine (HK.out _).mono ?_; rintro e1 w1 ⟨rfl, rfl⟩; clear HK)
      | (go_at_call 207; refine (HR.out _).mono ?_; rintro e1 w1 ⟨rfl, rfl⟩; clear HR)
      | (go_at_call 207; refine (HT.out _).mono ?_; rintro e1 w1 ⟨rfl, rfl⟩; clear HT)
      | (go_at_call 207; refine (HL.out _).mono ?_; rintro e1 w1 ⟨rfl, rfl⟩; clear HL)
      | (go_at_call 207; refine (HE.out _).mono ?_; rintro e1 w1 ⟨rfl, rfl⟩; clear HE)
      | (go_at_call 207; refine (HA.out _).mono ?_; rintro e1 w1 ⟨rfl, rfl⟩; clear HA)
      | fail)
    all_goals
      go_ret
      exact ⟨by first | exact ret_rt_yes (by unfold Rt; omega) | exact ret_rt_no (by unfold Rt; omega) | exact ret_rt_eq (by rw [beq_iff_eq]; unfold Rt; omega) | exact ret_rt_eq (by rw [decide_eq_true_eq]; unfold Rt; omega), bal (Below.refl _ _) _⟩
  case neg =>
  have bk5 : (k == 5) = false := by simp [hk5]
  by_cases hk7 : k = 7
  case pos =>
    subst hk7
    go_enter Tryz.func164, Tryz.ntmps164
    go_wp2_with (first
      | (go_at_call 207; refine (HK.out _).mono ?_; rintro e1 w1 ⟨rfl, rfl⟩; clear HK)
      | (go_at_call 207; refine (HR.out _).mono ?_; rintro e1 w1 ⟨rfl, rfl⟩; clear HR)
      | (go_at_call 207; refine (HT.out _).mono ?_; rintro e1 w1 ⟨rfl, rfl⟩; clear HT)
      | (go_at_call 207; refine (HL.out _).mono ?_; rintro e1 w1 ⟨rfl, rfl⟩; clear HL)
      | (go_at_call 207; refine (HE.out _).mono ?_; rintro e1 w1 ⟨rfl, rfl⟩; clear HE)
      | (go_at_call 207; refine (HA.out _).mono ?_; rintro e1 w1 ⟨rfl, rfl⟩; clear HA)
      | fail)
    all_goals
      go_ret
      exact ⟨by first | exact ret_rt_yes (by unfold Rt; omega) | exact ret_rt_no (by unfold Rt; omega) | exact ret_rt_eq (by rw [beq_iff_eq]; unfold Rt; omega) | exact ret_rt_eq (by rw [decide_eq_true_eq]; unfold Rt; omega), bal (Below.refl _ _) _⟩
  case neg =>
  have bk7 : (k == 7) = false := by simp [hk7]
  by_cases hk11 : k = 11
  case pos =>
    subst hk11
    go_enter Tryz.func164, Tryz.ntmps164
    go_wp2_with (first
      | (go_at_call 207; refine (HK.out _).mono ?_; rintro e1 w1 ⟨rfl, rfl⟩; clear HK)
      | (go_at_call 207; refine (HR.out _).mono ?_; rintro e1 w1 ⟨rfl, rfl⟩; clear HR)
      | (go_at_call 207; refine (HT.out _).mono ?_; rintro e1 w1 ⟨rfl, rfl⟩; clear HT)
      | (go_at_call 207; refine (HL.out _).mono ?_; rintro e1 w1 ⟨rfl, rfl⟩; clear HL)
      | (go_at_call 207; refine (HE.out _).mono ?_; rintro e1 w1 ⟨rfl, rfl⟩; clear HE)
      | (go_at_call 207; refine (HA.out _).mono ?_; rintro e1 w1 ⟨rfl, rfl⟩; clear HA)
      | fail)
    all_goals
      go_ret
      exact ⟨by first | exact ret_rt_yes (by unfold Rt; omega) | exact ret_rt_no (by unfold Rt; omega) | exact ret_rt_eq (by rw [beq_iff_eq]; unfold Rt; omega) | exact ret_rt_eq (by rw [decide_eq_true_eq]; unfold Rt; omega), bal (Below.refl _ _) _⟩
  case neg =>
  have bk11 : (k == 11) = false := by simp [hk11]
  go_enter Tryz.func164, Tryz.ntmps164
  go_wp2_with (first
    | (go_at_call 207; refine (HK.out _).mono ?_; rintro e1 w1 ⟨rfl, rfl⟩; clear HK)
    | (go_at_call 207; refine (HR.out _).mono ?_; rintro e1 w1 ⟨rfl, rfl⟩; clear HR)
    | (go_at_call 207; refine (HT.out _).mono ?_; rintro e1 w1 ⟨rfl, rfl⟩; clear HT)
    | (go_at_call 207; refine (HL.out _).mono ?_; rintro e1 w1 ⟨rfl, rfl⟩; clear HL)
    | (go_at_call 207; refine (HE.out _).mono ?_; rintro e1 w1 ⟨rfl, rfl⟩; clear HE)
    | (go_at_call 207; refine (HA.out _).mono ?_; rintro e1 w1 ⟨rfl, rfl⟩; clear HA)
    | fail)
  all_goals
    go_ret
    exact ⟨by first | exact ret_rt_yes (by unfold Rt; omega) | exact ret_rt_no (by unfold Rt; omega) | exact ret_rt_eq (by rw [beq_iff_eq]; unfold Rt; omega) | exact ret_rt_eq (by rw [decide_eq_true_eq]; unfold Rt; omega), bal (Below.refl _ _) _⟩
--END right_any
end Go.Proofs.YtggggfhgfnbjnaaGreatDoor.Pcap

/- What the document's Check, Put, Get and Under answer. -/
namespace Go.Proofs.YtggggfhgfnbjnaaGreatDoor.Pcap
open Go.Proofs.YtggggfhgfnbjnaaGreatDoor.Pbase Go.Proofs.YtggggfhgfnbjnaaGreatDoor.Pfield
open Go.RowKit M
set_option linter.unusedVariables false

theorem rcheck_any (k r t l e a : Int) (w : World) :
    Calls Tryz.prog 70 #[.agg #[.int .i64 k, .int .i64 r, .int .i64 t, .int .i64 l, .int .i64 e, .int .i64 a]] w fun x w' => x = .returned (.int .i64 (chk k r t l e a)) ∧ Below w.heap.size w w' := by
  by_cases hp : Rt k r t l e a
  · rw [chk_yes hp]
    have hc : rtB k r t l e a = true := rtB_yes hp
    clear hp
    go_enter Tryz.func70, Tryz.ntmps70
    go_wp2_with (first
      | (go_at_call 164; refine (right_any _ _ _ _ _ _ _).mono ?_; rintro e1 w1 ⟨rfl, hb1⟩; rw [hc]; have H1 : Hid (Below w.heap.size w w1) := (bal (Below.refl _ _) _).trans (hb1.mono (by simp)); clear hb1)
      | fail)
    go_ret
    exact ⟨rfl, H1.out⟩
  · rw [chk_no hp]
    have hc : rtB k r t l e a = false := rtB_no hp
    clear hp
    go_enter Tryz.func70, Tryz.ntmps70
    go_wp2_with (first
      | (go_at_call 164; refine (right_any _ _ _ _ _ _ _).mono ?_; rintro e1 w1 ⟨rfl, hb1⟩; rw [hc]; have H1 : Hid (Below w.heap.size w w1) := (bal (Below.refl _ _) _).trans (hb1.mono (by simp)); clear hb1)
      | fail)
    go_ret
    exact ⟨rfl, H1.out⟩
theorem rwidths_any (w : World) :
    Calls Tryz.prog 204 #[] w fun x w' => ∃ b, x = .returned (.slice (some ⟨b, 0, none⟩) 5 5) ∧ Ints .i64 w'.heap.size w' (.slice (some ⟨b, 0, none⟩) 5 5) ws ∧ Below w.heap.size w w' := by
  go_enter Tryz.func204, Tryz.ntmps204
  go_wp2
  go_ret
  exact ⟨_, rfl, ints_wide w _, bal (Below.refl _ _) _⟩
theorem ints_built (w : World) (k r t l e : Int) (ty : TypeId) :
    Ints .u64 (w.alloc (.cells #[.int .u64 k, .int .u64 r, .int .u64 t, .int .u64 l, .int .u64 e] ty)).heap.size (w.alloc (.cells #[.int .u64 k, .int .u64 r, .int .u64 t, .int .u64 l, .int .u64 e] ty)) (.slice (some ⟨w.heap.size, 0, none⟩) 5 5) [k, r, t, l, e] := by
  refine .inr ⟨w.heap.size, 0, 5, rfl, by simp, fun j hj => ?_⟩
  rw [Nat.zero_add, cell_of_row _ _ j _ _ _ (heap_alloc_new w _)]
  match j, hj with
  | 0, _ | 1, _ | 2, _ | 3, _ | 4, _ => rfl
/-- Packing behind the building of the parts. -/
theorem rpack_five {k r t l e a : Int} (h : Rt k r t l e a) (b : Nat) (w : World) (hi : Ints .i64 w.heap.size w (.slice (some ⟨b, 0, none⟩) 5 5) ws) :
    Calls Tryz.prog 203 #[.slice (some ⟨b, 0, none⟩) 5 5, .slice (some ⟨w.heap.size, 0, none⟩) 5 5] (w.alloc (.cells #[.int .u64 k, .int .u64 r, .int .u64 t, .int .u64 l, .int .u64 e] 183)) fun x w' => x = .returned (.tuple #[.int .u64 (packF ws [k, r, t, l, e]), .int .i64 0]) ∧ Below w.heap.size w w' :=
  (rpack_ok (some ⟨b, 0, none⟩) (some ⟨w.heap.size, 0, none⟩) 5 5 ws [k, r, t, l, e] (w.alloc (.cells #[.int .u64 k, .int .u64 r, .int .u64 t, .int .u64 l, .int .u64 e] 183)) (by decide) rfl (put_can h).1 (hi.on (bal (Below.refl _ _) _)) (ints_built w k r t l e 183) (put_can h).2).mono fun x w' ⟨hx, hb⟩ => ⟨hx, (bal (Below.refl _ _) _).trans (hb.mono (by simp))⟩
/-- A block laid, marked: so that a walk can tell a world behind it from another. -/
def laidB (w : World) (o : Obj) : World := w.alloc o
theorem laidB_eq (w : World) (o : Obj) : w.alloc o = laidB w o := rfl
/-- The widths behind the building of the parts. -/
theorem rwidths_built (k r t l e : Int) (w : World) :
    Calls Tryz.prog 204 #[] (laidB w (.cells #[.int .u64 k, .int .u64 r, .int .u64 t, .int .u64 l, .int .u64 e] 183)).drew fun x w' => ∃ b, x = .returned (.slice (some ⟨b, 0, none⟩) 5 5) ∧ Ints .i64 w'.heap.size w' (.slice (some ⟨b, 0, none⟩) 5 5) ws ∧ Ints .u64 w'.heap.size w' (.slice (some ⟨w.heap.size, 0, none⟩) 5 5) [k, r, t, l, e] ∧ Below w.heap.size w w' :=
  (rwidths_any (w.alloc (.cells #[.int .u64 k, .int .u64 r, .int .u64 t, .int .u64 l, .int .u64 e] 183)).drew).mono fun x w' ⟨b, hx, hi, hb⟩ => ⟨b, hx, hi, (ints_built w k r t l e 183).on ((Below.refl _ _).drew.trans hb), (bal (Below.refl _ _) (.cells #[.int .u64 k, .int .u64 r, .int .u64 t, .int .u64 l, .int .u64 e] 183)).drew.trans (hb.mono (by show _ ≤ (w.alloc (.cells #[.int .u64 k, .int .u64 r, .int .u64 t, .int .u64 l, .int .u64 e] 183)).heap.size; simp))⟩
theorem rpack_on {k r t l e a : Int} (h : Rt k r t l e a) (b c : Nat) (w : World) (hi : Ints .i64 w.heap.size w (.slice (some ⟨b, 0, none⟩) 5 5) ws) (hj : Ints .u64 w.heap.size w (.slice (some ⟨c, 0, none⟩) 5 5) [k, r, t, l, e]) :
    Calls Tryz.prog 203 #[.slice (some ⟨b, 0, none⟩) 5 5, .slice (some ⟨c, 0, none⟩) 5 5] w fun x w' => x = .returned (.tuple #[.int .u64 (packF ws [k, r, t, l, e]), .int .i64 0]) ∧ Below w.heap.size w w' :=
  rpack_ok (some ⟨b, 0, none⟩) (some ⟨c, 0, none⟩) 5 5 ws [k, r, t, l, e] w (by decide) rfl (put_can h).1 hi hj (put_can h).2
set_option maxRecDepth 100000 in
theorem rput_any (k r t l e a : Int) (w : World) :
    Calls Tryz.prog 158 #[.agg #[.int .i64 k, .int .i64 r, .int .i64 t, .int .i64 l, .int .i64 e, .int .i64 a]] w fun x w' => x = .returned (.tuple #[.int .u64 (putW k r t l e a), .int .u64 (putA k r t l e a), .int .i64 (chk k r t l e a)]) ∧ Below w.heap.size w w' := by
  have HI : Hid (∀ ty, Box6 (w.alloc (.cells #[.int .i64 k, .int .i64 r, .int .i64 t, .int .i64 l, .int .i64 e, .int .i64 a] ty)) w.heap.size k r t l e a) := fun ty => box6_new w _ _ _ _ _ _ ty
  by_cases hp : Rt k r t l e a
  case neg =>
    rw [putW_no hp, putA_no hp, chk_no hp]
    have hc : rtB k r t l e a = false := rtB_no hp
    clear hp
    go_enter Tryz.func158, Tryz.ntmps158
    go_wp2_with (first
      | (go_at_call 164; refine (right_any _ _ _ _ _ _ _).mono ?_; rintro e1 w1 ⟨rfl, hb1⟩; rw [hc]; have H1 : Hid (Below w.heap.size w w1) := (bal (Below.refl _ _) _).trans (hb1.mono (by simp)); clear hb1)
      | fail)
    go_ret3
    exact ⟨rfl, H1.out⟩
  case pos =>
  rw [putW_yes hp, putA_yes hp, chk_yes hp]
  obtain ⟨z, hz⟩ : ∃ z, z = packF ws [k, r, t, l, e] := ⟨_, rfl⟩
  rw [← hz]
  have HZ : Hid (z = packF ws [k, r, t, l, e]) := hz
  clear hz
  have hc : rtB k r t l e a = true := rtB_yes hp
  have HP : Hid (Rt k r t l e a) := hp
  unfold Rt at hp
  have d0 : IntKind.u64.wrap k = k := wrapu_small (by omega) (by omega)
  have d1 : IntKind.u64.wrap r = r := wrapu_small (by omega) (by omega)
  have d2 : IntKind.u64.wrap t = t := wrapu_small (by omega) (by omega)
  have d3 : IntKind.u64.wrap l = l := wrapu_small (by omega) (by omega)
  have d4 : IntKind.u64.wrap e = e := wrapu_small (by omega) (by omega)
  have d5 : IntKind.u64.wrap a = a := wrapu_small (by omega) (by omega)
  clear hp
  go_enter Tryz.func158, Tryz.ntmps158
  go_wp2_with (first
    | (go_at_call 164; refine (right_any _ _ _ _ _ _ _).mono ?_; rintro e1 w1 ⟨rfl, hb1⟩; rw [hc]; have H1 : Hid (Below w.heap.size w w1) := (bal (Below.refl _ _) _).trans (hb1.mono (by simp)); have HX : Hid (Box6 w1 w.heap.size k r t l e a) := (HI.out _).on hb1; clear hb1 HI; have x0 := HX.out.c0; have x1 := HX.out.c1; have x2 := HX.out.c2; have x3 := HX.out.c3; have x4 := HX.out.c4; have x5 := HX.out.c5; have xl := HX.out.lt)
    | fail)
  go_region_held3 (fun w' => w'.cell? ⟨w.heap.size, 0, none⟩ = some (.int .i64 k) ∧ w'.cell? ⟨w.heap.size, 1, none⟩ = some (.int .i64 r) ∧ w'.cell? ⟨w.heap.size, 2, none⟩ = some (.int .i64 t) ∧ w'.cell? ⟨w.heap.size, 3, none⟩ = some (.int .i64 l) ∧ w'.cell? ⟨w.heap.size, 4, none⟩ = some (.int .i64 e)) (first | exact ⟨by assumption, by assumption, by assumption, by assumption, by assumption⟩ | go_keep)
  (first
    | (go_at_call 204; rw [laidB_eq]; refine (rwidths_built k r t l e _).mono ?_; rintro e2 w2 ⟨b, rfl, hi, hj, hb2⟩; have hm : Below w1.heap.size w1 w2 := (by first | exact hb2 | exact (Below.refl _ _).drew.trans hb2); have HX2 : Hid (Box6 w2 w.heap.size k r t l e a) := HX.out.on hm; have H2 : Hid (Below w.heap.size w w2) := H1.out.trans (hm.mono H1.out.size); have HI2 : Hid True := trivial; have HK : Hid (Calls Tryz.prog 203 #[.slice (some ⟨b, 0, none⟩) 5 5, .slice (some ⟨w1.heap.size, 0, none⟩) 5 5] w2 fun x w' => x = .returned (.tuple #[.int .u64 z, .int .i64 0]) ∧ Below w2.heap.size w2 w') := (by rw [HZ.out]; exact rpack_on HP.out b w1.heap.size w2 hi hj); clear hj; clear hm hb2 hi x0 x1 x2 x3 x4 x5 xl HX H1; have x0 := HX2.out.c0; have x1 := HX2.out.c1; have x2 := HX2.out.c2; have x3 := HX2.out.c3; have x4 := HX2.out.c4; have x5 := HX2.out.c5; have xl := HX2.out.lt)
    | (go_at_call 204; refine (rwidths_any _).mono ?_; rintro e2 w2 ⟨b, rfl, hi, hb2⟩; have hm : Below w1.heap.size w1 w2 := (by first | exact hb2 | exact (Below.refl _ _).drew.trans hb2 | exact (bal (Below.refl _ _) _).trans (hb2.mono (by simp)) | exact (bal (Below.refl _ _).drew _).trans (hb2.mono (by simp)) | exact (bal (Below.refl _ _) _).drew.trans (hb2.mono (by simp))); have HX2 : Hid (Box6 w2 w.heap.size k r t l e a) := HX.out.on hm; have H2 : Hid (Below w.heap.size w w2) := H1.out.trans (hm.mono H1.out.size); have HI2 : Hid (Ints .i64 w2.heap.size w2 (.slice (some ⟨b, 0, none⟩) 5 5) ws) := hi; have HK : Hid (Calls Tryz.prog 203 #[.slice (some ⟨b, 0, none⟩) 5 5, .slice (some ⟨w2.heap.size, 0, none⟩) 5 5] (w2.alloc (.cells #[.int .u64 k, .int .u64 r, .int .u64 t, .int .u64 l, .int .u64 e] 183)) fun x w' => x = .returned (.tuple #[.int .u64 z, .int .i64 0]) ∧ Below w2.heap.size w2 w') := (by rw [HZ.out]; exact rpack_five HP.out b w2 hi); clear hm hb2 hi x0 x1 x2 x3 x4 x5 xl HX H1; have x0 := HX2.out.c0; have x1 := HX2.out.c1; have x2 := HX2.out.c2; have x3 := HX2.out.c3; have x4 := HX2.out.c4; have x5 := HX2.out.c5; have xl := HX2.out.lt)
    | (go_at_call 203; refine HK.out.mono ?_; rintro e3 w3 ⟨rfl, hm⟩; have HX3 : Hid (Box6 w3 w.heap.size k r t l e a) := HX2.out.on hm; have H3 : Hid (Below w.heap.size w w3) := H2.out.trans (hm.mono H2.out.size); clear hm x0 x1 x2 x3 x4 x5 xl HX2 H2 HI2 HK; have x0 := HX3.out.c0; have x1 := HX3.out.c1; have x2 := HX3.out.c2; have x3 := HX3.out.c3; have x4 := HX3.out.c4; have x5 := HX3.out.c5; dsimp only)
    | fail)
  all_goals
    go_wp2
    go_quiet (fail)
    go_wp2
    go_ret3
    exact ⟨rfl, H3.out.trans (below_drew' _ _ _)⟩
end Go.Proofs.YtggggfhgfnbjnaaGreatDoor.Pcap

/- What the document's Get and Under answer. -/
namespace Go.Proofs.YtggggfhgfnbjnaaGreatDoor.Pcap
open Go.Proofs.YtggggfhgfnbjnaaGreatDoor.Pbase Go.Proofs.YtggggfhgfnbjnaaGreatDoor.Pfield
open Go.RowKit M
set_option linter.unusedVariables false

theorem runpack_five (a0 : Option Addr) (x : Int) (w : World) (hx : 0 ≤ x ∧ x ≤ 18446744073709551615) (hI : Ints .i64 w.heap.size w (.slice a0 5 5) ws) (hA : canU x ws) :
    Calls Tryz.prog 178 #[.slice a0 5 5, .int .u64 x] w fun e' W' => ∃ b o c, e' = .returned (.tuple #[.slice (some ⟨b, o, none⟩) 5 c, .int .i64 0]) ∧ Five W' b o x ∧ Below w.heap.size w W' :=
  (runpack_ok a0 5 ws x w (by decide) hx hI hA).mono fun e' W' ⟨a, c, he, hi, hB⟩ => by
    obtain ⟨b, o, rfl, h5⟩ := five_of hi
    exact ⟨b, o, c, he, h5, hB⟩
theorem runpack_none (a0 : Option Addr) (x : Int) (w : World) (hx : 0 ≤ x ∧ x ≤ 18446744073709551615) (hI : Ints .i64 w.heap.size w (.slice a0 5 5) ws) (hA : ¬ canU x ws) :
    Calls Tryz.prog 178 #[.slice a0 5 5, .int .u64 x] w fun e' W' => e' = .returned (.tuple #[.slice none 0 0, .int .i64 1]) ∧ Below w.heap.size w W' := runpack_bad a0 5 ws x w (by decide) hx hI hA
set_option maxRecDepth 100000 in
set_option maxHeartbeats 2000000 in
theorem rget_any (x y : Int) (w : World) (hx : 0 ≤ x ∧ x ≤ 18446744073709551615) (hy : 0 ≤ y ∧ y ≤ 18446744073709551615) :
    Calls Tryz.prog 157 #[.int .u64 x, .int .u64 y] w fun v w' => v = .returned (.tuple #[.agg #[.int .i64 (getC x y 0), .int .i64 (getC x y 1), .int .i64 (getC x y 2), .int .i64 (getC x y 3), .int .i64 (getC x y 4), .int .i64 (getC x y 5)], .int .i64 (getE x y)]) ∧ Below w.heap.size w w' := by
  have HO : Hid (∀ ty, Box6 (w.alloc (.cells #[.int .i64 0, .int .i64 0, .int .i64 0, .int .i64 0, .int .i64 0, .int .i64 0] ty)) w.heap.size 0 0 0 0 0 0) := fun ty => box6_new w 0 0 0 0 0 0 ty
  have HX : Hid (0 ≤ x ∧ x ≤ 18446744073709551615) := hx
  clear hx
  by_cases hc : canU x ws
  case neg =>
    have hno : ¬ Got x y := fun h => hc h.1
    simp only [getC_no hno, getE_no hno]
    have HN : Hid (¬ canU x ws) := hc
    clear hc hno hy
    go_enter Tryz.func157, Tryz.ntmps157
    go_wp2_with (first
      | (go_at_call 204; refine (rwidths_any _).mono ?_; rintro e1 w1 ⟨b1, rfl, hi1, hb1⟩; have H1 : Hid (Below w.heap.size w w1) := (bal (Below.refl _ _) _).trans (hb1.mono (by simp)); have HX1 : Hid (Box6 w1 w.heap.size 0 0 0 0 0 0) := (HO.out _).on hb1; have HI1 : Hid (Ints .i64 w1.heap.size w1 (.slice (some ⟨b1, 0, none⟩) 5 5) ws) := hi1; clear hi1 hb1 HO)
      | (go_at_call 178; refine (runpack_none (some ⟨b1, 0, none⟩) x _ HX.out HI1.out HN.out).mono ?_; rintro e2 w2 ⟨rfl, hb2⟩; have H2 : Hid (Below w.heap.size w w2) := H1.out.trans (hb2.mono H1.out.size); have X1 := HX1.out.on hb2; clear hb2 HX1 H1 HI1; have x0 := X1.c0; have x1 := X1.c1; have x2 := X1.c2; have x3 := X1.c3; have x4 := X1.c4; have x5 := X1.c5; have z0 := X1.fz 0; have z1 := X1.fz 1; have z2 := X1.fz 2; have z3 := X1.fz 3; have z4 := X1.fz 4; have z5 := X1.fz 5; have xl := X1.lt; clear X1)
      | fail)
    refine bodyPost_ret (v := .tuple #[.agg #[.int .i64 0, .int .i64 0, .int .i64 0, .int .i64 0, .int .i64 0, .int .i64 0], .int .i64 12]) (by simp [results, Tryz.results157, go_sem, x0, x1, x2, x3, x4, x5]) rfl ⟨rfl, ?_⟩
    exact bst (bst (bst (bst (bst (bst H2.out (Nat.le_refl _) _ _) (Nat.le_refl _) _ _) (Nat.le_refl _) _ _) (Nat.le_refl _) _ _) (Nat.le_refl _) _ _) (Nat.le_refl _) _ _
  case pos =>
  have HN : Hid (canU x ws) := hc
  clear hc
  obtain ⟨⟨p0, q0⟩, ⟨p1, q1⟩, ⟨p2, q2⟩, ⟨p3, q3⟩, ⟨p4, q4⟩⟩ := gN_bd HX.out HN.out
  by_cases hy1 : 1073741824 < y
  case pos =>
    have hno : ¬ Got x y := fun h => by have := h.2.1; omega
    simp only [getC_no hno, getE_no hno]
    clear hno p0 p1 p2 p3 p4 q0 q1 q2 q3 q4
    go_enter Tryz.func157, Tryz.ntmps157
    go_wp2_with (first
      | (go_at_call 204; refine (rwidths_any _).mono ?_; rintro e1 w1 ⟨b1, rfl, hi1, hb1⟩; have H1 : Hid (Below w.heap.size w w1) := (bal (Below.refl _ _) _).trans (hb1.mono (by simp)); have HX1 : Hid (Box6 w1 w.heap.size 0 0 0 0 0 0) := (HO.out _).on hb1; have HI1 : Hid (Ints .i64 w1.heap.size w1 (.slice (some ⟨b1, 0, none⟩) 5 5) ws) := hi1; clear hi1 hb1 HO)
      | (go_at_call 178; refine (runpack_five (some ⟨b1, 0, none⟩) x _ HX.out HI1.out HN.out).mono ?_; rintro e2 w2 ⟨b, o, c, rfl, h5, hb2⟩; have H2 : Hid (Below w.heap.size w w2) := H1.out.trans (hb2.mono H1.out.size); have X1 := HX1.out.on hb2; clear hb2 HX1 H1 HI1 h5; have x0 := X1.c0; have x1 := X1.c1; have x2 := X1.c2; have x3 := X1.c3; have x4 := X1.c4; have x5 := X1.c5; have z0 := X1.fz 0; have z1 := X1.fz 1; have z2 := X1.fz 2; have z3 := X1.fz 3; have z4 := X1.fz 4; have z5 := X1.fz 5; have xl := X1.lt; clear X1)
      | fail)
    refine bodyPost_ret (v := .tuple #[.agg #[.int .i64 0, .int .i64 0, .int .i64 0, .int .i64 0, .int .i64 0, .int .i64 0], .int .i64 12]) (by simp [results, Tryz.results157, go_sem, x0, x1, x2, x3, x4, x5]) rfl ⟨rfl, ?_⟩
    exact bst (bst (bst (bst (bst (bst H2.out (Nat.le_refl _) _ _) (Nat.le_refl _) _ _) (Nat.le_refl _) _ _) (Nat.le_refl _) _ _) (Nat.le_refl _) _ _) (Nat.le_refl _) _ _
  case neg =>
  have hy2 : y ≤ 1073741824 := by omega
  have dv : IntKind.i64.wrap y = y := wrapi_small hy.1 (by omega)
  have d0 : IntKind.i64.wrap (gN x 0) = gN x 0 := wrapi_small p0 (by omega)
  have d1 : IntKind.i64.wrap (gN x 1) = gN x 1 := wrapi_small p1 (by omega)
  have d2 : IntKind.i64.wrap (gN x 2) = gN x 2 := wrapi_small p2 (by omega)
  have d3 : IntKind.i64.wrap (gN x 3) = gN x 3 := wrapi_small p3 (by omega)
  have d4 : IntKind.i64.wrap (gN x 4) = gN x 4 := wrapi_small p4 (by omega)
  by_cases hr : Rt (gN x 0) (gN x 1) (gN x 2) (gN x 3) (gN x 4) y
  case pos =>
    have hG : Got x y := ⟨HN.out, hy2, hr⟩
    obtain ⟨e0, e1, e2, e3, e4, e5⟩ := getC_yes hG
    rw [e0, e1, e2, e3, e4, e5, getE_yes hG]
    clear e0 e1 e2 e3 e4 e5 hG
    have hc : rtB (gN x 0) (gN x 1) (gN x 2) (gN x 3) (gN x 4) y = true := rtB_yes hr
    clear hr p0 p1 p2 p3 p4 q0 q1 q2 q3 q4 hy
    go_enter Tryz.func157, Tryz.ntmps157
    go_wp2_with (first
      | (go_at_call 204; refine (rwidths_any _).mono ?_; rintro e1 w1 ⟨b1, rfl, hi1, hb1⟩; have H1 : Hid (Below w.heap.size w w1) := (bal (Below.refl _ _) _).trans (hb1.mono (by simp)); have HX1 : Hid (Box6 w1 w.heap.size 0 0 0 0 0 0) := (HO.out _).on hb1; have HI1 : Hid (Ints .i64 w1.heap.size w1 (.slice (some ⟨b1, 0, none⟩) 5 5) ws) := hi1; clear hi1 hb1 HO)
      | (go_at_call 178; refine (runpack_five (some ⟨b1, 0, none⟩) x _ HX.out HI1.out HN.out).mono ?_; rintro e2 w2 ⟨b, o, c, rfl, h5, hb2⟩; have H2 : Hid (Below w.heap.size w w2) := H1.out.trans (hb2.mono H1.out.size); have HX2 : Hid (Box6 w2 w.heap.size 0 0 0 0 0 0) := HX1.out.on hb2; have H5 : Hid (Five w2 b o x) := h5; clear hb2 HX1 H1 HI1 h5; have f0 := H5.out.c0; have f1 := H5.out.c1; have f2 := H5.out.c2; have f3 := H5.out.c3; have f4 := H5.out.c4; have fl := H5.out.lt)
      | fail)
    go_region_held3 (fun w' => w'.cell? ⟨b, o, none⟩ = some (.int .u64 (gN x 0)) ∧ w'.cell? ⟨b, o + 1, none⟩ = some (.int .u64 (gN x 1)) ∧ w'.cell? ⟨b, o + 2, none⟩ = some (.int .u64 (gN x 2)) ∧ w'.cell? ⟨b, o + 3, none⟩ = some (.int .u64 (gN x 3)) ∧ w'.cell? ⟨b, o + 4, none⟩ = some (.int .u64 (gN x 4))) (first | exact ⟨by assumption, by assumption, by assumption, by assumption, by assumption⟩ | go_keep)
    (fail)
    try simp only [d0, d1, d2, d3, d4, dv]
    have hbx := (box6_new w2 (gN x 0) (gN x 1) (gN x 2) (gN x 3) (gN x 4) y 55).on (Below.refl _ _).drew
    have hbr := HX2.out.on (bal (Below.refl _ _) (.cells #[.int .i64 (gN x 0), .int .i64 (gN x 1), .int .i64 (gN x 2), .int .i64 (gN x 3), .int .i64 (gN x 4), .int .i64 y] 55)).drew
    have hbb := (bal H2.out (.cells #[.int .i64 (gN x 0), .int .i64 (gN x 1), .int .i64 (gN x 2), .int .i64 (gN x 3), .int .i64 (gN x 4), .int .i64 y] 55)).drew
    have hne := HX2.out.lt
    clear f0 f1 f2 f3 f4 fl H5
    generalize (w2.alloc _).drew = w3 at hbx hbr hbb ⊢
    have HP3 : Hid (Box6 w3 w2.heap.size (gN x 0) (gN x 1) (gN x 2) (gN x 3) (gN x 4) y) := hbx
    have HR3 : Hid (Box6 w3 w.heap.size 0 0 0 0 0 0) := hbr
    have HB3 : Hid (Below w.heap.size w w3) := hbb
    have HQ3 : Hid (w.heap.size < w2.heap.size) := hne
    have y0 := hbx.c0
    have y1 := hbx.c1
    have y2 := hbx.c2
    have y3 := hbx.c3
    have y4 := hbx.c4
    have y5 := hbx.c5
    clear hbx hbr hbb hne HX2
    generalize w2.heap.size = D at HP3 HQ3 y0 y1 y2 y3 y4 y5 ⊢
    go_wp2_with (first
      | (go_at_call 164; refine (right_any _ _ _ _ _ _ _).mono ?_; rintro e3 w4 ⟨rfl, hb4⟩; rw [hc]; have H4 : Hid (Below w.heap.size w w4) := HB3.out.trans (hb4.mono HB3.out.size); clear y0 y1 y2 y3 y4 y5; have Y1 := HP3.out.on hb4; have y0 := Y1.c0; have y1 := Y1.c1; have y2 := Y1.c2; have y3 := Y1.c3; have y4 := Y1.c4; have y5 := Y1.c5; clear Y1; have X1 := HR3.out.on hb4; have x0 := X1.c0; have x1 := X1.c1; have x2 := X1.c2; have x3 := X1.c3; have x4 := X1.c4; have x5 := X1.c5; have z0 := X1.fz 0; have z1 := X1.fz 1; have z2 := X1.fz 2; have z3 := X1.fz 3; have z4 := X1.fz 4; have z5 := X1.fz 5; have xl := X1.lt; clear X1 hb4; have ne1 : ¬ D = w.heap.size := Nat.ne_of_gt HQ3.out; have ne2 : ¬ w.heap.size = D := Nat.ne_of_lt HQ3.out)
      | fail)
    refine bodyPost_ret (v := .tuple #[.agg #[.int .i64 (gN x 0), .int .i64 (gN x 1), .int .i64 (gN x 2), .int .i64 (gN x 3), .int .i64 (gN x 4), .int .i64 y], .int .i64 0]) (by simp [results, Tryz.results157, go_sem, x0, x1, x2, x3, x4, x5]) rfl ⟨rfl, ?_⟩
    exact bst (bst (bst (bst (bst (bst H4.out (Nat.le_refl _) _ _) (Nat.le_refl _) _ _) (Nat.le_refl _) _ _) (Nat.le_refl _) _ _) (Nat.le_refl _) _ _) (Nat.le_refl _) _ _
  case neg =>
    have hG : ¬ Got x y := fun h => hr h.2.2
    simp only [getC_no hG, getE_no hG]
    have hc : rtB (gN x 0) (gN x 1) (gN x 2) (gN x 3) (gN x 4) y = false := rtB_no hr
    clear hr p0 p1 p2 p3 p4 q0 q1 q2 q3 q4 hy hG
    go_enter Tryz.func157, Tryz.ntmps157
    go_wp2_with (first
      | (go_at_call 204; refine (rwidths_any _).mono ?_; rintro e1 w1 ⟨b1, rfl, hi1, hb1⟩; have H1 : Hid (Below w.heap.size w w1) := (bal (Below.refl _ _) _).trans (hb1.mono (by simp)); have HX1 : Hid (Box6 w1 w.heap.size 0 0 0 0 0 0) := (HO.out _).on hb1; have HI1 : Hid (Ints .i64 w1.heap.size w1 (.slice (some ⟨b1, 0, none⟩) 5 5) ws) := hi1; clear hi1 hb1 HO)
      | (go_at_call 178; refine (runpack_five (some ⟨b1, 0, none⟩) x _ HX.out HI1.out HN.out).mono ?_; rintro e2 w2 ⟨b, o, c, rfl, h5, hb2⟩; have H2 : Hid (Below w.heap.size w w2) := H1.out.trans (hb2.mono H1.out.size); have HX2 : Hid (Box6 w2 w.heap.size 0 0 0 0 0 0) := HX1.out.on hb2; have H5 : Hid (Five w2 b o x) := h5; clear hb2 HX1 H1 HI1 h5; have f0 := H5.out.c0; have f1 := H5.out.c1; have f2 := H5.out.c2; have f3 := H5.out.c3; have f4 := H5.out.c4; have fl := H5.out.lt)
      | fail)
    go_region_held3 (fun w' => w'.cell? ⟨b, o, none⟩ = some (.int .u64 (gN x 0)) ∧ w'.cell? ⟨b, o + 1, none⟩ = some (.int .u64 (gN x 1)) ∧ w'.cell? ⟨b, o + 2, none⟩ = some (.int .u64 (gN x 2)) ∧ w'.cell? ⟨b, o + 3, none⟩ = some (.int .u64 (gN x 3)) ∧ w'.cell? ⟨b, o + 4, none⟩ = some (.int .u64 (gN x 4))) (first | exact ⟨by assumption, by assumption, by assumption, by assumption, by assumption⟩ | go_keep)
    (fail)
    try simp only [d0, d1, d2, d3, d4, dv]
    have hbx := (box6_new w2 (gN x 0) (gN x 1) (gN x 2) (gN x 3) (gN x 4) y 55).on (Below.refl _ _).drew
    have hbr := HX2.out.on (bal (Below.refl _ _) (.cells #[.int .i64 (gN x 0), .int .i64 (gN x 1), .int .i64 (gN x 2), .int .i64 (gN x 3), .int .i64 (gN x 4), .int .i64 y] 55)).drew
    have hbb := (bal H2.out (.cells #[.int .i64 (gN x 0), .int .i64 (gN x 1), .int .i64 (gN x 2), .int .i64 (gN x 3), .int .i64 (gN x 4), .int .i64 y] 55)).drew
    have hne := HX2.out.lt
    clear f0 f1 f2 f3 f4 fl H5
    generalize (w2.alloc _).drew = w3 at hbx hbr hbb ⊢
    have HP3 : Hid (Box6 w3 w2.heap.size (gN x 0) (gN x 1) (gN x 2) (gN x 3) (gN x 4) y) := hbx
    have HR3 : Hid (Box6 w3 w.heap.size 0 0 0 0 0 0) := hbr
    have HB3 : Hid (Below w.heap.size w w3) := hbb
    have HQ3 : Hid (w.heap.size < w2.heap.size) := hne
    have y0 := hbx.c0
    have y1 := hbx.c1
    have y2 := hbx.c2
    have y3 := hbx.c3
    have y4 := hbx.c4
    have y5 := hbx.c5
    clear hbx hbr hbb hne HX2
    generalize w2.heap.size = D at HP3 HQ3 y0 y1 y2 y3 y4 y5 ⊢
    go_wp2_with (first
      | (go_at_call 164; refine (right_any _ _ _ _ _ _ _).mono ?_; rintro e3 w4 ⟨rfl, hb4⟩; rw [hc]; have H4 : Hid (Below w.heap.size w w4) := HB3.out.trans (hb4.mono HB3.out.size); clear y0 y1 y2 y3 y4 y5; have Y1 := HP3.out.on hb4; have y0 := Y1.c0; have y1 := Y1.c1; have y2 := Y1.c2; have y3 := Y1.c3; have y4 := Y1.c4; have y5 := Y1.c5; clear Y1; have X1 := HR3.out.on hb4; have x0 := X1.c0; have x1 := X1.c1; have x2 := X1.c2; have x3 := X1.c3; have x4 := X1.c4; have x5 := X1.c5; have z0 := X1.fz 0; have z1 := X1.fz 1; have z2 := X1.fz 2; have z3 := X1.fz 3; have z4 := X1.fz 4; have z5 := X1.fz 5; have xl := X1.lt; clear X1 hb4; have ne1 : ¬ D = w.heap.size := Nat.ne_of_gt HQ3.out; have ne2 : ¬ w.heap.size = D := Nat.ne_of_lt HQ3.out)
      | fail)
    refine bodyPost_ret (v := .tuple #[.agg #[.int .i64 0, .int .i64 0, .int .i64 0, .int .i64 0, .int .i64 0, .int .i64 0], .int .i64 12]) (by simp [results, Tryz.results157, go_sem, x0, x1, x2, x3, x4, x5]) rfl ⟨rfl, ?_⟩
    exact bst (bst (bst (bst (bst (bst H4.out (Nat.le_refl _) _ _) (Nat.le_refl _) _ _) (Nat.le_refl _) _ _) (Nat.le_refl _) _ _) (Nat.le_refl _) _ _) (Nat.le_refl _) _ _
/-- Two capabilities in two blocks of the call's own. -/
structure Pair' (w0 w : World) (k r t l e a k' r' t' l' e' a' : Int) : Prop where
  below : Below w0.heap.size w0 w
  p : Box6 w w0.heap.size k r t l e a
  q : Box6 w (w0.heap.size + 1) k' r' t' l' e' a'
theorem Pair'.on {w0 w w' : World} {k r t l e a k' r' t' l' e' a' : Int} (h : Pair' w0 w k r t l e a k' r' t' l' e' a') (hB : Below w.heap.size w w') : Pair' w0 w' k r t l e a k' r' t' l' e' a' :=
  ⟨h.below.trans (hB.mono h.below.size), h.p.on hB, h.q.on hB⟩
theorem pair_new' (w : World) (k r t l e a k' r' t' l' e' a' : Int) (ty ty' : TypeId) :
    Pair' w ((w.alloc (.cells #[.int .i64 k, .int .i64 r, .int .i64 t, .int .i64 l, .int .i64 e, .int .i64 a] ty)).alloc (.cells #[.int .i64 k', .int .i64 r', .int .i64 t', .int .i64 l', .int .i64 e', .int .i64 a'] ty')) k r t l e a k' r' t' l' e' a' := by
  have B1 := bal (Below.refl w.heap.size w) (.cells #[.int .i64 k, .int .i64 r, .int .i64 t, .int .i64 l, .int .i64 e, .int .i64 a] ty)
  have B2 := bal B1 (.cells #[.int .i64 k', .int .i64 r', .int .i64 t', .int .i64 l', .int .i64 e', .int .i64 a'] ty')
  have q := box6_new (w.alloc (.cells #[.int .i64 k, .int .i64 r, .int .i64 t, .int .i64 l, .int .i64 e, .int .i64 a] ty)) k' r' t' l' e' a' ty'
  rw [World.size_alloc] at q
  exact ⟨B2, (box6_new w k r t l e a ty).on (bal (Below.refl _ _) _), q⟩
theorem ret_b {b c : Bool} (h : b = c) : Ending.returned (Value.bool b) = .returned (.bool c) := by rw [h]
end Go.Proofs.YtggggfhgfnbjnaaGreatDoor.Pcap

/- Capabilities that came in, and the tables that the program lays: as a walk asks them. -/
namespace Go.Proofs.YtggggfhgfnbjnaaGreatDoor.Pcap
open Go.Proofs.YtggggfhgfnbjnaaGreatDoor.Pbase Go.Proofs.YtggggfhgfnbjnaaGreatDoor.Pfield
open Go.RowKit Go.ChangeShapes Go.WideShapes Go.Deep
set_option linter.unusedVariables false

section
variable {H : Type} {enc : TypeId × Value → H} {w : World} {base : Nat} {spare : Nat → Bool} {held : Bool}
set_option maxRecDepth 100000 in
theorem cap_cells {fuel : Nat} {cs : List Value} {x : DataW H × List MemPlace} (h : DataW.trod enc Tryz.prog w base spare held fuel 55 cs = some x) : ∃ k r t l e a : Int, cs = [.int .i64 k, .int .i64 r, .int .i64 t, .int .i64 l, .int .i64 e, .int .i64 a] := by
  obtain ⟨xs, n, _, _, hl, hx, hf⟩ := DataW.trod_struct Tryz.underlying55 h
  have hc : Tryz.prog.cellsOf 55 = 6 := by kernel_rfl
  have hi : Tryz.prog.cellsOf 3 = 1 := by kernel_rfl
  rw [hc] at hl
  match cs, hl, xs, hx with
  | [v0, v1, v2, v3, v4, v5], _, [y0, y1, y2, y3, y4, y5], _ =>
    have g0 := hf 0 _ rfl
    have g1 := hf 1 _ rfl
    have g2 := hf 2 _ rfl
    have g3 := hf 3 _ rfl
    have g4 := hf 4 _ rfl
    have g5 := hf 5 _ rfl
    simp [hi] at g0 g1 g2 g3 g4 g5
    obtain ⟨a0, e0, _⟩ := DataW.trod_int Tryz.underlying3 g0
    obtain ⟨a1, e1, _⟩ := DataW.trod_int Tryz.underlying3 g1
    obtain ⟨a2, e2, _⟩ := DataW.trod_int Tryz.underlying3 g2
    obtain ⟨a3, e3, _⟩ := DataW.trod_int Tryz.underlying3 g3
    obtain ⟨a4, e4, _⟩ := DataW.trod_int Tryz.underlying3 g4
    obtain ⟨a5, e5, _⟩ := DataW.trod_int Tryz.underlying3 g5
    simp at e0 e1 e2 e3 e4 e5
    exact ⟨a0, a1, a2, a3, a4, a5, by rw [e0, e1, e2, e3, e4, e5]⟩
set_option maxRecDepth 100000 in
theorem cap_val {r : Reach} {b0 : Nat} {v : Value} {d : DataW H} {p : List MemPlace} (hv : Value.okWide Tryz.prog w r b0 55 v) (h : DataW.Trod enc Tryz.prog w base spare held 55 v d p) : ∃ k r t l e a : Int, v = .agg #[.int .i64 k, .int .i64 r, .int .i64 t, .int .i64 l, .int .i64 e, .int .i64 a] := by
  obtain ⟨cs, rfl, _⟩ := WideShapes.okWide_struct Tryz.underlying55 hv
  obtain ⟨fuel, hf⟩ := h
  obtain ⟨k, r, t, l, e, a, hk⟩ := cap_cells hf
  exact ⟨k, r, t, l, e, a, by simp only [Value.cells] at hk; rw [← Array.toArray_toList (xs := cs), hk]⟩
end

/-- A capability's six numbers. -/
abbrev C6 := Int × Int × Int × Int × Int × Int
/-- The six cells from off on of block b are those numbers. -/
def At6 (W : World) (b off : Nat) (p : C6) : Prop :=
  W.cell? ⟨b, off, none⟩ = some (.int .i64 p.1) ∧ W.cell? ⟨b, off + 1, none⟩ = some (.int .i64 p.2.1) ∧ W.cell? ⟨b, off + 2, none⟩ = some (.int .i64 p.2.2.1) ∧ W.cell? ⟨b, off + 3, none⟩ = some (.int .i64 p.2.2.2.1) ∧ W.cell? ⟨b, off + 4, none⟩ = some (.int .i64 p.2.2.2.2.1) ∧ W.cell? ⟨b, off + 5, none⟩ = some (.int .i64 p.2.2.2.2.2)
/-- A slice of len capabilities lies at a, in blocks below n₀ of W. -/
def CameC (n₀ : Nat) (W : World) (a : Option Addr) (len : Nat) : Prop :=
  len = 0 ∨ ∃ b off, a = some ⟨b, off, none⟩ ∧ b < n₀ ∧ ∀ j, j < len → ∃ p : C6, At6 W b (off + j * 6) p
set_option maxRecDepth 100000 in
theorem cameC_of {H : Type} {enc : TypeId × Value → H} {W : World} {spare : Nat → Bool} {held : Bool} {fuel len cap : Nat} {a : Option Addr} {x : DataW H × List MemPlace}
    (h : DataW.trod enc Tryz.prog W 0 spare held fuel 22 [.slice a len cap] = some x) : CameC W.heap.size W a len ∧ len ≤ 9223372036854775807 := by
  rcases open_slice Tryz.underlying22 h with ⟨hcs, _⟩ | ⟨a', len', cap', m, n, D, Pl, hcs, hb, hl, hm, hmm, _, hx⟩
  · simp at hcs
    obtain ⟨rfl, rfl, rfl⟩ := hcs
    exact ⟨.inl rfl, by omega⟩
  · simp at hcs
    obtain ⟨rfl, rfl, rfl⟩ := hcs
    refine ⟨?_, by unfold maxLen at hm; omega⟩
    by_cases h0 : len = 0
    · exact .inl h0
    have hlm : len ≤ m := by rw [hmm]; split <;> omega
    have hc : Tryz.prog.cellsOf 55 = 6 := by kernel_rfl
    have each : ∀ j, j < len → ∃ p : C6, W.cell? (a'.add (j * 6)) = some (.int .i64 p.1) ∧ W.cell? (a'.add (j * 6 + 1)) = some (.int .i64 p.2.1) ∧ W.cell? (a'.add (j * 6 + 2)) = some (.int .i64 p.2.2.1) ∧ W.cell? (a'.add (j * 6 + 3)) = some (.int .i64 p.2.2.2.1) ∧ W.cell? (a'.add (j * 6 + 4)) = some (.int .i64 p.2.2.2.2.1) ∧ W.cell? (a'.add (j * 6 + 5)) = some (.int .i64 p.2.2.2.2.2) := by
      intro j hj
      obtain ⟨cs', h1, h2⟩ := hx j (by omega)
      rw [hc] at h1
      obtain ⟨_, hlen, hcell⟩ := World.cells?_some h1
      obtain ⟨k, r, t, l, e, c, rfl⟩ := cap_cells h2
      have e0 := hcell 0 (by omega)
      have e1 := hcell 1 (by omega)
      have e2 := hcell 2 (by omega)
      have e3 := hcell 3 (by omega)
      have e4 := hcell 4 (by omega)
      have e5 := hcell 5 (by omega)
      rw [add_add] at e0 e1 e2 e3 e4 e5
      exact ⟨(k, r, t, l, e, c), by simpa using e0, by simpa using e1, by simpa using e2, by simpa using e3, by simpa using e4, by simpa using e5⟩
    obtain ⟨k0, e0, _⟩ := each 0 (by omega)
    rw [Nat.zero_mul, Addr.add_zero'] at e0
    obtain ⟨b, off, rfl⟩ := addr_plain e0
    refine .inr ⟨b, off, rfl, World.block_lt_of_cell? W _ e0, fun j hj => ?_⟩
    obtain ⟨k, h1, h2, h3, h4, h5, h6⟩ := each j hj
    rw [Addr.add_lit] at h1 h2 h3 h4 h5 h6
    exact ⟨k, h1, h2, h3, h4, h5, h6⟩
/-- The capability at j, as any later world has it. -/
theorem CameC.at {n₀ : Nat} {W : World} {a : Option Addr} {len : Nat} (h : CameC n₀ W a len) {j : Nat} (hj : j < len) :
    ∃ (b off : Nat) (k r t l e c : Int), a = some ⟨b, off, none⟩ ∧ Hid (∀ W', Below n₀ W W' → At6 W' b (off + j * 6) (k, r, t, l, e, c)) := by
  rcases h with h | ⟨b, off, e, hb, hc⟩
  · omega
  · obtain ⟨⟨q0, q1, q2, q3, q4, q5⟩, h1, h2, h3, h4, h5, h6⟩ := hc j hj
    exact ⟨b, off, q0, q1, q2, q3, q4, q5, e, fun W' hB => ⟨(hB.cell (p := ⟨b, _, none⟩) hb).trans h1, (hB.cell (p := ⟨b, _, none⟩) hb).trans h2, (hB.cell (p := ⟨b, _, none⟩) hb).trans h3, (hB.cell (p := ⟨b, _, none⟩) hb).trans h4, (hB.cell (p := ⟨b, _, none⟩) hb).trans h5, (hB.cell (p := ⟨b, _, none⟩) hb).trans h6⟩⟩
theorem CameC.on {w w' : World} {a : Option Addr} {len : Nat} (h : CameC w.heap.size w a len) (hB : Below w.heap.size w w') : CameC w'.heap.size w' a len := by
  rcases h with h | ⟨b, off, e, hb, hc⟩
  · exact .inl h
  · refine .inr ⟨b, off, e, Nat.lt_of_lt_of_le hb hB.size, fun j hj => ?_⟩
    obtain ⟨q, h1, h2, h3, h4, h5, h6⟩ := hc j hj
    exact ⟨q, (hB.cell (p := ⟨b, _, none⟩) hb).trans h1, (hB.cell (p := ⟨b, _, none⟩) hb).trans h2, (hB.cell (p := ⟨b, _, none⟩) hb).trans h3, (hB.cell (p := ⟨b, _, none⟩) hb).trans h4, (hB.cell (p := ⟨b, _, none⟩) hb).trans h5, (hB.cell (p := ⟨b, _, none⟩) hb).trans h6⟩

/-! ### the tables -/
theorem gTwid : (Tryz.prog.globals[(3 : Nat)]?).map (·.type) = some 336 := by kernel_rfl
theorem gTmost : (Tryz.prog.globals[(0 : Nat)]?).map (·.type) = some 245 := by kernel_rfl
theorem cellsSix : Tryz.prog.cellsOf 243 = 6 := by kernel_rfl
theorem cellsMost : Tryz.prog.cellsOf 245 = 72 := by kernel_rfl
theorem cellsWide : Tryz.prog.cellsOf 336 = 5 := by kernel_rfl
theorem most_datum : (Rows.laid_palanquin_cap_most : DataW Unit) = .agg (mostL.map fun row => .agg (row.map fun z => .lit (.int .i64 z))) := rfl
theorem wid_datum : (Rows.laid_palanquin_cap_widths : DataW Unit) = .agg (ws.map fun z => .lit (.int .i64 z)) := rfl
theorem tabM_of {W : World} {g : Nat} {t : TypeId} {cs : Array Value} {fuel : Nat} {p : List MemPlace} {n : String} (hn : Tryz.prog.globalNamed n = some 0) (hg : Tryz.prog.globalNamed n = some g) (ht : (Tryz.prog.globals[g]?).map (·.type) = some t) (hv : W.var? Tryz.prog n = some cs)
    (hd : DataW.trod (fun _ => ()) Tryz.prog W 0 (fun _ => true) false fuel t cs.toList = some (Rows.laid_palanquin_cap_most, p)) : TabM W := by
  obtain rfl := Option.some.inj (hn.symm.trans hg)
  obtain rfl := Option.some.inj (gTmost.symm.trans ht)
  obtain ⟨t1, fr, hb⟩ := var_block hg hv
  refine ⟨block_lt hb, fun K j hK hj => ?_⟩
  rw [cell_of_row _ _ _ _ _ _ hb]
  rw [most_datum] at hd
  obtain ⟨xs, m, _, hx, hl, hxl, hel⟩ := DataW.trod_array Tryz.underlying245 hd
  simp only [Prod.mk.injEq, DataW.agg.injEq] at hx
  have hK' := hel K hK
  have hxK : K < xs.length := by omega
  have hmK : K < mostL.length := hK
  rw [List.getElem?_eq_getElem hxK, cellsSix] at hK'
  have hh := congrArg (fun l => l[K]?) hx.1
  simp only [List.getElem?_map, List.getElem?_eq_getElem hxK, List.getElem?_eq_getElem hmK, Option.map_some, Option.some.injEq] at hh
  obtain ⟨d, q⟩ : ∃ d : DataW Unit × List MemPlace, d = xs[K] := ⟨_, rfl⟩
  rw [← q] at hK' hh
  obtain ⟨d1, d2⟩ := d
  simp only at hh
  rw [← hh] at hK'
  obtain ⟨_, _, hc⟩ := array_ints Tryz.underlying243 cellsSix hK'
  have hcj := hc j hj
  rw [List.getElem?_take, if_pos hj, List.getElem?_drop] at hcj
  rw [← Array.getElem?_toList, hcj]
  unfold mostAt
  rw [List.getElem?_eq_getElem hmK, Option.getD_some]
theorem tabW_of {W : World} {g : Nat} {t : TypeId} {cs : Array Value} {fuel : Nat} {p : List MemPlace} {n : String} (hn : Tryz.prog.globalNamed n = some 3) (hg : Tryz.prog.globalNamed n = some g) (ht : (Tryz.prog.globals[g]?).map (·.type) = some t) (hv : W.var? Tryz.prog n = some cs)
    (hd : DataW.trod (fun _ => ()) Tryz.prog W 0 (fun _ => true) false fuel t cs.toList = some (Rows.laid_palanquin_cap_widths, p)) : TabW W := by
  obtain rfl := Option.some.inj (hn.symm.trans hg)
  obtain rfl := Option.some.inj (gTwid.symm.trans ht)
  obtain ⟨t1, fr, hb⟩ := var_block hg hv
  refine ⟨block_lt hb, t1, fr, ?_⟩
  rw [wid_datum] at hd
  obtain ⟨_, hl, hc⟩ := array_ints Tryz.underlying336 cellsWide hd
  obtain ⟨cl⟩ := cs
  simp only at hl hc hb
  match cl, hl with
  | [v0, v1, v2, v3, v4], _ =>
    have g0 := hc 0 (by omega)
    have g1 := hc 1 (by omega)
    have g2 := hc 2 (by omega)
    have g3 := hc 3 (by omega)
    have g4 := hc 4 (by omega)
    simp [ws] at g0 g1 g2 g3 g4
    rw [hb, g0, g1, g2, g3, g4]
end Go.Proofs.YtggggfhgfnbjnaaGreatDoor.Pcap
