/- Texts on finished packages, joined. -/
import Derived.Test.YtcgekcjnaadcmaaGreatDoorBunBase
import Derived.Test.YtcgekcjnaadcmaaGreatDoorBunField
import Derived.Below
import Derived.OwnWalk
import Derived.Laws.Rows
import Derived.BigQuiet
import Derived.Deep.RegionHeld3
import Derived.BigRegion
import Derived.Test.YtcgekcjnaadcmaaGreatDoorRows
import Derived.ProofKit
import Derived.OpenShut
import Derived.Carry
import Derived.LaidMore
import Derived.Deep.SlicePairs

/- Plain words on capabilities: which are right, their words, what is under what. No program is named here. -/
namespace Go.Proofs.YtcgekcjnaadcmaaGreatDoor.Pcap
open Go.Proofs.YtcgekcjnaadcmaaGreatDoor.Pbase Go.Proofs.YtcgekcjnaadcmaaGreatDoor.Pfield
open Go.RowKit M
set_option linter.unusedVariables false

/-- When a capability of kind k with the numbers r, t, l, e, a is right. -/
def Rt (k r t l e a : Int) : Prop :=
  0 ≤ k ∧ k ≤ 11 ∧ 0 ≤ r ∧ r ≤ 31 ∧ 0 ≤ t ∧ t ≤ 63 ∧ 0 ≤ l ∧ l ≤ 63 ∧ 0 ≤ e ∧ e ≤ 65535 ∧ 0 ≤ a ∧ a ≤ 1073741824 ∧
  (k = 0 → r = 0 ∧ t = 0 ∧ l = 0 ∧ e = 0 ∧ a = 0) ∧ (k = 1 → r = 0 ∧ t = 0 ∧ l = 0 ∧ e = 0) ∧
  (k = 2 → l = 0 ∧ e = 0 ∧ 1 ≤ a ∧ a ≤ 64 ∧ t + a ≤ 64) ∧ (k = 5 → a = 0) ∧ (k = 11 → t = 0 ∧ l = 0 ∧ e = 0 ∧ a = 0) ∧
  (k ≠ 0 ∧ k ≠ 1 ∧ k ≠ 2 ∧ k ≠ 5 ∧ k ≠ 7 ∧ k ≠ 11 → l = 0 ∧ e = 0 ∧ a = 0)
/-- Is it right? -/
def rtB (k r t l e a : Int) : Bool :=
  decide (0 ≤ k) && decide (k ≤ 11) && decide (0 ≤ r) && decide (r ≤ 31) && decide (0 ≤ t) && decide (t ≤ 63) && decide (0 ≤ l) && decide (l ≤ 63) && decide (0 ≤ e) && decide (e ≤ 65535) && decide (0 ≤ a) && decide (a ≤ 1073741824) &&
  (decide (k ≠ 0) || decide (r = 0 ∧ t = 0 ∧ l = 0 ∧ e = 0 ∧ a = 0)) && (decide (k ≠ 1) || decide (r = 0 ∧ t = 0 ∧ l = 0 ∧ e = 0)) &&
  (decide (k ≠ 2) || decide (l = 0 ∧ e = 0 ∧ 1 ≤ a ∧ a ≤ 64 ∧ t + a ≤ 64)) && (decide (k ≠ 5) || decide (a = 0)) && (decide (k ≠ 11) || decide (t = 0 ∧ l = 0 ∧ e = 0 ∧ a = 0)) &&
  (decide (k = 0 ∨ k = 1 ∨ k = 2 ∨ k = 5 ∨ k = 7 ∨ k = 11) || decide (l = 0 ∧ e = 0 ∧ a = 0))
theorem rtB_iff (k r t l e a : Int) : rtB k r t l e a = true ↔ Rt k r t l e a := by
  unfold rtB Rt
  simp only [Bool.and_eq_true, Bool.or_eq_true, decide_eq_true_eq]
  omega
theorem rtB_yes {k r t l e a : Int} (h : Rt k r t l e a) : rtB k r t l e a = true := (rtB_iff k r t l e a).2 h
theorem rtB_no {k r t l e a : Int} (h : ¬ Rt k r t l e a) : rtB k r t l e a = false := Bool.eq_false_iff.2 fun e1 => h ((rtB_iff k r t l e a).1 e1)
/-- What Check answers. -/
def chk (k r t l e a : Int) : Int := if rtB k r t l e a = true then 0 else 1
theorem chk_yes {k r t l e a : Int} (h : Rt k r t l e a) : chk k r t l e a = 0 := by unfold chk; rw [if_pos (rtB_yes h)]
theorem chk_no {k r t l e a : Int} (h : ¬ Rt k r t l e a) : chk k r t l e a = 1 := by unfold chk; rw [rtB_no h]; rfl

/-! ### the table -/
/-- How great the numbers of each kind may be. -/
def mostL : List (List Int) :=
  [[0, 0, 0, 0, 0, 0], [0, 0, 0, 0, 0, 1073741824], [0, 31, 63, 0, 0, 64], [0, 31, 63, 0, 0, 0], [0, 31, 63, 0, 0, 0], [0, 31, 63, 63, 65535, 0],
   [0, 31, 63, 0, 0, 0], [0, 31, 63, 63, 65535, 1073741824], [0, 31, 63, 0, 0, 0], [0, 31, 63, 0, 0, 0], [0, 31, 63, 0, 0, 0], [0, 31, 0, 0, 0, 0]]
def mostAt (k n : Nat) : Int := (mostL[k]?.getD [])[n]?.getD 0
/-- The numbers of one, in their order. -/
def nth (k r t l e a : Int) (j : Nat) : Int := [k, r, t, l, e, a][j]?.getD 0
theorem rt_of_table {K : Nat} {r t l e a : Int} (hK : K < 12) : (∀ j, 1 ≤ j → j < 6 → 0 ≤ nth K r t l e a j ∧ nth K r t l e a j ≤ mostAt K j) ∧ (K = 2 → a ≠ 0 ∧ t + a ≤ 64) ↔ Rt K r t l e a := by
  constructor
  · rintro ⟨h, h2⟩
    have h1 := h 1 (by omega) (by omega)
    have h2' := h 2 (by omega) (by omega)
    have h3 := h 3 (by omega) (by omega)
    have h4 := h 4 (by omega) (by omega)
    have h5 := h 5 (by omega) (by omega)
    unfold Rt
    match K, hK with
    | 0, _ | 1, _ | 2, _ | 3, _ | 4, _ | 5, _ | 6, _ | 7, _ | 8, _ | 9, _ | 10, _ | 11, _ =>
      simp [nth, mostAt, mostL] at h1 h2' h3 h4 h5 h2 ⊢
      omega
  · intro h
    unfold Rt at h
    refine ⟨fun j hj1 hj6 => ?_, fun hk => by subst hk; omega⟩
    match K, hK with
    | 0, _ | 1, _ | 2, _ | 3, _ | 4, _ | 5, _ | 6, _ | 7, _ | 8, _ | 9, _ | 10, _ | 11, _ =>
      match j, hj1, hj6 with
      | 1, _, _ | 2, _, _ | 3, _, _ | 4, _, _ | 5, _, _ =>
        simp [nth, mostAt, mostL] at h ⊢
        omega

/-! ### rights -/
/-! ### what is under what -/
/-! ### words -/
/-- The widths of the first word's parts. -/
def ws : List Int := [4, 5, 6, 6, 16]
theorem mask4 : maskF 4 = 15 := by decide
theorem mask5 : maskF 5 = 31 := by decide
theorem mask6 : maskF 6 = 63 := by decide
theorem mask16 : maskF 16 = 65535 := by decide
theorem put_can {k r t l e a : Int} (h : Rt k r t l e a) : (∀ j : Nat, 0 ≤ [k, r, t, l, e][j]?.getD 0 ∧ [k, r, t, l, e][j]?.getD 0 ≤ 18446744073709551615) ∧ ∀ j, j < ws.length → okP ws [k, r, t, l, e] j = true := by
  unfold Rt at h
  constructor
  · intro j
    match j with
    | 0 | 1 | 2 | 3 | 4 => simp; omega
    | j + 5 => simp
  · intro j hj
    match j, hj with
    | 0, _ | 1, _ | 2, _ | 3, _ | 4, _ =>
      simp [okP, inB, fitsB, mask4, mask5, mask6, mask16, sumTo, ws, wrap64]
      omega
end Go.Proofs.YtcgekcjnaadcmaaGreatDoor.Pcap

/- The two tables of package cap, as a walk asks them: their cells, in every world that leaves them. -/
namespace Go.Proofs.YtcgekcjnaadcmaaGreatDoor.Pcap
open Go.Proofs.YtcgekcjnaadcmaaGreatDoor.Pbase Go.Proofs.YtcgekcjnaadcmaaGreatDoor.Pfield
open Go.RowKit M
set_option linter.unusedVariables false

/-- The table of what is allowed. -/
structure TabM (w : World) : Prop where
  lt : 6 < w.heap.size
  cell : ∀ K j : Nat, K < 12 → j < 6 → w.cell? ⟨6, K * 6 + j, none⟩ = some (.int .i64 (mostAt K j))
theorem TabM.below {w w' : World} {B : Nat} (h : TabM w) (hB : Below B w w') (hle : w.heap.size ≤ B) : TabM w' :=
  ⟨Nat.lt_of_lt_of_le h.lt hB.size, fun K j hK hj => (hB.cell (p := ⟨6, K * 6 + j, none⟩) (Nat.lt_of_lt_of_le h.lt hle)).trans (h.cell K j hK hj)⟩
theorem TabM.on {w w' : World} (h : TabM w) (hB : Below w.heap.size w w') : TabM w' := h.below hB (Nat.le_refl _)
/-- The table of widths. -/
structure TabW (w : World) : Prop where
  lt : 5 < w.heap.size
  row : ∃ t fr, w.heap[(5 : Nat)]? = some (.cells #[.int .i64 4, .int .i64 5, .int .i64 6, .int .i64 6, .int .i64 16] t fr)
theorem TabW.on {w w' : World} (h : TabW w) (hB : Below w.heap.size w w') : TabW w' :=
  ⟨Nat.lt_of_lt_of_le h.lt hB.size, by obtain ⟨t, fr, hr⟩ := h.row; exact ⟨t, fr, (hB.block 5 h.lt).trans hr⟩⟩
/-! ### Lives, Holds, end, numbersOf, Weaken -/
theorem end_any (k r t l e a : Int) (w : World) :
    Calls Tryz.prog 206 #[.agg #[.int .i64 k, .int .i64 r, .int .i64 t, .int .i64 l, .int .i64 e, .int .i64 a]] w fun x w' => x = .returned (.int .i64 (wrap64 (t + a))) ∧ Below w.heap.size w w' := by
  go_enter Tryz.func206, Tryz.ntmps206
  go_wp2
  go_ret
  exact ⟨by first | rfl | simp, bal (Below.refl _ _) _⟩
theorem numbers_any (k r t l e a : Int) (w : World) :
    Calls Tryz.prog 205 #[.agg #[.int .i64 k, .int .i64 r, .int .i64 t, .int .i64 l, .int .i64 e, .int .i64 a]] w fun x w' => x = .returned (.agg #[.int .i64 k, .int .i64 r, .int .i64 t, .int .i64 l, .int .i64 e, .int .i64 a]) ∧ Below w.heap.size w w' := by
  go_enter Tryz.func205, Tryz.ntmps205
  go_wp2
  refine bodyPost_ret (v := .agg #[.int .i64 k, .int .i64 r, .int .i64 t, .int .i64 l, .int .i64 e, .int .i64 a]) (by simp [results, Tryz.results205, go_sem]) rfl ⟨rfl, bal (bal (Below.refl _ _) _) _⟩
end Go.Proofs.YtcgekcjnaadcmaaGreatDoor.Pcap

/- What Check and Under of package cap answer, for every argument that their types allow. -/
namespace Go.Proofs.YtcgekcjnaadcmaaGreatDoor.Pcap
open Go.Proofs.YtcgekcjnaadcmaaGreatDoor.Pbase Go.Proofs.YtcgekcjnaadcmaaGreatDoor.Pfield
open Go.RowKit M
set_option linter.unusedVariables false

/-- A capability, its numbers in a row, and the table lie in a world. -/
structure Two (w : World) (B C : Nat) (K : Nat) (r t l e a : Int) : Prop where
  tab : TabM w
  ltb : B < w.heap.size
  ltc : C < w.heap.size
  b : ∀ j, j < 6 → w.cell? ⟨B, j, none⟩ = some (.int .i64 (nth K r t l e a j))
  c : ∀ j, j < 6 → w.cell? ⟨C, j, none⟩ = some (.int .i64 (nth K r t l e a j))
theorem Two.on {w w' : World} {B C K : Nat} {r t l e a : Int} (h : Two w B C K r t l e a) (hB : Below w.heap.size w w') : Two w' B C K r t l e a :=
  ⟨h.tab.on hB, Nat.lt_of_lt_of_le h.ltb hB.size, Nat.lt_of_lt_of_le h.ltc hB.size, fun j hj => (hB.cell (p := ⟨B, j, none⟩) h.ltb).trans (h.b j hj), fun j hj => (hB.cell (p := ⟨C, j, none⟩) h.ltc).trans (h.c j hj)⟩
theorem row_six (K : Nat) (r t l e a : Int) (j : Nat) (hj : j < 6) : (#[Value.int .i64 (K : Int), .int .i64 r, .int .i64 t, .int .i64 l, .int .i64 e, .int .i64 a] : Array Value)[j]? = some (.int .i64 (nth K r t l e a j)) := by
  match j, hj with
  | 0, _ | 1, _ | 2, _ | 3, _ | 4, _ | 5, _ => rfl
theorem two_new {w w1 : World} {K : Nat} {r t l e a : Int} {ty ty' : TypeId} (hT : TabM w) (hb1 : Below (w.alloc (.cells #[.int .i64 (K : Int), .int .i64 r, .int .i64 t, .int .i64 l, .int .i64 e, .int .i64 a] ty)).heap.size (w.alloc (.cells #[.int .i64 (K : Int), .int .i64 r, .int .i64 t, .int .i64 l, .int .i64 e, .int .i64 a] ty)) w1) :
    Two (w1.alloc (.cells #[.int .i64 (K : Int), .int .i64 r, .int .i64 t, .int .i64 l, .int .i64 e, .int .i64 a] ty')) w.heap.size w1.heap.size K r t l e a ∧ Below w.heap.size w (w1.alloc (.cells #[.int .i64 (K : Int), .int .i64 r, .int .i64 t, .int .i64 l, .int .i64 e, .int .i64 a] ty')) := by
  have hs := hb1.size
  simp only [World.size_alloc] at hs
  have B1 : Below w.heap.size w w1 := (bal (Below.refl _ _) _).trans (hb1.mono (by simp))
  have B2 := B1.alloc B1.size (.cells #[.int .i64 (K : Int), .int .i64 r, .int .i64 t, .int .i64 l, .int .i64 e, .int .i64 a] ty')
  refine ⟨⟨hT.on B2, by simp; omega, by simp, fun j hj => ?_, fun j hj => ?_⟩, B2⟩
  · rw [cell_of_row _ _ j _ _ _ ((Below.heap_alloc w1 _ w.heap.size (by omega)).trans ((hb1.block w.heap.size (by simp)).trans (heap_alloc_new w _)))]
    exact row_six K r t l e a j hj
  · rw [cell_of_row _ _ j _ _ _ (heap_alloc_new w1 _)]
    exact row_six K r t l e a j hj
theorem ret_no {k r t l e a : Int} (h : ¬ Rt k r t l e a) : Ending.returned (Value.int .i64 1) = .returned (.int .i64 (chk k r t l e a)) := by rw [chk_no h]
theorem ret_yes {k r t l e a : Int} (h : Rt k r t l e a) : Ending.returned (Value.int .i64 0) = .returned (.int .i64 (chk k r t l e a)) := by rw [chk_yes h]
set_option maxRecDepth 100000 in
theorem check_any (k r t l e a : Int) (w : World) (hT : TabM w) :
    Calls Tryz.prog 202 #[.agg #[.int .i64 k, .int .i64 r, .int .i64 t, .int .i64 l, .int .i64 e, .int .i64 a]] w fun x w' => x = .returned (.int .i64 (chk k r t l e a)) ∧ Below w.heap.size w w' := by
  by_cases h0 : k < 0
  · rw [chk_no (by unfold Rt; omega)]
    go_enter Tryz.func202, Tryz.ntmps202
    go_wp2
    go_ret
    exact ⟨rfl, bal (Below.refl _ _) _⟩
  by_cases h12 : 12 ≤ k
  · rw [chk_no (by unfold Rt; omega)]
    go_enter Tryz.func202, Tryz.ntmps202
    go_wp2
    go_ret
    exact ⟨rfl, bal (Below.refl _ _) _⟩
  obtain ⟨K, rfl⟩ := Int.eq_ofNat_of_zero_le (show 0 ≤ k by omega)
  have hK : K < 12 := by omega
  have HT : Hid (TabM w) := hT
  clear hT h12 h0
  have n0 : ¬ (K : Int) < 0 := by omega
  have n1 : ¬ 12 ≤ (K : Int) := by omega
  have n2 : ¬ 12 ≤ K := by omega
  go_enter Tryz.func202, Tryz.ntmps202
  go_wp2_with (first
    | (go_at_call 205; refine (numbers_any _ _ _ _ _ _ _).mono ?_; rintro e1 w1 ⟨rfl, hb1⟩; have HB1 := fun ty' => two_new (ty' := ty') HT.out hb1; clear hb1)
    | fail)
  replace HB1 := HB1 349
  generalize w1.alloc _ = w2 at HB1 ⊢
  obtain ⟨h2, hb2⟩ := HB1
  have H2 : Hid (Two w2 w.heap.size w1.heap.size K r t l e a) := h2
  have HB2 : Hid (Below w.heap.size w w2) := hb2
  clear h2 hb2 HT
  generalize w1.heap.size = C at H2 ⊢
  obtain ⟨B, hB⟩ : ∃ B, B = w.heap.size := ⟨_, rfl⟩
  rw [← hB] at H2 ⊢
  have HBB : Hid (B = w.heap.size) := hB
  clear hB
  go_loopw [4] (fun n wr => ∃ N : Nat, 1 ≤ N ∧ N ≤ 6 ∧ n = .int .i64 N ∧ (∀ j, 1 ≤ j → j < N → 0 ≤ nth K r t l e a j ∧ nth K r t l e a j ≤ mostAt K j) ∧ Hid (Below w2.heap.size w2 wr)) (fun n _ => 6 - (intOf n).toNat)
  case atStart => exact ⟨1, by omega, by omega, rfl, fun j _ _ => by omega, Below.refl _ _⟩
  case round =>
    obtain ⟨N, hN1, hN6, rfl, hok, HR⟩ := hrel
    by_cases hlt : N < 6
    · have c1 := (H2.out.on HR.out).c N hlt
      have c2 := (H2.out.on HR.out).b 0 (by omega)
      have c3 := (H2.out.on HR.out).tab.cell K N hK hlt
      obtain ⟨x, hx⟩ : ∃ x, x = nth K r t l e a N := ⟨_, rfl⟩
      obtain ⟨m, hm⟩ : ∃ m, m = mostAt K N := ⟨_, rfl⟩
      rw [← hx] at c1
      rw [← hm] at c3
      rw [show nth K r t l e a 0 = K from rfl] at c2
      have HX : Hid (x = nth K r t l e a N) := hx
      have HM : Hid (m = mostAt K N) := hm
      have HO : Hid (∀ j, 1 ≤ j → j < N → 0 ≤ nth K r t l e a j ∧ nth K r t l e a j ≤ mostAt K j) := hok
      clear hx hm hok
      by_cases hx0 : x < 0
      · go_wp2
        go_quiet (fail)
        go_wp2
        go_ret
        refine ⟨?_, (HB2.out.trans (HR.out.mono HB2.out.size)).trans (below_drew' _ _ _)⟩
        refine ret_no fun h => ?_
        have := ((rt_of_table hK).2 h).1 N hN1 hlt
        rw [← HX.out] at this
        omega
      · by_cases hxm : m < x
        · go_wp2
          go_quiet (fail)
          go_wp2
          go_ret
          refine ⟨?_, (HB2.out.trans (HR.out.mono HB2.out.size)).trans (below_drew' _ _ _)⟩
          refine ret_no fun h => ?_
          have := ((rt_of_table hK).2 h).1 N hN1 hlt
          rw [← HX.out, ← HM.out] at this
          omega
        · go_wp2
          go_quiet (fail)
          go_wp2
          go_roundw
          case rel =>
            refine ⟨N + 1, by omega, by omega, by go_num, fun j h1 h2 => ?_, HR.out.trans (below_drew' _ _ _)⟩
            by_cases hj : j = N
            · rw [hj, ← HX.out, ← HM.out]; omega
            · exact HO.out j h1 (by omega)
          case measure => simp [intOf]; omega
    · obtain rfl : N = 6 := by omega
      have HO : Hid (∀ j, 1 ≤ j → j < 6 → 0 ≤ nth K r t l e a j ∧ nth K r t l e a j ≤ mostAt K j) := hok
      have c2 := (H2.out.on HR.out).b 0 (by omega)
      have c3 := (H2.out.on HR.out).b 1 (by omega)
      have c4 := (H2.out.on HR.out).b 2 (by omega)
      have c5 := (H2.out.on HR.out).b 3 (by omega)
      have c6 := (H2.out.on HR.out).b 4 (by omega)
      have c7 := (H2.out.on HR.out).b 5 (by omega)
      simp only [nth, List.getElem?_cons_zero, List.getElem?_cons_succ, Option.getD_some] at c2 c3 c4 c5 c6 c7
      have HW : Hid (Below w.heap.size w wr) := HB2.out.trans (HR.out.mono HB2.out.size)
      clear hok hlt HR HB2 H2
      by_cases hk2 : K = 2
      · subst hk2
        by_cases ha : a = 0
        · subst ha
          have HE : Hid (Ending.returned (Value.int .i64 1) = .returned (.int .i64 (chk (2 : Nat) r t l e 0))) := ret_no (by unfold Rt; simp)
          go_wp2
          go_ret
          exact ⟨HE.out, HW.out⟩
        · have b0 : (a == 0) = false := by simp [ha]
          have h2 := HO.out 2 (by omega) (by omega)
          have h5 := HO.out 5 (by omega) (by omega)
          simp only [nth, mostAt, mostL, List.getElem?_cons_zero, List.getElem?_cons_succ, Option.getD_some] at h2 h5
          have hs : wrap64 (t + a) = t + a := by unfold wrap64; omega
          by_cases hta : 64 < t + a
          · have HE : Hid (Ending.returned (Value.int .i64 1) = .returned (.int .i64 (chk (2 : Nat) r t l e a))) := ret_no (by unfold Rt; omega)
            clear h2 h5
            go_wp2_with (first
              | (go_at_call 206; refine (end_any _ _ _ _ _ _ _).mono ?_; rintro e1 w3 ⟨rfl, hb3⟩; rw [hs]; have HW3 : Hid (Below w.heap.size w w3) := HW.out.trans (hb3.mono HW.out.size); clear hb3)
              | fail)
            go_ret
            exact ⟨HE.out, HW3.out⟩
          · have HE : Hid (Ending.returned (Value.int .i64 0) = .returned (.int .i64 (chk (2 : Nat) r t l e a))) := ret_yes ((rt_of_table hK).1 ⟨HO.out, fun _ => ⟨ha, by omega⟩⟩)
            clear h2 h5
            go_wp2_with (first
              | (go_at_call 206; refine (end_any _ _ _ _ _ _ _).mono ?_; rintro e1 w3 ⟨rfl, hb3⟩; rw [hs]; have HW3 : Hid (Below w.heap.size w w3) := HW.out.trans (hb3.mono HW.out.size); clear hb3)
              | fail)
            go_ret
            exact ⟨HE.out, HW3.out⟩
      · have HE : Hid (Ending.returned (Value.int .i64 0) = .returned (.int .i64 (chk K r t l e a))) := ret_yes ((rt_of_table hK).1 ⟨HO.out, fun h => absurd h hk2⟩)
        have b2 : (((K : Nat) : Int) == 2) = false := by simp; omega
        go_wp2
        go_ret
        exact ⟨HE.out, HW.out⟩
end Go.Proofs.YtcgekcjnaadcmaaGreatDoor.Pcap

/- What Under of package cap answers, for every argument that its types allow. -/
namespace Go.Proofs.YtcgekcjnaadcmaaGreatDoor.Pcap
open Go.Proofs.YtcgekcjnaadcmaaGreatDoor.Pbase Go.Proofs.YtcgekcjnaadcmaaGreatDoor.Pfield
open Go.RowKit M
set_option linter.unusedVariables false

/-- A capability in a block. -/
structure Box6 (w : World) (B : Nat) (k r t l e a : Int) : Prop where
  lt : B < w.heap.size
  c0 : w.cell? ⟨B, 0, none⟩ = some (.int .i64 k)
  c1 : w.cell? ⟨B, 1, none⟩ = some (.int .i64 r)
  c2 : w.cell? ⟨B, 2, none⟩ = some (.int .i64 t)
  c3 : w.cell? ⟨B, 3, none⟩ = some (.int .i64 l)
  c4 : w.cell? ⟨B, 4, none⟩ = some (.int .i64 e)
  c5 : w.cell? ⟨B, 5, none⟩ = some (.int .i64 a)
  fz : ∀ j, w.frozen? ⟨B, j, none⟩ = false
theorem Box6.on {w w' : World} {B : Nat} {k r t l e a : Int} (h : Box6 w B k r t l e a) (hB : Below w.heap.size w w') : Box6 w' B k r t l e a :=
  ⟨Nat.lt_of_lt_of_le h.lt hB.size, (hB.cell (p := ⟨B, 0, none⟩) h.lt).trans h.c0, (hB.cell (p := ⟨B, 1, none⟩) h.lt).trans h.c1, (hB.cell (p := ⟨B, 2, none⟩) h.lt).trans h.c2, (hB.cell (p := ⟨B, 3, none⟩) h.lt).trans h.c3, (hB.cell (p := ⟨B, 4, none⟩) h.lt).trans h.c4, (hB.cell (p := ⟨B, 5, none⟩) h.lt).trans h.c5, fun j => (hB.frozen (p := ⟨B, j, none⟩) h.lt).trans (h.fz j)⟩
theorem box6_new (w : World) (k r t l e a : Int) (ty : TypeId) : Box6 (w.alloc (.cells #[.int .i64 k, .int .i64 r, .int .i64 t, .int .i64 l, .int .i64 e, .int .i64 a] ty)) w.heap.size k r t l e a := by
  have h := heap_alloc_new w (.cells #[.int .i64 k, .int .i64 r, .int .i64 t, .int .i64 l, .int .i64 e, .int .i64 a] ty)
  refine ⟨by simp, ?_, ?_, ?_, ?_, ?_, ?_, fun j => frozen_of_row _ _ _ _ _ h⟩ <;> (rw [cell_of_row _ _ _ _ _ _ h]; rfl)
end Go.Proofs.YtcgekcjnaadcmaaGreatDoor.Pcap

/- What Put of package cap answers, for every argument that its types allow. -/
namespace Go.Proofs.YtcgekcjnaadcmaaGreatDoor.Pcap
open Go.Proofs.YtcgekcjnaadcmaaGreatDoor.Pbase Go.Proofs.YtcgekcjnaadcmaaGreatDoor.Pfield
open Go.RowKit M
set_option linter.unusedVariables false

end Go.Proofs.YtcgekcjnaadcmaaGreatDoor.Pcap

/- What Get of package cap answers, for every two words. -/
namespace Go.Proofs.YtcgekcjnaadcmaaGreatDoor.Pcap
open Go.Proofs.YtcgekcjnaadcmaaGreatDoor.Pbase Go.Proofs.YtcgekcjnaadcmaaGreatDoor.Pfield
open Go.RowKit M
set_option linter.unusedVariables false

/-- The j-th part of a word. -/
def gN (x : Int) (j : Nat) : Int := (getsI x ws)[j]?.getD 0
/-- The two words are some right one's. -/
def Got (x y : Int) : Prop := canU x ws ∧ y ≤ 1073741824 ∧ Rt (gN x 0) (gN x 1) (gN x 2) (gN x 3) (gN x 4) y
def gotB (x y : Int) : Bool := (List.range ws.length).all (okU ws) && fitsB x (sumTo ws ws.length) && decide (y ≤ 1073741824) && rtB (gN x 0) (gN x 1) (gN x 2) (gN x 3) (gN x 4) y
theorem gotB_iff (x y : Int) : gotB x y = true ↔ Got x y := by
  unfold gotB Got canU
  simp only [Bool.and_eq_true, decide_eq_true_eq, rtB_iff, List.all_eq_true, List.mem_range, and_assoc]
theorem gotB_yes {x y : Int} (h : Got x y) : gotB x y = true := (gotB_iff x y).2 h
theorem gotB_no {x y : Int} (h : ¬ Got x y) : gotB x y = false := Bool.eq_false_iff.2 fun e1 => h ((gotB_iff x y).1 e1)
/-- Its numbers, or 0. -/
def getC (x y : Int) (j : Nat) : Int := if gotB x y = true then nth (gN x 0) (gN x 1) (gN x 2) (gN x 3) (gN x 4) y j else 0
def getE (x y : Int) : Int := if gotB x y = true then 0 else 12
theorem getC_no {x y : Int} (h : ¬ Got x y) (j : Nat) : getC x y j = 0 := by simp [getC, gotB_no h]
theorem getE_no {x y : Int} (h : ¬ Got x y) : getE x y = 12 := by simp [getE, gotB_no h]
theorem getE_yes {x y : Int} (h : Got x y) : getE x y = 0 := by simp [getE, gotB_yes h]
theorem getC_yes {x y : Int} (h : Got x y) : getC x y 0 = gN x 0 ∧ getC x y 1 = gN x 1 ∧ getC x y 2 = gN x 2 ∧ getC x y 3 = gN x 3 ∧ getC x y 4 = gN x 4 ∧ getC x y 5 = y := by simp [getC, gotB_yes h, nth]
theorem ws_length : ws.length = 5 := rfl
theorem gN_bd {x : Int} (hx : 0 ≤ x ∧ x ≤ 18446744073709551615) (h : canU x ws) : (0 ≤ gN x 0 ∧ gN x 0 ≤ 15) ∧ (0 ≤ gN x 1 ∧ gN x 1 ≤ 31) ∧ (0 ≤ gN x 2 ∧ gN x 2 ≤ 63) ∧ (0 ≤ gN x 3 ∧ gN x 3 ≤ 63) ∧ (0 ≤ gN x 4 ∧ gN x 4 ≤ 65535) := by
  obtain ⟨h1, h2, _⟩ := unpack_pack hx h
  have m0 := (ok_parts (h2 0 (by decide))).2
  have m1 := (ok_parts (h2 1 (by decide))).2
  have m2 := (ok_parts (h2 2 (by decide))).2
  have m3 := (ok_parts (h2 3 (by decide))).2
  have m4 := (ok_parts (h2 4 (by decide))).2
  rw [show ws[0]?.getD 0 = 4 from rfl, fitsB, mask4, decide_eq_true_eq] at m0
  rw [show ws[1]?.getD 0 = 5 from rfl, fitsB, mask5, decide_eq_true_eq] at m1
  rw [show ws[2]?.getD 0 = 6 from rfl, fitsB, mask6, decide_eq_true_eq] at m2
  rw [show ws[3]?.getD 0 = 6 from rfl, fitsB, mask6, decide_eq_true_eq] at m3
  rw [show ws[4]?.getD 0 = 16 from rfl, fitsB, mask16, decide_eq_true_eq] at m4
  exact ⟨⟨(h1 0).1, m0⟩, ⟨(h1 1).1, m1⟩, ⟨(h1 2).1, m2⟩, ⟨(h1 3).1, m3⟩, ⟨(h1 4).1, m4⟩⟩
theorem ints_wide (w : World) (ty : TypeId) :
    Ints .i64 (w.alloc (.cells #[.int .i64 4, .int .i64 5, .int .i64 6, .int .i64 6, .int .i64 16] ty)).heap.size (w.alloc (.cells #[.int .i64 4, .int .i64 5, .int .i64 6, .int .i64 6, .int .i64 16] ty)) (.slice (some ⟨w.heap.size, 0, none⟩) ws.length 5) ws := by
  refine .inr ⟨w.heap.size, 0, 5, rfl, by simp, fun j hj => ?_⟩
  rw [Nat.zero_add, cell_of_row _ _ j _ _ _ (heap_alloc_new w _)]
  match j, hj with
  | 0, _ | 1, _ | 2, _ | 3, _ | 4, _ => rfl
/-- The parts of a word, in a block. -/
structure Five (w : World) (b o : Nat) (x : Int) : Prop where
  lt : b < w.heap.size
  c0 : w.cell? ⟨b, o, none⟩ = some (.int .u64 (gN x 0))
  c1 : w.cell? ⟨b, o + 1, none⟩ = some (.int .u64 (gN x 1))
  c2 : w.cell? ⟨b, o + 2, none⟩ = some (.int .u64 (gN x 2))
  c3 : w.cell? ⟨b, o + 3, none⟩ = some (.int .u64 (gN x 3))
  c4 : w.cell? ⟨b, o + 4, none⟩ = some (.int .u64 (gN x 4))
theorem five_of {w : World} {a : Option Addr} {c : Nat} {x : Int} (h : Ints .u64 w.heap.size w (.slice a ws.length c) (getsI x ws)) : ∃ b o, a = some ⟨b, o, none⟩ ∧ Five w b o x := by
  have hl := getsI_length x ws
  rcases h with ⟨_, _, e1, e2⟩ | ⟨b, o, cap, e1, hb, hc⟩
  · rw [e2, ws_length] at hl; cases hl
  · cases e1
    rw [hl, ws_length] at hc
    exact ⟨b, o, rfl, hb, hc 0 (by omega), hc 1 (by omega), hc 2 (by omega), hc 3 (by omega), hc 4 (by omega)⟩
theorem unpack_five (a0 : Option Addr) (x : Int) (w : World) (hx : 0 ≤ x ∧ x ≤ 18446744073709551615) (hI : Ints .i64 w.heap.size w (.slice a0 5 5) ws) (hA : canU x ws) :
    Calls Tryz.prog 160 #[.slice a0 5 5, .int .u64 x] w fun e' W' => ∃ b o c, e' = .returned (.tuple #[.slice (some ⟨b, o, none⟩) 5 c, .int .i64 0]) ∧ Five W' b o x ∧ Below w.heap.size w W' :=
  (unpack_ok a0 5 ws x w (by decide) hx hI hA).mono fun e' W' ⟨a, c, he, hi, hB⟩ => by
    obtain ⟨b, o, rfl, h5⟩ := five_of hi
    exact ⟨b, o, c, he, h5, hB⟩
set_option maxRecDepth 100000 in
set_option maxHeartbeats 2000000 in
theorem get_any (x y : Int) (w : World) (hx : 0 ≤ x ∧ x ≤ 18446744073709551615) (hy : 0 ≤ y ∧ y ≤ 18446744073709551615) (hT : TabM w) (hW : TabW w) :
    Calls Tryz.prog 200 #[.int .u64 x, .int .u64 y] w fun v w' => v = .returned (.tuple #[.agg #[.int .i64 (getC x y 0), .int .i64 (getC x y 1), .int .i64 (getC x y 2), .int .i64 (getC x y 3), .int .i64 (getC x y 4), .int .i64 (getC x y 5)], .int .i64 (getE x y)]) ∧ Below w.heap.size w w' := by
  have HT : Hid (TabM w) := hT
  obtain ⟨t1, fr, hg⟩ := hW.row
  have g0 : w.cell? ⟨5, 0, none⟩ = some (.int .i64 4) := (cell_of_row _ _ 0 _ _ _ hg).trans rfl
  have g1 : w.cell? ⟨5, 1, none⟩ = some (.int .i64 5) := (cell_of_row _ _ 1 _ _ _ hg).trans rfl
  have g2 : w.cell? ⟨5, 2, none⟩ = some (.int .i64 6) := (cell_of_row _ _ 2 _ _ _ hg).trans rfl
  have g3 : w.cell? ⟨5, 3, none⟩ = some (.int .i64 6) := (cell_of_row _ _ 3 _ _ _ hg).trans rfl
  have g4 : w.cell? ⟨5, 4, none⟩ = some (.int .i64 16) := (cell_of_row _ _ 4 _ _ _ hg).trans rfl
  have gl := hW.lt
  clear hg hW hT
  have HO : Hid (∀ ty o w1, Below ((w.alloc (.cells #[.int .i64 0, .int .i64 0, .int .i64 0, .int .i64 0, .int .i64 0, .int .i64 0] ty)).alloc o).heap.size ((w.alloc (.cells #[.int .i64 0, .int .i64 0, .int .i64 0, .int .i64 0, .int .i64 0, .int .i64 0] ty)).alloc o) w1 → Box6 w1 w.heap.size 0 0 0 0 0 0) := fun ty o w1 h => ((box6_new w 0 0 0 0 0 0 ty).on (bal (Below.refl _ _) o)).on h
  have HX : Hid (0 ≤ x ∧ x ≤ 18446744073709551615) := hx
  clear hx
  have HW : Hid (∀ o ty, Ints .i64 ((w.alloc o).alloc (.cells #[.int .i64 4, .int .i64 5, .int .i64 6, .int .i64 6, .int .i64 16] ty)).heap.size ((w.alloc o).alloc (.cells #[.int .i64 4, .int .i64 5, .int .i64 6, .int .i64 6, .int .i64 16] ty)) (.slice (some ⟨w.heap.size + 1, 0, none⟩) 5 5) ws ∧ Below w.heap.size w ((w.alloc o).alloc (.cells #[.int .i64 4, .int .i64 5, .int .i64 6, .int .i64 6, .int .i64 16] ty))) := fun o ty => ⟨by have := ints_wide (w.alloc o) ty; rwa [show (w.alloc o).heap.size = w.heap.size + 1 by simp] at this, bal (bal (Below.refl _ _) _) _⟩
  by_cases hc : canU x ws
  case neg =>
    have hno : ¬ Got x y := fun h => hc h.1
    simp only [getC_no hno, getE_no hno]
    have HN : Hid (¬ canU x ws) := hc
    clear hc hno
    go_enter Tryz.func200, Tryz.ntmps200
    go_wp2_with (first
      | (go_at_call 160; refine (unpack_bad (some ⟨w.heap.size + 1, 0, none⟩) 5 ws x _ (by decide) HX.out (HW.out _ _).1 HN.out).mono ?_; rintro e1 w1 ⟨rfl, hb1⟩; have H1 : Hid (Below w.heap.size w w1) := (HW.out _ _).2.trans (hb1.mono (HW.out _ _).2.size); have X1 := HO.out _ _ _ hb1; clear hb1 HO; have x0 := X1.c0; have x1 := X1.c1; have x2 := X1.c2; have x3 := X1.c3; have x4 := X1.c4; have x5 := X1.c5; have z0 := X1.fz 0; have z1 := X1.fz 1; have z2 := X1.fz 2; have z3 := X1.fz 3; have z4 := X1.fz 4; have z5 := X1.fz 5; have xl := X1.lt; clear X1)
      | fail)
    refine bodyPost_ret (v := .tuple #[.agg #[.int .i64 0, .int .i64 0, .int .i64 0, .int .i64 0, .int .i64 0, .int .i64 0], .int .i64 12]) (by simp [results, Tryz.results200, go_sem, x0, x1, x2, x3, x4, x5]) rfl ⟨rfl, ?_⟩
    exact bst (bst (bst (bst (bst (bst H1.out (Nat.le_refl _) _ _) (Nat.le_refl _) _ _) (Nat.le_refl _) _ _) (Nat.le_refl _) _ _) (Nat.le_refl _) _ _) (Nat.le_refl _) _ _
  case pos =>
  have HN : Hid (canU x ws) := hc
  clear hc
  obtain ⟨⟨p0, q0⟩, ⟨p1, q1⟩, ⟨p2, q2⟩, ⟨p3, q3⟩, ⟨p4, q4⟩⟩ := gN_bd HX.out HN.out
  obtain ⟨v, hv⟩ : ∃ v, v = IntKind.i64.wrap y := ⟨_, rfl⟩
  have dv : IntKind.i64.wrap y = v := hv.symm
  have d0 : IntKind.i64.wrap (gN x 0) = gN x 0 := wrapi_small p0 (by omega)
  have d1 : IntKind.i64.wrap (gN x 1) = gN x 1 := wrapi_small p1 (by omega)
  have d2 : IntKind.i64.wrap (gN x 2) = gN x 2 := wrapi_small p2 (by omega)
  have d3 : IntKind.i64.wrap (gN x 3) = gN x 3 := wrapi_small p3 (by omega)
  have d4 : IntKind.i64.wrap (gN x 4) = gN x 4 := wrapi_small p4 (by omega)
  by_cases hr : Rt (gN x 0) (gN x 1) (gN x 2) (gN x 3) (gN x 4) v
  case pos =>
    have hvy : v = y := wrapi_back hy hv (by unfold Rt at hr; omega)
    have hG : Got x y := ⟨HN.out, by unfold Rt at hr; omega, by rw [← hvy]; exact hr⟩
    obtain ⟨e0, e1, e2, e3, e4, e5⟩ := getC_yes hG
    rw [e0, e1, e2, e3, e4, e5.trans hvy.symm, getE_yes hG]
    clear e0 e1 e2 e3 e4 e5 hG
    have hc : chk (gN x 0) (gN x 1) (gN x 2) (gN x 3) (gN x 4) v = 0 := chk_yes hr
    clear hr hvy hv p0 p1 p2 p3 p4 q0 q1 q2 q3 q4 hy
    go_enter Tryz.func200, Tryz.ntmps200
    go_wp2_with (first
      | (go_at_call 160; refine (unpack_five (some ⟨w.heap.size + 1, 0, none⟩) x _ HX.out (HW.out _ _).1 HN.out).mono ?_; rintro e1 w1 ⟨b, o, c, rfl, h5, hb1⟩; have H1 : Hid (Below w.heap.size w w1) := (HW.out _ _).2.trans (hb1.mono (HW.out _ _).2.size); have H5 : Hid (Five w1 b o x) := h5; have HX1 : Hid (Box6 w1 w.heap.size 0 0 0 0 0 0) := HO.out _ _ _ hb1; clear hb1 HO h5; have f0 := H5.out.c0; have f1 := H5.out.c1; have f2 := H5.out.c2; have f3 := H5.out.c3; have f4 := H5.out.c4; have fl := H5.out.lt)
      | fail)
    go_region_held3 (fun w' => w'.cell? ⟨b, o, none⟩ = some (.int .u64 (gN x 0)) ∧ w'.cell? ⟨b, o + 1, none⟩ = some (.int .u64 (gN x 1)) ∧ w'.cell? ⟨b, o + 2, none⟩ = some (.int .u64 (gN x 2)) ∧ w'.cell? ⟨b, o + 3, none⟩ = some (.int .u64 (gN x 3)) ∧ w'.cell? ⟨b, o + 4, none⟩ = some (.int .u64 (gN x 4))) (first | exact ⟨by assumption, by assumption, by assumption, by assumption, by assumption⟩ | go_keep)
    (fail)
    try simp only [d0, d1, d2, d3, d4, dv]
    have hbx := (box6_new w1 (gN x 0) (gN x 1) (gN x 2) (gN x 3) (gN x 4) v 30).on (Below.refl _ _).drew
    have hbr := HX1.out.on (bal (Below.refl _ _) (.cells #[.int .i64 (gN x 0), .int .i64 (gN x 1), .int .i64 (gN x 2), .int .i64 (gN x 3), .int .i64 (gN x 4), .int .i64 v] 30)).drew
    have hbb := (bal H1.out (.cells #[.int .i64 (gN x 0), .int .i64 (gN x 1), .int .i64 (gN x 2), .int .i64 (gN x 3), .int .i64 (gN x 4), .int .i64 v] 30)).drew
    have hne := HX1.out.lt
    clear f0 f1 f2 f3 f4 fl H5
    generalize (w1.alloc _).drew = w2 at hbx hbr hbb ⊢
    have HP2 : Hid (Box6 w2 w1.heap.size (gN x 0) (gN x 1) (gN x 2) (gN x 3) (gN x 4) v) := hbx
    have HR2 : Hid (Box6 w2 w.heap.size 0 0 0 0 0 0) := hbr
    have HB2 : Hid (Below w.heap.size w w2) := hbb
    have HQ2 : Hid (w.heap.size < w1.heap.size) := hne
    have y0 := hbx.c0
    have y1 := hbx.c1
    have y2 := hbx.c2
    have y3 := hbx.c3
    have y4 := hbx.c4
    have y5 := hbx.c5
    clear hbx hbr hbb hne HX1
    generalize w1.heap.size = D at HP2 HQ2 y0 y1 y2 y3 y4 y5 ⊢
    go_wp2_with (first
      | (go_at_call 202; refine (check_any _ _ _ _ _ _ _ (HT.out.on HB2.out)).mono ?_; rintro e2 w3 ⟨rfl, hb3⟩; rw [hc]; have H3 : Hid (Below w.heap.size w w3) := HB2.out.trans (hb3.mono HB2.out.size); clear y0 y1 y2 y3 y4 y5; have Y1 := HP2.out.on hb3; have y0 := Y1.c0; have y1 := Y1.c1; have y2 := Y1.c2; have y3 := Y1.c3; have y4 := Y1.c4; have y5 := Y1.c5; clear Y1; have X1 := HR2.out.on hb3; have x0 := X1.c0; have x1 := X1.c1; have x2 := X1.c2; have x3 := X1.c3; have x4 := X1.c4; have x5 := X1.c5; have z0 := X1.fz 0; have z1 := X1.fz 1; have z2 := X1.fz 2; have z3 := X1.fz 3; have z4 := X1.fz 4; have z5 := X1.fz 5; have xl := X1.lt; clear X1 hb3; have ne1 : ¬ D = w.heap.size := Nat.ne_of_gt HQ2.out; have ne2 : ¬ w.heap.size = D := Nat.ne_of_lt HQ2.out)
      | fail)
    refine bodyPost_ret (v := .tuple #[.agg #[.int .i64 (gN x 0), .int .i64 (gN x 1), .int .i64 (gN x 2), .int .i64 (gN x 3), .int .i64 (gN x 4), .int .i64 v], .int .i64 0]) (by simp [results, Tryz.results200, go_sem, x0, x1, x2, x3, x4, x5]) rfl ⟨rfl, ?_⟩
    exact bst (bst (bst (bst (bst (bst H3.out (Nat.le_refl _) _ _) (Nat.le_refl _) _ _) (Nat.le_refl _) _ _) (Nat.le_refl _) _ _) (Nat.le_refl _) _ _) (Nat.le_refl _) _ _
  case neg =>
    have hG : ¬ Got x y := fun h => hr (by
      have hvy : v = y := by rw [hv]; exact wrapi_small hy.1 (by have := h.2.1; omega)
      rw [hvy]; exact h.2.2)
    simp only [getC_no hG, getE_no hG]
    have hc : chk (gN x 0) (gN x 1) (gN x 2) (gN x 3) (gN x 4) v = 1 := chk_no hr
    clear hr hv p0 p1 p2 p3 p4 q0 q1 q2 q3 q4 hy hG
    go_enter Tryz.func200, Tryz.ntmps200
    go_wp2_with (first
      | (go_at_call 160; refine (unpack_five (some ⟨w.heap.size + 1, 0, none⟩) x _ HX.out (HW.out _ _).1 HN.out).mono ?_; rintro e1 w1 ⟨b, o, c, rfl, h5, hb1⟩; have H1 : Hid (Below w.heap.size w w1) := (HW.out _ _).2.trans (hb1.mono (HW.out _ _).2.size); have H5 : Hid (Five w1 b o x) := h5; have HX1 : Hid (Box6 w1 w.heap.size 0 0 0 0 0 0) := HO.out _ _ _ hb1; clear hb1 HO h5; have f0 := H5.out.c0; have f1 := H5.out.c1; have f2 := H5.out.c2; have f3 := H5.out.c3; have f4 := H5.out.c4; have fl := H5.out.lt)
      | fail)
    go_region_held3 (fun w' => w'.cell? ⟨b, o, none⟩ = some (.int .u64 (gN x 0)) ∧ w'.cell? ⟨b, o + 1, none⟩ = some (.int .u64 (gN x 1)) ∧ w'.cell? ⟨b, o + 2, none⟩ = some (.int .u64 (gN x 2)) ∧ w'.cell? ⟨b, o + 3, none⟩ = some (.int .u64 (gN x 3)) ∧ w'.cell? ⟨b, o + 4, none⟩ = some (.int .u64 (gN x 4))) (first | exact ⟨by assumption, by assumption, by assumption, by assumption, by assumption⟩ | go_keep)
    (fail)
    try simp only [d0, d1, d2, d3, d4, dv]
    have hbx := (box6_new w1 (gN x 0) (gN x 1) (gN x 2) (gN x 3) (gN x 4) v 30).on (Below.refl _ _).drew
    have hbr := HX1.out.on (bal (Below.refl _ _) (.cells #[.int .i64 (gN x 0), .int .i64 (gN x 1), .int .i64 (gN x 2), .int .i64 (gN x 3), .int .i64 (gN x 4), .int .i64 v] 30)).drew
    have hbb := (bal H1.out (.cells #[.int .i64 (gN x 0), .int .i64 (gN x 1), .int .i64 (gN x 2), .int .i64 (gN x 3), .int .i64 (gN x 4), .int .i64 v] 30)).drew
    have hne := HX1.out.lt
    clear f0 f1 f2 f3 f4 fl H5
    generalize (w1.alloc _).drew = w2 at hbx hbr hbb ⊢
    have HP2 : Hid (Box6 w2 w1.heap.size (gN x 0) (gN x 1) (gN x 2) (gN x 3) (gN x 4) v) := hbx
    have HR2 : Hid (Box6 w2 w.heap.size 0 0 0 0 0 0) := hbr
    have HB2 : Hid (Below w.heap.size w w2) := hbb
    have HQ2 : Hid (w.heap.size < w1.heap.size) := hne
    have y0 := hbx.c0
    have y1 := hbx.c1
    have y2 := hbx.c2
    have y3 := hbx.c3
    have y4 := hbx.c4
    have y5 := hbx.c5
    clear hbx hbr hbb hne HX1
    generalize w1.heap.size = D at HP2 HQ2 y0 y1 y2 y3 y4 y5 ⊢
    go_wp2_with (first
      | (go_at_call 202; refine (check_any _ _ _ _ _ _ _ (HT.out.on HB2.out)).mono ?_; rintro e2 w3 ⟨rfl, hb3⟩; rw [hc]; have H3 : Hid (Below w.heap.size w w3) := HB2.out.trans (hb3.mono HB2.out.size); clear y0 y1 y2 y3 y4 y5; have Y1 := HP2.out.on hb3; have y0 := Y1.c0; have y1 := Y1.c1; have y2 := Y1.c2; have y3 := Y1.c3; have y4 := Y1.c4; have y5 := Y1.c5; clear Y1; have X1 := HR2.out.on hb3; have x0 := X1.c0; have x1 := X1.c1; have x2 := X1.c2; have x3 := X1.c3; have x4 := X1.c4; have x5 := X1.c5; have z0 := X1.fz 0; have z1 := X1.fz 1; have z2 := X1.fz 2; have z3 := X1.fz 3; have z4 := X1.fz 4; have z5 := X1.fz 5; have xl := X1.lt; clear X1 hb3; have ne1 : ¬ D = w.heap.size := Nat.ne_of_gt HQ2.out; have ne2 : ¬ w.heap.size = D := Nat.ne_of_lt HQ2.out)
      | fail)
    refine bodyPost_ret (v := .tuple #[.agg #[.int .i64 0, .int .i64 0, .int .i64 0, .int .i64 0, .int .i64 0, .int .i64 0], .int .i64 12]) (by simp [results, Tryz.results200, go_sem, x0, x1, x2, x3, x4, x5]) rfl ⟨rfl, ?_⟩
    exact bst (bst (bst (bst (bst (bst H3.out (Nat.le_refl _) _ _) (Nat.le_refl _) _ _) (Nat.le_refl _) _ _) (Nat.le_refl _) _ _) (Nat.le_refl _) _ _) (Nat.le_refl _) _ _
end Go.Proofs.YtcgekcjnaadcmaaGreatDoor.Pcap

/- There and back, in plain words; what 'awake' answers; the tables and blocks of a statement's own. -/
namespace Go.Proofs.YtcgekcjnaadcmaaGreatDoor.Pcap
open Go.Proofs.YtcgekcjnaadcmaaGreatDoor.Pbase Go.Proofs.YtcgekcjnaadcmaaGreatDoor.Pfield
open Go.RowKit M
set_option linter.unusedVariables false

end Go.Proofs.YtcgekcjnaadcmaaGreatDoor.Pcap

/- What the document's answers of layer 9 are, for every argument that their types allow: the same words as the program's. -/
namespace Go.Proofs.YtcgekcjnaadcmaaGreatDoor.Pcap
open Go.Proofs.YtcgekcjnaadcmaaGreatDoor.Pbase Go.Proofs.YtcgekcjnaadcmaaGreatDoor.Pfield
open Go.RowKit M
set_option linter.unusedVariables false

/-! ### when one is right -/
end Go.Proofs.YtcgekcjnaadcmaaGreatDoor.Pcap

/- What the document's Check, Put, Get and Under answer. -/
namespace Go.Proofs.YtcgekcjnaadcmaaGreatDoor.Pcap
open Go.Proofs.YtcgekcjnaadcmaaGreatDoor.Pbase Go.Proofs.YtcgekcjnaadcmaaGreatDoor.Pfield
open Go.RowKit M
set_option linter.unusedVariables false

end Go.Proofs.YtcgekcjnaadcmaaGreatDoor.Pcap

/- What the document's Get and Under answer. -/
namespace Go.Proofs.YtcgekcjnaadcmaaGreatDoor.Pcap
open Go.Proofs.YtcgekcjnaadcmaaGreatDoor.Pbase Go.Proofs.YtcgekcjnaadcmaaGreatDoor.Pfield
open Go.RowKit M
set_option linter.unusedVariables false

end Go.Proofs.YtcgekcjnaadcmaaGreatDoor.Pcap

/- Capabilities that came in, and the tables that the program lays: as a walk asks them. -/
namespace Go.Proofs.YtcgekcjnaadcmaaGreatDoor.Pcap
open Go.Proofs.YtcgekcjnaadcmaaGreatDoor.Pbase Go.Proofs.YtcgekcjnaadcmaaGreatDoor.Pfield
open Go.RowKit Go.ChangeShapes Go.WideShapes Go.Deep
set_option linter.unusedVariables false

section
variable {H : Type} {enc : TypeId × Value → H} {w : World} {base : Nat} {spare : Nat → Bool} {held : Bool}
end

/-! ### the tables -/
theorem gTwid : (Tryz.prog.globals[(5 : Nat)]?).map (·.type) = some 282 := by kernel_rfl
theorem gTmost : (Tryz.prog.globals[(6 : Nat)]?).map (·.type) = some 351 := by kernel_rfl
theorem cellsSix : Tryz.prog.cellsOf 349 = 6 := by kernel_rfl
theorem cellsWide : Tryz.prog.cellsOf 282 = 5 := by kernel_rfl
theorem most_datum : (Rows.laid_palanquin_cap_most : DataW Unit) = .agg (mostL.map fun row => .agg (row.map fun z => .lit (.int .i64 z))) := rfl
theorem wid_datum : (Rows.laid_palanquin_cap_widths : DataW Unit) = .agg (ws.map fun z => .lit (.int .i64 z)) := rfl
theorem tabM_of {W : World} {g : Nat} {t : TypeId} {cs : Array Value} {fuel : Nat} {p : List MemPlace} {n : String} (hn : Tryz.prog.globalNamed n = some 6) (hg : Tryz.prog.globalNamed n = some g) (ht : (Tryz.prog.globals[g]?).map (·.type) = some t) (hv : W.var? Tryz.prog n = some cs)
    (hd : DataW.trod (fun _ => ()) Tryz.prog W 0 (fun _ => true) false fuel t cs.toList = some (Rows.laid_palanquin_cap_most, p)) : TabM W := by
  obtain rfl := Option.some.inj (hn.symm.trans hg)
  obtain rfl := Option.some.inj (gTmost.symm.trans ht)
  obtain ⟨t1, fr, hb⟩ := var_block hg hv
  refine ⟨block_lt hb, fun K j hK hj => ?_⟩
  rw [cell_of_row _ _ _ _ _ _ hb]
  rw [most_datum] at hd
  obtain ⟨xs, m, _, hx, hl, hxl, hel⟩ := DataW.trod_array Tryz.underlying351 hd
  simp only [Prod.mk.injEq, DataW.agg.injEq] at hx
  have hK' := hel K hK
  have hxK : K < xs.length := by omega
  have hmK : K < mostL.length := hK
  rw [List.getElem?_eq_getElem hxK, cellsSix] at hK'
  have hh := congrArg (fun l => l[K]?) hx.1
  simp only [List.getElem?_map, List.getElem?_eq_getElem hxK, List.getElem?_eq_getElem hmK, Option.map_some, Option.some.injEq] at hh
  obtain ⟨d, q⟩ : ∃ d : DataW Unit × List MemPlace, d = xs[K] := ⟨_, rfl⟩
  rw [← q] at hK' hh
  obtain ⟨d1, d2⟩ := d
  simp only at hh
  rw [← hh] at hK'
  obtain ⟨_, _, hc⟩ := array_ints Tryz.underlying349 cellsSix hK'
  have hcj := hc j hj
  rw [List.getElem?_take, if_pos hj, List.getElem?_drop] at hcj
  rw [← Array.getElem?_toList, hcj]
  unfold mostAt
  rw [List.getElem?_eq_getElem hmK, Option.getD_some]
theorem tabW_of {W : World} {g : Nat} {t : TypeId} {cs : Array Value} {fuel : Nat} {p : List MemPlace} {n : String} (hn : Tryz.prog.globalNamed n = some 5) (hg : Tryz.prog.globalNamed n = some g) (ht : (Tryz.prog.globals[g]?).map (·.type) = some t) (hv : W.var? Tryz.prog n = some cs)
    (hd : DataW.trod (fun _ => ()) Tryz.prog W 0 (fun _ => true) false fuel t cs.toList = some (Rows.laid_palanquin_cap_widths, p)) : TabW W := by
  obtain rfl := Option.some.inj (hn.symm.trans hg)
  obtain rfl := Option.some.inj (gTwid.symm.trans ht)
  obtain ⟨t1, fr, hb⟩ := var_block hg hv
  refine ⟨block_lt hb, t1, fr, ?_⟩
  rw [wid_datum] at hd
  obtain ⟨_, hl, hc⟩ := array_ints Tryz.underlying282 cellsWide hd
  obtain ⟨cl⟩ := cs
  simp only at hl hc hb
  match cl, hl with
  | [v0, v1, v2, v3, v4], _ =>
    have g0 := hc 0 (by omega)
    have g1 := hc 1 (by omega)
    have g2 := hc 2 (by omega)
    have g3 := hc 3 (by omega)
    have g4 := hc 4 (by omega)
    simp [ws] at g0 g1 g2 g3 g4
    rw [hb, g0, g1, g2, g3, g4]
end Go.Proofs.YtcgekcjnaadcmaaGreatDoor.Pcap
