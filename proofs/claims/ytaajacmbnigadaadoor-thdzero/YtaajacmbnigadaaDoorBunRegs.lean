/- Texts on finished packages, joined. -/
import Derived.Test.YtaajacmbnigadaaDoorBunBase
import Derived.Laws.CopyRow
import Derived.Deep.MidRow
import Derived.ChangeKeysEq
import Derived.Below
import Derived.Laws.CopyOwn
import Derived.WalkKit
import Derived.ChangeOld
import Derived.BigQuiet
import Derived.Test.YtaajacmbnigadaaDoorRows
import Derived.ProofKit
import Derived.OpenShut
import Derived.Outline
import Derived.Deep.QuietTactic
import Derived.Deep.WholeRow
import Derived.Deep.RegionHeld3
import Derived.Deep.LoopGhost
import Derived.Maps.AppendAt
import Derived.OwnWalk

/- Registers that lie in one block, and what the calls of a file make of them: plain definitions and lemmas; no function of the program is named. -/
namespace Go.Proofs.YtaajacmbnigadaaDoor.Pregs
open Go.Proofs.YtaajacmbnigadaaDoor.Pbase
open Go.RowKit
set_option linter.unusedVariables false

/-- The cells of eight registers, told by place; of a file that New made. -/
def regL (L : Nat → Int) : List Value := (List.range 8).map fun i => .int .u64 (L i)
def cellsF (L : Nat → Int) : Array Value := (regL L ++ [Value.bool true]).toArray
theorem regL_len (L : Nat → Int) : (regL L).length = 8 := by simp [regL]
theorem regL_get {L : Nat → Int} {j : Nat} (h : j < 8) : (regL L)[j]? = some (.int .u64 (L j)) := by simp [regL, h]
theorem regL_one (L : Nat → Int) : ∀ v ∈ regL L, v.oneCell' = true := by
  intro v hv
  simp only [regL, List.mem_map] at hv
  obtain ⟨x, _, rfl⟩ := hv
  rfl
theorem cellsF_size (L : Nat → Int) : (cellsF L).size = 9 := by simp [cellsF, regL_len]
theorem cellsF_at {L : Nat → Int} {j : Nat} (h : j < 8) : (cellsF L)[j]? = some (.int .u64 (L j)) := by
  rw [cellsF, List.getElem?_toArray, List.getElem?_append_left (by rw [regL_len]; exact h), regL_get h]
theorem cellsF_made (L : Nat → Int) : (cellsF L)[8]? = some (.bool true) := by
  rw [cellsF, List.getElem?_toArray, List.getElem?_append_right (by rw [regL_len]; exact Nat.le_refl _), regL_len]; rfl
theorem regL_congr {L M : Nat → Int} (h : ∀ j, j < 8 → L j = M j) : regL L = regL M := by
  apply List.ext_getElem?
  intro j
  by_cases hj : j < 8
  · rw [regL_get hj, regL_get hj, h j hj]
  · rw [List.getElem?_eq_none (by rw [regL_len]; omega), List.getElem?_eq_none (by rw [regL_len]; omega)]

/-- Is there such a register? What Get, Set, Load answer, and the registers behind them. -/
def okR (i : Int) : Bool := decide (0 ≤ i ∧ i < 8)
def errR (i : Int) : Int := if okR i then 0 else 1
def getR (L : Nat → Int) (i : Int) : Int := if okR i then L i.toNat else 0
def setR (L : Nat → Int) (i v : Int) : Nat → Int := if okR i then fun j => if j = i.toNat then v else L j else L
def errL (n : Nat) : Int := if n = 8 then 0 else 1
def loadR (L : Nat → Int) (n : Nat) (A : Nat → Int) : Nat → Int := if n = 8 then A else L
theorem okR_split {i : Int} (h : okR i = true) : ∃ g : Nat, i = g ∧ g < 8 := by
  simp [okR] at h
  exact ⟨i.toNat, by omega, by omega⟩
theorem okR_no {i : Int} (h : okR i = false) : ¬ (0 ≤ i ∧ i < 8) := by simp [okR] at h; omega
theorem okR_nat {g : Nat} (h : g < 8) : okR (g : Int) = true := by simp [okR]; omega

/-- A file that New made lies in block p, with the registers L. -/
def FileIs (w : World) (p : Nat) (L : Nat → Int) : Prop := w.heap[p]? = some (.cells (cellsF L) 45 (0, 0))
theorem FileIs.made {w : World} {p : Nat} {L : Nat → Int} (h : FileIs w p L) : w.cell? ⟨p, 8, none⟩ = some (.bool true) := by
  rw [cell_of_row w p 8 _ _ _ h, cellsF_made]
theorem FileIs.word {w : World} {p : Nat} {L : Nat → Int} (h : FileIs w p L) {j : Nat} (hj : j < 8) : w.cell? ⟨p, j, none⟩ = some (.int .u64 (L j)) := by
  rw [cell_of_row w p j _ _ _ h, cellsF_at hj]
theorem FileIs.free {w : World} {p : Nat} {L : Nat → Int} (h : FileIs w p L) (j : Nat) : w.frozen? ⟨p, j, none⟩ = false := frozen_of_row w p j _ _ h
theorem FileIs.lt {w : World} {p : Nat} {L : Nat → Int} (h : FileIs w p L) : p < w.heap.size := (Array.getElem?_eq_some_iff.1 h).1
theorem FileIs.on {w w' : World} {p : Nat} {L : Nat → Int} (h : FileIs w p L) (hp : w'.heap[p]? = w.heap[p]?) : FileIs w' p L := hp.trans h
theorem FileIs.more {w w' : World} {p : Nat} {L : Nat → Int} (h : FileIs w p L) (hB : Below w.heap.size w w') : FileIs w' p L := h.on (hB.block p h.lt)
theorem FileIs.drewN {w : World} {p : Nat} {L : Nat → Int} (h : FileIs w p L) (n : Nat) : FileIs (w.drewN n) p L := h
theorem FileIs.drew {w : World} {p : Nat} {L : Nat → Int} (h : FileIs w p L) : FileIs w.drew p L := h
theorem FileIs.alloc {w : World} {p : Nat} {L : Nat → Int} (h : FileIs w p L) (o : Obj) : FileIs (w.alloc o) p L := h.on (Below.heap_alloc w o p h.lt)
theorem FileIs.set {w : World} {p : Nat} {L : Nat → Int} (h : FileIs w p L) (M : Nat → Int) : FileIs (w.setRow p (cellsF M)) p M := setRow_heap _ _ _ _ _ _ h
theorem FileIs.other {w : World} {p q : Nat} {L : Nat → Int} (h : FileIs w p L) (hq : p ≠ q) (cs : Array Value) : FileIs (w.setRow q cs) p L := h.on (setRow_other w q p cs hq)
theorem FileIs.self {w : World} {p : Nat} {L : Nat → Int} (h : FileIs w p L) : w.setRow p (cellsF L) = w := setRow_self _ _ _ _ _ h
theorem FileIs.store {w : World} {p : Nat} {L : Nat → Int} (h : FileIs w p L) {g : Nat} (hg : g < 8) (v : Int) : w.setCell ⟨p, g, none⟩ (.int .u64 v) = w.setRow p (cellsF (setR L g v)) := by
  rw [setCell_eq_setRow w p _ _ _ _ _ h]
  congr 1
  apply Array.ext_getElem?
  intro i
  rw [Array.getElem?_setIfInBounds]
  by_cases hi : i < 8
  · rw [cellsF_at hi, cellsF_at hi, cellsF_size]
    simp only [setR, okR_nat hg, if_true, Int.toNat_natCast]
    by_cases e : g = i
    · subst e; simp; omega
    · rw [if_neg e, if_neg (Ne.symm e)]
  · rw [if_neg (by omega)]
    by_cases h8 : i = 8
    · subst h8; rw [cellsF_made, cellsF_made]
    · rw [Array.getElem?_eq_none (by rw [cellsF_size]; omega), Array.getElem?_eq_none (by rw [cellsF_size]; omega)]
theorem FileIs.range {w : World} {p : Nat} {L : Nat → Int} (h : FileIs w p L) : w.rangeAt p 0 (regL L) := by
  intro j v hv
  have hj : j < 8 := by have := (List.getElem?_eq_some_iff.1 hv).1; rwa [regL_len] at this
  rw [Nat.zero_add, h.word hj, ← hv, regL_get hj]
/-- All registers are read as one array; and written. -/
theorem FileIs.load {P : Program} {w : World} {p : Nat} {L : Nat → Int} (h : FileIs w p L) {ty : TypeId} {d : TypeDesc} (hu : P.underlying ty = some d) (hd : d.isRow = true) (hi : (P.info? ty).map (·.size) = some 8) :
    (loadVar ty ⟨p, 0, none⟩).run P w = .ok (.agg (regL L).toArray) w :=
  run_loadVar_mid w p 0 ty (regL L) d h.range hu hd (by rw [regL_len]; exact hi)
theorem cells_put (L M : Nat → Int) : ((cellsF L).toList.take 0 ++ regL M ++ (cellsF L).toList.drop (0 + (regL M).length)).toArray = cellsF M := by
  have : (cellsF L).toList.drop (0 + (regL M).length) = [.bool true] := by
    rw [regL_len, cellsF]
    show List.drop (0 + 8) (regL L ++ [.bool true]) = _
    rw [List.drop_append_of_le_length (by rw [regL_len]; omega), List.drop_eq_nil_of_le (by rw [regL_len]; omega)]
    rfl
  rw [this]
  simp [cellsF]
theorem FileIs.put {P : Program} {w : World} {p : Nat} {L : Nat → Int} (h : FileIs w p L) {ty : TypeId} (hi : (P.info? ty).map (·.size) = some 8) (M : Nat → Int) :
    (storeVar ty ⟨p, 0, none⟩ (.agg (regL M).toArray)).run P w = .ok () (w.setRow p (cellsF M)) := by
  have hl : (regL M).length = 8 := regL_len M
  have hst := run_storeCells_at P p 0 45 (regL M) 0 (cellsF L) w h (by rw [cellsF_size]; omega) (regL_one M)
  rw [Nat.add_zero, cells_put] at hst
  cases hq : P.info? ty with
  | none => simp [hq] at hi
  | some i =>
    have hs : i.size = 8 := by simpa [hq] using hi
    simp [storeVar, sizeOf, typeInfo, hq, Value.cells, hs, hl, hst]

/-- A list of eight words of the call's own begins at the start of block r. -/
def ListIs (w : World) (r : Nat) (L : Nat → Int) : Prop := ∃ cur, w.heap[r]? = some (.cells cur 41 (0, 0)) ∧ ∀ j, j < 8 → cur[j]? = some (.int .u64 (L j))
theorem ListIs.cell {w : World} {r : Nat} {L : Nat → Int} (h : ListIs w r L) {j : Nat} (hj : j < 8) : w.cell? ⟨r, j, none⟩ = some (.int .u64 (L j)) := by
  obtain ⟨cur, h1, h2⟩ := h
  rw [cell_of_row w r j _ _ _ h1, h2 j hj]
theorem ListIs.free {w : World} {r : Nat} {L : Nat → Int} (h : ListIs w r L) (j : Nat) : w.frozen? ⟨r, j, none⟩ = false := by
  obtain ⟨cur, h1, _⟩ := h
  exact frozen_of_row w r j _ _ h1
theorem ListIs.on {w w' : World} {r : Nat} {L : Nat → Int} (h : ListIs w r L) (hk : w'.heap[r]? = w.heap[r]?) : ListIs w' r L := by
  obtain ⟨cur, h1, h2⟩ := h
  exact ⟨cur, hk.trans h1, h2⟩
theorem ListIs.lt {w : World} {r : Nat} {L : Nat → Int} (h : ListIs w r L) : r < w.heap.size := by
  obtain ⟨cur, h1, _⟩ := h
  exact (Array.getElem?_eq_some_iff.1 h1).1
theorem ListIs.more {w w' : World} {r : Nat} {L : Nat → Int} (h : ListIs w r L) (hB : Below w.heap.size w w') : ListIs w' r L := h.on (hB.block r h.lt)
theorem ListIs.apart {w : World} {p r : Nat} {L M : Nat → Int} (h : ListIs w r L) (k : FileIs w p M) (ht : 41 ≠ 45) : r ≠ p := by
  rintro rfl
  obtain ⟨cur, h1, _⟩ := h
  rw [FileIs, h1] at k
  simp at k
theorem ListIs.put {w : World} {r : Nat} {L : Nat → Int} (h : ListIs w r L) {c : Nat} (hc : c < 8) (v : Int) : ListIs (w.setCell ⟨r, c, none⟩ (.int .u64 v)) r (setR L c v) := by
  obtain ⟨cur, h1, h2⟩ := h
  refine ⟨cur.setIfInBounds c (.int .u64 v), heap_setCell_same _ _ _ _ _ _ h1, fun j hj => ?_⟩
  rw [Array.getElem?_setIfInBounds]
  simp only [setR, okR_nat hc, if_true, Int.toNat_natCast]
  by_cases e : c = j
  · subst e
    have hlt : c < cur.size := by
      rcases Nat.lt_or_ge c cur.size with h | h
      · exact h
      · have := h2 c hc; rw [Array.getElem?_eq_none h] at this; cases this
    simp [hlt]
  · rw [if_neg e, h2 j hj, if_neg (Ne.symm e)]
theorem below_drewN {B : Nat} {a w : World} (h : Below B a w) (n : Nat) : Below B a (w.drewN n) := ⟨h.os, h.tape, h.output, h.size, h.block⟩

/-! ### A slice of integers that came in -/
/-- What a list of words that came in holds: it lies below n₀, and if it has eight, they are A. -/
def Eight (n₀ : Nat) (W : World) (a : Option Addr) (len : Nat) (A : Nat → Int) : Prop :=
  len = 8 → ∃ b off, a = some ⟨b, off, none⟩ ∧ b < n₀ ∧ ∀ j, j < 8 → W.cell? ⟨b, off + j, none⟩ = some (.int .u64 (A j))
theorem Came.eight {n₀ : Nat} {W : World} {a : Option Addr} {len : Nat} (h : Came .u64 n₀ W a len) : ∃ A, Eight n₀ W a len A := by
  rcases h with h | ⟨b, off, e, hb, hc⟩
  · exact ⟨fun _ => 0, fun h' => by omega⟩
  · by_cases h8 : len = 8
    · subst h8
      refine ⟨fun j => if hj : j < 8 then (hc j hj).choose else 0, fun _ => ⟨b, off, e, hb, fun j hj => ?_⟩⟩
      simp only [hj, dif_pos]
      exact (hc j hj).choose_spec.1
    · exact ⟨fun _ => 0, fun h' => absurd h' h8⟩
theorem Eight.below {n₀ : Nat} {W W' : World} {a : Option Addr} {len : Nat} {A : Nat → Int} (h : Eight n₀ W a len A) (hB : Below n₀ W W') : Eight n₀ W' a len A := by
  intro h8
  obtain ⟨b, off, e, hb, hc⟩ := h h8
  exact ⟨b, off, e, hb, fun j hj => (hB.cell (p := ⟨b, off + j, none⟩) hb).trans (hc j hj)⟩

end Go.Proofs.YtaajacmbnigadaaDoor.Pregs

/- What isMade, register, New, Get and Set of package regs answer, and what they do to the registers, for every argument that their types allow. -/
namespace Go.Proofs.YtaajacmbnigadaaDoor.Pregs
open Go.Proofs.YtaajacmbnigadaaDoor.Pbase
open Go.RowKit
set_option linter.unusedVariables false

set_option maxRecDepth 100000 in
theorem made_cell (p : Nat) (b : Bool) (w : World) (hp : w.cell? ⟨p, 8, none⟩ = some (.bool b)) :
    Calls Tryd.prog 23 #[.pointer (some ⟨p, 0, none⟩)] w fun e w' => e = .returned (.bool b) ∧ w' = w := by
  go_enter Tryd.func23, Tryd.ntmps23
  go_wp2
  go_ret
  exact ⟨rfl, rfl⟩
set_option maxRecDepth 100000 in
theorem made_nil (w : World) :
    Calls Tryd.prog 23 #[.pointer none] w fun e w' => e = .returned (.bool false) ∧ w' = w := by
  go_enter Tryd.func23, Tryd.ntmps23
  go_wp2
  go_ret
  exact ⟨rfl, rfl⟩
set_option maxRecDepth 100000 in
theorem reg_ok (p g : Nat) (w : World) (hg : g < 8) (hp : w.cell? ⟨p, 8, none⟩ = some (.bool true)) :
    Calls Tryd.prog 37 #[.pointer (some ⟨p, 0, none⟩), .int .i64 g] w fun e w' => e = .returned (.tuple #[.pointer (some ⟨p, g, none⟩), .int .i64 0]) ∧ w' = w := by
  have hgi : (g : Int) < 8 := by omega
  go_enter Tryd.func37, Tryd.ntmps37
  go_wp2_with (go_at_call 23; refine (made_cell p true _ hp).mono ?_; rintro e w' ⟨rfl, rfl⟩)
  go_ret2
  exact ⟨rfl, rfl⟩
set_option maxRecDepth 100000 in
theorem reg_bad (p : Nat) (i : Int) (w : World) (hi : ¬ (0 ≤ i ∧ i < 8)) (hp : w.cell? ⟨p, 8, none⟩ = some (.bool true)) :
    Calls Tryd.prog 37 #[.pointer (some ⟨p, 0, none⟩), .int .i64 i] w fun e w' => e = .returned (.tuple #[.pointer none, .int .i64 1]) ∧ w' = w := by
  by_cases hn : i < 0
  · clear hi
    go_enter Tryd.func37, Tryd.ntmps37
    go_wp2_with (go_at_call 23; refine (made_cell p true _ hp).mono ?_; rintro e w' ⟨rfl, rfl⟩)
    go_ret2
    exact ⟨rfl, rfl⟩
  · have hge : 8 ≤ i := by omega
    clear hi
    go_enter Tryd.func37, Tryd.ntmps37
    go_wp2_with (go_at_call 23; refine (made_cell p true _ hp).mono ?_; rintro e w' ⟨rfl, rfl⟩)
    go_ret2
    exact ⟨rfl, rfl⟩
set_option maxRecDepth 100000 in
theorem reg_zero (p : Nat) (i : Int) (w : World) (hp : w.cell? ⟨p, 8, none⟩ = some (.bool false)) :
    Calls Tryd.prog 37 #[.pointer (some ⟨p, 0, none⟩), .int .i64 i] w fun e w' => e = .returned (.tuple #[.pointer none, .int .i64 13]) ∧ w' = w := by
  go_enter Tryd.func37, Tryd.ntmps37
  go_wp2_with (go_at_call 23; refine (made_cell p false _ hp).mono ?_; rintro e w' ⟨rfl, rfl⟩)
  go_ret2
  exact ⟨rfl, rfl⟩
set_option maxRecDepth 100000 in
theorem reg_nil (i : Int) (w : World) :
    Calls Tryd.prog 37 #[.pointer none, .int .i64 i] w fun e w' => e = .returned (.tuple #[.pointer none, .int .i64 13]) ∧ w' = w := by
  go_enter Tryd.func37, Tryd.ntmps37
  go_wp2_with (go_at_call 23; refine (made_nil _).mono ?_; rintro e w' ⟨rfl, rfl⟩)
  go_ret2
  exact ⟨rfl, rfl⟩
/-! ### Get, Set -/
set_option maxRecDepth 100000 in
theorem get_zero (p : Nat) (i : Int) (w : World) (hp : w.cell? ⟨p, 8, none⟩ = some (.bool false)) :
    Calls Tryd.prog 27 #[.pointer (some ⟨p, 0, none⟩), .int .i64 i] w fun e w' => e = .returned (.tuple #[.int .u64 0, .int .i64 13]) ∧ w' = w := by
  go_enter Tryd.func27, Tryd.ntmps27
  go_wp2_with (go_at_call 37; refine (reg_zero p i _ hp).mono ?_; rintro e w' ⟨rfl, rfl⟩)
  go_ret2
  exact ⟨rfl, rfl⟩
set_option maxRecDepth 100000 in
theorem get_nil (i : Int) (w : World) :
    Calls Tryd.prog 27 #[.pointer none, .int .i64 i] w fun e w' => e = .returned (.tuple #[.int .u64 0, .int .i64 13]) ∧ w' = w := by
  go_enter Tryd.func27, Tryd.ntmps27
  go_wp2_with (go_at_call 37; refine (reg_nil i _).mono ?_; rintro e w' ⟨rfl, rfl⟩)
  go_ret2
  exact ⟨rfl, rfl⟩
set_option maxRecDepth 100000 in
theorem get_any (p : Nat) (i : Int) (L : Nat → Int) (w : World) (h : FileIs w p L) :
    Calls Tryd.prog 27 #[.pointer (some ⟨p, 0, none⟩), .int .i64 i] w fun e w' => e = .returned (.tuple #[.int .u64 (getR L i), .int .i64 (errR i)]) ∧ w' = w := by
  have hp := h.made
  cases hk : okR i
  · simp only [getR, errR, hk, Bool.false_eq_true, if_false]
    have HB : Hid (¬ (0 ≤ i ∧ i < 8)) := okR_no hk
    clear h hk
    go_enter Tryd.func27, Tryd.ntmps27
    go_wp2_with (go_at_call 37; refine (reg_bad p i _ HB.out hp).mono ?_; rintro e w' ⟨rfl, rfl⟩)
    go_ret2
    exact ⟨rfl, rfl⟩
  · obtain ⟨g, rfl, hg⟩ := okR_split hk
    simp only [getR, errR, hk, if_true, Int.toNat_natCast]
    have hc := h.word hg
    obtain ⟨m, hm⟩ : ∃ m, m = L g := ⟨_, rfl⟩
    rw [← hm] at hc ⊢
    clear hm h hk
    go_enter Tryd.func27, Tryd.ntmps27
    go_wp2_with (go_at_call 37; refine (reg_ok p g _ hg hp).mono ?_; rintro e w' ⟨rfl, rfl⟩)
    go_ret2
    exact ⟨rfl, rfl⟩
set_option maxRecDepth 100000 in
theorem set_nil (i v : Int) (w : World) :
    Calls Tryd.prog 31 #[.pointer none, .int .i64 i, .int .u64 v] w fun e w' => e = .returned (.int .i64 13) ∧ w' = w := by
  go_enter Tryd.func31, Tryd.ntmps31
  go_wp2_with (go_at_call 37; refine (reg_nil i _).mono ?_; rintro e w' ⟨rfl, rfl⟩)
  go_ret
  exact ⟨rfl, rfl⟩
set_option maxRecDepth 100000 in
theorem set_any (p : Nat) (i v : Int) (L : Nat → Int) (w : World) (h : FileIs w p L) :
    Calls Tryd.prog 31 #[.pointer (some ⟨p, 0, none⟩), .int .i64 i, .int .u64 v] w fun e w' => e = .returned (.int .i64 (errR i)) ∧ w' = w.setRow p (cellsF (setR L i v)) := by
  have hp := h.made
  cases hk : okR i
  · simp only [setR, errR, hk, Bool.false_eq_true, if_false, h.self]
    have HB : Hid (¬ (0 ≤ i ∧ i < 8)) := okR_no hk
    clear h hk
    go_enter Tryd.func31, Tryd.ntmps31
    go_wp2_with (go_at_call 37; refine (reg_bad p i _ HB.out hp).mono ?_; rintro e w' ⟨rfl, rfl⟩)
    go_ret
    exact ⟨rfl, rfl⟩
  · obtain ⟨g, rfl, hg⟩ := okR_split hk
    rw [← h.store hg]
    simp only [errR, hk, if_true]
    have hc := h.word hg
    have hz := h.free g
    clear h hk
    go_enter Tryd.func31, Tryd.ntmps31
    go_wp2_with (go_at_call 37; refine (reg_ok p g _ hg hp).mono ?_; rintro e w' ⟨rfl, rfl⟩)
    go_ret
    exact ⟨rfl, rfl⟩
/-! ### New -/
theorem cells_zero : cellsF (fun _ => 0) = #[.int .u64 0, .int .u64 0, .int .u64 0, .int .u64 0, .int .u64 0, .int .u64 0, .int .u64 0, .int .u64 0, .bool true] := rfl
/-- The world behind New. -/
def newW (w : World) : World := w.alloc (.cells (cellsF fun _ => 0) 45)
theorem newW_is (w : World) : FileIs (newW w) w.heap.size fun _ => 0 := heap_alloc_new _ _
theorem newW_size (w : World) : (newW w).heap.size = w.heap.size + 1 := by simp [newW]
theorem newW_below (w : World) : Below w.heap.size w (newW w) := (Below.refl _ w).alloc (Nat.le_refl _) _
set_option maxRecDepth 100000 in
theorem new_any (w : World) :
    Calls Tryd.prog 6 #[] w fun e w' => e = .returned (.pointer (some ⟨w.heap.size, 0, none⟩)) ∧ w' = newW w := by
  unfold newW
  rw [cells_zero]
  go_enter Tryd.func6, Tryd.ntmps6
  go_wp2
  go_ret
  exact ⟨rfl, rfl⟩

end Go.Proofs.YtaajacmbnigadaaDoor.Pregs

/- What All and Load of package regs answer, and what they do to the registers, for every argument that their types allow; and that the program computes at all. -/
namespace Go.Proofs.YtaajacmbnigadaaDoor.Pregs
open Go.Proofs.YtaajacmbnigadaaDoor.Pbase
open Go.RowKit
set_option linter.unusedVariables false

set_option maxRecDepth 100000 in
theorem infoWord : (Tryd.prog.info? 41).map (fun i => (i.zero, i.size, i.bytes)) = some (some (.int .u64 0), 1, 8) := by kernel_rfl
set_option maxRecDepth 100000 in
theorem wordSize : (Tryd.prog.info? 41).map (·.size) = some 1 := by kernel_rfl
theorem made_words : madeCells #[.int .u64 0] 8 = (regL fun _ => 0).toArray := by
  apply Array.ext_getElem?
  intro i
  by_cases hi : i < 8
  · have e : (regL fun _ => 0).toArray[i]? = some (.int .u64 0) := by rw [List.getElem?_toArray]; exact regL_get hi
    rw [e]
    simp [madeCells, hi, Nat.mod_one]
  · rw [Array.getElem?_eq_none (by rw [size_madeCells]; omega), Array.getElem?_eq_none (by rw [List.size_toArray, regL_len]; omega)]
theorem make_words (w : World) :
    (Instr.makeSlice 24 (.int .i64 8) (.int .i64 8)).run Tryd.prog w = .ok (.slice (some ⟨w.heap.size, 0, none⟩) 8 8) (w.alloc (.cells (regL fun _ => 0).toArray 41)) := by
  obtain ⟨i0, hi, hz0, hz1, hz2⟩ := info_parts infoWord
  have := run_make (P := Tryd.prog) w 24 41 i0 _ Tryd.underlying24 hi hz0 .i64 .i64 8 8 (by omega) (by omega) (by rw [hz2]; omega) (by omega)
  rw [hz1] at this
  simpa [Value.cells, made_words] using this

/-- The world behind All: a list of its own. -/
def allW (w : World) (L : Nat → Int) : World := w.alloc (.cells (regL L).toArray 41)
theorem allW_is (w : World) (L : Nat → Int) : ListIs (allW w L) w.heap.size L :=
  ⟨_, heap_alloc_new _ _, fun j hj => by rw [List.getElem?_toArray]; exact regL_get hj⟩
theorem allW_below (w : World) (L : Nat → Int) : Below w.heap.size w (allW w L) := (Below.refl _ w).alloc (Nat.le_refl _) _
theorem allW_size (w : World) (L : Nat → Int) : (allW w L).heap.size = w.heap.size + 1 := by simp [allW]
theorem allW_eq (w : World) (L : Nat → Int) (Z : Array Value) (hZ : Z.size = 8) :
    (w.alloc (.cells Z 41)).setRow w.heap.size (Z.toList.take 0 ++ (regL L ++ Z.toList.drop (0 + (regL L).length))).toArray = allW w L := by
  rw [World.setRow_alloc_new]
  have : Z.toList.drop (0 + (regL L).length) = [] := by rw [List.drop_eq_nil_iff]; simp [regL_len, hZ]
  rw [this]
  simp [allW]
set_option maxHeartbeats 1000000 in
set_option maxRecDepth 100000 in
theorem all_any (p : Nat) (L : Nat → Int) (w : World) (h : FileIs w p L) :
    Calls Tryd.prog 16 #[.pointer (some ⟨p, 0, none⟩)] w fun e w' => e = .returned (.slice (some ⟨w.heap.size, 0, none⟩) 8 8) ∧ w' = allW w L := by
  have hp := h.made
  have hmk := make_words
  have hb := h.lt
  obtain ⟨Z, hZ⟩ : ∃ Z, Z = (regL fun _ => 0).toArray := ⟨_, rfl⟩
  have hZs : Hid (Z.size = 8) := by rw [hZ]; show _ = _; rw [List.size_toArray, regL_len]
  rw [← hZ] at hmk
  have HR : Hid (∀ j v, (regL L)[j]? = some v → (w.alloc (.cells Z 41)).cell? ((⟨p, 0, none⟩ : Addr).add j) = some v) := by
    intro j v hv
    rw [Addr.add_mid, World.cell?_alloc_lt _ _ _ hb]
    exact h.range j v hv
  obtain ⟨C, hC⟩ : ∃ C, C = regL L := ⟨_, rfl⟩
  have HE := allW_eq w L Z hZs.out
  have HL : Hid (C.length = 8) := by rw [hC]; exact regL_len L
  have H1 : Hid (∀ v ∈ C, v.oneCell' = true) := by rw [hC]; exact regL_one L
  obtain ⟨W, hW⟩ : ∃ W, W = allW w L := ⟨_, rfl⟩
  rw [← hC] at HR
  rw [← hW, ← hC] at HE
  rw [← hW]
  have hcp : (Builtin.copy_ #[24, 24] 3 #[.slice (some ⟨w.heap.size, 0, none⟩) 8 8, .slice (some ⟨p, 0, none⟩) 8 8]).run Tryd.prog (w.alloc (.cells Z 41)) = .ok (.int .i64 8) W := by
    rw [← HE]
    have := run_copy_row (P := Tryd.prog) (w.alloc (.cells Z 41)) 24 24 3 41 w.heap.size 0 8 8 ⟨p, 0, none⟩ 8 8 Z 41 C Tryd.underlying24 wordSize (heap_alloc_new _ _) (by rw [HL.out]; rfl) HR.out (by rw [HL.out, hZs.out]; decide) H1.out
    rw [this, HL.out, List.append_assoc]
    rfl
  clear HE hW hC hZ h HR HL H1 hZs
  go_enter Tryd.func16, Tryd.ntmps16
  go_wp2_with (go_at_call 23; refine (made_cell p true _ hp).mono ?_; rintro e w' ⟨rfl, rfl⟩)
  go_ret
  exact ⟨rfl, rfl⟩
set_option maxRecDepth 100000 in
theorem all_nil (w : World) :
    Calls Tryd.prog 16 #[.pointer none] w fun e w' => e = .returned (.slice none 0 0) ∧ w' = w := by
  go_enter Tryd.func16, Tryd.ntmps16
  go_wp2_with (go_at_call 23; refine (made_nil _).mono ?_; rintro e w' ⟨rfl, rfl⟩)
  go_ret
  exact ⟨rfl, rfl⟩
/-! ### Load -/
set_option maxRecDepth 100000 in
theorem load_zero (p : Nat) (a : Option Addr) (n c : Nat) (w : World) (hp : w.cell? ⟨p, 8, none⟩ = some (.bool false)) :
    Calls Tryd.prog 11 #[.pointer (some ⟨p, 0, none⟩), .slice a n c] w fun e w' => e = .returned (.int .i64 13) ∧ w' = w := by
  go_enter Tryd.func11, Tryd.ntmps11
  go_wp2_with (go_at_call 23; refine (made_cell p false _ hp).mono ?_; rintro e w' ⟨rfl, rfl⟩)
  go_ret
  exact ⟨rfl, rfl⟩
set_option maxRecDepth 100000 in
theorem load_bad (p : Nat) (a : Option Addr) (n c : Nat) (w : World) (hn : n ≠ 8) (hn63 : n ≤ 9223372036854775807) (hp : w.cell? ⟨p, 8, none⟩ = some (.bool true)) :
    Calls Tryd.prog 11 #[.pointer (some ⟨p, 0, none⟩), .slice a n c] w fun e w' => e = .returned (.int .i64 1) ∧ w' = w := by
  have hne : ((n : Int) == 8) = false := by simp; omega
  go_enter Tryd.func11, Tryd.ntmps11
  go_wp2_with (go_at_call 23; refine (made_cell p true _ hp).mono ?_; rintro e w' ⟨rfl, rfl⟩)
  go_ret
  exact ⟨rfl, rfl⟩
set_option maxHeartbeats 1000000 in
set_option maxRecDepth 100000 in
theorem load_ok (p b off c : Nat) (L A : Nat → Int) (w : World) (h : FileIs w p L) (hA : ∀ j, j < 8 → w.cell? ⟨b, off + j, none⟩ = some (.int .u64 (A j))) :
    Calls Tryd.prog 11 #[.pointer (some ⟨p, 0, none⟩), .slice (some ⟨b, off, none⟩) 8 c] w fun e w' => e = .returned (.int .i64 0) ∧ w' = w.setRow p (cellsF A) := by
  have hp := h.made
  have hcp : (Builtin.copy_ #[24, 24] 3 #[.slice (some ⟨p, 0, none⟩) 8 8, .slice (some ⟨b, off, none⟩) 8 c]).run Tryd.prog w = .ok (.int .i64 8) (w.setRow p (cellsF A)) := by
    have := run_copy_row (P := Tryd.prog) w 24 24 3 41 p 0 8 8 ⟨b, off, none⟩ 8 c (cellsF L) 45 (regL A) Tryd.underlying24 wordSize h (by rw [regL_len]; rfl)
      (fun j v hv => by
        have hj : j < 8 := by have := (List.getElem?_eq_some_iff.1 hv).1; rwa [regL_len] at this
        rw [Addr.add_mid, hA j hj, ← hv, regL_get hj]) (by rw [regL_len, cellsF_size]; decide) (regL_one A)
    rw [this, cells_put, regL_len]
    rfl
  obtain ⟨W, hW⟩ : ∃ W, W = w.setRow p (cellsF A) := ⟨_, rfl⟩
  rw [← hW] at hcp ⊢
  clear hW h hA
  go_enter Tryd.func11, Tryd.ntmps11
  go_wp2_with (go_at_call 23; refine (made_cell p true _ hp).mono ?_; rintro e w' ⟨rfl, rfl⟩)
  go_ret
  exact ⟨rfl, rfl⟩
theorem load_any (p : Nat) (a : Option Addr) (n c n₀ : Nat) (L A : Nat → Int) (w : World) (h : FileIs w p L) (hn63 : n ≤ 9223372036854775807) (hA : Eight n₀ w a n A) :
    Calls Tryd.prog 11 #[.pointer (some ⟨p, 0, none⟩), .slice a n c] w fun e w' => e = .returned (.int .i64 (errL n)) ∧ w' = w.setRow p (cellsF (loadR L n A)) := by
  by_cases h8 : n = 8
  · obtain ⟨b, off, rfl, _, hc⟩ := hA h8
    simp only [errL, loadR, h8, if_true]
    exact load_ok p b off c L A w h hc
  · simp only [errL, loadR, h8, if_false, h.self]
    exact load_bad p a n c w h8 hn63 h.made
/-! ### awake -/
end Go.Proofs.YtaajacmbnigadaaDoor.Pregs

/- What Swap of package regs answers, and what it does to the registers, for every two files. -/
namespace Go.Proofs.YtaajacmbnigadaaDoor.Pregs
open Go.Proofs.YtaajacmbnigadaaDoor.Pbase
open Go.RowKit
set_option linter.unusedVariables false
set_option linter.unusedSimpArgs false

set_option maxRecDepth 100000 in
theorem rowSize : (Tryd.prog.info? 43).map (·.size) = some 8 := by kernel_rfl
set_option maxRecDepth 100000 in
theorem undRow : Tryd.prog.underlying 43 = some (.array 8 41) := by kernel_rfl
theorem at_of_drop {ops : Array Oper} {i : Nat} {oi : Oper} {tl : List Oper} (h : ops.toList.drop i = oi :: tl) : ops[i]? = some oi := by
  have h1 : (ops.toList.drop i)[0]? = some oi := by rw [h]; rfl
  rw [List.getElem?_drop] at h1
  simpa using h1
/-- Operation i yields its value in every world that meets S: it is taken first. -/
theorem takeV {P : Program} {ops : Array Oper} {Q : Exit → Act → World → Prop} {md : Region.Mode} {S : World → Prop} {i : Nat} {oi : Oper} {tl : List Oper} {v : Value} {fuel : Nat} {listed : Array Bool} {a : Act} {w : World}
    (hi : ops.toList.drop i = oi :: tl) (hs : Region.noSelect ops = true) (hf : Region.free md ops listed i = true) (hr : (Region.ready md ops listed).contains i = true)
    (hQ : ∀ c a w, Q (.panic c) (a.put oi.dst v) w → Q (.panic c) a w) (hw : Region.wanted oi (yielded ops a.tmps) = true) (hS : S w)
    (hy : ∀ w, S w → (execOp a.eval oi).run P w = .ok (.value v) w)
    (h : wpAnyH P md ops Q S fuel (listed.setIfInBounds i true) (a.put oi.dst v) w) : wpAnyH P md ops Q S (fuel + 1) listed a w :=
  wpAnyH_take (at_of_drop hi) hs hf hr hQ (Or.inl ⟨hw, hy⟩) hS h
/-- Operation i is one of those that may come up. -/
theorem consOne {P : Program} {ops : Array Oper} {Q : Exit → Act → World → Prop} {md : Region.Mode} {S : World → Prop} {i : Nat} {oi : Oper} {tl : List Oper} {fuel : Nat} {listed : Array Bool} {a : Act} {w : World} {rs : List Nat}
    (hi : ops.toList.drop i = oi :: tl)
    (h : ∀ K' : Act → World → Prop, Shut (∀ a w, S w → (S w → wpAnyH P md ops Q S fuel (listed.setIfInBounds i true) a w) → K' a w) → if Region.wanted oi (yielded ops a.tmps) = true then Oper.wp P oi a w K' Q else K' (a.put oi.dst undef) w)
    (hs : AllReadyH P md ops Q S fuel listed a w rs) : AllReadyH P md ops Q S fuel listed a w (i :: rs) := AllReadyH.cons (at_of_drop hi) h hs
/-- A whole array is read; is written: as one step. -/
theorem step_load {P : Program} {ops : Array Oper} {o : Oper} {a : Act} {w : World} {K : Act → World → Prop} {Q : Exit → Act → World → Prop} {E : Prop} (hg : o.guard = none) (ty : TypeId) (x : Operand) (ho : o.op = .load ty x)
    (ad : Addr) (hx : a.eval x = .pointer (some ad)) (v : Value) (hrun : (loadVar ty ad).run P w = .ok v w) (hK : K (a.put o.dst v) w) : if Region.wanted o (yielded ops a.tmps) = true then Oper.wp P o a w K Q else E := by
  have hw : Region.wanted o (yielded ops a.tmps) = true := by simp [Region.wanted, hg]
  rw [if_pos hw]
  unfold Oper.wp execOp
  simp only [ho, hx, Instr.loadAt, Instr.sureAddr, Sem.run_bind, Sem.run_pure, Result.andThen_ok, hrun]
  exact hK
theorem step_store {P : Program} {ops : Array Oper} {o : Oper} {a : Act} {w : World} {K : Act → World → Prop} {Q : Exit → Act → World → Prop} {E : Prop} (hg : o.guard = none) (ty : TypeId) (x y : Operand) (ho : o.op = .store ty x y)
    (ad : Addr) (hx : a.eval x = .pointer (some ad)) (v : Value) (hy : a.eval y = v) (w' : World) (hrun : (storeVar ty ad v).run P w = .ok () w') (hK : K (a.put o.dst undef) w') : if Region.wanted o (yielded ops a.tmps) = true then Oper.wp P o a w K Q else E := by
  have hw : Region.wanted o (yielded ops a.tmps) = true := by simp [Region.wanted, hg]
  rw [if_pos hw]
  unfold Oper.wp execOp
  simp only [ho, hx, hy, Instr.storeAt, Instr.sureAddr, Sem.run_bind, Sem.run_pure, Result.andThen_ok, hrun]
  exact hK
/-- The world behind Swap. -/
def swapW (w : World) (p q : Nat) (L M : Nat → Int) : World := (w.drew.setRow p (cellsF M)).setRow q (cellsF L)
end Go.Proofs.YtaajacmbnigadaaDoor.Pregs

/- What the statements' own comparison of two lists answers at two lists of the same eight words. -/
namespace Go.Proofs.YtaajacmbnigadaaDoor.Pregs
open Go.Proofs.YtaajacmbnigadaaDoor.Pbase
open Go.RowKit
set_option linter.unusedVariables false

set_option maxRecDepth 100000 in
theorem words_same (x cx y cy : Nat) (L : Nat → Int) (w : World) (hx : ListIs w x L) (hy : ListIs w y L) :
    Calls Tryd.prog 15 #[.slice (some ⟨x, 0, none⟩) 8 cx, .slice (some ⟨y, 0, none⟩) 8 cy] w fun e w' => e = .returned (.bool true) ∧ ∃ m, w' = w.drewN m := by
  have HX : Hid (ListIs w x L) := hx
  have HY : Hid (ListIs w y L) := hy
  clear hx hy
  go_enter Tryd.func15, Tryd.ntmps15
  go_wp2
  go_loopw [5] (fun i wr => ∃ k m : Nat, k ≤ 8 ∧ i = .int .i64 k ∧ wr = w.drewN m) (fun i _ => 8 - (intOf i).toNat)
  case atStart => exact ⟨0, 0, Nat.zero_le _, rfl, rfl⟩
  case round =>
    obtain ⟨k, m, hk, rfl, hwr0⟩ := hrel
    have hwr : Hid (wr = w.drewN m) := hwr0
    by_cases hlt : k < 8
    · have h1 : wr.cell? ⟨x, k, none⟩ = some (.int .u64 (L k)) := by rw [hwr0]; exact HX.out.cell hlt
      have h2 : wr.cell? ⟨y, k, none⟩ = some (.int .u64 (L k)) := by rw [hwr0]; exact HY.out.cell hlt
      clear hwr0
      have hki : (k : Int) < 8 := by omega
      go_wp2
      go_quiet (fail)
      go_wp2
      go_roundw
      case rel => exact ⟨k + 1, _, by omega, by go_num, by rw [hwr.out]; exact World.drewN_drewN _ _ _⟩
      case measure => simp [intOf]; omega
    · clear hwr0
      obtain rfl : k = 8 := by omega
      go_wp2
      go_ret
      exact ⟨rfl, m, hwr.out⟩

end Go.Proofs.YtaajacmbnigadaaDoor.Pregs

/- Two files side by side, and two lists that All answered. -/
namespace Go.Proofs.YtaajacmbnigadaaDoor.Pregs
open Go.Proofs.YtaajacmbnigadaaDoor.Pbase
open Go.RowKit
set_option linter.unusedVariables false

theorem below_set {B b : Nat} {a w : World} (h : Below B a w) (hb : B ≤ b) (cs : Array Value) : Below B a (w.setRow b cs) :=
  ⟨h.os, h.tape, h.output, by rw [size_setRow]; exact h.size, fun i hi => (setRow_other w b i cs (by omega)).trans (h.block i hi)⟩
/-- Files in the blocks p and q, with the registers L and M; nothing of w was changed. -/
structure Two (w wr : World) (p q : Nat) (L M : Nat → Int) : Prop where
  f : FileIs wr p L
  g : FileIs wr q M
  below : Below w.heap.size w wr
  hp : w.heap.size ≤ p
  hq : w.heap.size ≤ q
  ne : p ≠ q
theorem Two.more {w wr w' : World} {p q : Nat} {L M : Nat → Int} (h : Two w wr p q L M) (k : Below wr.heap.size wr w') : Two w w' p q L M :=
  ⟨h.f.more k, h.g.more k, h.below.trans (k.mono h.below.size), h.hp, h.hq, h.ne⟩
theorem Two.setF {w wr : World} {p q : Nat} {L M : Nat → Int} (h : Two w wr p q L M) (N : Nat → Int) : Two w (wr.setRow p (cellsF N)) p q N M :=
  ⟨h.f.set N, h.g.other (Ne.symm h.ne) _, below_set h.below h.hp _, h.hp, h.hq, h.ne⟩
theorem Two.setG {w wr : World} {p q : Nat} {L M : Nat → Int} (h : Two w wr p q L M) (N : Nat → Int) : Two w (wr.setRow q (cellsF N)) p q L N :=
  ⟨h.f.other h.ne _, h.g.set N, below_set h.below h.hq _, h.hp, h.hq, h.ne⟩
theorem Two.drew {w wr : World} {p q : Nat} {L M : Nat → Int} (h : Two w wr p q L M) : Two w wr.drew p q L M := ⟨h.f, h.g, h.below.drew, h.hp, h.hq, h.ne⟩
theorem Two.drewN {w wr : World} {p q : Nat} {L M : Nat → Int} (h : Two w wr p q L M) (n : Nat) : Two w (wr.drewN n) p q L M := ⟨h.f, h.g, below_drewN h.below n, h.hp, h.hq, h.ne⟩
/-- And the lists in the blocks x, y hold A, B. -/
structure St (w wr : World) (p q : Nat) (L M : Nat → Int) (x y : Nat) (A B : Nat → Int) : Prop where
  two : Two w wr p q L M
  x : ListIs wr x A
  y : ListIs wr y B
theorem St.more {w wr w' : World} {p q : Nat} {L M : Nat → Int} {x y : Nat} {A B : Nat → Int} (h : St w wr p q L M x y A B) (k : Below wr.heap.size wr w') : St w w' p q L M x y A B :=
  ⟨h.two.more k, h.x.more k, h.y.more k⟩
theorem ListIs.setRow {w : World} {r p : Nat} {L M : Nat → Int} (h : ListIs w r L) (k : FileIs w p M) (cs : Array Value) : ListIs (w.setRow p cs) r L :=
  h.on (setRow_other w p r cs (h.apart k (by decide)))
theorem St.drewN {w wr : World} {p q : Nat} {L M : Nat → Int} {x y : Nat} {A B : Nat → Int} (h : St w wr p q L M x y A B) (n : Nat) : St w (wr.drewN n) p q L M x y A B := ⟨h.two.drewN n, h.x, h.y⟩
theorem St.swap {w wr : World} {p q : Nat} {L M : Nat → Int} {x y : Nat} {A B : Nat → Int} (h : St w wr p q L M x y A B) : St w (swapW wr p q L M) p q M L x y A B := by
  have h0 : St w wr.drew p q L M x y A B := ⟨h.two.drew, h.x, h.y⟩
  have h1 : St w (wr.drew.setRow p (cellsF M)) p q M M x y A B := ⟨h0.two.setF M, h0.x.setRow h0.two.f _, h0.y.setRow h0.two.f _⟩
  exact ⟨h1.two.setG L, h1.x.setRow h1.two.g _, h1.y.setRow h1.two.g _⟩
theorem St.self {w wr : World} {p q : Nat} {L M : Nat → Int} {x y : Nat} {A B : Nat → Int} (h : St w wr p q L M x y A B) : St w (swapW wr p p L L) p q L M x y A B := by
  have h0 : St w wr.drew p q L M x y A B := ⟨h.two.drew, h.x, h.y⟩
  have h1 : St w (wr.drew.setRow p (cellsF L)) p q L M x y A B := ⟨h0.two.setF L, h0.x.setRow h0.two.f _, h0.y.setRow h0.two.f _⟩
  exact ⟨h1.two.setF L, h1.x.setRow h1.two.f _, h1.y.setRow h1.two.f _⟩

end Go.Proofs.YtaajacmbnigadaaDoor.Pregs

/- The document's own registers (a list): where they lie, and what each call answers and does, for every argument. -/
namespace Go.Proofs.YtaajacmbnigadaaDoor.Pregs
open Go.Proofs.YtaajacmbnigadaaDoor.Pbase
open Go.RowKit
set_option linter.unusedVariables false

/-- A row of the call's own that holds eight words is a list. -/
theorem owns_list {w : World} {base : Nat} {v : Value} {L : Nat → Int} (h : w.ownsRow base 41 1 v 8 (regL L)) : ∃ g cap, v = .slice (some ⟨g, 0, none⟩) 8 cap ∧ base ≤ g ∧ ListIs w g L := by
  rcases h.2 with ⟨_, e⟩ | ⟨g, cap, cur, e, hg, hh, _, _, _, ht⟩
  · cases e
  · refine ⟨g, cap, e, hg, cur, hh, fun j hj => ?_⟩
    have := congrArg (fun l => l[j]?) ht
    simp only [Nat.mul_one, List.getElem?_take, hj, if_true, Array.getElem?_toList, regL_get hj] at this
    exact this
theorem own_empty (w : World) : (w.alloc (.cells #[] 41)).ownsRow w.heap.size 41 1 (.slice (some ⟨w.heap.size, 0, none⟩) 0 0) 0 [] :=
  World.ownsRow_made w #[] 0 (Nat.le_refl _) (by decide) rfl
theorem own_ge {w : World} {base : Nat} {e : TypeId} {v : Value} {n : Nat} {xs : List Value} (h : w.ownsRow base e 1 v n xs) : ∀ k, v.ownBlock = some k → base ≤ k := fun k hk => (h.lt k hk).1
theorem eight_cells {w : World} {b off : Nat} {A : Nat → Int} (h : ∀ j, j < 8 → w.cell? ⟨b, off + j, none⟩ = some (.int .u64 (A j))) : ∀ j u, (regL A)[j]? = some u → w.cell? ((⟨b, off, none⟩ : Addr).add j) = some u := by
  intro j u hu
  have hj : j < 8 := by have := (List.getElem?_eq_some_iff.1 hu).1; rwa [regL_len] at this
  rw [Addr.add_mid, h j hj, ← hu, regL_get hj]

/-! ### Get, Set -/
/-! ### All, Load -/
end Go.Proofs.YtaajacmbnigadaaDoor.Pregs

/- The document's registers: what New makes; and the two files side by side. -/
namespace Go.Proofs.YtaajacmbnigadaaDoor.Pregs
open Go.Proofs.YtaajacmbnigadaaDoor.Pbase
open Go.RowKit
set_option linter.unusedVariables false

theorem one_new (w : World) (v : Value) (t : TypeId) : ∀ j u, ([v] : List Value)[j]? = some u → (w.alloc (.cells #[v] t)).cell? ((⟨w.heap.size, 0, none⟩ : Addr).add j) = some u := by
  intro j u hj
  match j, hj with
  | 0, hj => simp at hj; subst hj; simp [Addr.add]
theorem ownsRow_on {w w' : World} {base : Nat} {e : TypeId} {size : Nat} {v : Value} {n : Nat} {xs : List Value} (h : w.ownsRow base e size v n xs) (hk : ∀ k, base ≤ k → k < w.heap.size → w'.heap[k]? = w.heap[k]?) : w'.ownsRow base e size v n xs := by
  refine ⟨h.1, or_right h.2 ?_⟩
  rintro ⟨g, cap, cur, hv, hg, hh, r⟩
  exact ⟨g, cap, cur, hv, hg, by rw [hk g hg (Array.getElem?_eq_some_iff.1 hh).1]; exact hh, r⟩
theorem ownsRow_succ {w : World} {base : Nat} {e : TypeId} {v : Value} {n : Nat} {xs : List Value} (h : w.ownsRow base e 1 v (n + 1) xs) : ∃ g cap, v = .slice (some ⟨g, 0, none⟩) (n + 1) cap := by
  rcases h.2 with ⟨_, e⟩ | ⟨g, cap, _, e, _⟩
  · cases e
  · exact ⟨g, cap, e⟩
/-! ### Side by side -/
end Go.Proofs.YtaajacmbnigadaaDoor.Pregs
