/- Texts on finished packages, joined. -/
import Derived.Test.YtiapfapmgjngpaaGreatDoorBunBase
import Derived.Laws.CopyRow
import Derived.Deep.MidRow
import Derived.ChangeKeysEq
import Derived.Below
import Derived.Laws.CopyOwn
import Derived.WalkKit
import Derived.ChangeOld
import Derived.BigQuiet
import Derived.Test.YtiapfapmgjngpaaGreatDoorRows
import Derived.ProofKit
import Derived.OpenShut
import Derived.Outline
import Derived.Deep.QuietTactic
import Derived.Deep.WholeRow

/- Registers that lie in one block, and what the calls of a file make of them: plain definitions and lemmas; no function of the program is named. -/
namespace Go.Proofs.YtiapfapmgjngpaaGreatDoor.Pregs
open Go.Proofs.YtiapfapmgjngpaaGreatDoor.Pbase
open Go.RowKit
set_option linter.unusedVariables false

/-- The cells of eight registers, told by place; of a file that New made. -/
def regL (L : Nat → Int) : List Value := (List.range 8).map fun i => .int .u64 (L i)
def cellsF (L : Nat → Int) : Array Value := (regL L ++ [Value.bool true]).toArray
theorem regL_len (L : Nat → Int) : (regL L).length = 8 := by simp [regL]
theorem regL_get {L : Nat → Int} {j : Nat} (h : j < 8) : (regL L)[j]? = some (.int .u64 (L j)) := by simp [regL, h]
theorem regL_one (L : Nat → Int) : ∀ v ∈ regL L, v.oneCell' = true := by
  intro v hv
  simp only [regL, List.mem_map] at hv
  obtain ⟨x, _, rfl⟩ := hv
  rfl
theorem cellsF_size (L : Nat → Int) : (cellsF L).size = 9 := by simp [cellsF, regL_len]
theorem cellsF_at {L : Nat → Int} {j : Nat} (h : j < 8) : (cellsF L)[j]? = some (.int .u64 (L j)) := by
  rw [cellsF, List.getElem?_toArray, List.getElem?_append_left (by rw [regL_len]; exact h), regL_get h]
theorem cellsF_made (L : Nat → Int) : (cellsF L)[8]? = some (.bool true) := by
  rw [cellsF, List.getElem?_toArray, List.getElem?_append_right (by rw [regL_len]; exact Nat.le_refl _), regL_len]; rfl
theorem regL_congr {L M : Nat → Int} (h : ∀ j, j < 8 → L j = M j) : regL L = regL M := by
  apply List.ext_getElem?
  intro j
  by_cases hj : j < 8
  · rw [regL_get hj, regL_get hj, h j hj]
  · rw [List.getElem?_eq_none (by rw [regL_len]; omega), List.getElem?_eq_none (by rw [regL_len]; omega)]

/-- Is there such a register? What Get, Set, Load answer, and the registers behind them. -/
def okR (i : Int) : Bool := decide (0 ≤ i ∧ i < 8)
def errR (i : Int) : Int := if okR i then 0 else 1
def getR (L : Nat → Int) (i : Int) : Int := if okR i then L i.toNat else 0
def setR (L : Nat → Int) (i v : Int) : Nat → Int := if okR i then fun j => if j = i.toNat then v else L j else L
def errL (n : Nat) : Int := if n = 8 then 0 else 1
def loadR (L : Nat → Int) (n : Nat) (A : Nat → Int) : Nat → Int := if n = 8 then A else L
theorem okR_split {i : Int} (h : okR i = true) : ∃ g : Nat, i = g ∧ g < 8 := by
  simp [okR] at h
  exact ⟨i.toNat, by omega, by omega⟩
theorem okR_no {i : Int} (h : okR i = false) : ¬ (0 ≤ i ∧ i < 8) := by simp [okR] at h; omega
theorem okR_nat {g : Nat} (h : g < 8) : okR (g : Int) = true := by simp [okR]; omega

/-- A file that New made lies in block p, with the registers L. -/
def FileIs (w : World) (p : Nat) (L : Nat → Int) : Prop := w.heap[p]? = some (.cells (cellsF L) 257 (0, 0))
theorem FileIs.made {w : World} {p : Nat} {L : Nat → Int} (h : FileIs w p L) : w.cell? ⟨p, 8, none⟩ = some (.bool true) := by
  rw [cell_of_row w p 8 _ _ _ h, cellsF_made]
theorem FileIs.word {w : World} {p : Nat} {L : Nat → Int} (h : FileIs w p L) {j : Nat} (hj : j < 8) : w.cell? ⟨p, j, none⟩ = some (.int .u64 (L j)) := by
  rw [cell_of_row w p j _ _ _ h, cellsF_at hj]
theorem FileIs.free {w : World} {p : Nat} {L : Nat → Int} (h : FileIs w p L) (j : Nat) : w.frozen? ⟨p, j, none⟩ = false := frozen_of_row w p j _ _ h
theorem FileIs.lt {w : World} {p : Nat} {L : Nat → Int} (h : FileIs w p L) : p < w.heap.size := (Array.getElem?_eq_some_iff.1 h).1
theorem FileIs.on {w w' : World} {p : Nat} {L : Nat → Int} (h : FileIs w p L) (hp : w'.heap[p]? = w.heap[p]?) : FileIs w' p L := hp.trans h
theorem FileIs.more {w w' : World} {p : Nat} {L : Nat → Int} (h : FileIs w p L) (hB : Below w.heap.size w w') : FileIs w' p L := h.on (hB.block p h.lt)
theorem FileIs.drewN {w : World} {p : Nat} {L : Nat → Int} (h : FileIs w p L) (n : Nat) : FileIs (w.drewN n) p L := h
theorem FileIs.drew {w : World} {p : Nat} {L : Nat → Int} (h : FileIs w p L) : FileIs w.drew p L := h
theorem FileIs.alloc {w : World} {p : Nat} {L : Nat → Int} (h : FileIs w p L) (o : Obj) : FileIs (w.alloc o) p L := h.on (Below.heap_alloc w o p h.lt)
theorem FileIs.set {w : World} {p : Nat} {L : Nat → Int} (h : FileIs w p L) (M : Nat → Int) : FileIs (w.setRow p (cellsF M)) p M := setRow_heap _ _ _ _ _ _ h
theorem FileIs.other {w : World} {p q : Nat} {L : Nat → Int} (h : FileIs w p L) (hq : p ≠ q) (cs : Array Value) : FileIs (w.setRow q cs) p L := h.on (setRow_other w q p cs hq)
theorem FileIs.self {w : World} {p : Nat} {L : Nat → Int} (h : FileIs w p L) : w.setRow p (cellsF L) = w := setRow_self _ _ _ _ _ h
theorem FileIs.store {w : World} {p : Nat} {L : Nat → Int} (h : FileIs w p L) {g : Nat} (hg : g < 8) (v : Int) : w.setCell ⟨p, g, none⟩ (.int .u64 v) = w.setRow p (cellsF (setR L g v)) := by
  rw [setCell_eq_setRow w p _ _ _ _ _ h]
  congr 1
  apply Array.ext_getElem?
  intro i
  rw [Array.getElem?_setIfInBounds]
  by_cases hi : i < 8
  · rw [cellsF_at hi, cellsF_at hi, cellsF_size]
    simp only [setR, okR_nat hg, if_true, Int.toNat_natCast]
    by_cases e : g = i
    · subst e; simp; omega
    · rw [if_neg e, if_neg (Ne.symm e)]
  · rw [if_neg (by omega)]
    by_cases h8 : i = 8
    · subst h8; rw [cellsF_made, cellsF_made]
    · rw [Array.getElem?_eq_none (by rw [cellsF_size]; omega), Array.getElem?_eq_none (by rw [cellsF_size]; omega)]
theorem FileIs.range {w : World} {p : Nat} {L : Nat → Int} (h : FileIs w p L) : w.rangeAt p 0 (regL L) := by
  intro j v hv
  have hj : j < 8 := by have := (List.getElem?_eq_some_iff.1 hv).1; rwa [regL_len] at this
  rw [Nat.zero_add, h.word hj, ← hv, regL_get hj]
/-- All registers are read as one array; and written. -/
theorem FileIs.load {P : Program} {w : World} {p : Nat} {L : Nat → Int} (h : FileIs w p L) {ty : TypeId} {d : TypeDesc} (hu : P.underlying ty = some d) (hd : d.isRow = true) (hi : (P.info? ty).map (·.size) = some 8) :
    (loadVar ty ⟨p, 0, none⟩).run P w = .ok (.agg (regL L).toArray) w :=
  run_loadVar_mid w p 0 ty (regL L) d h.range hu hd (by rw [regL_len]; exact hi)
theorem cells_put (L M : Nat → Int) : ((cellsF L).toList.take 0 ++ regL M ++ (cellsF L).toList.drop (0 + (regL M).length)).toArray = cellsF M := by
  have : (cellsF L).toList.drop (0 + (regL M).length) = [.bool true] := by
    rw [regL_len, cellsF]
    show List.drop (0 + 8) (regL L ++ [.bool true]) = _
    rw [List.drop_append_of_le_length (by rw [regL_len]; omega), List.drop_eq_nil_of_le (by rw [regL_len]; omega)]
    rfl
  rw [this]
  simp [cellsF]
theorem FileIs.put {P : Program} {w : World} {p : Nat} {L : Nat → Int} (h : FileIs w p L) {ty : TypeId} (hi : (P.info? ty).map (·.size) = some 8) (M : Nat → Int) :
    (storeVar ty ⟨p, 0, none⟩ (.agg (regL M).toArray)).run P w = .ok () (w.setRow p (cellsF M)) := by
  have hl : (regL M).length = 8 := regL_len M
  have hst := run_storeCells_at P p 0 257 (regL M) 0 (cellsF L) w h (by rw [cellsF_size]; omega) (regL_one M)
  rw [Nat.add_zero, cells_put] at hst
  cases hq : P.info? ty with
  | none => simp [hq] at hi
  | some i =>
    have hs : i.size = 8 := by simpa [hq] using hi
    simp [storeVar, sizeOf, typeInfo, hq, Value.cells, hs, hl, hst]

/-- A list of eight words of the call's own begins at the start of block r. -/
def ListIs (w : World) (r : Nat) (L : Nat → Int) : Prop := ∃ cur, w.heap[r]? = some (.cells cur 120 (0, 0)) ∧ ∀ j, j < 8 → cur[j]? = some (.int .u64 (L j))
theorem ListIs.cell {w : World} {r : Nat} {L : Nat → Int} (h : ListIs w r L) {j : Nat} (hj : j < 8) : w.cell? ⟨r, j, none⟩ = some (.int .u64 (L j)) := by
  obtain ⟨cur, h1, h2⟩ := h
  rw [cell_of_row w r j _ _ _ h1, h2 j hj]
theorem ListIs.free {w : World} {r : Nat} {L : Nat → Int} (h : ListIs w r L) (j : Nat) : w.frozen? ⟨r, j, none⟩ = false := by
  obtain ⟨cur, h1, _⟩ := h
  exact frozen_of_row w r j _ _ h1
theorem ListIs.on {w w' : World} {r : Nat} {L : Nat → Int} (h : ListIs w r L) (hk : w'.heap[r]? = w.heap[r]?) : ListIs w' r L := by
  obtain ⟨cur, h1, h2⟩ := h
  exact ⟨cur, hk.trans h1, h2⟩
theorem ListIs.lt {w : World} {r : Nat} {L : Nat → Int} (h : ListIs w r L) : r < w.heap.size := by
  obtain ⟨cur, h1, _⟩ := h
  exact (Array.getElem?_eq_some_iff.1 h1).1
theorem ListIs.more {w w' : World} {r : Nat} {L : Nat → Int} (h : ListIs w r L) (hB : Below w.heap.size w w') : ListIs w' r L := h.on (hB.block r h.lt)
theorem ListIs.apart {w : World} {p r : Nat} {L M : Nat → Int} (h : ListIs w r L) (k : FileIs w p M) (ht : 120 ≠ 257) : r ≠ p := by
  rintro rfl
  obtain ⟨cur, h1, _⟩ := h
  rw [FileIs, h1] at k
  simp at k
theorem ListIs.put {w : World} {r : Nat} {L : Nat → Int} (h : ListIs w r L) {c : Nat} (hc : c < 8) (v : Int) : ListIs (w.setCell ⟨r, c, none⟩ (.int .u64 v)) r (setR L c v) := by
  obtain ⟨cur, h1, h2⟩ := h
  refine ⟨cur.setIfInBounds c (.int .u64 v), heap_setCell_same _ _ _ _ _ _ h1, fun j hj => ?_⟩
  rw [Array.getElem?_setIfInBounds]
  simp only [setR, okR_nat hc, if_true, Int.toNat_natCast]
  by_cases e : c = j
  · subst e
    have hlt : c < cur.size := by
      rcases Nat.lt_or_ge c cur.size with h | h
      · exact h
      · have := h2 c hc; rw [Array.getElem?_eq_none h] at this; cases this
    simp [hlt]
  · rw [if_neg e, h2 j hj, if_neg (Ne.symm e)]
theorem below_drewN {B : Nat} {a w : World} (h : Below B a w) (n : Nat) : Below B a (w.drewN n) := ⟨h.os, h.tape, h.output, h.size, h.block⟩

/-! ### A slice of integers that came in -/
/-- What a list of words that came in holds: it lies below n₀, and if it has eight, they are A. -/
def Eight (n₀ : Nat) (W : World) (a : Option Addr) (len : Nat) (A : Nat → Int) : Prop :=
  len = 8 → ∃ b off, a = some ⟨b, off, none⟩ ∧ b < n₀ ∧ ∀ j, j < 8 → W.cell? ⟨b, off + j, none⟩ = some (.int .u64 (A j))
theorem Came.eight {n₀ : Nat} {W : World} {a : Option Addr} {len : Nat} (h : Came .u64 n₀ W a len) : ∃ A, Eight n₀ W a len A := by
  rcases h with h | ⟨b, off, e, hb, hc⟩
  · exact ⟨fun _ => 0, fun h' => by omega⟩
  · by_cases h8 : len = 8
    · subst h8
      refine ⟨fun j => if hj : j < 8 then (hc j hj).choose else 0, fun _ => ⟨b, off, e, hb, fun j hj => ?_⟩⟩
      simp only [hj, dif_pos]
      exact (hc j hj).choose_spec.1
    · exact ⟨fun _ => 0, fun h' => absurd h' h8⟩
theorem Eight.below {n₀ : Nat} {W W' : World} {a : Option Addr} {len : Nat} {A : Nat → Int} (h : Eight n₀ W a len A) (hB : Below n₀ W W') : Eight n₀ W' a len A := by
  intro h8
  obtain ⟨b, off, e, hb, hc⟩ := h h8
  exact ⟨b, off, e, hb, fun j hj => (hB.cell (p := ⟨b, off + j, none⟩) hb).trans (hc j hj)⟩

end Go.Proofs.YtiapfapmgjngpaaGreatDoor.Pregs

/- What isMade, register, New, Get and Set of package regs answer, and what they do to the registers, for every argument that their types allow. -/
namespace Go.Proofs.YtiapfapmgjngpaaGreatDoor.Pregs
open Go.Proofs.YtiapfapmgjngpaaGreatDoor.Pbase
open Go.RowKit
set_option linter.unusedVariables false

set_option maxRecDepth 100000 in
theorem made_cell (p : Nat) (b : Bool) (w : World) (hp : w.cell? ⟨p, 8, none⟩ = some (.bool b)) :
    Calls Tryz.prog 153 #[.pointer (some ⟨p, 0, none⟩)] w fun e w' => e = .returned (.bool b) ∧ w' = w := by
  go_enter Tryz.func153, Tryz.ntmps153
  go_wp2
  go_ret
  exact ⟨rfl, rfl⟩
set_option maxRecDepth 100000 in
theorem made_nil (w : World) :
    Calls Tryz.prog 153 #[.pointer none] w fun e w' => e = .returned (.bool false) ∧ w' = w := by
  go_enter Tryz.func153, Tryz.ntmps153
  go_wp2
  go_ret
  exact ⟨rfl, rfl⟩
/-! ### Get, Set -/
/-! ### New -/
theorem cells_zero : cellsF (fun _ => 0) = #[.int .u64 0, .int .u64 0, .int .u64 0, .int .u64 0, .int .u64 0, .int .u64 0, .int .u64 0, .int .u64 0, .bool true] := rfl
/-- The world behind New. -/
def newW (w : World) : World := w.alloc (.cells (cellsF fun _ => 0) 257)
theorem newW_is (w : World) : FileIs (newW w) w.heap.size fun _ => 0 := heap_alloc_new _ _
theorem newW_size (w : World) : (newW w).heap.size = w.heap.size + 1 := by simp [newW]
theorem newW_below (w : World) : Below w.heap.size w (newW w) := (Below.refl _ w).alloc (Nat.le_refl _) _
set_option maxRecDepth 100000 in
theorem new_any (w : World) :
    Calls Tryz.prog 100 #[] w fun e w' => e = .returned (.pointer (some ⟨w.heap.size, 0, none⟩)) ∧ w' = newW w := by
  unfold newW
  rw [cells_zero]
  go_enter Tryz.func100, Tryz.ntmps100
  go_wp2
  go_ret
  exact ⟨rfl, rfl⟩

end Go.Proofs.YtiapfapmgjngpaaGreatDoor.Pregs

/- What All and Load of package regs answer, and what they do to the registers, for every argument that their types allow; and that the program computes at all. -/
namespace Go.Proofs.YtiapfapmgjngpaaGreatDoor.Pregs
open Go.Proofs.YtiapfapmgjngpaaGreatDoor.Pbase
open Go.RowKit
set_option linter.unusedVariables false

set_option maxRecDepth 100000 in
theorem infoWord : (Tryz.prog.info? 120).map (fun i => (i.zero, i.size, i.bytes)) = some (some (.int .u64 0), 1, 8) := by kernel_rfl
set_option maxRecDepth 100000 in
theorem wordSize : (Tryz.prog.info? 120).map (·.size) = some 1 := by kernel_rfl
theorem made_words : madeCells #[.int .u64 0] 8 = (regL fun _ => 0).toArray := by
  apply Array.ext_getElem?
  intro i
  by_cases hi : i < 8
  · have e : (regL fun _ => 0).toArray[i]? = some (.int .u64 0) := by rw [List.getElem?_toArray]; exact regL_get hi
    rw [e]
    simp [madeCells, hi, Nat.mod_one]
  · rw [Array.getElem?_eq_none (by rw [size_madeCells]; omega), Array.getElem?_eq_none (by rw [List.size_toArray, regL_len]; omega)]
theorem make_words (w : World) :
    (Instr.makeSlice 105 (.int .i64 8) (.int .i64 8)).run Tryz.prog w = .ok (.slice (some ⟨w.heap.size, 0, none⟩) 8 8) (w.alloc (.cells (regL fun _ => 0).toArray 120)) := by
  obtain ⟨i0, hi, hz0, hz1, hz2⟩ := info_parts infoWord
  have := run_make (P := Tryz.prog) w 105 120 i0 _ Tryz.underlying105 hi hz0 .i64 .i64 8 8 (by omega) (by omega) (by rw [hz2]; omega) (by omega)
  rw [hz1] at this
  simpa [Value.cells, made_words] using this

/-- The world behind All: a list of its own. -/
def allW (w : World) (L : Nat → Int) : World := w.alloc (.cells (regL L).toArray 120)
theorem allW_is (w : World) (L : Nat → Int) : ListIs (allW w L) w.heap.size L :=
  ⟨_, heap_alloc_new _ _, fun j hj => by rw [List.getElem?_toArray]; exact regL_get hj⟩
theorem allW_below (w : World) (L : Nat → Int) : Below w.heap.size w (allW w L) := (Below.refl _ w).alloc (Nat.le_refl _) _
theorem allW_size (w : World) (L : Nat → Int) : (allW w L).heap.size = w.heap.size + 1 := by simp [allW]
theorem allW_eq (w : World) (L : Nat → Int) (Z : Array Value) (hZ : Z.size = 8) :
    (w.alloc (.cells Z 120)).setRow w.heap.size (Z.toList.take 0 ++ (regL L ++ Z.toList.drop (0 + (regL L).length))).toArray = allW w L := by
  rw [World.setRow_alloc_new]
  have : Z.toList.drop (0 + (regL L).length) = [] := by rw [List.drop_eq_nil_iff]; simp [regL_len, hZ]
  rw [this]
  simp [allW]
set_option maxHeartbeats 1000000 in
set_option maxRecDepth 100000 in
theorem all_any (p : Nat) (L : Nat → Int) (w : World) (h : FileIs w p L) :
    Calls Tryz.prog 59 #[.pointer (some ⟨p, 0, none⟩)] w fun e w' => e = .returned (.slice (some ⟨w.heap.size, 0, none⟩) 8 8) ∧ w' = allW w L := by
  have hp := h.made
  have hmk := make_words
  have hb := h.lt
  obtain ⟨Z, hZ⟩ : ∃ Z, Z = (regL fun _ => 0).toArray := ⟨_, rfl⟩
  have hZs : Hid (Z.size = 8) := by rw [hZ]; show _ = _; rw [List.size_toArray, regL_len]
  rw [← hZ] at hmk
  have HR : Hid (∀ j v, (regL L)[j]? = some v → (w.alloc (.cells Z 120)).cell? ((⟨p, 0, none⟩ : Addr).add j) = some v) := by
    intro j v hv
    rw [Addr.add_mid, World.cell?_alloc_lt _ _ _ hb]
    exact h.range j v hv
  obtain ⟨C, hC⟩ : ∃ C, C = regL L := ⟨_, rfl⟩
  have HE := allW_eq w L Z hZs.out
  have HL : Hid (C.length = 8) := by rw [hC]; exact regL_len L
  have H1 : Hid (∀ v ∈ C, v.oneCell' = true) := by rw [hC]; exact regL_one L
  obtain ⟨W, hW⟩ : ∃ W, W = allW w L := ⟨_, rfl⟩
  rw [← hC] at HR
  rw [← hW, ← hC] at HE
  rw [← hW]
  have hcp : (Builtin.copy_ #[105, 105] 3 #[.slice (some ⟨w.heap.size, 0, none⟩) 8 8, .slice (some ⟨p, 0, none⟩) 8 8]).run Tryz.prog (w.alloc (.cells Z 120)) = .ok (.int .i64 8) W := by
    rw [← HE]
    have := run_copy_row (P := Tryz.prog) (w.alloc (.cells Z 120)) 105 105 3 120 w.heap.size 0 8 8 ⟨p, 0, none⟩ 8 8 Z 120 C Tryz.underlying105 wordSize (heap_alloc_new _ _) (by rw [HL.out]; rfl) HR.out (by rw [HL.out, hZs.out]; decide) H1.out
    rw [this, HL.out, List.append_assoc]
    rfl
  clear HE hW hC hZ h HR HL H1 hZs
  go_enter Tryz.func59, Tryz.ntmps59
  go_wp2_with (go_at_call 153; refine (made_cell p true _ hp).mono ?_; rintro e w' ⟨rfl, rfl⟩)
  go_ret
  exact ⟨rfl, rfl⟩
set_option maxRecDepth 100000 in
theorem all_nil (w : World) :
    Calls Tryz.prog 59 #[.pointer none] w fun e w' => e = .returned (.slice none 0 0) ∧ w' = w := by
  go_enter Tryz.func59, Tryz.ntmps59
  go_wp2_with (go_at_call 153; refine (made_nil _).mono ?_; rintro e w' ⟨rfl, rfl⟩)
  go_ret
  exact ⟨rfl, rfl⟩
/-! ### Load -/
/-! ### awake -/
end Go.Proofs.YtiapfapmgjngpaaGreatDoor.Pregs
