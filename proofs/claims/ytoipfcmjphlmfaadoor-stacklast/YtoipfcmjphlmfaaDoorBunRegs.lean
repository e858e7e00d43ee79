/- Texts on finished packages, joined. -/
import Derived.Test.YtoipfcmjphlmfaaDoorBunBase
import Derived.Laws.CopyRow
import Derived.Deep.MidRow
import Derived.ChangeKeysEq
import Derived.Below
import Derived.Laws.CopyOwn
import Derived.WalkKit
import Derived.ChangeOld
import Derived.BigQuiet
import Derived.Test.YtoipfcmjphlmfaaDoorRows
import Derived.ProofKit
import Derived.OpenShut
import Derived.Outline
import Derived.Deep.QuietTactic
import Derived.Deep.WholeRow
import Derived.Deep.RegionHeld3
import Derived.Deep.LoopGhost
import Derived.Maps.AppendAt
import Derived.OwnWalk

/- Registers that lie in one block, and what the calls of a file make of them: plain definitions and lemmas; no function of the program is named. -/
namespace Go.Proofs.YtoipfcmjphlmfaaDoor.Pregs
open Go.Proofs.YtoipfcmjphlmfaaDoor.Pbase
open Go.RowKit
set_option linter.unusedVariables false

/-- The cells of eight registers, told by place; of a file that New made. -/
def regL (L : Nat → Int) : List Value := (List.range 8).map fun i => .int .u64 (L i)
def cellsF (L : Nat → Int) : Array Value := (regL L ++ [Value.bool true]).toArray
theorem regL_len (L : Nat → Int) : (regL L).length = 8 := by simp [regL]
theorem regL_get {L : Nat → Int} {j : Nat} (h : j < 8) : (regL L)[j]? = some (.int .u64 (L j)) := by simp [regL, h]
theorem regL_one (L : Nat → Int) : ∀ v ∈ regL L, v.oneCell' = true := by
  intro v hv
  simp only [regL, List.mem_map] at hv
  obtain ⟨x, _, rfl⟩ := hv
  rfl
theorem cellsF_size (L : Nat → Int) : (cellsF L).size = 9 := by simp [cellsF, regL_len]
theorem cellsF_at {L : Nat → Int} {j : Nat} (h : j < 8) : (cellsF L)[j]? = some (.int .u64 (L j)) := by
  rw [cellsF, List.getElem?_toArray, List.getElem?_append_left (by rw [regL_len]; exact h), regL_get h]
theorem cellsF_made (L : Nat → Int) : (cellsF L)[8]? = some (.bool true) := by
  rw [cellsF, List.getElem?_toArray, List.getElem?_append_right (by rw [regL_len]; exact Nat.le_refl _), regL_len]; rfl
theorem regL_congr {L M : Nat → Int} (h : ∀ j, j < 8 → L j = M j) : regL L = regL M := by
  apply List.ext_getElem?
  intro j
  by_cases hj : j < 8
  · rw [regL_get hj, regL_get hj, h j hj]
  · rw [List.getElem?_eq_none (by rw [regL_len]; omega), List.getElem?_eq_none (by rw [regL_len]; omega)]

/-- Is there such a register? What Get, Set, Load answer, and the registers behind them. -/
def okR (i : Int) : Bool := decide (0 ≤ i ∧ i < 8)
def errR (i : Int) : Int := if okR i then 0 else 1
def getR (L : Nat → Int) (i : Int) : Int := if okR i then L i.toNat else 0
def setR (L : Nat → Int) (i v : Int) : Nat → Int := if okR i then fun j => if j = i.toNat then v else L j else L
def errL (n : Nat) : Int := if n = 8 then 0 else 1
def loadR (L : Nat → Int) (n : Nat) (A : Nat → Int) : Nat → Int := if n = 8 then A else L
theorem okR_split {i : Int} (h : okR i = true) : ∃ g : Nat, i = g ∧ g < 8 := by
  simp [okR] at h
  exact ⟨i.toNat, by omega, by omega⟩
theorem okR_no {i : Int} (h : okR i = false) : ¬ (0 ≤ i ∧ i < 8) := by simp [okR] at h; omega
theorem okR_nat {g : Nat} (h : g < 8) : okR (g : Int) = true := by simp [okR]; omega

theorem cells_put (L M : Nat → Int) : ((cellsF L).toList.take 0 ++ regL M ++ (cellsF L).toList.drop (0 + (regL M).length)).toArray = cellsF M := by
  have : (cellsF L).toList.drop (0 + (regL M).length) = [.bool true] := by
    rw [regL_len, cellsF]
    show List.drop (0 + 8) (regL L ++ [.bool true]) = _
    rw [List.drop_append_of_le_length (by rw [regL_len]; omega), List.drop_eq_nil_of_le (by rw [regL_len]; omega)]
    rfl
  rw [this]
  simp [cellsF]
/-- A list of eight words of the call's own begins at the start of block r. -/
def ListIs (w : World) (r : Nat) (L : Nat → Int) : Prop := ∃ cur, w.heap[r]? = some (.cells cur 64 (0, 0)) ∧ ∀ j, j < 8 → cur[j]? = some (.int .u64 (L j))
theorem ListIs.cell {w : World} {r : Nat} {L : Nat → Int} (h : ListIs w r L) {j : Nat} (hj : j < 8) : w.cell? ⟨r, j, none⟩ = some (.int .u64 (L j)) := by
  obtain ⟨cur, h1, h2⟩ := h
  rw [cell_of_row w r j _ _ _ h1, h2 j hj]
theorem ListIs.free {w : World} {r : Nat} {L : Nat → Int} (h : ListIs w r L) (j : Nat) : w.frozen? ⟨r, j, none⟩ = false := by
  obtain ⟨cur, h1, _⟩ := h
  exact frozen_of_row w r j _ _ h1
theorem ListIs.on {w w' : World} {r : Nat} {L : Nat → Int} (h : ListIs w r L) (hk : w'.heap[r]? = w.heap[r]?) : ListIs w' r L := by
  obtain ⟨cur, h1, h2⟩ := h
  exact ⟨cur, hk.trans h1, h2⟩
theorem ListIs.lt {w : World} {r : Nat} {L : Nat → Int} (h : ListIs w r L) : r < w.heap.size := by
  obtain ⟨cur, h1, _⟩ := h
  exact (Array.getElem?_eq_some_iff.1 h1).1
theorem ListIs.more {w w' : World} {r : Nat} {L : Nat → Int} (h : ListIs w r L) (hB : Below w.heap.size w w') : ListIs w' r L := h.on (hB.block r h.lt)
theorem ListIs.put {w : World} {r : Nat} {L : Nat → Int} (h : ListIs w r L) {c : Nat} (hc : c < 8) (v : Int) : ListIs (w.setCell ⟨r, c, none⟩ (.int .u64 v)) r (setR L c v) := by
  obtain ⟨cur, h1, h2⟩ := h
  refine ⟨cur.setIfInBounds c (.int .u64 v), heap_setCell_same _ _ _ _ _ _ h1, fun j hj => ?_⟩
  rw [Array.getElem?_setIfInBounds]
  simp only [setR, okR_nat hc, if_true, Int.toNat_natCast]
  by_cases e : c = j
  · subst e
    have hlt : c < cur.size := by
      rcases Nat.lt_or_ge c cur.size with h | h
      · exact h
      · have := h2 c hc; rw [Array.getElem?_eq_none h] at this; cases this
    simp [hlt]
  · rw [if_neg e, h2 j hj, if_neg (Ne.symm e)]
theorem below_drewN {B : Nat} {a w : World} (h : Below B a w) (n : Nat) : Below B a (w.drewN n) := ⟨h.os, h.tape, h.output, h.size, h.block⟩

/-! ### A slice of integers that came in -/
/-- What a list of words that came in holds: it lies below n₀, and if it has eight, they are A. -/
def Eight (n₀ : Nat) (W : World) (a : Option Addr) (len : Nat) (A : Nat → Int) : Prop :=
  len = 8 → ∃ b off, a = some ⟨b, off, none⟩ ∧ b < n₀ ∧ ∀ j, j < 8 → W.cell? ⟨b, off + j, none⟩ = some (.int .u64 (A j))
theorem Came.eight {n₀ : Nat} {W : World} {a : Option Addr} {len : Nat} (h : Came .u64 n₀ W a len) : ∃ A, Eight n₀ W a len A := by
  rcases h with h | ⟨b, off, e, hb, hc⟩
  · exact ⟨fun _ => 0, fun h' => by omega⟩
  · by_cases h8 : len = 8
    · subst h8
      refine ⟨fun j => if hj : j < 8 then (hc j hj).choose else 0, fun _ => ⟨b, off, e, hb, fun j hj => ?_⟩⟩
      simp only [hj, dif_pos]
      exact (hc j hj).choose_spec.1
    · exact ⟨fun _ => 0, fun h' => absurd h' h8⟩
theorem Eight.below {n₀ : Nat} {W W' : World} {a : Option Addr} {len : Nat} {A : Nat → Int} (h : Eight n₀ W a len A) (hB : Below n₀ W W') : Eight n₀ W' a len A := by
  intro h8
  obtain ⟨b, off, e, hb, hc⟩ := h h8
  exact ⟨b, off, e, hb, fun j hj => (hB.cell (p := ⟨b, off + j, none⟩) hb).trans (hc j hj)⟩

end Go.Proofs.YtoipfcmjphlmfaaDoor.Pregs

/- What isMade, register, New, Get and Set of package regs answer, and what they do to the registers, for every argument that their types allow. -/
namespace Go.Proofs.YtoipfcmjphlmfaaDoor.Pregs
open Go.Proofs.YtoipfcmjphlmfaaDoor.Pbase
open Go.RowKit
set_option linter.unusedVariables false

/-! ### Get, Set -/
/-! ### New -/
theorem cells_zero : cellsF (fun _ => 0) = #[.int .u64 0, .int .u64 0, .int .u64 0, .int .u64 0, .int .u64 0, .int .u64 0, .int .u64 0, .int .u64 0, .bool true] := rfl
end Go.Proofs.YtoipfcmjphlmfaaDoor.Pregs

/- What All and Load of package regs answer, and what they do to the registers, for every argument that their types allow; and that the program computes at all. -/
namespace Go.Proofs.YtoipfcmjphlmfaaDoor.Pregs
open Go.Proofs.YtoipfcmjphlmfaaDoor.Pbase
open Go.RowKit
set_option linter.unusedVariables false

set_option maxRecDepth 100000 in
theorem infoWord : (Tryd.prog.info? 64).map (fun i => (i.zero, i.size, i.bytes)) = some (some (.int .u64 0), 1, 8) := by kernel_rfl
set_option maxRecDepth 100000 in
theorem wordSize : (Tryd.prog.info? 64).map (·.size) = some 1 := by kernel_rfl
theorem made_words : madeCells #[.int .u64 0] 8 = (regL fun _ => 0).toArray := by
  apply Array.ext_getElem?
  intro i
  by_cases hi : i < 8
  · have e : (regL fun _ => 0).toArray[i]? = some (.int .u64 0) := by rw [List.getElem?_toArray]; exact regL_get hi
    rw [e]
    simp [madeCells, hi, Nat.mod_one]
  · rw [Array.getElem?_eq_none (by rw [size_madeCells]; omega), Array.getElem?_eq_none (by rw [List.size_toArray, regL_len]; omega)]
theorem make_words (w : World) :
    (Instr.makeSlice 80 (.int .i64 8) (.int .i64 8)).run Tryd.prog w = .ok (.slice (some ⟨w.heap.size, 0, none⟩) 8 8) (w.alloc (.cells (regL fun _ => 0).toArray 64)) := by
  obtain ⟨i0, hi, hz0, hz1, hz2⟩ := info_parts infoWord
  have := run_make (P := Tryd.prog) w 80 64 i0 _ Tryd.underlying80 hi hz0 .i64 .i64 8 8 (by omega) (by omega) (by rw [hz2]; omega) (by omega)
  rw [hz1] at this
  simpa [Value.cells, made_words] using this

/-- The world behind All: a list of its own. -/
def allW (w : World) (L : Nat → Int) : World := w.alloc (.cells (regL L).toArray 64)
theorem allW_is (w : World) (L : Nat → Int) : ListIs (allW w L) w.heap.size L :=
  ⟨_, heap_alloc_new _ _, fun j hj => by rw [List.getElem?_toArray]; exact regL_get hj⟩
theorem allW_below (w : World) (L : Nat → Int) : Below w.heap.size w (allW w L) := (Below.refl _ w).alloc (Nat.le_refl _) _
theorem allW_size (w : World) (L : Nat → Int) : (allW w L).heap.size = w.heap.size + 1 := by simp [allW]
theorem allW_eq (w : World) (L : Nat → Int) (Z : Array Value) (hZ : Z.size = 8) :
    (w.alloc (.cells Z 64)).setRow w.heap.size (Z.toList.take 0 ++ (regL L ++ Z.toList.drop (0 + (regL L).length))).toArray = allW w L := by
  rw [World.setRow_alloc_new]
  have : Z.toList.drop (0 + (regL L).length) = [] := by rw [List.drop_eq_nil_iff]; simp [regL_len, hZ]
  rw [this]
  simp [allW]
/-! ### Load -/
/-! ### awake -/
end Go.Proofs.YtoipfcmjphlmfaaDoor.Pregs

/- What Swap of package regs answers, and what it does to the registers, for every two files. -/
namespace Go.Proofs.YtoipfcmjphlmfaaDoor.Pregs
open Go.Proofs.YtoipfcmjphlmfaaDoor.Pbase
open Go.RowKit
set_option linter.unusedVariables false
set_option linter.unusedSimpArgs false

theorem at_of_drop {ops : Array Oper} {i : Nat} {oi : Oper} {tl : List Oper} (h : ops.toList.drop i = oi :: tl) : ops[i]? = some oi := by
  have h1 : (ops.toList.drop i)[0]? = some oi := by rw [h]; rfl
  rw [List.getElem?_drop] at h1
  simpa using h1
/-- Operation i yields its value in every world that meets S: it is taken first. -/
theorem takeV {P : Program} {ops : Array Oper} {Q : Exit → Act → World → Prop} {md : Region.Mode} {S : World → Prop} {i : Nat} {oi : Oper} {tl : List Oper} {v : Value} {fuel : Nat} {listed : Array Bool} {a : Act} {w : World}
    (hi : ops.toList.drop i = oi :: tl) (hs : Region.noSelect ops = true) (hf : Region.free md ops listed i = true) (hr : (Region.ready md ops listed).contains i = true)
    (hQ : ∀ c a w, Q (.panic c) (a.put oi.dst v) w → Q (.panic c) a w) (hw : Region.wanted oi (yielded ops a.tmps) = true) (hS : S w)
    (hy : ∀ w, S w → (execOp a.eval oi).run P w = .ok (.value v) w)
    (h : wpAnyH P md ops Q S fuel (listed.setIfInBounds i true) (a.put oi.dst v) w) : wpAnyH P md ops Q S (fuel + 1) listed a w :=
  wpAnyH_take (at_of_drop hi) hs hf hr hQ (Or.inl ⟨hw, hy⟩) hS h
/-- Operation i is one of those that may come up. -/
theorem consOne {P : Program} {ops : Array Oper} {Q : Exit → Act → World → Prop} {md : Region.Mode} {S : World → Prop} {i : Nat} {oi : Oper} {tl : List Oper} {fuel : Nat} {listed : Array Bool} {a : Act} {w : World} {rs : List Nat}
    (hi : ops.toList.drop i = oi :: tl)
    (h : ∀ K' : Act → World → Prop, Shut (∀ a w, S w → (S w → wpAnyH P md ops Q S fuel (listed.setIfInBounds i true) a w) → K' a w) → if Region.wanted oi (yielded ops a.tmps) = true then Oper.wp P oi a w K' Q else K' (a.put oi.dst undef) w)
    (hs : AllReadyH P md ops Q S fuel listed a w rs) : AllReadyH P md ops Q S fuel listed a w (i :: rs) := AllReadyH.cons (at_of_drop hi) h hs
/-- A whole array is read; is written: as one step. -/
theorem step_load {P : Program} {ops : Array Oper} {o : Oper} {a : Act} {w : World} {K : Act → World → Prop} {Q : Exit → Act → World → Prop} {E : Prop} (hg : o.guard = none) (ty : TypeId) (x : Operand) (ho : o.op = .load ty x)
    (ad : Addr) (hx : a.eval x = .pointer (some ad)) (v : Value) (hrun : (loadVar ty ad).run P w = .ok v w) (hK : K (a.put o.dst v) w) : if Region.wanted o (yielded ops a.tmps) = true then Oper.wp P o a w K Q else E := by
  have hw : Region.wanted o (yielded ops a.tmps) = true := by simp [Region.wanted, hg]
  rw [if_pos hw]
  unfold Oper.wp execOp
  simp only [ho, hx, Instr.loadAt, Instr.sureAddr, Sem.run_bind, Sem.run_pure, Result.andThen_ok, hrun]
  exact hK
theorem step_store {P : Program} {ops : Array Oper} {o : Oper} {a : Act} {w : World} {K : Act → World → Prop} {Q : Exit → Act → World → Prop} {E : Prop} (hg : o.guard = none) (ty : TypeId) (x y : Operand) (ho : o.op = .store ty x y)
    (ad : Addr) (hx : a.eval x = .pointer (some ad)) (v : Value) (hy : a.eval y = v) (w' : World) (hrun : (storeVar ty ad v).run P w = .ok () w') (hK : K (a.put o.dst undef) w') : if Region.wanted o (yielded ops a.tmps) = true then Oper.wp P o a w K Q else E := by
  have hw : Region.wanted o (yielded ops a.tmps) = true := by simp [Region.wanted, hg]
  rw [if_pos hw]
  unfold Oper.wp execOp
  simp only [ho, hx, hy, Instr.storeAt, Instr.sureAddr, Sem.run_bind, Sem.run_pure, Result.andThen_ok, hrun]
  exact hK
/-- The world behind Swap. -/
def swapW (w : World) (p q : Nat) (L M : Nat → Int) : World := (w.drew.setRow p (cellsF M)).setRow q (cellsF L)
end Go.Proofs.YtoipfcmjphlmfaaDoor.Pregs

/- What the statements' own comparison of two lists answers at two lists of the same eight words. -/
namespace Go.Proofs.YtoipfcmjphlmfaaDoor.Pregs
open Go.Proofs.YtoipfcmjphlmfaaDoor.Pbase
open Go.RowKit
set_option linter.unusedVariables false

end Go.Proofs.YtoipfcmjphlmfaaDoor.Pregs

/- Two files side by side, and two lists that All answered. -/
namespace Go.Proofs.YtoipfcmjphlmfaaDoor.Pregs
open Go.Proofs.YtoipfcmjphlmfaaDoor.Pbase
open Go.RowKit
set_option linter.unusedVariables false

theorem below_set {B b : Nat} {a w : World} (h : Below B a w) (hb : B ≤ b) (cs : Array Value) : Below B a (w.setRow b cs) :=
  ⟨h.os, h.tape, h.output, by rw [size_setRow]; exact h.size, fun i hi => (setRow_other w b i cs (by omega)).trans (h.block i hi)⟩
end Go.Proofs.YtoipfcmjphlmfaaDoor.Pregs

/- The document's own registers (a list): where they lie, and what each call answers and does, for every argument. -/
namespace Go.Proofs.YtoipfcmjphlmfaaDoor.Pregs
open Go.Proofs.YtoipfcmjphlmfaaDoor.Pbase
open Go.RowKit
set_option linter.unusedVariables false

/-- A row of the call's own that holds eight words is a list. -/
theorem owns_list {w : World} {base : Nat} {v : Value} {L : Nat → Int} (h : w.ownsRow base 64 1 v 8 (regL L)) : ∃ g cap, v = .slice (some ⟨g, 0, none⟩) 8 cap ∧ base ≤ g ∧ ListIs w g L := by
  rcases h.2 with ⟨_, e⟩ | ⟨g, cap, cur, e, hg, hh, _, _, _, ht⟩
  · cases e
  · refine ⟨g, cap, e, hg, cur, hh, fun j hj => ?_⟩
    have := congrArg (fun l => l[j]?) ht
    simp only [Nat.mul_one, List.getElem?_take, hj, if_true, Array.getElem?_toList, regL_get hj] at this
    exact this
theorem own_empty (w : World) : (w.alloc (.cells #[] 64)).ownsRow w.heap.size 64 1 (.slice (some ⟨w.heap.size, 0, none⟩) 0 0) 0 [] :=
  World.ownsRow_made w #[] 0 (Nat.le_refl _) (by decide) rfl
theorem own_ge {w : World} {base : Nat} {e : TypeId} {v : Value} {n : Nat} {xs : List Value} (h : w.ownsRow base e 1 v n xs) : ∀ k, v.ownBlock = some k → base ≤ k := fun k hk => (h.lt k hk).1
theorem eight_cells {w : World} {b off : Nat} {A : Nat → Int} (h : ∀ j, j < 8 → w.cell? ⟨b, off + j, none⟩ = some (.int .u64 (A j))) : ∀ j u, (regL A)[j]? = some u → w.cell? ((⟨b, off, none⟩ : Addr).add j) = some u := by
  intro j u hu
  have hj : j < 8 := by have := (List.getElem?_eq_some_iff.1 hu).1; rwa [regL_len] at this
  rw [Addr.add_mid, h j hj, ← hu, regL_get hj]

/-! ### Get, Set -/
/-! ### All, Load -/
end Go.Proofs.YtoipfcmjphlmfaaDoor.Pregs

/- The document's registers: what New makes; and the two files side by side. -/
namespace Go.Proofs.YtoipfcmjphlmfaaDoor.Pregs
open Go.Proofs.YtoipfcmjphlmfaaDoor.Pbase
open Go.RowKit
set_option linter.unusedVariables false

theorem one_new (w : World) (v : Value) (t : TypeId) : ∀ j u, ([v] : List Value)[j]? = some u → (w.alloc (.cells #[v] t)).cell? ((⟨w.heap.size, 0, none⟩ : Addr).add j) = some u := by
  intro j u hj
  match j, hj with
  | 0, hj => simp at hj; subst hj; simp [Addr.add]
theorem ownsRow_on {w w' : World} {base : Nat} {e : TypeId} {size : Nat} {v : Value} {n : Nat} {xs : List Value} (h : w.ownsRow base e size v n xs) (hk : ∀ k, base ≤ k → k < w.heap.size → w'.heap[k]? = w.heap[k]?) : w'.ownsRow base e size v n xs := by
  refine ⟨h.1, or_right h.2 ?_⟩
  rintro ⟨g, cap, cur, hv, hg, hh, r⟩
  exact ⟨g, cap, cur, hv, hg, by rw [hk g hg (Array.getElem?_eq_some_iff.1 hh).1]; exact hh, r⟩
theorem ownsRow_succ {w : World} {base : Nat} {e : TypeId} {v : Value} {n : Nat} {xs : List Value} (h : w.ownsRow base e 1 v (n + 1) xs) : ∃ g cap, v = .slice (some ⟨g, 0, none⟩) (n + 1) cap := by
  rcases h.2 with ⟨_, e⟩ | ⟨g, cap, _, e, _⟩
  · cases e
  · exact ⟨g, cap, e⟩
/-! ### Side by side -/
end Go.Proofs.YtoipfcmjphlmfaaDoor.Pregs
