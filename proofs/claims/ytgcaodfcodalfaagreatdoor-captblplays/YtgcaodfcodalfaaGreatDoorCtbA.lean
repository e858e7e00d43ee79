/- A walk through a table: where it lies, and what each of its steps answers and does; a row of steps, up to the first that is refused. -/
import Derived.Test.YtgcaodfcodalfaaGreatDoorCtbG
import Derived.Test.YtgcaodfcodalfaaGreatDoorBunSlot
import Derived.Test.YtgcaodfcodalfaaGreatDoorBunHead
import Derived.Test.YtgcaodfcodalfaaGreatDoorBunRadix
import Derived.BigQuiet
import Derived.BigRegion
import Derived.Deep.RegionHeld3
import Derived.Deep.CutBlock
namespace Go.Proofs.YtgcaodfcodalfaaGreatDoor.Pcaptbl
open Go.Proofs.YtgcaodfcodalfaaGreatDoor.Pbase Go.Proofs.YtgcaodfcodalfaaGreatDoor.Pmem Go.Proofs.YtgcaodfcodalfaaGreatDoor.Pradix Go.Proofs.YtgcaodfcodalfaaGreatDoor.Pslot
open Go.RowKit
set_option linter.unusedVariables false

/-! ### a memory and the four tables -/
theorem ws_ne {w : World} {p b N : Nat} {M : Nat → Nat → Int} (hM : MemIs w p b N M) (h : Ws w) : 2 ≠ b := by
  intro e
  obtain ⟨t, fr, hr⟩ := h.s
  rw [e, hM.row] at hr
  simp only [Option.some.injEq, Obj.cells.injEq] at hr
  have := congrArg Array.size hr.1
  rw [cellsM_size] at this
  simp at this
  omega
theorem ws_but {w w' : World} {b : Nat} (h : Ws w) (hB : But b w w') (hn : 2 ≠ b) : Ws w' :=
  ⟨Nat.lt_of_lt_of_le h.ls hB.size, by obtain ⟨t, fr, hr⟩ := h.s; exact ⟨t, fr, (hB.block 2 h.ls hn).trans hr⟩⟩
structure Mx (w : World) (p b N : Nat) (M : Nat → Nat → Int) : Prop where
  mt : Mt w p b N M
  th : Phead.TabW w
  ts : Ws w
theorem Mx.on {w w' : World} {p b N : Nat} {M : Nat → Nat → Int} (h : Mx w p b N M) (hB : Below w.heap.size w w') : Mx w' p b N M :=
  ⟨h.mt.on hB, h.th.on hB, h.ts.on hB⟩
theorem Mx.but {w w' : World} {p b N : Nat} {M M' : Nat → Nat → Int} (h : Mx w p b N M) (hM : MemIs w' p b N M') (hF : Fit M') (hB : But b w w') : Mx w' p b N M' :=
  ⟨h.mt.but hM hF hB, h.th.but hB (Phead.tab_ne h.mt.mem h.th), ws_but h.ts hB (ws_ne h.mt.mem h.ts)⟩
theorem but_on {b : Nat} {a w w' : World} (h : But b a w) (hB : Below a.heap.size w w') : But b a w' :=
  ⟨hB.os.trans h.os, hB.tape.trans h.tape, hB.output.trans h.output, Nat.le_trans h.size hB.size, fun i hi hn => (hB.block i hi).trans (h.block i hi hn)⟩
theorem but_new {b : Nat} {a w : World} (h : But b a w) {q : Nat} (hq : a.heap.size ≤ q) (j : Nat) (v : Value) : But b a (w.setCell ⟨q, j, none⟩ v) :=
  but_on h ((Below.refl a.heap.size w).setCell (p := ⟨q, j, none⟩) hq v)
theorem but_own {b : Nat} {a w : World} (h : But b a w) (j : Nat) (v : Value) : But b a (w.setCell ⟨b, j, none⟩ v) := by
  have hB := (Below.refl 0 w).setCell (p := ⟨b, j, none⟩) (Nat.zero_le _) v
  exact ⟨hB.os.trans h.os, hB.tape.trans h.tape, hB.output.trans h.output, Nat.le_trans h.size hB.size, fun i hi hn => (heap_setCell_other _ _ _ _ hn).trans (h.block i hi hn)⟩

/-! ### where a walk stands, and what it saw there last -/
structure Wk where
  a : Int
  fl : Int
  fr : Int
  at_ : Int
  lo : Int
  hk : Int
  hl : Int
  hz : Bool
  ht : Int
  k : Int
  r : Int
  t : Int
  l : Int
  e : Int
  x : Int
def Wk.cells (v : Wk) (p : Nat) : Array Value := #[.pointer (some ⟨p, 0, none⟩), .int .i64 v.a, .int .i64 v.fl, .int .i64 v.fr, .int .i64 v.at_, .int .i64 v.lo, .int .i64 v.hk, .int .i64 v.hl, .bool v.hz, .int .i64 v.ht, .int .i64 v.k, .int .i64 v.r, .int .i64 v.t, .int .i64 v.l, .int .i64 v.e, .int .i64 v.x]
structure Wi (w0 w : World) (p b N : Nat) (M : Nat → Nat → Int) (B : Nat) (v : Wk) : Prop where
  mx0 : Mx w0 p b N M
  below : Below w0.heap.size w0 w
  lo : w0.heap.size ≤ B
  row : w.heap[B]? = some (.cells (v.cells p) 84 (0, 0))
  ba : -9223372036854775808 ≤ v.a ∧ v.a ≤ 9223372036854775807
section
variable {w0 w w' : World} {p b N : Nat} {M : Nat → Nat → Int} {B : Nat} {v : Wk}
theorem Wi.mx (h : Wi w0 w p b N M B v) : Mx w p b N M := h.mx0.on h.below
theorem Wi.lt (h : Wi w0 w p b N M B v) : B < w.heap.size := (Array.getElem?_eq_some_iff.1 h.row).1
theorem Wi.on (h : Wi w0 w p b N M B v) (hB : Below w.heap.size w w') : Wi w0 w' p b N M B v :=
  ⟨h.mx0, h.below.trans (hB.mono h.below.size), h.lo, (hB.block B h.lt).trans h.row, h.ba⟩
theorem Wi.but (h : Wi w0 w p b N M B v) {q : Nat} (hB : But q w w') (hq : w0.heap.size ≤ q) (hn : B ≠ q) : Wi w0 w' p b N M B v :=
  ⟨h.mx0, h.below.trans (hB.below hq h.below.size), h.lo, (hB.block B h.lt hn).trans h.row, h.ba⟩
theorem Wi.fz (h : Wi w0 w p b N M B v) (j : Nat) : w.frozen? ⟨B, j, none⟩ = false := frozen_of_row _ _ _ _ _ h.row
theorem Wi.c0 (h : Wi w0 w p b N M B v) : w.cell? ⟨B, 0, none⟩ = some (.pointer (some ⟨p, 0, none⟩)) := (cell_of_row _ _ _ _ _ _ h.row).trans rfl
theorem Wi.c1 (h : Wi w0 w p b N M B v) : w.cell? ⟨B, 1, none⟩ = some (.int .i64 v.a) := (cell_of_row _ _ _ _ _ _ h.row).trans rfl
theorem Wi.c2 (h : Wi w0 w p b N M B v) : w.cell? ⟨B, 2, none⟩ = some (.int .i64 v.fl) := (cell_of_row _ _ _ _ _ _ h.row).trans rfl
theorem Wi.c3 (h : Wi w0 w p b N M B v) : w.cell? ⟨B, 3, none⟩ = some (.int .i64 v.fr) := (cell_of_row _ _ _ _ _ _ h.row).trans rfl
theorem Wi.c4 (h : Wi w0 w p b N M B v) : w.cell? ⟨B, 4, none⟩ = some (.int .i64 v.at_) := (cell_of_row _ _ _ _ _ _ h.row).trans rfl
theorem Wi.c5 (h : Wi w0 w p b N M B v) : w.cell? ⟨B, 5, none⟩ = some (.int .i64 v.lo) := (cell_of_row _ _ _ _ _ _ h.row).trans rfl
theorem Wi.c6 (h : Wi w0 w p b N M B v) : w.cell? ⟨B, 6, none⟩ = some (.int .i64 v.hk) := (cell_of_row _ _ _ _ _ _ h.row).trans rfl
theorem Wi.c7 (h : Wi w0 w p b N M B v) : w.cell? ⟨B, 7, none⟩ = some (.int .i64 v.hl) := (cell_of_row _ _ _ _ _ _ h.row).trans rfl
theorem Wi.c9 (h : Wi w0 w p b N M B v) : w.cell? ⟨B, 9, none⟩ = some (.int .i64 v.ht) := (cell_of_row _ _ _ _ _ _ h.row).trans rfl
theorem Wi.c8 (h : Wi w0 w p b N M B v) : w.cell? ⟨B, 8, none⟩ = some (.bool v.hz) := (cell_of_row _ _ _ _ _ _ h.row).trans rfl
theorem Wi.c10 (h : Wi w0 w p b N M B v) : w.cell? ⟨B, 10, none⟩ = some (.int .i64 v.k) := (cell_of_row _ _ _ _ _ _ h.row).trans rfl
theorem Wi.c11 (h : Wi w0 w p b N M B v) : w.cell? ⟨B, 11, none⟩ = some (.int .i64 v.r) := (cell_of_row _ _ _ _ _ _ h.row).trans rfl
theorem Wi.c12 (h : Wi w0 w p b N M B v) : w.cell? ⟨B, 12, none⟩ = some (.int .i64 v.t) := (cell_of_row _ _ _ _ _ _ h.row).trans rfl
theorem Wi.c13 (h : Wi w0 w p b N M B v) : w.cell? ⟨B, 13, none⟩ = some (.int .i64 v.l) := (cell_of_row _ _ _ _ _ _ h.row).trans rfl
theorem Wi.c14 (h : Wi w0 w p b N M B v) : w.cell? ⟨B, 14, none⟩ = some (.int .i64 v.e) := (cell_of_row _ _ _ _ _ _ h.row).trans rfl
theorem Wi.c15 (h : Wi w0 w p b N M B v) : w.cell? ⟨B, 15, none⟩ = some (.int .i64 v.x) := (cell_of_row _ _ _ _ _ _ h.row).trans rfl
/-- A cell of it is written. -/
theorem Wi.set (h : Wi w0 w p b N M B v) (v' : Wk) (j : Nat) (x : Value) (hc : (v.cells p).setIfInBounds j x = v'.cells p) (ha : v'.a = v.a) : Wi w0 (w.setCell ⟨B, j, none⟩ x) p b N M B v' :=
  ⟨h.mx0, bst h.below h.lo _ _, h.lo, by rw [← hc]; exact heap_setCell_same _ _ _ _ _ _ h.row, by rw [ha]; exact h.ba⟩
end

/-! ### a row of steps -/
/-- Steps in their order, up to the first that is refused: what they leave, and the error. -/
abbrev Stp (σ : Type) := Nat × Value × (σ → σ × Int)
def chain {σ : Type} : List (Stp σ) → σ → σ × Int
  | [], s => (s, 0)
  | c :: r, s => if (c.2.2 s).2 = 0 then chain r (c.2.2 s).1 else c.2.2 s
theorem chain_nil {σ : Type} (s : σ) : chain [] s = (s, 0) := rfl
theorem chain_cons {σ : Type} (c : Stp σ) (r : List (Stp σ)) (s : σ) : chain (c :: r) s = if (c.2.2 s).2 = 0 then chain r (c.2.2 s).1 else c.2.2 s := rfl
set_option maxRecDepth 100000 in
theorem follow_any {σ : Type} (P : σ → World → Prop) (D n : Nat) (fs : List (Stp σ)) (w : World) (s : σ) (hn : n = fs.length) (hn16 : n ≤ 16) (h0 : P s w)
    (hE : ∀ (j : Nat) (c : Stp σ), fs[j]? = some c → ∀ (ar : Array Value) (w : World), (callFunc c.1 ar).run Tryz.prog w = .ok (.enter c.1 ar) w)
    (hD : ∀ (j : Nat) (c : Stp σ) (s : σ) (w : World), fs[j]? = some c → P s w → w.cell? ⟨D, j, none⟩ = some (.func (.func c.1) #[c.2.1] #[]))
    (hs : ∀ (j : Nat) (c : Stp σ) (s : σ) (w : World), fs[j]? = some c → P s w → Calls Tryz.prog c.1 #[c.2.1] w fun x w' => x = .returned (.int .i64 (c.2.2 s).2) ∧ P (c.2.2 s).1 w') :
    Calls Tryz.prog 45 #[.slice (some ⟨D, 0, none⟩) n n] w fun x w' => x = .returned (.int .i64 (chain fs s).2) ∧ P (chain fs s).1 w' := by
  have HN : Hid (n = fs.length) := hn
  have HE : Hid (∀ (j : Nat) (c : Stp σ), fs[j]? = some c → ∀ (ar : Array Value) (w : World), (callFunc c.1 ar).run Tryz.prog w = .ok (.enter c.1 ar) w) := hE
  obtain ⟨R, hR⟩ : ∃ R, chain fs s = R := ⟨_, rfl⟩
  rw [hR]
  have HR : Hid (chain fs s = R) := hR
  have HD : Hid (∀ (j : Nat) (c : Stp σ) (s : σ) (w : World), fs[j]? = some c → P s w → w.cell? ⟨D, j, none⟩ = some (.func (.func c.1) #[c.2.1] #[])) := hD
  have HS : Hid (∀ (j : Nat) (c : Stp σ) (s : σ) (w : World), fs[j]? = some c → P s w → Calls Tryz.prog c.1 #[c.2.1] w fun x w' => x = .returned (.int .i64 (c.2.2 s).2) ∧ P (c.2.2 s).1 w') := hs
  have H0 : Hid (P s w) := h0
  clear hn hD hs h0 hE hR
  go_enter Tryz.func45, Tryz.ntmps45
  go_wp2
  go_loopw [8] (fun i wr => ∃ k : Nat, k ≤ n ∧ i = .int .i64 k ∧ ∃ s', P s' wr ∧ chain (fs.drop k) s' = R) (fun i _ => n - (intOf i).toNat)
  case atStart => exact ⟨0, by omega, rfl, s, H0.out, HR.out⟩
  case round =>
    obtain ⟨k, hk, rfl, s', hP, hc⟩ := hrel
    rcases Nat.lt_or_ge k n with hlt | hge
    · have hki : (k : Int) < (n : Int) := by omega
      have hw : wrap64 ((k : Int) + 1) = (k : Int) + 1 := by unfold wrap64; omega
      have hkl : k < fs.length := by have := HN.out; omega
      obtain ⟨c, hcv⟩ : ∃ c, fs[k]? = some c := ⟨_, List.getElem?_eq_getElem hkl⟩
      have hdrop : fs.drop k = c :: fs.drop (k + 1) := by
        rw [List.drop_eq_getElem_cons hkl]
        rw [List.getElem?_eq_getElem hkl] at hcv
        rw [Option.some.inj hcv]
      rw [hdrop] at hc
      rw [chain_cons] at hc
      have hrun := HE.out k c hcv
      have hcell := HD.out k c s' wr hcv hP
      have HC : Hid (Calls Tryz.prog c.1 #[c.2.1] wr fun x w' => x = .returned (.int .i64 (c.2.2 s').2) ∧ P (c.2.2 s').1 w') := HS.out k c s' wr hcv hP
      clear hP hcv hdrop HD HS
      generalize c.1 = fn at hcell HC hrun
      generalize c.2.1 = rc at hcell HC
      generalize c.2.2 s' = res at hc HC
      obtain ⟨s2, e⟩ := res
      simp only at hc HC
      by_cases he : e = 0
      · subst he
        rw [if_pos rfl] at hc
        have HX : Hid (chain (fs.drop (k + 1)) s2 = R) := hc
        clear hc
        go_wp2_with (first
          | (refine HC.out.mono ?_; rintro x1 w1 ⟨rfl, hp1⟩; have H1 : Hid (P s2 w1) := hp1; clear hp1 HC)
          | fail)
        go_roundw
        case rel => exact ⟨k + 1, by omega, by go_num, s2, H1.out, HX.out⟩
        case measure => simp [intOf]; omega
      · rw [if_neg he] at hc
        have he' : (e != 0) = true := by simp [he]
        have HX : Hid ((s2, e) = R) := hc
        clear hc he
        go_wp2_with (first
          | (refine HC.out.mono ?_; rintro x1 w1 ⟨rfl, hp1⟩; have H1 : Hid (P s2 w1) := hp1; clear hp1 HC)
          | fail)
        go_ret
        obtain rfl := HX.out
        exact ⟨rfl, H1.out⟩
    · obtain rfl : k = n := by omega
      have hd : fs.drop k = [] := List.drop_eq_nil_of_le (by have := HN.out; omega)
      rw [hd] at hc
      rw [chain_nil] at hc
      have HX : Hid ((s', 0) = R) := hc
      have HP : Hid (P s' wr) := hP
      clear hP hc hd
      go_wp2
      go_ret
      obtain rfl := HX.out
      exact ⟨rfl, HP.out⟩
end Go.Proofs.YtgcaodfcodalfaaGreatDoor.Pcaptbl
