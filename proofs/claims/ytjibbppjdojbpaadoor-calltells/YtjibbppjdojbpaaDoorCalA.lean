/- The tables of package call; what its closures, look, Needs, Word, Number and width answer, for all arguments (written by mk_a.py). -/
import Derived.Test.YtjibbppjdojbpaaDoorCalF
import Derived.Deep.MidRow
import Derived.Deep.RegionHeld3
import Derived.BigRegion
import Derived.OwnWalk
import Derived.Outline
import Derived.Deep.CutBlock
namespace Go.Proofs.YtjibbppjdojbpaaDoor.Pcall
open Go.Proofs.YtjibbppjdojbpaaDoor.Pbase Go.Proofs.YtjibbppjdojbpaaDoor.Pfield
open Go.RowKit M
set_option linter.unusedVariables false

/-! ### the tables -/
def knA : Array Value := #[.string ⟨#[110, 117, 108, 108]⟩, .int .i64 0, .string ⟨#[116, 121, 112, 101]⟩, .int .i64 3, .string ⟨#[117, 110, 116, 121, 112, 101]⟩, .int .i64 2, .string ⟨#[116, 98, 108]⟩, .int .i64 3, .string ⟨#[112, 103, 116]⟩, .int .i64 3, .string ⟨#[99, 111, 109, 112]⟩, .int .i64 5, .string ⟨#[116, 104, 100]⟩, .int .i64 5, .string ⟨#[116, 99, 97, 112]⟩, .int .i64 3, .string ⟨#[114, 99, 118]⟩, .int .i64 4, .string ⟨#[99, 111, 110, 115]⟩, .int .i64 3, .string ⟨#[100, 101, 99, 111, 110, 115]⟩, .int .i64 2, .string ⟨#[102, 114, 101, 101, 122, 101]⟩, .int .i64 1, .string ⟨#[99, 111, 112, 121]⟩, .int .i64 4, .string ⟨#[100, 114, 111, 112]⟩, .int .i64 2, .string ⟨#[105, 110, 118]⟩, .int .i64 3, .string ⟨#[115, 110, 100]⟩, .int .i64 2, .string ⟨#[107, 105, 108, 108]⟩, .int .i64 1, .string ⟨#[112, 99, 111, 110, 115]⟩, .int .i64 3, .string ⟨#[112, 100, 101, 99, 111, 110]⟩, .int .i64 2, .string ⟨#[109, 97, 112]⟩, .int .i64 4, .string ⟨#[117, 110, 109, 97, 112]⟩, .int .i64 2, .string ⟨#[112, 99, 111, 112, 121]⟩, .int .i64 5, .string ⟨#[99, 97, 108, 108]⟩, .int .i64 1, .string ⟨#[114, 101, 116]⟩, .int .i64 0, .string ⟨#[115, 119, 105, 116, 99, 104]⟩, .int .i64 1, .string ⟨#[103, 105, 118, 101]⟩, .int .i64 4, .string ⟨#[115, 101, 110, 100]⟩, .int .i64 1, .string ⟨#[114, 101, 99, 118]⟩, .int .i64 1, .string ⟨#[108, 105, 110, 101]⟩, .int .i64 3, .string ⟨#[104, 97, 110, 100]⟩, .int .i64 3]
def wdA : Array Value := #[.int .i64 8, .int .i64 8, .int .i64 16, .int .i64 16, .int .i64 8, .int .i64 8]
structure TabK (w : World) : Prop where
  lt : 1 < w.heap.size
  row : ∃ t fr, w.heap[(1 : Nat)]? = some (.cells knA t fr)
theorem TabK.on {w w' : World} (h : TabK w) (hB : Below w.heap.size w w') : TabK w' :=
  ⟨Nat.lt_of_lt_of_le h.lt hB.size, by obtain ⟨t, fr, hr⟩ := h.row; exact ⟨t, fr, (hB.block 1 h.lt).trans hr⟩⟩
structure TabW (w : World) : Prop where
  lt : 0 < w.heap.size
  row : ∃ t fr, w.heap[(0 : Nat)]? = some (.cells wdA t fr)
theorem TabW.on {w w' : World} (h : TabW w) (hB : Below w.heap.size w w') : TabW w' :=
  ⟨Nat.lt_of_lt_of_le h.lt hB.size, by obtain ⟨t, fr, hr⟩ := h.row; exact ⟨t, fr, (hB.block 0 h.lt).trans hr⟩⟩
theorem TabW.cell {w : World} (h : TabW w) (j : Nat) : w.cell? ⟨0, j, none⟩ = wdA[j]? := by
  obtain ⟨t, fr, hr⟩ := h.row
  exact cell_of_row _ _ j _ _ _ hr
/-- Both tables. -/
structure Tz (w : World) : Prop where
  k : TabK w
  d : TabW w
theorem Tz.on {w w' : World} (h : Tz w) (hB : Below w.heap.size w w') : Tz w' := ⟨h.k.on hB, h.d.on hB⟩
theorem load_kinds {w : World} (h : TabK w) : (loadVar 74 ⟨1, 0, none⟩).run Tryd.prog w = .ok (.agg knA) w := by
  obtain ⟨t, fr, hr⟩ := h.row
  have := run_loadVar_mid (P := Tryd.prog) w 1 0 74 knA.toList _ (fun j v hj => by rw [Nat.zero_add, cell_of_row _ _ j _ _ _ hr, ← Array.getElem?_toList]; exact hj) Tryd.underlying74 rfl (by kernel_rfl)
  rw [Array.toArray_toList] at this
  exact this
set_option maxRecDepth 100000 in
theorem idx_k0 (w : World) : (Instr.index 74 (.agg knA) (.int .i64 ((0 : Nat) : Int))).run Tryd.prog w = .ok (.agg #[.string (wsL[(0 : Nat)]?.getD noT), .int .i64 (ndL[(0 : Nat)]?.getD 0)]) w := by kernel_rfl
set_option maxRecDepth 100000 in
theorem idx_k1 (w : World) : (Instr.index 74 (.agg knA) (.int .i64 ((1 : Nat) : Int))).run Tryd.prog w = .ok (.agg #[.string (wsL[(1 : Nat)]?.getD noT), .int .i64 (ndL[(1 : Nat)]?.getD 0)]) w := by kernel_rfl
set_option maxRecDepth 100000 in
theorem idx_k2 (w : World) : (Instr.index 74 (.agg knA) (.int .i64 ((2 : Nat) : Int))).run Tryd.prog w = .ok (.agg #[.string (wsL[(2 : Nat)]?.getD noT), .int .i64 (ndL[(2 : Nat)]?.getD 0)]) w := by kernel_rfl
set_option maxRecDepth 100000 in
theorem idx_k3 (w : World) : (Instr.index 74 (.agg knA) (.int .i64 ((3 : Nat) : Int))).run Tryd.prog w = .ok (.agg #[.string (wsL[(3 : Nat)]?.getD noT), .int .i64 (ndL[(3 : Nat)]?.getD 0)]) w := by kernel_rfl
set_option maxRecDepth 100000 in
theorem idx_k4 (w : World) : (Instr.index 74 (.agg knA) (.int .i64 ((4 : Nat) : Int))).run Tryd.prog w = .ok (.agg #[.string (wsL[(4 : Nat)]?.getD noT), .int .i64 (ndL[(4 : Nat)]?.getD 0)]) w := by kernel_rfl
set_option maxRecDepth 100000 in
theorem idx_k5 (w : World) : (Instr.index 74 (.agg knA) (.int .i64 ((5 : Nat) : Int))).run Tryd.prog w = .ok (.agg #[.string (wsL[(5 : Nat)]?.getD noT), .int .i64 (ndL[(5 : Nat)]?.getD 0)]) w := by kernel_rfl
set_option maxRecDepth 100000 in
theorem idx_k6 (w : World) : (Instr.index 74 (.agg knA) (.int .i64 ((6 : Nat) : Int))).run Tryd.prog w = .ok (.agg #[.string (wsL[(6 : Nat)]?.getD noT), .int .i64 (ndL[(6 : Nat)]?.getD 0)]) w := by kernel_rfl
set_option maxRecDepth 100000 in
theorem idx_k7 (w : World) : (Instr.index 74 (.agg knA) (.int .i64 ((7 : Nat) : Int))).run Tryd.prog w = .ok (.agg #[.string (wsL[(7 : Nat)]?.getD noT), .int .i64 (ndL[(7 : Nat)]?.getD 0)]) w := by kernel_rfl
set_option maxRecDepth 100000 in
theorem idx_k8 (w : World) : (Instr.index 74 (.agg knA) (.int .i64 ((8 : Nat) : Int))).run Tryd.prog w = .ok (.agg #[.string (wsL[(8 : Nat)]?.getD noT), .int .i64 (ndL[(8 : Nat)]?.getD 0)]) w := by kernel_rfl
set_option maxRecDepth 100000 in
theorem idx_k9 (w : World) : (Instr.index 74 (.agg knA) (.int .i64 ((9 : Nat) : Int))).run Tryd.prog w = .ok (.agg #[.string (wsL[(9 : Nat)]?.getD noT), .int .i64 (ndL[(9 : Nat)]?.getD 0)]) w := by kernel_rfl
set_option maxRecDepth 100000 in
theorem idx_k10 (w : World) : (Instr.index 74 (.agg knA) (.int .i64 ((10 : Nat) : Int))).run Tryd.prog w = .ok (.agg #[.string (wsL[(10 : Nat)]?.getD noT), .int .i64 (ndL[(10 : Nat)]?.getD 0)]) w := by kernel_rfl
set_option maxRecDepth 100000 in
theorem idx_k11 (w : World) : (Instr.index 74 (.agg knA) (.int .i64 ((11 : Nat) : Int))).run Tryd.prog w = .ok (.agg #[.string (wsL[(11 : Nat)]?.getD noT), .int .i64 (ndL[(11 : Nat)]?.getD 0)]) w := by kernel_rfl
set_option maxRecDepth 100000 in
theorem idx_k12 (w : World) : (Instr.index 74 (.agg knA) (.int .i64 ((12 : Nat) : Int))).run Tryd.prog w = .ok (.agg #[.string (wsL[(12 : Nat)]?.getD noT), .int .i64 (ndL[(12 : Nat)]?.getD 0)]) w := by kernel_rfl
set_option maxRecDepth 100000 in
theorem idx_k13 (w : World) : (Instr.index 74 (.agg knA) (.int .i64 ((13 : Nat) : Int))).run Tryd.prog w = .ok (.agg #[.string (wsL[(13 : Nat)]?.getD noT), .int .i64 (ndL[(13 : Nat)]?.getD 0)]) w := by kernel_rfl
set_option maxRecDepth 100000 in
theorem idx_k14 (w : World) : (Instr.index 74 (.agg knA) (.int .i64 ((14 : Nat) : Int))).run Tryd.prog w = .ok (.agg #[.string (wsL[(14 : Nat)]?.getD noT), .int .i64 (ndL[(14 : Nat)]?.getD 0)]) w := by kernel_rfl
set_option maxRecDepth 100000 in
theorem idx_k15 (w : World) : (Instr.index 74 (.agg knA) (.int .i64 ((15 : Nat) : Int))).run Tryd.prog w = .ok (.agg #[.string (wsL[(15 : Nat)]?.getD noT), .int .i64 (ndL[(15 : Nat)]?.getD 0)]) w := by kernel_rfl
set_option maxRecDepth 100000 in
theorem idx_k16 (w : World) : (Instr.index 74 (.agg knA) (.int .i64 ((16 : Nat) : Int))).run Tryd.prog w = .ok (.agg #[.string (wsL[(16 : Nat)]?.getD noT), .int .i64 (ndL[(16 : Nat)]?.getD 0)]) w := by kernel_rfl
set_option maxRecDepth 100000 in
theorem idx_k17 (w : World) : (Instr.index 74 (.agg knA) (.int .i64 ((17 : Nat) : Int))).run Tryd.prog w = .ok (.agg #[.string (wsL[(17 : Nat)]?.getD noT), .int .i64 (ndL[(17 : Nat)]?.getD 0)]) w := by kernel_rfl
set_option maxRecDepth 100000 in
theorem idx_k18 (w : World) : (Instr.index 74 (.agg knA) (.int .i64 ((18 : Nat) : Int))).run Tryd.prog w = .ok (.agg #[.string (wsL[(18 : Nat)]?.getD noT), .int .i64 (ndL[(18 : Nat)]?.getD 0)]) w := by kernel_rfl
set_option maxRecDepth 100000 in
theorem idx_k19 (w : World) : (Instr.index 74 (.agg knA) (.int .i64 ((19 : Nat) : Int))).run Tryd.prog w = .ok (.agg #[.string (wsL[(19 : Nat)]?.getD noT), .int .i64 (ndL[(19 : Nat)]?.getD 0)]) w := by kernel_rfl
set_option maxRecDepth 100000 in
theorem idx_k20 (w : World) : (Instr.index 74 (.agg knA) (.int .i64 ((20 : Nat) : Int))).run Tryd.prog w = .ok (.agg #[.string (wsL[(20 : Nat)]?.getD noT), .int .i64 (ndL[(20 : Nat)]?.getD 0)]) w := by kernel_rfl
set_option maxRecDepth 100000 in
theorem idx_k21 (w : World) : (Instr.index 74 (.agg knA) (.int .i64 ((21 : Nat) : Int))).run Tryd.prog w = .ok (.agg #[.string (wsL[(21 : Nat)]?.getD noT), .int .i64 (ndL[(21 : Nat)]?.getD 0)]) w := by kernel_rfl
set_option maxRecDepth 100000 in
theorem idx_k22 (w : World) : (Instr.index 74 (.agg knA) (.int .i64 ((22 : Nat) : Int))).run Tryd.prog w = .ok (.agg #[.string (wsL[(22 : Nat)]?.getD noT), .int .i64 (ndL[(22 : Nat)]?.getD 0)]) w := by kernel_rfl
set_option maxRecDepth 100000 in
theorem idx_k23 (w : World) : (Instr.index 74 (.agg knA) (.int .i64 ((23 : Nat) : Int))).run Tryd.prog w = .ok (.agg #[.string (wsL[(23 : Nat)]?.getD noT), .int .i64 (ndL[(23 : Nat)]?.getD 0)]) w := by kernel_rfl
set_option maxRecDepth 100000 in
theorem idx_k24 (w : World) : (Instr.index 74 (.agg knA) (.int .i64 ((24 : Nat) : Int))).run Tryd.prog w = .ok (.agg #[.string (wsL[(24 : Nat)]?.getD noT), .int .i64 (ndL[(24 : Nat)]?.getD 0)]) w := by kernel_rfl
set_option maxRecDepth 100000 in
theorem idx_k25 (w : World) : (Instr.index 74 (.agg knA) (.int .i64 ((25 : Nat) : Int))).run Tryd.prog w = .ok (.agg #[.string (wsL[(25 : Nat)]?.getD noT), .int .i64 (ndL[(25 : Nat)]?.getD 0)]) w := by kernel_rfl
set_option maxRecDepth 100000 in
theorem idx_k26 (w : World) : (Instr.index 74 (.agg knA) (.int .i64 ((26 : Nat) : Int))).run Tryd.prog w = .ok (.agg #[.string (wsL[(26 : Nat)]?.getD noT), .int .i64 (ndL[(26 : Nat)]?.getD 0)]) w := by kernel_rfl
set_option maxRecDepth 100000 in
theorem idx_k27 (w : World) : (Instr.index 74 (.agg knA) (.int .i64 ((27 : Nat) : Int))).run Tryd.prog w = .ok (.agg #[.string (wsL[(27 : Nat)]?.getD noT), .int .i64 (ndL[(27 : Nat)]?.getD 0)]) w := by kernel_rfl
set_option maxRecDepth 100000 in
theorem idx_k28 (w : World) : (Instr.index 74 (.agg knA) (.int .i64 ((28 : Nat) : Int))).run Tryd.prog w = .ok (.agg #[.string (wsL[(28 : Nat)]?.getD noT), .int .i64 (ndL[(28 : Nat)]?.getD 0)]) w := by kernel_rfl
set_option maxRecDepth 100000 in
theorem idx_k29 (w : World) : (Instr.index 74 (.agg knA) (.int .i64 ((29 : Nat) : Int))).run Tryd.prog w = .ok (.agg #[.string (wsL[(29 : Nat)]?.getD noT), .int .i64 (ndL[(29 : Nat)]?.getD 0)]) w := by kernel_rfl
theorem idx_kinds : ∀ k : Nat, k < 30 → ∀ w : World, (Instr.index 74 (.agg knA) (.int .i64 (k : Nat))).run Tryd.prog w = .ok (.agg #[.string (wsL[k]?.getD noT), .int .i64 (ndL[k]?.getD 0)]) w
  | 0, _ => idx_k0
  | 1, _ => idx_k1
  | 2, _ => idx_k2
  | 3, _ => idx_k3
  | 4, _ => idx_k4
  | 5, _ => idx_k5
  | 6, _ => idx_k6
  | 7, _ => idx_k7
  | 8, _ => idx_k8
  | 9, _ => idx_k9
  | 10, _ => idx_k10
  | 11, _ => idx_k11
  | 12, _ => idx_k12
  | 13, _ => idx_k13
  | 14, _ => idx_k14
  | 15, _ => idx_k15
  | 16, _ => idx_k16
  | 17, _ => idx_k17
  | 18, _ => idx_k18
  | 19, _ => idx_k19
  | 20, _ => idx_k20
  | 21, _ => idx_k21
  | 22, _ => idx_k22
  | 23, _ => idx_k23
  | 24, _ => idx_k24
  | 25, _ => idx_k25
  | 26, _ => idx_k26
  | 27, _ => idx_k27
  | 28, _ => idx_k28
  | 29, _ => idx_k29
  | k + 30, h => absurd h (by omega)
theorem wpList_load_k {P : Program} {ops : Array Oper} {rest : List Oper} {o : Oper} {a : Act} {w : World} {Q : Exit → Act → World → Prop} (hg : o.guard = none) (ty : TypeId) (x : Operand) (ho : o.op = .load ty x)
    (ad : Addr) (hx : a.eval x = .pointer (some ad)) (v : Value) (hrun : (loadVar ty ad).run P w = .ok v w) (h : wpList P ops Q rest (a.put o.dst v) w) : wpList P ops Q (o :: rest) a w := by
  refine wpList_plain hg fun K hK => ?_
  unfold Oper.wp execOp
  simp only [ho, hx, Instr.loadAt, Instr.sureAddr, Sem.run_bind, Sem.run_pure, Result.andThen_ok, hrun]
  exact hK _ _ h
/-! ### the closures -/
set_option maxRecDepth 100000 in
theorem nd_any (n : Int) (w : World) : Calls Tryd.prog 27 #[.int .i64 n] w fun e w' => e = .returned (.func (.func 37) #[] #[.pointer (some ⟨w.heap.size, 0, none⟩)]) ∧ w' = w.alloc (.cells #[.int .i64 n] 3) := by
  go_enter Tryd.func27, Tryd.ntmps27
  go_wp2
  go_ret
  exact ⟨rfl, rfl⟩
set_option maxRecDepth 100000 in
theorem nd1_any (B : Nat) (n m : Int) (t : ByteArray) (z : Int) (w : World) (hc : w.cell? ⟨B, 0, none⟩ = some (.int .i64 n)) : Calls Tryd.prog 37 #[.int .i64 m, .agg #[.string t, .int .i64 z], .pointer (some ⟨B, 0, none⟩)] w fun e w' => e = .returned (.bool (m == n)) ∧ Below w.heap.size w w' := by
  have hl : B < w.heap.size := World.block_lt_of_cell? w _ hc
  go_enter Tryd.func37, Tryd.ntmps37
  go_wp2
  go_ret
  exact ⟨rfl, bal (Below.refl _ _) _⟩
set_option maxRecDepth 100000 in
theorem nu1_any (B : Nat) (s : ByteArray) (m : Int) (t : ByteArray) (z : Int) (w : World) (hc : w.cell? ⟨B, 0, none⟩ = some (.string s)) : Calls Tryd.prog 25 #[.int .i64 m, .agg #[.string t, .int .i64 z], .pointer (some ⟨B, 0, none⟩)] w fun e w' => e = .returned (.bool (t.toList == s.toList)) ∧ Below w.heap.size w w' := by
  have hl : B < w.heap.size := World.block_lt_of_cell? w _ hc
  go_enter Tryd.func25, Tryd.ntmps25
  go_wp2
  go_ret
  exact ⟨rfl, bal (Below.refl _ _) _⟩
/-! ### look -/
def lkI (r : Nat) : Int := if r < 30 then r else 0
def lkT (r : Nat) : ByteArray := wsL[r]?.getD noT
def lkN (r : Nat) : Int := ndL[r]?.getD 0
structure LkI (w W : World) (B : Nat) (v : Value) : Prop where
  res : RowX W w.heap.size [.string noT, .int .i64 0]
  var : W.cell? ⟨B, 0, none⟩ = some v
  below : Below w.heap.size w W
theorem LkI.on {w W W' : World} {B : Nat} {v : Value} (h : LkI w W B v) (hB : Below W.heap.size W W') : LkI w W' B v :=
  ⟨h.res.on hB, (hB.cell (p := ⟨B, 0, none⟩) (World.block_lt_of_cell? W _ h.var)).trans h.var, h.below.trans (hB.mono h.below.size)⟩
theorem lkI_new (w : World) (B : Nat) (v : Value) (hc : w.cell? ⟨B, 0, none⟩ = some v) : LkI w (w.alloc (.cells #[.string noT, .int .i64 0] 58)) B v :=
  ⟨rowX_new w [.string noT, .int .i64 0] _, ((bal (Below.refl _ _) _).cell (p := ⟨B, 0, none⟩) (World.block_lt_of_cell? w _ hc)).trans hc, bal (Below.refl _ _) _⟩
theorem RowX.fz {w : World} {B : Nat} {vs : List Value} (h : RowX w B vs) (j : Nat) : w.frozen? ⟨B, j, none⟩ = false := by
  obtain ⟨t, h⟩ := h.row
  exact frozen_of_row _ _ _ _ _ h

set_option maxRecDepth 100000 in
set_option maxHeartbeats 4000000 in
theorem look_num (B : Nat) (n : Int) (w : World) (hT : TabK w) (hc : w.cell? ⟨B, 0, none⟩ = some (.int .i64 n)) (r : Nat) (hr : r ≤ 30) (hn : ∀ j, j < r → (((j : Nat) : Int) == n) = false) (hy : r < 30 → (((r : Nat) : Int) == n) = true) :
    Calls Tryd.prog 24 #[.func (.func 37) #[] #[.pointer (some ⟨B, 0, none⟩)]] w fun e w' => e = .returned (.tuple #[.int .i64 (lkI r), .agg #[.string (lkT r), .int .i64 (lkN r)], .bool (decide (r < 30))]) ∧ Below w.heap.size w w' := by
  have H0 : Hid (LkI w (w.alloc (.cells #[.string ⟨#[]⟩, .int .i64 0] 58)) B (.int .i64 n)) := lkI_new w B _ hc
  have HN := chide hn
  have HY := chide hy
  have HT := chide hT
  clear hc hn hy hT
  have HL : Hid (∀ W, TabK W → (loadVar 74 ⟨1, 0, none⟩).run Tryd.prog W = .ok (.agg knA) W) := fun W h => load_kinds h
  have HX := chide idx_kinds
  generalize knA = Z at HL HX
  go_enter Tryd.func24, Tryd.ntmps24
  go_upto_region 1 with fail
  generalize w.alloc _ = w1 at H0 ⊢
  go_wp2_with (first
    | (refine wpList_load_k rfl 74 (.global 1) rfl ⟨1, 0, none⟩ rfl (.agg Z) (HL.out _ (HT.out.on H0.out.below)) ?_)
    | fail)
  go_loopw [8] (fun i wr => ∃ k : Nat, k ≤ r ∧ i = .int .i64 k ∧ LkI w wr B (.int .i64 n)) (fun i _ => 30 - (intOf i).toNat)
  case atStart => exact ⟨0, by omega, rfl, H0.out⟩
  case round =>
    obtain ⟨k, hk, rfl, hI⟩ := hrel
    have HI := chide hI
    clear hI H0 HL HT
    by_cases h3 : k < 30
    · have h3' : (k : Int) < 30 := by omega
      have i1 := HX.out k h3
      clear HX
      have HD : Hid (w.heap.size < wr.heap.size) := HI.out.res.lt
      by_cases he : k = r
      · subst he
        have ht := HY.out h3
        have HG : Hid (lkI k = k ∧ lkT k = wsL[k]?.getD noT ∧ lkN k = ndL[k]?.getD 0 ∧ decide (k < 30) = true) := ⟨if_pos h3, rfl, rfl, decide_eq_true h3⟩
        have HC : Hid (∀ W, LkI w W B (.int .i64 n) → Calls Tryd.prog 37 #[.int .i64 (k : Nat), .agg #[.string (wsL[k]?.getD noT), .int .i64 (ndL[k]?.getD 0)], .pointer (some ⟨B, 0, none⟩)] W fun e w' => e = .returned (.bool true) ∧ Below W.heap.size W w') := fun W h => (nd1_any B n k _ _ W h.var).mono fun e w' ⟨he, hb⟩ => ⟨by rw [he, ht], hb⟩
        clear ht HY HN h3
        generalize wsL[k]?.getD noT = t at HG HC i1
        generalize ndL[k]?.getD 0 = z at HG HC i1
        go_upto_region 4 with fail
        have H4 : Hid (LkI w (wr.alloc (.cells #[.string t, .int .i64 z] 58)) B (.int .i64 n) ∧ RowX (wr.alloc (.cells #[.string t, .int .i64 z] 58)) wr.heap.size [.string t, .int .i64 z]) := ⟨HI.out.on (bal (Below.refl _ _) _), rowX_new wr [.string t, .int .i64 z] _⟩
        generalize wr.alloc _ = w4 at H4 ⊢
        generalize wr.heap.size = D at H4 HD ⊢
        clear HI i1
        have y0 : w4.cell? ⟨D, 0, none⟩ = some (.string t) := H4.out.2.cell 0
        have y1 : w4.cell? ⟨D, 1, none⟩ = some (.int .i64 z) := H4.out.2.cell 1
        go_wp2_with (first
          | (go_at_call 37; refine (HC.out _ H4.out.1).mono ?_; rintro e5 w5 ⟨rfl, hb⟩; have H5 : Hid (LkI w w5 B (.int .i64 n) ∧ RowX w5 D [.string t, .int .i64 z]) := ⟨H4.out.1.on hb, H4.out.2.on hb⟩; clear hb H4 y0 y1 HC)
          | fail)
        have y0 : w5.cell? ⟨D, 0, none⟩ = some (.string t) := H5.out.2.cell 0
        have y1 : w5.cell? ⟨D, 1, none⟩ = some (.int .i64 z) := H5.out.2.cell 1
        have x0 : w5.cell? ⟨w.heap.size, 0, none⟩ = some (.string noT) := H5.out.1.res.cell 0
        have x1 : w5.cell? ⟨w.heap.size, 1, none⟩ = some (.int .i64 0) := H5.out.1.res.cell 1
        have fz := H5.out.1.res.fz
        have ne1 : ¬ D = w.heap.size := Nat.ne_of_gt HD.out
        have ne2 : ¬ w.heap.size = D := Nat.ne_of_lt HD.out
        go_region
        go_wp2
        refine bodyPost_ret (v := .tuple #[.int .i64 (k : Nat), .agg #[.string t, .int .i64 z], .bool true]) (by simp [results, Tryd.results24, go_sem, x0, x1]) rfl ⟨by rw [HG.out.1, HG.out.2.1, HG.out.2.2.1, HG.out.2.2.2], ?_⟩
        exact (bst (bst H5.out.1.below (Nat.le_refl _) _ _) (Nat.le_refl _) _ _).drew
      · have ht := HN.out k (by omega)
        have HC : Hid (∀ W, LkI w W B (.int .i64 n) → Calls Tryd.prog 37 #[.int .i64 (k : Nat), .agg #[.string (wsL[k]?.getD noT), .int .i64 (ndL[k]?.getD 0)], .pointer (some ⟨B, 0, none⟩)] W fun e w' => e = .returned (.bool false) ∧ Below W.heap.size W w') := fun W h => (nd1_any B n k _ _ W h.var).mono fun e w' ⟨he, hb⟩ => ⟨by rw [he, ht], hb⟩
        clear ht HY HN
        generalize wsL[k]?.getD noT = t at HC i1
        generalize ndL[k]?.getD 0 = z at HC i1
        go_upto_region 4 with fail
        have H4 : Hid (LkI w (wr.alloc (.cells #[.string t, .int .i64 z] 58)) B (.int .i64 n) ∧ RowX (wr.alloc (.cells #[.string t, .int .i64 z] 58)) wr.heap.size [.string t, .int .i64 z]) := ⟨HI.out.on (bal (Below.refl _ _) _), rowX_new wr [.string t, .int .i64 z] _⟩
        generalize wr.alloc _ = w4 at H4 ⊢
        generalize wr.heap.size = D at H4 HD ⊢
        clear HI i1
        have y0 : w4.cell? ⟨D, 0, none⟩ = some (.string t) := H4.out.2.cell 0
        have y1 : w4.cell? ⟨D, 1, none⟩ = some (.int .i64 z) := H4.out.2.cell 1
        go_wp2_with (first
          | (go_at_call 37; refine (HC.out _ H4.out.1).mono ?_; rintro e5 w5 ⟨rfl, hb⟩; have H5 := chide (H4.out.1.on hb); clear hb H4 y0 y1 HC)
          | fail)
        go_roundw
        case rel => exact ⟨k + 1, by omega, by go_num, H5.out⟩
        case measure => simp [intOf]; omega
    · obtain rfl : k = 30 := by omega
      obtain rfl : r = 30 := by omega
      have x0 : wr.cell? ⟨w.heap.size, 0, none⟩ = some (.string noT) := HI.out.res.cell 0
      have x1 : wr.cell? ⟨w.heap.size, 1, none⟩ = some (.int .i64 0) := HI.out.res.cell 1
      have fz := HI.out.res.fz
      clear HX HN HY
      go_wp2
      refine bodyPost_ret (v := .tuple #[.int .i64 0, .agg #[.string ⟨#[]⟩, .int .i64 0], .bool false]) (by simp [results, Tryd.results24, go_sem, x0, x1]) rfl ⟨rfl, ?_⟩
      exact bst (bst HI.out.below (Nat.le_refl _) _ _) (Nat.le_refl _) _ _

set_option maxRecDepth 100000 in
set_option maxHeartbeats 4000000 in
theorem look_str (B : Nat) (n : ByteArray) (w : World) (hT : TabK w) (hc : w.cell? ⟨B, 0, none⟩ = some (.string n)) (r : Nat) (hr : r ≤ 30) (hn : ∀ j, j < r → ((wsL[j]?.getD noT).toList == n.toList) = false) (hy : r < 30 → ((wsL[r]?.getD noT).toList == n.toList) = true) :
    Calls Tryd.prog 24 #[.func (.func 25) #[] #[.pointer (some ⟨B, 0, none⟩)]] w fun e w' => e = .returned (.tuple #[.int .i64 (lkI r), .agg #[.string (lkT r), .int .i64 (lkN r)], .bool (decide (r < 30))]) ∧ Below w.heap.size w w' := by
  have H0 : Hid (LkI w (w.alloc (.cells #[.string ⟨#[]⟩, .int .i64 0] 58)) B (.string n)) := lkI_new w B _ hc
  have HN := chide hn
  have HY := chide hy
  have HT := chide hT
  clear hc hn hy hT
  have HL : Hid (∀ W, TabK W → (loadVar 74 ⟨1, 0, none⟩).run Tryd.prog W = .ok (.agg knA) W) := fun W h => load_kinds h
  have HX := chide idx_kinds
  generalize knA = Z at HL HX
  go_enter Tryd.func24, Tryd.ntmps24
  go_upto_region 1 with fail
  generalize w.alloc _ = w1 at H0 ⊢
  go_wp2_with (first
    | (refine wpList_load_k rfl 74 (.global 1) rfl ⟨1, 0, none⟩ rfl (.agg Z) (HL.out _ (HT.out.on H0.out.below)) ?_)
    | fail)
  go_loopw [8] (fun i wr => ∃ k : Nat, k ≤ r ∧ i = .int .i64 k ∧ LkI w wr B (.string n)) (fun i _ => 30 - (intOf i).toNat)
  case atStart => exact ⟨0, by omega, rfl, H0.out⟩
  case round =>
    obtain ⟨k, hk, rfl, hI⟩ := hrel
    have HI := chide hI
    clear hI H0 HL HT
    by_cases h3 : k < 30
    · have h3' : (k : Int) < 30 := by omega
      have i1 := HX.out k h3
      clear HX
      have HD : Hid (w.heap.size < wr.heap.size) := HI.out.res.lt
      by_cases he : k = r
      · subst he
        have ht := HY.out h3
        have HG : Hid (lkI k = k ∧ lkT k = wsL[k]?.getD noT ∧ lkN k = ndL[k]?.getD 0 ∧ decide (k < 30) = true) := ⟨if_pos h3, rfl, rfl, decide_eq_true h3⟩
        have HC : Hid (∀ W, LkI w W B (.string n) → Calls Tryd.prog 25 #[.int .i64 (k : Nat), .agg #[.string (wsL[k]?.getD noT), .int .i64 (ndL[k]?.getD 0)], .pointer (some ⟨B, 0, none⟩)] W fun e w' => e = .returned (.bool true) ∧ Below W.heap.size W w') := fun W h => (nu1_any B n k _ _ W h.var).mono fun e w' ⟨he, hb⟩ => ⟨by rw [he, ht], hb⟩
        clear ht HY HN h3
        generalize wsL[k]?.getD noT = t at HG HC i1
        generalize ndL[k]?.getD 0 = z at HG HC i1
        go_upto_region 4 with fail
        have H4 : Hid (LkI w (wr.alloc (.cells #[.string t, .int .i64 z] 58)) B (.string n) ∧ RowX (wr.alloc (.cells #[.string t, .int .i64 z] 58)) wr.heap.size [.string t, .int .i64 z]) := ⟨HI.out.on (bal (Below.refl _ _) _), rowX_new wr [.string t, .int .i64 z] _⟩
        generalize wr.alloc _ = w4 at H4 ⊢
        generalize wr.heap.size = D at H4 HD ⊢
        clear HI i1
        have y0 : w4.cell? ⟨D, 0, none⟩ = some (.string t) := H4.out.2.cell 0
        have y1 : w4.cell? ⟨D, 1, none⟩ = some (.int .i64 z) := H4.out.2.cell 1
        go_wp2_with (first
          | (go_at_call 25; refine (HC.out _ H4.out.1).mono ?_; rintro e5 w5 ⟨rfl, hb⟩; have H5 : Hid (LkI w w5 B (.string n) ∧ RowX w5 D [.string t, .int .i64 z]) := ⟨H4.out.1.on hb, H4.out.2.on hb⟩; clear hb H4 y0 y1 HC)
          | fail)
        have y0 : w5.cell? ⟨D, 0, none⟩ = some (.string t) := H5.out.2.cell 0
        have y1 : w5.cell? ⟨D, 1, none⟩ = some (.int .i64 z) := H5.out.2.cell 1
        have x0 : w5.cell? ⟨w.heap.size, 0, none⟩ = some (.string noT) := H5.out.1.res.cell 0
        have x1 : w5.cell? ⟨w.heap.size, 1, none⟩ = some (.int .i64 0) := H5.out.1.res.cell 1
        have fz := H5.out.1.res.fz
        have ne1 : ¬ D = w.heap.size := Nat.ne_of_gt HD.out
        have ne2 : ¬ w.heap.size = D := Nat.ne_of_lt HD.out
        go_region
        go_wp2
        refine bodyPost_ret (v := .tuple #[.int .i64 (k : Nat), .agg #[.string t, .int .i64 z], .bool true]) (by simp [results, Tryd.results24, go_sem, x0, x1]) rfl ⟨by rw [HG.out.1, HG.out.2.1, HG.out.2.2.1, HG.out.2.2.2], ?_⟩
        exact (bst (bst H5.out.1.below (Nat.le_refl _) _ _) (Nat.le_refl _) _ _).drew
      · have ht := HN.out k (by omega)
        have HC : Hid (∀ W, LkI w W B (.string n) → Calls Tryd.prog 25 #[.int .i64 (k : Nat), .agg #[.string (wsL[k]?.getD noT), .int .i64 (ndL[k]?.getD 0)], .pointer (some ⟨B, 0, none⟩)] W fun e w' => e = .returned (.bool false) ∧ Below W.heap.size W w') := fun W h => (nu1_any B n k _ _ W h.var).mono fun e w' ⟨he, hb⟩ => ⟨by rw [he, ht], hb⟩
        clear ht HY HN
        generalize wsL[k]?.getD noT = t at HC i1
        generalize ndL[k]?.getD 0 = z at HC i1
        go_upto_region 4 with fail
        have H4 : Hid (LkI w (wr.alloc (.cells #[.string t, .int .i64 z] 58)) B (.string n) ∧ RowX (wr.alloc (.cells #[.string t, .int .i64 z] 58)) wr.heap.size [.string t, .int .i64 z]) := ⟨HI.out.on (bal (Below.refl _ _) _), rowX_new wr [.string t, .int .i64 z] _⟩
        generalize wr.alloc _ = w4 at H4 ⊢
        generalize wr.heap.size = D at H4 HD ⊢
        clear HI i1
        have y0 : w4.cell? ⟨D, 0, none⟩ = some (.string t) := H4.out.2.cell 0
        have y1 : w4.cell? ⟨D, 1, none⟩ = some (.int .i64 z) := H4.out.2.cell 1
        go_wp2_with (first
          | (go_at_call 25; refine (HC.out _ H4.out.1).mono ?_; rintro e5 w5 ⟨rfl, hb⟩; have H5 := chide (H4.out.1.on hb); clear hb H4 y0 y1 HC)
          | fail)
        go_roundw
        case rel => exact ⟨k + 1, by omega, by go_num, H5.out⟩
        case measure => simp [intOf]; omega
    · obtain rfl : k = 30 := by omega
      obtain rfl : r = 30 := by omega
      have x0 : wr.cell? ⟨w.heap.size, 0, none⟩ = some (.string noT) := HI.out.res.cell 0
      have x1 : wr.cell? ⟨w.heap.size, 1, none⟩ = some (.int .i64 0) := HI.out.res.cell 1
      have fz := HI.out.res.fz
      clear HX HN HY
      go_wp2
      refine bodyPost_ret (v := .tuple #[.int .i64 0, .agg #[.string ⟨#[]⟩, .int .i64 0], .bool false]) (by simp [results, Tryd.results24, go_sem, x0, x1]) rfl ⟨rfl, ?_⟩
      exact bst (bst HI.out.below (Nat.le_refl _) _ _) (Nat.le_refl _) _ _
end Go.Proofs.YtjibbppjdojbpaaDoor.Pcall
