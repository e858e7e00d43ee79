/- Texts on finished packages, joined. -/
import Derived.Test.YtcgekcjnaadcmaaGreatDoorBunQthd
import Derived.Test.YtcgekcjnaadcmaaGreatDoorBunField
import Derived.Test.YtcgekcjnaadcmaaGreatDoorBunHead
import Derived.Test.YtcgekcjnaadcmaaGreatDoorBunBase
import Derived.Test.YtcgekcjnaadcmaaGreatDoorRows
import Derived.ProofKit
import Derived.OpenShut
import Derived.Carry
import Derived.LaidMore
import Derived.BigRegion
import Derived.BigQuiet
import Derived.Deep.RegionHeld3
import Derived.Deep.RegionWith
import Derived.Deep.CutBlock

/- Plain words on records: which are right, their two words, what is answered and done of a thread's stack. No program is named here. -/
namespace Go.Proofs.YtcgekcjnaadcmaaGreatDoor.Pstack
open Go.Proofs.YtcgekcjnaadcmaaGreatDoor.Pbase Go.Proofs.YtcgekcjnaadcmaaGreatDoor.Pfield Go.Proofs.YtcgekcjnaadcmaaGreatDoor.Play Go.Proofs.YtcgekcjnaadcmaaGreatDoor.Pmem Go.Proofs.YtcgekcjnaadcmaaGreatDoor.Pthd
open Go.RowKit M
set_option linter.unusedVariables false

/-! ### records -/
structure Rc where
  co : Int
  tb : Int
  pg : Int
  l : Int
  e : Int
  ip : Int
def Ro (x : Rc) : Prop := (0 ≤ x.co ∧ x.co ≤ 63) ∧ (0 ≤ x.tb ∧ x.tb ≤ 63) ∧ (0 ≤ x.pg ∧ x.pg ≤ 63) ∧ (0 ≤ x.l ∧ x.l ≤ 63) ∧ (0 ≤ x.e ∧ x.e ≤ 65535) ∧ (0 ≤ x.ip ∧ x.ip ≤ 1073741824)
def roB (x : Rc) : Bool := (decide (0 ≤ x.co) && decide (x.co ≤ 63)) && (decide (0 ≤ x.tb) && decide (x.tb ≤ 63)) && (decide (0 ≤ x.pg) && decide (x.pg ≤ 63)) && (decide (0 ≤ x.l) && decide (x.l ≤ 63)) && (decide (0 ≤ x.e) && decide (x.e ≤ 65535)) && (decide (0 ≤ x.ip) && decide (x.ip ≤ 1073741824))
theorem roB_iff (x : Rc) : roB x = true ↔ Ro x := by
  unfold roB Ro
  simp
  omega
theorem roB_yes {x : Rc} (h : Ro x) : roB x = true := (roB_iff x).2 h
theorem roB_no {x : Rc} (h : ¬ Ro x) : roB x = false := Bool.eq_false_iff.2 fun e => h ((roB_iff x).1 e)
/-- What Check answers. -/
def rkE (x : Rc) : Int := if roB x = true then 0 else 1
/-! ### words -/
def rws : List Int := [6, 6, 6, 6, 16]
theorem mask6 : maskF 6 = 63 := by decide
theorem mask16 : maskF 16 = 65535 := by decide
def Rc.vs (x : Rc) : List Int := [x.co, x.tb, x.pg, x.l, x.e]
/-- The first word of one. -/
def rwd (x : Rc) : Int := packF rws x.vs
theorem rput_can {x : Rc} (h : Ro x) : (∀ j : Nat, 0 ≤ x.vs[j]?.getD 0 ∧ x.vs[j]?.getD 0 ≤ 18446744073709551615) ∧ ∀ j, j < rws.length → okP rws x.vs j = true := by
  unfold Ro at h
  constructor
  · intro j
    match j with
    | 0 | 1 | 2 | 3 | 4 => simp [Rc.vs]; omega
    | j + 5 => simp [Rc.vs]
  · intro j hj
    match j, hj with
    | 0, _ | 1, _ | 2, _ | 3, _ | 4, _ =>
      simp [okP, Pfield.M.inB, fitsB, mask6, mask16, sumTo, rws, Rc.vs, wrap64]
      omega
theorem rwd_bd {x : Rc} (h : Ro x) : 0 ≤ rwd x ∧ rwd x ≤ 18446744073709551615 := (pack_unpack (zs := rws) (vs := x.vs) rfl (rput_can h).1 (rput_can h).2).1
/-! ### a thread's stack -/
/-- How deep; the i-th record. -/
def dpN (M : Nat → Nat → Int) (f : Int) : Nat := (M f.toNat 8).toNat
/-- The i-th record laid. -/
def lyR (N : Nat) (M : Nat → Nat → Int) (f : Int) (i : Nat) (x : Rc) : Nat → Nat → Int := stW N (stW N M f (17 + 2 * (i : Int)) (rwd x)) f (18 + 2 * (i : Int)) x.ip
/-- Push. -/
def psE (N : Nat) (M : Nat → Nat → Int) (f : Int) (x : Rc) : Int := if roB x = true then if gtE N M f = 0 then if dpN M f = 6 then 8 else 0 else gtE N M f else 1
def psM (N : Nat) (M : Nat → Nat → Int) (f : Int) (x : Rc) : Nat → Nat → Int := if psE N M f x = 0 then stW N (lyR N M f (dpN M f) x) f 8 (dpN M f + 1 : Nat) else M
/-! ### small facts -/
theorem gt_dp {N : Nat} {M : Nat → Nat → Int} {f : Int} (h : gtE N M f = 0) : okF N f = true ∧ (thOf M f).de = (dpN M f : Nat) ∧ dpN M f ≤ 6 := by
  obtain ⟨h1, h2, _⟩ := gt_yes h
  have h3 := h2.2.2.2.2
  have e : (thOf M f).de = M f.toNat 8 := rfl
  rw [e] at h3
  refine ⟨isE_ok h1, ?_, ?_⟩
  · rw [e]
    unfold dpN
    omega
  · unfold dpN
    omega
/-- One word, as a store leaves it. -/
theorem st_at {N : Nat} {M : Nat → Nat → Int} {f a v : Int} (hf : okF N f = true) (ha : 0 ≤ a ∧ a < 36) (g b : Nat) : stW N M f a v g b = if g = f.toNat ∧ b = a.toNat then v else M g b := by
  have ho : okW N f a = true := by unfold okW; rw [hf]; simp; omega
  unfold stW
  rw [if_pos ho]
/-- The depth put: a thread's words laid with another depth. -/
def dpX (x : Th) (d : Int) : Th := ⟨x.st, x.co, x.tc, x.rc, d⟩
theorem lay_dp {N : Nat} {M : Nat → Nat → Int} {f : Int} (hf : okF N f = true) (d : Int) : layF N M f (dpX (thOf M f) d).ws = stW N M f 8 d := by
  funext g b
  rw [st_at hf (by omega)]
  unfold layF
  rw [if_pos hf]
  show (if g = f.toNat ∧ 4 ≤ b ∧ b < 4 + 5 then ((dpX (thOf M f) d).ws)[b - 4]?.getD 0 else M g b) = _
  by_cases hg : g = f.toNat
  · subst hg
    by_cases hb : 4 ≤ b ∧ b < 9
    · rw [if_pos ⟨rfl, hb⟩]
      rcases (show b = 4 ∨ b = 5 ∨ b = 6 ∨ b = 7 ∨ b = 8 by omega) with rfl | rfl | rfl | rfl | rfl <;> simp [dpX, Th.ws, thOf]
    · rw [if_neg (fun h => hb h.2), if_neg (fun h => by have := h.2; omega)]
  · rw [if_neg (fun h => hg h.1), if_neg (fun h => hg h.1)]
/-- Laid records leave the thread's five words, the head and the depth. -/
theorem ly_low {N : Nat} {M : Nat → Nat → Int} {f : Int} {i : Nat} {x : Rc} {g b : Nat} (hf : okF N f = true) (hi : i < 6) (hb : b < 17) : lyR N M f i x g b = M g b := by
  unfold lyR
  rw [st_at hf (by omega), if_neg (fun h => by have := h.2; omega), st_at hf (by omega), if_neg (fun h => by have := h.2; omega)]
theorem ly_th {N : Nat} {M : Nat → Nat → Int} {f : Int} {i : Nat} {x : Rc} (hf : okF N f = true) (hi : i < 6) : thOf (lyR N M f i x) f = thOf M f := by
  unfold thOf
  rw [ly_low hf hi (by omega), ly_low hf hi (by omega), ly_low hf hi (by omega), ly_low hf hi (by omega), ly_low hf hi (by omega)]
theorem ly_is {N : Nat} {M : Nat → Nat → Int} {f : Int} {i : Nat} {x : Rc} (hf : okF N f = true) (hi : i < 6) (q : Int) : Phead.isE N (lyR N M f i x) f q = Phead.isE N M f q := is_words (fun j hj => ly_low hf hi (by omega)) q
end Go.Proofs.YtcgekcjnaadcmaaGreatDoor.Pstack

/- A stack told by the list of its records: what pushes, pops, new ips and looks make of it. Plain words; no program is named here. -/
namespace Go.Proofs.YtcgekcjnaadcmaaGreatDoor.Pstack
open Go.Proofs.YtcgekcjnaadcmaaGreatDoor.Pbase Go.Proofs.YtcgekcjnaadcmaaGreatDoor.Pfield Go.Proofs.YtcgekcjnaadcmaaGreatDoor.Play Go.Proofs.YtcgekcjnaadcmaaGreatDoor.Pmem Go.Proofs.YtcgekcjnaadcmaaGreatDoor.Pthd
open Go.RowKit M
set_option linter.unusedVariables false

section
variable {M : Nat → Nat → Int} {L : List Rc}
/-! ### All, Top -/
/-! ### Push -/
/-! ### Pop -/
/-! ### Ip -/
end
/-! ### a thread made -/
/-! ### below the last one -/
end Go.Proofs.YtcgekcjnaadcmaaGreatDoor.Pstack

/- Records and places in blocks; the table of widths; a memory, the table of head and the table of widths. -/
namespace Go.Proofs.YtcgekcjnaadcmaaGreatDoor.Pstack
open Go.Proofs.YtcgekcjnaadcmaaGreatDoor.Pbase Go.Proofs.YtcgekcjnaadcmaaGreatDoor.Pfield Go.Proofs.YtcgekcjnaadcmaaGreatDoor.Play Go.Proofs.YtcgekcjnaadcmaaGreatDoor.Pmem Go.Proofs.YtcgekcjnaadcmaaGreatDoor.Pthd
open Go.RowKit M
set_option linter.unusedVariables false

/-- A record in a block. -/
structure RowR (w : World) (B : Nat) (x : Rc) : Prop where
  row : w.heap[B]? = some (.cells #[.int .i64 x.co, .int .i64 x.tb, .int .i64 x.pg, .int .i64 x.l, .int .i64 x.e, .int .i64 x.ip] 83 (0, 0))
section
variable {w w' : World} {B : Nat} {x : Rc}
theorem RowR.lt (h : RowR w B x) : B < w.heap.size := (Array.getElem?_eq_some_iff.1 h.row).1
theorem RowR.c0 (h : RowR w B x) : w.cell? ⟨B, 0, none⟩ = some (.int .i64 x.co) := (cell_of_row _ _ _ _ _ _ h.row).trans rfl
theorem RowR.c1 (h : RowR w B x) : w.cell? ⟨B, 1, none⟩ = some (.int .i64 x.tb) := (cell_of_row _ _ _ _ _ _ h.row).trans rfl
theorem RowR.c2 (h : RowR w B x) : w.cell? ⟨B, 2, none⟩ = some (.int .i64 x.pg) := (cell_of_row _ _ _ _ _ _ h.row).trans rfl
theorem RowR.c3 (h : RowR w B x) : w.cell? ⟨B, 3, none⟩ = some (.int .i64 x.l) := (cell_of_row _ _ _ _ _ _ h.row).trans rfl
theorem RowR.c4 (h : RowR w B x) : w.cell? ⟨B, 4, none⟩ = some (.int .i64 x.e) := (cell_of_row _ _ _ _ _ _ h.row).trans rfl
theorem RowR.c5 (h : RowR w B x) : w.cell? ⟨B, 5, none⟩ = some (.int .i64 x.ip) := (cell_of_row _ _ _ _ _ _ h.row).trans rfl
theorem RowR.on (h : RowR w B x) (hB : Below w.heap.size w w') : RowR w' B x := ⟨(hB.block B h.lt).trans h.row⟩
theorem rowR_new (w : World) (x : Rc) : RowR (w.alloc (.cells #[.int .i64 x.co, .int .i64 x.tb, .int .i64 x.pg, .int .i64 x.l, .int .i64 x.e, .int .i64 x.ip] 83)) w.heap.size x := ⟨heap_alloc_new w _⟩
end
/-- A place in a block. -/
structure RowL (w : World) (B p : Nat) (f i : Int) : Prop where
  row : w.heap[B]? = some (.cells #[.pointer (some ⟨p, 0, none⟩), .int .i64 f, .int .i64 i] 192 (0, 0))
section
variable {w w' : World} {B p : Nat} {f i : Int}
theorem RowL.lt (h : RowL w B p f i) : B < w.heap.size := (Array.getElem?_eq_some_iff.1 h.row).1
theorem RowL.c0 (h : RowL w B p f i) : w.cell? ⟨B, 0, none⟩ = some (.pointer (some ⟨p, 0, none⟩)) := (cell_of_row _ _ _ _ _ _ h.row).trans rfl
theorem RowL.c1 (h : RowL w B p f i) : w.cell? ⟨B, 1, none⟩ = some (.int .i64 f) := (cell_of_row _ _ _ _ _ _ h.row).trans rfl
theorem RowL.c2 (h : RowL w B p f i) : w.cell? ⟨B, 2, none⟩ = some (.int .i64 i) := (cell_of_row _ _ _ _ _ _ h.row).trans rfl
theorem RowL.on (h : RowL w B p f i) (hB : Below w.heap.size w w') : RowL w' B p f i := ⟨(hB.block B h.lt).trans h.row⟩
theorem RowL.but {b : Nat} (h : RowL w B p f i) (hB : But b w w') (hn : B ≠ b) : RowL w' B p f i := ⟨(hB.block B h.lt hn).trans h.row⟩
theorem rowL_new (w : World) (p : Nat) (f i : Int) : RowL (w.alloc (.cells #[.pointer (some ⟨p, 0, none⟩), .int .i64 f, .int .i64 i] 192)) w.heap.size p f i := ⟨heap_alloc_new w _⟩
end
/-! ### the table of widths -/
structure TabR (w : World) : Prop where
  lt : 1 < w.heap.size
  row : ∃ t fr, w.heap[(1 : Nat)]? = some (.cells #[.int .i64 6, .int .i64 6, .int .i64 6, .int .i64 6, .int .i64 16] t fr)
theorem TabR.on {w w' : World} (h : TabR w) (hB : Below w.heap.size w w') : TabR w' :=
  ⟨Nat.lt_of_lt_of_le h.lt hB.size, by obtain ⟨t, fr, hr⟩ := h.row; exact ⟨t, fr, (hB.block 1 h.lt).trans hr⟩⟩
theorem TabR.but {w w' : World} {b : Nat} (h : TabR w) (hB : But b w w') (hn : 1 ≠ b) : TabR w' :=
  ⟨Nat.lt_of_lt_of_le h.lt hB.size, by obtain ⟨t, fr, hr⟩ := h.row; exact ⟨t, fr, (hB.block 1 h.lt hn).trans hr⟩⟩
theorem tabR_ne {w : World} {p b N : Nat} {M : Nat → Nat → Int} (hM : MemIs w p b N M) (hW : TabR w) : 1 ≠ b := by
  intro e
  obtain ⟨t, fr, hr⟩ := hW.row
  rw [e, hM.row] at hr
  simp only [Option.some.injEq, Obj.cells.injEq] at hr
  have := congrArg Array.size hr.1
  rw [cellsM_size] at this
  simp at this
  omega
theorem TabR.cells {w : World} (h : TabR w) : w.cell? ⟨1, 0, none⟩ = some (.int .i64 6) ∧ w.cell? ⟨1, 1, none⟩ = some (.int .i64 6) ∧ w.cell? ⟨1, 2, none⟩ = some (.int .i64 6) ∧ w.cell? ⟨1, 3, none⟩ = some (.int .i64 6) ∧ w.cell? ⟨1, 4, none⟩ = some (.int .i64 16) := by
  obtain ⟨t, fr, hr⟩ := h.row
  exact ⟨(cell_of_row _ _ 0 _ _ _ hr).trans rfl, (cell_of_row _ _ 1 _ _ _ hr).trans rfl, (cell_of_row _ _ 2 _ _ _ hr).trans rfl, (cell_of_row _ _ 3 _ _ _ hr).trans rfl, (cell_of_row _ _ 4 _ _ _ hr).trans rfl⟩
/-- A memory and the tables. -/
structure Sx (w : World) (p b N : Nat) (M : Nat → Nat → Int) : Prop where
  mx : Pthd.Mx w p b N M
  tb : TabR w
theorem Sx.on {w w' : World} {p b N : Nat} {M : Nat → Nat → Int} (h : Sx w p b N M) (hB : Below w.heap.size w w') : Sx w' p b N M := ⟨h.mx.on hB, h.tb.on hB⟩
theorem Sx.but {w w' : World} {p b N : Nat} {M M' : Nat → Nat → Int} (h : Sx w p b N M) (hX : Pthd.Mx w' p b N M') (hB : But b w w') : Sx w' p b N M' := ⟨hX, h.tb.but hB (tabR_ne h.mx.mem h.tb)⟩
theorem Sx.ltb {w : World} {p b N : Nat} {M : Nat → Nat → Int} (h : Sx w p b N M) : b < w.heap.size := h.mx.mem.lt.2
/-! ### more plain words -/
theorem ly_gt {N : Nat} {M : Nat → Nat → Int} {f : Int} {i : Nat} {x : Rc} (hf : okF N f = true) (hi : i < 6) : gtE N (lyR N M f i x) f = gtE N M f := by
  unfold gtE
  rw [ly_is hf hi, ly_th hf hi]
/-- A depth put, told by thd's Put. -/
theorem dp_put {N : Nat} {M : Nat → Nat → Int} {f : Int} {d : Nat} (hg : gtE N M f = 0) (hd : d ≤ 6) : Pthd.puE N M f (dpX (thOf M f) (d : Int)) = 0 ∧ Pthd.puM N M f (dpX (thOf M f) (d : Int)) = stW N M f 8 (d : Int) ∧ To (dpX (thOf M f) (d : Int)) := by
  obtain ⟨hf, hde, h6⟩ := gt_dp hg
  obtain ⟨h1, h2, _⟩ := gt_yes hg
  have hto : To (dpX (thOf M f) (d : Int)) := by
    unfold To at h2 ⊢
    unfold dpX
    dsimp only
    omega
  have e1 : Pthd.puE N M f (dpX (thOf M f) (d : Int)) = 0 := by
    unfold Pthd.puE
    rw [if_pos (toB_yes hto), if_pos h1]
  refine ⟨e1, ?_, hto⟩
  unfold Pthd.puM
  rw [if_pos e1]
  exact lay_dp hf _
end Go.Proofs.YtcgekcjnaadcmaaGreatDoor.Pstack

/- The widths and the parts of a word in blocks (written by mk_doc.py). -/
namespace Go.Proofs.YtcgekcjnaadcmaaGreatDoor.Pstack
open Go.Proofs.YtcgekcjnaadcmaaGreatDoor.Pbase Go.Proofs.YtcgekcjnaadcmaaGreatDoor.Pfield Go.Proofs.YtcgekcjnaadcmaaGreatDoor.Play Go.Proofs.YtcgekcjnaadcmaaGreatDoor.Pmem Go.Proofs.YtcgekcjnaadcmaaGreatDoor.Pthd
open Go.RowKit M
set_option linter.unusedVariables false

theorem ints_rws (w : World) (ty : TypeId) : Ints .i64 (w.alloc (.cells #[.int .i64 6, .int .i64 6, .int .i64 6, .int .i64 6, .int .i64 16] ty)).heap.size (w.alloc (.cells #[.int .i64 6, .int .i64 6, .int .i64 6, .int .i64 6, .int .i64 16] ty)) (.slice (some ⟨w.heap.size, 0, none⟩) 5 5) rws := by
  refine .inr ⟨w.heap.size, 0, 5, rfl, by simp, fun j hj => ?_⟩
  rw [Nat.zero_add, cell_of_row _ _ j _ _ _ (heap_alloc_new w _)]
  match j, hj with
  | 0, _ | 1, _ | 2, _ | 3, _ | 4, _ => rfl
theorem ints_vs (w : World) (x : Rc) (ty : TypeId) : Ints .u64 (w.alloc (.cells #[.int .u64 x.co, .int .u64 x.tb, .int .u64 x.pg, .int .u64 x.l, .int .u64 x.e] ty)).heap.size (w.alloc (.cells #[.int .u64 x.co, .int .u64 x.tb, .int .u64 x.pg, .int .u64 x.l, .int .u64 x.e] ty)) (.slice (some ⟨w.heap.size, 0, none⟩) 5 5) x.vs := by
  refine .inr ⟨w.heap.size, 0, 5, rfl, by simp, fun j hj => ?_⟩
  rw [Nat.zero_add, cell_of_row _ _ j _ _ _ (heap_alloc_new w _)]
  match j, hj with
  | 0, _ | 1, _ | 2, _ | 3, _ | 4, _ => rfl
end Go.Proofs.YtcgekcjnaadcmaaGreatDoor.Pstack

/- The table of widths, out of what a row's condition says of it. -/
namespace Go.Proofs.YtcgekcjnaadcmaaGreatDoor.Pstack
open Go.Proofs.YtcgekcjnaadcmaaGreatDoor.Pbase Go.Proofs.YtcgekcjnaadcmaaGreatDoor.Pfield Go.Proofs.YtcgekcjnaadcmaaGreatDoor.Play Go.Proofs.YtcgekcjnaadcmaaGreatDoor.Pmem Go.Proofs.YtcgekcjnaadcmaaGreatDoor.Pthd
open Go.RowKit Go.ChangeShapes Go.WideShapes
set_option linter.unusedVariables false

theorem gTr : (Tryz.prog.globals[(1 : Nat)]?).map (·.type) = some 282 := by kernel_rfl
theorem cellsWideR : Tryz.prog.cellsOf 282 = 5 := by kernel_rfl
theorem r_datum : /- 1 -/ (Rows.laid_palanquin_stack_widths : DataW Unit) = .agg (rws.map fun z => .lit (.int .i64 z)) := rfl
theorem tabR_of {W : World} {g : Nat} {t : TypeId} {cs : Array Value} {fuel : Nat} {p : List MemPlace} {n : String} (hn : Tryz.prog.globalNamed n = some 1) (hg : Tryz.prog.globalNamed n = some g) (ht : (Tryz.prog.globals[g]?).map (·.type) = some t) (hv : W.var? Tryz.prog n = some cs)
    (hd : DataW.trod (fun _ => ()) Tryz.prog W 0 (fun _ => true) false fuel t cs.toList = some (Rows.laid_palanquin_stack_widths, p)) : TabR W := by
  obtain rfl := Option.some.inj (hn.symm.trans hg)
  obtain rfl := Option.some.inj (gTr.symm.trans ht)
  obtain ⟨t1, fr, hb⟩ := var_block hg hv
  refine ⟨block_lt hb, t1, fr, ?_⟩
  rw [r_datum] at hd
  obtain ⟨_, hl, hc⟩ := array_ints Tryz.underlying282 cellsWideR hd
  obtain ⟨cl⟩ := cs
  simp only at hl hc hb
  match cl, hl with
  | [v0, v1, v2, v3, v4], _ =>
    have g0 := hc 0 (by omega)
    have g1 := hc 1 (by omega)
    have g2 := hc 2 (by omega)
    have g3 := hc 3 (by omega)
    have g4 := hc 4 (by omega)
    simp [rws] at g0 g1 g2 g3 g4
    rw [hb, g0, g1, g2, g3, g4]
end Go.Proofs.YtcgekcjnaadcmaaGreatDoor.Pstack

/- What upTo, Check and the calls of a place (word, load, store, end, cover, uncover) of package stack answer and do. -/
namespace Go.Proofs.YtcgekcjnaadcmaaGreatDoor.Pstack
open Go.Proofs.YtcgekcjnaadcmaaGreatDoor.Pbase Go.Proofs.YtcgekcjnaadcmaaGreatDoor.Pfield Go.Proofs.YtcgekcjnaadcmaaGreatDoor.Play Go.Proofs.YtcgekcjnaadcmaaGreatDoor.Pmem Go.Proofs.YtcgekcjnaadcmaaGreatDoor.Pthd
open Go.RowKit M
set_option linter.unusedVariables false

/-! ### upTo, Check -/
def upB (m v : Int) : Bool := decide (0 ≤ v) && decide (v ≤ m)
theorem upto_any (m v : Int) (w : World) : Calls Tryz.prog 153 #[.int .i64 m, .int .i64 v] w fun e w' => e = .returned (.bool (upB m v)) ∧ w' = w := by
  unfold upB
  by_cases h : 0 ≤ v
  · go_enter Tryz.func153, Tryz.ntmps153
    go_wp2
    go_ret
    exact ⟨by simp [h], rfl⟩
  · go_enter Tryz.func153, Tryz.ntmps153
    go_wp2
    go_ret
    refine ⟨?_, rfl⟩
    have h' : decide (0 ≤ v) = false := by simp; omega
    rw [h']
    rfl
theorem roB_up (c : Rc) : roB c = (upB 63 c.co && upB 63 c.tb && upB 63 c.pg && upB 63 c.l && upB 65535 c.e && upB 1073741824 c.ip) := rfl
set_option maxRecDepth 100000 in
set_option maxHeartbeats 2000000 in
theorem check_any (c : Rc) (w : World) : Calls Tryz.prog 108 #[.agg #[.int .i64 c.co, .int .i64 c.tb, .int .i64 c.pg, .int .i64 c.l, .int .i64 c.e, .int .i64 c.ip]] w fun e w' => e = .returned (.int .i64 (rkE c)) ∧ Below w.heap.size w w' := by
  have I0 : Hid (∀ wc, Calls Tryz.prog 153 #[.int .i64 63, .int .i64 c.co] wc fun e w' => e = .returned (.bool (upB 63 c.co)) ∧ w' = wc) := fun wc => upto_any 63 c.co wc
  have I1 : Hid (∀ wc, Calls Tryz.prog 153 #[.int .i64 63, .int .i64 c.tb] wc fun e w' => e = .returned (.bool (upB 63 c.tb)) ∧ w' = wc) := fun wc => upto_any 63 c.tb wc
  have I2 : Hid (∀ wc, Calls Tryz.prog 153 #[.int .i64 63, .int .i64 c.pg] wc fun e w' => e = .returned (.bool (upB 63 c.pg)) ∧ w' = wc) := fun wc => upto_any 63 c.pg wc
  have I3 : Hid (∀ wc, Calls Tryz.prog 153 #[.int .i64 63, .int .i64 c.l] wc fun e w' => e = .returned (.bool (upB 63 c.l)) ∧ w' = wc) := fun wc => upto_any 63 c.l wc
  have I4 : Hid (∀ wc, Calls Tryz.prog 153 #[.int .i64 65535, .int .i64 c.e] wc fun e w' => e = .returned (.bool (upB 65535 c.e)) ∧ w' = wc) := fun wc => upto_any 65535 c.e wc
  have I5 : Hid (∀ wc, Calls Tryz.prog 153 #[.int .i64 1073741824, .int .i64 c.ip] wc fun e w' => e = .returned (.bool (upB 1073741824 c.ip)) ∧ w' = wc) := fun wc => upto_any 1073741824 c.ip wc
  unfold rkE
  rw [roB_up]
  generalize upB 63 c.co = R0 at I0 ⊢
  generalize upB 63 c.tb = R1 at I1 ⊢
  generalize upB 63 c.pg = R2 at I2 ⊢
  generalize upB 63 c.l = R3 at I3 ⊢
  generalize upB 65535 c.e = R4 at I4 ⊢
  generalize upB 1073741824 c.ip = R5 at I5 ⊢
  cases R0
  · show Calls Tryz.prog 108 _ w fun e w' => e = .returned (.int .i64 1) ∧ Below w.heap.size w w'
    go_enter Tryz.func108, Tryz.ntmps108
    go_wp2_with (first
      | (go_at_call 153; refine (I0.out _).mono ?_; rintro e0 w0 ⟨rfl, hw⟩; subst hw; clear I0)
      | (go_at_call 153; refine (I1.out _).mono ?_; rintro e1 w1 ⟨rfl, hw⟩; subst hw; clear I1)
      | (go_at_call 153; refine (I2.out _).mono ?_; rintro e2 w2 ⟨rfl, hw⟩; subst hw; clear I2)
      | (go_at_call 153; refine (I3.out _).mono ?_; rintro e3 w3 ⟨rfl, hw⟩; subst hw; clear I3)
      | (go_at_call 153; refine (I4.out _).mono ?_; rintro e4 w4 ⟨rfl, hw⟩; subst hw; clear I4)
      | (go_at_call 153; refine (I5.out _).mono ?_; rintro e5 w5 ⟨rfl, hw⟩; subst hw; clear I5)
      | fail)
    go_ret
    exact ⟨rfl, bal (Below.refl _ _) _⟩
  cases R1
  · show Calls Tryz.prog 108 _ w fun e w' => e = .returned (.int .i64 1) ∧ Below w.heap.size w w'
    go_enter Tryz.func108, Tryz.ntmps108
    go_wp2_with (first
      | (go_at_call 153; refine (I0.out _).mono ?_; rintro e0 w0 ⟨rfl, hw⟩; subst hw; clear I0)
      | (go_at_call 153; refine (I1.out _).mono ?_; rintro e1 w1 ⟨rfl, hw⟩; subst hw; clear I1)
      | (go_at_call 153; refine (I2.out _).mono ?_; rintro e2 w2 ⟨rfl, hw⟩; subst hw; clear I2)
      | (go_at_call 153; refine (I3.out _).mono ?_; rintro e3 w3 ⟨rfl, hw⟩; subst hw; clear I3)
      | (go_at_call 153; refine (I4.out _).mono ?_; rintro e4 w4 ⟨rfl, hw⟩; subst hw; clear I4)
      | (go_at_call 153; refine (I5.out _).mono ?_; rintro e5 w5 ⟨rfl, hw⟩; subst hw; clear I5)
      | fail)
    go_ret
    exact ⟨rfl, bal (Below.refl _ _) _⟩
  cases R2
  · show Calls Tryz.prog 108 _ w fun e w' => e = .returned (.int .i64 1) ∧ Below w.heap.size w w'
    go_enter Tryz.func108, Tryz.ntmps108
    go_wp2_with (first
      | (go_at_call 153; refine (I0.out _).mono ?_; rintro e0 w0 ⟨rfl, hw⟩; subst hw; clear I0)
      | (go_at_call 153; refine (I1.out _).mono ?_; rintro e1 w1 ⟨rfl, hw⟩; subst hw; clear I1)
      | (go_at_call 153; refine (I2.out _).mono ?_; rintro e2 w2 ⟨rfl, hw⟩; subst hw; clear I2)
      | (go_at_call 153; refine (I3.out _).mono ?_; rintro e3 w3 ⟨rfl, hw⟩; subst hw; clear I3)
      | (go_at_call 153; refine (I4.out _).mono ?_; rintro e4 w4 ⟨rfl, hw⟩; subst hw; clear I4)
      | (go_at_call 153; refine (I5.out _).mono ?_; rintro e5 w5 ⟨rfl, hw⟩; subst hw; clear I5)
      | fail)
    go_ret
    exact ⟨rfl, bal (Below.refl _ _) _⟩
  cases R3
  · show Calls Tryz.prog 108 _ w fun e w' => e = .returned (.int .i64 1) ∧ Below w.heap.size w w'
    go_enter Tryz.func108, Tryz.ntmps108
    go_wp2_with (first
      | (go_at_call 153; refine (I0.out _).mono ?_; rintro e0 w0 ⟨rfl, hw⟩; subst hw; clear I0)
      | (go_at_call 153; refine (I1.out _).mono ?_; rintro e1 w1 ⟨rfl, hw⟩; subst hw; clear I1)
      | (go_at_call 153; refine (I2.out _).mono ?_; rintro e2 w2 ⟨rfl, hw⟩; subst hw; clear I2)
      | (go_at_call 153; refine (I3.out _).mono ?_; rintro e3 w3 ⟨rfl, hw⟩; subst hw; clear I3)
      | (go_at_call 153; refine (I4.out _).mono ?_; rintro e4 w4 ⟨rfl, hw⟩; subst hw; clear I4)
      | (go_at_call 153; refine (I5.out _).mono ?_; rintro e5 w5 ⟨rfl, hw⟩; subst hw; clear I5)
      | fail)
    go_ret
    exact ⟨rfl, bal (Below.refl _ _) _⟩
  cases R4
  · show Calls Tryz.prog 108 _ w fun e w' => e = .returned (.int .i64 1) ∧ Below w.heap.size w w'
    go_enter Tryz.func108, Tryz.ntmps108
    go_wp2_with (first
      | (go_at_call 153; refine (I0.out _).mono ?_; rintro e0 w0 ⟨rfl, hw⟩; subst hw; clear I0)
      | (go_at_call 153; refine (I1.out _).mono ?_; rintro e1 w1 ⟨rfl, hw⟩; subst hw; clear I1)
      | (go_at_call 153; refine (I2.out _).mono ?_; rintro e2 w2 ⟨rfl, hw⟩; subst hw; clear I2)
      | (go_at_call 153; refine (I3.out _).mono ?_; rintro e3 w3 ⟨rfl, hw⟩; subst hw; clear I3)
      | (go_at_call 153; refine (I4.out _).mono ?_; rintro e4 w4 ⟨rfl, hw⟩; subst hw; clear I4)
      | (go_at_call 153; refine (I5.out _).mono ?_; rintro e5 w5 ⟨rfl, hw⟩; subst hw; clear I5)
      | fail)
    go_ret
    exact ⟨rfl, bal (Below.refl _ _) _⟩
  cases R5
  · show Calls Tryz.prog 108 _ w fun e w' => e = .returned (.int .i64 1) ∧ Below w.heap.size w w'
    go_enter Tryz.func108, Tryz.ntmps108
    go_wp2_with (first
      | (go_at_call 153; refine (I0.out _).mono ?_; rintro e0 w0 ⟨rfl, hw⟩; subst hw; clear I0)
      | (go_at_call 153; refine (I1.out _).mono ?_; rintro e1 w1 ⟨rfl, hw⟩; subst hw; clear I1)
      | (go_at_call 153; refine (I2.out _).mono ?_; rintro e2 w2 ⟨rfl, hw⟩; subst hw; clear I2)
      | (go_at_call 153; refine (I3.out _).mono ?_; rintro e3 w3 ⟨rfl, hw⟩; subst hw; clear I3)
      | (go_at_call 153; refine (I4.out _).mono ?_; rintro e4 w4 ⟨rfl, hw⟩; subst hw; clear I4)
      | (go_at_call 153; refine (I5.out _).mono ?_; rintro e5 w5 ⟨rfl, hw⟩; subst hw; clear I5)
      | fail)
    go_ret
    exact ⟨rfl, bal (Below.refl _ _) _⟩
  · show Calls Tryz.prog 108 _ w fun e w' => e = .returned (.int .i64 0) ∧ Below w.heap.size w w'
    go_enter Tryz.func108, Tryz.ntmps108
    go_wp2_with (first
      | (go_at_call 153; refine (I0.out _).mono ?_; rintro e0 w0 ⟨rfl, hw⟩; subst hw; clear I0)
      | (go_at_call 153; refine (I1.out _).mono ?_; rintro e1 w1 ⟨rfl, hw⟩; subst hw; clear I1)
      | (go_at_call 153; refine (I2.out _).mono ?_; rintro e2 w2 ⟨rfl, hw⟩; subst hw; clear I2)
      | (go_at_call 153; refine (I3.out _).mono ?_; rintro e3 w3 ⟨rfl, hw⟩; subst hw; clear I3)
      | (go_at_call 153; refine (I4.out _).mono ?_; rintro e4 w4 ⟨rfl, hw⟩; subst hw; clear I4)
      | (go_at_call 153; refine (I5.out _).mono ?_; rintro e5 w5 ⟨rfl, hw⟩; subst hw; clear I5)
      | fail)
    go_ret
    exact ⟨rfl, bal (Below.refl _ _) _⟩
/-! ### a place: word, load, store -/
set_option maxRecDepth 100000 in
theorem word_any (p : Nat) (f : Int) (i n : Nat) (hi : i < 6) (hn : n < 2) (w : World) : Calls Tryz.prog 178 #[.agg #[.pointer (some ⟨p, 0, none⟩), .int .i64 f, .int .i64 (i : Int)], .int .i64 (n : Int)] w fun e w' => e = .returned (.int .i64 (17 + 2 * (i : Int) + (n : Int))) ∧ Below w.heap.size w w' := by
  have h1 : wrap64 (2 * (i : Int)) = 2 * (i : Int) := by unfold wrap64; omega
  have h2 : wrap64 (17 + 2 * (i : Int)) = 17 + 2 * (i : Int) := by unfold wrap64; omega
  have h3 : wrap64 (17 + 2 * (i : Int) + (n : Int)) = 17 + 2 * (i : Int) + (n : Int) := by unfold wrap64; omega
  go_enter Tryz.func178, Tryz.ntmps178
  go_wp2
  go_ret
  exact ⟨rfl, bal (Below.refl _ _) _⟩
/-- A memory, and the place that was handed in. -/
structure Pw (w W : World) (p b N : Nat) (f i : Int) (M : Nat → Nat → Int) : Prop where
  sx : Sx W p b N M
  row : RowL W w.heap.size p f i
  below : Below w.heap.size w W
theorem pw_new {w : World} {p b N : Nat} {M : Nat → Nat → Int} (h : Sx w p b N M) (f i : Int) : Pw w (w.alloc (.cells #[.pointer (some ⟨p, 0, none⟩), .int .i64 f, .int .i64 i] 192)) p b N f i M := ⟨h.on (bal (Below.refl _ _) _), rowL_new w p f i, bal (Below.refl _ _) _⟩
theorem Pw.on {w W W' : World} {p b N : Nat} {f i : Int} {M : Nat → Nat → Int} (h : Pw w W p b N f i M) (hB : Below W.heap.size W W') : Pw w W' p b N f i M := ⟨h.sx.on hB, h.row.on hB, h.below.trans (hB.mono h.below.size)⟩
theorem ok_at {N : Nat} {f : Int} (hf : okF N f = true) {i n : Nat} (hi : i < 6) (hn : n < 2) : okW N f (17 + 2 * (i : Int) + (n : Int)) = true := by
  unfold okW
  rw [hf]
  simp
  omega
set_option maxRecDepth 100000 in
set_option maxHeartbeats 1000000 in
theorem pstore_any (p b N : Nat) (f v : Int) (i n : Nat) (M : Nat → Nat → Int) (w : World) (hM : Sx w p b N M) (hf : okF N f = true) (hi : i < 6) (hn : n < 2) (hv : 0 ≤ v ∧ v ≤ 18446744073709551615) :
    Calls Tryz.prog 155 #[.agg #[.pointer (some ⟨p, 0, none⟩), .int .i64 f, .int .i64 (i : Int)], .int .i64 (n : Int), .int .u64 v] w fun e w' => e = .returned (.int .i64 0) ∧ Sx w' p b N (stW N M f (17 + 2 * (i : Int) + (n : Int)) v) ∧ But b w w' := by
  have hlb := hM.ltb
  have HS : Hid (∀ wc, Pw w wc p b N f (i : Int) M → Calls Tryz.prog 146 #[.pointer (some ⟨p, 0, none⟩), .int .i64 f, .int .i64 (17 + 2 * (i : Int) + (n : Int)), .int .u64 v] wc fun e w' => e = .returned (.int .i64 0) ∧ Sx w' p b N (stW N M f (17 + 2 * (i : Int) + (n : Int)) v) ∧ But b w w' ∧ RowL w' w.heap.size p f (i : Int)) := fun wc h => by
    have := Pmem.store_any p b N f (17 + 2 * (i : Int) + (n : Int)) v M wc hM.mx.n1 hM.mx.n64 h.sx.mx.mem
    have ho := ok_at hf hi hn
    rw [show errW N f (17 + 2 * (i : Int) + (n : Int)) = 0 by unfold errW; rw [ho]; rfl] at this
    refine this.mono ?_
    rintro e w' ⟨rfl, rfl⟩
    have hb : But b wc (wc.setRow b (cellsM N (stW N M f (17 + 2 * (i : Int) + (n : Int)) v))) := (But.refl b wc).setRow _
    exact ⟨rfl, h.sx.but (h.sx.mx.but (h.sx.mx.mem.set _) (hM.mx.fit.st N f _ v hv) hb) hb, (But.of_below b h.below).trans hb, h.row.but hb (by omega)⟩
  have HW : Hid (∀ wc, Calls Tryz.prog 178 #[.agg #[.pointer (some ⟨p, 0, none⟩), .int .i64 f, .int .i64 (i : Int)], .int .i64 (n : Int)] wc fun e w' => e = .returned (.int .i64 (17 + 2 * (i : Int) + (n : Int))) ∧ Below wc.heap.size wc w') := fun wc => word_any p f i n hi hn wc
  have H0 := rhide (pw_new hM f (i : Int))
  clear hM hf hv hlb
  generalize stW N M f (17 + 2 * (i : Int) + (n : Int)) v = M1 at HS ⊢
  generalize 17 + 2 * (i : Int) + (n : Int) = a at HS HW
  generalize (n : Int) = n' at HW ⊢
  generalize (i : Int) = i' at H0 HS HW ⊢
  go_enter Tryz.func155, Tryz.ntmps155
  go_wp2
  generalize w.alloc _ = w1 at H0 ⊢
  have x0 := H0.out.row.c0
  have x1 := H0.out.row.c1
  have x2 := H0.out.row.c2
  go_region_held3 (fun w' => w'.cell? ⟨w.heap.size, 0, none⟩ = some (.pointer (some ⟨p, 0, none⟩)) ∧ w'.cell? ⟨w.heap.size, 1, none⟩ = some (.int .i64 f) ∧ w'.cell? ⟨w.heap.size, 2, none⟩ = some (.int .i64 i')) (first | exact ⟨by assumption, by assumption, by assumption⟩ | go_keep)
  (first
    | (go_at_call 178; refine (HW.out _).mono ?_; rintro e2 w2 ⟨rfl, hb⟩; have H1 := rhide (H0.out.on (by first | exact hb | exact (Below.refl _ _).drew.trans hb)); clear hb x0 x1 x2 H0; have x0 := H1.out.row.c0; have x1 := H1.out.row.c1; have x2 := H1.out.row.c2)
    | (go_at_call 146; refine (HS.out _ (by first | exact H1.out | exact H1.out.on (Below.refl _ _).drew)).mono ?_; rintro e3 w3 ⟨rfl, hw⟩; have H2 := rhide hw; clear hw HS H1 x0 x1 x2; have x0 := H2.out.2.2.c0; have x1 := H2.out.2.2.c1; have x2 := H2.out.2.2.c2)
    | fail)
  all_goals
    go_wp2
    go_ret
    first
      | exact ⟨rfl, H2.out.1, H2.out.2.1⟩
      | exact ⟨rfl, H2.out.1.on (Below.refl _ _).drew, H2.out.2.1.drew⟩
/-! ### end, cover, uncover -/
set_option maxRecDepth 100000 in
set_option maxHeartbeats 1000000 in
theorem end_any (p b N : Nat) (f i : Int) (d : Nat) (M : Nat → Nat → Int) (w : World) (hM : Sx w p b N M) (hg : gtE N M f = 0) (hd : d ≤ 6) :
    Calls Tryz.prog 156 #[.agg #[.pointer (some ⟨p, 0, none⟩), .int .i64 f, .int .i64 i], .int .i64 (d : Int)] w fun e w' => e = .returned (.int .i64 0) ∧ Sx w' p b N (stW N M f 8 (d : Int)) ∧ But b w w' := by
  obtain ⟨e1, e2, e3⟩ := dp_put hg hd
  have HG : Hid (∀ wc, Pw w wc p b N f i M → Calls Tryz.prog 54 #[.pointer (some ⟨p, 0, none⟩), .int .i64 f] wc fun e w' => e = .returned (.tuple #[.agg #[.int .i64 (thOf M f).st, .int .i64 (thOf M f).co, .int .i64 (thOf M f).tc, .int .i64 (thOf M f).rc, .int .i64 (thOf M f).de], .int .i64 0]) ∧ Below wc.heap.size wc w') := fun wc h => by
    have := Pthd.get_any p b N f M wc h.sx.mx
    rwa [hg, (gt_yes hg).2.2] at this
  have HP : Hid (∀ wc, Pw w wc p b N f i M → Calls Tryz.prog 55 #[.pointer (some ⟨p, 0, none⟩), .int .i64 f, .agg #[.int .i64 (thOf M f).st, .int .i64 (thOf M f).co, .int .i64 (thOf M f).tc, .int .i64 (thOf M f).rc, .int .i64 (d : Int)]] wc fun e w' => e = .returned (.int .i64 0) ∧ Sx w' p b N (stW N M f 8 (d : Int)) ∧ But b w w') := fun wc h => by
    have := Pthd.put_any p b N f (dpX (thOf M f) (d : Int)) M wc h.sx.mx e3.fi
    rw [e1, e2] at this
    exact this.mono fun e w' ⟨q1, q2, q3⟩ => ⟨q1, h.sx.but q2 q3, (But.of_below b h.below).trans q3⟩
  have H0 := rhide (pw_new hM f i)
  clear hM e1 e2 e3 hg hd
  generalize stW N M f 8 (d : Int) = M1 at HP ⊢
  generalize thOf M f = y at HG HP
  generalize (d : Int) = d' at HP ⊢
  go_enter Tryz.func156, Tryz.ntmps156
  go_wp2_with (first
    | (go_at_call 54; refine (HG.out _ H0.out).mono ?_; rintro e1 w1 ⟨rfl, hb⟩; have H1 := rhide (H0.out.on hb); clear hb HG H0; have x0 := H1.out.row.c0; have x1 := H1.out.row.c1; have xl := H1.out.row.lt)
    | (go_at_call 55; refine (HP.out _ (H1.out.on (bal (Below.refl _ _) _))).mono ?_; rintro e2 w2 ⟨rfl, hw⟩; have H2 := rhide hw; clear hw HP H1)
    | fail)
  go_ret
  exact ⟨rfl, H2.out⟩
set_option maxRecDepth 100000 in
theorem cover_any (p b N : Nat) (f : Int) (i : Nat) (M : Nat → Nat → Int) (w : World) (hM : Sx w p b N M) (hg : gtE N M f = 0) (hi : i < 6) :
    Calls Tryz.prog 110 #[.agg #[.pointer (some ⟨p, 0, none⟩), .int .i64 f, .int .i64 (i : Int)]] w fun e w' => e = .returned (.int .i64 0) ∧ Sx w' p b N (stW N M f 8 ((i + 1 : Nat) : Int)) ∧ But b w w' := by
  have HE : Hid (∀ wc, Pw w wc p b N f (i : Int) M → Calls Tryz.prog 156 #[.agg #[.pointer (some ⟨p, 0, none⟩), .int .i64 f, .int .i64 (i : Int)], .int .i64 ((i : Int) + 1)] wc fun e w' => e = .returned (.int .i64 0) ∧ Sx w' p b N (stW N M f 8 ((i + 1 : Nat) : Int)) ∧ But b w w') := fun wc h =>
    (end_any p b N f (i : Int) (i + 1) M wc h.sx hg (by omega)).mono fun e w' ⟨q1, q2, q3⟩ => ⟨q1, q2, (But.of_below b h.below).trans q3⟩
  have H0 := rhide (pw_new hM f (i : Int))
  have hw : wrap64 ((i : Int) + 1) = (i : Int) + 1 := by unfold wrap64; omega
  clear hM hg
  generalize stW N M f 8 ((i + 1 : Nat) : Int) = M1 at HE ⊢
  go_enter Tryz.func110, Tryz.ntmps110
  go_wp2_with (first
    | (go_at_call 156; refine (HE.out _ H0.out).mono ?_; rintro e2 w2 ⟨rfl, hw⟩; have H2 := rhide hw; clear hw HE H0)
    | fail)
  go_ret
  exact ⟨rfl, H2.out⟩
end Go.Proofs.YtcgekcjnaadcmaaGreatDoor.Pstack

/- What read and last of package stack answer. -/
namespace Go.Proofs.YtcgekcjnaadcmaaGreatDoor.Pstack
open Go.Proofs.YtcgekcjnaadcmaaGreatDoor.Pbase Go.Proofs.YtcgekcjnaadcmaaGreatDoor.Pfield Go.Proofs.YtcgekcjnaadcmaaGreatDoor.Play Go.Proofs.YtcgekcjnaadcmaaGreatDoor.Pmem Go.Proofs.YtcgekcjnaadcmaaGreatDoor.Pthd
open Go.RowKit M
set_option linter.unusedVariables false

/-! ### a record that is answered -/
def r9 (p : Nat) (f i : Int) (x : Rc) : List Value := [.pointer (some ⟨p, 0, none⟩), .int .i64 f, .int .i64 i, .int .i64 x.co, .int .i64 x.tb, .int .i64 x.pg, .int .i64 x.l, .int .i64 x.e, .int .i64 x.ip]
theorem rowV_but {w w' : World} {B b : Nat} {vs : List Value} (h : Pthd.RowV w B vs) (hB : But b w w') (hn : B ≠ b) : Pthd.RowV w' B vs := by
  obtain ⟨t, hr⟩ := h
  exact ⟨t, (hB.block B (Array.getElem?_eq_some_iff.1 hr).1 hn).trans hr⟩
/-! ### read -/
end Go.Proofs.YtcgekcjnaadcmaaGreatDoor.Pstack

/- What last, write, Push, Pop, Top and Ip of package stack answer and do; awake. -/
namespace Go.Proofs.YtcgekcjnaadcmaaGreatDoor.Pstack
open Go.Proofs.YtcgekcjnaadcmaaGreatDoor.Pbase Go.Proofs.YtcgekcjnaadcmaaGreatDoor.Pfield Go.Proofs.YtcgekcjnaadcmaaGreatDoor.Play Go.Proofs.YtcgekcjnaadcmaaGreatDoor.Pmem Go.Proofs.YtcgekcjnaadcmaaGreatDoor.Pthd
open Go.RowKit M
set_option linter.unusedVariables false

theorem r9_cells {W : World} {B p : Nat} {f i : Int} {x : Rc} (h : Pthd.RowV W B (r9 p f i x)) : W.cell? ⟨B, 0, none⟩ = some (.pointer (some ⟨p, 0, none⟩)) ∧ W.cell? ⟨B, 1, none⟩ = some (.int .i64 f) ∧ W.cell? ⟨B, 2, none⟩ = some (.int .i64 i) ∧ W.cell? ⟨B, 3, none⟩ = some (.int .i64 x.co) ∧ W.cell? ⟨B, 4, none⟩ = some (.int .i64 x.tb) ∧ W.cell? ⟨B, 5, none⟩ = some (.int .i64 x.pg) ∧ W.cell? ⟨B, 6, none⟩ = some (.int .i64 x.l) ∧ W.cell? ⟨B, 7, none⟩ = some (.int .i64 x.e) ∧ W.cell? ⟨B, 8, none⟩ = some (.int .i64 x.ip) :=
  ⟨h.cell 0, h.cell 1, h.cell 2, h.cell 3, h.cell 4, h.cell 5, h.cell 6, h.cell 7, h.cell 8⟩
/-! ### last -/
/-! ### Top -/
/-! ### write -/
structure Wr (w W : World) (p b N : Nat) (f i : Int) (M : Nat → Nat → Int) (x : Rc) : Prop where
  sx : Sx W p b N M
  row : Pthd.RowV W w.heap.size (r9 p f i x)
  but : But b w W
theorem wr_new {w : World} {p b N : Nat} {M : Nat → Nat → Int} (h : Sx w p b N M) (f i : Int) (x : Rc) : Wr w (w.alloc (.cells (r9 p f i x).toArray 194)) p b N f i M x := ⟨h.on (bal (Below.refl _ _) _), Pthd.rowV_new w (r9 p f i x) 194, But.of_below b (bal (Below.refl _ _) _)⟩
theorem Wr.on {w W W' : World} {p b N : Nat} {f i : Int} {M : Nat → Nat → Int} {x : Rc} (h : Wr w W p b N f i M x) (hB : Below W.heap.size W W') : Wr w W' p b N f i M x := ⟨h.sx.on hB, h.row.on hB, h.but.trans (But.of_below b hB)⟩
theorem Wr.turn {w W W' : World} {p b N : Nat} {f i : Int} {M M' : Nat → Nat → Int} {x : Rc} (h : Wr w W p b N f i M x) (hl : b < w.heap.size) (hX : Sx W' p b N M') (hB : But b W W') : Wr w W' p b N f i M' x := ⟨hX, rowV_but h.row hB (by omega), h.but.trans hB⟩
set_option maxRecDepth 100000 in
set_option maxHeartbeats 4000000 in
theorem write_any (p b N : Nat) (f : Int) (i : Nat) (x : Rc) (M : Nat → Nat → Int) (w : World) (hM : Sx w p b N M) (hf : okF N f = true) (hi : i < 6) (hx : Ro x) :
    Calls Tryz.prog 109 #[.agg #[.pointer (some ⟨p, 0, none⟩), .int .i64 f, .int .i64 (i : Int), .int .i64 x.co, .int .i64 x.tb, .int .i64 x.pg, .int .i64 x.l, .int .i64 x.e, .int .i64 x.ip]] w fun e w' => e = .returned (.int .i64 0) ∧ Sx w' p b N (lyR N M f i x) ∧ But b w w' := by
  have hlb := hM.ltb
  have hip := hx.2.2.2.2.2
  have H0 := rhide (wr_new hM f (i : Int) x)
  have HS0 : Hid (∀ wc, Wr w wc p b N f (i : Int) M x → Calls Tryz.prog 155 #[.agg #[.pointer (some ⟨p, 0, none⟩), .int .i64 f, .int .i64 (i : Int)], .int .i64 0, .int .u64 (rwd x)] wc fun e w' => e = .returned (.int .i64 0) ∧ Wr w w' p b N f (i : Int) (stW N M f (17 + 2 * (i : Int)) (rwd x)) x) := fun wc h => by
    have := pstore_any p b N f (rwd x) i 0 M wc h.sx hf hi (by omega) (rwd_bd hx)
    rw [show 17 + 2 * (i : Int) + ((0 : Nat) : Int) = 17 + 2 * (i : Int) by omega] at this
    exact this.mono fun e w' ⟨q1, q2, q3⟩ => ⟨q1, h.turn hlb q2 q3⟩
  have HS1 : Hid (∀ wc, Wr w wc p b N f (i : Int) (stW N M f (17 + 2 * (i : Int)) (rwd x)) x → Calls Tryz.prog 155 #[.agg #[.pointer (some ⟨p, 0, none⟩), .int .i64 f, .int .i64 (i : Int)], .int .i64 1, .int .u64 x.ip] wc fun e w' => e = .returned (.int .i64 0) ∧ Wr w w' p b N f (i : Int) (lyR N M f i x) x) := fun wc h => by
    have := pstore_any p b N f x.ip i 1 _ wc h.sx hf hi (by omega) (by omega)
    rw [show 17 + 2 * (i : Int) + ((1 : Nat) : Int) = 18 + 2 * (i : Int) by omega] at this
    exact this.mono fun e w' ⟨q1, q2, q3⟩ => ⟨q1, h.turn hlb q2 q3⟩
  have HK : Hid (∀ D wc wd, Ints .i64 wc.heap.size wc (.slice (some ⟨D, 0, none⟩) 5 5) rws → Below (wc.alloc (.cells #[.int .u64 x.co, .int .u64 x.tb, .int .u64 x.pg, .int .u64 x.l, .int .u64 x.e] 104)).heap.size (wc.alloc (.cells #[.int .u64 x.co, .int .u64 x.tb, .int .u64 x.pg, .int .u64 x.l, .int .u64 x.e] 104)) wd → Calls Tryz.prog 154 #[.slice (some ⟨D, 0, none⟩) 5 5, .slice (some ⟨wc.heap.size, 0, none⟩) 5 5] wd fun e w' => e = .returned (.tuple #[.int .u64 (rwd x), .int .i64 0]) ∧ Below wc.heap.size wc w') := fun D wc wd h hd =>
    (pack_ok (some ⟨D, 0, none⟩) (some ⟨wc.heap.size, 0, none⟩) 5 5 rws x.vs _ (by decide) rfl (rput_can hx).1 ((h.on (bal (Below.refl _ _) _)).on hd) ((ints_vs wc x 104).on hd) (rput_can hx).2).mono fun e w' ⟨q1, q2⟩ => ⟨q1, ((bal (Below.refl wc.heap.size wc) _).trans (hd.mono (by simp))).trans (q2.mono (by have := hd.size; simp at this; omega))⟩
  unfold Ro at hx
  have d0 : IntKind.u64.wrap x.co = x.co := wrapu_small (by omega) (by omega)
  have d1 : IntKind.u64.wrap x.tb = x.tb := wrapu_small (by omega) (by omega)
  have d2 : IntKind.u64.wrap x.pg = x.pg := wrapu_small (by omega) (by omega)
  have d3 : IntKind.u64.wrap x.l = x.l := wrapu_small (by omega) (by omega)
  have d4 : IntKind.u64.wrap x.e = x.e := wrapu_small (by omega) (by omega)
  have d5 : IntKind.u64.wrap x.ip = x.ip := wrapu_small (by omega) (by omega)
  clear hx hip hM hf hlb
  generalize rwd x = z at HS0 HS1 HK
  generalize lyR N M f i x = M2 at HS1 ⊢
  generalize stW N M f (17 + 2 * (i : Int)) z = M1 at HS0 HS1
  generalize (i : Int) = i' at H0 HS0 HS1 ⊢
  go_enter Tryz.func109, Tryz.ntmps109
  go_upto_region 1 with fail
  have H0' : Hid (Wr w (w.alloc (.cells #[.pointer (some ⟨p, 0, none⟩), .int .i64 f, .int .i64 i', .int .i64 x.co, .int .i64 x.tb, .int .i64 x.pg, .int .i64 x.l, .int .i64 x.e, .int .i64 x.ip] 194)) p b N f i' M x) := H0
  clear H0
  generalize w.alloc _ = v0 at H0' ⊢
  obtain ⟨g0, g1, g2, g3, g4⟩ := H0'.out.sx.tb.cells
  have gl := H0'.out.sx.tb.lt
  go_upto_region 2 with fail
  have H1 := rhide (H0'.out.on (bal (Below.refl v0.heap.size v0) (.cells #[.int .i64 6, .int .i64 6, .int .i64 6, .int .i64 6, .int .i64 16] 282)))
  have HJ : Hid (Ints .i64 _ _ (.slice (some ⟨v0.heap.size, 0, none⟩) 5 5) rws) := ints_rws v0 282
  clear g0 g1 g2 g3 g4 gl H0'
  generalize v0.alloc _ = v1 at H1 HJ ⊢
  generalize v0.heap.size = D at HJ ⊢
  go_cut [4, 5] from 8 to 33 (fun v4 v5 wc => v4 = .int .u64 z ∧ v5 = .int .i64 0 ∧ Wr w wc p b N f i' M x)
  case first =>
    obtain ⟨x0, x1, x2, x3, x4, x5, x6, x7, x8⟩ := r9_cells H1.out.row
    clear x0 x1 x2 x8
    go_region_held3 (fun w' => w'.cell? ⟨w.heap.size, 3, none⟩ = some (.int .i64 x.co) ∧ w'.cell? ⟨w.heap.size, 4, none⟩ = some (.int .i64 x.tb) ∧ w'.cell? ⟨w.heap.size, 5, none⟩ = some (.int .i64 x.pg) ∧ w'.cell? ⟨w.heap.size, 6, none⟩ = some (.int .i64 x.l) ∧ w'.cell? ⟨w.heap.size, 7, none⟩ = some (.int .i64 x.e)) (first | (refine ⟨?_, ?_, ?_, ?_, ?_⟩ <;> with_reducible assumption) | go_keep)
    (first
      | (go_at_call 154; refine (HK.out D v1 _ HJ.out (by first | exact Below.refl _ _ | exact (Below.refl _ _).drew)).mono ?_; rintro e2 w2 ⟨rfl, hb⟩; have H2 := rhide (H1.out.on (by first | exact hb | exact (Below.refl _ _).drew.trans hb)); clear hb H1 HJ HK x3 x4 x5 x6 x7; obtain ⟨x0, x1, x2, x3, x4, x5, x6, x7, x8⟩ := r9_cells H2.out.row; clear x0 x1 x2 x8)
      | fail)
    all_goals
      go_wp2_with fail
      go_meet
      first | exact ⟨rfl, rfl, H2.out⟩ | exact ⟨rfl, rfl, H2.out.on (Below.refl _ _).drew⟩
  case rest =>
    obtain ⟨h4, h5, h2⟩ := hcut
    subst h4
    subst h5
    have H2 := rhide h2
    clear h2 H1 HJ HK
    obtain ⟨x0, x1, x2, x3, x4, x5, x6, x7, x8⟩ := r9_cells H2.out.row
    go_wp2_with (first
      | (go_at_call 155; refine (HS0.out _ H2.out).mono ?_; rintro e3 w3 ⟨rfl, hw⟩; have H3 := rhide hw; clear hw HS0 H2 x0 x1 x2 x3 x4 x5 x6 x7 x8; obtain ⟨x0, x1, x2, x3, x4, x5, x6, x7, x8⟩ := r9_cells H3.out.row)
      | (go_at_call 155; refine (HS1.out _ H3.out).mono ?_; rintro e4 w4 ⟨rfl, hw⟩; have H4 := rhide hw; clear hw HS1 H3)
      | fail)
    go_ret
    exact ⟨rfl, H4.out.sx, H4.out.but⟩
/-! ### Push -/
structure Pu (w W : World) (p b N : Nat) (M : Nat → Nat → Int) (x : Rc) : Prop where
  sx : Sx W p b N M
  row : RowR W w.heap.size x
  below : Below w.heap.size w W
theorem pu_new {w : World} {p b N : Nat} {M : Nat → Nat → Int} (h : Sx w p b N M) (x : Rc) : Pu w (w.alloc (.cells #[.int .i64 x.co, .int .i64 x.tb, .int .i64 x.pg, .int .i64 x.l, .int .i64 x.e, .int .i64 x.ip] 83)) p b N M x := ⟨h.on (bal (Below.refl _ _) _), rowR_new w x, bal (Below.refl _ _) _⟩
theorem Pu.on {w W W' : World} {p b N : Nat} {M : Nat → Nat → Int} {x : Rc} (h : Pu w W p b N M x) (hB : Below W.heap.size W W') : Pu w W' p b N M x := ⟨h.sx.on hB, h.row.on hB, h.below.trans (hB.mono h.below.size)⟩
structure Pv (w W : World) (p b N : Nat) (M : Nat → Nat → Int) (E : Nat) (f d : Int) (x : Rc) : Prop where
  sx : Sx W p b N M
  rc : Pthd.RowV W E (r9 p f d x)
  el : w.heap.size ≤ E
  but : But b w W
theorem Pu.more {w W : World} {p b N : Nat} {M : Nat → Nat → Int} {x : Rc} (h : Pu w W p b N M x) (o : Obj) (f d : Int) : Pv w ((W.alloc o).alloc (.cells #[.pointer (some ⟨p, 0, none⟩), .int .i64 f, .int .i64 d, .int .i64 x.co, .int .i64 x.tb, .int .i64 x.pg, .int .i64 x.l, .int .i64 x.e, .int .i64 x.ip] 194)) p b N M (W.heap.size + 1) f d x := by
  have h1 := Pthd.rowV_new (W.alloc o) (r9 p f d x) 194
  simp only [World.size_alloc] at h1
  have hs := h.below.size
  have hb := bal (bal (Below.refl W.heap.size W) o) (.cells #[.pointer (some ⟨p, 0, none⟩), .int .i64 f, .int .i64 d, .int .i64 x.co, .int .i64 x.tb, .int .i64 x.pg, .int .i64 x.l, .int .i64 x.e, .int .i64 x.ip] 194)
  exact ⟨h.sx.on hb, h1, by omega, But.of_below b (h.below.trans (hb.mono hs))⟩
theorem Pv.turn {w W W' : World} {p b N : Nat} {M M' : Nat → Nat → Int} {E : Nat} {f d : Int} {x : Rc} (h : Pv w W p b N M E f d x) (hl : b < w.heap.size) (hX : Sx W' p b N M') (hB : But b W W') : Pv w W' p b N M' E f d x := ⟨hX, rowV_but h.rc hB (by have := h.el; omega), h.el, h.but.trans hB⟩
set_option maxRecDepth 100000 in
set_option maxHeartbeats 2000000 in
theorem push_any (p b N : Nat) (f : Int) (x : Rc) (M : Nat → Nat → Int) (w : World) (hM : Sx w p b N M) :
    Calls Tryz.prog 43 #[.pointer (some ⟨p, 0, none⟩), .int .i64 f, .agg #[.int .i64 x.co, .int .i64 x.tb, .int .i64 x.pg, .int .i64 x.l, .int .i64 x.e, .int .i64 x.ip]] w fun e w' => e = .returned (.int .i64 (psE N M f x)) ∧ Sx w' p b N (psM N M f x) ∧ But b w w' := by
  have hlb := hM.ltb
  have H0 := rhide (pu_new hM x)
  have HC : Hid (∀ wc, Calls Tryz.prog 108 #[.agg #[.int .i64 x.co, .int .i64 x.tb, .int .i64 x.pg, .int .i64 x.l, .int .i64 x.e, .int .i64 x.ip]] wc fun e w' => e = .returned (.int .i64 (rkE x)) ∧ Below wc.heap.size wc w') := fun wc => check_any x wc
  have HG : Hid (∀ wc, Pu w wc p b N M x → Calls Tryz.prog 54 #[.pointer (some ⟨p, 0, none⟩), .int .i64 f] wc fun e w' => e = .returned (.tuple #[.agg #[.int .i64 (gtT N M f).st, .int .i64 (gtT N M f).co, .int .i64 (gtT N M f).tc, .int .i64 (gtT N M f).rc, .int .i64 (gtT N M f).de], .int .i64 (gtE N M f)]) ∧ Below wc.heap.size wc w') := fun wc h => Pthd.get_any p b N f M wc h.sx.mx
  by_cases hx : Ro x
  case neg =>
    have e1 : psE N M f x = 1 := by unfold psE; rw [roB_no hx]; rfl
    have e2 : psM N M f x = M := by unfold psM; rw [if_neg (by rw [e1]; decide)]
    rw [e1, e2]
    rw [show rkE x = 1 by unfold rkE; rw [roB_no hx]; rfl] at HC
    clear e1 e2 hx hM HG hlb
    go_enter Tryz.func43, Tryz.ntmps43
    go_wp2_with (first
      | (go_at_call 108; refine (HC.out _).mono ?_; rintro e1 w1 ⟨rfl, hb⟩; have H1 := rhide (H0.out.on hb); clear hb H0 HC)
      | fail)
    go_ret
    exact ⟨rfl, H1.out.sx, But.of_below b H1.out.below⟩
  case pos =>
  rw [show rkE x = 0 by unfold rkE; rw [roB_yes hx]; rfl] at HC
  by_cases hg : gtE N M f = 0
  · obtain ⟨hf, hde, h6⟩ := gt_dp hg
    rw [hg, (gt_yes hg).2.2] at HG
    by_cases hd : dpN M f = 6
    · have e1 : psE N M f x = 8 := by unfold psE; rw [if_pos (roB_yes hx), if_pos hg, if_pos hd]
      have e2 : psM N M f x = M := by unfold psM; rw [if_neg (by rw [e1]; decide)]
      rw [e1, e2]
      rw [show (thOf M f).de = 6 by rw [hde, hd]; rfl] at HG
      generalize thOf M f = y at HG
      clear e1 e2 hd hde h6 hf hg hx hM hlb
      go_enter Tryz.func43, Tryz.ntmps43
      go_wp2_with (first
        | (go_at_call 108; refine (HC.out _).mono ?_; rintro e1 w1 ⟨rfl, hb⟩; have H1 := rhide (H0.out.on hb); clear hb H0 HC)
        | (go_at_call 54; refine (HG.out _ H1.out).mono ?_; rintro e2 w2 ⟨rfl, hb⟩; have H2 := rhide ((H1.out.on hb).on (bal (Below.refl _ _) (.cells #[.int .i64 y.st, .int .i64 y.co, .int .i64 y.tc, .int .i64 y.rc, .int .i64 6] 78))); clear hb H1 HG)
        | fail)
      go_ret
      exact ⟨rfl, H2.out.sx, But.of_below b H2.out.below⟩
    · have e1 : psE N M f x = 0 := by unfold psE; rw [if_pos (roB_yes hx), if_pos hg, if_neg hd]
      have e2 : psM N M f x = stW N (lyR N M f (dpN M f) x) f 8 ((dpN M f + 1 : Nat) : Int) := by unfold psM; rw [if_pos e1]
      rw [e1, e2]
      rw [hde] at HG
      have HW : Hid (∀ E wc, Pv w wc p b N M E f ((dpN M f : Nat) : Int) x → Calls Tryz.prog 109 #[.agg #[.pointer (some ⟨p, 0, none⟩), .int .i64 f, .int .i64 ((dpN M f : Nat) : Int), .int .i64 x.co, .int .i64 x.tb, .int .i64 x.pg, .int .i64 x.l, .int .i64 x.e, .int .i64 x.ip]] wc fun e w' => e = .returned (.int .i64 0) ∧ Pv w w' p b N (lyR N M f (dpN M f) x) E f ((dpN M f : Nat) : Int) x) := fun E wc h =>
        (write_any p b N f (dpN M f) x M wc h.sx hf (by omega) hx).mono fun e w' ⟨q1, q2, q3⟩ => ⟨q1, h.turn hlb q2 q3⟩
      have HV : Hid (∀ E wc, Pv w wc p b N (lyR N M f (dpN M f) x) E f ((dpN M f : Nat) : Int) x → Calls Tryz.prog 110 #[.agg #[.pointer (some ⟨p, 0, none⟩), .int .i64 f, .int .i64 ((dpN M f : Nat) : Int)]] wc fun e w' => e = .returned (.int .i64 0) ∧ Sx w' p b N (stW N (lyR N M f (dpN M f) x) f 8 ((dpN M f + 1 : Nat) : Int)) ∧ But b w w') := fun E wc h =>
        (cover_any p b N f (dpN M f) (lyR N M f (dpN M f) x) wc h.sx (by rw [ly_gt hf (by omega)]; exact hg) (by omega)).mono fun e w' ⟨q1, q2, q3⟩ => ⟨q1, q2, h.but.trans q3⟩
      generalize stW N (lyR N M f (dpN M f) x) f 8 ((dpN M f + 1 : Nat) : Int) = M2 at HV ⊢
      generalize lyR N M f (dpN M f) x = M1 at HW HV
      generalize thOf M f = y at HG
      generalize dpN M f = d0 at HG HW HV hd h6
      have hd6 : ((d0 : Int) == 6) = false := by simp; omega
      generalize (d0 : Int) = d at HG HW HV hd6
      clear e1 e2 hde hf hg hx hM hd h6 hlb
      go_enter Tryz.func43, Tryz.ntmps43
      go_upto_region 10 with (first
        | (go_at_call 108; refine (HC.out _).mono ?_; rintro e1 w1 ⟨rfl, hb⟩; have H1 := rhide (H0.out.on hb); clear hb H0 HC)
        | (go_at_call 54; refine (HG.out _ H1.out).mono ?_; rintro e2 w2 ⟨rfl, hb⟩; have H2 := rhide (H1.out.on hb); clear hb H1 HG; have x0 := H2.out.row.c0; have x1 := H2.out.row.c1; have x2 := H2.out.row.c2; have x3 := H2.out.row.c3; have x4 := H2.out.row.c4; have x5 := H2.out.row.c5; have xl := H2.out.row.lt)
        | fail)
      have H3 := rhide (H2.out.more (.cells #[.int .i64 y.st, .int .i64 y.co, .int .i64 y.tc, .int .i64 y.rc, .int .i64 d] 78) f d)
      clear H2 x0 x1 x2 x3 x4 x5 xl
      generalize (w2.alloc _).alloc _ = v at H3 ⊢
      generalize w2.heap.size + 1 = E at H3 ⊢
      obtain ⟨x0, x1, x2, x3, x4, x5, x6, x7, x8⟩ := r9_cells H3.out.rc
      go_wp2_with (first
        | (go_at_call 109; refine (HW.out _ _ H3.out).mono ?_; rintro e3 w3 ⟨rfl, hw⟩; have H4 := rhide hw; clear hw HW H3 x0 x1 x2 x3 x4 x5 x6 x7 x8; obtain ⟨x0, x1, x2, x3, x4, x5, x6, x7, x8⟩ := r9_cells H4.out.rc)
        | (go_at_call 110; refine (HV.out _ _ H4.out).mono ?_; rintro e4 w4 ⟨rfl, hw⟩; have H5 := rhide hw; clear hw HV H4)
        | fail)
      go_ret
      exact ⟨rfl, H5.out⟩
  · have e1 : psE N M f x = gtE N M f := by unfold psE; rw [if_pos (roB_yes hx), if_neg hg]
    have e2 : psM N M f x = M := by unfold psM; rw [if_neg (by rw [e1]; exact hg)]
    rw [e1, e2]
    generalize gtT N M f = y at HG
    generalize gtE N M f = E at HG hg ⊢
    have hE : (E != 0) = true := by simp [hg]
    clear e1 e2 hg hM hx hlb
    go_enter Tryz.func43, Tryz.ntmps43
    go_wp2_with (first
      | (go_at_call 108; refine (HC.out _).mono ?_; rintro e1 w1 ⟨rfl, hb⟩; have H1 := rhide (H0.out.on hb); clear hb H0 HC)
      | (go_at_call 54; refine (HG.out _ H1.out).mono ?_; rintro e2 w2 ⟨rfl, hb⟩; have H2 := rhide ((H1.out.on hb).on (bal (Below.refl _ _) (.cells #[.int .i64 y.st, .int .i64 y.co, .int .i64 y.tc, .int .i64 y.rc, .int .i64 y.de] 78))); clear hb H1 HG)
      | fail)
    go_ret
    exact ⟨rfl, H2.out.sx, But.of_below b H2.out.below⟩
/-! ### Ip -/
/-! ### Pop -/
/-! ### awake -/
end Go.Proofs.YtcgekcjnaadcmaaGreatDoor.Pstack
