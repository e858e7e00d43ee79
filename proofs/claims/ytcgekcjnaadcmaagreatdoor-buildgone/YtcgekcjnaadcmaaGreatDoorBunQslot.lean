/- Texts on finished packages, joined. -/
import Derived.Test.YtcgekcjnaadcmaaGreatDoorBunCap
import Derived.Test.YtcgekcjnaadcmaaGreatDoorBunMem
import Derived.BigQuiet
import Derived.BigRegion
import Derived.Deep.RegionHeld3
import Derived.Deep.CutBlock
import Derived.Test.YtcgekcjnaadcmaaGreatDoorBunField
import Derived.RangeFuncNested
import Derived.RangeFuncBound
import Derived.RangeFuncBox
import Derived.RangeFuncCalls
import Derived.RangeFuncLeaves
import Derived.WalkKit
import Derived.OwnWalkIn
import Derived.TacticsInMore
import Derived.LoopNIn
import Derived.LoopIn
import Derived.Sort.QuietIn
import Derived.Scope

/- Capabilities in the words of a frame: plain words on what is put, got, counted and found. No program is named here. -/
namespace Go.Proofs.YtcgekcjnaadcmaaGreatDoor.Pslot
open Go.Proofs.YtcgekcjnaadcmaaGreatDoor.Pbase Go.Proofs.YtcgekcjnaadcmaaGreatDoor.Pcap Go.Proofs.YtcgekcjnaadcmaaGreatDoor.Pfield Go.Proofs.YtcgekcjnaadcmaaGreatDoor.Pmem
open Go.RowKit M
set_option linter.unusedVariables false

/-- Is there such a slot? -/
def okS (i : Int) : Bool := decide (0 ≤ i ∧ i < 16)
theorem okS_yes {i : Int} (h : okS i = true) : 0 ≤ i ∧ i < 16 := by simpa [okS] using h
theorem okS_no {i : Int} (h : okS i = false) : i < 0 ∨ 16 ≤ i := by simp [okS] at h; omega
theorem okS_nat {i : Nat} (h : i < 16) : okS (i : Int) = true := by simp [okS]; omega
theorem okS_split {i : Int} (h : okS i = true) : ∃ n : Nat, i = n ∧ n < 16 := by
  have := okS_yes h
  exact ⟨i.toNat, by omega, by omega⟩
/-- The two words of slot i of frame f. -/
def w1 (M : Nat → Nat → Int) (f i : Int) : Int := M f.toNat (4 + 2 * i.toNat)
def w2 (M : Nat → Nat → Int) (f i : Int) : Int := M f.toNat (4 + 2 * i.toNat + 1)
/-- What Get answers. -/
def sC (N : Nat) (M : Nat → Nat → Int) (f i : Int) (j : Nat) : Int := if okS i && okF N f then getC (w1 M f i) (w2 M f i) j else 0
def sE (N : Nat) (M : Nat → Nat → Int) (f i : Int) : Int := if okS i && okF N f then getE (w1 M f i) (w2 M f i) else 1
theorem sE_frame {N : Nat} {M : Nat → Nat → Int} {f : Int} {i : Nat} (hi : i < 16) : sE N M f i = 0 ∨ sE N M f i = if okF N f then 12 else 1 := by
  unfold sE
  rw [okS_nat hi]
  cases okF N f
  · simp
  · simp only [Bool.and_self, if_true]
    unfold getE
    split <;> simp

/-! ### All, Used, First -/
/-- Can all slots be read? -/
def okA (N : Nat) (M : Nat → Nat → Int) (f : Int) : Bool := (List.range 16).all fun i => decide (sE N M f (i : Nat) = 0)
def aE (N : Nat) (M : Nat → Nat → Int) (f : Int) : Int := if okA N M f then 0 else if okF N f then 12 else 1
def aN (N : Nat) (M : Nat → Nat → Int) (f : Int) : Nat := if okA N M f then 16 else 0
theorem okA_iff (N : Nat) (M : Nat → Nat → Int) (f : Int) : okA N M f = true ↔ ∀ i : Nat, i < 16 → sE N M f i = 0 := by
  simp [okA, List.all_eq_true]
theorem okA_no {N : Nat} {M : Nat → Nat → Int} {f : Int} {i : Nat} (hi : i < 16) (h : sE N M f i ≠ 0) : okA N M f = false ∧ aE N M f = sE N M f i := by
  have h0 : okA N M f = false := Bool.eq_false_iff.2 fun e => h ((okA_iff N M f).1 e i hi)
  refine ⟨h0, ?_⟩
  rcases sE_frame (N := N) (M := M) (f := f) hi with e | e
  · exact absurd e h
  · rw [e]; simp [aE, h0]
/-- How many of the first n of C are above CQuiet. -/
def cnt (C : Nat → Int) : Nat → Nat
  | 0 => 0
  | n + 1 => cnt C n + if 1 < C n then 1 else 0
theorem cnt_le (C : Nat → Int) (n : Nat) : cnt C n ≤ n := by
  induction n with
  | zero => simp [cnt]
  | succ n ih => unfold cnt; split <;> omega
def uN (N : Nat) (M : Nat → Nat → Int) (f : Int) : Nat := cnt (fun i => sC N M f (i : Nat) 0) (aN N M f)
/-! ### the tables beside a memory -/
theorem tabM_but {w w' : World} {b : Nat} (h : TabM w) (hB : But b w w') (hn : 6 ≠ b) : TabM w' :=
  ⟨Nat.lt_of_lt_of_le h.lt hB.size, fun K j hK hj => (hB.cell h.lt hn).trans (h.cell K j hK hj)⟩
theorem tabW_but {w w' : World} {b : Nat} (h : TabW w) (hB : But b w w') (hn : 5 ≠ b) : TabW w' :=
  ⟨Nat.lt_of_lt_of_le h.lt hB.size, by obtain ⟨t, fr, hr⟩ := h.row; exact ⟨t, fr, (hB.block 5 h.lt hn).trans hr⟩⟩
/-- A memory that New made, and the two tables. -/
structure Mt (w : World) (p b N : Nat) (M : Nat → Nat → Int) : Prop where
  mem : MemIs w p b N M
  tab : TabM w
  tabw : TabW w
  fit : Fit M
  n1 : 1 ≤ N
  n64 : N ≤ 64
theorem Mt.on {w w' : World} {p b N : Nat} {M : Nat → Nat → Int} (h : Mt w p b N M) (hB : Below w.heap.size w w') : Mt w' p b N M :=
  ⟨h.mem.grown hB, h.tab.on hB, h.tabw.on hB, h.fit, h.n1, h.n64⟩
end Go.Proofs.YtcgekcjnaadcmaaGreatDoor.Pslot

/- What Put and Get of package slot answer and do, for every argument, over a memory that New made. -/
namespace Go.Proofs.YtcgekcjnaadcmaaGreatDoor.Pslot
open Go.Proofs.YtcgekcjnaadcmaaGreatDoor.Pbase Go.Proofs.YtcgekcjnaadcmaaGreatDoor.Pcap Go.Proofs.YtcgekcjnaadcmaaGreatDoor.Pfield Go.Proofs.YtcgekcjnaadcmaaGreatDoor.Pmem
open Go.RowKit M
set_option linter.unusedVariables false

theorem place_no (i : Int) (w : World) (h : okS i = false) : Calls Tryz.prog 199 #[.int .i64 i] w fun e w' => e = .returned (.tuple #[.int .i64 0, .int .i64 1]) ∧ w' = w := by
  rcases okS_no h with h1 | h1
  · clear h
    go_enter Tryz.func199, Tryz.ntmps199
    go_wp2
    go_ret2
    exact ⟨rfl, rfl⟩
  · clear h
    have h2 : ¬ i < 0 := by omega
    go_enter Tryz.func199, Tryz.ntmps199
    go_wp2
    go_ret2
    exact ⟨rfl, rfl⟩
theorem place_yes (n at_ : Nat) (w : World) (h : n < 16) (ha : at_ = 4 + 2 * n) : Calls Tryz.prog 199 #[.int .i64 n] w fun e w' => e = .returned (.tuple #[.int .i64 at_, .int .i64 0]) ∧ w' = w := by
  have h1 : ¬ (n : Int) < 0 := by omega
  have h2 : ¬ 16 ≤ (n : Int) := by omega
  have h2' : ¬ 16 ≤ n := by omega
  have e1 : wrap64 (2 * (n : Int)) = 2 * (n : Int) := by unfold wrap64; omega
  have e2 : wrap64 (4 + 2 * (n : Int)) = (at_ : Int) := by unfold wrap64; omega
  have HA : Hid (at_ = 4 + 2 * n) := ha
  clear ha
  go_enter Tryz.func199, Tryz.ntmps199
  go_wp2
  go_ret2
  exact ⟨by have := HA.out; simp; omega, rfl⟩
/-- A capability in the call's first block, a memory and the tables. -/
structure PtI (w0 w : World) (p b N : Nat) (M : Nat → Nat → Int) (k r t l e a : Int) : Prop where
  mt : Mt w p b N M
  below : Below w0.heap.size w0 w
  box : Box6 w w0.heap.size k r t l e a
theorem ptI_new {w : World} {p b N : Nat} {M : Nat → Nat → Int} (h : Mt w p b N M) (k r t l e a : Int) (ty : TypeId) : PtI w (w.alloc (.cells #[.int .i64 k, .int .i64 r, .int .i64 t, .int .i64 l, .int .i64 e, .int .i64 a] ty)) p b N M k r t l e a :=
  ⟨h.on (bal (Below.refl _ _) _), bal (Below.refl _ _) _, box6_new w k r t l e a ty⟩
/-! ### Get -/
/-- The result in the call's first block, a memory and the tables. -/
theorem sget_i {w : World} {p b N : Nat} {M : Nat → Nat → Int} (h : Mt w p b N M) (ty : TypeId) : PtI w (w.alloc (.cells #[.int .i64 0, .int .i64 0, .int .i64 0, .int .i64 0, .int .i64 0, .int .i64 0] ty)) p b N M 0 0 0 0 0 0 := ptI_new h 0 0 0 0 0 0 ty
/-- Get on its way: the result's block, the two words' block D, a memory and the tables. -/
structure GtS (w0 w : World) (p b N : Nat) (M : Nat → Nat → Int) (D : Nat) (x y : Int) : Prop where
  mt0 : Mt w0 p b N M
  below : Below w0.heap.size w0 w
  res : w.heap[w0.heap.size]? = some (.cells #[.int .i64 0, .int .i64 0, .int .i64 0, .int .i64 0, .int .i64 0, .int .i64 0] 30 (0, 0))
  row : w.heap[D]? = some (.cells #[.int .u64 x, .int .u64 y] 343 (0, 0))
  lo : w0.heap.size < D
theorem GtS.mt {w0 w : World} {p b N : Nat} {M : Nat → Nat → Int} {D : Nat} {x y : Int} (h : GtS w0 w p b N M D x y) : Mt w p b N M := h.mt0.on h.below
theorem GtS.box {w0 w : World} {p b N : Nat} {M : Nat → Nat → Int} {D : Nat} {x y : Int} (h : GtS w0 w p b N M D x y) : Box6 w w0.heap.size 0 0 0 0 0 0 :=
  ⟨(Array.getElem?_eq_some_iff.1 h.res).1, (cell_of_row _ _ _ _ _ _ h.res).trans rfl, (cell_of_row _ _ _ _ _ _ h.res).trans rfl, (cell_of_row _ _ _ _ _ _ h.res).trans rfl, (cell_of_row _ _ _ _ _ _ h.res).trans rfl, (cell_of_row _ _ _ _ _ _ h.res).trans rfl, (cell_of_row _ _ _ _ _ _ h.res).trans rfl, fun j => frozen_of_row _ _ _ _ _ h.res⟩
theorem GtS.c0 {w0 w : World} {p b N : Nat} {M : Nat → Nat → Int} {D : Nat} {x y : Int} (h : GtS w0 w p b N M D x y) : w.cell? ⟨D, 0, none⟩ = some (.int .u64 x) := (cell_of_row _ _ _ _ _ _ h.row).trans rfl
theorem GtS.c1 {w0 w : World} {p b N : Nat} {M : Nat → Nat → Int} {D : Nat} {x y : Int} (h : GtS w0 w p b N M D x y) : w.cell? ⟨D, 1, none⟩ = some (.int .u64 y) := (cell_of_row _ _ _ _ _ _ h.row).trans rfl
theorem GtS.fz {w0 w : World} {p b N : Nat} {M : Nat → Nat → Int} {D : Nat} {x y : Int} (h : GtS w0 w p b N M D x y) (j : Nat) : w.frozen? ⟨D, j, none⟩ = false := frozen_of_row _ _ _ _ _ h.row
theorem GtS.set0 {w0 w : World} {p b N : Nat} {M : Nat → Nat → Int} {D : Nat} {x y : Int} (h : GtS w0 w p b N M D x y) (z : Int) : GtS w0 (w.setCell ⟨D, 0, none⟩ (.int .u64 z)) p b N M D z y :=
  ⟨h.mt0, bst h.below (Nat.le_of_lt h.lo) _ _, (heap_setCell_other _ _ _ _ (Nat.ne_of_lt h.lo)).trans h.res, (heap_setCell_same _ _ _ _ _ _ h.row).trans rfl, h.lo⟩
theorem GtS.set1 {w0 w : World} {p b N : Nat} {M : Nat → Nat → Int} {D : Nat} {x y : Int} (h : GtS w0 w p b N M D x y) (z : Int) : GtS w0 (w.setCell ⟨D, 1, none⟩ (.int .u64 z)) p b N M D x z :=
  ⟨h.mt0, bst h.below (Nat.le_of_lt h.lo) _ _, (heap_setCell_other _ _ _ _ (Nat.ne_of_lt h.lo)).trans h.res, (heap_setCell_same _ _ _ _ _ _ h.row).trans rfl, h.lo⟩
theorem gtS_new {w : World} {p b N : Nat} {M : Nat → Nat → Int} (h : Mt w p b N M) : GtS w ((w.alloc (.cells #[.int .i64 0, .int .i64 0, .int .i64 0, .int .i64 0, .int .i64 0, .int .i64 0] 30)).alloc (.cells #[.int .u64 0, .int .u64 0] 343)) p b N M (w.heap.size + 1) 0 0 :=
  ⟨h, bal (bal (Below.refl _ _) _) _, (Below.heap_alloc _ _ _ (by simp)).trans (heap_alloc_new w _), by have := heap_alloc_new (w.alloc (.cells #[.int .i64 0, .int .i64 0, .int .i64 0, .int .i64 0, .int .i64 0, .int .i64 0] 30)) (.cells #[.int .u64 0, .int .u64 0] 343); rwa [World.size_alloc] at this, by omega⟩
set_option maxRecDepth 100000 in
set_option maxHeartbeats 1000000 in
theorem sget_bad (p b N : Nat) (f i : Int) (M : Nat → Nat → Int) (w : World) (hM : Mt w p b N M) (hb : okS i = false ∨ okF N f = false) :
    Calls Tryz.prog 196 #[.pointer (some ⟨p, 0, none⟩), .int .i64 f, .int .i64 i] w fun x w' => x = .returned (.tuple #[.agg #[.int .i64 0, .int .i64 0, .int .i64 0, .int .i64 0, .int .i64 0, .int .i64 0], .int .i64 1]) ∧ Below w.heap.size w w' := by
  have HI : Hid (PtI w (w.alloc (.cells #[.int .i64 0, .int .i64 0, .int .i64 0, .int .i64 0, .int .i64 0, .int .i64 0] 30)) p b N M 0 0 0 0 0 0) := sget_i hM 30
  have HM : Hid (Mt w p b N M) := hM
  have hN1 := hM.n1
  have hN := hM.n64
  clear hM
  cases hi : okS i
  · clear hb
    go_enter Tryz.func196, Tryz.ntmps196
    go_upto_region 3 with (first
      | (go_at_call 199; refine (place_no i _ hi).mono ?_; rintro e1 w1 ⟨rfl, hw1⟩; subst w1)
      | fail)
    generalize w.alloc _ = v1 at HI ⊢
    have x0 := HI.out.box.c0
    have x1 := HI.out.box.c1
    have x2 := HI.out.box.c2
    have x3 := HI.out.box.c3
    have x4 := HI.out.box.c4
    have x5 := HI.out.box.c5
    have z0 := HI.out.box.fz 0
    have z1 := HI.out.box.fz 1
    have z2 := HI.out.box.fz 2
    have z3 := HI.out.box.fz 3
    have z4 := HI.out.box.fz 4
    have z5 := HI.out.box.fz 5
    go_wp2
    refine bodyPost_ret (v := .tuple #[.agg #[.int .i64 0, .int .i64 0, .int .i64 0, .int .i64 0, .int .i64 0, .int .i64 0], .int .i64 1]) (by simp [results, Tryz.results196, go_sem, x0, x1, x2, x3, x4, x5]) rfl ⟨rfl, ?_⟩
    exact bst (bst (bst (bst (bst (bst HI.out.below (Nat.le_refl _) _ _) (Nat.le_refl _) _ _) (Nat.le_refl _) _ _) (Nat.le_refl _) _ _) (Nat.le_refl _) _ _) (Nat.le_refl _) _ _
  · have hf : okF N f = false := by rcases hb with h | h; · rw [hi] at h; cases h
                                    · exact h
    obtain ⟨n, rfl, hn⟩ := okS_split hi
    obtain ⟨A, hA⟩ : ∃ A, A = 4 + 2 * n := ⟨_, rfl⟩
    have HA : Hid (A = 4 + 2 * n) := hA
    have l0 : ldM N M f (A : Int) = 0 := by simp [ldM, okW, hf]
    have e0 : errW N f (A : Int) = 1 := by simp [errW, okW, hf]
    have hAi : IntKind.i64.wrap (A : Int) = (A : Int) := wrapi_small (by omega) (by omega)
    clear hb hi hf hA HI
    go_enter Tryz.func196, Tryz.ntmps196
    go_upto_region 5 with (first
      | (go_at_call 199; refine (place_yes n A _ hn HA.out).mono ?_; rintro e1 w1 ⟨rfl, hw1⟩; subst w1)
      | fail)
    have HS : Hid (GtS w ((w.alloc (.cells #[.int .i64 0, .int .i64 0, .int .i64 0, .int .i64 0, .int .i64 0, .int .i64 0] 30)).alloc (.cells #[.int .u64 0, .int .u64 0] 343)) p b N M (w.heap.size + 1) 0 0) := gtS_new HM.out
    generalize (w.alloc _).alloc _ = v1 at HS ⊢
    generalize w.heap.size + 1 = D at HS ⊢
    go_wp2
    go_loopw [21] (fun i wr => i = .int .i64 0 ∧ wr = v1) (fun i _ => 0)
    case atStart => exact ⟨rfl, rfl⟩
    case round =>
      obtain ⟨rfl, hwr⟩ := hrel
      subst wr
      have y0 := HS.out.c0
      have q0 := HS.out.fz 0
      have x0 := HS.out.box.c0
      have x1 := HS.out.box.c1
      have x2 := HS.out.box.c2
      have x3 := HS.out.box.c3
      have x4 := HS.out.box.c4
      have x5 := HS.out.box.c5
      go_upto_region 9 with (first
        | (go_at_call 118; refine (load_any p b N f (A : Int) M _ hN1 hN HS.out.mt.mem).mono ?_; rintro e1 w1 ⟨rfl, hw1⟩; subst w1; rw [l0, e0])
        | fail)
      have HS2 : Hid (GtS w (v1.setCell ⟨D, 0, none⟩ (.int .u64 0)) p b N M D 0 0) := HS.out.set0 0
      generalize v1.setCell _ _ = v2 at HS2 ⊢
      clear x0 x1 x2 x3 x4 x5 y0 q0 HS
      have x0 := HS2.out.box.c0
      have x1 := HS2.out.box.c1
      have x2 := HS2.out.box.c2
      have x3 := HS2.out.box.c3
      have x4 := HS2.out.box.c4
      have x5 := HS2.out.box.c5
      have z0 := HS2.out.box.fz 0
      have z1 := HS2.out.box.fz 1
      have z2 := HS2.out.box.fz 2
      have z3 := HS2.out.box.fz 3
      have z4 := HS2.out.box.fz 4
      have z5 := HS2.out.box.fz 5
      go_wp2
      refine bodyPost_ret (v := .tuple #[.agg #[.int .i64 0, .int .i64 0, .int .i64 0, .int .i64 0, .int .i64 0, .int .i64 0], .int .i64 1]) (by simp [results, Tryz.results196, go_sem, x0, x1, x2, x3, x4, x5]) rfl ⟨rfl, ?_⟩
      exact bst (bst (bst (bst (bst (bst HS2.out.below (Nat.le_refl _) _ _) (Nat.le_refl _) _ _) (Nat.le_refl _) _ _) (Nat.le_refl _) _ _) (Nat.le_refl _) _ _) (Nat.le_refl _) _ _
set_option maxRecDepth 100000 in
set_option maxHeartbeats 1000000 in
theorem sget_ok (p b N n : Nat) (f : Int) (M : Nat → Nat → Int) (w : World) (hM : Mt w p b N M) (hn : n < 16) (hf : okF N f = true) :
    Calls Tryz.prog 196 #[.pointer (some ⟨p, 0, none⟩), .int .i64 f, .int .i64 n] w fun x w' => x = .returned (.tuple #[.agg #[.int .i64 (getC (w1 M f n) (w2 M f n) 0), .int .i64 (getC (w1 M f n) (w2 M f n) 1), .int .i64 (getC (w1 M f n) (w2 M f n) 2), .int .i64 (getC (w1 M f n) (w2 M f n) 3), .int .i64 (getC (w1 M f n) (w2 M f n) 4), .int .i64 (getC (w1 M f n) (w2 M f n) 5)], .int .i64 (getE (w1 M f n) (w2 M f n))]) ∧ Below w.heap.size w w' := by
  have HM : Hid (Mt w p b N M) := hM
  have hN1 := hM.n1
  have hN := hM.n64
  obtain ⟨A, hA⟩ : ∃ A, A = 4 + 2 * n := ⟨_, rfl⟩
  obtain ⟨A1, hA1⟩ : ∃ A1, A1 = A + 1 := ⟨_, rfl⟩
  have HA : Hid (A = 4 + 2 * n) := hA
  have o1 : okW N f (A : Int) = true := by simp [okW, hf]; omega
  have o2 : okW N f (A1 : Int) = true := by simp [okW, hf]; omega
  have l0 : ldM N M f (A : Int) = w1 M f n := by
    unfold ldM w1
    rw [if_pos o1, Int.toNat_natCast, Int.toNat_natCast, hA]
  have l1 : ldM N M f (A1 : Int) = w2 M f n := by
    unfold ldM w2
    rw [if_pos o2, Int.toNat_natCast, Int.toNat_natCast, hA1, hA]
  have e0 : errW N f (A : Int) = 0 := by simp [errW, o1]
  have e1 : errW N f (A1 : Int) = 0 := by simp [errW, o2]
  have s1 : wrap64 ((A : Int) + 1) = (A1 : Int) := by unfold wrap64; omega
  have hx : 0 ≤ w1 M f n ∧ w1 M f n ≤ 18446744073709551615 := hM.fit _ _
  have hy : 0 ≤ w2 M f n ∧ w2 M f n ≤ 18446744073709551615 := hM.fit _ _
  generalize w1 M f n = x at l0 hx ⊢
  generalize w2 M f n = y at l1 hy ⊢
  have hAi : IntKind.i64.wrap (A : Int) = (A : Int) := wrapi_small (by omega) (by omega)
  have HC : Hid (∀ wc, TabM wc → TabW wc → Calls Tryz.prog 200 #[.int .u64 x, .int .u64 y] wc fun v w' => v = .returned (.tuple #[.agg #[.int .i64 (getC x y 0), .int .i64 (getC x y 1), .int .i64 (getC x y 2), .int .i64 (getC x y 3), .int .i64 (getC x y 4), .int .i64 (getC x y 5)], .int .i64 (getE x y)]) ∧ Below wc.heap.size wc w') := fun wc h1 h2 => Pcap.get_any x y wc hx hy h1 h2
  generalize getC x y 0 = C0 at HC ⊢
  generalize getC x y 1 = C1 at HC ⊢
  generalize getC x y 2 = C2 at HC ⊢
  generalize getC x y 3 = C3 at HC ⊢
  generalize getC x y 4 = C4 at HC ⊢
  generalize getC x y 5 = C5 at HC ⊢
  generalize getE x y = E at HC ⊢
  clear hM hA hA1 o1 o2 hx hy hf
  go_enter Tryz.func196, Tryz.ntmps196
  go_upto_region 5 with (first
    | (go_at_call 199; refine (place_yes n A _ hn HA.out).mono ?_; rintro r1 w1 ⟨rfl, hw1⟩; subst w1)
    | fail)
  have HS0 : Hid (GtS w ((w.alloc (.cells #[.int .i64 0, .int .i64 0, .int .i64 0, .int .i64 0, .int .i64 0, .int .i64 0] 30)).alloc (.cells #[.int .u64 0, .int .u64 0] 343)) p b N M (w.heap.size + 1) 0 0) := gtS_new HM.out
  generalize (w.alloc _).alloc _ = v1 at HS0 ⊢
  generalize w.heap.size + 1 = D at HS0 ⊢
  go_wp2
  go_loopw [21] (fun i wr => (i = .int .i64 0 ∧ GtS w wr p b N M D 0 0) ∨ (i = .int .i64 1 ∧ GtS w wr p b N M D x 0) ∨ (i = .int .i64 2 ∧ GtS w wr p b N M D x y)) (fun i _ => 2 - (intOf i).toNat)
  case atStart => exact .inl ⟨rfl, HS0.out⟩
  case round =>
    rcases hrel with ⟨rfl, h⟩ | ⟨rfl, h⟩ | ⟨rfl, h⟩
    · have HS : Hid (GtS w wr p b N M D 0 0) := h
      have y0 := h.c0
      have q0 := h.fz 0
      clear h HS0
      go_wp2_with (first
        | (go_at_call 118; refine (load_any p b N f (A : Int) M _ hN1 hN HS.out.mt.mem).mono ?_; rintro r1 w1 ⟨rfl, hw1⟩; subst w1; rw [l0, e0])
        | fail)
      go_roundw
      case rel => exact .inr (.inl ⟨by go_num, HS.out.set0 x⟩)
      case measure => simp [intOf]
    · have HS : Hid (GtS w wr p b N M D x 0) := h
      have y0 := h.c1
      have q0 := h.fz 1
      clear h HS0
      go_wp2_with (first
        | (go_at_call 118; rw [s1]; refine (load_any p b N f (A1 : Int) M _ hN1 hN HS.out.mt.mem).mono ?_; rintro r1 w1 ⟨rfl, hw1⟩; subst w1; rw [l1, e1])
        | fail)
      go_roundw
      case rel => exact .inr (.inr ⟨by go_num, HS.out.set1 y⟩)
      case measure => simp [intOf]
    · have HS : Hid (GtS w wr p b N M D x y) := h
      have y0 := h.c0
      have y1 := h.c1
      clear h HS0
      go_wp2_with (first
        | (go_at_call 200; refine (HC.out _ HS.out.mt.tab HS.out.mt.tabw).mono ?_; rintro r2 w3 ⟨rfl, hb⟩; have H3 : Hid (Below w.heap.size w w3) := HS.out.below.trans (hb.mono HS.out.below.size); have X := HS.out.box.on hb; clear hb y0 y1; have x0 := X.c0; have x1 := X.c1; have x2 := X.c2; have x3 := X.c3; have x4 := X.c4; have x5 := X.c5; have z0 := X.fz 0; have z1 := X.fz 1; have z2 := X.fz 2; have z3 := X.fz 3; have z4 := X.fz 4; have z5 := X.fz 5; clear X)
        | fail)
      refine bodyPost_ret (v := .tuple #[.agg #[.int .i64 C0, .int .i64 C1, .int .i64 C2, .int .i64 C3, .int .i64 C4, .int .i64 C5], .int .i64 E]) (by simp [results, Tryz.results196, go_sem, x0, x1, x2, x3, x4, x5]) rfl ⟨rfl, ?_⟩
      exact bst (bst (bst (bst (bst (bst H3.out (Nat.le_refl _) _ _) (Nat.le_refl _) _ _) (Nat.le_refl _) _ _) (Nat.le_refl _) _ _) (Nat.le_refl _) _ _) (Nat.le_refl _) _ _
/-- Get, for every argument. -/
theorem sget_any (p b N : Nat) (f i : Int) (M : Nat → Nat → Int) (w : World) (hM : Mt w p b N M) :
    Calls Tryz.prog 196 #[.pointer (some ⟨p, 0, none⟩), .int .i64 f, .int .i64 i] w fun x w' => x = .returned (.tuple #[.agg #[.int .i64 (sC N M f i 0), .int .i64 (sC N M f i 1), .int .i64 (sC N M f i 2), .int .i64 (sC N M f i 3), .int .i64 (sC N M f i 4), .int .i64 (sC N M f i 5)], .int .i64 (sE N M f i)]) ∧ Below w.heap.size w w' := by
  cases hi : okS i
  · simp only [sC, sE, hi, Bool.false_and, Bool.false_eq_true, if_false]
    exact sget_bad p b N f i M w hM (.inl hi)
  · cases hf : okF N f
    · simp only [sC, sE, hf, Bool.and_false, Bool.false_eq_true, if_false]
      exact sget_bad p b N f i M w hM (.inr hf)
    · simp only [sC, sE, hi, hf, Bool.and_self, if_true]
      obtain ⟨n, rfl, hn⟩ := okS_split hi
      exact sget_ok p b N n f M w hM hn hf
end Go.Proofs.YtcgekcjnaadcmaaGreatDoor.Pslot

/- The iterator over the slots of a frame (slot.each): for every loop body it hands out what Get answers of each slot, in order. -/
namespace Go.Proofs.YtcgekcjnaadcmaaGreatDoor.Pslot
open Go.Proofs.YtcgekcjnaadcmaaGreatDoor.Pbase Go.Proofs.YtcgekcjnaadcmaaGreatDoor.Pcap Go.Proofs.YtcgekcjnaadcmaaGreatDoor.Pfield Go.Proofs.YtcgekcjnaadcmaaGreatDoor.Pmem
open Go.RowKit Go.Shelf M
attribute [local go_sem] Oper.semAt_some
set_option linter.unusedVariables false

theorem grown_none {W W' : World} (h : Below W.heap.size W W') : W.grownBy W' none := ⟨h.os, h.tape, h.output, h.size, fun k hk _ => h.block k hk⟩
/-- A block of cells is no block of another kind. -/
theorem cell_ne {W : World} {l : Nat} {o : Obj} (hl : W.heap[l]? = some o) (ho : o.isCells = false) {q j : Nat} {v : Value} (h : W.cell? ⟨q, j, none⟩ = some v) : q ≠ l := by
  rintro rfl
  unfold World.cell? at h
  simp only [hl] at h
  cases o with
  | cells cs t fr => simp [Obj.isCells] at ho
  | _ => simp at h
theorem row_ne {W : World} {l : Nat} {o : Obj} (hl : W.heap[l]? = some o) (ho : o.isCells = false) {q : Nat} {cs : Array Value} {t : TypeId} {fr : Nat × Nat} (h : W.heap[q]? = some (.cells cs t fr)) : q ≠ l := by
  rintro rfl
  rw [hl] at h
  cases h
  simp [Obj.isCells] at ho
theorem but_putObj (W : World) (l : Nat) (o : Obj) : But l W (W.putObj l o) := ⟨rfl, rfl, rfl, by simp, fun k _ hk => World.putObj_heap_other hk⟩
/-- What the iterator stands on: the two variables that it holds, a memory and the tables. -/
structure It (W : World) (Bm p b N : Nat) (M : Nat → Nat → Int) (f : Int) : Prop where
  bm : Boxed W Bm 37 (.pointer (some ⟨p, 0, none⟩))
  bf : Boxed W (Bm + 1) 3 (.int .i64 f)
  mt : Mt W p b N M
theorem It.on {W W' : World} {Bm p b N : Nat} {M : Nat → Nat → Int} {f : Int} (h : It W Bm p b N M f) (hB : Below W.heap.size W W') : It W' Bm p b N M f :=
  ⟨h.bm.kept (grown_none hB) (by simp), h.bf.kept (grown_none hB) (by simp), h.mt.on hB⟩
theorem It.putObj {W : World} {Bm p b N : Nat} {M : Nat → Nat → Int} {f : Int} (h : It W Bm p b N M f) {l : Nat} {o : Obj} (o' : Obj) (hl : W.heap[l]? = some o) (ho : o.isCells = false) : It (W.putObj l o') Bm p b N M f := by
  have hB := but_putObj W l o'
  have n1 : p ≠ l := row_ne hl ho h.mt.mem.head
  have n2 : b ≠ l := row_ne hl ho h.mt.mem.row
  have n3 : 6 ≠ l := cell_ne hl ho (h.mt.tab.cell 0 0 (by omega) (by omega))
  have n4 : 5 ≠ l := by obtain ⟨t, fr, hr⟩ := h.mt.tabw.row; exact row_ne hl ho hr
  refine ⟨h.bm.kept (grownBy_putObj' W l o') (fun e => row_ne hl ho h.bm (by cases e; rfl)), h.bf.kept (grownBy_putObj' W l o') (fun e => row_ne hl ho h.bf (by cases e; rfl)), ⟨h.mt.mem.on (hB.block p h.mt.mem.lt.1 n1) (hB.block b h.mt.mem.lt.2 n2), tabM_but h.mt.tab hB n3, tabW_but h.mt.tabw hB n4, h.mt.fit, h.mt.n1, h.mt.n64⟩⟩
/-- What a round is handed. -/
def encS (N : Nat) (M : Nat → Nat → Int) (f : Int) (x : Fin 16) : Array Value :=
  #[.agg #[.int .i64 (sC N M f (x.1 : Nat) 0), .int .i64 (sC N M f (x.1 : Nat) 1), .int .i64 (sC N M f (x.1 : Nat) 2), .int .i64 (sC N M f (x.1 : Nat) 3), .int .i64 (sC N M f (x.1 : Nat) 4), .int .i64 (sC N M f (x.1 : Nat) 5)], .int .i64 (sE N M f (x.1 : Nat))]

set_option maxRecDepth 100000 in
set_option maxHeartbeats 1000000 in
theorem each1_in (n : Nat) (hn : 1 ≤ n) (l Bm p b N : Nat) (M : Nat → Nat → Int) (f : Int) (J Jx : List (Fin 16) → World → Prop)
    (hA : ∀ s A B, J s A → A.grownBy B none → J s B)
    (hY : ∀ pre (x : Fin 16) W, J pre W → pre.length < 16 → YieldAt Fence.wide (n - 1) Tryz.prog l (encS N M f x) W fun e W' =>
      (e = .returned (.bool true) ∧ J (pre ++ [x]) W' ∧ (It W Bm p b N M f → It W' Bm p b N M f)) ∨ (e = .returned (.bool false) ∧ Jx (pre ++ [x]) W'))
    (W : World) (hI : It W Bm p b N M f) (h0 : J [] W) :
    CallsIn Fence.wide n Tryz.prog 195 #[.func (.yield l) #[] #[], .pointer (some ⟨Bm, 0, none⟩), .pointer (some ⟨Bm + 1, 0, none⟩)] W fun e W' => (∃ v, e = .returned v) ∧
      ((∃ ys, ys = upto 16 16 ∧ J ys W') ∨ (∃ pre, (∃ k, k ≤ 16 ∧ pre = upto 16 k) ∧ Jx pre W')) := by
  refine callsIn_of_wp Tryz.func195 rfl trivial ?_ rfl
  simp only [Tryz.ntmps195, List.size_toArray, List.length_cons, List.length_nil, Nat.reduceAdd, Nat.reduceSub, Array.replicate_succ, Array.replicate_zero, List.push_toArray, List.append_toArray, List.nil_append, List.cons_append]
  gi_wp2
  gi_loopw [5] (fun i wr => ∃ k : Nat, k ≤ 16 ∧ i = .int .i64 k ∧ J (upto 16 k) wr ∧ It wr Bm p b N M f) (fun i _ => 16 - (intOf i).toNat)
  case atStart => exact ⟨0, Nat.zero_le _, rfl, h0, hI⟩
  case round =>
    obtain ⟨k, hk, rfl, hJs, hIt⟩ := hrel
    by_cases hlt : k < 16
    · have c1 := hIt.bm.cell
      have c2 := hIt.bf.cell
      have hki : (k : Int) < 16 := by omega
      have HG : Hid (∀ wc, Mt wc p b N M → Calls Tryz.prog 196 #[.pointer (some ⟨p, 0, none⟩), .int .i64 f, .int .i64 k] wc fun x w' => x = .returned (.tuple (encS N M f ⟨k, hlt⟩)) ∧ Below wc.heap.size wc w') := fun wc h => sget_any p b N f k M wc h
      have HJ : Hid (J (upto 16 k) wr) := hJs
      have HT : Hid (It wr Bm p b N M f) := hIt
      clear hJs hIt hI h0
      gi_wp2_with (first | (refine ⟨trivial, ?_⟩; gi_at_call 196; refine (callsIn_wide.2 (HG.out _ HT.out.mt)).mono ?_; rintro e w1 ⟨rfl, hb⟩; obtain ⟨fn, tmps, assign, body, hy, hR⟩ := hY _ ⟨k, hlt⟩ w1 (hA _ _ _ HJ.out (grown_none hb)) (by rw [upto_length hk]; exact hlt); have HT1 : Hid (It w1 Bm p b N M f) := HT.out.on hb; clear hb; unfold encS at hy ⊢; dsimp only at hy ⊢) | fail)

      refine hR.mono ?_
      rintro e W3 (⟨rfl, hJ3, hk3⟩ | ⟨rfl, hJx3⟩)
      · gi_wp2
        go_roundw
        case rel => exact ⟨k + 1, by omega, by simp, by rw [upto_succ hlt]; exact hJ3, hk3 HT1.out⟩
        case measure => simp [intOf]; omega
      · gi_wp2
        refine bodyPost_ret (results_none rfl _ _ _) rfl ?_
        exact ⟨⟨_, rfl⟩, .inr ⟨_, ⟨k + 1, by omega, (upto_succ hlt).symm⟩, hJx3⟩⟩
    · obtain rfl : k = 16 := by omega
      gi_wp2
      go_end0
      exact ⟨⟨_, rfl⟩, .inl ⟨_, rfl, hJs⟩⟩
theorem each_in (n p : Nat) (f : Int) (w : World) :
    CallsIn Fence.wide n Tryz.prog 181 #[.pointer (some ⟨p, 0, none⟩), .int .i64 f] w fun e w' => e = .returned (.func (.func 195) #[] #[.pointer (some ⟨w.heap.size, 0, none⟩), .pointer (some ⟨w.heap.size + 1, 0, none⟩)]) ∧ w' = (w.alloc (.cells #[.pointer (some ⟨p, 0, none⟩)] 37)).alloc (.cells #[.int .i64 f] 3) := by
  refine callsIn_of_wp Tryz.func181 rfl trivial ?_ rfl
  simp only [Tryz.ntmps181, List.size_toArray, List.length_cons, List.length_nil, Nat.reduceAdd, Nat.reduceSub, Array.replicate_succ, Array.replicate_zero, List.push_toArray, List.append_toArray, List.nil_append, List.cons_append]
  gi_wp2
  go_ret
  exact ⟨rfl, rfl⟩
theorem each_stops (n : Nat) (hn : 1 ≤ n) (Bm p b N : Nat) (M : Nat → Nat → Int) (f : Int) (w : World) (hI : It w Bm p b N M f) :
    SeqStopsK Fence.wide n Tryz.prog 195 #[.pointer (some ⟨Bm, 0, none⟩), .pointer (some ⟨Bm + 1, 0, none⟩)] (encS N M f) (fun A B => It A Bm p b N M f → It B Bm p b N M f) (fun ys => ys = upto 16 16) (fun pre => ∃ k, k ≤ 16 ∧ pre = upto 16 k) 16 w := fun l J Jx W hW hJ _ hY h0 =>
  each1_in n hn l Bm p b N M f J Jx (fun s A B hs hg => hJ s A B none hs hg (fun r e => by cases e)) hY W (hI.on hW) h0
end Go.Proofs.YtcgekcjnaadcmaaGreatDoor.Pslot

/- What All of package slot answers: for every frame the capabilities of all slots, in memory of its own, or the first error. -/
namespace Go.Proofs.YtcgekcjnaadcmaaGreatDoor.Pslot
open Go.Proofs.YtcgekcjnaadcmaaGreatDoor.Pbase Go.Proofs.YtcgekcjnaadcmaaGreatDoor.Pcap Go.Proofs.YtcgekcjnaadcmaaGreatDoor.Pfield Go.Proofs.YtcgekcjnaadcmaaGreatDoor.Pmem
open Go.RowKit Go.Shelf M
attribute [local go_sem] Oper.semAt_some
set_option linter.unusedVariables false

/-- A scope of labels that no goto leaves for. -/
theorem wpIn_scope_wide {n : Nat} {P : Program} {Q : Exit → Act → World → Prop} {a : Act} {w : World} {c : Code} (h : c.wpIn Fence.wide n P (Exit.noGoto Q) a w) : (Code.scope c).wpIn Fence.wide n P Q a w := wpIn_wide.2 (wp_scope_straight (wpIn_wide.1 h))
/-- The cells of the capabilities in these slots. -/
def cells6 (N : Nat) (M : Nat → Nat → Int) (f : Int) (x : Fin 16) : List Value := [.int .i64 (sC N M f (x.1 : Nat) 0), .int .i64 (sC N M f (x.1 : Nat) 1), .int .i64 (sC N M f (x.1 : Nat) 2), .int .i64 (sC N M f (x.1 : Nat) 3), .int .i64 (sC N M f (x.1 : Nat) 4), .int .i64 (sC N M f (x.1 : Nat) 5)]
def capsOf (N : Nat) (M : Nat → Nat → Int) (f : Int) (pre : List (Fin 16)) : List Value := pre.flatMap (cells6 N M f)
theorem capsOf_snoc (N : Nat) (M : Nat → Nat → Int) (f : Int) (pre : List (Fin 16)) (x : Fin 16) : capsOf N M f (pre ++ [x]) = capsOf N M f pre ++ cells6 N M f x := by simp [capsOf]
theorem infoCap : (Tryz.prog.info? 30).map (fun i => (i.zero, i.size, i.bytes)) = some (some (.agg #[.int .i64 0, .int .i64 0, .int .i64 0, .int .i64 0, .int .i64 0, .int .i64 0]), 6, 48) := by kernel_rfl
theorem make_caps : ∃ Z : Array Value, Z.size = 96 ∧ ∀ w, (Instr.makeSlice 293 (.int .i64 0) (.int .i64 16)).run Tryz.prog w = .ok (.slice (some ⟨w.heap.size, 0, none⟩) 0 16) (w.alloc (.cells Z 30)) := by
  obtain ⟨i0, hi, hz0, hz1, hz2⟩ := info_parts infoCap
  refine ⟨madeCells (Value.cells (.agg #[.int .i64 0, .int .i64 0, .int .i64 0, .int .i64 0, .int .i64 0, .int .i64 0])) 96, size_madeCells _ _, fun w => ?_⟩
  have := run_make (P := Tryz.prog) w 293 30 i0 _ Tryz.underlying293 hi hz0 .i64 .i64 0 16 (by omega) (by omega) (by rw [hz2]; omega) (by omega)
  rw [hz1] at this
  exact this
theorem six_new (w : World) (a b c d e g : Value) (t : TypeId) : ∀ j u, [a, b, c, d, e, g][j]? = some u → (w.alloc (.cells #[a, b, c, d, e, g] t)).cell? ((⟨w.heap.size, 0, none⟩ : Addr).add j) = some u := by
  intro j u hj
  rw [Addr.add_lit, Nat.zero_add, cell_of_row _ _ j _ _ _ (heap_alloc_new w _)]
  match j, hj with
  | 0, hj | 1, hj | 2, hj | 3, hj | 4, hj | 5, hj => exact hj
  | j + 6, hj => simp at hj
theorem six_one (N : Nat) (M : Nat → Nat → Int) (f : Int) (x : Fin 16) : ∀ u ∈ cells6 N M f x, u.oneCell' = true := by
  intro u hu
  simp only [cells6, List.mem_cons, List.not_mem_nil, or_false] at hu
  rcases hu with rfl | rfl | rfl | rfl | rfl | rfl <;> rfl
/-- What the variables of All hold between two rounds. B: where All began. -/
structure AlI (w : World) (B p N : Nat) (M : Nat → Nat → Int) (f : Int) (pre : List (Fin 16)) (W : World) : Prop where
  ok : ∀ j ∈ pre, sE N M f (j.1 : Nat) = 0
  be : Boxed W (B + 1 + 1) 26 (.int .i64 0)
  bm : Boxed W (B + 1 + 1 + 1) 37 (.pointer (some ⟨p, 0, none⟩))
  bf : Boxed W (B + 1 + 1 + 1 + 1) 3 (.int .i64 f)
  row : ∃ v, Boxed W (B + 1) 293 v ∧ W.ownsRow B 30 6 v pre.length (capsOf N M f pre) ∧ True
  below : Below B w W
theorem alI_own (w : World) (B p N : Nat) (M : Nat → Nat → Int) (f : Int) {B' : Nat} (hB : B ≤ B') (hw : B ≤ w.heap.size) : OwnFrom B' (AlI w B p N M f) := fun pre A C row hs hg hr => by
  have hr' : ∀ r, row = some r → ∃ o : Obj, A.heap[r]? = some o ∧ o.isCells = false := fun r e => (hr r e).2
  exact ⟨hs.ok, boxed_own _ _ (fun _ : Unit => .int .i64 0) () A C row hs.be hg hr', boxed_own _ _ (fun _ : Unit => .pointer (some ⟨p, 0, none⟩)) () A C row hs.bm hg hr', boxed_own _ _ (fun _ : Unit => .int .i64 f) () A C row hs.bf hg hr',
    holdsRow_own B (B + 1) 293 30 6 (fun pre : List (Fin 16) => pre.length) (fun pre => capsOf N M f pre) (fun _ _ => True) pre A C row hs.row hg hr',
    ownFrom_below hw hB pre A C row hs.below hg hr⟩
/-- What they hold where a round has left. -/
structure AlX (w : World) (B N : Nat) (M : Nat → Nat → Int) (f : Int) (c : Code) (pre : List (Fin 16)) (W : World) : Prop where
  code : c = .exit 0
  bad : ∃ x : Fin 16, sE N M f (x.1 : Nat) ≠ 0 ∧ Boxed W (B + 1 + 1) 26 (.int .i64 (sE N M f (x.1 : Nat)))
  row : Boxed W (B + 1) 293 (.slice none 0 0)
  below : Below B w W
theorem alX_own (w : World) (B N : Nat) (M : Nat → Nat → Int) (f : Int) (c : Code) {B' : Nat} (hB : B ≤ B') (hw : B ≤ w.heap.size) : OwnFrom B' (AlX w B N M f c) := fun pre A C row hs hg hr => by
  have hr' : ∀ r, row = some r → ∃ o : Obj, A.heap[r]? = some o ∧ o.isCells = false := fun r e => (hr r e).2
  obtain ⟨x, h1, h2⟩ := hs.bad
  exact ⟨hs.code, ⟨x, h1, boxed_own _ _ (fun _ : Unit => .int .i64 (sE N M f (x.1 : Nat))) () A C row h2 hg hr'⟩, boxed_own _ _ (fun _ : Unit => .slice none 0 0) () A C row hs.row hg hr', ownFrom_below hw hB pre A C row hs.below hg hr⟩
/-- Where the iterator's things lie. -/
theorem AlI.it {w : World} {p b N : Nat} {M : Nat → Nat → Int} {f : Int} {pre : List (Fin 16)} {W : World} (h : AlI w w.heap.size p N M f pre W) (hM : Mt w p b N M) : It W (w.heap.size + 1 + 1 + 1) p b N M f :=
  ⟨h.bm, h.bf, hM.on h.below⟩
/-- What a round begins with: the capability that it was handed in a block of its own. -/
def AlA (w : World) (p N : Nat) (M : Nat → Nat → Int) (f : Int) (x : Fin 16) (a' : Act) (W : World) : Prop :=
  ∃ q, W.heap[q]? = some (.cells (cells6 N M f x).toArray 30 (0, 0)) ∧ a' = { tmps := #[.pointer (some ⟨p, 0, none⟩), .int .i64 f, undef, undef, .slice none 0 0, .int .i64 0, .pointer (some ⟨w.heap.size + 1, 0, none⟩), .pointer (some ⟨w.heap.size + 1 + 1, 0, none⟩), .pointer (some ⟨q, 0, none⟩), .int .i64 (sE N M f (x.1 : Nat)), .slice (some ⟨w.heap.size, 0, none⟩) 0 16, .pointer (some ⟨p, 0, none⟩), .int .i64 f, .func (.func 195) #[] #[.pointer (some ⟨w.heap.size + 1 + 1 + 1, 0, none⟩), .pointer (some ⟨w.heap.size + 1 + 1 + 1 + 1, 0, none⟩)], .agg (cells6 N M f x).toArray, .int .i64 (sE N M f (x.1 : Nat)), undef, undef, undef, undef, undef, undef, undef, undef, undef, undef], defers := [] }
theorem alA_own (w : World) (p N : Nat) (M : Nat → Nat → Int) (f : Int) (x : Fin 16) (a' : Act) (B' : Nat) : OwnFrom B' (fun (_ : Unit) W => AlA w p N M f x a' W) := fun _ A C row hs hg hr => by
  obtain ⟨q, hq, e⟩ := hs
  exact ⟨q, (hg.block q (Array.getElem?_eq_some_iff.1 hq).1 (fun e' => by obtain ⟨_, o, ho, hc⟩ := hr q e'.symm; rw [hq] at ho; cases ho; cases hc)).trans hq, e⟩
set_option maxRecDepth 100000 in
set_option maxHeartbeats 2000000 in
theorem sall_in (p b N : Nat) (f : Int) (M : Nat → Nat → Int) (w : World) (hM : Mt w p b N M) :
    Calls Tryz.prog 162 #[.pointer (some ⟨p, 0, none⟩), .int .i64 f] w fun e W' =>
      (((∀ j : Fin 16, sE N M f (j.1 : Nat) = 0) ∧ ∃ v, e = .returned (.tuple #[v, .int .i64 0]) ∧ W'.ownsRow w.heap.size 30 6 v 16 (capsOf N M f (upto 16 16))) ∨
       (∃ x : Fin 16, sE N M f (x.1 : Nat) ≠ 0 ∧ e = .returned (.tuple #[.slice none 0 0, .int .i64 (sE N M f (x.1 : Nat))]))) ∧ Below w.heap.size w W' := by
  obtain ⟨Z, hZ, hmk⟩ := make_caps
  obtain ⟨it, hi, hz0, hz1, hz2⟩ := info_parts infoCap
  have HM : Hid (Mt w p b N M) := hM
  clear hM
  refine (callsIn_wide (n := 9)).1 ?_
  refine callsIn_of_wp_marks Tryz.func162 rfl trivial ?_ rfl
  simp only [Tryz.ntmps162, List.size_toArray, List.length_cons, List.length_nil, Nat.reduceAdd, Nat.reduceSub, Array.replicate_succ, Array.replicate_zero, List.push_toArray, List.append_toArray, List.nil_append, List.cons_append]
  gi_wp2
  refine wpIn_scope_wide ?_
  gi_wp2
  refine wpIn_label ?_
  gi_wp2_with (first | (refine ⟨trivial, ?_⟩; gi_at_call 181; refine (each_in _ _ _ _).mono ?_; rintro e w' ⟨rfl, rfl⟩) | fail)
  have b0 := World.ownsRow_made (base := w.heap.size) (e := 30) (size := 6) w Z 16 (Nat.le_refl _) (by decide) (by rw [hZ])
  have b1 := Boxed.new (w.alloc (.cells Z 30)) 293 (.slice (some ⟨w.heap.size, 0, none⟩) 0 16)
  have b2 := Boxed.new ((w.alloc (.cells Z 30)).alloc (.cells #[.slice (some ⟨w.heap.size, 0, none⟩) 0 16] 293)) 26 (.int .i64 0)
  have b3 := Boxed.new (((w.alloc (.cells Z 30)).alloc (.cells #[.slice (some ⟨w.heap.size, 0, none⟩) 0 16] 293)).alloc (.cells #[.int .i64 0] 26)) 37 (.pointer (some ⟨p, 0, none⟩))
  have b4 := Boxed.new ((((w.alloc (.cells Z 30)).alloc (.cells #[.slice (some ⟨w.heap.size, 0, none⟩) 0 16] 293)).alloc (.cells #[.int .i64 0] 26)).alloc (.cells #[.pointer (some ⟨p, 0, none⟩)] 37)) 3 (.int .i64 f)
  simp only [World.size_alloc] at b1 b2 b3 b4
  have hI0 : AlI w w.heap.size p N M f [] (((((w.alloc (.cells Z 30)).alloc (.cells #[.slice (some ⟨w.heap.size, 0, none⟩) 0 16] 293)).alloc (.cells #[.int .i64 0] 26)).alloc (.cells #[.pointer (some ⟨p, 0, none⟩)] 37)).alloc (.cells #[.int .i64 f] 3)) :=
    ⟨by simp, (b2.alloc _).alloc _, b3.alloc _, b4, ⟨_, ((b1.alloc _).alloc _).alloc _, (((b0.alloc _).alloc _).alloc _).alloc _, trivial⟩, bal (bal (bal (bal (bal (Below.refl _ _) _) _) _) _) _⟩
  have hs0 : (((((w.alloc (.cells Z 30)).alloc (.cells #[.slice (some ⟨w.heap.size, 0, none⟩) 0 16] 293)).alloc (.cells #[.int .i64 0] 26)).alloc (.cells #[.pointer (some ⟨p, 0, none⟩)] 37)).alloc (.cells #[.int .i64 f] 3)).heap.size = w.heap.size + 5 := by simp
  clear b0 b1 b2 b3 b4
  generalize ((((w.alloc (.cells Z 30)).alloc _).alloc _).alloc _).alloc _ = V at hI0 hs0 ⊢
  refine wpIn_rangeFunc_ownH rfl (by omega) (gf := 195) (lb := #[.pointer (some ⟨w.heap.size + 1 + 1 + 1, 0, none⟩), .pointer (some ⟨w.heap.size + 1 + 1 + 1 + 1, 0, none⟩)]) rfl trivial (enters_of Tryz.func195 (by kernel_rfl) rfl)
    (each_stops 8 (by omega) (w.heap.size + 1 + 1 + 1) p b N M f V (hI0.it HM.out)) (fun h k => fun x => k (h x)) (fun W l o o' hl hWl ho _ hx => hx.putObj o' hWl ho) (Below.refl _ _) (fun _ => rfl)
    (AlI w w.heap.size p N M f) (AlX w w.heap.size N M f)
    (alI_own w w.heap.size p N M f (by omega) (Nat.le_refl _)) (fun c => alX_own w w.heap.size N M f c (by omega) (Nat.le_refl _)) hI0
    (AlA w p N M f) (fun x a' => alA_own w p N M f x a' _) ?assign ?body ?done ?stop
  case assign =>
    intro l pre x W K hI hK
    unfold encS
    gi_wp2
    exact hK _ _ ((KeepsOthers.alloc W _).from _) (fun h => h.on (bal (Below.refl _ _) _)) (alI_own w w.heap.size p N M f (Nat.le_refl _) (Nat.le_refl _) pre W _ none hI (World.grownBy_alloc W _ none) (fun r e => by cases e)) ⟨W.heap.size, heap_alloc_new W _, rfl⟩
  case body =>
    rintro l pre x a' W hl _ hI ⟨q, hq, rfl⟩ hlt
    obtain ⟨v, c1, hrow, _⟩ := hI.row
    obtain ⟨av, cv, rfl⟩ := ownsRow_slice hrow
    have k1 := c1.cell
    have f1 := c1.frozen
    have k2 := hI.be.cell
    have f2 := hI.be.frozen
    have HI : Hid (AlI w w.heap.size p N M f pre W) := hI
    have n1 : ¬ w.heap.size + 1 = w.heap.size + 1 + 1 := by omega
    have hBW : w.heap.size ≤ W.heap.size := Nat.le_of_lt (Nat.lt_of_succ_lt c1.lt)
    by_cases hE : sE N M f (x.1 : Nat) = 0
    · have HE : Hid (sE N M f (x.1 : Nat) = 0) := hE
      rw [hE]
      have q0 : W.cell? ⟨q, 0, none⟩ = some (.int .i64 (sC N M f (x.1 : Nat) 0)) := (cell_of_row _ _ _ _ _ _ hq).trans rfl
      have q1 : W.cell? ⟨q, 1, none⟩ = some (.int .i64 (sC N M f (x.1 : Nat) 1)) := (cell_of_row _ _ _ _ _ _ hq).trans rfl
      have q2 : W.cell? ⟨q, 2, none⟩ = some (.int .i64 (sC N M f (x.1 : Nat) 2)) := (cell_of_row _ _ _ _ _ _ hq).trans rfl
      have q3 : W.cell? ⟨q, 3, none⟩ = some (.int .i64 (sC N M f (x.1 : Nat) 3)) := (cell_of_row _ _ _ _ _ _ hq).trans rfl
      have q4 : W.cell? ⟨q, 4, none⟩ = some (.int .i64 (sC N M f (x.1 : Nat) 4)) := (cell_of_row _ _ _ _ _ _ hq).trans rfl
      have q5 : W.cell? ⟨q, 5, none⟩ = some (.int .i64 (sC N M f (x.1 : Nat) 5)) := (cell_of_row _ _ _ _ _ _ hq).trans rfl
      have HR : Hid (W.ownsRow w.heap.size 30 6 (.slice av pre.length cv) pre.length (capsOf N M f pre)) := hrow
      have HC : Hid (Boxed W (w.heap.size + 1) 293 (.slice av pre.length cv)) := c1
      clear hrow hE hI c1 hq
      gi_wp2_with (first | (gi_at_builtin; refine wpListIn_append_own _ rfl _ _ 293 rfl w.heap.size 30 it (.agg #[.int .i64 0, .int .i64 0, .int .i64 0, .int .i64 0, .int .i64 0, .int .i64 0]) 6 48 Tryz.underlying293 hi hz0 hz1 hz2 rfl (by decide) _ _ _ rfl (HR.out.alloc _) ⟨W.heap.size, 0, none⟩ 1 1 (cells6 N M f x) rfl rfl (six_new W _ _ _ _ _ _ _) (six_one N M f x) (by unfold maxLen; omega) (by omega) (by simp; omega) ?_; intro v' w1 hown' hgrow _; obtain ⟨g', cap', rfl⟩ := ownsRow_succ hown'; obtain ⟨hv1, hv2, hr2, hk2, hb2⟩ := HC.out.appended (by decide) HR.out hBW (by omega) hown' hgrow; have m1 := hv1.cell; have m2 := hv1.frozen) | fail)
      have hrA := HR.out.alloc (.cells #[.int .i64 (sC N M f (x.1 : Nat) 0), .int .i64 (sC N M f (x.1 : Nat) 1), .int .i64 (sC N M f (x.1 : Nat) 2), .int .i64 (sC N M f (x.1 : Nat) 3), .int .i64 (sC N M f (x.1 : Nat) 4), .int .i64 (sC N M f (x.1 : Nat) 5)] 30)
      have d2 := (HI.out.be.alloc _).kept hgrow ((HI.out.be.alloc _).not_row (by decide) hrA)
      have d3 := (HI.out.bm.alloc _).kept hgrow ((HI.out.bm.alloc _).not_row (by decide) hrA)
      have d4 := (HI.out.bf.alloc _).kept hgrow ((HI.out.bf.alloc _).not_row (by decide) hrA)
      have hN : AlI w w.heap.size p N M f (pre ++ [x]) (w1.setCell ⟨w.heap.size + 1, 0, none⟩ (.slice (some ⟨g', 0, none⟩) (pre.length + 1) cap')) :=
        ⟨fun i hi => (List.mem_append.1 hi).elim (HI.out.ok i) (fun e => by simp at e; subst e; exact HE.out), d2.other (by omega) _, d3.other (by omega) _, d4.other (by omega) _, ⟨_, hv2, by rw [capsOf_snoc, List.length_append, List.length_singleton]; exact hr2, trivial⟩, HI.out.below.trans hb2⟩
      exact ⟨hk2.from _, fun _ => hN.it HM.out, hN⟩
    · have hne : (sE N M f (x.1 : Nat) == 0) = false := by simp [hE]
      have HE : Hid (sE N M f (x.1 : Nat) ≠ 0) := hE
      have HC : Hid (Boxed W (w.heap.size + 1) 293 (.slice av pre.length cv)) := c1
      clear hE hrow hI c1
      gi_wp2
      exact ⟨((KeepsOthers.setCell _ _ _).trans (KeepsOthers.setCell _ _ _)).from _, ⟨rfl, ⟨x, HE.out, (HI.out.be.other (by omega) _).set _⟩, (HC.out.set _).other (by omega) _, (HI.out.below.setCell (p := ⟨w.heap.size + 1, 0, none⟩) (by simp) _).setCell (p := ⟨w.heap.size + 1 + 1, 0, none⟩) (by simp; omega) _⟩⟩
  case done =>
    rintro D ys W hD rfl hI hK
    obtain ⟨v, c1, hrow, _⟩ := hI.row
    rw [upto_length (Nat.le_refl _)] at hrow
    obtain ⟨av, cv, rfl⟩ := ownsRow_slice hrow
    have k1 := c1.cell
    have k2 := hI.be.cell
    have HI : Hid (AlI w w.heap.size p N M f (upto 16 16) W) := hI
    have HR : Hid (W.ownsRow w.heap.size 30 6 (.slice av 16 cv) 16 (capsOf N M f (upto 16 16))) := hrow
    clear hI hrow c1
    gi_wp2
    gi_quiet (fail)
    gi_wp2
    have hK2 : (W.drewN nq).heap[D]? = some (Obj.deferred (some [])) := hK
    refine ⟨by simp, .inl ⟨_, _, rfl, run_takeDeferred hK2, ?_⟩⟩
    refine ⟨.tuple #[.slice av 16 cv, .int .i64 0], by simp [results, Tryz.f162, go_sem], .inl ⟨fun j => HI.out.ok j (upto_mem j.2), _, rfl, ownsRow_putObj (show (W.drewN nq).ownsRow w.heap.size 30 6 (.slice av 16 cv) 16 (capsOf N M f (upto 16 16)) from HR.out) _ hK2 rfl⟩, ?_⟩
    exact (HI.out.below.trans (below_drew' _ _ nq)).trans (belowK_b (w := w) (Nat.le_refl _) _ D _ _ (by omega) hK2 rfl rfl)
  case stop =>
    rintro D c pre W hD ⟨k, hk, rfl⟩ hX hK
    obtain ⟨rfl, ⟨x, hx, k2⟩, k1, hB⟩ := hX
    have c1 := k1.cell
    have c2 := k2.cell
    gi_wp2
    gi_quiet (fail)
    gi_wp2
    have hK2 : (W.drewN nq).heap[D]? = some (Obj.deferred (some [])) := hK
    refine ⟨by simp, .inl ⟨_, _, rfl, run_takeDeferred hK2, ?_⟩⟩
    refine ⟨.tuple #[.slice none 0 0, .int .i64 (sE N M f (x.1 : Nat))], by simp [results, Tryz.f162, go_sem], .inr ⟨x, hx, rfl⟩, ?_⟩
    exact (hB.trans (below_drew' _ _ nq)).trans (belowK_b (w := w) (Nat.le_refl _) _ D _ _ (by omega) hK2 rfl rfl)

/-! ### as a reader asks it -/
/-- The slice v holds n capabilities, the numbers of the i-th told by C i, in a block from base on. -/
def Caps (w : World) (base : Nat) (v : Value) (n : Nat) (C : Nat → Nat → Int) : Prop :=
  ∃ a cap, v = .slice a n cap ∧ (n = 0 ∨ ∃ b, a = some ⟨b, 0, none⟩ ∧ base ≤ b ∧ b < w.heap.size ∧ ∀ i, i < n → w.cell? ⟨b, i * 6, none⟩ = some (.int .i64 (C i 0)) ∧ w.cell? ⟨b, i * 6 + 1, none⟩ = some (.int .i64 (C i 1)) ∧ w.cell? ⟨b, i * 6 + 2, none⟩ = some (.int .i64 (C i 2)) ∧ w.cell? ⟨b, i * 6 + 3, none⟩ = some (.int .i64 (C i 3)) ∧ w.cell? ⟨b, i * 6 + 4, none⟩ = some (.int .i64 (C i 4)) ∧ w.cell? ⟨b, i * 6 + 5, none⟩ = some (.int .i64 (C i 5)))
theorem capsOf_len (N : Nat) (M : Nat → Nat → Int) (f : Int) (pre : List (Fin 16)) : (capsOf N M f pre).length = pre.length * 6 := by
  induction pre with
  | nil => rfl
  | cons x pre ih => rw [show capsOf N M f (x :: pre) = cells6 N M f x ++ capsOf N M f pre from rfl, List.length_append, ih]; simp [cells6]; omega
/-- The cells of the capability in slot i are the six from 6i on. -/
theorem capsOf_at (N : Nat) (M : Nat → Nat → Int) (f : Int) : ∀ (k i j : Nat), k ≤ 16 → i < k → j < 6 → (capsOf N M f (upto 16 k))[i * 6 + j]? = some (.int .i64 (sC N M f (i : Nat) j))
  | 0, i, j, _, hi, _ => by omega
  | k + 1, i, j, hk, hi, hj => by
    have hk' : k < 16 := by omega
    rw [upto_succ hk', capsOf_snoc]
    have hl : (capsOf N M f (upto 16 k)).length = k * 6 := by rw [capsOf_len, upto_length (by omega)]
    by_cases h : i < k
    · rw [List.getElem?_append_left (by rw [hl]; omega)]
      exact capsOf_at N M f k i j (by omega) h hj
    · obtain rfl : i = k := by omega
      rw [List.getElem?_append_right (by rw [hl]; omega), hl, show i * 6 + j - i * 6 = j by omega]
      match j, hj with
      | 0, _ | 1, _ | 2, _ | 3, _ | 4, _ | 5, _ => rfl
theorem caps_of_own {w : World} {base : Nat} {v : Value} {N : Nat} {M : Nat → Nat → Int} {f : Int} (h : w.ownsRow base 30 6 v 16 (capsOf N M f (upto 16 16))) : Caps w base v 16 fun i j => sC N M f (i : Nat) j := by
  rcases h.2 with ⟨_, e⟩ | ⟨g, cap, cur, rfl, hb, hg, _, _, _, ht⟩
  · omega
  · refine ⟨_, _, rfl, .inr ⟨g, rfl, hb, (Array.getElem?_eq_some_iff.1 hg).1, fun i hi => ?_⟩⟩
    have key : ∀ j, j < 6 → w.cell? ⟨g, i * 6 + j, none⟩ = some (.int .i64 (sC N M f (i : Nat) j)) := fun j hj => by
      have := capsOf_at N M f 16 i j (Nat.le_refl _) hi hj
      rw [← ht, List.getElem?_take, if_pos (by omega), Array.getElem?_toList] at this
      rw [cell_of_row _ _ _ _ _ _ hg, this]
    exact ⟨key 0 (by omega), key 1 (by omega), key 2 (by omega), key 3 (by omega), key 4 (by omega), key 5 (by omega)⟩
/-- All, for every frame. -/
theorem sall_any (p b N : Nat) (f : Int) (M : Nat → Nat → Int) (w : World) (hM : Mt w p b N M) :
    Calls Tryz.prog 162 #[.pointer (some ⟨p, 0, none⟩), .int .i64 f] w fun e w' => ∃ v, e = .returned (.tuple #[v, .int .i64 (aE N M f)]) ∧ Caps w' w.heap.size v (aN N M f) (fun i j => sC N M f (i : Nat) j) ∧ Below w.heap.size w w' := by
  refine (sall_in p b N f M w hM).mono ?_
  rintro e w' ⟨h, hB⟩
  rcases h with ⟨hok, v, rfl, hv⟩ | ⟨x, hx, rfl⟩
  · have h0 : okA N M f = true := (okA_iff N M f).2 fun i hi => hok ⟨i, hi⟩
    refine ⟨v, by simp [aE, h0], ?_, hB⟩
    rw [show aN N M f = 16 by simp [aN, h0]]
    exact caps_of_own hv
  · obtain ⟨h0, h1⟩ := okA_no x.2 hx
    refine ⟨_, by rw [h1], ?_, hB⟩
    rw [show aN N M f = 0 by simp [aN, h0]]
    exact ⟨_, _, rfl, .inl rfl⟩
end Go.Proofs.YtcgekcjnaadcmaaGreatDoor.Pslot

/- What Used and First of package slot answer, for every frame, over a memory that New made; what 'awake' answers. -/
namespace Go.Proofs.YtcgekcjnaadcmaaGreatDoor.Pslot
open Go.Proofs.YtcgekcjnaadcmaaGreatDoor.Pbase Go.Proofs.YtcgekcjnaadcmaaGreatDoor.Pcap Go.Proofs.YtcgekcjnaadcmaaGreatDoor.Pfield Go.Proofs.YtcgekcjnaadcmaaGreatDoor.Pmem
open Go.RowKit M
set_option linter.unusedVariables false

theorem Caps.at {w : World} {base : Nat} {a : Option Addr} {cap n m : Nat} {C : Nat → Nat → Int} (h : Caps w base (.slice a n cap) m C) {i : Nat} (hi : i < m) : n = m ∧ ∃ b, a = some ⟨b, 0, none⟩ ∧ base ≤ b ∧ b < w.heap.size ∧ ∀ w', Below w.heap.size w w' → w'.cell? ⟨b, i * 6, none⟩ = some (.int .i64 (C i 0)) ∧ w'.cell? ⟨b, i * 6 + 1, none⟩ = some (.int .i64 (C i 1)) ∧ w'.cell? ⟨b, i * 6 + 2, none⟩ = some (.int .i64 (C i 2)) ∧ w'.cell? ⟨b, i * 6 + 3, none⟩ = some (.int .i64 (C i 3)) ∧ w'.cell? ⟨b, i * 6 + 4, none⟩ = some (.int .i64 (C i 4)) ∧ w'.cell? ⟨b, i * 6 + 5, none⟩ = some (.int .i64 (C i 5)) := by
  obtain ⟨a', cap', e, h⟩ := h
  cases e
  rcases h with h | ⟨b, e1, h1, h2, h3⟩
  · omega
  · refine ⟨rfl, b, e1, h1, h2, fun w' hB => ?_⟩
    obtain ⟨c0, c1, c2, c3, c4, c5⟩ := h3 i hi
    exact ⟨(hB.cell (p := ⟨b, _, none⟩) h2).trans c0, (hB.cell (p := ⟨b, _, none⟩) h2).trans c1, (hB.cell (p := ⟨b, _, none⟩) h2).trans c2, (hB.cell (p := ⟨b, _, none⟩) h2).trans c3, (hB.cell (p := ⟨b, _, none⟩) h2).trans c4, (hB.cell (p := ⟨b, _, none⟩) h2).trans c5⟩
theorem Caps.slice {w : World} {base : Nat} {v : Value} {n : Nat} {C : Nat → Nat → Int} (h : Caps w base v n C) : ∃ a cap, v = .slice a n cap := by
  obtain ⟨a, cap, e, _⟩ := h
  exact ⟨a, cap, e⟩
theorem aN_le (N : Nat) (M : Nat → Nat → Int) (f : Int) : aN N M f ≤ 16 := by unfold aN; split <;> omega
set_option maxRecDepth 100000 in
set_option maxHeartbeats 1000000 in
theorem sused_any (p b N : Nat) (f : Int) (M : Nat → Nat → Int) (w : World) (hM : Mt w p b N M) :
    Calls Tryz.prog 120 #[.pointer (some ⟨p, 0, none⟩), .int .i64 f] w fun e w' => e = .returned (.tuple #[.int .i64 (uN N M f), .int .i64 (aE N M f)]) ∧ Below w.heap.size w w' := by
  have HA : Hid (Calls Tryz.prog 162 #[.pointer (some ⟨p, 0, none⟩), .int .i64 f] w fun e w' => ∃ v, e = .returned (.tuple #[v, .int .i64 (aE N M f)]) ∧ Caps w' w.heap.size v (aN N M f) (fun i j => sC N M f (i : Nat) j) ∧ Below w.heap.size w w') := sall_any p b N f M w hM
  have hn := aN_le N M f
  unfold uN
  generalize aE N M f = E at HA ⊢
  generalize aN N M f = n at HA hn ⊢
  obtain ⟨C, hC⟩ : ∃ C : Nat → Nat → Int, C = fun i j => sC N M f (i : Nat) j := ⟨_, rfl⟩
  have hC0 : (fun i : Nat => sC N M f (i : Nat) 0) = fun i => C i 0 := by rw [hC]
  rw [hC0]
  rw [← hC] at HA
  clear hC hC0 hM
  go_enter Tryz.func120, Tryz.ntmps120
  go_wp2_with (first
    | (go_at_call 162; refine HA.out.mono ?_; rintro e1 w1 ⟨v, rfl, hc, hb⟩; obtain ⟨av, cv, rfl⟩ := hc.slice; have HC : Hid (Caps w1 w.heap.size (.slice av n cv) n C) := hc; have HB : Hid (Below w.heap.size w w1) := hb; clear hc hb)
    | fail)
  go_loopw [19, 8] (fun i u wr => ∃ k : Nat, k ≤ n ∧ i = .int .i64 k ∧ u = .int .i64 (cnt (fun i => C i 0) k) ∧ Below w1.heap.size w1 wr) (fun i _ _ => n - (intOf i).toNat)
  case atStart => exact ⟨0, by omega, rfl, rfl, Below.refl _ _⟩
  case round =>
    obtain ⟨k, hk, rfl, rfl, hr⟩ := hrel
    have HR : Hid (Below w1.heap.size w1 wr) := hr
    clear hr
    have hle := cnt_le (fun i => C i 0) k
    have hsucc : cnt (fun i => C i 0) (k + 1) = cnt (fun i => C i 0) k + if 1 < C k 0 then 1 else 0 := rfl
    by_cases hlt : k < n
    · have hki : (k : Int) < (n : Int) := by omega
      obtain ⟨_, bl, rfl, _, _, hcell⟩ := HC.out.at hlt
      obtain ⟨c0, c1, c2, c3, c4, c5⟩ := hcell wr HR.out
      clear hcell
      have HR2 : Hid (∀ o, Below w1.heap.size w1 (wr.alloc o)) := fun o => HR.out.alloc HR.out.size o
      generalize C k 0 = K at c0 hsucc
      generalize C k 1 = K1 at c1
      generalize C k 2 = K2 at c2
      generalize C k 3 = K3 at c3
      generalize C k 4 = K4 at c4
      generalize C k 5 = K5 at c5
      by_cases h1 : 1 < K
      · rw [if_pos h1] at hsucc
        generalize cnt (fun i => C i 0) k = u at hle hsucc
        have hu : wrap64 ((u : Int) + 1) = (u : Int) + 1 := by unfold wrap64; omega
        have HS : Hid (cnt (fun i => C i 0) (k + 1) = u + 1) := hsucc
        clear hsucc
        go_wp2
        go_roundw
        case rel => exact ⟨k + 1, by omega, by go_num, by rw [HS.out]; simp, HR2.out _⟩
        case measure => simp [intOf]; omega
      · rw [if_neg h1] at hsucc
        generalize cnt (fun i => C i 0) k = u at hle hsucc
        have HS : Hid (cnt (fun i => C i 0) (k + 1) = u) := hsucc
        clear hsucc
        go_wp2
        go_roundw
        case rel => exact ⟨k + 1, by omega, by go_num, by rw [HS.out], HR2.out _⟩
        case measure => simp [intOf]; omega
    · obtain rfl : k = n := by omega
      go_wp2
      go_ret2
      exact ⟨rfl, HB.out.trans (HR.out.mono HB.out.size)⟩
/-! ### awake -/
end Go.Proofs.YtcgekcjnaadcmaaGreatDoor.Pslot
