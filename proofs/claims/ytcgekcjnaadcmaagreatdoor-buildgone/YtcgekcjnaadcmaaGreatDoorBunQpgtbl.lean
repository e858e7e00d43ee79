/- Texts on finished packages, joined. -/
import Derived.Test.YtcgekcjnaadcmaaGreatDoorBunHead
import Derived.Test.YtcgekcjnaadcmaaGreatDoorBunQpte
import Derived.Test.YtcgekcjnaadcmaaGreatDoorBunMem
import Derived.BigQuiet
import Derived.BigRegion
import Derived.Deep.RegionHeld3
import Derived.Deep.CutBlock
import Derived.Test.YtcgekcjnaadcmaaGreatDoorBunField
import Derived.RangeFuncNested
import Derived.RangeFuncBound
import Derived.RangeFuncBox
import Derived.RangeFuncCalls
import Derived.RangeFuncLeaves
import Derived.RangeFuncWrites
import Derived.WalkKit
import Derived.OwnWalkIn
import Derived.TacticsInMore
import Derived.LoopNIn
import Derived.LoopIn
import Derived.Sort.QuietIn

/- Tables of mappings in the words of frames: plain words on what is made, read, walked to, mapped, unmapped, hung in, taken out and counted. No program is named here. -/
namespace Go.Proofs.YtcgekcjnaadcmaaGreatDoor.Pqpgtbl
open Go.Proofs.YtcgekcjnaadcmaaGreatDoor.Pbase Go.Proofs.YtcgekcjnaadcmaaGreatDoor.Pmem
open Go.RowKit
set_option linter.unusedVariables false

/-! ### what is answered, and what is done -/
/-- Is there such an entry; such a page? -/
def okI (i : Int) : Bool := decide (0 ≤ i) && decide (i < 32)
/-- An entry of a frame: its word, its error, its parts. -/
def enW (N : Nat) (M : Nat → Nat → Int) (f i : Int) : Int := ldM N M f (4 + i)
def enE (N : Nat) (M : Nat → Nat → Int) (f i : Int) : Int := if okW N f (4 + i) = true then Ppte.getE (enW N M f i) else 1
def enO (N : Nat) (M : Nat → Nat → Int) (f i : Int) : Bool := Ppte.getO (enW N M f i)
def enF (N : Nat) (M : Nat → Nat → Int) (f i : Int) : Int := Ppte.getF (enW N M f i)
def enR (N : Nat) (M : Nat → Nat → Int) (f i : Int) : Int := Ppte.getR (enW N M f i)
def enT (N : Nat) (M : Nat → Nat → Int) (f i : Int) : Int := Ppte.getT (enW N M f i)
/-- Used: the first k entries can be read; how many of them are On. -/
def okTo (N : Nat) (M : Nat → Nat → Int) (f : Int) : Nat → Bool
  | 0 => true
  | k + 1 => okTo N M f k && decide (enE N M f k = 0)
def onTo (N : Nat) (M : Nat → Nat → Int) (f : Int) : Nat → Int
  | 0 => 0
  | k + 1 => onTo N M f k + if enO N M f k = true then 1 else 0
def usE (N : Nat) (M : Nat → Nat → Int) (f : Int) : Int := if Phead.isE N M f 2 = 0 then if okTo N M f 32 = true then 0 else 12 else 4
def usN (N : Nat) (M : Nat → Nat → Int) (f : Int) : Int := if usE N M f = 0 then onTo N M f 32 else 0

/-! ### small facts -/
theorem wd_zero : Ppte.wd false 0 0 0 = 0 := by decide +kernel
theorem okI_iff (i : Int) : okI i = true ↔ 0 ≤ i ∧ i < 32 := by simp [okI]
theorem okI_nat {m : Nat} (h : m < 32) : okI (m : Int) = true := (okI_iff _).2 (by omega)
theorem okW_en {N : Nat} {f i : Int} (hi : okI i = true) : okW N f (4 + i) = okF N f := by
  have := (okI_iff i).1 hi
  simp [okW]
  intro _
  omega
/-- Beside an error there is nothing. -/
theorem en_none {N : Nat} {M : Nat → Nat → Int} {f i : Int} (h : enE N M f i ≠ 0) : enO N M f i = false ∧ enF N M f i = 0 ∧ enR N M f i = 0 ∧ enT N M f i = 0 := by
  have key : ¬ Ppte.Got (enW N M f i) ∨ enW N M f i = 0 := by
    by_cases k : okW N f (4 + i) = true
    · left
      intro hg
      unfold enE at h
      rw [if_pos k] at h
      exact h (Ppte.get_yes hg).2.2.2.2
    · right
      unfold enW ldM
      rw [if_neg k]
  rcases key with k | k
  · obtain ⟨e0, e1, e2, e3, _⟩ := Ppte.get_no k
    exact ⟨e0, e1, e2, e3⟩
  · unfold enO enF enR enT
    rw [k]
    have : Ppte.wd false 0 0 0 = 0 := wd_zero
    obtain ⟨e0, e1, e2, e3, _⟩ := Ppte.got_back (o := false) (f := 0) (r := 0) (t := 0) ⟨fun e => (by cases e), fun _ => by omega⟩
    rw [this] at e0 e1 e2 e3
    exact ⟨e0, e1, e2, e3⟩

/-! ### what a set entry leaves of the others, and of the heads -/
theorem okTo_congr {N : Nat} {M M' : Nat → Nat → Int} {f : Int} (k : Nat) (h : ∀ i : Nat, i < k → enE N M' f i = enE N M f i) : okTo N M' f k = okTo N M f k := by
  induction k with
  | zero => rfl
  | succ k ih =>
    unfold okTo
    rw [ih fun i hi => h i (by omega), h k (by omega)]
theorem okTo_all {N : Nat} {M : Nat → Nat → Int} {f : Int} (k : Nat) (h : ∀ i : Nat, i < k → enE N M f i = 0) : okTo N M f k = true := by
  induction k with
  | zero => rfl
  | succ k ih =>
    unfold okTo
    rw [ih fun i hi => h i (by omega), h k (by omega)]
    rfl
/-- One entry that was not On is set On. -/
theorem onTo_congr {N : Nat} {M M' : Nat → Nat → Int} {f : Int} (k : Nat) (h : ∀ i : Nat, i < k → enO N M' f i = enO N M f i) : onTo N M' f k = onTo N M f k := by
  induction k with
  | zero => rfl
  | succ k ih =>
    unfold onTo
    rw [ih fun i hi => h i (by omega), h k (by omega)]
theorem onTo_one {N : Nat} {M M' : Nat → Nat → Int} {f : Int} {m : Nat} (k : Nat) (hm : m < k) (h0 : enO N M f m = false) (h1 : enO N M' f m = true) (h : ∀ i : Nat, i < k → i ≠ m → enO N M' f i = enO N M f i) : onTo N M' f k = onTo N M f k + 1 := by
  induction k with
  | zero => omega
  | succ k ih =>
    unfold onTo
    by_cases e : m = k
    · subst e
      rw [onTo_congr m fun i hi => h i (by omega) (by omega), h0, h1]
      simp
    · rw [ih (by omega) fun i hi hn => h i (by omega) hn, h k (by omega) (by omega)]
      omega
theorem okTo_fail {N : Nat} {M : Nat → Nat → Int} {f : Int} {k n : Nat} (h : enE N M f k ≠ 0) (hk : k < n) : okTo N M f n = false := by
  induction n with
  | zero => omega
  | succ n ih =>
    unfold okTo
    by_cases e : k = n
    · subst e
      simp [h]
    · rw [ih (by omega)]
      rfl
theorem en_form {N : Nat} {M : Nat → Nat → Int} {f i : Int} (hk : okW N f (4 + i) = true) (h : enE N M f i ≠ 0) : enE N M f i = 12 := by
  unfold enE at h ⊢
  rw [if_pos hk] at h ⊢
  unfold Ppte.getE at h ⊢
  split at h
  · exact absurd rfl h
  · rw [if_neg (by assumption)]
end Go.Proofs.YtcgekcjnaadcmaaGreatDoor.Pqpgtbl

/- A root, frame 0, and one leaf, frame 1, of tables of mappings: made, hung in, mapped, unmapped. Plain words; no program is named here. -/
namespace Go.Proofs.YtcgekcjnaadcmaaGreatDoor.Pqpgtbl
open Go.Proofs.YtcgekcjnaadcmaaGreatDoor.Pbase Go.Proofs.YtcgekcjnaadcmaaGreatDoor.Pmem
open Go.RowKit
set_option linter.unusedVariables false

/-! ### a head's Make -/
/-! ### made and hung in -/
/-! ### pages of it -/
end Go.Proofs.YtcgekcjnaadcmaaGreatDoor.Pqpgtbl

/- A memory and the three tables of widths; Make, isTable, isEntry, isTime and cut of package pgtbl, for every argument. -/
namespace Go.Proofs.YtcgekcjnaadcmaaGreatDoor.Pqpgtbl
open Go.Proofs.YtcgekcjnaadcmaaGreatDoor.Pbase Go.Proofs.YtcgekcjnaadcmaaGreatDoor.Pmem
open Go.RowKit
set_option linter.unusedVariables false

theorem hide {q : Prop} (h : q) : Hid q := h
/-! ### a memory and the three tables -/
theorem pt_but {w w' : World} {b : Nat} (h : Ppte.TabW w) (hB : But b w w') (hn : 4 ≠ b) : Ppte.TabW w' :=
  ⟨Nat.lt_of_lt_of_le h.lt hB.size, by obtain ⟨t, fr, hr⟩ := h.row; exact ⟨t, fr, (hB.block 4 h.lt hn).trans hr⟩⟩
/-- The three tables. -/
structure Tb (w : World) : Prop where
  th : Phead.TabW w
  tp : Ppte.TabW w
theorem Tb.on {w w' : World} (h : Tb w) (hB : Below w.heap.size w w') : Tb w' := ⟨h.th.on hB, h.tp.on hB⟩
/-- A memory and the three tables. -/
structure Mx (w : World) (p b N : Nat) (M : Nat → Nat → Int) : Prop where
  mem : MemIs w p b N M
  tb : Tb w
  fit : Fit M
  n1 : 1 ≤ N
  n64 : N ≤ 64
theorem Mx.on {w w' : World} {p b N : Nat} {M : Nat → Nat → Int} (h : Mx w p b N M) (hB : Below w.heap.size w w') : Mx w' p b N M :=
  ⟨h.mem.grown hB, h.tb.on hB, h.fit, h.n1, h.n64⟩
/-! ### Make -/
/-! ### isEntry, isTime -/
/-! ### isTable -/
end Go.Proofs.YtcgekcjnaadcmaaGreatDoor.Pqpgtbl

/- Entries of tables of mappings: read, find, walk, put and fill of package pgtbl, for every argument. -/
namespace Go.Proofs.YtcgekcjnaadcmaaGreatDoor.Pqpgtbl
open Go.Proofs.YtcgekcjnaadcmaaGreatDoor.Pbase Go.Proofs.YtcgekcjnaadcmaaGreatDoor.Pmem
open Go.RowKit
set_option linter.unusedVariables false

/-! ### an entry in a block -/
structure Box7 (w : World) (B : Nat) (q : Option Addr) (f a : Int) (o : Bool) (g r t : Int) : Prop where
  lt : B < w.heap.size
  c0 : w.cell? ⟨B, 0, none⟩ = some (.pointer q)
  c1 : w.cell? ⟨B, 1, none⟩ = some (.int .i64 f)
  c2 : w.cell? ⟨B, 2, none⟩ = some (.int .i64 a)
  c3 : w.cell? ⟨B, 3, none⟩ = some (.bool o)
  c4 : w.cell? ⟨B, 4, none⟩ = some (.int .i64 g)
  c5 : w.cell? ⟨B, 5, none⟩ = some (.int .i64 r)
  c6 : w.cell? ⟨B, 6, none⟩ = some (.int .i64 t)
  fz : ∀ j, w.frozen? ⟨B, j, none⟩ = false
theorem Box7.on {w w' : World} {B : Nat} {q : Option Addr} {f a : Int} {o : Bool} {g r t : Int} (h : Box7 w B q f a o g r t) (hB : Below w.heap.size w w') : Box7 w' B q f a o g r t :=
  ⟨Nat.lt_of_lt_of_le h.lt hB.size, (hB.cell (p := ⟨B, 0, none⟩) h.lt).trans h.c0, (hB.cell (p := ⟨B, 1, none⟩) h.lt).trans h.c1, (hB.cell (p := ⟨B, 2, none⟩) h.lt).trans h.c2, (hB.cell (p := ⟨B, 3, none⟩) h.lt).trans h.c3, (hB.cell (p := ⟨B, 4, none⟩) h.lt).trans h.c4, (hB.cell (p := ⟨B, 5, none⟩) h.lt).trans h.c5, (hB.cell (p := ⟨B, 6, none⟩) h.lt).trans h.c6, fun j => (hB.frozen (p := ⟨B, j, none⟩) h.lt).trans (h.fz j)⟩
theorem box7_new (w : World) (q : Option Addr) (f a : Int) (o : Bool) (g r t : Int) (ty : TypeId) : Box7 (w.alloc (.cells #[.pointer q, .int .i64 f, .int .i64 a, .bool o, .int .i64 g, .int .i64 r, .int .i64 t] ty)) w.heap.size q f a o g r t := by
  have h := heap_alloc_new w (.cells #[.pointer q, .int .i64 f, .int .i64 a, .bool o, .int .i64 g, .int .i64 r, .int .i64 t] ty)
  refine ⟨by simp, ?_, ?_, ?_, ?_, ?_, ?_, ?_, fun j => frozen_of_row _ _ _ _ _ h⟩ <;> (rw [cell_of_row _ _ _ _ _ _ h]; rfl)
/-- The result's block, beside a memory and the tables. -/
structure Er (w0 w : World) (p b N : Nat) (M : Nat → Nat → Int) : Prop where
  mx : Mx w p b N M
  below : Below w0.heap.size w0 w
  res : Box7 w w0.heap.size none 0 0 false 0 0 0
theorem Er.on {w0 w w' : World} {p b N : Nat} {M : Nat → Nat → Int} (h : Er w0 w p b N M) (hB : Below w.heap.size w w') : Er w0 w' p b N M := ⟨h.mx.on hB, h.below.trans (hB.mono h.below.size), h.res.on hB⟩
theorem er_new {w : World} {p b N : Nat} {M : Nat → Nat → Int} (h : Mx w p b N M) : Er w (w.alloc (.cells #[.pointer none, .int .i64 0, .int .i64 0, .bool false, .int .i64 0, .int .i64 0, .int .i64 0] 302)) p b N M :=
  ⟨h.on (bal (Below.refl _ _) _), bal (Below.refl _ _) _, box7_new w none 0 0 false 0 0 0 302⟩
/-- An entry that was read, beside it. -/
structure Ep (w0 w : World) (p b N : Nat) (M : Nat → Nat → Int) (D : Nat) (q : Option Addr) (f a : Int) (o : Bool) (g r t : Int) : Prop where
  er : Er w0 w p b N M
  box : Box7 w D q f a o g r t
  ne : w0.heap.size < D
theorem Ep.on {w0 w w' : World} {p b N : Nat} {M : Nat → Nat → Int} {D : Nat} {q : Option Addr} {f a : Int} {o : Bool} {g r t : Int} (h : Ep w0 w p b N M D q f a o g r t) (hB : Below w.heap.size w w') : Ep w0 w' p b N M D q f a o g r t := ⟨h.er.on hB, h.box.on hB, h.ne⟩
theorem Er.more {w0 w : World} {p b N : Nat} {M : Nat → Nat → Int} (h : Er w0 w p b N M) (q : Option Addr) (f a : Int) (o : Bool) (g r t : Int) : Ep w0 (w.alloc (.cells #[.pointer q, .int .i64 f, .int .i64 a, .bool o, .int .i64 g, .int .i64 r, .int .i64 t] 302)) p b N M w.heap.size q f a o g r t :=
  ⟨h.on (bal (Below.refl _ _) _), box7_new w q f a o g r t 302, h.res.lt⟩
theorem res7 {w0 w : World} (h : Below w0.heap.size w0 w) (a b c d e f g : Value) : Below w0.heap.size w0 (((((((w.setCell ⟨w0.heap.size, 0, none⟩ a).setCell ⟨w0.heap.size, 1, none⟩ b).setCell ⟨w0.heap.size, 2, none⟩ c).setCell ⟨w0.heap.size, 3, none⟩ d).setCell ⟨w0.heap.size, 4, none⟩ e).setCell ⟨w0.heap.size, 5, none⟩ f).setCell ⟨w0.heap.size, 6, none⟩ g) :=
  bst (bst (bst (bst (bst (bst (bst h (Nat.le_refl _) _ _) (Nat.le_refl _) _ _) (Nat.le_refl _) _ _) (Nat.le_refl _) _ _) (Nat.le_refl _) _ _) (Nat.le_refl _) _ _) (Nat.le_refl _) _ _
theorem mid4 {w0 w : World} (h : Below w0.heap.size w0 w) {D : Nat} (hD : w0.heap.size < D) (a b c d : Value) : Below w0.heap.size w0 ((((w.setCell ⟨D, 3, none⟩ a).setCell ⟨D, 4, none⟩ b).setCell ⟨D, 5, none⟩ c).setCell ⟨D, 6, none⟩ d) :=
  bst (bst (bst (bst h (Nat.le_of_lt hD) _ _) (Nat.le_of_lt hD) _ _) (Nat.le_of_lt hD) _ _) (Nat.le_of_lt hD) _ _
theorem ld_bd {N : Nat} {M : Nat → Nat → Int} (hF : Fit M) (f a : Int) : 0 ≤ ldM N M f a ∧ ldM N M f a ≤ 18446744073709551615 := by
  unfold ldM
  split
  · exact hF _ _
  · omega
/-! ### read -/
set_option maxRecDepth 100000 in
set_option maxHeartbeats 2000000 in
theorem read_any (p b N : Nat) (f i : Int) (M : Nat → Nat → Int) (w : World) (h : Mx w p b N M) (hi : 0 ≤ i ∧ i < 32) :
    Calls Tryz.prog 183 #[.pointer (some ⟨p, 0, none⟩), .int .i64 f, .int .i64 i] w fun x w' => x = .returned (.tuple #[.agg #[.pointer (some ⟨p, 0, none⟩), .int .i64 f, .int .i64 (4 + i), .bool (enO N M f i), .int .i64 (enF N M f i), .int .i64 (enR N M f i), .int .i64 (enT N M f i)], .int .i64 (enE N M f i)]) ∧ Below w.heap.size w w' := by
  obtain ⟨h0, h1⟩ := hi
  have hw : wrap64 (4 + i) = 4 + i := by unfold wrap64; omega
  have HL : Hid (∀ wc, Mx wc p b N M → Calls Tryz.prog 118 #[.pointer (some ⟨p, 0, none⟩), .int .i64 f, .int .i64 (4 + i)] wc fun x w' => x = .returned (.tuple #[.int .u64 (ldM N M f (4 + i)), .int .i64 (errW N f (4 + i))]) ∧ w' = wc) := fun wc hc => load_any p b N f (4 + i) M wc hc.n1 hc.n64 hc.mem
  have hbd := ld_bd (N := N) h.fit f (4 + i)
  have HE := (er_new h).more (some ⟨p, 0, none⟩) f (4 + i) false 0 0 0
  rw [World.size_alloc] at HE
  clear h
  by_cases hk : okW N f (4 + i) = true
  case neg =>
    have e0 : enE N M f i ≠ 0 := by unfold enE; rw [if_neg hk]; decide
    obtain ⟨e1, e2, e3, e4⟩ := en_none e0
    have e5 : enE N M f i = 1 := by unfold enE; rw [if_neg hk]
    rw [e1, e2, e3, e4, e5]
    have e6 : errW N f (4 + i) = 1 := by unfold errW; rw [if_neg hk]
    rw [e6] at HL
    clear e0 e1 e2 e3 e4 e5 e6 hk hbd
    go_enter Tryz.func183, Tryz.ntmps183
    go_upto_region 2 with fail
    generalize (w.alloc _).alloc _ = w1 at HE ⊢
    generalize w.heap.size + 1 = D at HE ⊢
    have H1 := hide HE
    clear HE
    have y0 := H1.out.box.c0
    have y1 := H1.out.box.c1
    have y2 := H1.out.box.c2
    have y3 := H1.out.box.c3
    have y4 := H1.out.box.c4
    have y5 := H1.out.box.c5
    have y6 := H1.out.box.c6
    have x0 := H1.out.er.res.c0
    have x1 := H1.out.er.res.c1
    have x2 := H1.out.er.res.c2
    have x3 := H1.out.er.res.c3
    have x4 := H1.out.er.res.c4
    have x5 := H1.out.er.res.c5
    have x6 := H1.out.er.res.c6
    have z0 := H1.out.er.res.fz
    have ne1 : ¬ D = w.heap.size := Nat.ne_of_gt H1.out.ne
    have ne2 : ¬ w.heap.size = D := Nat.ne_of_lt H1.out.ne
    go_wp2_with (first
      | (go_at_call 118; refine (HL.out _ H1.out.er.mx).mono ?_; rintro e1 w2 ⟨rfl, hw2⟩; subst hw2)
      | fail)
    refine bodyPost_ret (v := .tuple #[.agg #[.pointer (some ⟨p, 0, none⟩), .int .i64 f, .int .i64 (4 + i), .bool false, .int .i64 0, .int .i64 0, .int .i64 0], .int .i64 1]) (by simp [results, Tryz.results183, go_sem, x0, x1, x2, x3, x4, x5, x6]) rfl ⟨rfl, ?_⟩
    exact res7 H1.out.er.below _ _ _ _ _ _ _
  case pos =>
  have e5 : enE N M f i = Ppte.getE (enW N M f i) := by unfold enE; rw [if_pos hk]
  have e6 : errW N f (4 + i) = 0 := by unfold errW; rw [if_pos hk]
  rw [e5]
  rw [e6] at HL
  unfold enO enF enR enT enW
  generalize ldM N M f (4 + i) = x at HL hbd ⊢
  have HG : Hid (∀ wc, Mx wc p b N M → Calls Tryz.prog 197 #[.int .u64 x] wc fun v w' => v = .returned (.tuple #[.agg #[.bool (Ppte.getO x), .int .i64 (Ppte.getF x), .int .i64 (Ppte.getR x), .int .i64 (Ppte.getT x)], .int .i64 (Ppte.getE x)]) ∧ Below wc.heap.size wc w') := fun wc hc => Ppte.get_any x wc hbd hc.tb.tp
  clear e5 e6 hk hbd
  generalize Ppte.getO x = go at HG ⊢
  generalize Ppte.getF x = gf at HG ⊢
  generalize Ppte.getR x = gr at HG ⊢
  generalize Ppte.getT x = gt at HG ⊢
  generalize Ppte.getE x = ge at HG ⊢
  go_enter Tryz.func183, Tryz.ntmps183
  go_upto_region 2 with fail
  generalize (w.alloc _).alloc _ = w1 at HE ⊢
  generalize w.heap.size + 1 = D at HE ⊢
  have H1 := hide HE
  clear HE
  have y0 := H1.out.box.c0
  have y1 := H1.out.box.c1
  have y2 := H1.out.box.c2
  have ne1 : ¬ D = w.heap.size := Nat.ne_of_gt H1.out.ne
  have ne2 : ¬ w.heap.size = D := Nat.ne_of_lt H1.out.ne
  go_wp2_with (first
    | (go_at_call 118; refine (HL.out _ H1.out.er.mx).mono ?_; rintro e1 w2 ⟨rfl, hw2⟩; subst hw2)
    | (go_at_call 197; refine (HG.out _ H1.out.er.mx).mono ?_; rintro e2 w3 ⟨rfl, hb⟩; have H3 := hide (H1.out.on hb); clear hb H1 y0 y1 y2; have y0 := H3.out.box.c0; have y1 := H3.out.box.c1; have y2 := H3.out.box.c2; have y3 := H3.out.box.c3; have y4 := H3.out.box.c4; have y5 := H3.out.box.c5; have y6 := H3.out.box.c6; have x0 := H3.out.er.res.c0; have x1 := H3.out.er.res.c1; have x2 := H3.out.er.res.c2; have x3 := H3.out.er.res.c3; have x4 := H3.out.er.res.c4; have x5 := H3.out.er.res.c5; have x6 := H3.out.er.res.c6; have z0 := H3.out.er.res.fz; have z1 := H3.out.box.fz; have xl := H3.out.er.res.lt; have yl := H3.out.box.lt)
    | fail)
  refine bodyPost_ret (v := .tuple #[.agg #[.pointer (some ⟨p, 0, none⟩), .int .i64 f, .int .i64 (4 + i), .bool go, .int .i64 gf, .int .i64 gr, .int .i64 gt], .int .i64 ge]) (by simp [results, Tryz.results183, go_sem, x0, x1, x2, x3, x4, x5, x6]) rfl ⟨rfl, ?_⟩
  exact res7 (mid4 H3.out.er.below H3.out.ne _ _ _ _) _ _ _ _ _ _ _
/-! ### find -/
/-! ### walk -/
end Go.Proofs.YtcgekcjnaadcmaaGreatDoor.Pqpgtbl

/- The iterator over the entries of a frame (entries), and what Used of package pgtbl answers, for every frame. -/
namespace Go.Proofs.YtcgekcjnaadcmaaGreatDoor.Pqpgtbl
open Go.Proofs.YtcgekcjnaadcmaaGreatDoor.Pbase Go.Proofs.YtcgekcjnaadcmaaGreatDoor.Pfield Go.Proofs.YtcgekcjnaadcmaaGreatDoor.Pmem
open Go.RowKit Go.Shelf M
attribute [local go_sem] Oper.semAt_some
set_option linter.unusedVariables false

theorem grown_none {W W' : World} (h : Below W.heap.size W W') : W.grownBy W' none := ⟨h.os, h.tape, h.output, h.size, fun k hk _ => h.block k hk⟩
theorem row_ne {W : World} {l : Nat} {o : Obj} (hl : W.heap[l]? = some o) (ho : o.isCells = false) {q : Nat} {cs : Array Value} {t : TypeId} {fr : Nat × Nat} (h : W.heap[q]? = some (.cells cs t fr)) : q ≠ l := by
  rintro rfl
  rw [hl] at h
  cases h
  simp [Obj.isCells] at ho
theorem but_putObj (W : World) (l : Nat) (o : Obj) : But l W (W.putObj l o) := ⟨rfl, rfl, rfl, by simp, fun k _ hk => World.putObj_heap_other hk⟩
/-- What the iterator stands on: the two variables that it holds, a memory and the tables. -/
structure It (W : World) (Bm p b N : Nat) (M : Nat → Nat → Int) (f : Int) : Prop where
  bm : Boxed W Bm 37 (.pointer (some ⟨p, 0, none⟩))
  bf : Boxed W (Bm + 1) 3 (.int .i64 f)
  mx : Mx W p b N M
theorem It.on {W W' : World} {Bm p b N : Nat} {M : Nat → Nat → Int} {f : Int} (h : It W Bm p b N M f) (hB : Below W.heap.size W W') : It W' Bm p b N M f :=
  ⟨h.bm.kept (grown_none hB) (by simp), h.bf.kept (grown_none hB) (by simp), h.mx.on hB⟩
theorem It.putObj {W : World} {Bm p b N : Nat} {M : Nat → Nat → Int} {f : Int} (h : It W Bm p b N M f) {l : Nat} {o : Obj} (o' : Obj) (hl : W.heap[l]? = some o) (ho : o.isCells = false) : It (W.putObj l o') Bm p b N M f := by
  have hB := but_putObj W l o'
  have n1 : p ≠ l := row_ne hl ho h.mx.mem.head
  have n2 : b ≠ l := row_ne hl ho h.mx.mem.row
  have n3 : 2 ≠ l := by obtain ⟨t, fr, hr⟩ := h.mx.tb.th.row; exact row_ne hl ho hr
  have n4 : 4 ≠ l := by obtain ⟨t, fr, hr⟩ := h.mx.tb.tp.row; exact row_ne hl ho hr
  refine ⟨h.bm.kept (grownBy_putObj' W l o') (fun e => row_ne hl ho h.bm (by cases e; rfl)), h.bf.kept (grownBy_putObj' W l o') (fun e => row_ne hl ho h.bf (by cases e; rfl)), ⟨h.mx.mem.on (hB.block p h.mx.mem.lt.1 n1) (hB.block b h.mx.mem.lt.2 n2), ⟨h.mx.tb.th.but hB n3, pt_but h.mx.tb.tp hB n4⟩, h.mx.fit, h.mx.n1, h.mx.n64⟩⟩
/-- What a round is handed. -/
def cells7 (p N : Nat) (M : Nat → Nat → Int) (f : Int) (x : Fin 32) : Array Value := #[.pointer (some ⟨p, 0, none⟩), .int .i64 f, .int .i64 (4 + (x.1 : Nat)), .bool (enO N M f (x.1 : Nat)), .int .i64 (enF N M f (x.1 : Nat)), .int .i64 (enR N M f (x.1 : Nat)), .int .i64 (enT N M f (x.1 : Nat))]
def encE (p N : Nat) (M : Nat → Nat → Int) (f : Int) (x : Fin 32) : Array Value :=
  #[.agg #[.pointer (some ⟨p, 0, none⟩), .int .i64 f, .int .i64 (4 + (x.1 : Nat)), .bool (enO N M f (x.1 : Nat)), .int .i64 (enF N M f (x.1 : Nat)), .int .i64 (enR N M f (x.1 : Nat)), .int .i64 (enT N M f (x.1 : Nat))], .int .i64 (enE N M f (x.1 : Nat))]

set_option maxRecDepth 100000 in
set_option maxHeartbeats 1000000 in
theorem entries1_in (n : Nat) (hn : 1 ≤ n) (l Bm p b N : Nat) (M : Nat → Nat → Int) (f : Int) (J Jx : List (Fin 32) → World → Prop)
    (hA : ∀ s A B, J s A → A.grownBy B none → J s B)
    (hY : ∀ pre (x : Fin 32) W, J pre W → pre.length < 32 → YieldAt Fence.wide (n - 1) Tryz.prog l (encE p N M f x) W fun e W' =>
      (e = .returned (.bool true) ∧ J (pre ++ [x]) W' ∧ (It W Bm p b N M f → It W' Bm p b N M f)) ∨ (e = .returned (.bool false) ∧ Jx (pre ++ [x]) W'))
    (W : World) (hI : It W Bm p b N M f) (h0 : J [] W) :
    CallsIn Fence.wide n Tryz.prog 182 #[.func (.yield l) #[] #[], .pointer (some ⟨Bm, 0, none⟩), .pointer (some ⟨Bm + 1, 0, none⟩)] W fun e W' => (∃ v, e = .returned v) ∧
      ((∃ ys, ys = upto 32 32 ∧ J ys W') ∨ (∃ pre, (∃ k, k ≤ 32 ∧ pre = upto 32 k) ∧ Jx pre W')) := by
  refine callsIn_of_wp Tryz.func182 rfl trivial ?_ rfl
  simp only [Tryz.ntmps182, List.size_toArray, List.length_cons, List.length_nil, Nat.reduceAdd, Nat.reduceSub, Array.replicate_succ, Array.replicate_zero, List.push_toArray, List.append_toArray, List.nil_append, List.cons_append]
  gi_wp2
  gi_loopw [5] (fun i wr => ∃ k : Nat, k ≤ 32 ∧ i = .int .i64 k ∧ J (upto 32 k) wr ∧ It wr Bm p b N M f) (fun i _ => 32 - (intOf i).toNat)
  case atStart => exact ⟨0, Nat.zero_le _, rfl, h0, hI⟩
  case round =>
    obtain ⟨k, hk, rfl, hJs, hIt⟩ := hrel
    by_cases hlt : k < 32
    · have c1 := hIt.bm.cell
      have c2 := hIt.bf.cell
      have hki : (k : Int) < 32 := by omega
      have HG : Hid (∀ wc, Mx wc p b N M → Calls Tryz.prog 183 #[.pointer (some ⟨p, 0, none⟩), .int .i64 f, .int .i64 k] wc fun x w' => x = .returned (.tuple (encE p N M f ⟨k, hlt⟩)) ∧ Below wc.heap.size wc w') := fun wc h => read_any p b N f k M wc h (by omega)
      have HJ : Hid (J (upto 32 k) wr) := hJs
      have HT : Hid (It wr Bm p b N M f) := hIt
      clear hJs hIt hI h0
      gi_wp2_with (first | (refine ⟨trivial, ?_⟩; gi_at_call 183; refine (callsIn_wide.2 (HG.out _ HT.out.mx)).mono ?_; rintro e w1 ⟨rfl, hb⟩; obtain ⟨fn, tmps, assign, body, hy, hR⟩ := hY _ ⟨k, hlt⟩ w1 (hA _ _ _ HJ.out (grown_none hb)) (by rw [upto_length hk]; exact hlt); have HT1 : Hid (It w1 Bm p b N M f) := HT.out.on hb; clear hb; unfold encE at hy ⊢; dsimp only at hy ⊢) | fail)
      refine hR.mono ?_
      rintro e W3 (⟨rfl, hJ3, hk3⟩ | ⟨rfl, hJx3⟩)
      · gi_wp2
        go_roundw
        case rel => exact ⟨k + 1, by omega, by simp, by rw [upto_succ hlt]; exact hJ3, hk3 HT1.out⟩
        case measure => simp [intOf]; omega
      · gi_wp2
        refine bodyPost_ret (results_none rfl _ _ _) rfl ?_
        exact ⟨⟨_, rfl⟩, .inr ⟨_, ⟨k + 1, by omega, (upto_succ hlt).symm⟩, hJx3⟩⟩
    · obtain rfl : k = 32 := by omega
      gi_wp2
      go_end0
      exact ⟨⟨_, rfl⟩, .inl ⟨_, rfl, hJs⟩⟩
theorem entries_in (n p : Nat) (f : Int) (w : World) :
    CallsIn Fence.wide n Tryz.prog 163 #[.pointer (some ⟨p, 0, none⟩), .int .i64 f] w fun e w' => e = .returned (.func (.func 182) #[] #[.pointer (some ⟨w.heap.size, 0, none⟩), .pointer (some ⟨w.heap.size + 1, 0, none⟩)]) ∧ w' = (w.alloc (.cells #[.pointer (some ⟨p, 0, none⟩)] 37)).alloc (.cells #[.int .i64 f] 3) := by
  refine callsIn_of_wp Tryz.func163 rfl trivial ?_ rfl
  simp only [Tryz.ntmps163, List.size_toArray, List.length_cons, List.length_nil, Nat.reduceAdd, Nat.reduceSub, Array.replicate_succ, Array.replicate_zero, List.push_toArray, List.append_toArray, List.nil_append, List.cons_append]
  gi_wp2
  go_ret
  exact ⟨rfl, rfl⟩
theorem entries_stops (n : Nat) (hn : 1 ≤ n) (Bm p b N : Nat) (M : Nat → Nat → Int) (f : Int) (w : World) (hI : It w Bm p b N M f) :
    SeqStopsK Fence.wide n Tryz.prog 182 #[.pointer (some ⟨Bm, 0, none⟩), .pointer (some ⟨Bm + 1, 0, none⟩)] (encE p N M f) (fun A B => It A Bm p b N M f → It B Bm p b N M f) (fun ys => ys = upto 32 32) (fun pre => ∃ k, k ≤ 32 ∧ pre = upto 32 k) 32 w := fun l J Jx W hW hJ _ hY h0 =>
  entries1_in n hn l Bm p b N M f J Jx (fun s A B hs hg => hJ s A B none hs hg (fun r e => by cases e)) hY W (hI.on hW) h0

/-! ### Used -/
/-- How many of these are On. -/
def onL (N : Nat) (M : Nat → Nat → Int) (f : Int) (pre : List (Fin 32)) : Int := pre.foldl (fun s x => s + if enO N M f (x.1 : Nat) = true then 1 else 0) 0
theorem onL_snoc (N : Nat) (M : Nat → Nat → Int) (f : Int) (pre : List (Fin 32)) (x : Fin 32) : onL N M f (pre ++ [x]) = onL N M f pre + if enO N M f (x.1 : Nat) = true then 1 else 0 := by simp [onL]
theorem onL_upto (N : Nat) (M : Nat → Nat → Int) (f : Int) : ∀ k : Nat, k ≤ 32 → onL N M f (upto 32 k) = onTo N M f k
  | 0, _ => rfl
  | k + 1, h => by
    rw [upto_succ (by omega : k < 32), onL_snoc, onL_upto N M f k (by omega)]
    rfl
theorem foldl_bd (g : Fin 32 → Int) (hg : ∀ x, 0 ≤ g x ∧ g x ≤ 1) : ∀ (pre : List (Fin 32)) (s : Int), s ≤ pre.foldl (fun s x => s + g x) s ∧ pre.foldl (fun s x => s + g x) s ≤ s + pre.length
  | [], s => by simp
  | x :: pre, s => by
    have := foldl_bd g hg pre (s + g x)
    have := hg x
    simp only [List.foldl_cons, List.length_cons]
    omega
theorem onL_bd (N : Nat) (M : Nat → Nat → Int) (f : Int) (pre : List (Fin 32)) : 0 ≤ onL N M f pre ∧ onL N M f pre ≤ pre.length := by
  have := foldl_bd (fun x => if enO N M f (x.1 : Nat) = true then 1 else 0) (fun x => by split <;> omega) pre 0
  unfold onL
  omega
/-- What the variables of Used hold between two rounds. B: where Used began; S: where the count lies. -/
structure UsI (w : World) (B S p N : Nat) (M : Nat → Nat → Int) (f : Int) (pre : List (Fin 32)) (W : World) : Prop where
  ok : ∀ j ∈ pre, enE N M f (j.1 : Nat) = 0
  b0 : Boxed W B 3 (.int .i64 0)
  b1 : Boxed W (B + 1) 26 (.int .i64 0)
  bu : Boxed W S 3 (.int .i64 (onL N M f pre))
  bm : Boxed W (S + 1) 37 (.pointer (some ⟨p, 0, none⟩))
  bf : Boxed W (S + 1 + 1) 3 (.int .i64 f)
  below : Below B w W
theorem usI_own (w : World) (B S p N : Nat) (M : Nat → Nat → Int) (f : Int) {B' : Nat} (hB : B ≤ B') (hw : B ≤ w.heap.size) : OwnFrom B' (UsI w B S p N M f) := fun pre A C row hs hg hr => by
  have hr' : ∀ r, row = some r → ∃ o : Obj, A.heap[r]? = some o ∧ o.isCells = false := fun r e => (hr r e).2
  exact ⟨hs.ok, boxed_own _ _ (fun _ : Unit => .int .i64 0) () A C row hs.b0 hg hr', boxed_own _ _ (fun _ : Unit => .int .i64 0) () A C row hs.b1 hg hr', boxed_own _ _ (fun _ : Unit => .int .i64 (onL N M f pre)) () A C row hs.bu hg hr', boxed_own _ _ (fun _ : Unit => .pointer (some ⟨p, 0, none⟩)) () A C row hs.bm hg hr', boxed_own _ _ (fun _ : Unit => .int .i64 f) () A C row hs.bf hg hr', ownFrom_below hw hB pre A C row hs.below hg hr⟩
/-- What they hold where a round has left. -/
structure UsX (w : World) (B N : Nat) (M : Nat → Nat → Int) (f : Int) (c : Code) (pre : List (Fin 32)) (W : World) : Prop where
  code : c = .ret
  bad : ∃ x : Fin 32, enE N M f (x.1 : Nat) ≠ 0 ∧ Boxed W (B + 1) 26 (.int .i64 (enE N M f (x.1 : Nat)))
  b0 : Boxed W B 3 (.int .i64 0)
  below : Below B w W
theorem usX_own (w : World) (B N : Nat) (M : Nat → Nat → Int) (f : Int) (c : Code) {B' : Nat} (hB : B ≤ B') (hw : B ≤ w.heap.size) : OwnFrom B' (UsX w B N M f c) := fun pre A C row hs hg hr => by
  have hr' : ∀ r, row = some r → ∃ o : Obj, A.heap[r]? = some o ∧ o.isCells = false := fun r e => (hr r e).2
  obtain ⟨x, h1, h2⟩ := hs.bad
  exact ⟨hs.code, ⟨x, h1, boxed_own _ _ (fun _ : Unit => .int .i64 (enE N M f (x.1 : Nat))) () A C row h2 hg hr'⟩, boxed_own _ _ (fun _ : Unit => .int .i64 0) () A C row hs.b0 hg hr', ownFrom_below hw hB pre A C row hs.below hg hr⟩
/-- Where the iterator's things lie. -/
theorem UsI.it {w : World} {p b N : Nat} {M : Nat → Nat → Int} {f : Int} {S : Nat} {pre : List (Fin 32)} {W : World} (h : UsI w w.heap.size S p N M f pre W) (hM : Mx w p b N M) : It W (S + 1) p b N M f :=
  ⟨h.bm, h.bf, hM.on h.below⟩
/-- What a round begins with: the entry that it was handed in a block of its own. -/
def UsA (w : World) (S p N : Nat) (M : Nat → Nat → Int) (f : Int) (x : Fin 32) (a' : Act) (W : World) : Prop :=
  ∃ q, W.heap[q]? = some (.cells (cells7 p N M f x) 302 (0, 0)) ∧ a' = { tmps := #[.pointer (some ⟨p, 0, none⟩), .int .i64 f, undef, undef, .pointer (some ⟨w.heap.size, 0, none⟩), .pointer (some ⟨w.heap.size + 1, 0, none⟩), .pointer (some ⟨S, 0, none⟩), .pointer (some ⟨q, 0, none⟩), .int .i64 (enE N M f (x.1 : Nat)), .pointer (some ⟨p, 0, none⟩), .int .i64 f, .int .i64 0, .bool false, .pointer (some ⟨p, 0, none⟩), .int .i64 f, .func (.func 182) #[] #[.pointer (some ⟨S + 1, 0, none⟩), .pointer (some ⟨S + 1 + 1, 0, none⟩)], .agg (cells7 p N M f x), .int .i64 (enE N M f (x.1 : Nat)), undef, undef, undef, undef, undef, undef, undef, undef, undef], defers := [] }
theorem usA_own (w : World) (S p N : Nat) (M : Nat → Nat → Int) (f : Int) (x : Fin 32) (a' : Act) (B' : Nat) : OwnFrom B' (fun (_ : Unit) W => UsA w S p N M f x a' W) := fun _ A C row hs hg hr => by
  obtain ⟨q, hq, e⟩ := hs
  exact ⟨q, (hg.block q (Array.getElem?_eq_some_iff.1 hq).1 (fun e' => by obtain ⟨_, o, ho, hc⟩ := hr q e'.symm; rw [hq] at ho; cases ho; cases hc)).trans hq, e⟩
/-- The two results, and what Is leaves. -/
structure Us0 (w w1 : World) (p b N : Nat) (M : Nat → Nat → Int) : Prop where
  b0 : Boxed w1 w.heap.size 3 (.int .i64 0)
  b1 : Boxed w1 (w.heap.size + 1) 26 (.int .i64 0)
  below : Below w.heap.size w w1
  mx : Mx w1 p b N M
theorem us0_new {w : World} {p b N : Nat} {M : Nat → Nat → Int} (h : Mx w p b N M) : Us0 w ((w.alloc (.cells #[.int .i64 0] 3)).alloc (.cells #[.int .i64 0] 26)) p b N M := by
  have b0 := Boxed.new w 3 (.int .i64 0)
  have b1 := Boxed.new (w.alloc (.cells #[.int .i64 0] 3)) 26 (.int .i64 0)
  rw [World.size_alloc] at b1
  exact ⟨b0.alloc _, b1, bal (bal (Below.refl _ _) _) _, (h.on (bal (Below.refl _ _) _)).on (bal (Below.refl _ _) _)⟩
theorem Us0.on {w w1 w2 : World} {p b N : Nat} {M : Nat → Nat → Int} (h : Us0 w w1 p b N M) (hB : Below w1.heap.size w1 w2) : Us0 w w2 p b N M :=
  ⟨h.b0.kept (grown_none hB) (by simp), h.b1.kept (grown_none hB) (by simp), h.below.trans (hB.mono h.below.size), h.mx.on hB⟩
set_option maxRecDepth 100000 in
set_option maxHeartbeats 2000000 in
theorem used_in (p b N : Nat) (f : Int) (M : Nat → Nat → Int) (w : World) (hM : Mx w p b N M) :
    Calls Tryz.prog 121 #[.pointer (some ⟨p, 0, none⟩), .int .i64 f] w fun e W' =>
      ((Phead.isE N M f 2 ≠ 0 ∧ e = .returned (.tuple #[.int .i64 0, .int .i64 4])) ∨
       (Phead.isE N M f 2 = 0 ∧ (∀ j : Fin 32, enE N M f (j.1 : Nat) = 0) ∧ e = .returned (.tuple #[.int .i64 (onTo N M f 32), .int .i64 0])) ∨
       (Phead.isE N M f 2 = 0 ∧ ∃ x : Fin 32, enE N M f (x.1 : Nat) ≠ 0 ∧ e = .returned (.tuple #[.int .i64 0, .int .i64 (enE N M f (x.1 : Nat))]))) ∧ Below w.heap.size w W' := by
  have HM := hide hM
  have H0 := us0_new hM
  have HIs : Hid (∀ wc, Mx wc p b N M → Calls Tryz.prog 89 #[.pointer (some ⟨p, 0, none⟩), .int .i64 f, .int .i64 2] wc fun e w' => e = .returned (.int .i64 (Phead.isE N M f 2)) ∧ Below wc.heap.size wc w') := fun wc h => Phead.his_any p b N f 2 M wc h.n1 h.n64 h.mem h.tb.th h.fit
  clear hM
  by_cases hk : Phead.isE N M f 2 = 0
  case neg =>
    generalize Phead.isE N M f 2 = E at HIs hk ⊢
    have hE : (E != 0) = true := by simp [hk]
    have HK := hide hk
    have H0' := hide H0
    clear H0 hk
    refine (callsIn_wide (n := 9)).1 ?_
    refine callsIn_of_wp_marks Tryz.func121 rfl trivial ?_ rfl
    simp only [Tryz.ntmps121, List.size_toArray, List.length_cons, List.length_nil, Nat.reduceAdd, Nat.reduceSub, Array.replicate_succ, Array.replicate_zero, List.push_toArray, List.append_toArray, List.nil_append, List.cons_append]
    gi_wp2_with (first | (refine ⟨trivial, ?_⟩; gi_at_call 89; refine (callsIn_wide.2 (HIs.out _ H0'.out.mx)).mono ?_; rintro e w1 ⟨rfl, hb⟩; have H1 := hide (H0'.out.on hb); clear hb H0'; have k0 := H1.out.b0.cell; have k1 := H1.out.b1.cell; have f0 := H1.out.b0.frozen; have f1 := H1.out.b1.frozen) | fail)
    have c0 := ((H1.out.b0.set (.int .i64 0)).other (B' := w.heap.size + 1) (by omega) (.int .i64 4)).cell
    have c1 := ((H1.out.b1.other (B' := w.heap.size) (by omega) (.int .i64 0)).set (.int .i64 4)).cell
    refine ⟨.tuple #[.int .i64 0, .int .i64 4], by simp [results, Tryz.f121, go_sem, c0, c1], .inl ⟨HK.out, rfl⟩, ?_⟩
    exact (H1.out.below.setCell (p := ⟨w.heap.size, 0, none⟩) (Nat.le_refl _) _).setCell (p := ⟨w.heap.size + 1, 0, none⟩) (Nat.le_succ _) _
  rw [hk] at HIs ⊢
  clear hk
  have H0' := hide H0
  clear H0
  refine (callsIn_wide (n := 9)).1 ?_
  refine callsIn_of_wp_marks Tryz.func121 rfl trivial ?_ rfl
  simp only [Tryz.ntmps121, List.size_toArray, List.length_cons, List.length_nil, Nat.reduceAdd, Nat.reduceSub, Array.replicate_succ, Array.replicate_zero, List.push_toArray, List.append_toArray, List.nil_append, List.cons_append]
  gi_wp2_with (first | (refine ⟨trivial, ?_⟩; gi_at_call 89; refine (callsIn_wide.2 (HIs.out _ H0'.out.mx)).mono ?_; rintro e w1 ⟨rfl, hb⟩; have H1 := hide (H0'.out.on hb); clear hb H0') | (refine ⟨trivial, ?_⟩; gi_at_call 163; refine (entries_in _ _ _ _).mono ?_; rintro e w' ⟨rfl, rfl⟩) | fail)
  have c0 := Boxed.new w1 3 (.int .i64 0)
  have c1 := Boxed.new (w1.alloc (.cells #[.int .i64 0] 3)) 37 (.pointer (some ⟨p, 0, none⟩))
  have c2 := Boxed.new ((w1.alloc (.cells #[.int .i64 0] 3)).alloc (.cells #[.pointer (some ⟨p, 0, none⟩)] 37)) 3 (.int .i64 f)
  simp only [World.size_alloc] at c1 c2
  have hI0 : UsI w w.heap.size w1.heap.size p N M f [] (((w1.alloc (.cells #[.int .i64 0] 3)).alloc (.cells #[.pointer (some ⟨p, 0, none⟩)] 37)).alloc (.cells #[.int .i64 f] 3)) :=
    ⟨by simp, ((H1.out.b0.alloc _).alloc _).alloc _, ((H1.out.b1.alloc _).alloc _).alloc _, (c0.alloc _).alloc _, c1.alloc _, c2, bal (bal (bal H1.out.below _) _) _⟩
  have hs0 : (((w1.alloc (.cells #[.int .i64 0] 3)).alloc (.cells #[.pointer (some ⟨p, 0, none⟩)] 37)).alloc (.cells #[.int .i64 f] 3)).heap.size = w1.heap.size + 3 := by simp
  have hS1 : w.heap.size + 1 < w1.heap.size := H1.out.b1.lt
  clear c0 c1 c2
  generalize ((w1.alloc (.cells #[.int .i64 0] 3)).alloc _).alloc _ = V at hI0 hs0 ⊢
  generalize w1.heap.size = S at hI0 hs0 hS1 ⊢
  refine wpIn_rangeFunc_ownH rfl (by omega) (gf := 182) (lb := #[.pointer (some ⟨S + 1, 0, none⟩), .pointer (some ⟨S + 1 + 1, 0, none⟩)]) rfl trivial (enters_of Tryz.func182 (by kernel_rfl) rfl)
    (entries_stops 8 (by omega) (S + 1) p b N M f V (hI0.it HM.out)) (fun h k => fun x => k (h x)) (fun W l o o' hl hWl ho _ hx => hx.putObj o' hWl ho) (Below.refl _ _) (fun _ => rfl)
    (UsI w w.heap.size S p N M f) (UsX w w.heap.size N M f)
    (usI_own w w.heap.size S p N M f (by omega) (Nat.le_refl _)) (fun c => usX_own w w.heap.size N M f c (by omega) (Nat.le_refl _)) hI0
    (UsA w S p N M f) (fun x a' => usA_own w S p N M f x a' _) ?assign ?body ?done ?stop
  case assign =>
    intro l pre x W K hI hK
    unfold encE
    gi_wp2
    exact hK _ _ ((KeepsOthers.alloc W _).from _) (fun h => h.on (bal (Below.refl _ _) _)) (usI_own w w.heap.size S p N M f (Nat.le_refl _) (Nat.le_refl _) pre W _ none hI (World.grownBy_alloc W _ none) (fun r e => by cases e)) ⟨W.heap.size, heap_alloc_new W _, rfl⟩
  case body =>
    rintro l pre x a' W hl _ hI ⟨q, hq, rfl⟩ hlt
    have k0 := hI.b0.cell
    have f0 := hI.b0.frozen
    have k1 := hI.b1.cell
    have f1 := hI.b1.frozen
    have ku := hI.bu.cell
    have fu := hI.bu.frozen
    have HI : Hid (UsI w w.heap.size S p N M f pre W) := hI
    have hbd := onL_bd N M f pre
    have n1 : ¬ w.heap.size = w.heap.size + 1 := by omega
    by_cases hE : enE N M f (x.1 : Nat) = 0
    · have HE : Hid (enE N M f (x.1 : Nat) = 0) := hE
      rw [hE]
      have q3 : W.cell? ⟨q, 3, none⟩ = some (.bool (enO N M f (x.1 : Nat))) := (cell_of_row _ _ _ _ _ _ hq).trans rfl
      have HS := hide (onL_snoc N M f pre x)
      clear hE hI hq
      generalize hO : enO N M f (x.1 : Nat) = O at q3 HS
      have hw : wrap64 (onL N M f pre + 1) = onL N M f pre + 1 := by unfold wrap64; omega
      have HO := hide hO
      clear hO
      cases O
      · gi_wp2
        have hN : UsI w w.heap.size S p N M f (pre ++ [x]) W :=
          ⟨fun i hi => (List.mem_append.1 hi).elim (HI.out.ok i) (fun e => by simp at e; subst e; exact HE.out), HI.out.b0, HI.out.b1, by rw [HS.out]; simpa using HI.out.bu, HI.out.bm, HI.out.bf, HI.out.below⟩
        exact ⟨(KeepsOthers.refl W).from _, fun h => h, hN⟩
      · gi_wp2
        have hN : UsI w w.heap.size S p N M f (pre ++ [x]) (W.setCell ⟨S, 0, none⟩ (.int .i64 (onL N M f pre + 1))) :=
          ⟨fun i hi => (List.mem_append.1 hi).elim (HI.out.ok i) (fun e => by simp at e; subst e; exact HE.out), HI.out.b0.other (by omega) _, HI.out.b1.other (by omega) _, by rw [HS.out]; exact HI.out.bu.set _, HI.out.bm.other (by omega) _, HI.out.bf.other (by omega) _, HI.out.below.setCell (p := ⟨S, 0, none⟩) (by simp; omega) _⟩
        exact ⟨(KeepsOthers.setCell _ _ _).from _, fun _ => hN.it HM.out, hN⟩
    · have hne : (enE N M f (x.1 : Nat) != 0) = true := by simp [hE]
      have HE : Hid (enE N M f (x.1 : Nat) ≠ 0) := hE
      clear hE hI
      gi_wp2
      exact ⟨((KeepsOthers.setCell _ _ _).trans (KeepsOthers.setCell _ _ _)).from _, ⟨rfl, ⟨x, HE.out, (HI.out.b1.other (by omega) _).set _⟩, (HI.out.b0.set _).other (by omega) _, (HI.out.below.setCell (p := ⟨w.heap.size, 0, none⟩) (by simp) _).setCell (p := ⟨w.heap.size + 1, 0, none⟩) (by simp) _⟩⟩
  case done =>
    rintro D ys W hD rfl hI hK
    have k0 := hI.b0.cell
    have f0 := hI.b0.frozen
    have k1 := hI.b1.cell
    have f1 := hI.b1.frozen
    have hu := hI.bu
    rw [onL_upto N M f 32 (Nat.le_refl _)] at hu
    obtain ⟨C, hC⟩ : ∃ C, onTo N M f 32 = C := ⟨_, rfl⟩
    rw [hC] at hu
    have HC := hide hC
    clear hC
    have ku := hu.cell
    have HI : Hid (UsI w w.heap.size S p N M f (upto 32 32) W) := hI
    clear hI
    gi_wp2
    have hK1 := (KeepsOthers.setCell W ⟨w.heap.size, 0, none⟩ (.int .i64 C)).same D _ hK rfl
    have hK2 := (KeepsOthers.setCell (W.setCell ⟨w.heap.size, 0, none⟩ (.int .i64 C)) ⟨w.heap.size + 1, 0, none⟩ (.int .i64 0)).same D _ hK1 rfl
    refine ⟨by simp, .inl ⟨_, _, rfl, run_takeDeferred hK2, ?_⟩⟩
    have e2 := cell_kept ((HI.out.b0.set (.int .i64 C)).other (B' := w.heap.size + 1) (by omega) (.int .i64 0)).cell (grownBy_putObj' _ D (.deferred none)) (fun r e => by cases e; exact ⟨_, hK2, rfl⟩)
    have e3 := cell_kept ((HI.out.b1.other (B' := w.heap.size) (by omega) (.int .i64 C)).set (.int .i64 0)).cell (grownBy_putObj' _ D (.deferred none)) (fun r e => by cases e; exact ⟨_, hK2, rfl⟩)
    refine ⟨.tuple #[.int .i64 C, .int .i64 0], by simp [results, Tryz.f121, go_sem, e2, e3], .inr (.inl ⟨by trivial, fun j => HI.out.ok j (upto_mem j.2), by rw [HC.out]⟩), ?_⟩
    exact ((HI.out.below.setCell (p := ⟨w.heap.size, 0, none⟩) (by simp) _).setCell (p := ⟨w.heap.size + 1, 0, none⟩) (by simp) _).trans (belowK_b (w := w) (Nat.le_refl _) _ D _ _ (by omega) hK2 rfl rfl)
  case stop =>
    rintro D c pre W hD ⟨k, hk, rfl⟩ hX hK
    obtain ⟨rfl, ⟨x, hx, k1⟩, k0, hB⟩ := hX
    gi_wp2
    refine ⟨by simp, .inl ⟨_, _, rfl, run_takeDeferred hK, ?_⟩⟩
    have e2 := cell_kept k0.cell (grownBy_putObj' _ D (.deferred none)) (fun r e => by cases e; exact ⟨_, hK, rfl⟩)
    have e3 := cell_kept k1.cell (grownBy_putObj' _ D (.deferred none)) (fun r e => by cases e; exact ⟨_, hK, rfl⟩)
    refine ⟨.tuple #[.int .i64 0, .int .i64 (enE N M f (x.1 : Nat))], by simp [results, Tryz.f121, go_sem, e2, e3], .inr (.inr ⟨by trivial, x, hx, rfl⟩), ?_⟩
    exact hB.trans (belowK_b (w := w) (Nat.le_refl _) _ D _ _ (by omega) hK rfl rfl)
/-- Used, for every frame. -/
theorem used_any (p b N : Nat) (f : Int) (M : Nat → Nat → Int) (w : World) (hM : Mx w p b N M) :
    Calls Tryz.prog 121 #[.pointer (some ⟨p, 0, none⟩), .int .i64 f] w fun x w' => x = .returned (.tuple #[.int .i64 (usN N M f), .int .i64 (usE N M f)]) ∧ Below w.heap.size w w' := by
  refine (used_in p b N f M w hM).mono ?_
  rintro e w' ⟨h, hB⟩
  refine ⟨?_, hB⟩
  rcases h with ⟨hk, rfl⟩ | ⟨hk, hok, rfl⟩ | ⟨hk, x, hx, rfl⟩
  · have e0 : usE N M f = 4 := by simp [usE, hk]
    rw [show usN N M f = 0 by simp [usN, e0], e0]
  · have e0 : usE N M f = 0 := by
      unfold usE
      rw [if_pos hk, if_pos (okTo_all 32 fun i hi => hok ⟨i, hi⟩)]
    rw [show usN N M f = onTo N M f 32 by simp [usN, e0], e0]
  · have e0 : usE N M f = 12 := by
      unfold usE
      rw [if_pos hk, okTo_fail hx x.2]
      rfl
    have hf : okF N f = true := by
      unfold Phead.isE at hk
      by_cases k : Phead.ghE N M f = 0
      · unfold Phead.ghE at k
        by_cases k2 : okF N f = true
        · exact k2
        · rw [if_neg k2] at k; cases k
      · rw [if_neg k] at hk; exact absurd hk k
    rw [show usN N M f = 0 by simp [usN, e0], e0, en_form (by rw [okW_en (okI_nat x.2)]; exact hf) hx]
end Go.Proofs.YtcgekcjnaadcmaaGreatDoor.Pqpgtbl
