/- Texts on finished packages, joined. -/
import Derived.Test.YtcgekcjnaadcmaaGreatDoorBunBase
import Derived.Laws.CopyRow
import Derived.ChangeKeysEq
import Derived.Below
import Derived.RowKit3
import Derived.Laws.CopyOwn
import Derived.WalkKit
import Derived.BigQuiet
import Derived.Deep.WholeRow
import Derived.Test.YtcgekcjnaadcmaaGreatDoorRows
import Derived.ProofKit
import Derived.OpenShut
import Derived.Outline
import Derived.Deep.QuietTactic
import Derived.BigRegion
import Derived.Deep.RegionHeld3

/- A clock that lies in one block, and what its calls make of it: plain definitions and lemmas; no program is named. -/
namespace Go.Proofs.YtcgekcjnaadcmaaGreatDoor.Pclock
open Go.Proofs.YtcgekcjnaadcmaaGreatDoor.Pbase
open Go.RowKit
set_option linter.unusedVariables false

/-- The time; by core its cycles, and when it entered and flushed. -/
structure CS where
  now : Int
  cy : Nat → Int
  en : Nat → Int
  fl : Nat → Int
/-- The cells of a clock of N cores. -/
def cellsC (N : Nat) (s : CS) : Array Value :=
  #[.int .i64 N, .int .i64 s.now, .int .i64 (s.cy 0), .int .i64 (s.en 0), .int .i64 (s.fl 0), .int .i64 (s.cy 1), .int .i64 (s.en 1), .int .i64 (s.fl 1), .int .i64 (s.cy 2), .int .i64 (s.en 2), .int .i64 (s.fl 2), .int .i64 (s.cy 3), .int .i64 (s.en 3), .int .i64 (s.fl 3)]
theorem cellsC_cy (N : Nat) (s : CS) {c : Nat} (h : c < 4) : (cellsC N s)[2 + c * 3]? = some (.int .i64 (s.cy c)) := by
  match c, h with
  | 0, _ => rfl
  | 1, _ => rfl
  | 2, _ => rfl
  | 3, _ => rfl
theorem cellsC_en (N : Nat) (s : CS) {c : Nat} (h : c < 4) : (cellsC N s)[2 + c * 3 + 1]? = some (.int .i64 (s.en c)) := by
  match c, h with
  | 0, _ => rfl
  | 1, _ => rfl
  | 2, _ => rfl
  | 3, _ => rfl
theorem cellsC_fl (N : Nat) (s : CS) {c : Nat} (h : c < 4) : (cellsC N s)[2 + c * 3 + 2]? = some (.int .i64 (s.fl c)) := by
  match c, h with
  | 0, _ => rfl
  | 1, _ => rfl
  | 2, _ => rfl
  | 3, _ => rfl

/-- Is there such a core? -/
def okF (N : Nat) (f : Int) : Bool := decide (0 ≤ f ∧ f < N)
/-- What is told of a core. -/
def cyS (N : Nat) (s : CS) (f : Int) : Int := if okF N f then s.cy f.toNat else 0
def enS (N : Nat) (s : CS) (f : Int) : Int := if okF N f then s.en f.toNat else -1
def flS (N : Nat) (s : CS) (f : Int) : Int := if okF N f then s.fl f.toNat else -1
/-- The least of the first n + 1. -/
def leastN (g : Nat → Int) : Nat → Int
  | 0 => g 0
  | n + 1 => if g (n + 1) < leastN g n then g (n + 1) else leastN g n
def floE (N : Nat) (s : CS) : Int := leastN s.en (N - 1)
def floF (N : Nat) (s : CS) : Int := leastN s.fl (N - 1)
/-- A new clock of N cores. -/
def newS (N : Nat) : CS := ⟨0, fun _ => 0, fun i => if i < N then -1 else 0, fun i => if i < N then -1 else 0⟩
theorem okF_yes {N : Nat} {f : Int} (h : okF N f = true) : 0 ≤ f ∧ f < N := by simpa [okF] using h
theorem okF_no {N : Nat} {f : Int} (h : okF N f = false) : ¬ (0 ≤ f ∧ f < N) := by simp [okF] at h; omega
theorem okF_split {N : Nat} {f : Int} (h : okF N f = true) : ∃ c : Nat, f = c ∧ c < N := by
  have := okF_yes h
  exact ⟨f.toNat, by omega, by omega⟩

/-- The time is 0 to MaxTime, and no core has more cycles. -/
def CS.ok (s : CS) : Prop := 0 ≤ s.now ∧ s.now ≤ 1073741824 ∧ ∀ i, 0 ≤ s.cy i ∧ s.cy i ≤ s.now
theorem newS_ok (N : Nat) : (newS N).ok := ⟨by simp [newS], by simp [newS], fun i => by simp [newS]⟩
/-- Memory was made, and none that was there changed. -/
structure More (w w' : World) : Prop where
  grown : Grown w w'
  below : Below w.heap.size w w'
theorem grown_trans {a b c : World} (h : Grown a b) (k : Grown b c) : Grown a c :=
  ⟨World.keptBut_trans h.1 k.1, fun x => (k.2.1 x).trans (h.2.1 x), Nat.le_trans h.2.2 k.2.2⟩
theorem More.refl (w : World) : More w w := ⟨Grown.refl _, Below.refl _ _⟩
theorem More.trans {a b c : World} (h : More a b) (k : More b c) : More a c := ⟨grown_trans h.grown k.grown, h.below.trans (k.below.mono h.below.size)⟩
theorem More.alloc {a b : World} (h : More a b) (c : Array Value) (t : TypeId) : More a (b.alloc (.cells c t)) := ⟨h.grown.alloc c t, h.below.alloc h.below.size _⟩
theorem More.drew {a b : World} (h : More a b) : More a b.drew := ⟨h.grown.drew, h.below.drew⟩
theorem More.cell {a b : World} (h : More a b) {p : Nat} (hp : p < a.heap.size) (j : Nat) : b.cell? ⟨p, j, none⟩ = a.cell? ⟨p, j, none⟩ := h.below.cell (p := ⟨p, j, none⟩) hp
/-- A clock of N cores lies behind the pointer to block p. -/
structure ClockIs (w : World) (p N : Nat) (s : CS) : Prop where
  row : w.heap[p]? = some (.cells (cellsC N s) 224 (0, 0))
  ok : s.ok
theorem ClockIs.cell {w : World} {p N : Nat} {s : CS} (h : ClockIs w p N s) : w.cell? ⟨p, 0, none⟩ = some (.int .i64 N) := by
  rw [cell_of_row w p 0 _ _ _ h.row]; rfl
theorem ClockIs.now {w : World} {p N : Nat} {s : CS} (h : ClockIs w p N s) : w.cell? ⟨p, 1, none⟩ = some (.int .i64 s.now) := by
  rw [cell_of_row w p 1 _ _ _ h.row]; rfl
theorem ClockIs.cy {w : World} {p N : Nat} {s : CS} (h : ClockIs w p N s) {c : Nat} (hc : c < 4) : w.cell? ⟨p, 2 + c * 3, none⟩ = some (.int .i64 (s.cy c)) := by
  rw [cell_of_row w p _ _ _ _ h.row, cellsC_cy N s hc]
theorem ClockIs.en {w : World} {p N : Nat} {s : CS} (h : ClockIs w p N s) {c : Nat} (hc : c < 4) : w.cell? ⟨p, 2 + c * 3 + 1, none⟩ = some (.int .i64 (s.en c)) := by
  rw [cell_of_row w p _ _ _ _ h.row, cellsC_en N s hc]
theorem ClockIs.fl {w : World} {p N : Nat} {s : CS} (h : ClockIs w p N s) {c : Nat} (hc : c < 4) : w.cell? ⟨p, 2 + c * 3 + 2, none⟩ = some (.int .i64 (s.fl c)) := by
  rw [cell_of_row w p _ _ _ _ h.row, cellsC_fl N s hc]
theorem ClockIs.free {w : World} {p N : Nat} {s : CS} (h : ClockIs w p N s) (j : Nat) : w.frozen? ⟨p, j, none⟩ = false := frozen_of_row w p j _ _ h.row
theorem ClockIs.lt {w : World} {p N : Nat} {s : CS} (h : ClockIs w p N s) : p < w.heap.size := (Array.getElem?_eq_some_iff.1 h.row).1
theorem ClockIs.set {w : World} {p N : Nat} {s : CS} (h : ClockIs w p N s) (s' : CS) (hk : s'.ok) : ClockIs (w.setRow p (cellsC N s')) p N s' :=
  ⟨setRow_heap _ _ _ _ _ _ h.row, hk⟩
theorem ClockIs.on {w w' : World} {p N : Nat} {s : CS} (h : ClockIs w p N s) (hp : w'.heap[p]? = w.heap[p]?) : ClockIs w' p N s := ⟨hp.trans h.row, h.ok⟩
theorem ClockIs.below {w w' : World} {B p N : Nat} {s : CS} (h : ClockIs w p N s) (hB : Below B w w') (hp : p < B) : ClockIs w' p N s := h.on (hB.block p hp)
theorem ClockIs.more {w w' : World} {p N : Nat} {s : CS} (h : ClockIs w p N s) (hB : More w w') : ClockIs w' p N s := h.below hB.below h.lt
/-- Core k of a clock that is being made is laid. -/
theorem ClockIs.lay {w : World} {p N k : Nat} (h : ClockIs w p N (newS k)) (hk : k < 4) :
    ((w.setCell ⟨p, 2 + k * 3, none⟩ (.int .i64 0)).setCell ⟨p, 2 + k * 3 + 1, none⟩ (.int .i64 (-1))).setCell ⟨p, 2 + k * 3 + 2, none⟩ (.int .i64 (-1)) = w.setRow p (cellsC N (newS (k + 1))) := by
  rw [setCell_eq_setRow w p _ _ _ _ _ h.row, setCell_eq_setRow _ p _ _ _ _ _ (setRow_heap _ _ _ _ _ _ h.row), setRow_setRow, setCell_eq_setRow _ p _ _ _ _ _ (setRow_heap _ _ _ _ _ _ h.row), setRow_setRow]
  congr 1
  match k, hk with
  | 0, _ => rfl
  | 1, _ => rfl
  | 2, _ => rfl
  | 3, _ => rfl

end Go.Proofs.YtcgekcjnaadcmaaGreatDoor.Pclock

/- What each call of package clock answers, and what it does to the clock, for every argument that its types allow: all but New and Floor. -/
namespace Go.Proofs.YtcgekcjnaadcmaaGreatDoor.Pclock
open Go.Proofs.YtcgekcjnaadcmaaGreatDoor.Pbase
open Go.RowKit
set_option linter.unusedVariables false

/-! ### The number of cores, the time -/
set_option maxRecDepth 100000 in
theorem cores_some (p N : Nat) (w : World) (hp : w.cell? ⟨p, 0, none⟩ = some (.int .i64 N)) :
    Calls Tryz.prog 78 #[.pointer (some ⟨p, 0, none⟩)] w fun e w' => e = .returned (.int .i64 N) ∧ w' = w := by
  go_enter Tryz.func78, Tryz.ntmps78
  go_wp2
  go_ret
  exact ⟨rfl, rfl⟩
set_option maxRecDepth 100000 in
theorem now_some (p : Nat) (t : Int) (w : World) (hp : w.cell? ⟨p, 1, none⟩ = some (.int .i64 t)) :
    Calls Tryz.prog 126 #[.pointer (some ⟨p, 0, none⟩)] w fun e w' => e = .returned (.int .i64 t) ∧ w' = w := by
  go_enter Tryz.func126, Tryz.ntmps126
  go_wp2
  go_ret
  exact ⟨rfl, rfl⟩
set_option maxRecDepth 100000 in
theorem nothing_any (w : World) :
    Calls Tryz.prog 132 #[] w fun e w' => e = .returned (.agg #[.int .i64 0, .int .i64 (-1), .int .i64 (-1)]) ∧ w' = w.alloc (.cells #[.int .i64 0, .int .i64 (-1), .int .i64 (-1)] 221) := by
  go_enter Tryz.func132, Tryz.ntmps132
  go_wp2
  refine bodyPost_ret (v := .agg #[.int .i64 0, .int .i64 (-1), .int .i64 (-1)]) (by simp [results, Tryz.results132, go_sem]) rfl ⟨rfl, rfl⟩

/-! ### core -/
set_option maxRecDepth 100000 in
theorem core_ok (p N c : Nat) (w : World) (hc : c < N) (hN : N ≤ 4) (hp : w.cell? ⟨p, 0, none⟩ = some (.int .i64 N)) :
    Calls Tryz.prog 198 #[.pointer (some ⟨p, 0, none⟩), .int .i64 c] w fun e w' => e = .returned (.tuple #[.pointer (some ⟨p, 2 + c * 3, none⟩), .int .i64 0]) ∧ w' = w := by
  have hci : (c : Int) < (N : Int) := by omega
  have hc4 : (c : Int) < 4 := by omega
  have h0 : ((N : Int) == 0) = false := by simp; omega
  go_enter Tryz.func198, Tryz.ntmps198
  go_wp2_with (go_at_call 78; refine (cores_some p N _ hp).mono ?_; rintro e w' ⟨rfl, rfl⟩)
  go_ret2
  exact ⟨rfl, rfl⟩
set_option maxRecDepth 100000 in
theorem core_bad (p N : Nat) (c : Int) (w : World) (hc : ¬ (0 ≤ c ∧ c < N)) (hN1 : 1 ≤ N) (hN : N ≤ 4) (hp : w.cell? ⟨p, 0, none⟩ = some (.int .i64 N)) :
    Calls Tryz.prog 198 #[.pointer (some ⟨p, 0, none⟩), .int .i64 c] w fun e w' => e = .returned (.tuple #[.pointer none, .int .i64 1]) ∧ w' = w := by
  have h0 : ((N : Int) == 0) = false := by simp; omega
  by_cases hn : c < 0
  · clear hc
    go_enter Tryz.func198, Tryz.ntmps198
    go_wp2_with (go_at_call 78; refine (cores_some p N _ hp).mono ?_; rintro e w' ⟨rfl, rfl⟩)
    go_ret2
    exact ⟨rfl, rfl⟩
  · have hge : (N : Int) ≤ c := by omega
    clear hc
    go_enter Tryz.func198, Tryz.ntmps198
    go_wp2_with (go_at_call 78; refine (cores_some p N _ hp).mono ?_; rintro e w' ⟨rfl, rfl⟩)
    go_ret2
    exact ⟨rfl, rfl⟩
/-! ### told -/
set_option maxRecDepth 100000 in
theorem told_bad (p N : Nat) (c : Int) (w : World) (hc : ¬ (0 ≤ c ∧ c < N)) (hN1 : 1 ≤ N) (hN : N ≤ 4) (hp : w.cell? ⟨p, 0, none⟩ = some (.int .i64 N)) (hlt : p < w.heap.size) :
    Calls Tryz.prog 189 #[.pointer (some ⟨p, 0, none⟩), .int .i64 c] w fun e w' => e = .returned (.agg #[.int .i64 0, .int .i64 (-1), .int .i64 (-1)]) ∧ More w w' := by
  have HC : Hid (¬ (0 ≤ c ∧ c < N)) := hc
  have HP : Hid (w.cell? ⟨p, 0, none⟩ = some (.int .i64 N)) := hp
  clear hc hp
  go_enter Tryz.func189, Tryz.ntmps189
  go_wp2_with (first
    | (go_at_call 198; refine (core_bad p N c _ HC.out hN1 hN ((((More.refl w).alloc _ _).cell hlt 0).trans HP.out)).mono ?_; rintro e w' ⟨rfl, rfl⟩)
    | (go_at_call 132; refine (nothing_any _).mono ?_; rintro e w' ⟨rfl, rfl⟩))
  refine bodyPost_ret (v := .agg #[.int .i64 0, .int .i64 (-1), .int .i64 (-1)]) (by simp [results, Tryz.results189, go_sem]) rfl ⟨rfl, ?_⟩
  repeat (first | exact More.refl _ | (refine More.setCell ?_ (by simp) _) | apply More.alloc)
set_option maxRecDepth 100000 in
theorem told_ok (p N c : Nat) (s : CS) (w : World) (hc : c < N) (hN : N ≤ 4) (h : ClockIs w p N s) :
    Calls Tryz.prog 189 #[.pointer (some ⟨p, 0, none⟩), .int .i64 c] w fun e w' => e = .returned (.agg #[.int .i64 (s.cy c), .int .i64 (s.en c), .int .i64 (s.fl c)]) ∧ More w w' := by
  have hlt := h.lt
  have HP : Hid (w.cell? ⟨p, 0, none⟩ = some (.int .i64 N)) := h.cell
  obtain ⟨x, hx⟩ : ∃ x, x = s.cy c := ⟨_, rfl⟩
  obtain ⟨y, hy⟩ : ∃ x, x = s.en c := ⟨_, rfl⟩
  obtain ⟨z, hz⟩ : ∃ x, x = s.fl c := ⟨_, rfl⟩
  have M := (More.refl w).alloc #[.int .i64 0, .int .i64 0, .int .i64 0] 221
  have g1 := (M.cell hlt _).trans (h.cy (c := c) (by omega))
  have g2 := (M.cell hlt _).trans (h.en (c := c) (by omega))
  have g3 := (M.cell hlt _).trans (h.fl (c := c) (by omega))
  rw [← hx] at g1 ⊢
  rw [← hy] at g2 ⊢
  rw [← hz] at g3 ⊢
  clear hx hy hz h M
  go_enter Tryz.func189, Tryz.ntmps189
  go_wp2_with (first
    | (go_at_call 198; refine (core_ok p N c _ hc hN ((((More.refl w).alloc _ _).cell hlt 0).trans HP.out)).mono ?_; rintro e w' ⟨rfl, rfl⟩))
  refine bodyPost_ret (v := .agg #[.int .i64 x, .int .i64 y, .int .i64 z]) (by simp [results, Tryz.results189, go_sem]) rfl ⟨rfl, ?_⟩
  repeat (first | exact More.refl _ | (refine More.setCell ?_ (by simp) _) | apply More.alloc)
/-- What is told of a core, whatever its number. -/
theorem told_any (p N : Nat) (c : Int) (s : CS) (w : World) (hN1 : 1 ≤ N) (hN : N ≤ 4) (h : ClockIs w p N s) :
    Calls Tryz.prog 189 #[.pointer (some ⟨p, 0, none⟩), .int .i64 c] w fun e w' => e = .returned (.agg #[.int .i64 (cyS N s c), .int .i64 (enS N s c), .int .i64 (flS N s c)]) ∧ More w w' := by
  cases hk : okF N c
  · simp only [cyS, enS, flS, hk, Bool.false_eq_true, if_false]
    exact told_bad p N c w (okF_no hk) hN1 hN h.cell h.lt
  · obtain ⟨f, rfl, hf⟩ := okF_split hk
    simp only [cyS, enS, flS, hk, if_true, Int.toNat_natCast]
    exact told_ok p N f s w hf hN h
set_option maxRecDepth 100000 in
theorem entered_any (p N : Nat) (c : Int) (s : CS) (w : World) (hN1 : 1 ≤ N) (hN : N ≤ 4) (h : ClockIs w p N s) :
    Calls Tryz.prog 169 #[.pointer (some ⟨p, 0, none⟩), .int .i64 c] w fun e w' => e = .returned (.int .i64 (enS N s c)) ∧ More w w' := by
  have HT := told_any p N c s w hN1 hN h
  obtain ⟨x, hx⟩ : ∃ x, x = cyS N s c := ⟨_, rfl⟩
  obtain ⟨y, hy⟩ : ∃ x, x = enS N s c := ⟨_, rfl⟩
  obtain ⟨z, hz⟩ : ∃ x, x = flS N s c := ⟨_, rfl⟩
  rw [← hx, ← hy, ← hz] at HT
  rw [← hy]
  clear hx hy hz
  have hfd : ∀ (u v t : Int) (w : World), (Instr.field 221 (.agg #[.int .i64 u, .int .i64 v, .int .i64 t]) 1).run Tryz.prog w = .ok (.int .i64 v) w := fun _ _ _ _ => by kernel_rfl
  go_enter Tryz.func169, Tryz.ntmps169
  go_wp2_with (go_at_call 189; refine HT.mono ?_; rintro e w' ⟨rfl, hm⟩)
  go_ret
  exact ⟨rfl, hm⟩
set_option maxRecDepth 100000 in
theorem flushed_any (p N : Nat) (c : Int) (s : CS) (w : World) (hN1 : 1 ≤ N) (hN : N ≤ 4) (h : ClockIs w p N s) :
    Calls Tryz.prog 168 #[.pointer (some ⟨p, 0, none⟩), .int .i64 c] w fun e w' => e = .returned (.int .i64 (flS N s c)) ∧ More w w' := by
  have HT := told_any p N c s w hN1 hN h
  obtain ⟨x, hx⟩ : ∃ x, x = cyS N s c := ⟨_, rfl⟩
  obtain ⟨y, hy⟩ : ∃ x, x = enS N s c := ⟨_, rfl⟩
  obtain ⟨z, hz⟩ : ∃ x, x = flS N s c := ⟨_, rfl⟩
  rw [← hx, ← hy, ← hz] at HT
  rw [← hz]
  clear hx hy hz
  have hfd : ∀ (u v t : Int) (w : World), (Instr.field 221 (.agg #[.int .i64 u, .int .i64 v, .int .i64 t]) 2).run Tryz.prog w = .ok (.int .i64 t) w := fun _ _ _ _ => by kernel_rfl
  go_enter Tryz.func168, Tryz.ntmps168
  go_wp2_with (go_at_call 189; refine HT.mono ?_; rintro e w' ⟨rfl, hm⟩)
  go_ret
  exact ⟨rfl, hm⟩
/-! ### Step, Enter, Flush -/
end Go.Proofs.YtcgekcjnaadcmaaGreatDoor.Pclock

/- What New and Floor of package clock answer and do, for every argument; and what 'awake' of the statements answers. -/
namespace Go.Proofs.YtcgekcjnaadcmaaGreatDoor.Pclock
open Go.Proofs.YtcgekcjnaadcmaaGreatDoor.Pbase
open Go.RowKit
set_option linter.unusedVariables false

set_option maxRecDepth 100000 in
theorem lastE (x y z : Int) (w : World) :
    Calls Tryz.prog 140 #[.agg #[.int .i64 x, .int .i64 y, .int .i64 z]] w fun e w' => e = .returned (.int .i64 y) ∧ More w w' := by
  go_enter Tryz.func140, Tryz.ntmps140
  go_wp2
  go_ret
  exact ⟨rfl, (More.refl _).alloc _ _⟩
set_option maxRecDepth 100000 in
theorem lastF (x y z : Int) (w : World) :
    Calls Tryz.prog 141 #[.agg #[.int .i64 x, .int .i64 y, .int .i64 z]] w fun e w' => e = .returned (.int .i64 z) ∧ More w w' := by
  go_enter Tryz.func141, Tryz.ntmps141
  go_wp2
  go_ret
  exact ⟨rfl, (More.refl _).alloc _ _⟩
theorem ClockIs.at {w : World} {p N : Nat} {s : CS} (h : ClockIs w p N s) {c : Nat} (hc : c < 3) : w.cell? ⟨p, 5 + c * 3, none⟩ = some (.int .i64 (s.cy (c + 1))) ∧ w.cell? ⟨p, 5 + c * 3 + 1, none⟩ = some (.int .i64 (s.en (c + 1))) ∧ w.cell? ⟨p, 5 + c * 3 + 2, none⟩ = some (.int .i64 (s.fl (c + 1))) := by
  have e : 5 + c * 3 = 2 + (c + 1) * 3 := by omega
  rw [e]
  exact ⟨h.cy (by omega), h.en (by omega), h.fl (by omega)⟩
set_option maxRecDepth 100000 in
theorem least_en (p N : Nat) (s : CS) (w : World) (hN1 : 1 ≤ N) (hN : N ≤ 4) (h : ClockIs w p N s) :
    Calls Tryz.prog 139 #[.slice (some ⟨p, 2, none⟩) N 4, .func (.func 140) #[] #[]] w fun e w' => e = .returned (.int .i64 (leastN s.en (N - 1))) ∧ More w w' := by
  have h0 : ((N : Int) == 0) = false := by simp; omega
  have h1 : (1 : Int) ≤ N := by omega
  have g1 := h.cy (c := 0) (by omega)
  have g2 := h.en (c := 0) (by omega)
  have g3 := h.fl (c := 0) (by omega)
  have HI : Hid (ClockIs w p N s) := h
  clear h
  go_enter Tryz.func139, Tryz.ntmps139
  go_wp2_with (go_at_call 140; refine (lastE _ _ _ _).mono ?_; rintro e w' ⟨rfl, hm⟩)
  have HM : Hid (More w w') := hm
  clear hm g1 g2 g3
  go_loopw [5, 19] (fun l i wr => ∃ k : Nat, k ≤ N - 1 ∧ i = .int .i64 k ∧ l = .int .i64 (leastN s.en k) ∧ More w wr) (fun _ i _ => N - 1 - (intOf i).toNat)
  case atStart => exact ⟨0, by omega, rfl, rfl, HM.out⟩
  case round =>
    obtain ⟨k, hk, rfl, rfl, hM⟩ := hrel
    have HR : Hid (More w wr) := hM
    by_cases hlt : k < N - 1
    · have hki : (k : Int) < ((N - 1 : Nat) : Int) := by omega
      obtain ⟨g1, g2, g3⟩ := (HI.out.more hM).at (c := k) (by omega)
      obtain ⟨x, hx⟩ : ∃ x, x = s.cy (k + 1) := ⟨_, rfl⟩
      obtain ⟨y, hy⟩ : ∃ x, x = s.en (k + 1) := ⟨_, rfl⟩
      obtain ⟨z, hz⟩ : ∃ x, x = s.fl (k + 1) := ⟨_, rfl⟩
      have HV : Hid (y = s.en (k + 1)) := hy
      rw [← hx] at g1
      rw [← hy] at g2
      rw [← hz] at g3
      clear hx hy hz hM HM
      obtain ⟨m, hm⟩ : ∃ m, m = leastN s.en k := ⟨_, rfl⟩
      have HL : Hid (m = leastN s.en k) := hm
      rw [← hm]
      clear hm
      go_wp2_with (go_at_call 140; refine (lastE _ _ _ _).mono ?_; rintro e w2 ⟨rfl, hm2⟩)
      have HM2 : Hid (More w w2) := (HR.out.alloc _ _).trans hm2
      clear hm2
      go_roundw
      case rel => exact ⟨k + 1, by omega, by go_num, by simp [leastN, HL.out, HV.out], HM2.out⟩
      case measure => simp [intOf]; omega
    · obtain rfl : k = N - 1 := by omega
      clear hM HM
      go_wp2
      go_ret
      exact ⟨rfl, HR.out⟩
set_option maxRecDepth 100000 in
theorem least_fl (p N : Nat) (s : CS) (w : World) (hN1 : 1 ≤ N) (hN : N ≤ 4) (h : ClockIs w p N s) :
    Calls Tryz.prog 139 #[.slice (some ⟨p, 2, none⟩) N 4, .func (.func 141) #[] #[]] w fun e w' => e = .returned (.int .i64 (leastN s.fl (N - 1))) ∧ More w w' := by
  have h0 : ((N : Int) == 0) = false := by simp; omega
  have h1 : (1 : Int) ≤ N := by omega
  have g1 := h.cy (c := 0) (by omega)
  have g2 := h.en (c := 0) (by omega)
  have g3 := h.fl (c := 0) (by omega)
  have HI : Hid (ClockIs w p N s) := h
  clear h
  go_enter Tryz.func139, Tryz.ntmps139
  go_wp2_with (go_at_call 141; refine (lastF _ _ _ _).mono ?_; rintro e w' ⟨rfl, hm⟩)
  have HM : Hid (More w w') := hm
  clear hm g1 g2 g3
  go_loopw [5, 19] (fun l i wr => ∃ k : Nat, k ≤ N - 1 ∧ i = .int .i64 k ∧ l = .int .i64 (leastN s.fl k) ∧ More w wr) (fun _ i _ => N - 1 - (intOf i).toNat)
  case atStart => exact ⟨0, by omega, rfl, rfl, HM.out⟩
  case round =>
    obtain ⟨k, hk, rfl, rfl, hM⟩ := hrel
    have HR : Hid (More w wr) := hM
    by_cases hlt : k < N - 1
    · have hki : (k : Int) < ((N - 1 : Nat) : Int) := by omega
      obtain ⟨g1, g2, g3⟩ := (HI.out.more hM).at (c := k) (by omega)
      obtain ⟨x, hx⟩ : ∃ x, x = s.cy (k + 1) := ⟨_, rfl⟩
      obtain ⟨y, hy⟩ : ∃ x, x = s.en (k + 1) := ⟨_, rfl⟩
      obtain ⟨z, hz⟩ : ∃ x, x = s.fl (k + 1) := ⟨_, rfl⟩
      have HV : Hid (z = s.fl (k + 1)) := hz
      rw [← hx] at g1
      rw [← hy] at g2
      rw [← hz] at g3
      clear hx hy hz hM HM
      obtain ⟨m, hm⟩ : ∃ m, m = leastN s.fl k := ⟨_, rfl⟩
      have HL : Hid (m = leastN s.fl k) := hm
      rw [← hm]
      clear hm
      go_wp2_with (go_at_call 141; refine (lastF _ _ _ _).mono ?_; rintro e w2 ⟨rfl, hm2⟩)
      have HM2 : Hid (More w w2) := (HR.out.alloc _ _).trans hm2
      clear hm2
      go_roundw
      case rel => exact ⟨k + 1, by omega, by go_num, by simp [leastN, HL.out, HV.out], HM2.out⟩
      case measure => simp [intOf]; omega
    · obtain rfl : k = N - 1 := by omega
      clear hM HM
      go_wp2
      go_ret
      exact ⟨rfl, HR.out⟩

/-! ### Floor -/
set_option maxRecDepth 100000 in
theorem floor_any (p N : Nat) (s : CS) (w : World) (hN1 : 1 ≤ N) (hN : N ≤ 4) (h : ClockIs w p N s) :
    Calls Tryz.prog 92 #[.pointer (some ⟨p, 0, none⟩)] w fun e w' => e = .returned (.tuple #[.int .i64 (floE N s), .int .i64 (floF N s)]) ∧ More w w' := by
  have hp := h.cell
  have h1 : (1 : Int) ≤ N := by omega
  have h4 : (N : Int) ≤ 4 := by omega
  have HI : Hid (ClockIs w p N s) := h
  clear h
  obtain ⟨x, hx⟩ : ∃ x, x = floE N s := ⟨_, rfl⟩
  obtain ⟨y, hy⟩ : ∃ x, x = floF N s := ⟨_, rfl⟩
  rw [← hx, ← hy]
  have HX : Hid (floE N s = x) := hx.symm
  have HY : Hid (floF N s = y) := hy.symm
  clear hx hy
  go_enter Tryz.func92, Tryz.ntmps92
  go_wp2
  go_region
  have HD : Hid (ClockIs w.drew p N s) := HI.out.on rfl
  go_wp2_with (first
    | (go_at_call 139; refine (least_en p N s _ hN1 hN HD.out).mono ?_; rintro e w1 ⟨rfl, hm1⟩; have HM1 : Hid (More w w1) := ((More.refl w).drew).trans hm1; clear hm1 HD)
    | (go_at_call 139; refine (least_fl p N s _ hN1 hN (HI.out.more HM1.out)).mono ?_; rintro e w2 ⟨rfl, hm2⟩))
  go_ret2
  exact ⟨by rw [← HX.out, ← HY.out]; rfl, HM1.out.trans hm2⟩

/-! ### New -/
set_option maxRecDepth 100000 in
theorem new_ok (N : Nat) (w : World) (hN1 : 1 ≤ N) (hN : N ≤ 4) :
    Calls Tryz.prog 62 #[.int .i64 N] w fun e w' => e = .returned (.tuple #[.pointer (some ⟨w.heap.size, 0, none⟩), .int .i64 0]) ∧ ClockIs w' w.heap.size N (newS N) ∧ Below w.heap.size w w' := by
  have h1 : (1 : Int) ≤ N := by omega
  have h2 : (N : Int) ≤ 4 := by omega
  go_enter Tryz.func62, Tryz.ntmps62
  go_wp2
  go_loopw [16] (fun i wr => ∃ k : Nat, k ≤ N ∧ i = .int .i64 k ∧ ClockIs wr w.heap.size N (newS k) ∧ Below w.heap.size w wr) (fun i _ => N - (intOf i).toNat)
  case atStart => exact ⟨0, by omega, rfl, ⟨heap_alloc_new _ _, newS_ok 0⟩, (Below.refl _ _).alloc (Nat.le_refl _) _⟩
  case round =>
    obtain ⟨k, hk, rfl, hI, hB⟩ := hrel
    have HI : Hid (ClockIs wr w.heap.size N (newS k)) := hI
    have HB : Hid (Below w.heap.size w wr) := hB
    clear hI hB
    by_cases hlt : k < N
    · have hki : (k : Int) < (N : Int) := by omega
      have hk4 : (k : Int) < 4 := by omega
      go_wp2
      go_region_with (go_at_call 132; (refine (nothing_any _).mono ?_; rintro e w1 ⟨rfl, hw1⟩; have HM : Hid (More wr w1) := (by rw [hw1]; exact ((More.refl wr).drew).alloc _ _); have HD : Hid (ClockIs w1 w.heap.size N (newS k)) := HI.out.more HM.out; clear hw1; have c1 := HD.out.cy (c := k) (by omega); have c2 := HD.out.en (c := k) (by omega); have c3 := HD.out.fl (c := k) (by omega); have z1 := HD.out.free (2 + k * 3); have z2 := HD.out.free (2 + k * 3 + 1); have z3 := HD.out.free (2 + k * 3 + 2)))
      have HS : Hid (ClockIs (w1.setRow w.heap.size (cellsC N (newS (k + 1)))) w.heap.size N (newS (k + 1))) := HD.out.set _ (newS_ok _)
      have HB1 : Hid (Below w.heap.size w (w1.setRow w.heap.size (cellsC N (newS (k + 1))))) := below_setRow (HB.out.trans (HM.out.below.mono HB.out.size)) (Nat.le_refl _) _
      rw [HD.out.lay (by omega)]
      clear c1 c2 c3 z1 z2 z3
      go_wp2
      go_roundw
      case rel => exact ⟨k + 1, by omega, by go_num, HS.out, HB1.out⟩
      case measure => simp [intOf]; omega
    · obtain rfl : k = N := by omega
      go_wp2
      go_ret2
      exact ⟨rfl, HI.out, HB.out⟩
end Go.Proofs.YtcgekcjnaadcmaaGreatDoor.Pclock
