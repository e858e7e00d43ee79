import Derived.Test.YtkkclcihjojphaaGreatDoorPkA
import Derived.BigRegion
import Derived.Laws.OwnMore
import Derived.Maps.AppendAt
import Derived.Deep.CutBlock
set_option linter.unusedVariables false
set_option linter.unusedSimpArgs false
set_option maxRecDepth 100000
set_option maxHeartbeats 20000000
namespace Go.Proofs.YtkkclcihjojphaaGreatDoor
namespace Pclock
open Pbase Go.RowKit
structure CS where
 now : Int
 cy : Nat -> Int
 en : Nat -> Int
 fl : Nat -> Int
def cellsC (N : Nat) (s : CS) : Array Value :=
 #[.int .i64 N, .int .i64 s.now, .int .i64 (s.cy 0), .int .i64 (s.en 0), .int .i64 (s.fl 0), .int .i64 (s.cy 1), .int .i64 (s.en 1), .int .i64 (s.fl 1), .int .i64 (s.cy 2), .int .i64 (s.en 2), .int .i64 (s.fl 2), .int .i64 (s.cy 3), .int .i64 (s.en 3), .int .i64 (s.fl 3)]
theorem cellsC_cy (N : Nat) (s : CS) {c : Nat} (h : c < 4) : (cellsC N s)[2 + c * 3]? = some (.int .i64 (s.cy c)) := by
 match c, h with
 | 0, _ => rfl
 | 1, _ => rfl
 | 2, _ => rfl
 | 3, _ => rfl
theorem cellsC_en (N : Nat) (s : CS) {c : Nat} (h : c < 4) : (cellsC N s)[2 + c * 3 + 1]? = some (.int .i64 (s.en c)) := by
 match c, h with
 | 0, _ => rfl
 | 1, _ => rfl
 | 2, _ => rfl
 | 3, _ => rfl
theorem cellsC_fl (N : Nat) (s : CS) {c : Nat} (h : c < 4) : (cellsC N s)[2 + c * 3 + 2]? = some (.int .i64 (s.fl c)) := by
 match c, h with
 | 0, _ => rfl
 | 1, _ => rfl
 | 2, _ => rfl
 | 3, _ => rfl
def okF (N : Nat) (f : Int) : Bool := decide (0 <= f /\ f < N)
def cyS (N : Nat) (s : CS) (f : Int) : Int := if okF N f then s.cy f.toNat else 0
def enS (N : Nat) (s : CS) (f : Int) : Int := if okF N f then s.en f.toNat else -1
def flS (N : Nat) (s : CS) (f : Int) : Int := if okF N f then s.fl f.toNat else -1
def leastN (g : Nat -> Int) : Nat -> Int
 | 0 => g 0
 | n + 1 => if g (n + 1) < leastN g n then g (n + 1) else leastN g n
theorem leastN_le (g : Nat -> Int) : ∀ (n i : Nat), i <= n -> leastN g n <= g i
 | 0, i, h => by obtain rfl : i = 0 := by omega
                 exact Int.le_refl _
 | n + 1, i, h => by
   have ih := leastN_le g n
   simp only [leastN]
   by_cases e : i = n + 1
   · subst e
     split <;> omega
   · have := ih i (by omega)
     split <;> omega
theorem leastN_ex (g : Nat -> Int) : ∀ n : Nat, ∃ i, i <= n /\ leastN g n = g i
 | 0 => ⟨0, Nat.le_refl _, rfl⟩
 | n + 1 => by
   obtain ⟨i, hi, e⟩ := leastN_ex g n
   simp only [leastN]
   split
   · exact ⟨n + 1, Nat.le_refl _, rfl⟩
   · exact ⟨i, by omega, e⟩
def floE (N : Nat) (s : CS) : Int := leastN s.en (N - 1)
def floF (N : Nat) (s : CS) : Int := leastN s.fl (N - 1)
def newS (N : Nat) : CS := ⟨0, fun _ => 0, fun i => if i < N then -1 else 0, fun i => if i < N then -1 else 0⟩
theorem okF_yes {N : Nat} {f : Int} (h : okF N f = true) : 0 <= f /\ f < N := by simpa [okF] using h
theorem okF_no {N : Nat} {f : Int} (h : okF N f = false) : ¬ (0 <= f /\ f < N) := by simp [okF] at h; omega
theorem okF_nat {N f : Nat} (h : f < N) : okF N (f : Int) = true := by simp [okF]; omega
theorem okF_split {N : Nat} {f : Int} (h : okF N f = true) : ∃ c : Nat, f = c /\ c < N := by
 have := okF_yes h
 exact ⟨f.toNat, by omega, by omega⟩
def CS.ok (s : CS) : Prop := 0 <= s.now /\ s.now <= 1073741824 /\ ∀ i, 0 <= s.cy i /\ s.cy i <= s.now
theorem newS_ok (N : Nat) : (newS N).ok := ⟨by simp [newS], by simp [newS], fun i => by simp [newS]⟩
structure More (w w' : World) : Prop where
 grown : Grown w w'
 below : Below w.heap.size w w'
theorem grown_trans {a b c : World} (h : Grown a b) (k : Grown b c) : Grown a c :=
 ⟨World.keptBut_trans h.1 k.1, fun x => (k.2.1 x).trans (h.2.1 x), Nat.le_trans h.2.2 k.2.2⟩
theorem More.refl (w : World) : More w w := ⟨Grown.refl _, Below.refl _ _⟩
theorem More.trans {a b c : World} (h : More a b) (k : More b c) : More a c := ⟨grown_trans h.grown k.grown, h.below.trans (k.below.mono h.below.size)⟩
theorem More.alloc {a b : World} (h : More a b) (c : Array Value) (t : TypeId) : More a (b.alloc (.cells c t)) := ⟨h.grown.alloc c t, h.below.alloc h.below.size _⟩
theorem More.drew {a b : World} (h : More a b) : More a b.drew := ⟨h.grown.drew, h.below.drew⟩
theorem More.cell {a b : World} (h : More a b) {p : Nat} (hp : p < a.heap.size) (j : Nat) : b.cell? ⟨p, j, none⟩ = a.cell? ⟨p, j, none⟩ := h.below.cell (p := ⟨p, j, none⟩) hp
structure ClockIs (w : World) (p N : Nat) (s : CS) : Prop where
 row : w.heap[p]? = some (.cells (cellsC N s) 108 (0, 0))
 ok : s.ok
theorem ClockIs.cell {w : World} {p N : Nat} {s : CS} (h : ClockIs w p N s) : w.cell? ⟨p, 0, none⟩ = some (.int .i64 N) := by
 rw [cell_of_row w p 0 _ _ _ h.row]; rfl
theorem ClockIs.cy {w : World} {p N : Nat} {s : CS} (h : ClockIs w p N s) {c : Nat} (hc : c < 4) : w.cell? ⟨p, 2 + c * 3, none⟩ = some (.int .i64 (s.cy c)) := by
 rw [cell_of_row w p _ _ _ _ h.row, cellsC_cy N s hc]
theorem ClockIs.en {w : World} {p N : Nat} {s : CS} (h : ClockIs w p N s) {c : Nat} (hc : c < 4) : w.cell? ⟨p, 2 + c * 3 + 1, none⟩ = some (.int .i64 (s.en c)) := by
 rw [cell_of_row w p _ _ _ _ h.row, cellsC_en N s hc]
theorem ClockIs.fl {w : World} {p N : Nat} {s : CS} (h : ClockIs w p N s) {c : Nat} (hc : c < 4) : w.cell? ⟨p, 2 + c * 3 + 2, none⟩ = some (.int .i64 (s.fl c)) := by
 rw [cell_of_row w p _ _ _ _ h.row, cellsC_fl N s hc]
theorem ClockIs.free {w : World} {p N : Nat} {s : CS} (h : ClockIs w p N s) (j : Nat) : w.frozen? ⟨p, j, none⟩ = false := frozen_of_row w p j _ _ h.row
theorem ClockIs.lt {w : World} {p N : Nat} {s : CS} (h : ClockIs w p N s) : p < w.heap.size := (Array.getElem?_eq_some_iff.1 h.row).1
theorem ClockIs.set {w : World} {p N : Nat} {s : CS} (h : ClockIs w p N s) (s' : CS) (hk : s'.ok) : ClockIs (w.setRow p (cellsC N s')) p N s' :=
 ⟨setRow_heap _ _ _ _ _ _ h.row, hk⟩
theorem ClockIs.on {w w' : World} {p N : Nat} {s : CS} (h : ClockIs w p N s) (hp : w'.heap[p]? = w.heap[p]?) : ClockIs w' p N s := ⟨hp.trans h.row, h.ok⟩
theorem ClockIs.below {w w' : World} {B p N : Nat} {s : CS} (h : ClockIs w p N s) (hB : Below B w w') (hp : p < B) : ClockIs w' p N s := h.on (hB.block p hp)
theorem ClockIs.more {w w' : World} {p N : Nat} {s : CS} (h : ClockIs w p N s) (hB : More w w') : ClockIs w' p N s := h.below hB.below h.lt
theorem ClockIs.lay {w : World} {p N k : Nat} (h : ClockIs w p N (newS k)) (hk : k < 4) :
 ((w.setCell ⟨p, 2 + k * 3, none⟩ (.int .i64 0)).setCell ⟨p, 2 + k * 3 + 1, none⟩ (.int .i64 (-1))).setCell ⟨p, 2 + k * 3 + 2, none⟩ (.int .i64 (-1)) = w.setRow p (cellsC N (newS (k + 1))) := by
 rw [setCell_eq_setRow w p _ _ _ _ _ h.row, setCell_eq_setRow _ p _ _ _ _ _ (setRow_heap _ _ _ _ _ _ h.row), setRow_setRow, setCell_eq_setRow _ p _ _ _ _ _ (setRow_heap _ _ _ _ _ _ h.row), setRow_setRow]
 congr 1
 match k, hk with
 | 0, _ => rfl
 | 1, _ => rfl
 | 2, _ => rfl
 | 3, _ => rfl
theorem cores_some (p N : Nat) (w : World) (hp : w.cell? ⟨p, 0, none⟩ = some (.int .i64 N)) :
 Calls Tryz.prog 165 #[.pointer (some ⟨p, 0, none⟩)] w fun e w' => e = .returned (.int .i64 N) /\ w' = w := by
 go_enter Tryz.func165, Tryz.ntmps165
 go_wp2
 go_ret
 exact ⟨rfl, rfl⟩
theorem nothing_any (w : World) :
 Calls Tryz.prog 228 #[] w fun e w' => e = .returned (.agg #[.int .i64 0, .int .i64 (-1), .int .i64 (-1)]) /\ w' = w.alloc (.cells #[.int .i64 0, .int .i64 (-1), .int .i64 (-1)] 105) := by
 go_enter Tryz.func228, Tryz.ntmps228
 go_wp2
 refine bodyPost_ret (v := .agg #[.int .i64 0, .int .i64 (-1), .int .i64 (-1)]) (by simp [results, Tryz.results228, go_sem]) rfl ⟨rfl, rfl⟩
theorem core_ok (p N c : Nat) (w : World) (hc : c < N) (hN : N <= 4) (hp : w.cell? ⟨p, 0, none⟩ = some (.int .i64 N)) :
 Calls Tryz.prog 293 #[.pointer (some ⟨p, 0, none⟩), .int .i64 c] w fun e w' => e = .returned (.tuple #[.pointer (some ⟨p, 2 + c * 3, none⟩), .int .i64 0]) /\ w' = w := by
 have hci : (c : Int) < (N : Int) := by omega
 have hc4 : (c : Int) < 4 := by omega
 have h0 : ((N : Int) == 0) = false := by simp; omega
 go_enter Tryz.func293, Tryz.ntmps293
 go_wp2_with (go_at_call 165; refine (cores_some p N _ hp).mono ?_; rintro e w' ⟨rfl, rfl⟩)
 go_ret2
 exact ⟨rfl, rfl⟩
theorem core_bad (p N : Nat) (c : Int) (w : World) (hc : ¬ (0 <= c /\ c < N)) (hN1 : 1 <= N) (hN : N <= 4) (hp : w.cell? ⟨p, 0, none⟩ = some (.int .i64 N)) :
 Calls Tryz.prog 293 #[.pointer (some ⟨p, 0, none⟩), .int .i64 c] w fun e w' => e = .returned (.tuple #[.pointer none, .int .i64 1]) /\ w' = w := by
 have h0 : ((N : Int) == 0) = false := by simp; omega
 by_cases hn : c < 0
 · clear hc
   go_enter Tryz.func293, Tryz.ntmps293
   go_wp2_with (go_at_call 165; refine (cores_some p N _ hp).mono ?_; rintro e w' ⟨rfl, rfl⟩)
   go_ret2
   exact ⟨rfl, rfl⟩
 · have hge : (N : Int) <= c := by omega
   clear hc
   go_enter Tryz.func293, Tryz.ntmps293
   go_wp2_with (go_at_call 165; refine (cores_some p N _ hp).mono ?_; rintro e w' ⟨rfl, rfl⟩)
   go_ret2
   exact ⟨rfl, rfl⟩
theorem told_bad (p N : Nat) (c : Int) (w : World) (hc : ¬ (0 <= c /\ c < N)) (hN1 : 1 <= N) (hN : N <= 4) (hp : w.cell? ⟨p, 0, none⟩ = some (.int .i64 N)) (hlt : p < w.heap.size) :
 Calls Tryz.prog 284 #[.pointer (some ⟨p, 0, none⟩), .int .i64 c] w fun e w' => e = .returned (.agg #[.int .i64 0, .int .i64 (-1), .int .i64 (-1)]) /\ More w w' := by
 have HC : Hid (¬ (0 <= c /\ c < N)) := hc
 have HP : Hid (w.cell? ⟨p, 0, none⟩ = some (.int .i64 N)) := hp
 clear hc hp
 go_enter Tryz.func284, Tryz.ntmps284
 go_wp2_with (first
  | (go_at_call 293; refine (core_bad p N c _ HC.out hN1 hN ((((More.refl w).alloc _ _).cell hlt 0).trans HP.out)).mono ?_; rintro e w' ⟨rfl, rfl⟩)
  | (go_at_call 228; refine (nothing_any _).mono ?_; rintro e w' ⟨rfl, rfl⟩))
 refine bodyPost_ret (v := .agg #[.int .i64 0, .int .i64 (-1), .int .i64 (-1)]) (by simp [results, Tryz.results284, go_sem]) rfl ⟨rfl, ?_⟩
 repeat (first | exact More.refl _ | (refine More.setCell ?_ (by simp) _) | apply More.alloc)
theorem told_ok (p N c : Nat) (s : CS) (w : World) (hc : c < N) (hN : N <= 4) (h : ClockIs w p N s) :
 Calls Tryz.prog 284 #[.pointer (some ⟨p, 0, none⟩), .int .i64 c] w fun e w' => e = .returned (.agg #[.int .i64 (s.cy c), .int .i64 (s.en c), .int .i64 (s.fl c)]) /\ More w w' := by
 have hlt := h.lt
 have HP : Hid (w.cell? ⟨p, 0, none⟩ = some (.int .i64 N)) := h.cell
 obtain ⟨x, hx⟩ : ∃ x, x = s.cy c := ⟨_, rfl⟩
 obtain ⟨y, hy⟩ : ∃ x, x = s.en c := ⟨_, rfl⟩
 obtain ⟨z, hz⟩ : ∃ x, x = s.fl c := ⟨_, rfl⟩
 have M := (More.refl w).alloc #[.int .i64 0, .int .i64 0, .int .i64 0] 105
 have g1 := (M.cell hlt _).trans (h.cy (c := c) (by omega))
 have g2 := (M.cell hlt _).trans (h.en (c := c) (by omega))
 have g3 := (M.cell hlt _).trans (h.fl (c := c) (by omega))
 rw [<- hx] at g1 ⊢
 rw [<- hy] at g2 ⊢
 rw [<- hz] at g3 ⊢
 clear hx hy hz h M
 go_enter Tryz.func284, Tryz.ntmps284
 go_wp2_with (first
  | (go_at_call 293; refine (core_ok p N c _ hc hN ((((More.refl w).alloc _ _).cell hlt 0).trans HP.out)).mono ?_; rintro e w' ⟨rfl, rfl⟩))
 refine bodyPost_ret (v := .agg #[.int .i64 x, .int .i64 y, .int .i64 z]) (by simp [results, Tryz.results284, go_sem]) rfl ⟨rfl, ?_⟩
 repeat (first | exact More.refl _ | (refine More.setCell ?_ (by simp) _) | apply More.alloc)
theorem told_any (p N : Nat) (c : Int) (s : CS) (w : World) (hN1 : 1 <= N) (hN : N <= 4) (h : ClockIs w p N s) :
 Calls Tryz.prog 284 #[.pointer (some ⟨p, 0, none⟩), .int .i64 c] w fun e w' => e = .returned (.agg #[.int .i64 (cyS N s c), .int .i64 (enS N s c), .int .i64 (flS N s c)]) /\ More w w' := by
 cases hk : okF N c
 · simp only [cyS, enS, flS, hk, Bool.false_eq_true, if_false]
   exact told_bad p N c w (okF_no hk) hN1 hN h.cell h.lt
 · obtain ⟨f, rfl, hf⟩ := okF_split hk
   simp only [cyS, enS, flS, hk, if_true, Int.toNat_natCast]
   exact told_ok p N f s w hf hN h
theorem entered_any (p N : Nat) (c : Int) (s : CS) (w : World) (hN1 : 1 <= N) (hN : N <= 4) (h : ClockIs w p N s) :
 Calls Tryz.prog 268 #[.pointer (some ⟨p, 0, none⟩), .int .i64 c] w fun e w' => e = .returned (.int .i64 (enS N s c)) /\ More w w' := by
 have HT := told_any p N c s w hN1 hN h
 obtain ⟨x, hx⟩ : ∃ x, x = cyS N s c := ⟨_, rfl⟩
 obtain ⟨y, hy⟩ : ∃ x, x = enS N s c := ⟨_, rfl⟩
 obtain ⟨z, hz⟩ : ∃ x, x = flS N s c := ⟨_, rfl⟩
 rw [<- hx, <- hy, <- hz] at HT
 rw [<- hy]
 clear hx hy hz
 have hfd : ∀ (u v t : Int) (w : World), (Instr.field 105 (.agg #[.int .i64 u, .int .i64 v, .int .i64 t]) 1).run Tryz.prog w = .ok (.int .i64 v) w := fun _ _ _ _ => by kernel_rfl
 go_enter Tryz.func268, Tryz.ntmps268
 go_wp2_with (go_at_call 284; refine HT.mono ?_; rintro e w' ⟨rfl, hm⟩)
 go_ret
 exact ⟨rfl, hm⟩
theorem flushed_any (p N : Nat) (c : Int) (s : CS) (w : World) (hN1 : 1 <= N) (hN : N <= 4) (h : ClockIs w p N s) :
 Calls Tryz.prog 267 #[.pointer (some ⟨p, 0, none⟩), .int .i64 c] w fun e w' => e = .returned (.int .i64 (flS N s c)) /\ More w w' := by
 have HT := told_any p N c s w hN1 hN h
 obtain ⟨x, hx⟩ : ∃ x, x = cyS N s c := ⟨_, rfl⟩
 obtain ⟨y, hy⟩ : ∃ x, x = enS N s c := ⟨_, rfl⟩
 obtain ⟨z, hz⟩ : ∃ x, x = flS N s c := ⟨_, rfl⟩
 rw [<- hx, <- hy, <- hz] at HT
 rw [<- hz]
 clear hx hy hz
 have hfd : ∀ (u v t : Int) (w : World), (Instr.field 105 (.agg #[.int .i64 u, .int .i64 v, .int .i64 t]) 2).run Tryz.prog w = .ok (.int .i64 t) w := fun _ _ _ _ => by kernel_rfl
 go_enter Tryz.func267, Tryz.ntmps267
 go_wp2_with (go_at_call 284; refine HT.mono ?_; rintro e w' ⟨rfl, hm⟩)
 go_ret
 exact ⟨rfl, hm⟩
theorem lastE (x y z : Int) (w : World) :
 Calls Tryz.prog 143 #[.agg #[.int .i64 x, .int .i64 y, .int .i64 z]] w fun e w' => e = .returned (.int .i64 y) /\ More w w' := by
 go_enter Tryz.func143, Tryz.ntmps143
 go_wp2
 go_ret
 exact ⟨rfl, (More.refl _).alloc _ _⟩
theorem lastF (x y z : Int) (w : World) :
 Calls Tryz.prog 144 #[.agg #[.int .i64 x, .int .i64 y, .int .i64 z]] w fun e w' => e = .returned (.int .i64 z) /\ More w w' := by
 go_enter Tryz.func144, Tryz.ntmps144
 go_wp2
 go_ret
 exact ⟨rfl, (More.refl _).alloc _ _⟩
theorem ClockIs.at {w : World} {p N : Nat} {s : CS} (h : ClockIs w p N s) {c : Nat} (hc : c < 3) : w.cell? ⟨p, 5 + c * 3, none⟩ = some (.int .i64 (s.cy (c + 1))) /\ w.cell? ⟨p, 5 + c * 3 + 1, none⟩ = some (.int .i64 (s.en (c + 1))) /\ w.cell? ⟨p, 5 + c * 3 + 2, none⟩ = some (.int .i64 (s.fl (c + 1))) := by
 have e : 5 + c * 3 = 2 + (c + 1) * 3 := by omega
 rw [e]
 exact ⟨h.cy (by omega), h.en (by omega), h.fl (by omega)⟩
theorem least_en (p N : Nat) (s : CS) (w : World) (hN1 : 1 <= N) (hN : N <= 4) (h : ClockIs w p N s) :
 Calls Tryz.prog 142 #[.slice (some ⟨p, 2, none⟩) N 4, .func (.func 143) #[] #[]] w fun e w' => e = .returned (.int .i64 (leastN s.en (N - 1))) /\ More w w' := by
 have h0 : ((N : Int) == 0) = false := by simp; omega
 have h1 : (1 : Int) <= N := by omega
 have g1 := h.cy (c := 0) (by omega)
 have g2 := h.en (c := 0) (by omega)
 have g3 := h.fl (c := 0) (by omega)
 have HI : Hid (ClockIs w p N s) := h
 clear h
 go_enter Tryz.func142, Tryz.ntmps142
 go_wp2_with (go_at_call 143; refine (lastE _ _ _ _).mono ?_; rintro e w' ⟨rfl, hm⟩)
 have HM : Hid (More w w') := hm
 clear hm g1 g2 g3
 go_loopw [5, 19] (fun l i wr => ∃ k : Nat, k <= N - 1 /\ i = .int .i64 k /\ l = .int .i64 (leastN s.en k) /\ More w wr) (fun _ i _ => N - 1 - (intOf i).toNat)
 case atStart => exact ⟨0, by omega, rfl, rfl, HM.out⟩
 case round =>
  obtain ⟨k, hk, rfl, rfl, hM⟩ := hrel
  have HR : Hid (More w wr) := hM
  by_cases hlt : k < N - 1
  · have hki : (k : Int) < ((N - 1 : Nat) : Int) := by omega
    obtain ⟨g1, g2, g3⟩ := (HI.out.more hM).at (c := k) (by omega)
    obtain ⟨x, hx⟩ : ∃ x, x = s.cy (k + 1) := ⟨_, rfl⟩
    obtain ⟨y, hy⟩ : ∃ x, x = s.en (k + 1) := ⟨_, rfl⟩
    obtain ⟨z, hz⟩ : ∃ x, x = s.fl (k + 1) := ⟨_, rfl⟩
    have HV : Hid (y = s.en (k + 1)) := hy
    rw [<- hx] at g1
    rw [<- hy] at g2
    rw [<- hz] at g3
    clear hx hy hz hM HM
    obtain ⟨m, hm⟩ : ∃ m, m = leastN s.en k := ⟨_, rfl⟩
    have HL : Hid (m = leastN s.en k) := hm
    rw [<- hm]
    clear hm
    go_wp2_with (go_at_call 143; refine (lastE _ _ _ _).mono ?_; rintro e w2 ⟨rfl, hm2⟩)
    have HM2 : Hid (More w w2) := (HR.out.alloc _ _).trans hm2
    clear hm2
    go_roundw
    case rel => exact ⟨k + 1, by omega, by go_num, by simp [leastN, HL.out, HV.out], HM2.out⟩
    case measure => simp [intOf]; omega
  · obtain rfl : k = N - 1 := by omega
    clear hM HM
    go_wp2
    go_ret
    exact ⟨rfl, HR.out⟩
theorem least_fl (p N : Nat) (s : CS) (w : World) (hN1 : 1 <= N) (hN : N <= 4) (h : ClockIs w p N s) :
 Calls Tryz.prog 142 #[.slice (some ⟨p, 2, none⟩) N 4, .func (.func 144) #[] #[]] w fun e w' => e = .returned (.int .i64 (leastN s.fl (N - 1))) /\ More w w' := by
 have h0 : ((N : Int) == 0) = false := by simp; omega
 have h1 : (1 : Int) <= N := by omega
 have g1 := h.cy (c := 0) (by omega)
 have g2 := h.en (c := 0) (by omega)
 have g3 := h.fl (c := 0) (by omega)
 have HI : Hid (ClockIs w p N s) := h
 clear h
 go_enter Tryz.func142, Tryz.ntmps142
 go_wp2_with (go_at_call 144; refine (lastF _ _ _ _).mono ?_; rintro e w' ⟨rfl, hm⟩)
 have HM : Hid (More w w') := hm
 clear hm g1 g2 g3
 go_loopw [5, 19] (fun l i wr => ∃ k : Nat, k <= N - 1 /\ i = .int .i64 k /\ l = .int .i64 (leastN s.fl k) /\ More w wr) (fun _ i _ => N - 1 - (intOf i).toNat)
 case atStart => exact ⟨0, by omega, rfl, rfl, HM.out⟩
 case round =>
  obtain ⟨k, hk, rfl, rfl, hM⟩ := hrel
  have HR : Hid (More w wr) := hM
  by_cases hlt : k < N - 1
  · have hki : (k : Int) < ((N - 1 : Nat) : Int) := by omega
    obtain ⟨g1, g2, g3⟩ := (HI.out.more hM).at (c := k) (by omega)
    obtain ⟨x, hx⟩ : ∃ x, x = s.cy (k + 1) := ⟨_, rfl⟩
    obtain ⟨y, hy⟩ : ∃ x, x = s.en (k + 1) := ⟨_, rfl⟩
    obtain ⟨z, hz⟩ : ∃ x, x = s.fl (k + 1) := ⟨_, rfl⟩
    have HV : Hid (z = s.fl (k + 1)) := hz
    rw [<- hx] at g1
    rw [<- hy] at g2
    rw [<- hz] at g3
    clear hx hy hz hM HM
    obtain ⟨m, hm⟩ : ∃ m, m = leastN s.fl k := ⟨_, rfl⟩
    have HL : Hid (m = leastN s.fl k) := hm
    rw [<- hm]
    clear hm
    go_wp2_with (go_at_call 144; refine (lastF _ _ _ _).mono ?_; rintro e w2 ⟨rfl, hm2⟩)
    have HM2 : Hid (More w w2) := (HR.out.alloc _ _).trans hm2
    clear hm2
    go_roundw
    case rel => exact ⟨k + 1, by omega, by go_num, by simp [leastN, HL.out, HV.out], HM2.out⟩
    case measure => simp [intOf]; omega
  · obtain rfl : k = N - 1 := by omega
    clear hM HM
    go_wp2
    go_ret
    exact ⟨rfl, HR.out⟩
theorem floor_any (p N : Nat) (s : CS) (w : World) (hN1 : 1 <= N) (hN : N <= 4) (h : ClockIs w p N s) :
 Calls Tryz.prog 85 #[.pointer (some ⟨p, 0, none⟩)] w fun e w' => e = .returned (.tuple #[.int .i64 (floE N s), .int .i64 (floF N s)]) /\ More w w' := by
 have hp := h.cell
 have h1 : (1 : Int) <= N := by omega
 have h4 : (N : Int) <= 4 := by omega
 have HI : Hid (ClockIs w p N s) := h
 clear h
 obtain ⟨x, hx⟩ : ∃ x, x = floE N s := ⟨_, rfl⟩
 obtain ⟨y, hy⟩ : ∃ x, x = floF N s := ⟨_, rfl⟩
 rw [<- hx, <- hy]
 have HX : Hid (floE N s = x) := hx.symm
 have HY : Hid (floF N s = y) := hy.symm
 clear hx hy
 go_enter Tryz.func85, Tryz.ntmps85
 go_wp2
 go_region
 have HD : Hid (ClockIs w.drew p N s) := HI.out.on rfl
 go_wp2_with (first
  | (go_at_call 142; refine (least_en p N s _ hN1 hN HD.out).mono ?_; rintro e w1 ⟨rfl, hm1⟩; have HM1 : Hid (More w w1) := ((More.refl w).drew).trans hm1; clear hm1 HD)
  | (go_at_call 142; refine (least_fl p N s _ hN1 hN (HI.out.more HM1.out)).mono ?_; rintro e w2 ⟨rfl, hm2⟩))
 go_ret2
 exact ⟨by rw [<- HX.out, <- HY.out]; rfl, HM1.out.trans hm2⟩
theorem new_ok (N : Nat) (w : World) (hN1 : 1 <= N) (hN : N <= 4) :
 Calls Tryz.prog 149 #[.int .i64 N] w fun e w' => e = .returned (.tuple #[.pointer (some ⟨w.heap.size, 0, none⟩), .int .i64 0]) /\ ClockIs w' w.heap.size N (newS N) /\ Below w.heap.size w w' := by
 have h1 : (1 : Int) <= N := by omega
 have h2 : (N : Int) <= 4 := by omega
 go_enter Tryz.func149, Tryz.ntmps149
 go_wp2
 go_loopw [16] (fun i wr => ∃ k : Nat, k <= N /\ i = .int .i64 k /\ ClockIs wr w.heap.size N (newS k) /\ Below w.heap.size w wr) (fun i _ => N - (intOf i).toNat)
 case atStart => exact ⟨0, by omega, rfl, ⟨heap_alloc_new _ _, newS_ok 0⟩, (Below.refl _ _).alloc (Nat.le_refl _) _⟩
 case round =>
  obtain ⟨k, hk, rfl, hI, hB⟩ := hrel
  have HI : Hid (ClockIs wr w.heap.size N (newS k)) := hI
  have HB : Hid (Below w.heap.size w wr) := hB
  clear hI hB
  by_cases hlt : k < N
  · have hki : (k : Int) < (N : Int) := by omega
    have hk4 : (k : Int) < 4 := by omega
    go_wp2
    go_region_with (go_at_call 228; (refine (nothing_any _).mono ?_; rintro e w1 ⟨rfl, hw1⟩; have HM : Hid (More wr w1) := (by rw [hw1]; exact ((More.refl wr).drew).alloc _ _); have HD : Hid (ClockIs w1 w.heap.size N (newS k)) := HI.out.more HM.out; clear hw1; have c1 := HD.out.cy (c := k) (by omega); have c2 := HD.out.en (c := k) (by omega); have c3 := HD.out.fl (c := k) (by omega); have z1 := HD.out.free (2 + k * 3); have z2 := HD.out.free (2 + k * 3 + 1); have z3 := HD.out.free (2 + k * 3 + 2)))
    have HS : Hid (ClockIs (w1.setRow w.heap.size (cellsC N (newS (k + 1)))) w.heap.size N (newS (k + 1))) := HD.out.set _ (newS_ok _)
    have HB1 : Hid (Below w.heap.size w (w1.setRow w.heap.size (cellsC N (newS (k + 1))))) := below_setRow (HB.out.trans (HM.out.below.mono HB.out.size)) (Nat.le_refl _) _
    rw [HD.out.lay (by omega)]
    clear c1 c2 c3 z1 z2 z3
    go_wp2
    go_roundw
    case rel => exact ⟨k + 1, by omega, by go_num, HS.out, HB1.out⟩
    case measure => simp [intOf]; omega
  · obtain rfl : k = N := by omega
    go_wp2
    go_ret2
    exact ⟨rfl, HI.out, HB.out⟩
end Pclock
namespace Pquiet
open Pbase Pclock Go.RowKit
def seenC (N : Nat) (s : CS) (was t c : Int) : Bool :=
 if was = 0 then true
 else if was = 3 then decide (t < flS N s c) && decide (t < enS N s c)
 else if was = 2 then decide (t < enS N s c)
 else if was = 1 then decide (t < flS N s c)
 else false
def leftU (f : Nat -> Bool) : Nat -> List Nat
 | 0 => []
 | n + 1 => if f n = true then leftU f n else leftU f n ++ [n]
theorem leftU_yes {f : Nat -> Bool} {n : Nat} (h : f n = true) : leftU f (n + 1) = leftU f n := by simp [leftU, h]
theorem leftU_no {f : Nat -> Bool} {n : Nat} (h : f n = false) : leftU f (n + 1) = leftU f n ++ [n] := by simp [leftU, h]
theorem mem_leftU {f : Nat -> Bool} {i : Nat} : ∀ n : Nat, i ∈ leftU f n ↔ i < n /\ f i = false
 | 0 => by simp [leftU]
 | n + 1 => by
   have ih := mem_leftU (f := f) (i := i) n
   cases h : f n
   · rw [leftU_no h, List.mem_append, ih, List.mem_singleton]
     constructor
     · rintro (⟨h1, h2⟩ | rfl)
       · exact ⟨by omega, h2⟩
       · exact ⟨by omega, h⟩
     · rintro ⟨h1, h2⟩
       by_cases e : i = n
       · exact .inr e
       · exact .inl ⟨by omega, h2⟩
   · rw [leftU_yes h, ih]
     constructor
     · rintro ⟨h1, h2⟩; exact ⟨by omega, h2⟩
     · rintro ⟨h1, h2⟩
       by_cases e : i = n
       · subst e; rw [h] at h2; cases h2
       · exact ⟨by omega, h2⟩
theorem len_leftU (f : Nat -> Bool) : ∀ n : Nat, (leftU f n).length <= n
 | 0 => Nat.le_refl _
 | n + 1 => by
   have ih := len_leftU f n
   cases h : f n
   · rw [leftU_no h, List.length_append, List.length_singleton]; omega
   · rw [leftU_yes h]; omega
theorem leftU_nil {f : Nat -> Bool} {n : Nat} : (leftU f n).length = 0 ↔ ∀ i, i < n -> f i = true := by
 rw [List.length_eq_zero_iff]
 constructor
 · intro h i hi
   cases e : f i
   · have : i ∈ leftU f n := (mem_leftU n).2 ⟨hi, e⟩
     rw [h] at this; cases this
   · rfl
 · intro h
   cases e : leftU f n with
   | nil => rfl
   | cons a l =>
     have : a ∈ leftU f n := by rw [e]; simp
     have := (mem_leftU n).1 this
     rw [h a this.1] at this
     simp at this
def leftL (N : Nat) (s : CS) (was t : Int) : List Nat := leftU (fun i => seenC N s was t i) N
def quF (N : Nat) (s : CS) (was t : Int) : Bool := ((leftL N s was t).length : Int) == 0
theorem quF_iff {N : Nat} {s : CS} {was t : Int} : quF N s was t = true ↔ ∀ i, i < N -> seenC N s was t (i : Nat) = true := by
 unfold quF leftL
 rw [beq_iff_eq, Int.natCast_eq_zero, leftU_nil]
theorem quF_zero (N : Nat) (s : CS) (t : Int) : quF N s 0 t = true := quF_iff.2 fun i _ => by simp [seenC]
theorem quF_none {N : Nat} {s : CS} {was t : Int} (hN : 1 <= N) (h : was < 0 \/ 3 < was) : quF N s was t = false := by
 cases e : quF N s was t
 · rfl
 · have := quF_iff.1 e 0 (by omega)
   simp [seenC, show ¬ was = 0 by omega, show ¬ was = 3 by omega, show ¬ was = 2 by omega, show ¬ was = 1 by omega] at this
theorem enS_at {N : Nat} {s : CS} {c : Nat} (h : c < N) : enS N s c = s.en c := by simp [enS, okF_nat h]
theorem flS_at {N : Nat} {s : CS} {c : Nat} (h : c < N) : flS N s c = s.fl c := by simp [flS, okF_nat h]
theorem lt_least {g : Nat -> Int} {N : Nat} {t : Int} (hN : 1 <= N) : t < leastN g (N - 1) ↔ ∀ i, i < N -> t < g i := by
 constructor
 · intro h i hi
   have := leastN_le g (N - 1) i (by omega)
   omega
 · intro h
   obtain ⟨i, hi, e⟩ := leastN_ex g (N - 1)
   rw [e]
   exact h i (by omega)
theorem quF_kernel {N : Nat} (s : CS) (t : Int) (hN : 1 <= N) : quF N s 2 t = decide (t < floE N s) := by
 rw [Bool.eq_iff_iff, quF_iff, decide_eq_true_iff]
 unfold floE
 rw [lt_least hN]
 constructor
 · intro h i hi
   have := h i hi
   rw [<- enS_at hi]
   simpa [seenC] using this
 · intro h i hi
   have := h i hi
   rw [<- enS_at hi] at this
   simpa [seenC] using this
theorem quF_user {N : Nat} (s : CS) (t : Int) (hN : 1 <= N) : quF N s 1 t = decide (t < floF N s) := by
 rw [Bool.eq_iff_iff, quF_iff, decide_eq_true_iff]
 unfold floF
 rw [lt_least hN]
 constructor
 · intro h i hi
   have := h i hi
   rw [<- flS_at hi]
   simpa [seenC] using this
 · intro h i hi
   have := h i hi
   rw [<- flS_at hi] at this
   simpa [seenC] using this
theorem quF_both (N : Nat) (s : CS) (t : Int) : quF N s 3 t = (quF N s 1 t && quF N s 2 t) := by
 rw [Bool.eq_iff_iff, Bool.and_eq_true, quF_iff, quF_iff, quF_iff]
 constructor
 · intro h
   refine ⟨fun i hi => ?_, fun i hi => ?_⟩
   · have := h i hi
     simp [seenC] at this ⊢
     exact this.1
   · have := h i hi
     simp [seenC] at this ⊢
     exact this.2
 · rintro ⟨h1, h2⟩ i hi
   have a := h1 i hi
   have b := h2 i hi
   simp [seenC] at a b ⊢
   exact ⟨a, b⟩
def vals (l : List Nat) : List Value := l.map fun i : Nat => Value.int .i64 (i : Int)
def Got (w : World) (base : Nat) (v : Value) (l : List Nat) : Prop :=
 ∃ a cap, v = .slice a l.length cap /\ (l.length = 0 \/ ∃ g, a = some ⟨g, 0, none⟩ /\ base <= g /\ g < w.heap.size /\ ∀ j, j < l.length -> w.cell? ⟨g, j, none⟩ = some (.int .i64 ((l.getD j 0 : Nat) : Int)))
theorem got_of_own {w : World} {base : Nat} {e : TypeId} {v : Value} {l : List Nat} (h : w.ownsRow base e 1 v l.length (vals l)) : Got w base v l := by
 have hcell := fun g (hg : v.ownBlock = some g) => h.cells hg
 rcases h.2 with ⟨rfl, e0⟩ | ⟨g, cap, cur, rfl, hg, hh, r⟩
 · exact ⟨none, 0, by rw [e0], .inl e0⟩
 · refine ⟨some ⟨g, 0, none⟩, cap, rfl, .inr ⟨g, rfl, hg, (Array.getElem?_eq_some_iff.1 hh).1, fun j hj => ?_⟩⟩
   have := hcell g rfl j (.int .i64 ((l.getD j 0 : Nat) : Int)) (by simp [vals, List.getElem?_eq_getElem hj])
   rwa [Addr.add_lit, Nat.zero_add] at this
theorem Got.mono {w : World} {base base' : Nat} {v : Value} {l : List Nat} (h : Got w base v l) (hle : base' <= base) : Got w base' v l := by
 obtain ⟨a, cap, e, h⟩ := h
 refine ⟨a, cap, e, or_right h ?_⟩
 rintro ⟨g, e, hg, hl, hc⟩
 exact ⟨g, e, by omega, hl, hc⟩
theorem own_ge' {w : World} {base : Nat} {e : TypeId} {v : Value} {n : Nat} {xs : List Value} (h : w.ownsRow base e 1 v n xs) : ∀ k, v.ownBlock = some k -> base <= k := fun k hk => (h.lt k hk).1
theorem row_on {w w' : World} {base : Nat} {e : TypeId} {size : Nat} {v : Value} {n : Nat} {xs : List Value} (h : w.ownsRow base e size v n xs) (hk : ∀ k, base <= k -> k < w.heap.size -> w'.heap[k]? = w.heap[k]?) : w'.ownsRow base e size v n xs := by
 refine ⟨h.1, or_right h.2 ?_⟩
 rintro ⟨g, cap, cur, hv, hg, hh, r⟩
 exact ⟨g, cap, cur, hv, hg, by rw [hk g hg (Array.getElem?_eq_some_iff.1 hh).1]; exact hh, r⟩
theorem row_below {w w' : World} {base B : Nat} {e : TypeId} {size : Nat} {v : Value} {n : Nat} {xs : List Value} (h : w.ownsRow base e size v n xs) (hB : Below B w w') (hle : w.heap.size <= B) : w'.ownsRow base e size v n xs :=
 row_on h fun k _ hk => hB.block k (by omega)
theorem vals_snoc (l : List Nat) (n : Nat) : vals (l ++ [n]) = vals l ++ [.int .i64 (n : Int)] := by simp [vals]
theorem below_drewN (B : Nat) (w : World) (n : Nat) : Below B w (w.drewN n) := ⟨rfl, rfl, rfl, Nat.le_refl _, fun _ _ => rfl⟩
theorem one_cell (w : World) (v : Value) (t : TypeId) : ∀ j u, ([v] : List Value)[j]? = some u -> (w.alloc (.cells #[v] t)).cell? ((⟨w.heap.size, 0, none⟩ : Addr).add j) = some u := by
 intro j u hj
 match j, hj with
 | 0, hj => simp at hj; subst hj; simp [Addr.add]
theorem seen_any (p : Nat) (was t : Int) (w : World) :
 Calls Tryz.prog 229 #[.pointer (some ⟨p, 0, none⟩), .int .i64 was, .int .i64 t] w fun e w' => e = .returned (.func (.func 266) #[] #[.pointer (some ⟨w.heap.size + 1, 0, none⟩), .pointer (some ⟨w.heap.size, 0, none⟩), .pointer (some ⟨w.heap.size + 2, 0, none⟩)]) /\ w' = ((w.alloc (.cells #[.pointer (some ⟨p, 0, none⟩)] 23)).alloc (.cells #[.int .i64 was] 3)).alloc (.cells #[.int .i64 t] 3) := by
 go_enter Tryz.func229, Tryz.ntmps229
 go_wp2
 go_ret
 exact ⟨rfl, rfl⟩
structure Box (w : World) (B : Nat) (p : Nat) (was t : Int) : Prop where
 c : w.cell? ⟨B, 0, none⟩ = some (.pointer (some ⟨p, 0, none⟩))
 was : w.cell? ⟨B + 1, 0, none⟩ = some (.int .i64 was)
 time : w.cell? ⟨B + 2, 0, none⟩ = some (.int .i64 t)
theorem Box.lt {w : World} {B p : Nat} {was t : Int} (h : Box w B p was t) : B + 2 < w.heap.size := World.block_lt_of_cell? w _ h.time
theorem Box.below {w w' : World} {B p A : Nat} {was t : Int} (h : Box w B p was t) (hB : Below A w w') (hA : B + 2 < A) : Box w' B p was t :=
 ⟨(hB.cell (p := ⟨B, 0, none⟩) (by show B < A; omega)).trans h.c, (hB.cell (p := ⟨B + 1, 0, none⟩) (by show B + 1 < A; omega)).trans h.was, (hB.cell (p := ⟨B + 2, 0, none⟩) hA).trans h.time⟩
theorem seen1_any (B p N c : Nat) (s : CS) (was t : Int) (w : World) (hN1 : 1 <= N) (hN : N <= 4) (h : ClockIs w p N s) (hb : Box w B p was t) :
 Calls Tryz.prog 266 #[.int .i64 c, .pointer (some ⟨B + 1, 0, none⟩), .pointer (some ⟨B, 0, none⟩), .pointer (some ⟨B + 2, 0, none⟩)] w fun e w' => e = .returned (.bool (seenC N s was t c)) /\ Below w.heap.size w w' := by
 have x1 := hb.c
 have x2 := hb.was
 have x3 := hb.time
 have HI : Hid (ClockIs w p N s) := h
 have HB : Hid (Box w B p was t) := hb
 have HF : Hid (∀ w1 : World, More w w1 -> Calls Tryz.prog 267 #[.pointer (some ⟨p, 0, none⟩), .int .i64 c] w1 fun e w' => e = .returned (.int .i64 (flS N s c)) /\ More w1 w') := fun w1 m => flushed_any p N c s w1 hN1 hN (HI.out.more m)
 have HE : Hid (∀ w1 : World, More w w1 -> Calls Tryz.prog 268 #[.pointer (some ⟨p, 0, none⟩), .int .i64 c] w1 fun e w' => e = .returned (.int .i64 (enS N s c)) /\ More w1 w') := fun w1 m => entered_any p N c s w1 hN1 hN (HI.out.more m)
 clear h hb
 obtain ⟨y, hy⟩ : ∃ y, y = flS N s c := ⟨_, rfl⟩
 obtain ⟨z, hz⟩ : ∃ z, z = enS N s c := ⟨_, rfl⟩
 unfold seenC
 rw [<- hy] at HF ⊢
 rw [<- hz] at HE ⊢
 clear hy hz HI
 by_cases h0 : was = 0
 · subst h0
   simp only [if_true]
   go_enter Tryz.func266, Tryz.ntmps266
   go_wp2
   go_ret
   exact ⟨rfl, Below.refl _ _⟩
 have b0 : (was == 0) = false := by simp [h0]
 by_cases h3 : was = 3
 · subst h3
   simp only [if_true, if_false, h0]
   by_cases hy : y <= t
   · have hy' : ¬ t < y := by omega
     simp only [hy', decide_false, Bool.false_and]
     clear hy'
     go_enter Tryz.func266, Tryz.ntmps266
     go_wp2
     go_region_held3 (fun w' => w'.cell? ⟨B, 0, none⟩ = some (.pointer (some ⟨p, 0, none⟩)) /\ w'.cell? ⟨B + 2, 0, none⟩ = some (.int .i64 t)) (first | exact ⟨by assumption, by assumption⟩ | go_keep)
     (first
       | (go_at_call 267; refine (HF.out _ (More.refl _).drew).mono ?_; rintro e w1 ⟨rfl, hm⟩; have HM : Hid (More w w1) := (More.refl w).drew.trans hm; clear hm x1 x2 x3; have x1 := (HB.out.below HM.out.below HB.out.lt).c; have x3 := (HB.out.below HM.out.below HB.out.lt).time)
       | fail)
     go_wp2
     go_ret
     exact ⟨rfl, HM.out.below⟩
   · have hy' : t < y := by omega
     simp only [hy', decide_true, Bool.true_and]
     clear hy'
     go_enter Tryz.func266, Tryz.ntmps266
     go_wp2
     go_region_held3 (fun w' => w'.cell? ⟨B, 0, none⟩ = some (.pointer (some ⟨p, 0, none⟩)) /\ w'.cell? ⟨B + 2, 0, none⟩ = some (.int .i64 t)) (first | exact ⟨by assumption, by assumption⟩ | go_keep)
     (first
       | (go_at_call 267; refine (HF.out _ (More.refl _).drew).mono ?_; rintro e w1 ⟨rfl, hm⟩; have HM : Hid (More w w1) := (More.refl w).drew.trans hm; clear hm x1 x2 x3; have x1 := (HB.out.below HM.out.below HB.out.lt).c; have x3 := (HB.out.below HM.out.below HB.out.lt).time)
       | fail)
     go_wp2
     go_region_held3 (fun w' => w'.cell? ⟨B, 0, none⟩ = some (.pointer (some ⟨p, 0, none⟩)) /\ w'.cell? ⟨B + 2, 0, none⟩ = some (.int .i64 t)) (first | exact ⟨by assumption, by assumption⟩ | go_keep)
     (first
       | (go_at_call 268; refine (HE.out _ HM.out.drew).mono ?_; rintro e w2 ⟨rfl, hm⟩; have HM2 : Hid (More w w2) := HM.out.drew.trans hm; clear hm x1 x3; have x1 := (HB.out.below HM2.out.below HB.out.lt).c; have x3 := (HB.out.below HM2.out.below HB.out.lt).time)
       | fail)
     go_wp2
     go_ret
     exact ⟨rfl, HM2.out.below⟩
 have b3 : (was == 3) = false := by simp [h3]
 by_cases h2 : was = 2
 · subst h2
   simp only [if_true, if_false, h0, h3]
   go_enter Tryz.func266, Tryz.ntmps266
   go_wp2
   go_region_held3 (fun w' => w'.cell? ⟨B, 0, none⟩ = some (.pointer (some ⟨p, 0, none⟩)) /\ w'.cell? ⟨B + 2, 0, none⟩ = some (.int .i64 t)) (first | exact ⟨by assumption, by assumption⟩ | go_keep)
   (first
     | (go_at_call 268; refine (HE.out _ (More.refl _).drew).mono ?_; rintro e w2 ⟨rfl, hm⟩; have HM2 : Hid (More w w2) := (More.refl w).drew.trans hm; clear hm x1 x2 x3; have x1 := (HB.out.below HM2.out.below HB.out.lt).c; have x3 := (HB.out.below HM2.out.below HB.out.lt).time)
     | fail)
   go_wp2
   go_ret
   exact ⟨rfl, HM2.out.below⟩
 have b2 : (was == 2) = false := by simp [h2]
 by_cases h1 : was = 1
 · subst h1
   simp only [if_true, if_false, h0, h3, h2]
   go_enter Tryz.func266, Tryz.ntmps266
   go_wp2
   go_region_held3 (fun w' => w'.cell? ⟨B, 0, none⟩ = some (.pointer (some ⟨p, 0, none⟩)) /\ w'.cell? ⟨B + 2, 0, none⟩ = some (.int .i64 t)) (first | exact ⟨by assumption, by assumption⟩ | go_keep)
   (first
     | (go_at_call 267; refine (HF.out _ (More.refl _).drew).mono ?_; rintro e w2 ⟨rfl, hm⟩; have HM2 : Hid (More w w2) := (More.refl w).drew.trans hm; clear hm x1 x2 x3; have x1 := (HB.out.below HM2.out.below HB.out.lt).c; have x3 := (HB.out.below HM2.out.below HB.out.lt).time)
     | fail)
   go_wp2
   go_ret
   exact ⟨rfl, HM2.out.below⟩
 have b1 : (was == 1) = false := by simp [h1]
 simp only [if_false, h0, h3, h2, h1]
 go_enter Tryz.func266, Tryz.ntmps266
 go_wp2
 go_ret
 exact ⟨rfl, Below.refl _ _⟩
theorem box_new (p : Nat) (was t : Int) (w : World) : Box (((w.alloc (.cells #[.pointer (some ⟨p, 0, none⟩)] 23)).alloc (.cells #[.int .i64 was] 3)).alloc (.cells #[.int .i64 t] 3)) w.heap.size p was t /\ Below w.heap.size w (((w.alloc (.cells #[.pointer (some ⟨p, 0, none⟩)] 23)).alloc (.cells #[.int .i64 was] 3)).alloc (.cells #[.int .i64 t] 3)) := by
 obtain ⟨wa, ha⟩ : ∃ x, x = w.alloc (.cells #[.pointer (some ⟨p, 0, none⟩)] 23) := ⟨_, rfl⟩
 obtain ⟨wb, hb⟩ : ∃ x, x = wa.alloc (.cells #[.int .i64 was] 3) := ⟨_, rfl⟩
 have sa : wa.heap.size = w.heap.size + 1 := by rw [ha]; simp
 have sb : wb.heap.size = w.heap.size + 2 := by rw [hb]; simp [sa]
 have r1 : wa.heap[w.heap.size]? = some (.cells #[.pointer (some ⟨p, 0, none⟩)] 23 (0, 0)) := by rw [ha]; exact heap_alloc_new _ _
 have r2 : wb.heap[w.heap.size + 1]? = some (.cells #[.int .i64 was] 3 (0, 0)) := by rw [hb, <- sa]; exact heap_alloc_new _ _
 have r3 : (wb.alloc (.cells #[.int .i64 t] 3)).heap[w.heap.size + 2]? = some (.cells #[.int .i64 t] 3 (0, 0)) := by rw [<- sb]; exact heap_alloc_new _ _
 rw [<- ha, <- hb]
 refine ⟨⟨?_, ?_, ?_⟩, ?_⟩
 · rw [cell_of_row _ _ 0 _ _ _ ((Below.heap_alloc wb _ _ (by omega)).trans ((congrArg (fun x : World => x.heap[w.heap.size]?) hb).trans ((Below.heap_alloc wa _ _ (by omega)).trans r1)))]; rfl
 · rw [cell_of_row _ _ 0 _ _ _ ((Below.heap_alloc wb _ _ (by omega)).trans r2)]; rfl
 · rw [cell_of_row _ _ 0 _ _ _ r3]; rfl
 · rw [hb, ha]
   exact (((Below.refl _ w).alloc (Nat.le_refl _) _).alloc (by simp) _).alloc (by simp; omega) _
theorem infoI : (Tryz.prog.info? 3).map (fun i => (i.zero, i.size, i.bytes)) = some (some (.int .i64 0), 1, 8) := by kernel_rfl
theorem left_any (p N : Nat) (s : CS) (was t : Int) (w : World) (hN1 : 1 <= N) (hN : N <= 4) (h : ClockIs w p N s) :
 Calls Tryz.prog 166 #[.pointer (some ⟨p, 0, none⟩), .int .i64 was, .int .i64 t] w fun e w' => (∃ v, e = .returned v /\ Got w' w.heap.size v (leftL N s was t)) /\ Below w.heap.size w w' := by
 obtain ⟨it, hi, hz0, hz1, hz2⟩ := info_parts infoI
 have x1 := h.cell
 have HI : Hid (ClockIs w p N s) := h
 clear h
 unfold leftL
 obtain ⟨f, hf⟩ : ∃ f : Nat -> Bool, f = fun (i : Nat) => seenC N s was t (i : Int) := ⟨_, rfl⟩
 rw [<- hf]
 have HF : Hid (∀ i : Nat, seenC N s was t i = f i) := fun i => by rw [hf]
 clear hf
 go_enter Tryz.func166, Tryz.ntmps166
 go_wp2_with (first
  | (go_at_call 229; refine (seen_any p was t _).mono ?_; rintro e w1 ⟨rfl, hw1⟩; have HB1 : Hid (Box w1 w.heap.size p was t /\ Below w.heap.size w w1) := (by rw [hw1]; exact box_new p was t w); clear hw1; have x1 := (HI.out.below HB1.out.2 HI.out.lt).cell)
  | (go_at_call 165; refine (cores_some p N _ x1).mono ?_; rintro e w2 ⟨rfl, hw2⟩; subst w2)
  | fail)
 clear x1
 go_loopw [7, 16] (fun l i wr => ∃ k : Nat, k <= N /\ i = .int .i64 k /\ wr.ownsRow (w.heap.size + 3) 3 1 l (leftU f k).length (vals (leftU f k)) /\ Box wr w.heap.size p was t /\ Below w.heap.size w wr) (fun _ i _ => N - (intOf i).toNat)
 case atStart => exact ⟨0, by omega, rfl, World.ownsRow_nil _ _ _ _, HB1.out⟩
 case round =>
  obtain ⟨k, hk, rfl, hO, hX, hB⟩ := hrel
  have HO : Hid (wr.ownsRow (w.heap.size + 3) 3 1 u7 (leftU f k).length (vals (leftU f k))) := hO
  have HX : Hid (Box wr w.heap.size p was t) := hX
  have HB : Hid (Below w.heap.size w wr) := hB
  clear hO hX hB HB1
  by_cases hlt : k < N
  · have hki : (k : Int) < (N : Int) := by omega
    have C1 := seen1_any w.heap.size p N k s was t wr hN1 hN (HI.out.below HB.out HI.out.lt) HX.out
    rw [HF.out k] at C1
    have HC1 : Hid (Calls Tryz.prog 266 #[.int .i64 k, .pointer (some ⟨w.heap.size + 1, 0, none⟩), .pointer (some ⟨w.heap.size, 0, none⟩), .pointer (some ⟨w.heap.size + 2, 0, none⟩)] wr fun e w' => e = .returned (.bool (f k)) /\ Below wr.heap.size wr w') := C1
    clear C1
    have hl := len_leftU f k
    have hxs := HX.out.lt
    cases hb : f k
    · rw [hb] at HC1
      go_wp2_with (first
       | (go_at_call 266; refine HC1.out.mono ?_; rintro e w2 ⟨rfl, hw2⟩; have H2 : Hid (Below wr.heap.size wr w2) := hw2; clear hw2; have O2 : Hid (w2.ownsRow (w.heap.size + 3) 3 1 u7 (leftU f k).length (vals (leftU f k))) := row_below HO.out H2.out (Nat.le_refl _); have hs2 : w.heap.size + 3 <= w2.heap.size := Nat.le_trans hxs H2.out.size)
       | (at_builtin; refine wpList_append_own_at _ rfl _ _ 147 rfl (w.heap.size + 3) 3 it (.int .i64 0) 1 8 Tryz.underlying147 hi hz0 hz1 hz2 rfl (by decide) _ _ _ rfl (O2.out.alloc _) _ 1 1 [.int .i64 (k : Int)] rfl rfl (one_cell w2 _ _) (by simp [Value.oneCell']) (by unfold maxLen; omega) (by omega) (by simp; omega) ?_; intro v1 w3 hown hgrow _ hat; have HO3 : Hid (w3.ownsRow (w.heap.size + 3) 3 1 v1 (leftU f (k + 1)).length (vals (leftU f (k + 1)))) := (by rw [leftU_no hb, vals_snoc, List.length_append, List.length_singleton]; exact hown); have H3 : Hid (Below (w.heap.size + 3) wr w3) := ((H2.out.mono (by omega)).alloc (by omega) _).grown hgrow (by simp; omega) (own_ge' O2.out); clear hown hgrow hat)
       | fail)
      go_roundw
      case rel => exact ⟨k + 1, by omega, by go_num, HO3.out, HX.out.below H3.out (by omega), HB.out.trans (H3.out.mono (by omega))⟩
      case measure => simp [intOf]; omega
    · rw [hb] at HC1
      go_wp2_with (first
       | (go_at_call 266; refine HC1.out.mono ?_; rintro e w2 ⟨rfl, hw2⟩; have H2 : Hid (Below wr.heap.size wr w2) := hw2; clear hw2)
       | fail)
      go_roundw
      case rel =>
       refine ⟨k + 1, by omega, by go_num, ?_, HX.out.below H2.out hxs, HB.out.trans (H2.out.mono HB.out.size)⟩
       rw [leftU_yes hb]
       exact row_below HO.out H2.out (Nat.le_refl _)
      case measure => simp [intOf]; omega
  · obtain rfl : k = N := by omega
    go_wp2
    go_ret
    exact ⟨⟨_, rfl, (got_of_own HO.out).mono (Nat.le_add_right _ _)⟩, HB.out⟩
theorem for_any (p N : Nat) (s : CS) (was t : Int) (w : World) (hN1 : 1 <= N) (hN : N <= 4) (h : ClockIs w p N s) :
 Calls Tryz.prog 90 #[.pointer (some ⟨p, 0, none⟩), .int .i64 was, .int .i64 t] w fun e w' => e = .returned (.bool (quF N s was t)) /\ Below w.heap.size w w' := by
 have x1 := h.cell
 have HI : Hid (ClockIs w p N s) := h
 clear h
 by_cases h0 : was = 0
 · subst h0
   rw [quF_zero]
   go_enter Tryz.func90, Tryz.ntmps90
   go_wp2
   go_ret
   exact ⟨rfl, Below.refl _ _⟩
 have b0 : (was == 0) = false := by simp [h0]
 have hNi : 0 < (N : Int) := by omega
 have hNn : 0 < N := by omega
 go_enter Tryz.func90, Tryz.ntmps90
 go_wp2_with (first
  | (go_at_call 165; refine (cores_some p N _ x1).mono ?_; rintro e w2 ⟨rfl, hw2⟩; subst w2)
  | (go_at_call 166; refine (left_any p N s was t _ hN1 hN HI.out).mono ?_; rintro e w2 ⟨⟨v, rfl, a, cap, rfl, -⟩, hw2⟩; have H2 : Hid (Below w.heap.size w w2) := hw2; clear hw2)
  | fail)
 go_ret
 exact ⟨rfl, H2.out⟩
end Pquiet
namespace Pvclock
open Pbase Pclock Ptint Go.RowKit
def ListIs (w : World) (r N : Nat) (f : Nat -> Int) : Prop := ∃ cur, w.heap[r]? = some (.cells cur 3 (0, 0)) /\ ∀ j, j < N -> cur[j]? = some (.int .i64 (f j))
theorem ListIs.cell {w : World} {r N : Nat} {f : Nat -> Int} (h : ListIs w r N f) {j : Nat} (hj : j < N) : w.cell? ⟨r, j, none⟩ = some (.int .i64 (f j)) := by
 obtain ⟨cur, h1, h2⟩ := h
 rw [cell_of_row w r j _ _ _ h1, h2 j hj]
theorem ListIs.on {w w' : World} {r N : Nat} {f : Nat -> Int} (h : ListIs w r N f) (hk : w'.heap[r]? = w.heap[r]?) : ListIs w' r N f := by
 obtain ⟨cur, h1, h2⟩ := h
 exact ⟨cur, hk.trans h1, h2⟩
theorem ListIs.lt {w : World} {r N : Nat} {f : Nat -> Int} (h : ListIs w r N f) : r < w.heap.size := by
 obtain ⟨cur, h1, _⟩ := h
 exact (Array.getElem?_eq_some_iff.1 h1).1
theorem ListIs.congr {w : World} {r N : Nat} {f g : Nat -> Int} (h : ListIs w r N f) (e : ∀ j, j < N -> f j = g j) : ListIs w r N g := by
 obtain ⟨cur, h1, h2⟩ := h
 exact ⟨cur, h1, fun j hj => by rw [h2 j hj, e j hj]⟩
structure RefAt (w : World) (F : Nat -> Prop) (q N : Nat) (s : CS) (r1 r2 r3 c1 c2 c3 : Nat) : Prop where
 ge : F q
 head : w.heap[q]? = some (.cells #[.int .i64 s.now, .slice (some ⟨r1, 0, none⟩) N c1, .slice (some ⟨r2, 0, none⟩) N c2, .slice (some ⟨r3, 0, none⟩) N c3] 288 (0, 0))
 l1 : ListIs w r1 N s.cy
 l2 : ListIs w r2 N s.en
 l3 : ListIs w r3 N s.fl
 g1 : F r1
 g2 : F r2
 g3 : F r3
 n12 : r1 ≠ r2
 n13 : r1 ≠ r3
 n23 : r2 ≠ r3
 ok : s.ok
def RefIs (w : World) (F : Nat -> Prop) (q N : Nat) (s : CS) : Prop := ∃ r1 r2 r3 c1 c2 c3, RefAt w F q N s r1 r2 r3 c1 c2 c3
theorem RefAt.c2 {w : World} {F : Nat -> Prop} {q N : Nat} {s : CS} {r1 r2 r3 c1 c2 c3 : Nat} (h : RefAt w F q N s r1 r2 r3 c1 c2 c3) : w.cell? ⟨q, 2, none⟩ = some (.slice (some ⟨r2, 0, none⟩) N c2) := by
 rw [cell_of_row w q 2 _ _ _ h.head]; rfl
theorem RefAt.c3 {w : World} {F : Nat -> Prop} {q N : Nat} {s : CS} {r1 r2 r3 c1 c2 c3 : Nat} (h : RefAt w F q N s r1 r2 r3 c1 c2 c3) : w.cell? ⟨q, 3, none⟩ = some (.slice (some ⟨r3, 0, none⟩) N c3) := by
 rw [cell_of_row w q 3 _ _ _ h.head]; rfl
theorem RefAt.on {w w' : World} {F : Nat -> Prop} {q N : Nat} {s : CS} {r1 r2 r3 c1 c2 c3 : Nat} (h : RefAt w F q N s r1 r2 r3 c1 c2 c3) (hk : ∀ k, F k -> k < w.heap.size -> w'.heap[k]? = w.heap[k]?) : RefAt w' F q N s r1 r2 r3 c1 c2 c3 :=
 ⟨h.ge, (hk q h.ge (Array.getElem?_eq_some_iff.1 h.head).1).trans h.head, h.l1.on (hk _ h.g1 h.l1.lt), h.l2.on (hk _ h.g2 h.l2.lt), h.l3.on (hk _ h.g3 h.l3.lt), h.g1, h.g2, h.g3, h.n12, h.n13, h.n23, h.ok⟩
theorem RefIs.on {w w' : World} {F : Nat -> Prop} {q N : Nat} {s : CS} (h : RefIs w F q N s) (hk : ∀ k, F k -> k < w.heap.size -> w'.heap[k]? = w.heap[k]?) : RefIs w' F q N s := by
 obtain ⟨r1, r2, r3, c1, c2, c3, h⟩ := h
 exact ⟨r1, r2, r3, c1, c2, c3, h.on hk⟩
theorem rleast (r N cap : Nat) (f : Nat -> Int) (w : World) (hN1 : 1 <= N) (hN : N <= 4) (h : ListIs w r N f) :
 Calls Tryz.prog 186 #[.slice (some ⟨r, 0, none⟩) N cap] w fun e w' => e = .returned (.int .i64 (leastN f (N - 1))) /\ w' = w := by
 have hi0 : (0 : Int) < (N : Int) := by omega
 have g0 := h.cell (j := 0) (by omega)
 have HL : Hid (ListIs w r N f) := h
 clear h
 go_enter Tryz.func186, Tryz.ntmps186
 go_wp2
 go_loopw [3, 4] (fun n i wr => ∃ k : Nat, k <= N /\ i = .int .i64 k /\ n = .int .i64 (leastN f (k - 1)) /\ wr = w) (fun _ i _ => N - (intOf i).toNat)
 case atStart => exact ⟨0, by omega, rfl, rfl, rfl⟩
 case round =>
  obtain ⟨k, hk, rfl, rfl, rfl⟩ := hrel
  clear g0
  by_cases hlt : k < N
  · have hki : (k : Int) < (N : Int) := by omega
    have g1 := HL.out.cell hlt
    obtain ⟨x, hx⟩ : ∃ x, x = f k := ⟨_, rfl⟩
    have HX : Hid (x = f k) := hx
    rw [<- hx] at g1
    obtain ⟨m, hm⟩ : ∃ x, x = leastN f (k - 1) := ⟨_, rfl⟩
    have HM : Hid (m = leastN f (k - 1)) := hm
    rw [<- hm]
    clear hx hm
    go_wp2
    go_roundw
    case rel =>
     refine ⟨k + 1, by omega, by go_num, ?_, by trivial⟩
     rw [HX.out, HM.out]
     cases k with
     | zero => simp [leastN]
     | succ k => simp [leastN]
    case measure => simp [intOf]; omega
  · obtain rfl : k = N := by omega
    go_wp2
    go_ret
    exact ⟨rfl, rfl⟩
theorem rfloor_any (F : Nat -> Prop) (q N : Nat) (s : CS) (w : World) (hN1 : 1 <= N) (hN : N <= 4) (hR : RefIs w F q N s) :
 Calls Tryz.prog 116 #[.pointer (some ⟨q, 0, none⟩)] w fun e w' => e = .returned (.tuple #[.int .i64 (floE N s), .int .i64 (floF N s)]) /\ ∃ n, w' = w.drewN n := by
 obtain ⟨r1, r2, r3, c1, c2, c3, h⟩ := id hR
 have hp2 := h.c2
 have hp3 := h.c3
 have H2 : Hid (ListIs w r2 N s.en) := h.l2
 have H3 : Hid (ListIs w r3 N s.fl) := h.l3
 clear h hR
 have t1 : True := trivial
 obtain ⟨x, hx⟩ : ∃ x, x = floE N s := ⟨_, rfl⟩
 obtain ⟨y, hy⟩ : ∃ x, x = floF N s := ⟨_, rfl⟩
 rw [<- hx, <- hy]
 have L2 : Hid (∀ n, Calls Tryz.prog 186 #[.slice (some ⟨r2, 0, none⟩) N c2] (w.drewN n) fun e w' => e = .returned (.int .i64 x) /\ w' = w.drewN n) := by
  intro n
  rw [hx]
  exact rleast r2 N c2 s.en _ hN1 hN (H2.out.on rfl)
 have L3 : Hid (∀ n, Calls Tryz.prog 186 #[.slice (some ⟨r3, 0, none⟩) N c3] (w.drewN n) fun e w' => e = .returned (.int .i64 y) /\ w' = w.drewN n) := by
  intro n
  rw [hy]
  exact rleast r3 N c3 s.fl _ hN1 hN (H3.out.on rfl)
 clear hx hy H2 H3 t1
 go_enter Tryz.func116, Tryz.ntmps116
 go_wp2
 go_quiet (first
  | (go_at_call 186; with_reducible exact Calls.quiet_of_same (L2.out _))
  | (go_at_call 186; with_reducible exact Calls.quiet_of_same (L3.out _)))
 go_wp2
 go_ret2
 exact ⟨rfl, _, rfl⟩
theorem RefIs.below {w w' : World} {F : Nat -> Prop} {q N : Nat} {s : CS} (h : RefIs w F q N s) (m : Below w.heap.size w w') : RefIs w' F q N s := h.on fun k _ hk => m.block k hk
theorem infoInt : (Tryz.prog.info? 3).map (fun i => (i.zero, i.size, i.bytes)) = some (some (.int .i64 0), 1, 8) := by kernel_rfl
theorem one_new (w : World) (v : Value) (t : TypeId) : ∀ j u, ([v] : List Value)[j]? = some u -> (w.alloc (.cells #[v] t)).cell? ((⟨w.heap.size, 0, none⟩ : Addr).add j) = some u := by
 intro j u hj
 match j, hj with
 | 0, hj => simp at hj; subst hj; simp [Addr.add]
theorem own_ge {w : World} {base : Nat} {e : TypeId} {v : Value} {n : Nat} {xs : List Value} (h : w.ownsRow base e 1 v n xs) : ∀ k, v.ownBlock = some k -> base <= k := fun k hk => (h.lt k hk).1
theorem ownsRow_on {w w' : World} {base : Nat} {e : TypeId} {size : Nat} {v : Value} {n : Nat} {xs : List Value} (h : w.ownsRow base e size v n xs) (hk : ∀ k, base <= k -> k < w.heap.size -> w'.heap[k]? = w.heap[k]?) : w'.ownsRow base e size v n xs := by
 refine ⟨h.1, or_right h.2 ?_⟩
 rintro ⟨g, cap, cur, hv, hg, hh, r⟩
 exact ⟨g, cap, cur, hv, hg, by rw [hk g hg (Array.getElem?_eq_some_iff.1 hh).1]; exact hh, r⟩
theorem ownsRow_succ {w : World} {base : Nat} {e : TypeId} {v : Value} {n : Nat} {xs : List Value} (h : w.ownsRow base e 1 v (n + 1) xs) : ∃ g cap, v = .slice (some ⟨g, 0, none⟩) (n + 1) cap := by
 rcases h.2 with ⟨_, e⟩ | ⟨g, cap, _, e, _⟩
 · cases e
 · exact ⟨g, cap, e⟩
def x0 (i : Nat) : Int := if i = 0 then 0 else -1
structure NewI (B : Nat) (w wr : World) (v : Nat -> Value) (k : Nat -> Nat) : Prop where
 head : wr.heap[B]? = some (.cells #[.int .i64 0, v 0, v 1, v 2] 288 (0, 0))
 owns : ∀ i, i < 3 -> wr.ownsRow (B + 1) 3 1 (v i) (k i) (List.replicate (k i) (.int .i64 (x0 i)))
 apart : ∀ i j b, i < 3 -> j < 3 -> i ≠ j -> (v i).ownBlock = some b -> (v j).ownBlock ≠ some b
 below : Below B w wr
 size : B + 1 <= wr.heap.size
theorem NewI.step {B : Nat} {w wr w1 : World} {v : Nat -> Value} {k : Nat -> Nat} {i : Nat} {v' : Value} {o : Obj} (h : NewI B w wr v k) (hi : i < 3)
 (hown : w1.ownsRow (B + 1) 3 1 v' (k i + 1) (List.replicate (k i) (.int .i64 (x0 i)) ++ [.int .i64 (x0 i)])) (hg : (wr.alloc o).grownBy w1 (v i).ownBlock) (hat : v'.ownBlock = (v i).ownBlock \/ v'.ownBlock = some (wr.alloc o).heap.size) :
 w1.heap[B]? = some (.cells #[.int .i64 0, v 0, v 1, v 2] 288 (0, 0)) /\ NewI B w (w1.setCell ⟨B, i + 1, none⟩ v') (fun j => if j = i then v' else v j) (fun j => if j = i then k j + 1 else k j) := by
 have hs := h.size
 have hb1 : Below (B + 1) wr w1 := ((Below.refl _ _).alloc (by omega) o).grown hg (by simp; omega) (own_ge (h.owns i hi))
 have hhead : w1.heap[B]? = some (.cells #[.int .i64 0, v 0, v 1, v 2] 288 (0, 0)) := by rw [hb1.block B (by omega)]; exact h.head
 have hz := hb1.size
 have hold : ∀ j b, j < 3 -> (v j).ownBlock = some b -> b < wr.heap.size := fun j b hj e => ((h.owns j hj).lt b e).2
 have hset : ∀ {vv : Value} {n : Nat} {xs : List Value}, w1.ownsRow (B + 1) 3 1 vv n xs -> (w1.setCell ⟨B, i + 1, none⟩ v').ownsRow (B + 1) 3 1 vv n xs := fun ho => ownsRow_on ho fun j hj _ => Below.heap_setCell _ _ _ _ (by show j ≠ B; omega)
 refine ⟨hhead, ?_, ?_, ?_, ?_, ?_⟩
 · rw [heap_setCell_same w1 B (i + 1) _ _ v' hhead]
   match i, hi with
   | 0, _ => rfl
   | 1, _ => rfl
   | 2, _ => rfl
 · intro j hj
   by_cases e : j = i
   · subst e
     simp only [if_true]
     rw [List.replicate_succ']
     exact hset hown
   · simp only [e, if_false]
     refine hset (((h.owns j hj).alloc o).kept hg ?_)
     cases hb : (v j).ownBlock with
     | none => exact .inl rfl
     | some b => exact .inr (fun hc => h.apart j i b hj hi e hb hc.symm)
 · intro a c b ha hc hne hab
   by_cases e1 : a = i
   · subst e1
     rw [if_pos rfl] at hab
     rw [if_neg (Ne.symm hne)]
     rcases hat with hat | hat
     · rw [hat] at hab
       exact h.apart a c b ha hc hne hab
     · intro hcb
       have := hold c b hc hcb
       rw [hat] at hab
       simp at hab
       omega
   · rw [if_neg e1] at hab
     by_cases e2 : c = i
     · subst e2
       rw [if_pos rfl]
       rcases hat with hat | hat
       · rw [hat]
         exact h.apart a c b ha hc hne hab
       · intro hcb
         have := hold a b ha hab
         rw [hat] at hcb
         simp at hcb
         omega
     · rw [if_neg e2]
       exact h.apart a c b ha hc hne hab
 · exact (h.below.trans (hb1.mono (by omega))).setCell (Nat.le_refl _) _
 · simp only [World.size_setCell]
   omega
theorem NewI.done {B N : Nat} {w wr : World} {v : Nat -> Value} (h : NewI B w wr v fun _ => N) (hN : 1 <= N) : RefIs wr (fun i => B <= i) B N (newS N) := by
 have key : ∀ i, i < 3 -> ∃ g cap, v i = .slice (some ⟨g, 0, none⟩) N cap /\ B <= g /\ ListIs wr g N (fun _ => x0 i) := by
  intro i hi
  rcases (h.owns i hi).2 with ⟨_, e⟩ | ⟨g, cap, cur, e, hg, hh, _, _, _, ht⟩
  · have e' : N = 0 := e
    omega
  · refine ⟨g, cap, e, by omega, cur, hh, fun j hj => ?_⟩
    have := congrArg (fun l => l[j]?) ht
    simp only [Nat.mul_one, List.getElem?_take, hj, if_true, List.getElem?_replicate, Array.getElem?_toList] at this
    exact this
 obtain ⟨r1, c1, e1, g1, l1⟩ := key 0 (by omega)
 obtain ⟨r2, c2, e2, g2, l2⟩ := key 1 (by omega)
 obtain ⟨r3, c3, e3, g3, l3⟩ := key 2 (by omega)
 refine ⟨r1, r2, r3, c1, c2, c3, Nat.le_refl _, ?_, l1, l2.congr (fun j hj => by simp [newS, hj, x0]), l3.congr (fun j hj => by simp [newS, hj, x0]), g1, g2, g3, ?_, ?_, ?_, newS_ok N⟩
 · rw [h.head, e1, e2, e3]; rfl
 · rintro rfl
   exact h.apart 0 1 r1 (by omega) (by omega) (by omega) (by rw [e1]; rfl) (by rw [e2]; rfl)
 · rintro rfl
   exact h.apart 0 2 r1 (by omega) (by omega) (by omega) (by rw [e1]; rfl) (by rw [e3]; rfl)
 · rintro rfl
   exact h.apart 1 2 r2 (by omega) (by omega) (by omega) (by rw [e2]; rfl) (by rw [e3]; rfl)
theorem NewI.congr {B : Nat} {w wr : World} {v : Nat -> Value} {k k' : Nat -> Nat} (h : NewI B w wr v k) (e : ∀ i, i < 3 -> k i = k' i) : NewI B w wr v k' :=
 ⟨h.head, fun i hi => by rw [<- e i hi]; exact h.owns i hi, h.apart, h.below, h.size⟩
theorem NewI.start (w : World) : NewI w.heap.size w (w.alloc (.cells #[.int .i64 0, .slice none 0 0, .slice none 0 0, .slice none 0 0] 288)) (fun _ => .slice none 0 0) fun _ => 0 :=
 ⟨heap_alloc_new _ _, fun i _ => ⟨rfl, .inl ⟨rfl, rfl⟩⟩, fun i j b _ _ _ e => by simp [Value.ownBlock] at e, (Below.refl _ _).alloc (Nat.le_refl _) _, by simp⟩
theorem rnew_ok (N : Nat) (w : World) (hN1 : 1 <= N) (hN : N <= 4) :
 Calls Tryz.prog 161 #[.int .i64 N] w fun e w' => e = .returned (.tuple #[.pointer (some ⟨w.heap.size, 0, none⟩), .int .i64 0]) /\ RefIs w' (fun i => w.heap.size <= i) w.heap.size N (newS N) /\ Below w.heap.size w w' := by
 obtain ⟨it, hi, hz0, hz1, hz2⟩ := info_parts infoInt
 have h1 : (1 : Int) <= N := by omega
 have h2 : (N : Int) <= 4 := by omega
 have H0 : Hid (NewI w.heap.size w (w.alloc (.cells #[.int .i64 0, .slice none 0 0, .slice none 0 0, .slice none 0 0] 288)) (fun _ => .slice none 0 0) fun _ => 0) := NewI.start w
 go_enter Tryz.func161, Tryz.ntmps161
 go_wp2
 go_loopw [5] (fun i wr => ∃ k : Nat, k <= N /\ i = .int .i64 k /\ ∃ v, NewI w.heap.size w wr v fun _ => k) (fun i _ => N - (intOf i).toNat)
 case atStart => exact ⟨0, by omega, rfl, _, H0.out⟩
 case round =>
  obtain ⟨k, hk, rfl, v, hI⟩ := hrel
  have HI : Hid (NewI w.heap.size w wr v fun _ => k) := hI
  clear hI H0
  by_cases hlt : k < N
  · have hki : (k : Int) < (N : Int) := by omega
    have hs := HI.out.size
    have d0 : wr.cell? ⟨w.heap.size, 1, none⟩ = some (v 0) := by rw [cell_of_row wr _ 1 _ _ _ HI.out.head]; rfl
    have O0 : Hid (wr.ownsRow (w.heap.size + 1) 3 1 (v 0) k (List.replicate k (.int .i64 0))) := HI.out.owns 0 (by omega)
    have t1 : True := trivial
    have t2 : 0 = 0 := rfl
    go_wp2_with (first
     | (at_builtin; clear t1; refine wpList_append_own_at _ rfl _ _ 147 rfl (w.heap.size + 1) 3 it (.int .i64 0) 1 8 Tryz.underlying147 hi hz0 hz1 hz2 rfl (by decide) _ _ _ rfl (O0.out.alloc _) _ 1 1 [.int .i64 0] rfl rfl (one_new wr _ _) (by simp [Value.oneCell']) (by unfold maxLen; omega) (by omega) (by simp; omega) ?_; intro v1 w1 hown hgrow _ hat; obtain ⟨g1, p1, rfl⟩ := ownsRow_succ hown; have S := HI.out.step (i := 0) (by omega) hown hgrow hat; clear d0; have d1 : w1.cell? ⟨w.heap.size, 1, none⟩ = some (v 0) := (by rw [cell_of_row w1 _ 1 _ _ _ S.1]; rfl); have z1 : w1.frozen? ⟨w.heap.size, 1, none⟩ = false := frozen_of_row w1 _ 1 _ _ S.1; have d2 : w1.cell? ⟨w.heap.size, 2, none⟩ = some (v 1) := (by rw [cell_of_row w1 _ 2 _ _ _ S.1]; rfl); have HS1 : Hid (NewI w.heap.size w (w1.setCell ⟨w.heap.size, 1, none⟩ (.slice (some ⟨g1, 0, none⟩) (k + 1) p1)) (fun j => if j = 0 then .slice (some ⟨g1, 0, none⟩) (k + 1) p1 else v j) (fun j => if j = 0 then k + 1 else k)) := S.2; have hs1 : w.heap.size + 1 <= w1.heap.size := (by have := HS1.out.size; simpa using this); have O1 : Hid ((w1.setCell ⟨w.heap.size, 1, none⟩ (.slice (some ⟨g1, 0, none⟩) (k + 1) p1)).ownsRow (w.heap.size + 1) 3 1 (v 1) k (List.replicate k (.int .i64 (-1)))) := S.2.owns 1 (by omega); clear hown hgrow hat S)
     | (at_builtin; clear t2; refine wpList_append_own_at _ rfl _ _ 147 rfl (w.heap.size + 1) 3 it (.int .i64 0) 1 8 Tryz.underlying147 hi hz0 hz1 hz2 rfl (by decide) _ _ _ rfl (O1.out.alloc _) _ 1 1 [.int .i64 (-1)] rfl rfl (fun j u hj => (by have := one_new (w1.setCell ⟨w.heap.size, 1, none⟩ (.slice (some ⟨g1, 0, none⟩) (k + 1) p1)) (.int .i64 (-1)) 3 j u hj; simpa using this)) (by simp [Value.oneCell']) (by unfold maxLen; omega) (by omega) (by simp; omega) ?_; intro vv w2 hown hgrow _ hat; obtain ⟨g2, p2, rfl⟩ := ownsRow_succ hown; have S := HS1.out.step (i := 1) (by omega) hown hgrow hat; clear d1 z1 d2; have e1 : w2.cell? ⟨w.heap.size, 2, none⟩ = some (v 1) := (by rw [cell_of_row w2 _ 2 _ _ _ S.1]; rfl); have y1 : w2.frozen? ⟨w.heap.size, 2, none⟩ = false := frozen_of_row w2 _ 2 _ _ S.1; have e2 : w2.cell? ⟨w.heap.size, 3, none⟩ = some (v 2) := (by rw [cell_of_row w2 _ 3 _ _ _ S.1]; rfl); have HS2 : Hid (∃ u, u 2 = v 2 /\ NewI w.heap.size w (w2.setCell ⟨w.heap.size, 2, none⟩ (.slice (some ⟨g2, 0, none⟩) (k + 1) p2)) u (fun j => if j = 2 then k else k + 1)) := ⟨fun j => if j = 1 then .slice (some ⟨g2, 0, none⟩) (k + 1) p2 else if j = 0 then .slice (some ⟨g1, 0, none⟩) (k + 1) p1 else v j, rfl, S.2.congr (fun i hi => (by match i, hi with | 0, _ => rfl | 1, _ => rfl | 2, _ => rfl))⟩; have O2 : Hid ((w2.setCell ⟨w.heap.size, 2, none⟩ (.slice (some ⟨g2, 0, none⟩) (k + 1) p2)).ownsRow (w.heap.size + 1) 3 1 (v 2) k (List.replicate k (.int .i64 (-1)))) := S.2.owns 2 (by omega); have hs2 : w.heap.size + 1 <= w2.heap.size := (by have := S.2.size; simpa using this); clear hown hgrow hat S)
     | (at_builtin; refine wpList_append_own_at _ rfl _ _ 147 rfl (w.heap.size + 1) 3 it (.int .i64 0) 1 8 Tryz.underlying147 hi hz0 hz1 hz2 rfl (by decide) _ _ _ rfl (O2.out.alloc _) _ 1 1 [.int .i64 (-1)] rfl rfl (fun j u hj => (by have := one_new (w2.setCell ⟨w.heap.size, 2, none⟩ (.slice (some ⟨g2, 0, none⟩) (k + 1) p2)) (.int .i64 (-1)) 3 j u hj; simpa using this)) (by simp [Value.oneCell']) (by unfold maxLen; omega) (by omega) (by simp; omega) ?_; intro vv w3 hown hgrow _ hat; obtain ⟨g3, p3, rfl⟩ := ownsRow_succ hown; obtain ⟨u, hu2, hU⟩ := HS2.out; rw [<- hu2] at hgrow hat; have S := hU.step (i := 2) (by omega) hown hgrow hat; clear e1 y1 e2; have f1 : w3.cell? ⟨w.heap.size, 3, none⟩ = some (v 2) := (by rw [cell_of_row w3 _ 3 _ _ _ S.1, <- hu2]; rfl); have x1 : w3.frozen? ⟨w.heap.size, 3, none⟩ = false := frozen_of_row w3 _ 3 _ _ S.1; have HS3 : Hid (∃ u, NewI w.heap.size w (w3.setCell ⟨w.heap.size, 3, none⟩ (.slice (some ⟨g3, 0, none⟩) (k + 1) p3)) u (fun _ => k + 1)) := ⟨_, S.2.congr (fun i hi => (by match i, hi with | 0, _ => rfl | 1, _ => rfl | 2, _ => rfl))⟩; clear hown hgrow hat S hU))
    go_roundw
    case rel => exact ⟨k + 1, by omega, by go_num, HS3.out⟩
    case measure => simp [intOf]; omega
  · obtain rfl : k = N := by omega
    go_wp2
    go_ret2
    exact ⟨rfl, HI.out.done hN1, HI.out.below⟩
end Pvclock
namespace Pvquiet
open Pbase Pclock Pquiet Ptint Pvclock Go.RowKit
theorem rkernel_any (F : Nat -> Prop) (q N : Nat) (s : CS) (t : Int) (w : World) (hN1 : 1 <= N) (hN : N <= 4) (hR : RefIs w F q N s) :
 Calls Tryz.prog 169 #[.pointer (some ⟨q, 0, none⟩), .int .i64 t] w fun e w' => e = .returned (.bool (quF N s 2 t)) /\ Below w.heap.size w w' := by
 rw [quF_kernel s t hN1]
 have HR : Hid (RefIs w F q N s) := hR
 clear hR
 go_enter Tryz.func169, Tryz.ntmps169
 go_wp2_with (first
  | (go_at_call 116; refine (rfloor_any F q N s _ hN1 hN HR.out).mono ?_; rintro e w1 ⟨rfl, n, hw1⟩; have H1 : Hid (Below w.heap.size w w1) := (by rw [hw1]; exact below_drewN _ _ _); clear hw1)
  | fail)
 go_ret
 exact ⟨rfl, H1.out⟩
theorem ruser_any (F : Nat -> Prop) (q N : Nat) (s : CS) (t : Int) (w : World) (hN1 : 1 <= N) (hN : N <= 4) (hR : RefIs w F q N s) :
 Calls Tryz.prog 168 #[.pointer (some ⟨q, 0, none⟩), .int .i64 t] w fun e w' => e = .returned (.bool (quF N s 1 t)) /\ Below w.heap.size w w' := by
 rw [quF_user s t hN1]
 have HR : Hid (RefIs w F q N s) := hR
 clear hR
 go_enter Tryz.func168, Tryz.ntmps168
 go_wp2_with (first
  | (go_at_call 116; refine (rfloor_any F q N s _ hN1 hN HR.out).mono ?_; rintro e w1 ⟨rfl, n, hw1⟩; have H1 : Hid (Below w.heap.size w w1) := (by rw [hw1]; exact below_drewN _ _ _); clear hw1)
  | fail)
 go_ret
 exact ⟨rfl, H1.out⟩
theorem rfor_any (F : Nat -> Prop) (q N : Nat) (s : CS) (was t : Int) (w : World) (hN1 : 1 <= N) (hN : N <= 4) (hR : RefIs w F q N s) :
 Calls Tryz.prog 97 #[.pointer (some ⟨q, 0, none⟩), .int .i64 was, .int .i64 t] w fun e w' => e = .returned (.bool (quF N s was t)) /\ Below w.heap.size w w' := by
 have HU : Hid (Calls Tryz.prog 168 #[.pointer (some ⟨q, 0, none⟩), .int .i64 t] w fun e w' => e = .returned (.bool (quF N s 1 t)) /\ Below w.heap.size w w') := ruser_any F q N s t w hN1 hN hR
 have HK : Hid (∀ w1, Below w.heap.size w w1 -> Calls Tryz.prog 169 #[.pointer (some ⟨q, 0, none⟩), .int .i64 t] w1 fun e w' => e = .returned (.bool (quF N s 2 t)) /\ Below w1.heap.size w1 w') := fun w1 h1 => rkernel_any F q N s t w1 hN1 hN (hR.below h1)
 clear hR
 by_cases h0 : was = 0
 · subst h0
   rw [quF_zero]
   go_enter Tryz.func97, Tryz.ntmps97
   go_wp2
   go_ret
   exact ⟨rfl, Below.refl _ _⟩
 have b0 : (was == 0) = false := by simp [h0]
 by_cases h1 : was = 1
 · subst h1
   obtain ⟨y, hy⟩ : ∃ y, y = quF N s 1 t := ⟨_, rfl⟩
   rw [<- hy] at HU ⊢
   clear hy HK
   go_enter Tryz.func97, Tryz.ntmps97
   go_wp2_with (first
    | (go_at_call 168; refine HU.out.mono ?_; rintro e w1 ⟨rfl, hw1⟩; have H1 : Hid (Below w.heap.size w w1) := hw1; clear hw1)
    | fail)
   go_ret
   exact ⟨rfl, H1.out⟩
 have b1 : (was == 1) = false := by simp [h1]
 by_cases h2 : was = 2
 · subst h2
   obtain ⟨y, hy⟩ : ∃ y, y = quF N s 2 t := ⟨_, rfl⟩
   rw [<- hy] at HK ⊢
   clear hy HU
   go_enter Tryz.func97, Tryz.ntmps97
   go_wp2_with (first
    | (go_at_call 169; refine (HK.out _ (Below.refl _ _)).mono ?_; rintro e w1 ⟨rfl, hw1⟩; have H1 : Hid (Below w.heap.size w w1) := hw1; clear hw1)
    | fail)
   go_ret
   exact ⟨rfl, H1.out⟩
 have b2 : (was == 2) = false := by simp [h2]
 by_cases h3 : was = 3
 · subst h3
   rw [quF_both]
   obtain ⟨y, hy⟩ : ∃ y, y = quF N s 1 t := ⟨_, rfl⟩
   obtain ⟨z, hz⟩ : ∃ y, y = quF N s 2 t := ⟨_, rfl⟩
   rw [<- hy] at HU ⊢
   rw [<- hz] at HK ⊢
   clear hy hz
   cases y
   · go_enter Tryz.func97, Tryz.ntmps97
     go_wp2_with (first
      | (go_at_call 168; refine HU.out.mono ?_; rintro e w1 ⟨rfl, hw1⟩; have H1 : Hid (Below w.heap.size w w1) := hw1; clear hw1)
      | fail)
     go_ret
     exact ⟨rfl, H1.out⟩
   · go_enter Tryz.func97, Tryz.ntmps97
     go_wp2_with (first
      | (go_at_call 168; refine HU.out.mono ?_; rintro e w1 ⟨rfl, hw1⟩; have H1 : Hid (Below w.heap.size w w1) := hw1; clear hw1)
      | (go_at_call 169; refine (HK.out _ H1.out).mono ?_; rintro e w2 ⟨rfl, hw2⟩; have H2 : Hid (Below w.heap.size w w2) := H1.out.trans (hw2.mono H1.out.size); clear hw2)
      | fail)
     go_ret
     exact ⟨rfl, H2.out⟩
 have b3 : (was == 3) = false := by simp [h3]
 by_cases hr : 0 <= was /\ was <= 3
 · omega
 rw [quF_none hN1 (by omega)]
 clear hr
 go_enter Tryz.func97, Tryz.ntmps97
 go_wp2
 go_ret
 exact ⟨rfl, Below.refl _ _⟩
end Pvquiet
end Go.Proofs.YtkkclcihjojphaaGreatDoor
