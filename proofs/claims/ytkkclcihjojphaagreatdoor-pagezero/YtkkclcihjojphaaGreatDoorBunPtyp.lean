import Derived.Test.YtkkclcihjojphaaGreatDoorPkA
import Derived.BigRegion
set_option linter.unusedVariables false
set_option linter.unusedSimpArgs false
set_option maxRecDepth 100000
set_option maxHeartbeats 20000000
namespace Go.Proofs.YtkkclcihjojphaaGreatDoor
namespace Ptyp
open Pbase Go.RowKit
structure FS where
 is : Int
 was : Int
 cnt : Int
 fr : Int
def fld (s : FS) (k : Nat) : Int := if k = 0 then s.is else if k = 1 then s.was else if k = 2 then s.cnt else s.fr
def noFS : FS := ⟨0, 0, 0, -1⟩
def zFS : FS := ⟨0, 0, 0, 0⟩
def cellsT (N : Nat) (S : Nat -> FS) : Array Value := ((List.range (N * 4)).map fun j => Value.int .i64 (fld (S (j / 4)) (j % 4))).toArray
theorem cellsT_size (N : Nat) (S : Nat -> FS) : (cellsT N S).size = N * 4 := by simp [cellsT]
theorem cellsT_get {N : Nat} {S : Nat -> FS} {j : Nat} (h : j < N * 4) : (cellsT N S)[j]? = some (.int .i64 (fld (S (j / 4)) (j % 4))) := by
 simp [cellsT, h]
theorem cellsT_at {N : Nat} {S : Nat -> FS} {n k : Nat} (h : n < N) (hk : k < 4) : (cellsT N S)[n * 4 + k]? = some (.int .i64 (fld (S n) k)) := by
 rw [cellsT_get (by omega)]
 have h1 : (n * 4 + k) / 4 = n := by omega
 have h2 : (n * 4 + k) % 4 = k := by omega
 rw [h1, h2]
def upd (S : Nat -> FS) (n : Nat) (x : FS) : Nat -> FS := fun i => if i = n then x else S i
theorem upd_self (S : Nat -> FS) (n : Nat) : upd S n (S n) = S := by
 funext i
 simp only [upd]
 split
 · subst_vars; rfl
 · rfl
theorem upd_same (S : Nat -> FS) (n : Nat) (x : FS) : upd S n x n = x := by simp [upd]
theorem upd_upd (S : Nat -> FS) (n : Nat) (x y : FS) : upd (upd S n x) n y = upd S n y := by
 funext i
 simp only [upd]
 split <;> rfl
def setF (s : FS) (k : Nat) (v : Int) : FS := if k = 0 then { s with is := v } else if k = 1 then { s with was := v } else if k = 2 then { s with cnt := v } else { s with fr := v }
theorem fld_setF (s : FS) {k j : Nat} (hk : k < 4) (hj : j < 4) (v : Int) : fld (setF s k v) j = if k = j then v else fld s j := by
 match k, hk, j, hj with
 | 0, _, 0, _ => rfl
 | 0, _, 1, _ => rfl
 | 0, _, 2, _ => rfl
 | 0, _, 3, _ => rfl
 | 1, _, 0, _ => rfl
 | 1, _, 1, _ => rfl
 | 1, _, 2, _ => rfl
 | 1, _, 3, _ => rfl
 | 2, _, 0, _ => rfl
 | 2, _, 1, _ => rfl
 | 2, _, 2, _ => rfl
 | 2, _, 3, _ => rfl
 | 3, _, 0, _ => rfl
 | 3, _, 1, _ => rfl
 | 3, _, 2, _ => rfl
 | 3, _, 3, _ => rfl
theorem cellsT_set (N : Nat) (S : Nat -> FS) {n k : Nat} (hn : n < N) (hk : k < 4) (v : Int) : (cellsT N S).setIfInBounds (n * 4 + k) (.int .i64 v) = cellsT N (upd S n (setF (S n) k v)) := by
 apply Array.ext_getElem?
 intro i
 rw [Array.getElem?_setIfInBounds]
 by_cases hi : i < N * 4
 · rw [cellsT_get hi, cellsT_get hi, cellsT_size]
   by_cases e : n * 4 + k = i
   · subst e
     have h1 : (n * 4 + k) / 4 = n := by omega
     have h2 : (n * 4 + k) % 4 = k := by omega
     rw [if_pos rfl, if_pos hi, h1, h2, upd_same, fld_setF _ hk hk, if_pos rfl]
   · rw [if_neg e]
     by_cases e2 : i / 4 = n
     · have h3 : k ≠ i % 4 := by omega
       rw [e2, upd_same, fld_setF _ hk (by omega), if_neg h3]
     · simp [upd, e2]
 · rw [if_neg (by omega), Array.getElem?_eq_none (by rw [cellsT_size]; omega), Array.getElem?_eq_none (by rw [cellsT_size]; omega)]
theorem cellsT_congr {N : Nat} {S T : Nat -> FS} (h : ∀ j, j < N -> S j = T j) : cellsT N S = cellsT N T := by
 apply Array.ext_getElem?
 intro i
 by_cases hi : i < N * 4
 · rw [cellsT_get hi, cellsT_get hi, h (i / 4) (by omega)]
 · rw [Array.getElem?_eq_none (by rw [cellsT_size]; omega), Array.getElem?_eq_none (by rw [cellsT_size]; omega)]
def okF (N : Nat) (f : Int) : Bool := decide (0 <= f /\ f < N)
theorem okF_yes {N : Nat} {f : Int} (h : okF N f = true) : 0 <= f /\ f < N := by simpa [okF] using h
theorem okF_no {N : Nat} {f : Int} (h : okF N f = false) : ¬ (0 <= f /\ f < N) := by simp [okF] at h; omega
theorem okF_nat {N f : Nat} (h : f < N) : okF N (f : Int) = true := by simp [okF]; omega
theorem okF_split {N : Nat} {f : Int} (h : okF N f = true) : ∃ c : Nat, f = c /\ c < N := by
 have := okF_yes h
 exact ⟨f.toNat, by omega, by omega⟩
def errA (N : Nat) (S : Nat -> FS) (f : Int) (h : FS -> Int) : Int := if okF N f then h (S f.toNat) else 1
def mapA (N : Nat) (S : Nat -> FS) (f : Int) (g : FS -> FS) : Nat -> FS := if okF N f then upd S f.toNat (g (S f.toNat)) else S
def toldA (N : Nat) (S : Nat -> FS) (f : Int) : FS := if okF N f then S f.toNat else noFS
def hRt (to : Int) (q : Bool) (s : FS) : Int := if to = 1 \/ to = 2 then (if s.is = 0 then (if q then 0 else 6) else 4) else 1
def gRt (to : Int) (q : Bool) (s : FS) : FS := if to = 1 \/ to = 2 then (if s.is = 0 then (if q then { s with is := to } else s) else s) else s
def hRf (s : FS) : Int := if s.is = 0 then 4 else if s.cnt < 1000 then 0 else 2
def gRf (s : FS) : FS := if s.is = 0 then s else if s.cnt < 1000 then { s with cnt := s.cnt + 1 } else s
def FS.ok (s : FS) : Prop := 0 <= s.cnt /\ s.cnt <= 1000
def okA (S : Nat -> FS) : Prop := ∀ i, (S i).ok
theorem ok_map {S : Nat -> FS} (h : okA S) (N : Nat) (f : Int) {g : FS -> FS} (hg : ∀ s, s.ok -> (g s).ok) : okA (mapA N S f g) := by
 intro i
 unfold mapA
 split
 · simp only [upd]
   split
   · exact hg _ (h _)
   · exact h i
 · exact h i
theorem ok_rt (to : Int) (q : Bool) (s : FS) (h : s.ok) : (gRt to q s).ok := by
 unfold gRt
 split
 · split
   · split <;> exact h
   · exact h
 · exact h
theorem ok_rf (s : FS) (h : s.ok) : (gRf s).ok := by
 unfold gRf
 split
 · exact h
 · split
   · obtain ⟨h1, h2⟩ := h
     exact ⟨by simp only; omega, by simp only; omega⟩
   · exact h
theorem ok_no : okA fun _ => noFS := fun _ => ⟨by simp [noFS], by simp [noFS]⟩
structure TblIs (w : World) (p r N : Nat) (S : Nat -> FS) : Prop where
 head : w.heap[p]? = some (.cells #[.slice (some ⟨r, 0, none⟩) N N] 202 (0, 0))
 row : w.heap[r]? = some (.cells (cellsT N S) 100 (0, 0))
 ok : okA S
theorem TblIs.cell {w : World} {p r N : Nat} {S : Nat -> FS} (h : TblIs w p r N S) : w.cell? ⟨p, 0, none⟩ = some (.slice (some ⟨r, 0, none⟩) N N) := by
 rw [cell_of_row w p 0 _ _ _ h.head]; rfl
theorem TblIs.at {w : World} {p r N : Nat} {S : Nat -> FS} (h : TblIs w p r N S) {n : Nat} (hn : n < N) :
 w.cell? ⟨r, n * 4, none⟩ = some (.int .i64 (S n).is) /\ w.cell? ⟨r, n * 4 + 1, none⟩ = some (.int .i64 (S n).was) /\ w.cell? ⟨r, n * 4 + 2, none⟩ = some (.int .i64 (S n).cnt) /\ w.cell? ⟨r, n * 4 + 3, none⟩ = some (.int .i64 (S n).fr) := by
 refine ⟨?_, ?_, ?_, ?_⟩
 · have := cellsT_at (S := S) hn (k := 0) (by omega)
   rw [Nat.add_zero] at this
   rw [cell_of_row w r _ _ _ _ h.row, this]; rfl
 · rw [cell_of_row w r _ _ _ _ h.row, cellsT_at hn (by omega)]; rfl
 · rw [cell_of_row w r _ _ _ _ h.row, cellsT_at hn (by omega)]; rfl
 · rw [cell_of_row w r _ _ _ _ h.row, cellsT_at hn (by omega)]; rfl
theorem TblIs.free {w : World} {p r N : Nat} {S : Nat -> FS} (h : TblIs w p r N S) (j : Nat) : w.frozen? ⟨r, j, none⟩ = false := frozen_of_row w r j _ _ h.row
theorem TblIs.lt {w : World} {p r N : Nat} {S : Nat -> FS} (h : TblIs w p r N S) : p < w.heap.size := (Array.getElem?_eq_some_iff.1 h.head).1
theorem TblIs.ltr {w : World} {p r N : Nat} {S : Nat -> FS} (h : TblIs w p r N S) : r < w.heap.size := (Array.getElem?_eq_some_iff.1 h.row).1
theorem TblIs.ne {w : World} {p r N : Nat} {S : Nat -> FS} (h : TblIs w p r N S) : p ≠ r := by
 rintro rfl
 have := h.head.symm.trans h.row
 simp at this
theorem TblIs.on {w w' : World} {p r N : Nat} {S : Nat -> FS} (h : TblIs w p r N S) (hp : w'.heap[p]? = w.heap[p]?) (hr : w'.heap[r]? = w.heap[r]?) : TblIs w' p r N S := ⟨hp.trans h.head, hr.trans h.row, h.ok⟩
theorem TblIs.more {w w' : World} {p r N : Nat} {S : Nat -> FS} (h : TblIs w p r N S) (hB : Below w.heap.size w w') : TblIs w' p r N S := h.on (hB.block p h.lt) (hB.block r h.ltr)
theorem TblIs.self {w : World} {p r N : Nat} {S : Nat -> FS} (h : TblIs w p r N S) : w.setRow r (cellsT N S) = w := setRow_self _ _ _ _ _ h.row
theorem TblIs.set {w : World} {p r N : Nat} {S : Nat -> FS} (h : TblIs w p r N S) {T : Nat -> FS} (hT : okA T) : TblIs (w.setRow r (cellsT N T)) p r N T :=
 ⟨(setRow_other w r p _ h.ne).trans h.head, setRow_heap _ _ _ _ _ _ h.row, hT⟩
theorem TblIs.put {w : World} {p r N : Nat} {S : Nat -> FS} (h : TblIs w p r N S) {n k : Nat} (hn : n < N) (hk : k < 4) (v : Int) :
 w.setCell ⟨r, n * 4 + k, none⟩ (.int .i64 v) = w.setRow r (cellsT N (upd S n (setF (S n) k v))) := by
 rw [setCell_eq_setRow w r _ _ _ _ _ h.row, cellsT_set N S hn hk]
theorem row_put {w : World} {r N : Nat} {S T : Nat -> FS} (h : w.heap[r]? = some (.cells (cellsT N S) 100 (0, 0))) {n k : Nat} (hn : n < N) (hk : k < 4) (v : Int) :
 (w.setRow r (cellsT N T)).setCell ⟨r, n * 4 + k, none⟩ (.int .i64 v) = w.setRow r (cellsT N (upd T n (setF (T n) k v))) := by
 rw [setCell_eq_setRow _ r _ _ _ _ _ (setRow_heap _ _ _ _ _ _ h), setRow_setRow, cellsT_set N T hn hk]
theorem TblIs.put0 {w : World} {p r N : Nat} {S : Nat -> FS} (h : TblIs w p r N S) {n : Nat} (hn : n < N) (v : Int) :
 w.setCell ⟨r, n * 4, none⟩ (.int .i64 v) = w.setRow r (cellsT N (upd S n (setF (S n) 0 v))) := h.put (k := 0) hn (by omega) v
theorem nothing_any (w : World) :
 Calls Tryz.prog 134 #[] w fun e w' => e = .returned (.agg #[.int .i64 0, .int .i64 0, .int .i64 0, .int .i64 (-1)]) /\ w' = w.alloc (.cells #[.int .i64 0, .int .i64 0, .int .i64 0, .int .i64 (-1)] 100) := by
 go_enter Tryz.func134, Tryz.ntmps134
 go_wp2
 refine bodyPost_ret (v := .agg #[.int .i64 0, .int .i64 0, .int .i64 0, .int .i64 (-1)]) (by simp [results, Tryz.results134, go_sem]) rfl ⟨rfl, rfl⟩
theorem frame_ok (p r N n : Nat) (w : World) (hn : n < N) (hN : N <= 64) (hp : w.cell? ⟨p, 0, none⟩ = some (.slice (some ⟨r, 0, none⟩) N N)) :
 Calls Tryz.prog 76 #[.pointer (some ⟨p, 0, none⟩), .int .i64 n] w fun e w' => e = .returned (.tuple #[.pointer (some ⟨r, n * 4, none⟩), .int .i64 0]) /\ w' = w := by
 have hni : (n : Int) < (N : Int) := by omega
 have h0 : ((N : Int) == 0) = false := by simp; omega
 go_enter Tryz.func76, Tryz.ntmps76
 go_wp2
 go_ret2
 exact ⟨rfl, rfl⟩
theorem frame_bad (p r N : Nat) (f : Int) (w : World) (hf : ¬ (0 <= f /\ f < N)) (hN1 : 1 <= N) (hN : N <= 64) (hp : w.cell? ⟨p, 0, none⟩ = some (.slice (some ⟨r, 0, none⟩) N N)) :
 Calls Tryz.prog 76 #[.pointer (some ⟨p, 0, none⟩), .int .i64 f] w fun e w' => e = .returned (.tuple #[.pointer none, .int .i64 1]) /\ w' = w := by
 have h0 : ((N : Int) == 0) = false := by simp; omega
 by_cases hn : f < 0
 · clear hf
   go_enter Tryz.func76, Tryz.ntmps76
   go_wp2
   go_ret2
   exact ⟨rfl, rfl⟩
 · have hge : (N : Int) <= f := by omega
   clear hf
   go_enter Tryz.func76, Tryz.ntmps76
   go_wp2
   go_ret2
   exact ⟨rfl, rfl⟩
theorem refusal_rf (r n : Nat) (i c : Int) (w : World) (h1 : w.cell? ⟨r, n * 4, none⟩ = some (.int .i64 i)) (h2 : w.cell? ⟨r, n * 4 + 2, none⟩ = some (.int .i64 c)) :
 Calls Tryz.prog 145 #[.pointer (some ⟨r, n * 4, none⟩), .int .i64 1] w fun e w' => e = .returned (.int .i64 (if i = 0 then 4 else if c < 1000 then 0 else 2)) /\ w' = w := by
 by_cases hi : i = 0
 · subst hi
   simp only [if_true]
   go_enter Tryz.func145, Tryz.ntmps145
   go_wp2
   go_ret
   exact ⟨rfl, rfl⟩
 · have hi' : (i == 0) = false := by simpa using hi
   by_cases h : c < 1000
   · simp only [hi, h, if_true, if_false]
     have h' : ¬ 999 < c := by omega
     go_enter Tryz.func145, Tryz.ntmps145
     go_wp2
     go_ret
     exact ⟨rfl, rfl⟩
   · simp only [hi, h, if_false]
     have h' : 999 < c := by omega
     clear h
     go_enter Tryz.func145, Tryz.ntmps145
     go_wp2
     go_ret
     exact ⟨rfl, rfl⟩
theorem typed_bad (p r N : Nat) (f c : Int) (w : World) (hf : ¬ (0 <= f /\ f < N)) (hN1 : 1 <= N) (hN : N <= 64) (hp : w.cell? ⟨p, 0, none⟩ = some (.slice (some ⟨r, 0, none⟩) N N)) :
 Calls Tryz.prog 86 #[.pointer (some ⟨p, 0, none⟩), .int .i64 f, .int .i64 c] w fun e w' => e = .returned (.tuple #[.pointer none, .int .i64 1]) /\ w' = w := by
 have HF : Hid (¬ (0 <= f /\ f < N)) := hf
 clear hf
 go_enter Tryz.func86, Tryz.ntmps86
 go_wp2_with (go_at_call 76; refine (frame_bad p r N f _ HF.out hN1 hN hp).mono ?_; rintro e w' ⟨rfl, rfl⟩)
 go_ret2
 exact ⟨rfl, rfl⟩
theorem typed_rf (p r N n : Nat) (i c : Int) (w : World) (hn : n < N) (hN : N <= 64) (hp : w.cell? ⟨p, 0, none⟩ = some (.slice (some ⟨r, 0, none⟩) N N)) (h1 : w.cell? ⟨r, n * 4, none⟩ = some (.int .i64 i)) (h2 : w.cell? ⟨r, n * 4 + 2, none⟩ = some (.int .i64 c)) :
 Calls Tryz.prog 86 #[.pointer (some ⟨p, 0, none⟩), .int .i64 n, .int .i64 1] w fun e w' => e = .returned (.tuple #[.pointer (some ⟨r, n * 4, none⟩), .int .i64 (if i = 0 then 4 else if c < 1000 then 0 else 2)]) /\ w' = w := by
 have HR := refusal_rf r n i c w h1 h2
 obtain ⟨x, hx⟩ : ∃ x : Int, x = if i = 0 then 4 else if c < 1000 then 0 else 2 := ⟨_, rfl⟩
 rw [<- hx] at HR ⊢
 have HR' : Hid (Calls Tryz.prog 145 #[.pointer (some ⟨r, n * 4, none⟩), .int .i64 1] w fun e w' => e = .returned (.int .i64 x) /\ w' = w) := HR
 clear hx HR
 go_enter Tryz.func86, Tryz.ntmps86
 go_wp2_with (first
  | (go_at_call 76; refine (frame_ok p r N n _ hn hN hp).mono ?_; rintro e w1 ⟨rfl, hw1⟩; subst w1)
  | (go_at_call 145; refine HR'.out.mono ?_; rintro e w2 ⟨rfl, hw2⟩; subst w2))
 go_ret2
 exact ⟨rfl, rfl⟩
theorem told_bad (p r N : Nat) (f : Int) (w : World) (hf : ¬ (0 <= f /\ f < N)) (hN1 : 1 <= N) (hN : N <= 64) (hp : w.cell? ⟨p, 0, none⟩ = some (.slice (some ⟨r, 0, none⟩) N N)) (hlt : p < w.heap.size) :
 Calls Tryz.prog 74 #[.pointer (some ⟨p, 0, none⟩), .int .i64 f] w fun e w' => e = .returned (.agg #[.int .i64 0, .int .i64 0, .int .i64 0, .int .i64 (-1)]) /\ Below w.heap.size w w' := by
 have HF : Hid (¬ (0 <= f /\ f < N)) := hf
 have HP : Hid (w.cell? ⟨p, 0, none⟩ = some (.slice (some ⟨r, 0, none⟩) N N)) := hp
 clear hf hp
 go_enter Tryz.func74, Tryz.ntmps74
 go_wp2_with (first
  | (go_at_call 76; refine (frame_bad p r N f _ HF.out hN1 hN ((((Below.refl _ w).alloc (Nat.le_refl _) _).cell (p := ⟨p, 0, none⟩) hlt).trans HP.out)).mono ?_; rintro e w' ⟨rfl, rfl⟩)
  | (go_at_call 134; refine (nothing_any _).mono ?_; rintro e w1 ⟨rfl, rfl⟩))
 refine bodyPost_ret (v := .agg #[.int .i64 0, .int .i64 0, .int .i64 0, .int .i64 (-1)]) (by simp [results, Tryz.results74, go_sem]) rfl ⟨rfl, ?_⟩
 repeat (first | exact Below.refl _ _ | (refine Below.setCell ?_ (by simp) _) | (refine Below.alloc ?_ (by simp) _))
theorem told_ok (p r N n : Nat) (x0 x1 x2 x3 : Int) (w : World) (hn : n < N) (hN : N <= 64) (hp : w.cell? ⟨p, 0, none⟩ = some (.slice (some ⟨r, 0, none⟩) N N)) (hlt : p < w.heap.size) (hr : r < w.heap.size)
 (h0 : w.cell? ⟨r, n * 4, none⟩ = some (.int .i64 x0)) (h1 : w.cell? ⟨r, n * 4 + 1, none⟩ = some (.int .i64 x1)) (h2 : w.cell? ⟨r, n * 4 + 2, none⟩ = some (.int .i64 x2)) (h3 : w.cell? ⟨r, n * 4 + 3, none⟩ = some (.int .i64 x3)) :
 Calls Tryz.prog 74 #[.pointer (some ⟨p, 0, none⟩), .int .i64 n] w fun e w' => e = .returned (.agg #[.int .i64 x0, .int .i64 x1, .int .i64 x2, .int .i64 x3]) /\ Below w.heap.size w w' := by
 have HP : Hid (w.cell? ⟨p, 0, none⟩ = some (.slice (some ⟨r, 0, none⟩) N N)) := hp
 have M := (Below.refl w.heap.size w).alloc (Nat.le_refl _) (.cells #[.int .i64 0, .int .i64 0, .int .i64 0, .int .i64 0] 100)
 have g0 := (M.cell (p := ⟨r, n * 4, none⟩) hr).trans h0
 have g1 := (M.cell (p := ⟨r, n * 4 + 1, none⟩) hr).trans h1
 have g2 := (M.cell (p := ⟨r, n * 4 + 2, none⟩) hr).trans h2
 have g3 := (M.cell (p := ⟨r, n * 4 + 3, none⟩) hr).trans h3
 clear h0 h1 h2 h3 hp M
 go_enter Tryz.func74, Tryz.ntmps74
 go_wp2_with (go_at_call 76; refine (frame_ok p r N n _ hn hN ((((Below.refl _ w).alloc (Nat.le_refl _) _).cell (p := ⟨p, 0, none⟩) hlt).trans HP.out)).mono ?_; rintro e w1 ⟨rfl, hw1⟩; subst w1)
 refine bodyPost_ret (v := .agg #[.int .i64 x0, .int .i64 x1, .int .i64 x2, .int .i64 x3]) (by simp [results, Tryz.results74, go_sem]) rfl ⟨rfl, ?_⟩
 repeat (first | exact Below.refl _ _ | (refine Below.setCell ?_ (by simp) _) | (refine Below.alloc ?_ (by simp) _))
theorem told_any (p r N : Nat) (f : Int) (S : Nat -> FS) (w : World) (hN1 : 1 <= N) (hN : N <= 64) (h : TblIs w p r N S) :
 Calls Tryz.prog 74 #[.pointer (some ⟨p, 0, none⟩), .int .i64 f] w fun e w' => e = .returned (.agg #[.int .i64 (toldA N S f).is, .int .i64 (toldA N S f).was, .int .i64 (toldA N S f).cnt, .int .i64 (toldA N S f).fr]) /\ Below w.heap.size w w' := by
 cases hk : okF N f
 · simp only [toldA, hk, Bool.false_eq_true, if_false]
   exact told_bad p r N f w (okF_no hk) hN1 hN h.cell h.lt
 · obtain ⟨n, rfl, hn⟩ := okF_split hk
   simp only [toldA, hk, if_true, Int.toNat_natCast]
   obtain ⟨h0, h1, h2, h3⟩ := h.at hn
   exact told_ok p r N n _ _ _ _ w hn hN h.cell h.lt h.ltr h0 h1 h2 h3
theorem type_any (p r N : Nat) (f : Int) (S : Nat -> FS) (w : World) (hN1 : 1 <= N) (hN : N <= 64) (h : TblIs w p r N S) :
 Calls Tryz.prog 46 #[.pointer (some ⟨p, 0, none⟩), .int .i64 f] w fun e w' => e = .returned (.int .i64 (toldA N S f).is) /\ Below w.heap.size w w' := by
 have HT := told_any p r N f S w hN1 hN h
 obtain ⟨y, hy⟩ : ∃ y, y = toldA N S f := ⟨_, rfl⟩
 rw [<- hy] at HT ⊢
 obtain ⟨y0, y1, y2, y3⟩ := y
 simp only at HT ⊢
 have HT' : Hid (Calls Tryz.prog 74 #[.pointer (some ⟨p, 0, none⟩), .int .i64 f] w fun e w' => e = .returned (.agg #[.int .i64 y0, .int .i64 y1, .int .i64 y2, .int .i64 y3]) /\ Below w.heap.size w w') := HT
 clear hy HT h
 have hfd : ∀ (x0 x1 x2 x3 : Int) (w : World), (Instr.field 100 (.agg #[.int .i64 x0, .int .i64 x1, .int .i64 x2, .int .i64 x3]) 0).run Tryz.prog w = .ok (.int .i64 x0) w := fun _ _ _ _ _ => by kernel_rfl
 go_enter Tryz.func46, Tryz.ntmps46
 go_wp2_with (go_at_call 74; refine HT'.out.mono ?_; rintro e w' ⟨rfl, hm⟩)
 go_ret
 exact ⟨rfl, hm⟩
theorem count_any (p r N : Nat) (f : Int) (S : Nat -> FS) (w : World) (hN1 : 1 <= N) (hN : N <= 64) (h : TblIs w p r N S) :
 Calls Tryz.prog 33 #[.pointer (some ⟨p, 0, none⟩), .int .i64 f] w fun e w' => e = .returned (.int .i64 (toldA N S f).cnt) /\ Below w.heap.size w w' := by
 have HT := told_any p r N f S w hN1 hN h
 obtain ⟨y, hy⟩ : ∃ y, y = toldA N S f := ⟨_, rfl⟩
 rw [<- hy] at HT ⊢
 obtain ⟨y0, y1, y2, y3⟩ := y
 simp only at HT ⊢
 have HT' : Hid (Calls Tryz.prog 74 #[.pointer (some ⟨p, 0, none⟩), .int .i64 f] w fun e w' => e = .returned (.agg #[.int .i64 y0, .int .i64 y1, .int .i64 y2, .int .i64 y3]) /\ Below w.heap.size w w') := HT
 clear hy HT h
 have hfd : ∀ (x0 x1 x2 x3 : Int) (w : World), (Instr.field 100 (.agg #[.int .i64 x0, .int .i64 x1, .int .i64 x2, .int .i64 x3]) 2).run Tryz.prog w = .ok (.int .i64 x2) w := fun _ _ _ _ _ => by kernel_rfl
 go_enter Tryz.func33, Tryz.ntmps33
 go_wp2_with (go_at_call 74; refine HT'.out.mono ?_; rintro e w' ⟨rfl, hm⟩)
 go_ret
 exact ⟨rfl, hm⟩
theorem freed_any (p r N : Nat) (f : Int) (S : Nat -> FS) (w : World) (hN1 : 1 <= N) (hN : N <= 64) (h : TblIs w p r N S) :
 Calls Tryz.prog 92 #[.pointer (some ⟨p, 0, none⟩), .int .i64 f] w fun e w' => e = .returned (.int .i64 (toldA N S f).fr) /\ Below w.heap.size w w' := by
 have HT := told_any p r N f S w hN1 hN h
 obtain ⟨y, hy⟩ : ∃ y, y = toldA N S f := ⟨_, rfl⟩
 rw [<- hy] at HT ⊢
 obtain ⟨y0, y1, y2, y3⟩ := y
 simp only at HT ⊢
 have HT' : Hid (Calls Tryz.prog 74 #[.pointer (some ⟨p, 0, none⟩), .int .i64 f] w fun e w' => e = .returned (.agg #[.int .i64 y0, .int .i64 y1, .int .i64 y2, .int .i64 y3]) /\ Below w.heap.size w w') := HT
 clear hy HT h
 have hfd : ∀ (x0 x1 x2 x3 : Int) (w : World), (Instr.field 100 (.agg #[.int .i64 x0, .int .i64 x1, .int .i64 x2, .int .i64 x3]) 3).run Tryz.prog w = .ok (.int .i64 x3) w := fun _ _ _ _ _ => by kernel_rfl
 go_enter Tryz.func92, Tryz.ntmps92
 go_wp2_with (go_at_call 74; refine HT'.out.mono ?_; rintro e w' ⟨rfl, hm⟩)
 go_ret
 exact ⟨rfl, hm⟩
theorem was_any (p r N : Nat) (f : Int) (S : Nat -> FS) (w : World) (hN1 : 1 <= N) (hN : N <= 64) (h : TblIs w p r N S) :
 Calls Tryz.prog 91 #[.pointer (some ⟨p, 0, none⟩), .int .i64 f] w fun e w' => e = .returned (.int .i64 (toldA N S f).was) /\ Below w.heap.size w w' := by
 have HT := told_any p r N f S w hN1 hN h
 obtain ⟨y, hy⟩ : ∃ y, y = toldA N S f := ⟨_, rfl⟩
 rw [<- hy] at HT ⊢
 obtain ⟨y0, y1, y2, y3⟩ := y
 simp only at HT ⊢
 have HT' : Hid (Calls Tryz.prog 74 #[.pointer (some ⟨p, 0, none⟩), .int .i64 f] w fun e w' => e = .returned (.agg #[.int .i64 y0, .int .i64 y1, .int .i64 y2, .int .i64 y3]) /\ Below w.heap.size w w') := HT
 clear hy HT h
 have hfd : ∀ (x0 x1 x2 x3 : Int) (w : World), (Instr.field 100 (.agg #[.int .i64 x0, .int .i64 x1, .int .i64 x2, .int .i64 x3]) 1).run Tryz.prog w = .ok (.int .i64 x1) w := fun _ _ _ _ _ => by kernel_rfl
 go_enter Tryz.func91, Tryz.ntmps91
 go_wp2_with (go_at_call 74; refine HT'.out.mono ?_; rintro e w' ⟨rfl, hm⟩)
 go_ret
 exact ⟨rfl, hm⟩
theorem retype_bad (p r N : Nat) (f : Int) (to : Int) (q : Bool) (w : World) (hf : ¬ (0 <= f /\ f < N)) (hN1 : 1 <= N) (hN : N <= 64) (hp : w.cell? ⟨p, 0, none⟩ = some (.slice (some ⟨r, 0, none⟩) N N)) :
 Calls Tryz.prog 93 #[.pointer (some ⟨p, 0, none⟩), .int .i64 f, .int .i64 to, .bool q] w fun e w' => e = .returned (.int .i64 1) /\ w' = w := by
 have HF : Hid (¬ (0 <= f /\ f < N)) := hf
 clear hf
 go_enter Tryz.func93, Tryz.ntmps93
 go_wp2_with (go_at_call 76; refine (frame_bad p r N f _ HF.out hN1 hN hp).mono ?_; rintro e w' ⟨rfl, rfl⟩)
 go_ret
 exact ⟨rfl, rfl⟩
theorem ref_bad (p r N : Nat) (f : Int)  (w : World) (hf : ¬ (0 <= f /\ f < N)) (hN1 : 1 <= N) (hN : N <= 64) (hp : w.cell? ⟨p, 0, none⟩ = some (.slice (some ⟨r, 0, none⟩) N N)) :
 Calls Tryz.prog 53 #[.pointer (some ⟨p, 0, none⟩), .int .i64 f] w fun e w' => e = .returned (.int .i64 1) /\ w' = w := by
 have HF : Hid (¬ (0 <= f /\ f < N)) := hf
 clear hf
 go_enter Tryz.func53, Tryz.ntmps53
 go_wp2_with (go_at_call 86; refine (typed_bad p r N f 1 _ HF.out hN1 hN hp).mono ?_; rintro e w' ⟨rfl, rfl⟩)
 go_ret
 exact ⟨rfl, rfl⟩
theorem retype_ok (p r N n : Nat) (to : Int) (q : Bool) (s : FS) (w : World) (hn : n < N) (hN : N <= 64) (hp : w.cell? ⟨p, 0, none⟩ = some (.slice (some ⟨r, 0, none⟩) N N)) (h0 : w.cell? ⟨r, n * 4, none⟩ = some (.int .i64 s.is)) (z0 : w.frozen? ⟨r, n * 4, none⟩ = false) :
 Calls Tryz.prog 93 #[.pointer (some ⟨p, 0, none⟩), .int .i64 n, .int .i64 to, .bool q] w fun e w' => e = .returned (.int .i64 (hRt to q s)) /\ w' = if (to = 1 \/ to = 2) /\ s.is = 0 /\ q = true then w.setCell ⟨r, n * 4, none⟩ (.int .i64 to) else w := by
 obtain ⟨i, c1, c2, c3⟩ := s
 simp only [hRt] at h0 ⊢
 by_cases ht : to = 1 \/ to = 2
 · by_cases hi : i = 0
   · subst hi
     cases q
     · rcases ht with rfl | rfl
       all_goals
        simp only [true_or, or_true, if_true, Bool.false_eq_true, and_false, if_false]
        go_enter Tryz.func93, Tryz.ntmps93
        go_wp2_with (go_at_call 76; refine (frame_ok p r N n _ hn hN hp).mono ?_; rintro e w' ⟨rfl, rfl⟩)
        go_ret
        exact ⟨rfl, rfl⟩
     · rcases ht with rfl | rfl
       all_goals
        simp only [true_or, or_true, if_true, and_self]
        go_enter Tryz.func93, Tryz.ntmps93
        go_wp2_with (go_at_call 76; refine (frame_ok p r N n _ hn hN hp).mono ?_; rintro e w' ⟨rfl, rfl⟩)
        go_ret
        exact ⟨rfl, rfl⟩
   · have hi' : (i == 0) = false := by simpa using hi
     simp only [hi, if_false, false_and, and_false]
     rcases ht with rfl | rfl
     all_goals
      simp only [true_or, or_true, if_true]
      go_enter Tryz.func93, Tryz.ntmps93
      go_wp2_with (go_at_call 76; refine (frame_ok p r N n _ hn hN hp).mono ?_; rintro e w' ⟨rfl, rfl⟩)
      go_ret
      exact ⟨rfl, rfl⟩
 · simp only [ht, if_false, false_and]
   have t1 : (to == 1) = false := by simp; omega
   have t2 : (to == 2) = false := by simp; omega
   have t3 : (to != 1) = true := by simp; omega
   have t4 : (to != 2) = true := by simp; omega
   clear ht
   go_enter Tryz.func93, Tryz.ntmps93
   go_wp2_with (go_at_call 76; refine (frame_ok p r N n _ hn hN hp).mono ?_; rintro e w' ⟨rfl, rfl⟩)
   go_ret
   exact ⟨rfl, rfl⟩
theorem retype_any (p r N : Nat) (f to : Int) (q : Bool) (S : Nat -> FS) (w : World) (hN1 : 1 <= N) (hN : N <= 64) (h : TblIs w p r N S) :
 Calls Tryz.prog 93 #[.pointer (some ⟨p, 0, none⟩), .int .i64 f, .int .i64 to, .bool q] w fun e w' => e = .returned (.int .i64 (errA N S f (hRt to q))) /\ w' = w.setRow r (cellsT N (mapA N S f (gRt to q))) := by
 cases hk : okF N f
 · simp only [errA, mapA, hk, Bool.false_eq_true, if_false, h.self]
   exact retype_bad p r N f to q w (okF_no hk) hN1 hN h.cell
 · obtain ⟨n, rfl, hn⟩ := okF_split hk
   simp only [errA, mapA, hk, if_true, Int.toNat_natCast]
   refine (retype_ok p r N n to q (S n) w hn hN h.cell (h.at hn).1 (h.free _)).mono ?_
   rintro e w' ⟨rfl, rfl⟩
   refine ⟨rfl, ?_⟩
   by_cases c : (to = 1 \/ to = 2) /\ (S n).is = 0 /\ q = true
   · rw [if_pos c, h.put0 hn]
     simp [gRt, c.1, c.2.1, c.2.2, setF]
   · rw [if_neg c]
     have : gRt to q (S n) = S n := by
      unfold gRt
      split
      · split
        · split
          · exact absurd ⟨by assumption, by assumption, by assumption⟩ c
          · rfl
        · rfl
      · rfl
     rw [this, upd_self, h.self]
theorem ref_no (p r N n : Nat) (i c x : Int) (w : World) (hx : x = if i = 0 then 4 else if c < 1000 then 0 else 2) (hx0 : (x != 0) = true) (hn : n < N) (hN : N <= 64) (hp : w.cell? ⟨p, 0, none⟩ = some (.slice (some ⟨r, 0, none⟩) N N))
 (h0 : w.cell? ⟨r, n * 4, none⟩ = some (.int .i64 i)) (h2 : w.cell? ⟨r, n * 4 + 2, none⟩ = some (.int .i64 c)) :
 Calls Tryz.prog 53 #[.pointer (some ⟨p, 0, none⟩), .int .i64 n] w fun e w' => e = .returned (.int .i64 x) /\ w' = w := by
 have HT := typed_rf p r N n i c w hn hN hp h0 h2
 rw [<- hx] at HT
 have HT' : Hid (Calls Tryz.prog 86 #[.pointer (some ⟨p, 0, none⟩), .int .i64 n, .int .i64 1] w fun e w' => e = .returned (.tuple #[.pointer (some ⟨r, n * 4, none⟩), .int .i64 x]) /\ w' = w) := HT
 clear HT hx
 go_enter Tryz.func53, Tryz.ntmps53
 go_wp2_with (go_at_call 86; refine HT'.out.mono ?_; rintro e w1 ⟨rfl, hw1⟩; subst w1)
 go_ret
 exact ⟨rfl, rfl⟩
theorem ref_yes (p r N n : Nat) (i c : Int) (w : World) (hi : ¬ i = 0) (hc0 : 0 <= c) (hc : c < 1000) (hn : n < N) (hN : N <= 64) (hp : w.cell? ⟨p, 0, none⟩ = some (.slice (some ⟨r, 0, none⟩) N N))
 (h0 : w.cell? ⟨r, n * 4, none⟩ = some (.int .i64 i)) (h2 : w.cell? ⟨r, n * 4 + 2, none⟩ = some (.int .i64 c)) (z2 : w.frozen? ⟨r, n * 4 + 2, none⟩ = false) :
 Calls Tryz.prog 53 #[.pointer (some ⟨p, 0, none⟩), .int .i64 n] w fun e w' => e = .returned (.int .i64 0) /\ w' = w.setCell ⟨r, n * 4 + 2, none⟩ (.int .i64 (c + 1)) := by
 have HT := typed_rf p r N n i c w hn hN hp h0 h2
 simp only [hi, hc, if_false, if_true] at HT
 have HT' : Hid (Calls Tryz.prog 86 #[.pointer (some ⟨p, 0, none⟩), .int .i64 n, .int .i64 1] w fun e w' => e = .returned (.tuple #[.pointer (some ⟨r, n * 4, none⟩), .int .i64 0]) /\ w' = w) := HT
 clear HT hi
 go_enter Tryz.func53, Tryz.ntmps53
 go_wp2_with (go_at_call 86; refine HT'.out.mono ?_; rintro e w1 ⟨rfl, hw1⟩; subst w1)
 go_ret
 exact ⟨rfl, rfl⟩
theorem ref_any (p r N : Nat) (f : Int) (S : Nat -> FS) (w : World) (hN1 : 1 <= N) (hN : N <= 64) (h : TblIs w p r N S) :
 Calls Tryz.prog 53 #[.pointer (some ⟨p, 0, none⟩), .int .i64 f] w fun e w' => e = .returned (.int .i64 (errA N S f hRf)) /\ w' = w.setRow r (cellsT N (mapA N S f gRf)) := by
 cases hk : okF N f
 · simp only [errA, mapA, hk, Bool.false_eq_true, if_false, h.self]
   exact ref_bad p r N f w (okF_no hk) hN1 hN h.cell
 · obtain ⟨n, rfl, hn⟩ := okF_split hk
   simp only [errA, mapA, hk, if_true, Int.toNat_natCast]
   obtain ⟨g0, g1, g2, g3⟩ := h.at hn
   have hc := (h.ok n).1
   by_cases hi : (S n).is = 0
   · have e1 : gRf (S n) = S n := by simp [gRf, hi]
     rw [e1, upd_self, h.self]
     exact ref_no p r N n _ _ _ w rfl (by simp [hRf, hi]) hn hN h.cell g0 g2
   · by_cases hz : (S n).cnt < 1000
     · have e2 : hRf (S n) = 0 := by simp [hRf, hi, hz]
       rw [e2]
       refine (ref_yes p r N n _ _ w hi hc hz hn hN h.cell g0 g2 (h.free _)).mono ?_
       rintro e w' ⟨rfl, rfl⟩
       refine ⟨rfl, ?_⟩
       rw [h.put hn (by omega)]
       simp [gRf, setF, hi, hz]
     · have e1 : gRf (S n) = S n := by simp [gRf, hi, hz]
       rw [e1, upd_self, h.self]
       exact ref_no p r N n _ _ _ w rfl (by simp [hRf, hi, hz]) hn hN h.cell g0 g2
theorem infoFrame : (Tryz.prog.info? 100).map (fun i => (i.zero, i.size, i.bytes)) = some (some (.agg #[.int .i64 0, .int .i64 0, .int .i64 0, .int .i64 0]), 4, 32) := by kernel_rfl
theorem made_frames (N : Nat) : madeCells #[.int .i64 0, .int .i64 0, .int .i64 0, .int .i64 0] (N * 4) = cellsT N fun _ => zFS := by
 apply Array.ext_getElem?
 intro i
 by_cases hi : i < N * 4
 · rw [cellsT_get hi]
   have h4 : i % 4 < 4 := by omega
   have e : fld zFS (i % 4) = 0 := by
    unfold fld zFS
    split
    · rfl
    · split
      · rfl
      · split <;> rfl
   rw [e]
   have key : ∀ j, j < 4 -> (#[Value.int .i64 0, .int .i64 0, .int .i64 0, .int .i64 0] : Array Value)[j]? = some (.int .i64 0) := by
    intro j hj
    match j, hj with
    | 0, _ => rfl
    | 1, _ => rfl
    | 2, _ => rfl
    | 3, _ => rfl
   have k4 := key _ h4
   simp only [List.getElem?_toArray] at k4
   simp [madeCells, hi, k4]
 · simp [madeCells, cellsT, hi]
theorem make_frames (N : Nat) (hN : N <= 64) (w : World) :
 (Instr.makeSlice 200 (.int .i64 N) (.int .i64 N)).run Tryz.prog w = .ok (.slice (some ⟨w.heap.size, 0, none⟩) N N) (w.alloc (.cells (cellsT N fun _ => zFS) 100)) := by
 obtain ⟨i0, hi, hz0, hz1, hz2⟩ := info_parts infoFrame
 have := run_make (P := Tryz.prog) w 200 100 i0 _ Tryz.underlying200 hi hz0 .i64 .i64 N N (by omega) (by omega) (by rw [hz2]; omega) (by omega)
 rw [hz1] at this
 simpa [Value.cells, made_frames] using this
def layS (k : Nat) : Nat -> FS := fun i => if i < k then noFS else zFS
theorem ok_lay (k : Nat) : okA (layS k) := by
 intro i
 unfold layS
 split <;> exact ⟨by simp [noFS, zFS], by simp [noFS, zFS]⟩
theorem lay_step (k : Nat) : upd (layS k) k noFS = layS (k + 1) := by
 funext i
 simp only [upd, layS]
 by_cases h : i = k
 · subst h
   simp
 · simp only [h, if_false]
   by_cases h2 : i < k
   · rw [if_pos h2, if_pos (by omega)]
   · rw [if_neg h2, if_neg (by omega)]
theorem TblIs.lay {w : World} {p r N k : Nat} (h : TblIs w p r N (layS k)) (hk : k < N) :
 (((w.setCell ⟨r, k * 4, none⟩ (.int .i64 0)).setCell ⟨r, k * 4 + 1, none⟩ (.int .i64 0)).setCell ⟨r, k * 4 + 2, none⟩ (.int .i64 0)).setCell ⟨r, k * 4 + 3, none⟩ (.int .i64 (-1)) = w.setRow r (cellsT N (layS (k + 1))) := by
 rw [h.put0 hk, row_put h.row hk (by omega), row_put h.row hk (by omega), row_put h.row hk (by omega)]
 simp only [upd_same, upd_upd]
 rw [<- lay_step]
 simp [setF, noFS]
theorem TblIs.congr {w : World} {p r N : Nat} {S T : Nat -> FS} (h : TblIs w p r N S) (hT : okA T) (e : ∀ j, j < N -> S j = T j) : TblIs w p r N T := ⟨h.head, by rw [<- cellsT_congr e]; exact h.row, hT⟩
theorem new_ok (N : Nat) (w : World) (hN1 : 1 <= N) (hN : N <= 64) :
 Calls Tryz.prog 150 #[.int .i64 N] w fun e w' => e = .returned (.tuple #[.pointer (some ⟨w.heap.size + 1, 0, none⟩), .int .i64 0]) /\ TblIs w' (w.heap.size + 1) w.heap.size N (fun _ => noFS) /\ Below w.heap.size w w' := by
 have h1 : (1 : Int) <= N := by omega
 have h2 : (N : Int) <= 64 := by omega
 have hmk := make_frames N hN
 go_enter Tryz.func150, Tryz.ntmps150
 go_wp2
 have e0 : layS 0 = fun _ => zFS := by funext i; simp [layS]
 have H0 : Hid (TblIs ((w.alloc (.cells (cellsT N fun _ => zFS) 100)).alloc (.cells #[.slice (some ⟨w.heap.size, 0, none⟩) N N] 202)) (w.heap.size + 1) w.heap.size N (layS 0)) := ⟨heap_alloc2_new _ _ _, by rw [e0]; exact heap_alloc2_old _ _ _, ok_lay 0⟩
 have HB0 : Hid (Below w.heap.size w ((w.alloc (.cells (cellsT N fun _ => zFS) 100)).alloc (.cells #[.slice (some ⟨w.heap.size, 0, none⟩) N N] 202))) := ((Below.refl _ w).alloc (Nat.le_refl _) _).alloc (by simp) _
 clear e0
 go_loopw [21] (fun i wr => ∃ k : Nat, k <= N /\ i = .int .i64 k /\ TblIs wr (w.heap.size + 1) w.heap.size N (layS k) /\ Below w.heap.size w wr) (fun i _ => N - (intOf i).toNat)
 case atStart => exact ⟨0, by omega, rfl, H0.out, HB0.out⟩
 case round =>
  obtain ⟨k, hk, rfl, hI, hB⟩ := hrel
  have HI : Hid (TblIs wr (w.heap.size + 1) w.heap.size N (layS k)) := hI
  have HB : Hid (Below w.heap.size w wr) := hB
  clear hI hB H0 HB0 hmk
  by_cases hlt : k < N
  · have hki : (k : Int) < (N : Int) := by omega
    have d0 := HI.out.cell
    go_wp2
    go_region_with (go_at_call 134; (refine (nothing_any _).mono ?_; rintro e w1 ⟨rfl, hw1⟩; have HM : Hid (Below wr.heap.size wr w1) := (by rw [hw1]; exact ((Below.refl _ wr).drew).alloc (Nat.le_refl _) _); have HD : Hid (TblIs w1 (w.heap.size + 1) w.heap.size N (layS k)) := HI.out.more HM.out; clear hw1; have d1 := HD.out.cell; obtain ⟨c0, c1, c2, c3⟩ := HD.out.at hlt; have z0 := HD.out.free (k * 4); have z1 := HD.out.free (k * 4 + 1); have z2 := HD.out.free (k * 4 + 2); have z3 := HD.out.free (k * 4 + 3)))
    all_goals
     have HS : Hid (TblIs (w1.setRow w.heap.size (cellsT N (layS (k + 1)))) (w.heap.size + 1) w.heap.size N (layS (k + 1))) := HD.out.set (ok_lay _)
     have HB1 : Hid (Below w.heap.size w (w1.setRow w.heap.size (cellsT N (layS (k + 1))))) := below_setRow (HB.out.trans (HM.out.mono HB.out.size)) (Nat.le_refl _) _
     rw [HD.out.lay hlt]
     clear c0 c1 c2 c3 z0 z1 z2 z3 d0 d1
     go_wp2
     go_roundw
     case rel => exact ⟨k + 1, by omega, by go_num, HS.out, HB1.out⟩
     case measure => simp [intOf]; omega
  · obtain rfl : k = N := by omega
    go_wp2
    go_ret2
    exact ⟨rfl, HI.out.congr ok_no (fun j hj => by simp [layS, hj]), HB.out⟩
end Ptyp
end Go.Proofs.YtkkclcihjojphaaGreatDoor
