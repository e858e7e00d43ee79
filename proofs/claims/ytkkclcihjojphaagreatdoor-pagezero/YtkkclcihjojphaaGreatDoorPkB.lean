import Derived.Shelf.SlicesQ.IndexFunc
import Derived.Maps.AppendAt
import Derived.Test.YtkkclcihjojphaaGreatDoorPkO
set_option linter.unusedVariables false
set_option linter.unusedSimpArgs false
set_option maxRecDepth 100000
set_option maxHeartbeats 20000000
namespace Go.Proofs.YtkkclcihjojphaaGreatDoor
namespace Plive
open Pbase Go.RowKit
structure LS where
 on : Bool
 ep : Int
 tm : Int
def noLS : LS := ⟨false, 0, 0⟩
def fld (s : LS) (k : Nat) : Value := if k = 0 then .bool s.on else if k = 1 then .int .i64 s.ep else .int .i64 s.tm
def cellsT (N : Nat) (S : Nat -> LS) : Array Value := ((List.range (N * 3)).map fun j => fld (S (j / 3)) (j % 3)).toArray
theorem cellsT_size (N : Nat) (S : Nat -> LS) : (cellsT N S).size = N * 3 := by simp [cellsT]
theorem cellsT_get {N : Nat} {S : Nat -> LS} {j : Nat} (h : j < N * 3) : (cellsT N S)[j]? = some (fld (S (j / 3)) (j % 3)) := by
 simp [cellsT, h]
theorem cellsT_at {N : Nat} {S : Nat -> LS} {n k : Nat} (h : n < N) (hk : k < 3) : (cellsT N S)[n * 3 + k]? = some (fld (S n) k) := by
 rw [cellsT_get (by omega)]
 have h1 : (n * 3 + k) / 3 = n := by omega
 have h2 : (n * 3 + k) % 3 = k := by omega
 rw [h1, h2]
def upd (S : Nat -> LS) (n : Nat) (x : LS) : Nat -> LS := fun i => if i = n then x else S i
theorem upd_same (S : Nat -> LS) (n : Nat) (x : LS) : upd S n x n = x := by simp [upd]
theorem upd_other (S : Nat -> LS) {n i : Nat} (x : LS) (h : i ≠ n) : upd S n x i = S i := by simp [upd, h]
def Sets (s s' : LS) (k : Nat) (v : Value) : Prop := ∀ j, j < 3 -> fld s' j = if k = j then v else fld s j
theorem sets0 (s : LS) (b : Bool) : Sets s { s with on := b } 0 (.bool b) := fun j hj => by
 match j, hj with
 | 0, _ => rfl
 | 1, _ => rfl
 | 2, _ => rfl
theorem cellsT_set (N : Nat) (S : Nat -> LS) {n k : Nat} (hn : n < N) (hk : k < 3) {v : Value} {s' : LS} (hs : Sets (S n) s' k v) : (cellsT N S).setIfInBounds (n * 3 + k) v = cellsT N (upd S n s') := by
 apply Array.ext_getElem?
 intro i
 rw [Array.getElem?_setIfInBounds]
 by_cases hi : i < N * 3
 · rw [cellsT_get hi, cellsT_get hi, cellsT_size]
   by_cases e : n * 3 + k = i
   · subst e
     have h1 : (n * 3 + k) / 3 = n := by omega
     have h2 : (n * 3 + k) % 3 = k := by omega
     rw [if_pos rfl, if_pos hi, h1, h2, upd_same, hs k hk, if_pos rfl]
   · rw [if_neg e]
     by_cases e2 : i / 3 = n
     · have h3 : k ≠ i % 3 := by omega
       rw [e2, upd_same, hs _ (by omega), if_neg h3]
     · simp [upd, e2]
 · rw [if_neg (by omega), Array.getElem?_eq_none (by rw [cellsT_size]; omega), Array.getElem?_eq_none (by rw [cellsT_size]; omega)]
def okF (N : Nat) (f : Int) : Bool := decide (0 <= f /\ f < N)
theorem okF_yes {N : Nat} {f : Int} (h : okF N f = true) : 0 <= f /\ f < N := by simpa [okF] using h
theorem okF_no {N : Nat} {f : Int} (h : okF N f = false) : ¬ (0 <= f /\ f < N) := by simp [okF] at h; omega
theorem okF_split {N : Nat} {f : Int} (h : okF N f = true) : ∃ c : Nat, f = c /\ c < N := by
 have := okF_yes h
 exact ⟨f.toNat, by omega, by omega⟩
def may (fl : Int) (s : LS) : Bool := !s.on && decide (s.ep < 65535) && (!(decide (0 < s.ep)) || decide (s.tm < fl))
def inE (e : Int) (s : LS) : Bool := s.on && s.ep == e
def first (p : LS -> Bool) (S : Nat -> LS) : Nat -> Nat
 | 0 => 0
 | N + 1 => if first p S N < N then first p S N else if p (S N) = true then N else N + 1
theorem first_miss {p : LS -> Bool} {S : Nat -> LS} {N : Nat} (h : ∀ j, j < N -> p (S j) = false) : first p S N = N := by
 induction N with
 | zero => rfl
 | succ N ih =>
   have e := ih fun j hj => h j (by omega)
   simp [first, e, h N (by omega)]
theorem first_hit {p : LS -> Bool} {S : Nat -> LS} {N k : Nat} (hk : k < N) (h1 : p (S k) = true) (h0 : ∀ j, j < k -> p (S j) = false) : first p S N = k := by
 induction N with
 | zero => omega
 | succ N ih =>
   by_cases e : k = N
   · subst e
     simp [first, first_miss h0, h1]
   · have := ih (by omega)
     simp only [first, this]
     rw [if_pos (by omega)]
theorem first_cases (p : LS -> Bool) (S : Nat -> LS) (N : Nat) : (∃ k, k < N /\ p (S k) = true /\ ∀ j, j < k -> p (S j) = false) \/ ∀ j, j < N -> p (S j) = false := by
 induction N with
 | zero => exact .inr fun j hj => absurd hj (Nat.not_lt_zero _)
 | succ N ih =>
   rcases ih with ⟨k, hk, h1, h0⟩ | h
   · exact .inl ⟨k, by omega, h1, h0⟩
   · cases hq : p (S N)
     · exact .inr fun j hj => by
        by_cases e : j = N
        · subst e; exact hq
        · exact h j (by omega)
     · exact .inl ⟨N, by omega, hq, h⟩
def tkN (N : Nat) (S : Nat -> LS) (fl : Int) : Nat := first (may fl) S N
def tkI (N : Nat) (S : Nat -> LS) (fl : Int) : Int := if tkN N S fl < N then (tkN N S fl : Int) else 0
def tkE (N : Nat) (S : Nat -> LS) (fl : Int) : Int := if tkN N S fl < N then (S (tkN N S fl)).ep else 0
def tkR (N : Nat) (S : Nat -> LS) (fl : Int) : Int := if tkN N S fl < N then 0 else 2
def tkS (N : Nat) (S : Nat -> LS) (fl : Int) : Nat -> LS := if tkN N S fl < N then upd S (tkN N S fl) { S (tkN N S fl) with on := true } else S
def vaA (N : Nat) (S : Nat -> LS) (id e : Int) : Bool := okF N id && inE e (S id.toNat)
theorem tk_hit {N : Nat} {S : Nat -> LS} {fl : Int} {k : Nat} (hk : k < N) (h1 : may fl (S k) = true) (h0 : ∀ j, j < k -> may fl (S j) = false) :
 tkI N S fl = k /\ tkE N S fl = (S k).ep /\ tkR N S fl = 0 /\ tkS N S fl = upd S k { S k with on := true } := by
 have e : tkN N S fl = k := first_hit hk h1 h0
 simp [tkI, tkE, tkR, tkS, e, hk]
theorem tk_miss {N : Nat} {S : Nat -> LS} {fl : Int} (h : ∀ j, j < N -> may fl (S j) = false) :
 tkI N S fl = 0 /\ tkE N S fl = 0 /\ tkR N S fl = 2 /\ tkS N S fl = S := by
 have e : tkN N S fl = N := first_miss h
 simp [tkI, tkE, tkR, tkS, e]
def LS.ok (s : LS) : Prop := 0 <= s.ep /\ s.ep <= 65535 /\ (s.on = true -> s.ep < 65535)
def okA (S : Nat -> LS) : Prop := ∀ i, (S i).ok
theorem ok_no : okA fun _ => noLS := fun _ => ⟨by simp [noLS], by simp [noLS], by simp [noLS]⟩
theorem ok_upd {S : Nat -> LS} (h : okA S) {n : Nat} {s : LS} (hs : s.ok) : okA (upd S n s) := by
 intro i
 simp only [upd]
 split
 · exact hs
 · exact h i
theorem may_lt {fl : Int} {s : LS} (h : may fl s = true) : s.on = false /\ s.ep < 65535 := by
 simp [may] at h
 exact ⟨h.1.1, h.1.2⟩
theorem ok_tk {S : Nat -> LS} (h : okA S) (N : Nat) (fl : Int) : okA (tkS N S fl) := by
 rcases first_cases (may fl) S N with ⟨k, hk, h1, h0⟩ | h0
 · rw [(tk_hit hk h1 h0).2.2.2]
   obtain ⟨a, b, c⟩ := h k
   exact ok_upd h ⟨a, b, fun _ => (may_lt h1).2⟩
 · rw [(tk_miss h0).2.2.2]
   exact h
theorem below_drewN {B : Nat} {a w : World} (h : Below B a w) (n : Nat) : Below B a (w.drewN n) := ⟨h.os, h.tape, h.output, h.size, h.block⟩
structure TblIs (w : World) (p r N : Nat) (S : Nat -> LS) : Prop where
 head : w.heap[p]? = some (.cells #[.slice (some ⟨r, 0, none⟩) N N] 281 (0, 0))
 row : w.heap[r]? = some (.cells (cellsT N S) 279 (0, 0))
 ok : okA S
theorem TblIs.cell {w : World} {p r N : Nat} {S : Nat -> LS} (h : TblIs w p r N S) : w.cell? ⟨p, 0, none⟩ = some (.slice (some ⟨r, 0, none⟩) N N) := by
 rw [cell_of_row w p 0 _ _ _ h.head]; rfl
theorem TblIs.fld {w : World} {p r N : Nat} {S : Nat -> LS} (h : TblIs w p r N S) {n k : Nat} (hn : n < N) (hk : k < 3) : w.cell? ⟨r, n * 3 + k, none⟩ = some (fld (S n) k) := by
 rw [cell_of_row w r _ _ _ _ h.row, cellsT_at hn hk]
theorem TblIs.at {w : World} {p r N : Nat} {S : Nat -> LS} (h : TblIs w p r N S) {n : Nat} (hn : n < N) :
 w.cell? ⟨r, n * 3, none⟩ = some (.bool (S n).on) /\ w.cell? ⟨r, n * 3 + 1, none⟩ = some (.int .i64 (S n).ep) /\ w.cell? ⟨r, n * 3 + 2, none⟩ = some (.int .i64 (S n).tm) :=
 ⟨h.fld (k := 0) hn (by omega), h.fld hn (by omega), h.fld hn (by omega)⟩
theorem TblIs.free {w : World} {p r N : Nat} {S : Nat -> LS} (h : TblIs w p r N S) (j : Nat) : w.frozen? ⟨r, j, none⟩ = false := frozen_of_row w r j _ _ h.row
theorem TblIs.lt {w : World} {p r N : Nat} {S : Nat -> LS} (h : TblIs w p r N S) : p < w.heap.size := (Array.getElem?_eq_some_iff.1 h.head).1
theorem TblIs.ltr {w : World} {p r N : Nat} {S : Nat -> LS} (h : TblIs w p r N S) : r < w.heap.size := (Array.getElem?_eq_some_iff.1 h.row).1
theorem TblIs.ne {w : World} {p r N : Nat} {S : Nat -> LS} (h : TblIs w p r N S) : p ≠ r := by
 rintro rfl
 have := h.head.symm.trans h.row
 simp at this
theorem TblIs.on {w w' : World} {p r N : Nat} {S : Nat -> LS} (h : TblIs w p r N S) (hp : w'.heap[p]? = w.heap[p]?) (hr : w'.heap[r]? = w.heap[r]?) : TblIs w' p r N S := ⟨hp.trans h.head, hr.trans h.row, h.ok⟩
theorem TblIs.more {w w' : World} {p r N : Nat} {S : Nat -> LS} (h : TblIs w p r N S) (hB : Below w.heap.size w w') : TblIs w' p r N S := h.on (hB.block p h.lt) (hB.block r h.ltr)
theorem TblIs.self {w : World} {p r N : Nat} {S : Nat -> LS} (h : TblIs w p r N S) : w.setRow r (cellsT N S) = w := setRow_self _ _ _ _ _ h.row
theorem TblIs.set {w : World} {p r N : Nat} {S : Nat -> LS} (h : TblIs w p r N S) {T : Nat -> LS} (hT : okA T) : TblIs (w.setRow r (cellsT N T)) p r N T :=
 ⟨(setRow_other w r p _ h.ne).trans h.head, setRow_heap _ _ _ _ _ _ h.row, hT⟩
theorem TblIs.put {w : World} {p r N : Nat} {S : Nat -> LS} (h : TblIs w p r N S) {n k : Nat} (hn : n < N) (hk : k < 3) {v : Value} {s' : LS} (hs : Sets (S n) s' k v) :
 w.setCell ⟨r, n * 3 + k, none⟩ v = w.setRow r (cellsT N (upd S n s')) := by
 rw [setCell_eq_setRow w r _ _ _ _ _ h.row, cellsT_set N S hn hk hs]
theorem TblIs.put0 {w : World} {p r N : Nat} {S : Nat -> LS} (h : TblIs w p r N S) {n : Nat} (hn : n < N) (b : Bool) :
 w.setCell ⟨r, n * 3, none⟩ (.bool b) = w.setRow r (cellsT N (upd S n { S n with on := b })) := h.put (k := 0) hn (by omega) (sets0 _ b)
def Did (w w' : World) (r N : Nat) (T : Nat -> LS) : Prop := ∃ w1, Below w.heap.size w w1 /\ w' = w1.setRow r (cellsT N T)
theorem Did.tbl {w w' : World} {p r N : Nat} {S T : Nat -> LS} (h : Did w w' r N T) (hI : TblIs w p r N S) (hT : okA T) : TblIs w' p r N T := by
 obtain ⟨w1, hB, rfl⟩ := h
 exact (hI.more hB).set hT
theorem Did.drewN {w w' : World} {r N : Nat} {T : Nat -> LS} (h : Did w w' r N T) (n : Nat) : Did w (w'.drewN n) r N T := by
 obtain ⟨w1, hB1, rfl⟩ := h
 exact ⟨w1.drewN n, below_drewN hB1 n, rfl⟩
theorem Did.none {w w' : World} {p r N : Nat} {S : Nat -> LS} (hI : TblIs w p r N S) (hB : Below w.heap.size w w') : Did w w' r N S := ⟨w', hB, (hI.more hB).self.symm⟩
end Plive
section Zz
open Go.Shelf
def idxBeing_ren : Go.Shelf.Ren := ⟨fun | 6 => 182 | n => n, fun | 22 => 277 | 23 => 279 | 25 => 282 | 3 => 3 | 0 => 0 | 4 => 4 | n => n, fun | n => n⟩
theorem idxBeing : Go.Proofs.SlLaysH0.n6 Tryz.prog idxBeing_ren := {
 mixed := by kernel_rfl,
 f6 := ⟨Tryz.f182.name, by decide, Tryz.func182.trans (congrArg some (by kernel_rfl))⟩,
 t0 := Tryz.underlying0,
 a0 := Tryz.isAgg0,
 z0 := Tryz.sizeOf0,
 v0 := Tryz.zeroValue0,
 t3 := Tryz.underlying3,
 a3 := Tryz.isAgg3,
 z3 := Tryz.sizeOf3,
 v3 := Tryz.zeroValue3,
 t4 := Tryz.underlying4,
 a4 := Tryz.isAgg4,
 z4 := Tryz.sizeOf4,
 v4 := Tryz.zeroValue4,
 t22 := Tryz.underlying277,
 a22 := Tryz.isAgg277,
 z22 := Tryz.sizeOf277,
 v22 := Tryz.zeroValue277,
 t25 := Tryz.underlying282,
 a25 := Tryz.isAgg282,
 z25 := Tryz.sizeOf282,
 v25 := Tryz.zeroValue282 }
end Zz
namespace Plive
open Pbase Go.Shelf Go.RowKit Go.Lib
theorem unmade_ok (p r N : Nat) (w : World) (hN1 : 1 <= N) (hp : w.cell? ⟨p, 0, none⟩ = some (.slice (some ⟨r, 0, none⟩) N N)) :
 Calls Tryz.prog 181 #[.pointer (some ⟨p, 0, none⟩)] w fun e w' => e = .returned (.bool false) /\ w' = w := by
 have h0 : ((N : Int) == 0) = false := by simp; omega
 go_enter Tryz.func181, Tryz.ntmps181
 go_wp2
 go_ret
 exact ⟨rfl, rfl⟩
theorem has_any (p r N : Nat) (f : Int) (w : World) (hN : N <= 64) (hp : w.cell? ⟨p, 0, none⟩ = some (.slice (some ⟨r, 0, none⟩) N N)) :
 Calls Tryz.prog 277 #[.pointer (some ⟨p, 0, none⟩), .int .i64 f] w fun e w' => e = .returned (.bool (okF N f)) /\ w' = w := by
 by_cases h0 : 0 <= f
 · by_cases h1 : f < (N : Int)
   · have e : okF N f = true := by simp [okF, h0, h1]
     rw [e]
     clear e
     go_enter Tryz.func277, Tryz.ntmps277
     go_wp2
     go_ret
     exact ⟨rfl, rfl⟩
   · have e : okF N f = false := by simp [okF, h0, h1]
     rw [e]
     clear e
     go_enter Tryz.func277, Tryz.ntmps277
     go_wp2
     go_ret
     exact ⟨rfl, rfl⟩
 · have e : okF N f = false := by simp [okF, h0]
   rw [e]
   clear e
   go_enter Tryz.func277, Tryz.ntmps277
   go_wp2
   go_ret
   exact ⟨rfl, rfl⟩
theorem livesIn_any (s : LS) (ep : Int) (w : World) :
 Calls Tryz.prog 278 #[.agg #[.bool s.on, .int .i64 s.ep, .int .i64 s.tm], .int .i64 ep] w fun e w' => e = .returned (.bool (inE ep s)) /\ Below w.heap.size w w' := by
 obtain ⟨o, a, t⟩ := s
 simp only [inE]
 cases o
 · simp only [Bool.false_and]
   go_enter Tryz.func278, Tryz.ntmps278
   go_wp2
   go_ret
   exact ⟨rfl, (Below.refl _ w).alloc (Nat.le_refl _) _⟩
 · simp only [Bool.true_and]
   go_enter Tryz.func278, Tryz.ntmps278
   go_wp2
   go_ret
   exact ⟨rfl, (Below.refl _ w).alloc (Nat.le_refl _) _⟩
theorem wasKilled_any (o : Bool) (a t : Int) (w : World) :
 Calls Tryz.prog 237 #[.agg #[.bool o, .int .i64 a, .int .i64 t]] w fun e w' => e = .returned (.bool (decide (0 < a))) /\ w' = w.alloc (.cells #[.bool o, .int .i64 a, .int .i64 t] 279) := by
 go_enter Tryz.func237, Tryz.ntmps237
 go_wp2
 all_goals
  go_ret
  exact ⟨rfl, rfl⟩
def encL (s : LS) : List Value := [.bool s.on, .int .i64 s.ep, .int .i64 s.tm]
theorem may_any (fl : Int) (w : World) :
 Calls Tryz.prog 183 #[.int .i64 fl] w fun e w' => e = .returned (.func (.func 236) #[] #[.pointer (some ⟨w.heap.size, 0, none⟩)]) /\ w' = w.alloc (.cells #[.int .i64 fl] 3) := by
 go_enter Tryz.func183, Tryz.ntmps183
 go_wp2
 go_ret
 exact ⟨rfl, rfl⟩
theorem may1_any (B : Nat) (fl : Int) (s : LS) (W : World) (hc : W.cell? ⟨B, 0, none⟩ = some (.int .i64 fl)) :
 Calls Tryz.prog 236 #[.agg #[.bool s.on, .int .i64 s.ep, .int .i64 s.tm], .pointer (some ⟨B, 0, none⟩)] W fun e w' => e = .returned (.bool (may fl s)) /\ Below W.heap.size W w' := by
 have hB := World.block_lt_of_cell? W _ hc
 obtain ⟨o, a, t⟩ := s
 simp only [may]
 have k1 : ∀ x y, ((W.alloc x).alloc y).cell? ⟨B, 0, none⟩ = some (.int .i64 fl) := fun x y => (((((Below.refl _ W).alloc (Nat.le_refl _) x).alloc (by simp) y).cell (p := ⟨B, 0, none⟩) hB)).trans hc
 cases o
 · by_cases h1 : a < 65535
   · have h1' : ¬ (65535 : Int) <= a := by omega
     by_cases h2 : 0 < a
     · simp only [h1, h2, decide_true, Bool.not_false, Bool.not_true, Bool.true_and, Bool.false_or]
       go_enter Tryz.func236, Tryz.ntmps236
       go_wp2_with (go_at_call 237; refine (wasKilled_any _ _ _ _).mono ?_; rintro e w1 ⟨rfl, hw1⟩; subst w1; simp only [h2, decide_true])
       go_ret
       exact ⟨rfl, ((Below.refl _ W).alloc (Nat.le_refl _) _).alloc (by simp) _⟩
     · simp only [h1, h2, decide_true, decide_false, Bool.not_false, Bool.true_and, Bool.true_or]
       go_enter Tryz.func236, Tryz.ntmps236
       go_wp2_with (go_at_call 237; refine (wasKilled_any _ _ _ _).mono ?_; rintro e w1 ⟨rfl, hw1⟩; subst w1; simp only [h2, decide_false])
       go_ret
       exact ⟨rfl, ((Below.refl _ W).alloc (Nat.le_refl _) _).alloc (by simp) _⟩
   · have h1' : (65535 : Int) <= a := by omega
     simp only [h1, decide_false, Bool.not_false, Bool.true_and, Bool.false_and]
     clear h1 k1
     go_enter Tryz.func236, Tryz.ntmps236
     go_wp2
     go_ret
     exact ⟨rfl, (Below.refl _ W).alloc (Nat.le_refl _) _⟩
 · simp only [Bool.not_true, Bool.false_and]
   clear k1
   go_enter Tryz.func236, Tryz.ntmps236
   go_wp2
   go_ret
   exact ⟨rfl, (Below.refl _ W).alloc (Nat.le_refl _) _⟩
theorem may_pred (B : Nat) (fl : Int) (w : World) (hB : B < w.heap.size) (hc : w.cell? ⟨B, 0, none⟩ = some (.int .i64 fl)) :
 PredBelow Tryz.prog 236 #[.pointer (some ⟨B, 0, none⟩)] (fun s => .agg (encL s).toArray) (may fl) w := fun W s hb => by
 refine (may1_any B fl s W ((hb.cell (p := ⟨B, 0, none⟩) hB).trans hc)).mono ?_
 rintro e w' ⟨rfl, h'⟩
 exact ⟨rfl, hb.trans (h'.mono hb.size)⟩
theorem eg_may : ∀ args w, (callFunc 236 args).run Tryz.prog w = .ok (.enter 236 args) w := enters_of Tryz.func236 (by kernel_rfl) rfl
theorem idx_any (p r N B : Nat) (S : Nat -> LS) (fl : Int) (w : World) (hN : N <= 64) (h : TblIs w p r N S) (hc : w.cell? ⟨B, 0, none⟩ = some (.int .i64 fl)) :
 Calls Tryz.prog 182 #[.slice (some ⟨r, 0, none⟩) N N, .func (.func 236) #[] #[.pointer (some ⟨B, 0, none⟩)]] w fun e w' => e = .returned (.int .i64 (if tkN N S fl < N then (tkN N S fl : Int) else -1)) /\ Below w.heap.size w w' := by
 have inh : Inhabited LS := ⟨noLS⟩
 have hcon := AnyQ.slices_IndexFunc (α := LS) idxBeing 3 Tryz.isAgg279 Tryz.sizeOf279 encL (fun _ => rfl) (may fl) 236 #[.pointer (some ⟨B, 0, none⟩)] eg_may r 0 N N ((List.range N).map S) w
  (may_pred B fl w (World.block_lt_of_cell? w _ hc) hc) (by simp) (by omega) h.ltr (fun j hj i v hi => by
    have hj' : j < N := by simpa using hj
    have e : ((List.range N).map S)[j]! = S j := by simp [hj']
    rw [e] at hi
    obtain ⟨g0, g1, g2⟩ := h.at hj'
    match i, hi with
    | 0, hi => simp [encL] at hi; rw [<- hi]; simpa using g0
    | 1, hi => simp [encL] at hi; rw [<- hi]; simpa using g1
    | 2, hi => simp [encL] at hi; rw [<- hi]; simpa using g2
    | i + 3, hi => simp [encL] at hi)
 have e : Lib.idxBy (fun _ y => may fl y) (((List.range N).map S).take N) default = if tkN N S fl < N then (tkN N S fl : Int) else -1 := by
  rcases first_cases (may fl) S N with ⟨k, hk, h1, h0⟩ | h0
  · have e1 : tkN N S fl = k := first_hit hk h1 h0
    rw [e1, if_pos hk]
    exact Lib.idxBy_hit (fun _ y => may fl y) _ N k default hk (by simp) (by simpa [hk] using h1) (fun j hj => by simpa [show j < N by omega] using h0 j hj)
  · have e1 : tkN N S fl = N := first_miss h0
    rw [e1, if_neg (Nat.lt_irrefl _)]
    exact Lib.idxBy_miss (fun _ y => may fl y) _ N default (fun j hj => by simpa [hj] using h0 j hj)
 rw [e] at hcon
 exact hcon
theorem new_cell (w : World) (fl : Int) : (w.drew.alloc (.cells #[.int .i64 fl] 3)).cell? ⟨w.heap.size, 0, none⟩ = some (.int .i64 fl) := by
 exact World.cell?_alloc_new (w := w.drew) #[.int .i64 fl] 3 0
theorem take_any (p r N : Nat) (S : Nat -> LS) (fl : Int) (w : World) (hN1 : 1 <= N) (hN : N <= 64) (h : TblIs w p r N S) :
 Calls Tryz.prog 110 #[.pointer (some ⟨p, 0, none⟩), .int .i64 fl] w fun e w' => e = .returned (.tuple #[.int .i64 (tkI N S fl), .int .i64 (tkE N S fl), .int .i64 (tkR N S fl)]) /\ Did w w' r N (tkS N S fl) := by
 have HI : Hid (TblIs w p r N S) := h
 have d0 := h.cell
 clear h
 rcases first_cases (may fl) S N with ⟨k, hk, h1, h0⟩ | h0
 · have e1 : tkN N S fl = k := first_hit hk h1 h0
   obtain ⟨q1, q2, q3, q4⟩ := tk_hit hk h1 h0
   rw [q1, q2, q3, q4]
   have HX : Hid ((if tkN N S fl < N then (tkN N S fl : Int) else -1) = k) := by
    have : (if tkN N S fl < N then (tkN N S fl : Int) else -1) = k := by rw [e1, if_pos hk]
    exact this
   clear h0 h1 e1 q1 q2 q3 q4
   have hki : (k : Int) < (N : Int) := by omega
   go_enter Tryz.func110, Tryz.ntmps110
   go_wp2_with (go_at_call 181; refine (unmade_ok p r N _ hN1 d0).mono ?_; rintro e w' ⟨rfl, hw'⟩; subst w')
   go_region_held3 (fun w' => w'.cell? ⟨p, 0, none⟩ = some (.slice (some ⟨r, 0, none⟩) N N)) (first | assumption | go_keep)
   (first
     | (go_at_call 183; refine (may_any fl _).mono ?_; rintro e w1 ⟨rfl, hw1⟩; have HB1 : Hid (Below w.heap.size w w1) := (by rw [hw1]; exact ((Below.refl _ w).drew).alloc (Nat.le_refl _) _); have hm1 : w1.cell? ⟨w.heap.size, 0, none⟩ = some (.int .i64 fl) := (by rw [hw1]; exact new_cell _ _); have HM1 : Hid (w1.cell? ⟨w.heap.size, 0, none⟩ = some (.int .i64 fl)) := hm1; clear hm1; have H1 : Hid (TblIs w1 p r N S) := HI.out.more HB1.out; clear hw1 d0; have d0 := H1.out.cell)
     | (go_at_call 182; refine (idx_any p r N w.heap.size S fl _ hN H1.out HM1.out).mono ?_; rintro e w2 ⟨rfl, hw2⟩; rw [HX.out]; have HB2 : Hid (Below w.heap.size w w2) := HB1.out.trans (hw2.mono HB1.out.size); have H2 : Hid (TblIs w2 p r N S) := H1.out.more hw2; clear hw2 d0; have d0 := H2.out.cell)
     | fail)
   obtain ⟨c0, c1, c2⟩ := H2.out.at hk
   have z0 := H2.out.free (k * 3)
   go_wp2
   obtain ⟨w3, hw3⟩ : ∃ w3, w3 = w2.setCell ⟨r, k * 3, none⟩ (.bool true) := ⟨_, rfl⟩
   have HD : Hid (Did w w3 r N (upd S k { S k with on := true })) := ⟨w2, HB2.out, by rw [hw3, H2.out.put0 hk]⟩
   have c1' : w3.cell? ⟨r, k * 3 + 1, none⟩ = some (.int .i64 (S k).ep) := by rw [hw3]; simpa [World.cell?_setCell_other] using c1
   rw [<- hw3]
   clear hw3 c0 c1 c2 z0 d0
   go_quiet (fail)
   go_wp2
   go_ret3
   exact ⟨rfl, HD.out.drewN _⟩
 · have e1 : tkN N S fl = N := first_miss h0
   obtain ⟨q1, q2, q3, q4⟩ := tk_miss h0
   rw [q1, q2, q3, q4]
   have HX : Hid ((if tkN N S fl < N then (tkN N S fl : Int) else -1) = -1) := by
    have : (if tkN N S fl < N then (tkN N S fl : Int) else -1) = -1 := by rw [e1, if_neg (Nat.lt_irrefl _)]
    exact this
   clear h0 e1 q1 q2 q3 q4
   go_enter Tryz.func110, Tryz.ntmps110
   go_wp2_with (go_at_call 181; refine (unmade_ok p r N _ hN1 d0).mono ?_; rintro e w' ⟨rfl, hw'⟩; subst w')
   go_region_held3 (fun w' => w'.cell? ⟨p, 0, none⟩ = some (.slice (some ⟨r, 0, none⟩) N N)) (first | assumption | go_keep)
   (first
     | (go_at_call 183; refine (may_any fl _).mono ?_; rintro e w1 ⟨rfl, hw1⟩; have HB1 : Hid (Below w.heap.size w w1) := (by rw [hw1]; exact ((Below.refl _ w).drew).alloc (Nat.le_refl _) _); have hm1 : w1.cell? ⟨w.heap.size, 0, none⟩ = some (.int .i64 fl) := (by rw [hw1]; exact new_cell _ _); have HM1 : Hid (w1.cell? ⟨w.heap.size, 0, none⟩ = some (.int .i64 fl)) := hm1; clear hm1; have H1 : Hid (TblIs w1 p r N S) := HI.out.more HB1.out; clear hw1 d0; have d0 := H1.out.cell)
     | (go_at_call 182; refine (idx_any p r N w.heap.size S fl _ hN H1.out HM1.out).mono ?_; rintro e w2 ⟨rfl, hw2⟩; rw [HX.out]; have HB2 : Hid (Below w.heap.size w w2) := HB1.out.trans (hw2.mono HB1.out.size); have H2 : Hid (TblIs w2 p r N S) := H1.out.more hw2; clear hw2 d0; have d0 := H2.out.cell)
     | fail)
   go_wp2
   go_ret3
   exact ⟨rfl, Did.none HI.out HB2.out⟩
theorem valid_any (p r N : Nat) (S : Nat -> LS) (id ep : Int) (w : World) (hN1 : 1 <= N) (hN : N <= 64) (h : TblIs w p r N S) :
 Calls Tryz.prog 246 #[.pointer (some ⟨p, 0, none⟩), .int .i64 id, .int .i64 ep] w fun e w' => e = .returned (.bool (vaA N S id ep)) /\ Below w.heap.size w w' := by
 have HI : Hid (TblIs w p r N S) := h
 have d0 := h.cell
 clear h
 simp only [vaA]
 cases hk : okF N id
 · simp only [Bool.false_and]
   go_enter Tryz.func246, Tryz.ntmps246
   go_wp2_with (first
    | (go_at_call 181; refine (unmade_ok p r N _ hN1 d0).mono ?_; rintro e w' ⟨rfl, hw'⟩; subst w')
    | (go_at_call 277; refine (has_any p r N id _ hN d0).mono ?_; rintro e w' ⟨rfl, hw'⟩; subst w'; rw [hk])
    | fail)
   go_ret
   exact ⟨rfl, Below.refl _ _⟩
 · obtain ⟨n, rfl, hn⟩ := okF_split hk
   have hni : (n : Int) < (N : Int) := by omega
   obtain ⟨c0, c1, c2⟩ := HI.out.at hn
   simp only [Int.toNat_natCast, Bool.true_and]
   go_enter Tryz.func246, Tryz.ntmps246
   go_wp2_with (first
    | (go_at_call 181; refine (unmade_ok p r N _ hN1 d0).mono ?_; rintro e w' ⟨rfl, hw'⟩; subst w')
    | (go_at_call 277; refine (has_any p r N n _ hN d0).mono ?_; rintro e w' ⟨rfl, hw'⟩; subst w'; rw [hk])
    | (go_at_call 278; refine (livesIn_any (S n) ep _).mono ?_; rintro e w1 ⟨rfl, hw1⟩; have HB1 : Hid (Below w.heap.size w w1) := hw1; clear hw1)
    | fail)
   go_ret
   exact ⟨rfl, HB1.out⟩
end Plive
namespace Plive
open Pbase Go.RowKit
theorem infoBeing : (Tryz.prog.info? 279).map (fun i => (i.zero, i.size, i.bytes)) = some (some (.agg #[.bool false, .int .i64 0, .int .i64 0]), 3, 24) := by kernel_rfl
theorem made_beings (N : Nat) : madeCells #[.bool false, .int .i64 0, .int .i64 0] (N * 3) = cellsT N fun _ => noLS := by
 apply Array.ext_getElem?
 intro i
 by_cases hi : i < N * 3
 · rw [cellsT_get hi]
   have h4 : i % 3 < 3 := by omega
   have key : ∀ j, j < 3 -> (#[Value.bool false, .int .i64 0, .int .i64 0] : Array Value)[j]? = some (fld noLS j) := by
    intro j hj
    match j, hj with
    | 0, _ => rfl
    | 1, _ => rfl
    | 2, _ => rfl
   have k4 := key _ h4
   simp only [List.getElem?_toArray] at k4
   simp [madeCells, hi, k4]
 · simp [madeCells, cellsT, hi]
theorem make_beings (w : World) :
 (Instr.makeSlice 277 (.int .i64 64) (.int .i64 64)).run Tryz.prog w = .ok (.slice (some ⟨w.heap.size, 0, none⟩) 64 64) (w.alloc (.cells (cellsT 64 fun _ => noLS) 279)) := by
 obtain ⟨i0, hi, hz0, hz1, hz2⟩ := info_parts infoBeing
 have := run_make (P := Tryz.prog) w 277 279 i0 _ Tryz.underlying277 hi hz0 .i64 .i64 64 64 (by omega) (by omega) (by rw [hz2]; omega) (by omega)
 rw [hz1] at this
 simpa [Value.cells, made_beings 64] using this
structure Own (w wr : World) (S : Nat -> LS) : Prop where
 tbl : TblIs wr (w.heap.size + 1) w.heap.size 64 S
 below : Below w.heap.size w wr
theorem new_any (w : World) :
 Calls Tryz.prog 151 #[] w fun e w' => e = .returned (.pointer (some ⟨w.heap.size + 1, 0, none⟩)) /\ Own w w' (fun _ => noLS) := by
 have hmk := make_beings
 go_enter Tryz.func151, Tryz.ntmps151
 go_wp2
 go_ret
 exact ⟨rfl, ⟨heap_alloc2_new _ _ _, heap_alloc2_old _ _ _, ok_no⟩, ((Below.refl _ w).alloc (Nat.le_refl _) _).alloc (by simp) _⟩
end Plive
namespace Pvlive
open Pbase Plive Ptint Go.RowKit
def fldR (s : LS) (k : Nat) : Value := if k = 0 then .bool s.on else if k = 1 then .int .i64 s.ep else if k = 2 then .bool (decide (0 < s.ep)) else .int .i64 s.tm
def ListV (w : World) (r N : Nat) (F : Nat -> Nat -> Value) : Prop := ∃ cur, w.heap[r]? = some (.cells cur 293 (0, 0)) /\ ∀ n k, n < N -> k < 4 -> cur[n * 4 + k]? = some (F n k)
theorem ListV.fld {w : World} {r N : Nat} {F : Nat -> Nat -> Value} (h : ListV w r N F) {n k : Nat} (hn : n < N) (hk : k < 4) : w.cell? ⟨r, n * 4 + k, none⟩ = some (F n k) := by
 obtain ⟨cur, h1, h2⟩ := h
 rw [cell_of_row w r _ _ _ _ h1, h2 n k hn hk]
theorem ListV.free {w : World} {r N : Nat} {F : Nat -> Nat -> Value} (h : ListV w r N F) (j : Nat) : w.frozen? ⟨r, j, none⟩ = false := by
 obtain ⟨cur, h1, _⟩ := h
 exact frozen_of_row w r j _ _ h1
theorem ListV.on {w w' : World} {r N : Nat} {F : Nat -> Nat -> Value} (h : ListV w r N F) (hk : w'.heap[r]? = w.heap[r]?) : ListV w' r N F := by
 obtain ⟨cur, h1, h2⟩ := h
 exact ⟨cur, hk.trans h1, h2⟩
theorem ListV.lt {w : World} {r N : Nat} {F : Nat -> Nat -> Value} (h : ListV w r N F) : r < w.heap.size := by
 obtain ⟨cur, h1, _⟩ := h
 exact (Array.getElem?_eq_some_iff.1 h1).1
def put2 (F : Nat -> Nat -> Value) (n k : Nat) (v : Value) : Nat -> Nat -> Value := fun m j => if m = n /\ j = k then v else F m j
theorem ListV.put {w : World} {r N : Nat} {F : Nat -> Nat -> Value} (h : ListV w r N F) {n k : Nat} (hn : n < N) (hk : k < 4) (v : Value) : ListV (w.setCell ⟨r, n * 4 + k, none⟩ v) r N (put2 F n k v) := by
 obtain ⟨cur, h1, h2⟩ := h
 refine ⟨cur.setIfInBounds (n * 4 + k) v, heap_setCell_same _ _ _ _ _ _ h1, fun m j hm hj => ?_⟩
 rw [Array.getElem?_setIfInBounds]
 by_cases e : n * 4 + k = m * 4 + j
 · obtain rfl : n = m := by omega
   obtain rfl : k = j := by omega
   have hlt : n * 4 + k < cur.size := by
    rcases Nat.lt_or_ge (n * 4 + k) cur.size with h | h
    · exact h
    · have := h2 n k hn hk; rw [Array.getElem?_eq_none h] at this; cases this
   rw [if_pos rfl, if_pos hlt]
   simp [put2]
 · rw [if_neg e, h2 m j hm hj]
   have : ¬ (m = n /\ j = k) := by omega
   simp [put2, this]
theorem ListV.put0 {w : World} {r N : Nat} {F : Nat -> Nat -> Value} (h : ListV w r N F) {n : Nat} (hn : n < N) (v : Value) : ListV (w.setCell ⟨r, n * 4, none⟩ v) r N (put2 F n 0 v) := h.put (k := 0) hn (by omega) v
theorem ListV.congr {w : World} {r N : Nat} {F G : Nat -> Nat -> Value} (h : ListV w r N F) (e : ∀ n k, n < N -> k < 4 -> F n k = G n k) : ListV w r N G := by
 obtain ⟨cur, h1, h2⟩ := h
 exact ⟨cur, h1, fun n k hn hk => by rw [<- e n k hn hk]; exact h2 n k hn hk⟩
def ListR (w : World) (r N : Nat) (S : Nat -> LS) : Prop := ListV w r N fun n k => fldR (S n) k
theorem ListR.at {w : World} {r N : Nat} {S : Nat -> LS} (h : ListR w r N S) {n : Nat} (hn : n < N) :
 w.cell? ⟨r, n * 4, none⟩ = some (.bool (S n).on) /\ w.cell? ⟨r, n * 4 + 1, none⟩ = some (.int .i64 (S n).ep) /\ w.cell? ⟨r, n * 4 + 2, none⟩ = some (.bool (decide (0 < (S n).ep))) /\ w.cell? ⟨r, n * 4 + 3, none⟩ = some (.int .i64 (S n).tm) :=
 ⟨ListV.fld h (k := 0) hn (by omega), ListV.fld h hn (by omega), ListV.fld h hn (by omega), ListV.fld h hn (by omega)⟩
theorem ListR.take {w : World} {r N : Nat} {S : Nat -> LS} (h : ListR w r N S) {n : Nat} (hn : n < N) : ListR (w.setCell ⟨r, n * 4, none⟩ (.bool true)) r N (upd S n { S n with on := true }) :=
 (ListV.put0 h hn (.bool true)).congr fun m j hm hj => by
   simp only [put2]
   by_cases e : m = n
   · subst e
     rw [upd_same]
     match j, hj with
     | 0, _ => simp [fldR]
     | 1, _ => simp [fldR]
     | 2, _ => simp [fldR]
     | 3, _ => simp [fldR]
   · simp [e, upd_other]
structure RefAt (w : World) (F : Nat -> Prop) (q N : Nat) (S : Nat -> LS) (r c : Nat) : Prop where
 ge : F q
 head : w.heap[q]? = some (.cells #[.slice (some ⟨r, 0, none⟩) N c] 291 (0, 0))
 list : ListR w r N S
 ger : F r
 ok : okA S
def RefIs (w : World) (F : Nat -> Prop) (q N : Nat) (S : Nat -> LS) : Prop := ∃ r c, RefAt w F q N S r c
theorem RefAt.cell {w : World} {F : Nat -> Prop} {q N : Nat} {S : Nat -> LS} {r c : Nat} (h : RefAt w F q N S r c) : w.cell? ⟨q, 0, none⟩ = some (.slice (some ⟨r, 0, none⟩) N c) := by
 rw [cell_of_row w q 0 _ _ _ h.head]; rfl
theorem RefAt.ne {w : World} {F : Nat -> Prop} {q N : Nat} {S : Nat -> LS} {r c : Nat} (h : RefAt w F q N S r c) : q ≠ r := by
 rintro rfl
 obtain ⟨cur, h1, _⟩ := h.list
 have := h.head.symm.trans h1
 simp at this
theorem RefAt.lt {w : World} {F : Nat -> Prop} {q N : Nat} {S : Nat -> LS} {r c : Nat} (h : RefAt w F q N S r c) : q < w.heap.size := (Array.getElem?_eq_some_iff.1 h.head).1
theorem RefAt.on {w w' : World} {F : Nat -> Prop} {q N : Nat} {S : Nat -> LS} {r c : Nat} (h : RefAt w F q N S r c) (hk : ∀ k, F k -> k < w.heap.size -> w'.heap[k]? = w.heap[k]?) : RefAt w' F q N S r c :=
 ⟨h.ge, (hk q h.ge h.lt).trans h.head, ListV.on h.list (hk r h.ger (ListV.lt h.list)), h.ger, h.ok⟩
theorem RefAt.more {w w' : World} {F : Nat -> Prop} {q N : Nat} {S : Nat -> LS} {r c : Nat} (h : RefAt w F q N S r c) (m : Below w.heap.size w w') : RefAt w' F q N S r c := h.on fun k _ hk => m.block k hk
theorem RefIs.on {w w' : World} {F : Nat -> Prop} {q N : Nat} {S : Nat -> LS} (h : RefIs w F q N S) (hk : ∀ k, F k -> k < w.heap.size -> w'.heap[k]? = w.heap[k]?) : RefIs w' F q N S := by
 obtain ⟨r, c, h⟩ := h
 exact ⟨r, c, h.on hk⟩
theorem RefIs.drewN {w : World} {F : Nat -> Prop} {q N : Nat} {S : Nat -> LS} (h : RefIs w F q N S) (n : Nat) : RefIs (w.drewN n) F q N S := h.on fun _ _ _ => rfl
theorem RefAt.wrote {w w' : World} {F : Nat -> Prop} {q N : Nat} {S T : Nat -> LS} {r c : Nat} (h : RefAt w F q N S r c) (hq : w'.heap[q]? = w.heap[q]?) (hl : ListR w' r N T) (hT : okA T) : RefAt w' F q N T r c := ⟨h.ge, hq.trans h.head, hl, h.ger, hT⟩
theorem rvalid_at (q r c N : Nat) (S : Nat -> LS) (id ep : Int) (w : World) (hN : N <= 64) (hp : w.cell? ⟨q, 0, none⟩ = some (.slice (some ⟨r, 0, none⟩) N c)) (hl : ListR w r N S) :
 Calls Tryz.prog 207 #[.pointer (some ⟨q, 0, none⟩), .int .i64 id, .int .i64 ep] w fun e w' => e = .returned (.bool (vaA N S id ep)) /\ w' = w := by
 have HL : Hid (ListR w r N S) := hl
 clear hl
 rcases hk : okF N id with _ | _
 · have e1 : vaA N S id ep = false := by simp [vaA, hk]
   rw [e1]
   clear e1
   have hf := okF_no hk
   by_cases h0 : 0 <= id
   · have h1 : ¬ id < N := by omega
     clear hf hk
     go_enter Tryz.func207, Tryz.ntmps207
     go_wp2
     go_ret
     exact ⟨rfl, rfl⟩
   · clear hf hk
     go_enter Tryz.func207, Tryz.ntmps207
     go_wp2
     go_ret
     exact ⟨rfl, rfl⟩
 · obtain ⟨n, rfl, hn⟩ := okF_split hk
   have hni : (n : Int) < (N : Int) := by omega
   have e1 : vaA N S n ep = inE ep (S n) := by simp [vaA, hk]
   rw [e1, inE]
   obtain ⟨c0, c1, c2, c3⟩ := HL.out.at hn
   clear e1 c2 c3
   rcases ho : (S n).on with _ | _
   · rw [ho] at c0
     simp only [Bool.false_and]
     go_enter Tryz.func207, Tryz.ntmps207
     go_wp2
     go_ret
     exact ⟨rfl, rfl⟩
   · rw [ho] at c0
     simp only [Bool.true_and]
     go_enter Tryz.func207, Tryz.ntmps207
     go_wp2
     go_ret
     exact ⟨rfl, rfl⟩
theorem rvalid_any (F : Nat -> Prop) (q N : Nat) (S : Nat -> LS) (id ep : Int) (w : World) (hN : N <= 64) (hR : RefIs w F q N S) :
 Calls Tryz.prog 207 #[.pointer (some ⟨q, 0, none⟩), .int .i64 id, .int .i64 ep] w fun e w' => e = .returned (.bool (vaA N S id ep)) /\ w' = w := by
 obtain ⟨r, c, h⟩ := hR
 exact rvalid_at q r c N S id ep w hN h.cell h.list
theorem rtake_any (F : Nat -> Prop) (q N : Nat) (S : Nat -> LS) (fl : Int) (w : World) (hN : N <= 64) (hR : RefIs w F q N S) :
 Calls Tryz.prog 117 #[.pointer (some ⟨q, 0, none⟩), .int .i64 fl] w fun e w' => e = .returned (.tuple #[.int .i64 (tkI N S fl), .int .i64 (tkE N S fl), .int .i64 (tkR N S fl)]) /\ RefIs w' F q N (tkS N S fl) /\ Tint F w w' := by
 obtain ⟨r, c, h⟩ := hR
 have HA : Hid (RefAt w F q N S r c) := h
 have d0 := h.cell
 clear h
 go_enter Tryz.func117, Tryz.ntmps117
 go_wp2
 go_loopw [7] (fun i wr => ∃ k : Nat, k <= N /\ i = .int .i64 k /\ Below w.heap.size w wr /\ ∀ j, j < k -> may fl (S j) = false) (fun i _ => N - (intOf i).toNat)
 case atStart => exact ⟨0, by omega, rfl, Below.refl _ _, fun j hj => by omega⟩
 case round =>
  obtain ⟨k, hk, rfl, hBl, hno⟩ := hrel
  have HBl : Hid (Below w.heap.size w wr) := hBl
  have HNo : Hid (∀ j, j < k -> may fl (S j) = false) := hno
  have H1 : Hid (RefAt wr F q N S r c) := HA.out.more hBl
  have HB1 : Hid (Tint F w wr) := Tint.of_below F hBl
  clear hBl hno d0
  have d0 := H1.out.cell
  by_cases hlt : k < N
  · have hki : (k : Int) < (N : Int) := by omega
    obtain ⟨c0, c1, c2, c3⟩ := H1.out.list.at hlt
    have z0 := ListV.free H1.out.list (k * 4)
    have hr := ListV.lt H1.out.list
    have hq := H1.out.lt
    have d0' : ∀ o, (wr.alloc o).cell? ⟨q, 0, none⟩ = some (.slice (some ⟨r, 0, none⟩) N c) := fun o => (((Below.refl _ wr).alloc (Nat.le_refl _) o).cell (p := ⟨q, 0, none⟩) hq).trans d0
    rcases ho : (S k).on with _ | _
    · rw [ho] at c0
      by_cases h1 : (S k).ep < 65535
      · by_cases h2 : 0 < (S k).ep
        · have e2 : decide (0 < (S k).ep) = true := by simp [h2]
          rw [e2] at c2
          by_cases h3 : (S k).tm < fl
          · have hmay : may fl (S k) = true := by simp [may, ho, h1, h2, h3]
            go_wp2
            obtain ⟨w3, hw3⟩ : ∃ w3, w3 = (wr.setCell ⟨r, k * 4, none⟩ (.bool true)).alloc (.cells #[.bool false, .int .i64 (S k).ep, .bool true, .int .i64 (S k).tm] 293) := ⟨_, rfl⟩
            have c1' : w3.cell? ⟨wr.heap.size, 1, none⟩ = some (.int .i64 (S k).ep) := by
             rw [hw3]
             have e : (wr.setCell ⟨r, k * 4, none⟩ (.bool true)).heap.size = wr.heap.size := World.size_setCell ..
             rw [<- e]
             exact (World.cell?_alloc_new _ _ _ _).trans rfl
            have HT : Hid (okA (upd S k { S k with on := true })) := by
             have := ok_tk H1.out.ok N fl
             rw [(tk_hit hlt hmay HNo.out).2.2.2] at this
             exact this
            have HW : Hid (RefIs w3 F q N (upd S k { S k with on := true }) /\ Tint F w w3) := by
             rw [hw3]
             exact ⟨⟨r, c, (H1.out.wrote (Below.heap_setCell _ _ _ _ H1.out.ne) (H1.out.list.take hlt) HT.out).more ((Below.refl _ _).alloc (Nat.le_refl _) _)⟩, (HB1.out.setCell H1.out.ger _).alloc _⟩
            rw [<- hw3]
            have HM : Hid (may fl (S k) = true) := hmay
            clear hw3 c0 c1 c2 c3 z0 d0 d0' hmay
            go_quiet (fail)
            go_wp2
            go_ret3
            obtain ⟨q1, q2, q3, q4⟩ := tk_hit hlt HM.out HNo.out
            rw [q1, q2, q3, q4]
            exact ⟨rfl, HW.out.1.drewN _, HW.out.2.drewN _⟩
          · have hmay : may fl (S k) = false := by simp [may, ho, h1, h2, h3]
            go_wp2
            go_roundw
            case rel =>
             refine ⟨k + 1, by omega, by go_num, HBl.out.alloc HBl.out.size _, fun j hj => ?_⟩
             by_cases e : j = k
             · subst e; exact hmay
             · exact HNo.out j (by omega)
            case measure => simp [intOf]; omega
        · have e2 : decide (0 < (S k).ep) = false := by simp [h2]
          rw [e2] at c2
          have hmay : may fl (S k) = true := by simp [may, ho, h1, h2]
          go_wp2
          obtain ⟨w3, hw3⟩ : ∃ w3, w3 = (wr.setCell ⟨r, k * 4, none⟩ (.bool true)).alloc (.cells #[.bool false, .int .i64 (S k).ep, .bool false, .int .i64 (S k).tm] 293) := ⟨_, rfl⟩
          have c1' : w3.cell? ⟨wr.heap.size, 1, none⟩ = some (.int .i64 (S k).ep) := by
           rw [hw3]
           have e : (wr.setCell ⟨r, k * 4, none⟩ (.bool true)).heap.size = wr.heap.size := World.size_setCell ..
           rw [<- e]
           exact (World.cell?_alloc_new _ _ _ _).trans rfl
          have HT : Hid (okA (upd S k { S k with on := true })) := by
           have := ok_tk H1.out.ok N fl
           rw [(tk_hit hlt hmay HNo.out).2.2.2] at this
           exact this
          have HW : Hid (RefIs w3 F q N (upd S k { S k with on := true }) /\ Tint F w w3) := by
           rw [hw3]
           exact ⟨⟨r, c, (H1.out.wrote (Below.heap_setCell _ _ _ _ H1.out.ne) (H1.out.list.take hlt) HT.out).more ((Below.refl _ _).alloc (Nat.le_refl _) _)⟩, (HB1.out.setCell H1.out.ger _).alloc _⟩
          rw [<- hw3]
          have HM : Hid (may fl (S k) = true) := hmay
          clear hw3 c0 c1 c2 c3 z0 d0 d0' hmay
          go_quiet (fail)
          go_wp2
          go_ret3
          obtain ⟨q1, q2, q3, q4⟩ := tk_hit hlt HM.out HNo.out
          rw [q1, q2, q3, q4]
          exact ⟨rfl, HW.out.1.drewN _, HW.out.2.drewN _⟩
      · have hmay : may fl (S k) = false := by simp [may, h1]
        go_wp2
        go_roundw
        case rel =>
         refine ⟨k + 1, by omega, by go_num, HBl.out.alloc HBl.out.size _, fun j hj => ?_⟩
         by_cases e : j = k
         · subst e; exact hmay
         · exact HNo.out j (by omega)
        case measure => simp [intOf]; omega
    · rw [ho] at c0
      have hmay : may fl (S k) = false := by simp [may, ho]
      go_wp2
      go_roundw
      case rel =>
       refine ⟨k + 1, by omega, by go_num, HBl.out.alloc HBl.out.size _, fun j hj => ?_⟩
       by_cases e : j = k
       · subst e; exact hmay
       · exact HNo.out j (by omega)
      case measure => simp [intOf]; omega
  · obtain rfl : k = N := by omega
    obtain ⟨q1, q2, q3, q4⟩ := tk_miss HNo.out
    go_wp2
    go_ret3
    rw [q1, q2, q3, q4]
    exact ⟨rfl, ⟨r, c, H1.out⟩, HB1.out⟩
theorem infoId : (Tryz.prog.info? 293).map (fun i => (i.zero, i.size, i.bytes)) = some (some (.agg #[.bool false, .int .i64 0, .bool false, .int .i64 0]), 4, 32) := by kernel_rfl
def noR : List Value := [.bool false, .int .i64 0, .bool false, .int .i64 0]
theorem own_ge {w : World} {base : Nat} {e : TypeId} {size : Nat} {v : Value} {n : Nat} {xs : List Value} (h : w.ownsRow base e size v n xs) : ∀ k, v.ownBlock = some k -> base <= k := fun k hk => (h.lt k hk).1
theorem ownsRow_on {w w' : World} {base : Nat} {e : TypeId} {size : Nat} {v : Value} {n : Nat} {xs : List Value} (h : w.ownsRow base e size v n xs) (hk : ∀ k, base <= k -> k < w.heap.size -> w'.heap[k]? = w.heap[k]?) : w'.ownsRow base e size v n xs := by
 refine ⟨h.1, or_right h.2 ?_⟩
 rintro ⟨g, cap, cur, hv, hg, hh, r⟩
 exact ⟨g, cap, cur, hv, hg, by rw [hk g hg (Array.getElem?_eq_some_iff.1 hh).1]; exact hh, r⟩
def manyR : Nat -> List Value
 | 0 => []
 | k + 1 => manyR k ++ noR
theorem manyR_len (k : Nat) : (manyR k).length = k * 4 := by
 induction k with
 | zero => rfl
 | succ k ih => simp [manyR, ih, noR]; omega
theorem manyR_get (k : Nat) {n j : Nat} (hn : n < k) (hj : j < 4) : (manyR k)[n * 4 + j]? = some (fldR noLS j) := by
 induction k with
 | zero => omega
 | succ k ih =>
   by_cases h : n < k
   · rw [manyR, List.getElem?_append_left (by rw [manyR_len]; omega), ih h]
   · obtain rfl : n = k := by omega
     rw [manyR, List.getElem?_append_right (by rw [manyR_len]; omega), manyR_len]
     have e : n * 4 + j - n * 4 = j := by omega
     rw [e]
     match j, hj with
     | 0, _ => rfl
     | 1, _ => rfl
     | 2, _ => rfl
     | 3, _ => rfl
structure NewI (B : Nat) (w wr : World) (v : Value) (k : Nat) : Prop where
 head : wr.heap[B]? = some (.cells #[v] 291 (0, 0))
 owns : wr.ownsRow (B + 1) 293 4 v k (manyR k)
 below : Below B w wr
 size : B + 1 <= wr.heap.size
theorem NewI.start (w : World) : NewI w.heap.size w (w.alloc (.cells #[.slice none 0 0] 291)) (.slice none 0 0) 0 :=
 ⟨heap_alloc_new _ _, ⟨rfl, .inl ⟨rfl, rfl⟩⟩, (Below.refl _ _).alloc (Nat.le_refl _) _, by simp⟩
theorem NewI.done {B N : Nat} {w wr : World} {v : Value} (h : NewI B w wr v N) (hN : 1 <= N) : RefIs wr (fun i => B <= i) B N fun _ => noLS := by
 rcases h.owns.2 with ⟨_, e⟩ | ⟨g, cap, cur, e, hg, hh, _, _, _, ht⟩
 · have e' : N = 0 := e
   omega
 · refine ⟨g, cap, Nat.le_refl _, by rw [h.head, e], ⟨cur, hh, fun n j hn hj => ?_⟩, by omega, ok_no⟩
   have := congrArg (fun l => l[n * 4 + j]?) ht
   have hlt : n * 4 + j < N * 4 := by omega
   simp only [List.getElem?_take, hlt, if_true, Array.getElem?_toList] at this
   rw [this, manyR_get N hn hj]
theorem four_new (w : World) (t : TypeId) : ∀ j u, noR[j]? = some u -> (w.alloc (.cells #[.bool false, .int .i64 0, .bool false, .int .i64 0] t)).cell? ((⟨w.heap.size, 0, none⟩ : Addr).add j) = some u := by
 intro j u hj
 rw [Addr.add_lit, Nat.zero_add, World.cell?_alloc_new, <- hj]
 match j with
 | 0 => rfl
 | 1 => rfl
 | 2 => rfl
 | 3 => rfl
 | j + 4 => simp [noR]
theorem NewI.step {B : Nat} {w wr w1 : World} {v : Value} {k : Nat} {v' : Value} {o : Obj} (h : NewI B w wr v k)
 (hown : w1.ownsRow (B + 1) 293 4 v' (k + 1) (manyR k ++ noR)) (hg : (wr.alloc o).grownBy w1 v.ownBlock) :
 w1.heap[B]? = some (.cells #[v] 291 (0, 0)) /\ NewI B w (w1.setCell ⟨B, 0, none⟩ v') v' (k + 1) := by
 have hs := h.size
 have hb1 : Below (B + 1) wr w1 := ((Below.refl _ _).alloc (by omega) o).grown hg (by simp; omega) (own_ge h.owns)
 have hhead : w1.heap[B]? = some (.cells #[v] 291 (0, 0)) := by rw [hb1.block B (by omega)]; exact h.head
 have hz := hb1.size
 refine ⟨hhead, ?_, ?_, ?_, ?_⟩
 · rw [heap_setCell_same w1 B 0 _ _ v' hhead]
   rfl
 · exact ownsRow_on hown fun j hj _ => Below.heap_setCell _ _ _ _ (by show j ≠ B; omega)
 · exact (h.below.trans (hb1.mono (by omega))).setCell (Nat.le_refl _) _
 · simp only [World.size_setCell]
   omega
theorem ownsRow_succ {w : World} {base : Nat} {e : TypeId} {size : Nat} {v : Value} {n : Nat} {xs : List Value} (h : w.ownsRow base e size v (n + 1) xs) : ∃ g cap, v = .slice (some ⟨g, 0, none⟩) (n + 1) cap := by
 rcases h.2 with ⟨_, e⟩ | ⟨g, cap, _, e, _⟩
 · cases e
 · exact ⟨g, cap, e⟩
theorem rnew_any (w : World) :
 Calls Tryz.prog 158 #[] w fun e w' => e = .returned (.pointer (some ⟨w.heap.size, 0, none⟩)) /\ RefIs w' (fun i => w.heap.size <= i) w.heap.size 64 (fun _ => noLS) /\ Below w.heap.size w w' := by
 obtain ⟨it, hi, hz0, hz1, hz2⟩ := info_parts infoId
 have H0 : Hid (NewI w.heap.size w (w.alloc (.cells #[.slice none 0 0] 291)) (.slice none 0 0) 0) := NewI.start w
 go_enter Tryz.func158, Tryz.ntmps158
 go_wp2
 go_loopw [2] (fun i wr => ∃ k : Nat, k <= 64 /\ i = .int .i64 k /\ ∃ v, NewI w.heap.size w wr v k) (fun i _ => 64 - (intOf i).toNat)
 case atStart => exact ⟨0, by omega, rfl, _, H0.out⟩
 case round =>
  obtain ⟨k, hk, rfl, v, hI⟩ := hrel
  have HI : Hid (NewI w.heap.size w wr v k) := hI
  clear hI H0
  by_cases hlt : k < 64
  · have hk64 : (k : Int) < 64 := by omega
    have hs := HI.out.size
    have d0 : wr.cell? ⟨w.heap.size, 0, none⟩ = some v := by rw [cell_of_row wr _ 0 _ _ _ HI.out.head]; rfl
    go_wp2_with (at_builtin; refine wpList_append_own_at _ rfl _ _ 289 rfl (w.heap.size + 1) 293 it _ 4 32 Tryz.underlying289 hi hz0 hz1 hz2 rfl (by decide) _ _ _ rfl (HI.out.owns.alloc _) _ 1 1 noR rfl rfl (four_new wr _) (by simp [noR, Value.oneCell']) (by unfold maxLen; omega) (by omega) (by simp; omega) ?_; intro v1 w1 hown hgrow _ hat; obtain ⟨g1, p1, rfl⟩ := ownsRow_succ hown; have S := HI.out.step hown hgrow; clear d0; have d1 : w1.cell? ⟨w.heap.size, 0, none⟩ = some v := (by rw [cell_of_row w1 _ 0 _ _ _ S.1]; rfl); have z1 : w1.frozen? ⟨w.heap.size, 0, none⟩ = false := frozen_of_row w1 _ 0 _ _ S.1; have HS1 : Hid (NewI w.heap.size w (w1.setCell ⟨w.heap.size, 0, none⟩ (.slice (some ⟨g1, 0, none⟩) (k + 1) p1)) (.slice (some ⟨g1, 0, none⟩) (k + 1) p1) (k + 1)) := S.2; clear hown hgrow hat S)
    go_roundw
    case rel => exact ⟨k + 1, by omega, by go_num, _, HS1.out⟩
    case measure => simp [intOf]; omega
  · obtain rfl : k = 64 := by omega
    go_wp2
    go_ret
    exact ⟨rfl, HI.out.done (by omega), HI.out.below⟩
end Pvlive
namespace Pfind
open Pbase Go.RowKit
theorem fcores_nil (w : World) : Calls Tryz.prog 34 #[.pointer none] w fun e w' => e = .returned (.int .i64 0) /\ w' = w := by
 go_enter Tryz.func34, Tryz.ntmps34
 go_wp2
 go_ret
 exact ⟨rfl, rfl⟩
theorem fcores_zero (z : Nat) (w : World) (c5 : w.cell? ⟨z, 5, none⟩ = some (.slice none 0 0)) : Calls Tryz.prog 34 #[.pointer (some ⟨z, 0, none⟩)] w fun e w' => e = .returned (.int .i64 0) /\ w' = w := by
 go_enter Tryz.func34, Tryz.ntmps34
 go_wp2
 go_ret
 exact ⟨rfl, rfl⟩
def NoM (w : World) (mv : Value) : Prop := ∀ wx, Below w.heap.size w wx -> Calls Tryz.prog 34 #[mv] wx fun e w' => e = .returned (.int .i64 0) /\ w' = wx
theorem NoM.on {w w' : World} {mv : Value} (h : NoM w mv) (hB : Below w.heap.size w w') : NoM w' mv := fun wx hx => h wx (hB.trans (hx.mono hB.size))
theorem noM_nil (w : World) : NoM w (.pointer none) := fun wx _ => fcores_nil wx
theorem noM_zero {w : World} {z : Nat} (c5 : w.cell? ⟨z, 5, none⟩ = some (.slice none 0 0)) : NoM w (.pointer (some ⟨z, 0, none⟩)) := fun wx hB => fcores_zero z wx ((hB.cell (p := ⟨z, 5, none⟩) (World.block_lt_of_cell? _ ⟨z, 5, none⟩ c5)).trans c5)
end Pfind
namespace Pbpag
open Pbase Pfind Go.RowKit
theorem ohide {p : Prop} (h : p) : Hid p := h
section
variable {w : World} {q : Option Addr}
theorem made_no (h : NoM w (.pointer q)) : Calls Tryz.prog 10 #[.pointer q] w fun e w' => e = .returned (.int .i64 13) /\ w' = w := by
 have HC := ohide (h w (Below.refl _ _))
 clear h
 go_enter Tryz.func10, Tryz.ntmps10
 go_wp2_with (first
  | (go_at_call 34; refine HC.out.mono ?_; rintro e1 w1 ⟨rfl, hw⟩; subst w1; clear HC)
  | fail)
 go_ret
 exact ⟨rfl, rfl⟩
theorem maymap_no (f : Int) (h : NoM w (.pointer q)) : Calls Tryz.prog 19 #[.pointer q, .int .i64 f] w fun e w' => e = .returned (.int .i64 13) /\ w' = w := by
 have HM := ohide (made_no h)
 clear h
 go_enter Tryz.func19, Tryz.ntmps19
 go_wp2_with (first
  | (go_at_call 10; refine HM.out.mono ?_; rintro e1 w1 ⟨rfl, hw⟩; subst w1; clear HM)
  | fail)
 go_ret
 exact ⟨rfl, rfl⟩
theorem maycons_no (r f : Int) (h : NoM w (.pointer q)) : Calls Tryz.prog 26 #[.pointer q, .int .i64 r, .int .i64 f] w fun e w' => e = .returned (.int .i64 13) /\ w' = w := by
 have HM := ohide (made_no h)
 clear h
 go_enter Tryz.func26, Tryz.ntmps26
 go_wp2_with (first
  | (go_at_call 10; refine HM.out.mono ?_; rintro e1 w1 ⟨rfl, hw⟩; subst w1; clear HM)
  | fail)
 go_ret
 exact ⟨rfl, rfl⟩
theorem unmap_no (a b : Int) (h : NoM w (.pointer q)) : Calls Tryz.prog 4 #[.pointer q, .int .i64 a, .int .i64 b] w fun e w' => e = .returned (.tuple #[.int .i64 0, .int .i64 13]) /\ Below w.heap.size w w' := by
 have HM : Hid (∀ wx, Below w.heap.size w wx -> Calls Tryz.prog 10 #[.pointer q] wx fun e w' => e = .returned (.int .i64 13) /\ w' = wx) := fun wx hB => made_no (h.on hB)
 clear h
 go_enter Tryz.func4, Tryz.ntmps4
 go_wp2_with (first
  | (go_at_call 10; refine (HM.out _ ?hb).mono ?_; (case hb => (repeat (first | exact Below.refl _ _ | refine bal ?_ _))); rintro e1 w1 ⟨rfl, hw⟩; subst w1)
  | fail)
 go_ret2
 exact ⟨rfl, by repeat (first | exact Below.refl _ _ | refine bal ?_ _)⟩
theorem decons_no (a b : Int) (h : NoM w (.pointer q)) : Calls Tryz.prog 5 #[.pointer q, .int .i64 a, .int .i64 b] w fun e w' => e = .returned (.tuple #[.int .i64 0, .int .i64 13]) /\ Below w.heap.size w w' := by
 have HM : Hid (∀ wx, Below w.heap.size w wx -> Calls Tryz.prog 10 #[.pointer q] wx fun e w' => e = .returned (.int .i64 13) /\ w' = wx) := fun wx hB => made_no (h.on hB)
 clear h
 go_enter Tryz.func5, Tryz.ntmps5
 go_wp2_with (first
  | (go_at_call 10; refine (HM.out _ ?hb).mono ?_; (case hb => (repeat (first | exact Below.refl _ _ | refine bal ?_ _))); rintro e1 w1 ⟨rfl, hw⟩; subst w1)
  | fail)
 go_ret2
 exact ⟨rfl, by repeat (first | exact Below.refl _ _ | refine bal ?_ _)⟩
theorem map_no (a b c d : Int) (h : NoM w (.pointer q)) : Calls Tryz.prog 6 #[.pointer q, .int .i64 a, .int .i64 b, .int .i64 c, .int .i64 d] w fun e w' => e = .returned (.int .i64 13) /\ Below w.heap.size w w' := by
 have HM : Hid (∀ wx, Below w.heap.size w wx -> Calls Tryz.prog 19 #[.pointer q, .int .i64 c] wx fun e w' => e = .returned (.int .i64 13) /\ w' = wx) := fun wx hB => maymap_no c (h.on hB)
 clear h
 go_enter Tryz.func6, Tryz.ntmps6
 go_wp2_with (first
  | (go_at_call 19; refine (HM.out _ ?hb).mono ?_; (case hb => (repeat (first | exact Below.refl _ _ | refine bal ?_ _))); rintro e1 w1 ⟨rfl, hw⟩; subst w1)
  | fail)
 go_ret
 exact ⟨rfl, by repeat (first | exact Below.refl _ _ | refine bal ?_ _)⟩
theorem copy_no (a b c d e : Int) (h : NoM w (.pointer q)) : Calls Tryz.prog 7 #[.pointer q, .int .i64 a, .int .i64 b, .int .i64 c, .int .i64 d, .int .i64 e] w fun e w' => e = .returned (.int .i64 13) /\ Below w.heap.size w w' := by
 have HM := ohide (made_no h)
 clear h
 go_enter Tryz.func7, Tryz.ntmps7
 go_wp2_with (first
  | (go_at_call 10; refine HM.out.mono ?_; rintro e1 w1 ⟨rfl, hw⟩; subst w1; clear HM)
  | fail)
 go_ret
 exact ⟨rfl, by repeat (first | exact Below.refl _ _ | refine bal ?_ _)⟩
theorem cons_no (a b c : Int) (h : NoM w (.pointer q)) : Calls Tryz.prog 8 #[.pointer q, .int .i64 a, .int .i64 b, .int .i64 c] w fun e w' => e = .returned (.int .i64 13) /\ Below w.heap.size w w' := by
 have HM : Hid (∀ wx, Below w.heap.size w wx -> Calls Tryz.prog 26 #[.pointer q, .int .i64 a, .int .i64 c] wx fun e w' => e = .returned (.int .i64 13) /\ w' = wx) := fun wx hB => maycons_no a c (h.on hB)
 clear h
 go_enter Tryz.func8, Tryz.ntmps8
 go_wp2_with (first
  | (go_at_call 26; refine (HM.out _ ?hb).mono ?_; (case hb => (repeat (first | exact Below.refl _ _ | refine bal ?_ _))); rintro e1 w1 ⟨rfl, hw⟩; subst w1)
  | fail)
 go_ret
 exact ⟨rfl, by repeat (first | exact Below.refl _ _ | refine bal ?_ _)⟩
end
end Pbpag
end Go.Proofs.YtkkclcihjojphaaGreatDoor
