import Derived.Test.YtkkclcihjojphaaGreatDoorBunPtyp
import Derived.Maps.AppendAt
set_option linter.unusedVariables false
set_option linter.unusedSimpArgs false
set_option maxRecDepth 100000
set_option maxHeartbeats 20000000
namespace Go.Proofs.YtkkclcihjojphaaGreatDoor
namespace Pvtyp
open Pbase Ptint Ptyp Go.RowKit
def fldR (s : FS) (k : Nat) : Int := if k = 0 then s.is else if k = 1 then s.cnt else if k = 2 then s.fr else s.was
def setR (s : FS) (k : Nat) (v : Int) : FS := if k = 0 then { s with is := v } else if k = 1 then { s with cnt := v } else if k = 2 then { s with fr := v } else { s with was := v }
theorem fldR_setR (s : FS) {k j : Nat} (hk : k < 4) (hj : j < 4) (v : Int) : fldR (setR s k v) j = if k = j then v else fldR s j := by
 match k, hk, j, hj with
 | 0, _, 0, _ => rfl
 | 0, _, 1, _ => rfl
 | 0, _, 2, _ => rfl
 | 0, _, 3, _ => rfl
 | 1, _, 0, _ => rfl
 | 1, _, 1, _ => rfl
 | 1, _, 2, _ => rfl
 | 1, _, 3, _ => rfl
 | 2, _, 0, _ => rfl
 | 2, _, 1, _ => rfl
 | 2, _, 2, _ => rfl
 | 2, _, 3, _ => rfl
 | 3, _, 0, _ => rfl
 | 3, _, 1, _ => rfl
 | 3, _, 2, _ => rfl
 | 3, _, 3, _ => rfl
def ListR (w : World) (r N : Nat) (S : Nat -> FS) : Prop := ∃ cur, w.heap[r]? = some (.cells cur 139 (0, 0)) /\ ∀ n k, n < N -> k < 4 -> cur[n * 4 + k]? = some (.int .i64 (fldR (S n) k))
theorem ListR.at {w : World} {r N : Nat} {S : Nat -> FS} (h : ListR w r N S) {n : Nat} (hn : n < N) :
 w.cell? ⟨r, n * 4, none⟩ = some (.int .i64 (S n).is) /\ w.cell? ⟨r, n * 4 + 1, none⟩ = some (.int .i64 (S n).cnt) /\ w.cell? ⟨r, n * 4 + 2, none⟩ = some (.int .i64 (S n).fr) /\ w.cell? ⟨r, n * 4 + 3, none⟩ = some (.int .i64 (S n).was) := by
 obtain ⟨cur, h1, h2⟩ := h
 refine ⟨?_, ?_, ?_, ?_⟩
 · have := h2 n 0 hn (by omega)
   rw [Nat.add_zero] at this
   rw [cell_of_row w r _ _ _ _ h1, this]; rfl
 · rw [cell_of_row w r _ _ _ _ h1, h2 n 1 hn (by omega)]; rfl
 · rw [cell_of_row w r _ _ _ _ h1, h2 n 2 hn (by omega)]; rfl
 · rw [cell_of_row w r _ _ _ _ h1, h2 n 3 hn (by omega)]; rfl
theorem ListR.free {w : World} {r N : Nat} {S : Nat -> FS} (h : ListR w r N S) (j : Nat) : w.frozen? ⟨r, j, none⟩ = false := by
 obtain ⟨cur, h1, _⟩ := h
 exact frozen_of_row w r j _ _ h1
theorem ListR.on {w w' : World} {r N : Nat} {S : Nat -> FS} (h : ListR w r N S) (hk : w'.heap[r]? = w.heap[r]?) : ListR w' r N S := by
 obtain ⟨cur, h1, h2⟩ := h
 exact ⟨cur, hk.trans h1, h2⟩
theorem ListR.lt {w : World} {r N : Nat} {S : Nat -> FS} (h : ListR w r N S) : r < w.heap.size := by
 obtain ⟨cur, h1, _⟩ := h
 exact (Array.getElem?_eq_some_iff.1 h1).1
theorem ListR.put {w : World} {r N : Nat} {S : Nat -> FS} (h : ListR w r N S) {n k : Nat} (hn : n < N) (hk : k < 4) (v : Int) : ListR (w.setCell ⟨r, n * 4 + k, none⟩ (.int .i64 v)) r N (upd S n (setR (S n) k v)) := by
 obtain ⟨cur, h1, h2⟩ := h
 refine ⟨cur.setIfInBounds (n * 4 + k) (.int .i64 v), heap_setCell_same _ _ _ _ _ _ h1, fun m j hm hj => ?_⟩
 rw [Array.getElem?_setIfInBounds]
 by_cases e : n * 4 + k = m * 4 + j
 · obtain rfl : n = m := by omega
   obtain rfl : k = j := by omega
   have hlt : n * 4 + k < cur.size := by
    rcases Nat.lt_or_ge (n * 4 + k) cur.size with h | h
    · exact h
    · have := h2 n k hn hk; rw [Array.getElem?_eq_none h] at this; cases this
   rw [if_pos rfl, if_pos hlt, upd_same, fldR_setR _ hk hk, if_pos rfl]
 · rw [if_neg e, h2 m j hm hj]
   by_cases e2 : m = n
   · subst e2
     rw [upd_same, fldR_setR _ hk hj, if_neg (by omega)]
   · simp [upd, e2]
theorem ListR.put0 {w : World} {r N : Nat} {S : Nat -> FS} (h : ListR w r N S) {n : Nat} (hn : n < N) (v : Int) : ListR (w.setCell ⟨r, n * 4, none⟩ (.int .i64 v)) r N (upd S n (setR (S n) 0 v)) := h.put (k := 0) hn (by omega) v
structure RefAt (w : World) (F : Nat -> Prop) (q N : Nat) (S : Nat -> FS) (r c : Nat) : Prop where
 ge : F q
 head : w.heap[q]? = some (.cells #[.slice (some ⟨r, 0, none⟩) N c] 260 (0, 0))
 list : ListR w r N S
 ger : F r
 ok : okA S
def RefIs (w : World) (F : Nat -> Prop) (q N : Nat) (S : Nat -> FS) : Prop := ∃ r c, RefAt w F q N S r c
theorem RefAt.cell {w : World} {F : Nat -> Prop} {q N : Nat} {S : Nat -> FS} {r c : Nat} (h : RefAt w F q N S r c) : w.cell? ⟨q, 0, none⟩ = some (.slice (some ⟨r, 0, none⟩) N c) := by
 rw [cell_of_row w q 0 _ _ _ h.head]; rfl
theorem RefAt.ne {w : World} {F : Nat -> Prop} {q N : Nat} {S : Nat -> FS} {r c : Nat} (h : RefAt w F q N S r c) : q ≠ r := by
 rintro rfl
 obtain ⟨cur, h1, _⟩ := h.list
 have := h.head.symm.trans h1
 simp at this
theorem RefAt.lt {w : World} {F : Nat -> Prop} {q N : Nat} {S : Nat -> FS} {r c : Nat} (h : RefAt w F q N S r c) : q < w.heap.size := (Array.getElem?_eq_some_iff.1 h.head).1
theorem RefAt.on {w w' : World} {F : Nat -> Prop} {q N : Nat} {S : Nat -> FS} {r c : Nat} (h : RefAt w F q N S r c) (hk : ∀ k, F k -> k < w.heap.size -> w'.heap[k]? = w.heap[k]?) : RefAt w' F q N S r c :=
 ⟨h.ge, (hk q h.ge h.lt).trans h.head, h.list.on (hk r h.ger h.list.lt), h.ger, h.ok⟩
theorem RefIs.on {w w' : World} {F : Nat -> Prop} {q N : Nat} {S : Nat -> FS} (h : RefIs w F q N S) (hk : ∀ k, F k -> k < w.heap.size -> w'.heap[k]? = w.heap[k]?) : RefIs w' F q N S := by
 obtain ⟨r, c, h⟩ := h
 exact ⟨r, c, h.on hk⟩
theorem RefAt.wrote {w w' : World} {F : Nat -> Prop} {q N : Nat} {S T : Nat -> FS} {r c : Nat} (h : RefAt w F q N S r c) (hq : w'.heap[q]? = w.heap[q]?) (hl : ListR w' r N T) (hT : okA T) : RefAt w' F q N T r c := ⟨h.ge, hq.trans h.head, hl, h.ger, hT⟩
theorem is_yes (q r c N f : Nat) (w : World) (hf : f < N) (hN : N <= 64) (hp : w.cell? ⟨q, 0, none⟩ = some (.slice (some ⟨r, 0, none⟩) N c)) :
 Calls Tryz.prog 167 #[.pointer (some ⟨q, 0, none⟩), .int .i64 f] w fun e w' => e = .returned (.bool true) /\ w' = w := by
 have hfi : (f : Int) < (N : Int) := by omega
 go_enter Tryz.func167, Tryz.ntmps167
 go_wp2
 go_ret
 exact ⟨rfl, rfl⟩
theorem is_no (q r c N : Nat) (f : Int) (w : World) (hf : ¬ (0 <= f /\ f < N)) (hN : N <= 64) (hp : w.cell? ⟨q, 0, none⟩ = some (.slice (some ⟨r, 0, none⟩) N c)) :
 Calls Tryz.prog 167 #[.pointer (some ⟨q, 0, none⟩), .int .i64 f] w fun e w' => e = .returned (.bool false) /\ w' = w := by
 by_cases h0 : 0 <= f
 · have h1 : ¬ f < N := by omega
   clear hf
   go_enter Tryz.func167, Tryz.ntmps167
   go_wp2
   go_ret
   exact ⟨by first | rfl | (simp; omega), rfl⟩
 · clear hf
   go_enter Tryz.func167, Tryz.ntmps167
   go_wp2
   go_ret
   exact ⟨rfl, rfl⟩
theorem is_any (q r c N : Nat) (f : Int) (w : World) (hN : N <= 64) (hp : w.cell? ⟨q, 0, none⟩ = some (.slice (some ⟨r, 0, none⟩) N c)) :
 Calls Tryz.prog 167 #[.pointer (some ⟨q, 0, none⟩), .int .i64 f] w fun e w' => e = .returned (.bool (okF N f)) /\ w' = w := by
 cases h : okF N f
 · exact is_no q r c N f w (okF_no h) hN hp
 · obtain ⟨n, rfl, hn⟩ := okF_split h
   exact is_yes q r c N n w hn hN hp
theorem rretype_bad (q r c N : Nat) (f kd : Int) (b : Bool) (w : World) (hok : okF N f = false) (hN : N <= 64) (hp : w.cell? ⟨q, 0, none⟩ = some (.slice (some ⟨r, 0, none⟩) N c)) :
 Calls Tryz.prog 96 #[.pointer (some ⟨q, 0, none⟩), .int .i64 f, .int .i64 kd, .bool b] w fun e w' => e = .returned (.int .i64 1) /\ w' = w := by
 go_enter Tryz.func96, Tryz.ntmps96
 go_wp2_with (go_at_call 167; refine (is_any q r c N f _ hN hp).mono ?_; rintro e w' ⟨rfl, rfl⟩)
 go_ret
 exact ⟨rfl, rfl⟩
theorem rretype_ok (q r c N n : Nat) (kd : Int) (b : Bool) (s : FS) (w : World) (hn : n < N) (hN : N <= 64) (hp : w.cell? ⟨q, 0, none⟩ = some (.slice (some ⟨r, 0, none⟩) N c)) (h0 : w.cell? ⟨r, n * 4, none⟩ = some (.int .i64 s.is)) (z0 : w.frozen? ⟨r, n * 4, none⟩ = false) :
 Calls Tryz.prog 96 #[.pointer (some ⟨q, 0, none⟩), .int .i64 n, .int .i64 kd, .bool b] w fun e w' => e = .returned (.int .i64 (hRt kd b s)) /\ w' = if (kd = 1 \/ kd = 2) /\ s.is = 0 /\ b = true then w.setCell ⟨r, n * 4, none⟩ (.int .i64 kd) else w := by
 have hok := okF_nat hn
 have hni : (n : Int) < (N : Int) := by omega
 obtain ⟨i, c1, c2, c3⟩ := s
 simp only [hRt] at h0 ⊢
 by_cases ht : kd = 1 \/ kd = 2
 · by_cases hi : i = 0
   · subst hi
     cases b
     · rcases ht with rfl | rfl
       all_goals
        simp only [true_or, or_true, if_true, Bool.false_eq_true, and_false, if_false]
        go_enter Tryz.func96, Tryz.ntmps96
        go_wp2_with (go_at_call 167; refine (is_any q r c N n _ hN hp).mono ?_; rintro e w' ⟨rfl, rfl⟩)
        go_ret
        exact ⟨rfl, rfl⟩
     · rcases ht with rfl | rfl
       all_goals
        simp only [true_or, or_true, if_true, and_self]
        go_enter Tryz.func96, Tryz.ntmps96
        go_wp2_with (go_at_call 167; refine (is_any q r c N n _ hN hp).mono ?_; rintro e w' ⟨rfl, rfl⟩)
        go_ret
        exact ⟨rfl, rfl⟩
   · have hi' : (i == 0) = false := by simpa using hi
     have hi2 : (i != 0) = true := by simpa using hi
     simp only [hi, if_false, false_and, and_false]
     rcases ht with rfl | rfl
     all_goals
      simp only [true_or, or_true, if_true]
      go_enter Tryz.func96, Tryz.ntmps96
      go_wp2_with (go_at_call 167; refine (is_any q r c N n _ hN hp).mono ?_; rintro e w' ⟨rfl, rfl⟩)
      go_ret
      exact ⟨rfl, rfl⟩
 · simp only [ht, if_false, false_and]
   have t3 : (kd != 1) = true := by simp; omega
   have t4 : (kd != 2) = true := by simp; omega
   clear ht
   go_enter Tryz.func96, Tryz.ntmps96
   go_wp2_with (go_at_call 167; refine (is_any q r c N n _ hN hp).mono ?_; rintro e w' ⟨rfl, rfl⟩)
   go_ret
   exact ⟨rfl, rfl⟩
theorem rretype_any (F : Nat -> Prop) (q N : Nat) (f kd : Int) (b : Bool) (S : Nat -> FS) (w : World) (hN : N <= 64) (hR : RefIs w F q N S) :
 Calls Tryz.prog 96 #[.pointer (some ⟨q, 0, none⟩), .int .i64 f, .int .i64 kd, .bool b] w fun e w' => e = .returned (.int .i64 (errA N S f (hRt kd b))) /\ RefIs w' F q N (mapA N S f (gRt kd b)) /\ Tint F w w' := by
 obtain ⟨r, c, h⟩ := id hR
 cases hk : okF N f
 · simp only [errA, mapA, hk, Bool.false_eq_true, if_false]
   exact (rretype_bad q r c N f kd b w hk hN h.cell).mono fun _ _ ⟨h1, h2⟩ => ⟨h1, by rw [h2]; exact hR, by rw [h2]; exact Tint.refl _ _⟩
 · obtain ⟨n, rfl, hn⟩ := okF_split hk
   simp only [errA, mapA, hk, if_true, Int.toNat_natCast]
   refine (rretype_ok q r c N n kd b (S n) w hn hN h.cell (h.list.at hn).1 (h.list.free _)).mono ?_
   rintro e w' ⟨rfl, rfl⟩
   refine ⟨rfl, ?_⟩
   by_cases cc : (kd = 1 \/ kd = 2) /\ (S n).is = 0 /\ b = true
   · rw [if_pos cc]
     have e1 : gRt kd b (S n) = setR (S n) 0 kd := by simp [gRt, cc.1, cc.2.1, cc.2.2, setR]
     rw [e1]
     have hT : okA (upd S n (setR (S n) 0 kd)) := by
      have := ok_map h.ok N n (ok_rt kd b)
      simpa only [mapA, hk, if_true, Int.toNat_natCast, e1] using this
     exact ⟨⟨r, c, h.wrote (Below.heap_setCell _ _ _ _ h.ne) (h.list.put0 hn kd) hT⟩, (Tint.refl _ _).setCell h.ger _⟩
   · rw [if_neg cc]
     have : gRt kd b (S n) = S n := by
      unfold gRt
      split
      · split
        · split
          · exact absurd ⟨by assumption, by assumption, by assumption⟩ cc
          · rfl
        · rfl
      · rfl
     rw [this, upd_self]
     exact ⟨hR, Tint.refl _ _⟩
theorem rref_bad (q r c N : Nat) (f : Int) (w : World) (hok : okF N f = false) (hN : N <= 64) (hp : w.cell? ⟨q, 0, none⟩ = some (.slice (some ⟨r, 0, none⟩) N c)) :
 Calls Tryz.prog 187 #[.pointer (some ⟨q, 0, none⟩), .int .i64 f] w fun e w' => e = .returned (.int .i64 1) /\ w' = w := by
 go_enter Tryz.func187, Tryz.ntmps187
 go_wp2_with (go_at_call 167; refine (is_any q r c N f _ hN hp).mono ?_; rintro e w' ⟨rfl, rfl⟩)
 go_ret
 exact ⟨rfl, rfl⟩
theorem rref_ok (q r c N n : Nat) (i x : Int) (w : World) (hn : n < N) (hN : N <= 64) (hx0 : 0 <= x) (hx1 : x <= 1000) (hp : w.cell? ⟨q, 0, none⟩ = some (.slice (some ⟨r, 0, none⟩) N c)) (h0 : w.cell? ⟨r, n * 4, none⟩ = some (.int .i64 i)) (h1 : w.cell? ⟨r, n * 4 + 1, none⟩ = some (.int .i64 x)) (z1 : w.frozen? ⟨r, n * 4 + 1, none⟩ = false) :
 Calls Tryz.prog 187 #[.pointer (some ⟨q, 0, none⟩), .int .i64 n] w fun e w' => e = .returned (.int .i64 (if i = 0 then 4 else if x < 1000 then 0 else 2)) /\ w' = if i = 0 then w else if x < 1000 then w.setCell ⟨r, n * 4 + 1, none⟩ (.int .i64 (x + 1)) else w := by
 have hok := okF_nat hn
 have hni : (n : Int) < (N : Int) := by omega
 by_cases hi : i = 0
 · subst hi
   simp only [if_true]
   go_enter Tryz.func187, Tryz.ntmps187
   go_wp2_with (go_at_call 167; refine (is_any q r c N n _ hN hp).mono ?_; rintro e w' ⟨rfl, rfl⟩)
   go_ret
   exact ⟨rfl, rfl⟩
 · have hi' : (i == 0) = false := by simpa using hi
   by_cases h : x < 1000
   · simp only [hi, h, if_true, if_false]
     have h' : ¬ (1000 : Int) <= x := by omega
     go_enter Tryz.func187, Tryz.ntmps187
     go_wp2_with (go_at_call 167; refine (is_any q r c N n _ hN hp).mono ?_; rintro e w' ⟨rfl, rfl⟩)
     go_ret
     exact ⟨rfl, rfl⟩
   · simp only [hi, h, if_false]
     have h' : (1000 : Int) <= x := by omega
     clear h
     go_enter Tryz.func187, Tryz.ntmps187
     go_wp2_with (go_at_call 167; refine (is_any q r c N n _ hN hp).mono ?_; rintro e w' ⟨rfl, rfl⟩)
     go_ret
     exact ⟨rfl, rfl⟩
theorem rref_any (F : Nat -> Prop) (q N : Nat) (f : Int) (S : Nat -> FS) (w : World) (hN : N <= 64) (hR : RefIs w F q N S) :
 Calls Tryz.prog 187 #[.pointer (some ⟨q, 0, none⟩), .int .i64 f] w fun e w' => e = .returned (.int .i64 (errA N S f hRf)) /\ RefIs w' F q N (mapA N S f gRf) /\ Tint F w w' := by
 obtain ⟨r, c, h⟩ := id hR
 cases hk : okF N f
 · simp only [errA, mapA, hk, Bool.false_eq_true, if_false]
   exact (rref_bad q r c N f w hk hN h.cell).mono fun _ _ ⟨h1, h2⟩ => ⟨h1, by rw [h2]; exact hR, by rw [h2]; exact Tint.refl _ _⟩
 · obtain ⟨n, rfl, hn⟩ := okF_split hk
   simp only [errA, mapA, hk, if_true, Int.toNat_natCast]
   obtain ⟨g0, g1, g2, g3⟩ := h.list.at hn
   have hT : okA (upd S n (gRf (S n))) := by
    have := ok_map h.ok N n ok_rf
    simpa only [mapA, hk, if_true, Int.toNat_natCast] using this
   refine (rref_ok q r c N n _ _ w hn hN (h.ok n).1 (h.ok n).2 h.cell g0 g1 (h.list.free _)).mono ?_
   rintro e w' ⟨rfl, rfl⟩
   refine ⟨rfl, ?_⟩
   by_cases hi : (S n).is = 0
   · rw [if_pos hi]
     have e1 : gRf (S n) = S n := by simp [gRf, hi]
     rw [e1, upd_self]
     exact ⟨hR, Tint.refl _ _⟩
   · rw [if_neg hi]
     by_cases hx : (S n).cnt < 1000
     · rw [if_pos hx]
       have e1 : gRf (S n) = setR (S n) 1 ((S n).cnt + 1) := by simp [gRf, hi, hx, setR]
       rw [e1] at hT ⊢
       exact ⟨⟨r, c, h.wrote (Below.heap_setCell _ _ _ _ h.ne) (h.list.put hn (by omega) _) hT⟩, (Tint.refl _ _).setCell h.ger _⟩
     · rw [if_neg hx]
       have e1 : gRf (S n) = S n := by simp [gRf, hi, hx]
       rw [e1, upd_self]
       exact ⟨hR, Tint.refl _ _⟩
theorem rof_any (F : Nat -> Prop) (q N : Nat) (f : Int) (S : Nat -> FS) (w : World) (hN : N <= 64) (hR : RefIs w F q N S) :
 Calls Tryz.prog 95 #[.pointer (some ⟨q, 0, none⟩), .int .i64 f] w fun e w' => e = .returned (.agg #[.int .i64 (toldA N S f).is, .int .i64 (toldA N S f).cnt, .int .i64 (toldA N S f).fr, .int .i64 (toldA N S f).was]) /\ Below w.heap.size w w' := by
 obtain ⟨r, c, h⟩ := id hR
 have hlt := h.lt
 have hltr := h.list.lt
 have HP : Hid (w.cell? ⟨q, 0, none⟩ = some (.slice (some ⟨r, 0, none⟩) N c)) := h.cell
 cases hk : okF N f
 · simp only [toldA, hk, Bool.false_eq_true, if_false]
   show Calls Tryz.prog 95 #[.pointer (some ⟨q, 0, none⟩), .int .i64 f] w fun e w' => e = .returned (.agg #[.int .i64 0, .int .i64 0, .int .i64 (-1), .int .i64 0]) /\ Below w.heap.size w w'
   clear h hR
   go_enter Tryz.func95, Tryz.ntmps95
   go_wp2_with (go_at_call 167; refine (is_any q r c N f _ hN ((((Below.refl _ w).alloc (Nat.le_refl _) _).cell (p := ⟨q, 0, none⟩) hlt).trans HP.out)).mono ?_; rintro e w1 ⟨rfl, hw1⟩; subst w1)
   refine bodyPost_ret (v := .agg #[.int .i64 0, .int .i64 0, .int .i64 (-1), .int .i64 0]) (by simp [results, Tryz.results95, go_sem]) rfl ⟨rfl, ?_⟩
   repeat (first | exact Below.refl _ _ | (refine Below.setCell ?_ (by simp) _) | (refine Below.alloc ?_ (by simp) _))
 · obtain ⟨n, rfl, hn⟩ := okF_split hk
   simp only [toldA, hk, if_true, Int.toNat_natCast]
   have hni : (n : Int) < (N : Int) := by omega
   have M := (Below.refl w.heap.size w).alloc (Nat.le_refl _) (.cells #[.int .i64 0, .int .i64 0, .int .i64 0, .int .i64 0] 139)
   obtain ⟨g0, g1, g2, g3⟩ := h.list.at hn
   have k0 := (M.cell (p := ⟨r, n * 4, none⟩) hltr).trans g0
   have k1 := (M.cell (p := ⟨r, n * 4 + 1, none⟩) hltr).trans g1
   have k2 := (M.cell (p := ⟨r, n * 4 + 2, none⟩) hltr).trans g2
   have k3 := (M.cell (p := ⟨r, n * 4 + 3, none⟩) hltr).trans g3
   have kp := (M.cell (p := ⟨q, 0, none⟩) hlt).trans HP.out
   obtain ⟨y, hy⟩ : ∃ y, y = S n := ⟨_, rfl⟩
   rw [<- hy] at k0 k1 k2 k3 ⊢
   obtain ⟨y0, y1, y2, y3⟩ := y
   simp only at k0 k1 k2 k3 ⊢
   clear hy g0 g1 g2 g3 M h hR
   go_enter Tryz.func95, Tryz.ntmps95
   go_wp2_with (go_at_call 167; refine (is_any q r c N n _ hN kp).mono ?_; rintro e w1 ⟨rfl, hw1⟩; subst w1)
   refine bodyPost_ret (v := .agg #[.int .i64 y0, .int .i64 y2, .int .i64 y3, .int .i64 y1]) (by simp [results, Tryz.results95, go_sem]) rfl ⟨rfl, ?_⟩
   repeat (first | exact Below.refl _ _ | (refine Below.setCell ?_ (by simp) _) | (refine Below.alloc ?_ (by simp) _))
theorem infoRFrame : (Tryz.prog.info? 139).map (fun i => (i.zero, i.size, i.bytes)) = some (some (.agg #[.int .i64 0, .int .i64 0, .int .i64 0, .int .i64 0]), 4, 32) := by kernel_rfl
def noR : List Value := [.int .i64 0, .int .i64 0, .int .i64 (-1), .int .i64 0]
theorem own_ge {w : World} {base : Nat} {e : TypeId} {size : Nat} {v : Value} {n : Nat} {xs : List Value} (h : w.ownsRow base e size v n xs) : ∀ k, v.ownBlock = some k -> base <= k := fun k hk => (h.lt k hk).1
theorem ownsRow_on {w w' : World} {base : Nat} {e : TypeId} {size : Nat} {v : Value} {n : Nat} {xs : List Value} (h : w.ownsRow base e size v n xs) (hk : ∀ k, base <= k -> k < w.heap.size -> w'.heap[k]? = w.heap[k]?) : w'.ownsRow base e size v n xs := by
 refine ⟨h.1, or_right h.2 ?_⟩
 rintro ⟨g, cap, cur, hv, hg, hh, r⟩
 exact ⟨g, cap, cur, hv, hg, by rw [hk g hg (Array.getElem?_eq_some_iff.1 hh).1]; exact hh, r⟩
def manyR : Nat -> List Value
 | 0 => []
 | k + 1 => manyR k ++ noR
theorem manyR_len (k : Nat) : (manyR k).length = k * 4 := by
 induction k with
 | zero => rfl
 | succ k ih => simp [manyR, ih, noR]; omega
theorem manyR_get (k : Nat) {n j : Nat} (hn : n < k) (hj : j < 4) : (manyR k)[n * 4 + j]? = some (.int .i64 (fldR noFS j)) := by
 induction k with
 | zero => omega
 | succ k ih =>
   by_cases h : n < k
   · rw [manyR, List.getElem?_append_left (by rw [manyR_len]; omega), ih h]
   · obtain rfl : n = k := by omega
     rw [manyR, List.getElem?_append_right (by rw [manyR_len]; omega), manyR_len]
     have e : n * 4 + j - n * 4 = j := by omega
     rw [e]
     match j, hj with
     | 0, _ => rfl
     | 1, _ => rfl
     | 2, _ => rfl
     | 3, _ => rfl
structure NewI (B : Nat) (w wr : World) (v : Value) (k : Nat) : Prop where
 head : wr.heap[B]? = some (.cells #[v] 260 (0, 0))
 owns : wr.ownsRow (B + 1) 139 4 v k (manyR k)
 below : Below B w wr
 size : B + 1 <= wr.heap.size
theorem NewI.start (w : World) : NewI w.heap.size w (w.alloc (.cells #[.slice none 0 0] 260)) (.slice none 0 0) 0 :=
 ⟨heap_alloc_new _ _, ⟨rfl, .inl ⟨rfl, rfl⟩⟩, (Below.refl _ _).alloc (Nat.le_refl _) _, by simp⟩
theorem NewI.done {B N : Nat} {w wr : World} {v : Value} (h : NewI B w wr v N) (hN : 1 <= N) : RefIs wr (fun i => B <= i) B N fun _ => noFS := by
 rcases h.owns.2 with ⟨_, e⟩ | ⟨g, cap, cur, e, hg, hh, _, _, _, ht⟩
 · have e' : N = 0 := e
   omega
 · refine ⟨g, cap, Nat.le_refl _, by rw [h.head, e], ⟨cur, hh, fun n j hn hj => ?_⟩, by omega, ok_no⟩
   have := congrArg (fun l => l[n * 4 + j]?) ht
   have hlt : n * 4 + j < N * 4 := by omega
   simp only [List.getElem?_take, hlt, if_true, Array.getElem?_toList] at this
   rw [this, manyR_get N hn hj]
theorem four_new (w : World) (t : TypeId) : ∀ j u, noR[j]? = some u -> (w.alloc (.cells #[.int .i64 0, .int .i64 0, .int .i64 (-1), .int .i64 0] t)).cell? ((⟨w.heap.size, 0, none⟩ : Addr).add j) = some u := by
 intro j u hj
 rw [Addr.add_lit, Nat.zero_add, World.cell?_alloc_new, <- hj]
 match j with
 | 0 => rfl
 | 1 => rfl
 | 2 => rfl
 | 3 => rfl
 | j + 4 => simp [noR]
theorem NewI.step {B : Nat} {w wr w1 : World} {v : Value} {k : Nat} {v' : Value} {o : Obj} (h : NewI B w wr v k)
 (hown : w1.ownsRow (B + 1) 139 4 v' (k + 1) (manyR k ++ noR)) (hg : (wr.alloc o).grownBy w1 v.ownBlock) :
 w1.heap[B]? = some (.cells #[v] 260 (0, 0)) /\ NewI B w (w1.setCell ⟨B, 0, none⟩ v') v' (k + 1) := by
 have hs := h.size
 have hb1 : Below (B + 1) wr w1 := ((Below.refl _ _).alloc (by omega) o).grown hg (by simp; omega) (own_ge h.owns)
 have hhead : w1.heap[B]? = some (.cells #[v] 260 (0, 0)) := by rw [hb1.block B (by omega)]; exact h.head
 have hz := hb1.size
 refine ⟨hhead, ?_, ?_, ?_, ?_⟩
 · rw [heap_setCell_same w1 B 0 _ _ v' hhead]
   rfl
 · exact ownsRow_on hown fun j hj _ => Below.heap_setCell _ _ _ _ (by show j ≠ B; omega)
 · exact (h.below.trans (hb1.mono (by omega))).setCell (Nat.le_refl _) _
 · simp only [World.size_setCell]
   omega
theorem ownsRow_succ {w : World} {base : Nat} {e : TypeId} {size : Nat} {v : Value} {n : Nat} {xs : List Value} (h : w.ownsRow base e size v (n + 1) xs) : ∃ g cap, v = .slice (some ⟨g, 0, none⟩) (n + 1) cap := by
 rcases h.2 with ⟨_, e⟩ | ⟨g, cap, _, e, _⟩
 · cases e
 · exact ⟨g, cap, e⟩
theorem rnew_ok (N : Nat) (w : World) (hN1 : 1 <= N) (hN : N <= 64) :
 Calls Tryz.prog 162 #[.int .i64 N] w fun e w' => e = .returned (.tuple #[.pointer (some ⟨w.heap.size, 0, none⟩), .int .i64 0]) /\ RefIs w' (fun i => w.heap.size <= i) w.heap.size N (fun _ => noFS) /\ Below w.heap.size w w' := by
 obtain ⟨it, hi, hz0, hz1, hz2⟩ := info_parts infoRFrame
 have h1 : (1 : Int) <= N := by omega
 have h2 : (N : Int) <= 64 := by omega
 have H0 : Hid (NewI w.heap.size w (w.alloc (.cells #[.slice none 0 0] 260)) (.slice none 0 0) 0) := NewI.start w
 go_enter Tryz.func162, Tryz.ntmps162
 go_wp2
 go_loopw [5] (fun i wr => ∃ k : Nat, k <= N /\ i = .int .i64 k /\ ∃ v, NewI w.heap.size w wr v k) (fun i _ => N - (intOf i).toNat)
 case atStart => exact ⟨0, by omega, rfl, _, H0.out⟩
 case round =>
  obtain ⟨k, hk, rfl, v, hI⟩ := hrel
  have HI : Hid (NewI w.heap.size w wr v k) := hI
  clear hI H0
  by_cases hlt : k < N
  · have hki : (k : Int) < (N : Int) := by omega
    have hk64 : (k : Int) < 64 := by omega
    have hs := HI.out.size
    have d0 : wr.cell? ⟨w.heap.size, 0, none⟩ = some v := by rw [cell_of_row wr _ 0 _ _ _ HI.out.head]; rfl
    go_wp2_with (at_builtin; refine wpList_append_own_at _ rfl _ _ 258 rfl (w.heap.size + 1) 139 it _ 4 32 Tryz.underlying258 hi hz0 hz1 hz2 rfl (by decide) _ _ _ rfl (HI.out.owns.alloc _) _ 1 1 noR rfl rfl (four_new wr _) (by simp [noR, Value.oneCell']) (by unfold maxLen; omega) (by omega) (by simp; omega) ?_; intro v1 w1 hown hgrow _ hat; obtain ⟨g1, p1, rfl⟩ := ownsRow_succ hown; have S := HI.out.step hown hgrow; clear d0; have d1 : w1.cell? ⟨w.heap.size, 0, none⟩ = some v := (by rw [cell_of_row w1 _ 0 _ _ _ S.1]; rfl); have z1 : w1.frozen? ⟨w.heap.size, 0, none⟩ = false := frozen_of_row w1 _ 0 _ _ S.1; have HS1 : Hid (NewI w.heap.size w (w1.setCell ⟨w.heap.size, 0, none⟩ (.slice (some ⟨g1, 0, none⟩) (k + 1) p1)) (.slice (some ⟨g1, 0, none⟩) (k + 1) p1) (k + 1)) := S.2; clear hown hgrow hat S)
    go_roundw
    case rel => exact ⟨k + 1, by omega, by go_num, _, HS1.out⟩
    case measure => simp [intOf]; omega
  · obtain rfl : k = N := by omega
    go_wp2
    go_ret2
    exact ⟨rfl, HI.out.done hN1, HI.out.below⟩
end Pvtyp
end Go.Proofs.YtkkclcihjojphaaGreatDoor
