/- The document's own table (a list of structs): where it lies, and what each of its calls answers and does, for every argument; its New stands in a text of its own. -/
import Derived.Test.YtiodocdbhjdfaaaTypC
namespace Go.Proofs.Ytiodocdbhjdfaaa
open Go.RowKit
set_option linter.unusedVariables false

/-- The fields in the document's order. -/
def fldR (s : FS) (k : Nat) : Int := if k = 0 then s.is else if k = 1 then s.cnt else if k = 2 then s.fr else s.was
def setR (s : FS) (k : Nat) (v : Int) : FS := if k = 0 then { s with is := v } else if k = 1 then { s with cnt := v } else if k = 2 then { s with fr := v } else { s with was := v }
theorem fldR_setR (s : FS) {k j : Nat} (hk : k < 4) (hj : j < 4) (v : Int) : fldR (setR s k v) j = if k = j then v else fldR s j := by
  match k, hk, j, hj with
  | 0, _, 0, _ => rfl
  | 0, _, 1, _ => rfl
  | 0, _, 2, _ => rfl
  | 0, _, 3, _ => rfl
  | 1, _, 0, _ => rfl
  | 1, _, 1, _ => rfl
  | 1, _, 2, _ => rfl
  | 1, _, 3, _ => rfl
  | 2, _, 0, _ => rfl
  | 2, _, 1, _ => rfl
  | 2, _, 2, _ => rfl
  | 2, _, 3, _ => rfl
  | 3, _, 0, _ => rfl
  | 3, _, 1, _ => rfl
  | 3, _, 2, _ => rfl
  | 3, _, 3, _ => rfl
/-- Block r holds a list whose first N frames are S's. -/
def ListR (w : World) (r N : Nat) (S : Nat → FS) : Prop := ∃ cur, w.heap[r]? = some (.cells cur 40 (0, 0)) ∧ ∀ n k, n < N → k < 4 → cur[n * 4 + k]? = some (.int .i64 (fldR (S n) k))
theorem ListR.at {w : World} {r N : Nat} {S : Nat → FS} (h : ListR w r N S) {n : Nat} (hn : n < N) :
    w.cell? ⟨r, n * 4, none⟩ = some (.int .i64 (S n).is) ∧ w.cell? ⟨r, n * 4 + 1, none⟩ = some (.int .i64 (S n).cnt) ∧ w.cell? ⟨r, n * 4 + 2, none⟩ = some (.int .i64 (S n).fr) ∧ w.cell? ⟨r, n * 4 + 3, none⟩ = some (.int .i64 (S n).was) := by
  obtain ⟨cur, h1, h2⟩ := h
  refine ⟨?_, ?_, ?_, ?_⟩
  · have := h2 n 0 hn (by omega)
    rw [Nat.add_zero] at this
    rw [cell_of_row w r _ _ _ _ h1, this]; rfl
  · rw [cell_of_row w r _ _ _ _ h1, h2 n 1 hn (by omega)]; rfl
  · rw [cell_of_row w r _ _ _ _ h1, h2 n 2 hn (by omega)]; rfl
  · rw [cell_of_row w r _ _ _ _ h1, h2 n 3 hn (by omega)]; rfl
theorem ListR.free {w : World} {r N : Nat} {S : Nat → FS} (h : ListR w r N S) (j : Nat) : w.frozen? ⟨r, j, none⟩ = false := by
  obtain ⟨cur, h1, _⟩ := h
  exact frozen_of_row w r j _ _ h1
theorem ListR.on {w w' : World} {r N : Nat} {S : Nat → FS} (h : ListR w r N S) (hk : w'.heap[r]? = w.heap[r]?) : ListR w' r N S := by
  obtain ⟨cur, h1, h2⟩ := h
  exact ⟨cur, hk.trans h1, h2⟩
theorem ListR.lt {w : World} {r N : Nat} {S : Nat → FS} (h : ListR w r N S) : r < w.heap.size := by
  obtain ⟨cur, h1, _⟩ := h
  exact (Array.getElem?_eq_some_iff.1 h1).1
theorem ListR.put {w : World} {r N : Nat} {S : Nat → FS} (h : ListR w r N S) {n k : Nat} (hn : n < N) (hk : k < 4) (v : Int) : ListR (w.setCell ⟨r, n * 4 + k, none⟩ (.int .i64 v)) r N (upd S n (setR (S n) k v)) := by
  obtain ⟨cur, h1, h2⟩ := h
  refine ⟨cur.setIfInBounds (n * 4 + k) (.int .i64 v), heap_setCell_same _ _ _ _ _ _ h1, fun m j hm hj => ?_⟩
  rw [Array.getElem?_setIfInBounds]
  by_cases e : n * 4 + k = m * 4 + j
  · obtain rfl : n = m := by omega
    obtain rfl : k = j := by omega
    have hlt : n * 4 + k < cur.size := by
      rcases Nat.lt_or_ge (n * 4 + k) cur.size with h | h
      · exact h
      · have := h2 n k hn hk; rw [Array.getElem?_eq_none h] at this; cases this
    rw [if_pos rfl, if_pos hlt, upd_same, fldR_setR _ hk hk, if_pos rfl]
  · rw [if_neg e, h2 m j hm hj]
    by_cases e2 : m = n
    · subst e2
      rw [upd_same, fldR_setR _ hk hj, if_neg (by omega)]
    · simp [upd, e2]
theorem ListR.put0 {w : World} {r N : Nat} {S : Nat → FS} (h : ListR w r N S) {n : Nat} (hn : n < N) (v : Int) : ListR (w.setCell ⟨r, n * 4, none⟩ (.int .i64 v)) r N (upd S n (setR (S n) 0 v)) := h.put (k := 0) hn (by omega) v
/-- The document's table lies behind the pointer to block q, its list in block r: both from base on. -/
structure RefAt (w : World) (base q N : Nat) (S : Nat → FS) (r c : Nat) : Prop where
  ge : base ≤ q
  head : w.heap[q]? = some (.cells #[.slice (some ⟨r, 0, none⟩) N c] 55 (0, 0))
  list : ListR w r N S
  ger : base ≤ r
  ok : okA S
def RefIs (w : World) (base q N : Nat) (S : Nat → FS) : Prop := ∃ r c, RefAt w base q N S r c
theorem RefAt.cell {w : World} {base q N : Nat} {S : Nat → FS} {r c : Nat} (h : RefAt w base q N S r c) : w.cell? ⟨q, 0, none⟩ = some (.slice (some ⟨r, 0, none⟩) N c) := by
  rw [cell_of_row w q 0 _ _ _ h.head]; rfl
theorem RefAt.ne {w : World} {base q N : Nat} {S : Nat → FS} {r c : Nat} (h : RefAt w base q N S r c) : q ≠ r := by
  rintro rfl
  obtain ⟨cur, h1, _⟩ := h.list
  have := h.head.symm.trans h1
  simp at this
theorem RefAt.lt {w : World} {base q N : Nat} {S : Nat → FS} {r c : Nat} (h : RefAt w base q N S r c) : q < w.heap.size := (Array.getElem?_eq_some_iff.1 h.head).1
theorem RefAt.on {w w' : World} {base q N : Nat} {S : Nat → FS} {r c : Nat} (h : RefAt w base q N S r c) (hk : ∀ k, base ≤ k → k < w.heap.size → w'.heap[k]? = w.heap[k]?) : RefAt w' base q N S r c :=
  ⟨h.ge, (hk q h.ge h.lt).trans h.head, h.list.on (hk r h.ger h.list.lt), h.ger, h.ok⟩
theorem RefIs.on {w w' : World} {base q N : Nat} {S : Nat → FS} (h : RefIs w base q N S) (hk : ∀ k, base ≤ k → k < w.heap.size → w'.heap[k]? = w.heap[k]?) : RefIs w' base q N S := by
  obtain ⟨r, c, h⟩ := h
  exact ⟨r, c, h.on hk⟩
theorem RefIs.more {w w' : World} {base q N : Nat} {S : Nat → FS} (h : RefIs w base q N S) (m : Below w.heap.size w w') : RefIs w' base q N S := h.on fun k _ hk => m.block k hk
theorem RefIs.drewN {w : World} {base q N : Nat} {S : Nat → FS} (h : RefIs w base q N S) (n : Nat) : RefIs (w.drewN n) base q N S := h.on fun _ _ _ => rfl
theorem RefIs.drew {w : World} {base q N : Nat} {S : Nat → FS} (h : RefIs w base q N S) : RefIs w.drew base q N S := h.on fun _ _ _ => rfl
theorem RefIs.setRow {w : World} {base q N : Nat} {S : Nat → FS} (h : RefIs w base q N S) {b : Nat} (hb : b < base) (cs : Array Value) : RefIs (w.setRow b cs) base q N S := h.on fun k hk _ => setRow_other w b k cs (by omega)
/-- The list was written, and nothing else of the table. -/
theorem RefAt.wrote {w w' : World} {base q N : Nat} {S T : Nat → FS} {r c : Nat} (h : RefAt w base q N S r c) (hq : w'.heap[q]? = w.heap[q]?) (hl : ListR w' r N T) (hT : okA T) : RefAt w' base q N T r c := ⟨h.ge, hq.trans h.head, hl, h.ger, hT⟩

/-! ### The calls -/
theorem is_yes (q r c N f : Nat) (w : World) (hf : f < N) (hN : N ≤ 64) (hp : w.cell? ⟨q, 0, none⟩ = some (.slice (some ⟨r, 0, none⟩) N c)) :
    Calls Try.prog 25 #[.pointer (some ⟨q, 0, none⟩), .int .i64 f] w fun e w' => e = .returned (.bool true) ∧ w' = w := by
  have hfi : (f : Int) < (N : Int) := by omega
  go_enter Try.func25, Try.ntmps25
  go_wp2
  go_ret
  exact ⟨rfl, rfl⟩
theorem is_no (q r c N : Nat) (f : Int) (w : World) (hf : ¬ (0 ≤ f ∧ f < N)) (hN : N ≤ 64) (hp : w.cell? ⟨q, 0, none⟩ = some (.slice (some ⟨r, 0, none⟩) N c)) :
    Calls Try.prog 25 #[.pointer (some ⟨q, 0, none⟩), .int .i64 f] w fun e w' => e = .returned (.bool false) ∧ w' = w := by
  by_cases h0 : 0 ≤ f
  · have h1 : ¬ f < N := by omega
    clear hf
    go_enter Try.func25, Try.ntmps25
    go_wp2
    go_ret
    exact ⟨by first | rfl | (simp; omega), rfl⟩
  · clear hf
    go_enter Try.func25, Try.ntmps25
    go_wp2
    go_ret
    exact ⟨rfl, rfl⟩
theorem is_any (q r c N : Nat) (f : Int) (w : World) (hN : N ≤ 64) (hp : w.cell? ⟨q, 0, none⟩ = some (.slice (some ⟨r, 0, none⟩) N c)) :
    Calls Try.prog 25 #[.pointer (some ⟨q, 0, none⟩), .int .i64 f] w fun e w' => e = .returned (.bool (okF N f)) ∧ w' = w := by
  cases h : okF N f
  · exact is_no q r c N f w (okF_no h) hN hp
  · obtain ⟨n, rfl, hn⟩ := okF_split h
    exact is_yes q r c N n w hn hN hp

/-! ### Retype -/
theorem rretype_bad (q r c N : Nat) (f kd : Int) (b : Bool) (w : World) (hok : okF N f = false) (hN : N ≤ 64) (hp : w.cell? ⟨q, 0, none⟩ = some (.slice (some ⟨r, 0, none⟩) N c)) :
    Calls Try.prog 11 #[.pointer (some ⟨q, 0, none⟩), .int .i64 f, .int .i64 kd, .bool b] w fun e w' => e = .returned (.int .i64 1) ∧ w' = w := by
  go_enter Try.func11, Try.ntmps11
  go_wp2_with (go_at_call 25; refine (is_any q r c N f _ hN hp).mono ?_; rintro e w' ⟨rfl, rfl⟩)
  go_ret
  exact ⟨rfl, rfl⟩
theorem rretype_ok (q r c N n : Nat) (kd : Int) (b : Bool) (s : FS) (w : World) (hn : n < N) (hN : N ≤ 64) (hp : w.cell? ⟨q, 0, none⟩ = some (.slice (some ⟨r, 0, none⟩) N c)) (h0 : w.cell? ⟨r, n * 4, none⟩ = some (.int .i64 s.is)) (z0 : w.frozen? ⟨r, n * 4, none⟩ = false) :
    Calls Try.prog 11 #[.pointer (some ⟨q, 0, none⟩), .int .i64 n, .int .i64 kd, .bool b] w fun e w' => e = .returned (.int .i64 (hRt kd b s)) ∧ w' = if (kd = 1 ∨ kd = 2) ∧ s.is = 0 ∧ b = true then w.setCell ⟨r, n * 4, none⟩ (.int .i64 kd) else w := by
  have hok := okF_nat hn
  have hni : (n : Int) < (N : Int) := by omega
  obtain ⟨i, c1, c2, c3⟩ := s
  simp only [hRt] at h0 ⊢
  by_cases ht : kd = 1 ∨ kd = 2
  · by_cases hi : i = 0
    · subst hi
      cases b
      · rcases ht with rfl | rfl
        all_goals
          simp only [true_or, or_true, if_true, Bool.false_eq_true, and_false, if_false]
          go_enter Try.func11, Try.ntmps11
          go_wp2_with (go_at_call 25; refine (is_any q r c N n _ hN hp).mono ?_; rintro e w' ⟨rfl, rfl⟩)
          go_ret
          exact ⟨rfl, rfl⟩
      · rcases ht with rfl | rfl
        all_goals
          simp only [true_or, or_true, if_true, and_self]
          go_enter Try.func11, Try.ntmps11
          go_wp2_with (go_at_call 25; refine (is_any q r c N n _ hN hp).mono ?_; rintro e w' ⟨rfl, rfl⟩)
          go_ret
          exact ⟨rfl, rfl⟩
    · have hi' : (i == 0) = false := by simpa using hi
      have hi2 : (i != 0) = true := by simpa using hi
      simp only [hi, if_false, false_and, and_false]
      rcases ht with rfl | rfl
      all_goals
        simp only [true_or, or_true, if_true]
        go_enter Try.func11, Try.ntmps11
        go_wp2_with (go_at_call 25; refine (is_any q r c N n _ hN hp).mono ?_; rintro e w' ⟨rfl, rfl⟩)
        go_ret
        exact ⟨rfl, rfl⟩
  · simp only [ht, if_false, false_and]
    have t3 : (kd != 1) = true := by simp; omega
    have t4 : (kd != 2) = true := by simp; omega
    clear ht
    go_enter Try.func11, Try.ntmps11
    go_wp2_with (go_at_call 25; refine (is_any q r c N n _ hN hp).mono ?_; rintro e w' ⟨rfl, rfl⟩)
    go_ret
    exact ⟨rfl, rfl⟩
theorem rretype_any (base q N : Nat) (f kd : Int) (b : Bool) (S : Nat → FS) (w : World) (hN : N ≤ 64) (hR : RefIs w base q N S) :
    Calls Try.prog 11 #[.pointer (some ⟨q, 0, none⟩), .int .i64 f, .int .i64 kd, .bool b] w fun e w' => e = .returned (.int .i64 (errA N S f (hRt kd b))) ∧ RefIs w' base q N (mapA N S f (gRt kd b)) ∧ Below base w w' := by
  obtain ⟨r, c, h⟩ := id hR
  cases hk : okF N f
  · simp only [errA, mapA, hk, Bool.false_eq_true, if_false]
    exact (rretype_bad q r c N f kd b w hk hN h.cell).mono fun _ _ ⟨h1, h2⟩ => ⟨h1, by rw [h2]; exact hR, by rw [h2]; exact Below.refl _ _⟩
  · obtain ⟨n, rfl, hn⟩ := okF_split hk
    simp only [errA, mapA, hk, if_true, Int.toNat_natCast]
    refine (rretype_ok q r c N n kd b (S n) w hn hN h.cell (h.list.at hn).1 (h.list.free _)).mono ?_
    rintro e w' ⟨rfl, rfl⟩
    refine ⟨rfl, ?_⟩
    by_cases cc : (kd = 1 ∨ kd = 2) ∧ (S n).is = 0 ∧ b = true
    · rw [if_pos cc]
      have e1 : gRt kd b (S n) = setR (S n) 0 kd := by simp [gRt, cc.1, cc.2.1, cc.2.2, setR]
      rw [e1]
      have hT : okA (upd S n (setR (S n) 0 kd)) := by
        have := ok_map h.ok N n (ok_rt kd b)
        simpa only [mapA, hk, if_true, Int.toNat_natCast, e1] using this
      exact ⟨⟨r, c, h.wrote (Below.heap_setCell _ _ _ _ h.ne) (h.list.put0 hn kd) hT⟩, (Below.refl _ _).setCell (p := ⟨r, n * 4, none⟩) h.ger _⟩
    · rw [if_neg cc]
      have : gRt kd b (S n) = S n := by
        unfold gRt
        split
        · split
          · split
            · exact absurd ⟨by assumption, by assumption, by assumption⟩ cc
            · rfl
          · rfl
        · rfl
      rw [this, upd_self]
      exact ⟨hR, Below.refl _ _⟩

end Go.Proofs.Ytiodocdbhjdfaaa
