/- The document's own clock (three lists beside a time): where it lies, and what each of its calls answers and does, for every argument; its New stands in a text of its own. -/
import Derived.Test.YtjbchnnbphikhaaClkB
namespace Go.Proofs.Ytjbchnnbphikhaa
open Go.RowKit
set_option linter.unusedVariables false

/-- Block r holds a list whose first N are f's. -/
def ListIs (w : World) (r N : Nat) (f : Nat → Int) : Prop := ∃ cur, w.heap[r]? = some (.cells cur 3 (0, 0)) ∧ ∀ j, j < N → cur[j]? = some (.int .i64 (f j))
theorem ListIs.cell {w : World} {r N : Nat} {f : Nat → Int} (h : ListIs w r N f) {j : Nat} (hj : j < N) : w.cell? ⟨r, j, none⟩ = some (.int .i64 (f j)) := by
  obtain ⟨cur, h1, h2⟩ := h
  rw [cell_of_row w r j _ _ _ h1, h2 j hj]
theorem ListIs.free {w : World} {r N : Nat} {f : Nat → Int} (h : ListIs w r N f) (j : Nat) : w.frozen? ⟨r, j, none⟩ = false := by
  obtain ⟨cur, h1, _⟩ := h
  exact frozen_of_row w r j _ _ h1
theorem ListIs.on {w w' : World} {r N : Nat} {f : Nat → Int} (h : ListIs w r N f) (hk : w'.heap[r]? = w.heap[r]?) : ListIs w' r N f := by
  obtain ⟨cur, h1, h2⟩ := h
  exact ⟨cur, hk.trans h1, h2⟩
theorem ListIs.lt {w : World} {r N : Nat} {f : Nat → Int} (h : ListIs w r N f) : r < w.heap.size := by
  obtain ⟨cur, h1, _⟩ := h
  exact (Array.getElem?_eq_some_iff.1 h1).1
theorem ListIs.put {w : World} {r N : Nat} {f : Nat → Int} (h : ListIs w r N f) {c : Nat} (hc : c < N) (v : Int) : ListIs (w.setCell ⟨r, c, none⟩ (.int .i64 v)) r N (fun j => if j = c then v else f j) := by
  obtain ⟨cur, h1, h2⟩ := h
  refine ⟨cur.setIfInBounds c (.int .i64 v), heap_setCell_same _ _ _ _ _ _ h1, fun j hj => ?_⟩
  rw [Array.getElem?_setIfInBounds]
  by_cases e : c = j
  · subst e
    have hlt : c < cur.size := by
      rcases Nat.lt_or_ge c cur.size with h | h
      · exact h
      · have := h2 c hc; rw [Array.getElem?_eq_none h] at this; cases this
    simp [hlt]
  · rw [if_neg e, h2 j hj]
    simp [Ne.symm e]
theorem ListIs.congr {w : World} {r N : Nat} {f g : Nat → Int} (h : ListIs w r N f) (e : ∀ j, j < N → f j = g j) : ListIs w r N g := by
  obtain ⟨cur, h1, h2⟩ := h
  exact ⟨cur, h1, fun j hj => by rw [h2 j hj, e j hj]⟩
/-- The document's clock lies behind the pointer to block q, its lists in the blocks r1, r2, r3: all from base on. -/
structure RefAt (w : World) (base q N : Nat) (s : CS) (r1 r2 r3 c1 c2 c3 : Nat) : Prop where
  ge : base ≤ q
  head : w.heap[q]? = some (.cells #[.int .i64 s.now, .slice (some ⟨r1, 0, none⟩) N c1, .slice (some ⟨r2, 0, none⟩) N c2, .slice (some ⟨r3, 0, none⟩) N c3] 51 (0, 0))
  l1 : ListIs w r1 N s.cy
  l2 : ListIs w r2 N s.en
  l3 : ListIs w r3 N s.fl
  g1 : base ≤ r1
  g2 : base ≤ r2
  g3 : base ≤ r3
  n12 : r1 ≠ r2
  n13 : r1 ≠ r3
  n23 : r2 ≠ r3
  ok : s.ok
def RefIs (w : World) (base q N : Nat) (s : CS) : Prop := ∃ r1 r2 r3 c1 c2 c3, RefAt w base q N s r1 r2 r3 c1 c2 c3
theorem RefAt.ne {w : World} {base q N : Nat} {s : CS} {r1 r2 r3 c1 c2 c3 : Nat} (h : RefAt w base q N s r1 r2 r3 c1 c2 c3) : r1 ≠ q ∧ r2 ≠ q ∧ r3 ≠ q := by
  have key : ∀ r (f : Nat → Int), ListIs w r N f → r ≠ q := by
    rintro r f ⟨cur, h1, _⟩ rfl
    rw [h.head] at h1
    simp at h1
  exact ⟨key _ _ h.l1, key _ _ h.l2, key _ _ h.l3⟩
theorem RefAt.c0 {w : World} {base q N : Nat} {s : CS} {r1 r2 r3 c1 c2 c3 : Nat} (h : RefAt w base q N s r1 r2 r3 c1 c2 c3) : w.cell? ⟨q, 0, none⟩ = some (.int .i64 s.now) := by
  rw [cell_of_row w q 0 _ _ _ h.head]; rfl
theorem RefAt.c1 {w : World} {base q N : Nat} {s : CS} {r1 r2 r3 c1 c2 c3 : Nat} (h : RefAt w base q N s r1 r2 r3 c1 c2 c3) : w.cell? ⟨q, 1, none⟩ = some (.slice (some ⟨r1, 0, none⟩) N c1) := by
  rw [cell_of_row w q 1 _ _ _ h.head]; rfl
theorem RefAt.c2 {w : World} {base q N : Nat} {s : CS} {r1 r2 r3 c1 c2 c3 : Nat} (h : RefAt w base q N s r1 r2 r3 c1 c2 c3) : w.cell? ⟨q, 2, none⟩ = some (.slice (some ⟨r2, 0, none⟩) N c2) := by
  rw [cell_of_row w q 2 _ _ _ h.head]; rfl
theorem RefAt.c3 {w : World} {base q N : Nat} {s : CS} {r1 r2 r3 c1 c2 c3 : Nat} (h : RefAt w base q N s r1 r2 r3 c1 c2 c3) : w.cell? ⟨q, 3, none⟩ = some (.slice (some ⟨r3, 0, none⟩) N c3) := by
  rw [cell_of_row w q 3 _ _ _ h.head]; rfl
theorem RefAt.free {w : World} {base q N : Nat} {s : CS} {r1 r2 r3 c1 c2 c3 : Nat} (h : RefAt w base q N s r1 r2 r3 c1 c2 c3) (j : Nat) : w.frozen? ⟨q, j, none⟩ = false := frozen_of_row w q j _ _ h.head
theorem RefAt.on {w w' : World} {base q N : Nat} {s : CS} {r1 r2 r3 c1 c2 c3 : Nat} (h : RefAt w base q N s r1 r2 r3 c1 c2 c3) (hk : ∀ k, base ≤ k → k < w.heap.size → w'.heap[k]? = w.heap[k]?) : RefAt w' base q N s r1 r2 r3 c1 c2 c3 :=
  ⟨h.ge, (hk q h.ge (Array.getElem?_eq_some_iff.1 h.head).1).trans h.head, h.l1.on (hk _ h.g1 h.l1.lt), h.l2.on (hk _ h.g2 h.l2.lt), h.l3.on (hk _ h.g3 h.l3.lt), h.g1, h.g2, h.g3, h.n12, h.n13, h.n23, h.ok⟩
theorem RefAt.more {w w' : World} {base q N : Nat} {s : CS} {r1 r2 r3 c1 c2 c3 : Nat} (h : RefAt w base q N s r1 r2 r3 c1 c2 c3) (m : More w w') : RefAt w' base q N s r1 r2 r3 c1 c2 c3 := h.on fun k _ hk => m.below.block k hk
theorem RefIs.on {w w' : World} {base q N : Nat} {s : CS} (h : RefIs w base q N s) (hk : ∀ k, base ≤ k → k < w.heap.size → w'.heap[k]? = w.heap[k]?) : RefIs w' base q N s := by
  obtain ⟨r1, r2, r3, c1, c2, c3, h⟩ := h
  exact ⟨r1, r2, r3, c1, c2, c3, h.on hk⟩
theorem RefIs.more {w w' : World} {base q N : Nat} {s : CS} (h : RefIs w base q N s) (m : More w w') : RefIs w' base q N s := h.on fun k _ hk => m.below.block k hk
theorem RefIs.setRow {w : World} {base q N : Nat} {s : CS} (h : RefIs w base q N s) {b : Nat} (hb : b < base) (cs : Array Value) : RefIs (w.setRow b cs) base q N s := h.on fun k hk _ => setRow_other w b k cs (by omega)
theorem heap_set_ne (w : World) (b i k : Nat) (v : Value) (h : k ≠ b) : (w.setCell ⟨b, i, none⟩ v).heap[k]? = w.heap[k]? := Below.heap_setCell _ _ _ _ h
theorem RefAt.step {w : World} {base q N : Nat} {s : CS} {r1 r2 r3 c1 c2 c3 : Nat} (h : RefAt w base q N s r1 r2 r3 c1 c2 c3) {c : Nat} (hc : c < N) (ht : s.now < 1073741824) :
    RefAt ((w.setCell ⟨q, 0, none⟩ (.int .i64 (s.now + 1))).setCell ⟨r1, c, none⟩ (.int .i64 (s.cy c + 1))) base q N (stepS N s c) r1 r2 r3 c1 c2 c3 := by
  have hk := ok_step h.ok N c
  simp only [stepS, okF_nat hc, ht, if_true, Int.toNat_natCast] at hk ⊢
  have ne := h.ne
  have h0 := heap_setCell_same w q 0 _ _ (.int .i64 (s.now + 1)) h.head
  refine ⟨h.ge, ?_, ?_, ?_, ?_, h.g1, h.g2, h.g3, h.n12, h.n13, h.n23, hk⟩
  · rw [heap_set_ne _ _ _ _ _ (Ne.symm ne.1), h0]; rfl
  · refine ((h.l1.on (heap_set_ne _ _ _ _ _ ne.1)).put hc (s.cy c + 1)).congr fun j _ => ?_
    by_cases e : j = c
    · subst e; simp
    · simp [e]
  · exact h.l2.on ((heap_set_ne _ _ _ _ _ (Ne.symm h.n12)).trans (heap_set_ne _ _ _ _ _ ne.2.1))
  · exact h.l3.on ((heap_set_ne _ _ _ _ _ (Ne.symm h.n13)).trans (heap_set_ne _ _ _ _ _ ne.2.2))
theorem RefAt.enter {w : World} {base q N : Nat} {s : CS} {r1 r2 r3 c1 c2 c3 : Nat} (h : RefAt w base q N s r1 r2 r3 c1 c2 c3) {c : Nat} (hc : c < N) :
    RefAt (w.setCell ⟨r2, c, none⟩ (.int .i64 s.now)) base q N (enterS N s c) r1 r2 r3 c1 c2 c3 := by
  have hk := ok_enter h.ok N c
  simp only [enterS, okF_nat hc, if_true, Int.toNat_natCast] at hk ⊢
  have ne := h.ne
  exact ⟨h.ge, (heap_set_ne _ _ _ _ _ (Ne.symm ne.2.1)).trans h.head, h.l1.on (heap_set_ne _ _ _ _ _ h.n12), h.l2.put hc _, h.l3.on (heap_set_ne _ _ _ _ _ (Ne.symm h.n23)), h.g1, h.g2, h.g3, h.n12, h.n13, h.n23, hk⟩
theorem RefAt.flush {w : World} {base q N : Nat} {s : CS} {r1 r2 r3 c1 c2 c3 : Nat} (h : RefAt w base q N s r1 r2 r3 c1 c2 c3) {c : Nat} (hc : c < N) :
    RefAt (w.setCell ⟨r3, c, none⟩ (.int .i64 s.now)) base q N (flushS N s c) r1 r2 r3 c1 c2 c3 := by
  have hk := ok_flush h.ok N c
  simp only [flushS, okF_nat hc, if_true, Int.toNat_natCast] at hk ⊢
  have ne := h.ne
  exact ⟨h.ge, (heap_set_ne _ _ _ _ _ (Ne.symm ne.2.2)).trans h.head, h.l1.on (heap_set_ne _ _ _ _ _ h.n13), h.l2.on (heap_set_ne _ _ _ _ _ h.n23), h.l3.put hc _, h.g1, h.g2, h.g3, h.n12, h.n13, h.n23, hk⟩

/-! ### The calls -/
theorem is_yes (q r c1 N f : Nat) (w : World) (hf : f < N) (hN : N ≤ 4) (hp : w.cell? ⟨q, 1, none⟩ = some (.slice (some ⟨r, 0, none⟩) N c1)) :
    Calls Try.prog 26 #[.pointer (some ⟨q, 0, none⟩), .int .i64 f] w fun e w' => e = .returned (.bool true) ∧ w' = w := by
  have hfi : (f : Int) < (N : Int) := by omega
  go_enter Try.func26, Try.ntmps26
  go_wp2
  go_ret
  exact ⟨rfl, rfl⟩
theorem is_no (q r c1 N : Nat) (f : Int) (w : World) (hf : ¬ (0 ≤ f ∧ f < N)) (hN : N ≤ 4) (hp : w.cell? ⟨q, 1, none⟩ = some (.slice (some ⟨r, 0, none⟩) N c1)) :
    Calls Try.prog 26 #[.pointer (some ⟨q, 0, none⟩), .int .i64 f] w fun e w' => e = .returned (.bool false) ∧ w' = w := by
  by_cases h0 : 0 ≤ f
  · have h1 : ¬ f < N := by omega
    clear hf
    go_enter Try.func26, Try.ntmps26
    go_wp2
    go_ret
    exact ⟨by first | rfl | (simp; omega), rfl⟩
  · clear hf
    go_enter Try.func26, Try.ntmps26
    go_wp2
    go_ret
    exact ⟨rfl, rfl⟩
theorem is_any (q r c1 N : Nat) (f : Int) (w : World) (hN : N ≤ 4) (hp : w.cell? ⟨q, 1, none⟩ = some (.slice (some ⟨r, 0, none⟩) N c1)) :
    Calls Try.prog 26 #[.pointer (some ⟨q, 0, none⟩), .int .i64 f] w fun e w' => e = .returned (.bool (okF N f)) ∧ w' = w := by
  cases h : okF N f
  · exact is_no q r c1 N f w (okF_no h) hN hp
  · obtain ⟨c, rfl, hc⟩ := okF_split h
    exact is_yes q r c1 N c w hc hN hp
theorem rstep_bad (q r c1 N : Nat) (f : Int) (w : World) (hok : okF N f = false) (hN : N ≤ 4) (hp : w.cell? ⟨q, 1, none⟩ = some (.slice (some ⟨r, 0, none⟩) N c1)) :
    Calls Try.prog 10 #[.pointer (some ⟨q, 0, none⟩), .int .i64 f] w fun e w' => e = .returned (.int .i64 1) ∧ w' = w := by
  go_enter Try.func10, Try.ntmps10
  go_wp2_with (go_at_call 26; refine (is_any q r c1 N f _ hN hp).mono ?_; rintro e w' ⟨rfl, rfl⟩)
  go_ret
  exact ⟨rfl, rfl⟩
theorem renter_bad (q r c1 N : Nat) (f : Int) (w : World) (hok : okF N f = false) (hN : N ≤ 4) (hp : w.cell? ⟨q, 1, none⟩ = some (.slice (some ⟨r, 0, none⟩) N c1)) :
    Calls Try.prog 12 #[.pointer (some ⟨q, 0, none⟩), .int .i64 f] w fun e w' => e = .returned (.int .i64 1) ∧ w' = w := by
  go_enter Try.func12, Try.ntmps12
  go_wp2_with (go_at_call 26; refine (is_any q r c1 N f _ hN hp).mono ?_; rintro e w' ⟨rfl, rfl⟩)
  go_ret
  exact ⟨rfl, rfl⟩
theorem rflush_bad (q r c1 N : Nat) (f : Int) (w : World) (hok : okF N f = false) (hN : N ≤ 4) (hp : w.cell? ⟨q, 1, none⟩ = some (.slice (some ⟨r, 0, none⟩) N c1)) :
    Calls Try.prog 14 #[.pointer (some ⟨q, 0, none⟩), .int .i64 f] w fun e w' => e = .returned (.int .i64 1) ∧ w' = w := by
  go_enter Try.func14, Try.ntmps14
  go_wp2_with (go_at_call 26; refine (is_any q r c1 N f _ hN hp).mono ?_; rintro e w' ⟨rfl, rfl⟩)
  go_ret
  exact ⟨rfl, rfl⟩
theorem rstep_full (q r c1 N f : Nat) (t : Int) (w : World) (hf : f < N) (ht : ¬ t < 1073741824) (hN : N ≤ 4) (h0 : w.cell? ⟨q, 0, none⟩ = some (.int .i64 t)) (hp : w.cell? ⟨q, 1, none⟩ = some (.slice (some ⟨r, 0, none⟩) N c1)) :
    Calls Try.prog 10 #[.pointer (some ⟨q, 0, none⟩), .int .i64 f] w fun e w' => e = .returned (.int .i64 11) ∧ w' = w := by
  have hok := okF_nat hf
  go_enter Try.func10, Try.ntmps10
  go_wp2_with (go_at_call 26; refine (is_any q r c1 N f _ hN hp).mono ?_; rintro e w' ⟨rfl, rfl⟩)
  go_ret
  exact ⟨rfl, rfl⟩
theorem rstep_ok (q r c1 N f : Nat) (t x : Int) (w : World) (hf : f < N) (hN : N ≤ 4) (hne : r ≠ q) (ht0 : 0 ≤ t) (ht : t < 1073741824) (hx0 : 0 ≤ x) (hx : x ≤ t) (h0 : w.cell? ⟨q, 0, none⟩ = some (.int .i64 t)) (z0 : w.frozen? ⟨q, 0, none⟩ = false)
    (hp : w.cell? ⟨q, 1, none⟩ = some (.slice (some ⟨r, 0, none⟩) N c1)) (h1 : w.cell? ⟨r, f, none⟩ = some (.int .i64 x)) (z1 : w.frozen? ⟨r, f, none⟩ = false) :
    Calls Try.prog 10 #[.pointer (some ⟨q, 0, none⟩), .int .i64 f] w fun e w' => e = .returned (.int .i64 0) ∧ w' = (w.setCell ⟨q, 0, none⟩ (.int .i64 (t + 1))).setCell ⟨r, f, none⟩ (.int .i64 (x + 1)) := by
  have hok := okF_nat hf
  have hfi : (f : Int) < (N : Int) := by omega
  have hne' : q ≠ r := Ne.symm hne
  go_enter Try.func10, Try.ntmps10
  go_wp2_with (go_at_call 26; refine (is_any q r c1 N f _ hN hp).mono ?_; rintro e w' ⟨rfl, rfl⟩)
  go_ret
  exact ⟨rfl, rfl⟩
theorem renter_ok (q r r2 c1 c2 N f : Nat) (t x : Int) (w : World) (hf : f < N) (hN : N ≤ 4) (h0 : w.cell? ⟨q, 0, none⟩ = some (.int .i64 t))
    (hp : w.cell? ⟨q, 1, none⟩ = some (.slice (some ⟨r, 0, none⟩) N c1)) (hp2 : w.cell? ⟨q, 2, none⟩ = some (.slice (some ⟨r2, 0, none⟩) N c2)) (h1 : w.cell? ⟨r2, f, none⟩ = some (.int .i64 x)) (z1 : w.frozen? ⟨r2, f, none⟩ = false) :
    Calls Try.prog 12 #[.pointer (some ⟨q, 0, none⟩), .int .i64 f] w fun e w' => e = .returned (.int .i64 0) ∧ w' = (w.setCell ⟨r2, f, none⟩ (.int .i64 t)).drew := by
  have hok := okF_nat hf
  have hfi : (f : Int) < (N : Int) := by omega
  go_enter Try.func12, Try.ntmps12
  go_wp2_with (go_at_call 26; refine (is_any q r c1 N f _ hN hp).mono ?_; rintro e w' ⟨rfl, rfl⟩)
  go_region
  go_wp2
  go_ret
  exact ⟨rfl, rfl⟩
theorem rflush_ok (q r r2 c1 c2 N f : Nat) (t x : Int) (w : World) (hf : f < N) (hN : N ≤ 4) (h0 : w.cell? ⟨q, 0, none⟩ = some (.int .i64 t))
    (hp : w.cell? ⟨q, 1, none⟩ = some (.slice (some ⟨r, 0, none⟩) N c1)) (hp2 : w.cell? ⟨q, 3, none⟩ = some (.slice (some ⟨r2, 0, none⟩) N c2)) (h1 : w.cell? ⟨r2, f, none⟩ = some (.int .i64 x)) (z1 : w.frozen? ⟨r2, f, none⟩ = false) :
    Calls Try.prog 14 #[.pointer (some ⟨q, 0, none⟩), .int .i64 f] w fun e w' => e = .returned (.int .i64 0) ∧ w' = (w.setCell ⟨r2, f, none⟩ (.int .i64 t)).drew := by
  have hok := okF_nat hf
  have hfi : (f : Int) < (N : Int) := by omega
  go_enter Try.func14, Try.ntmps14
  go_wp2_with (go_at_call 26; refine (is_any q r c1 N f _ hN hp).mono ?_; rintro e w' ⟨rfl, rfl⟩)
  go_region
  go_wp2
  go_ret
  exact ⟨rfl, rfl⟩

end Go.Proofs.Ytjbchnnbphikhaa
