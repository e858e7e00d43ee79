/- The document's lines (one list of eight): where they lie, its New, and what each of its calls answers and does, for every argument. -/
import Derived.Test.YtefoofcfbcmjcaaHwG
import Derived.Test.YtefoofcfbcmjcaaRows
import Derived.Laws.CopyRow
import Derived.Below
import Derived.RowKit3
import Derived.WalkKit
import Derived.ProofKit
import Derived.Maps.AppendAt
import Derived.OwnWalk
namespace Go.Proofs.Ytefoofcfbcmjcaa.Phw
open Go.Proofs.Ytefoofcfbcmjcaa.Pbase
open Go.RowKit
set_option linter.unusedVariables false

/-- Block r holds a list whose first N are f's. -/
def ListIs (w : World) (r N : Nat) (f : Nat → Int) : Prop := ∃ cur, w.heap[r]? = some (.cells cur 3 (0, 0)) ∧ ∀ j, j < N → cur[j]? = some (.int .i64 (f j))
theorem ListIs.cell {w : World} {r N : Nat} {f : Nat → Int} (h : ListIs w r N f) {j : Nat} (hj : j < N) : w.cell? ⟨r, j, none⟩ = some (.int .i64 (f j)) := by
  obtain ⟨cur, h1, h2⟩ := h
  rw [cell_of_row w r j _ _ _ h1, h2 j hj]
theorem ListIs.free {w : World} {r N : Nat} {f : Nat → Int} (h : ListIs w r N f) (j : Nat) : w.frozen? ⟨r, j, none⟩ = false := by
  obtain ⟨cur, h1, _⟩ := h
  exact frozen_of_row w r j _ _ h1
theorem ListIs.on {w w' : World} {r N : Nat} {f : Nat → Int} (h : ListIs w r N f) (hk : w'.heap[r]? = w.heap[r]?) : ListIs w' r N f := by
  obtain ⟨cur, h1, h2⟩ := h
  exact ⟨cur, hk.trans h1, h2⟩
theorem ListIs.lt {w : World} {r N : Nat} {f : Nat → Int} (h : ListIs w r N f) : r < w.heap.size := by
  obtain ⟨cur, h1, _⟩ := h
  exact (Array.getElem?_eq_some_iff.1 h1).1
theorem ListIs.put {w : World} {r N : Nat} {f : Nat → Int} (h : ListIs w r N f) {c : Nat} (hc : c < N) (v : Int) : ListIs (w.setCell ⟨r, c, none⟩ (.int .i64 v)) r N (upL f c v) := by
  obtain ⟨cur, h1, h2⟩ := h
  refine ⟨cur.setIfInBounds c (.int .i64 v), heap_setCell_same _ _ _ _ _ _ h1, fun j hj => ?_⟩
  rw [Array.getElem?_setIfInBounds]
  by_cases e : c = j
  · subst e
    have hlt : c < cur.size := by
      rcases Nat.lt_or_ge c cur.size with h | h
      · exact h
      · have := h2 c hc; rw [Array.getElem?_eq_none h] at this; cases this
    simp [hlt, upL]
  · rw [if_neg e, h2 j hj]
    simp [Ne.symm e, upL]
/-- The document's lines lie behind the pointer to block q, their list in block r: all from base on. -/
structure RefAt (w : World) (base q r cap : Nat) (S : Nat → Int) : Prop where
  ge : base ≤ q
  gr : base ≤ r
  head : w.heap[q]? = some (.cells #[.slice (some ⟨r, 0, none⟩) 8 cap] 46 (0, 0))
  list : ListIs w r 8 S
def RefL (w : World) (base q : Nat) (S : Nat → Int) : Prop := ∃ r cap, RefAt w base q r cap S
section
variable {w w' : World} {base q r cap : Nat} {S : Nat → Int}
theorem RefAt.c0 (h : RefAt w base q r cap S) : w.cell? ⟨q, 0, none⟩ = some (.slice (some ⟨r, 0, none⟩) 8 cap) := by
  rw [cell_of_row w q 0 _ _ _ h.head]; rfl
theorem RefAt.lt (h : RefAt w base q r cap S) : q < w.heap.size := (Array.getElem?_eq_some_iff.1 h.head).1
theorem RefAt.ne (h : RefAt w base q r cap S) : q ≠ r := by
  rintro rfl
  obtain ⟨cur, h1, _⟩ := h.list
  rw [h.head] at h1
  simp at h1
theorem RefAt.on (h : RefAt w base q r cap S) (hq : w'.heap[q]? = w.heap[q]?) (hr : w'.heap[r]? = w.heap[r]?) : RefAt w' base q r cap S := ⟨h.ge, h.gr, hq.trans h.head, h.list.on hr⟩
theorem RefAt.put (h : RefAt w base q r cap S) {c : Nat} (hc : c < 8) (v : Int) : RefAt (w.setCell ⟨r, c, none⟩ (.int .i64 v)) base q r cap (upL S c v) :=
  ⟨h.ge, h.gr, (Below.heap_setCell _ _ _ _ (by show q ≠ r; exact h.ne)).trans h.head, h.list.put hc v⟩
theorem RefL.more (h : RefL w base q S) (hB : Below w.heap.size w w') : RefL w' base q S := by
  obtain ⟨r, cap, h⟩ := h
  exact ⟨r, cap, h.on (hB.block q h.lt) (hB.block r h.list.lt)⟩
theorem RefL.but {b : Nat} (h : RefL w base q S) (hB : But b w w') (hb : b < base) : RefL w' base q S := by
  obtain ⟨r, cap, h⟩ := h
  have h1 := h.ge
  have h2 := h.gr
  exact ⟨r, cap, h.on (hB.block q h.lt (by omega)) (hB.block r h.list.lt (by omega))⟩
theorem RefL.lt (h : RefL w base q S) : q < w.heap.size ∧ base ≤ q := by
  obtain ⟨r, cap, h⟩ := h
  exact ⟨h.lt, h.ge⟩
end
/-! ### New -/
set_option maxRecDepth 100000 in
theorem infoInt : (Try.prog.info? 3).map (fun i => (i.zero, i.size, i.bytes)) = some (some (.int .i64 0), 1, 8) := by kernel_rfl
theorem one_new (w : World) (v : Value) (t : TypeId) : ∀ j u, ([v] : List Value)[j]? = some u → (w.alloc (.cells #[v] t)).cell? ((⟨w.heap.size, 0, none⟩ : Addr).add j) = some u := by
  intro j u hj
  match j, hj with
  | 0, hj => simp at hj; subst hj; simp [Addr.add]
theorem own_ge {w : World} {base : Nat} {e : TypeId} {v : Value} {n : Nat} {xs : List Value} (h : w.ownsRow base e 1 v n xs) : ∀ k, v.ownBlock = some k → base ≤ k := fun k hk => (h.lt k hk).1
theorem ownsRow_on {w w' : World} {base : Nat} {e : TypeId} {size : Nat} {v : Value} {n : Nat} {xs : List Value} (h : w.ownsRow base e size v n xs) (hk : ∀ k, base ≤ k → k < w.heap.size → w'.heap[k]? = w.heap[k]?) : w'.ownsRow base e size v n xs := by
  refine ⟨h.1, or_right h.2 ?_⟩
  rintro ⟨g, cap, cur, hv, hg, hh, r⟩
  exact ⟨g, cap, cur, hv, hg, by rw [hk g hg (Array.getElem?_eq_some_iff.1 hh).1]; exact hh, r⟩
theorem ownsRow_succ {w : World} {base : Nat} {e : TypeId} {v : Value} {n : Nat} {xs : List Value} (h : w.ownsRow base e 1 v (n + 1) xs) : ∃ g cap, v = .slice (some ⟨g, 0, none⟩) (n + 1) cap := by
  rcases h.2 with ⟨_, e⟩ | ⟨g, cap, _, e, _⟩
  · cases e
  · exact ⟨g, cap, e⟩
/-- Between two statements of New: the struct's list is v, of k zeros, in a block of its own. -/
structure NewI (B : Nat) (w wr : World) (v : Value) (k : Nat) : Prop where
  head : wr.heap[B]? = some (.cells #[v] 46 (0, 0))
  owns : wr.ownsRow (B + 1) 3 1 v k (List.replicate k (.int .i64 0))
  below : Below B w wr
  size : B + 1 ≤ wr.heap.size
theorem NewI.start (w : World) : NewI w.heap.size w (w.alloc (.cells #[.slice none 0 0] 46)) (.slice none 0 0) 0 :=
  ⟨heap_alloc_new _ _, ⟨rfl, .inl ⟨rfl, rfl⟩⟩, (Below.refl _ _).alloc (Nat.le_refl _) _, by simp⟩
theorem NewI.done {B : Nat} {w wr : World} {v : Value} (h : NewI B w wr v 8) : RefL wr B B fun _ => 0 := by
  rcases h.owns.2 with ⟨_, e⟩ | ⟨g, cap, cur, e, hg, hh, _, _, _, ht⟩
  · have e' : (8 : Nat) = 0 := e
    omega
  · refine ⟨g, cap, Nat.le_refl _, by omega, by rw [h.head, e], cur, hh, fun j hj => ?_⟩
    have := congrArg (fun l => l[j]?) ht
    simp only [Nat.mul_one, List.getElem?_take, hj, if_true, List.getElem?_replicate, Array.getElem?_toList] at this
    exact this
theorem NewI.step {B : Nat} {w wr w1 : World} {v : Value} {k : Nat} {v' : Value} {o : Obj} (h : NewI B w wr v k)
    (hown : w1.ownsRow (B + 1) 3 1 v' (k + 1) (List.replicate k (.int .i64 0) ++ [.int .i64 0])) (hg : (wr.alloc o).grownBy w1 v.ownBlock) :
    w1.heap[B]? = some (.cells #[v] 46 (0, 0)) ∧ NewI B w (w1.setCell ⟨B, 0, none⟩ v') v' (k + 1) := by
  have hs := h.size
  have hb1 : Below (B + 1) wr w1 := ((Below.refl _ _).alloc (by omega) o).grown hg (by simp; omega) (own_ge h.owns)
  have hhead : w1.heap[B]? = some (.cells #[v] 46 (0, 0)) := by rw [hb1.block B (by omega)]; exact h.head
  have hz := hb1.size
  refine ⟨hhead, ?_, ?_, ?_, ?_⟩
  · rw [heap_setCell_same w1 B 0 _ _ v' hhead]
    rfl
  · rw [List.replicate_succ']
    exact ownsRow_on hown fun j hj _ => Below.heap_setCell _ _ _ _ (by show j ≠ B; omega)
  · exact (h.below.trans (hb1.mono (by omega))).setCell (Nat.le_refl _) _
  · simp only [World.size_setCell]
    omega
set_option maxHeartbeats 2000000 in
set_option maxRecDepth 100000 in
theorem rnew_any (w : World) : Calls Try.prog 8 #[] w fun e w' => e = .returned (.pointer (some ⟨w.heap.size, 0, none⟩)) ∧ RefL w' w.heap.size w.heap.size (fun _ => 0) ∧ Below w.heap.size w w' := by
  obtain ⟨it, hi, hz0, hz1, hz2⟩ := info_parts infoInt
  have H0 : Hid (NewI w.heap.size w (w.alloc (.cells #[.slice none 0 0] 46)) (.slice none 0 0) 0) := NewI.start w
  go_enter Try.func8, Try.ntmps8
  go_wp2
  go_loopw [2] (fun i wr => ∃ k : Nat, k ≤ 8 ∧ i = .int .i64 k ∧ ∃ v, NewI w.heap.size w wr v k) (fun i _ => 8 - (intOf i).toNat)
  case atStart => exact ⟨0, by omega, rfl, _, H0.out⟩
  case round =>
    obtain ⟨k, hk, rfl, v, hI⟩ := hrel
    have HI : Hid (NewI w.heap.size w wr v k) := hI
    clear hI H0
    by_cases hlt : k < 8
    · have hki : (k : Int) < 8 := by omega
      have hs := HI.out.size
      have d0 : wr.cell? ⟨w.heap.size, 0, none⟩ = some v := by rw [cell_of_row wr _ 0 _ _ _ HI.out.head]; rfl
      go_wp2_with (first
        | (at_builtin; refine wpList_append_own_at _ rfl _ _ 23 rfl (w.heap.size + 1) 3 it _ 1 8 Try.underlying23 hi hz0 hz1 hz2 rfl (by decide) _ _ _ rfl (HI.out.owns.alloc _) _ 1 1 [.int .i64 0] rfl rfl (one_new wr _ _) (by simp [Value.oneCell']) (by unfold maxLen; omega) (by omega) (by simp; omega) ?_; intro v1 w1 hown hgrow _ hat; obtain ⟨g1, p1, rfl⟩ := ownsRow_succ hown; have S := HI.out.step hown hgrow; clear d0; have d1 : w1.cell? ⟨w.heap.size, 0, none⟩ = some v := (by rw [cell_of_row w1 _ 0 _ _ _ S.1]; rfl); have z1 : w1.frozen? ⟨w.heap.size, 0, none⟩ = false := frozen_of_row w1 _ 0 _ _ S.1; have HS1 : Hid (NewI w.heap.size w (w1.setCell ⟨w.heap.size, 0, none⟩ (.slice (some ⟨g1, 0, none⟩) (k + 1) p1)) (.slice (some ⟨g1, 0, none⟩) (k + 1) p1) (k + 1)) := S.2; clear hown hgrow hat S)
        | fail)
      go_roundw
      case rel => exact ⟨k + 1, by omega, by go_num, _, HS1.out⟩
      case measure => simp [intOf]; omega
    · obtain rfl : k = 8 := by omega
      go_wp2
      go_ret
      exact ⟨rfl, HI.out.done, HI.out.below⟩
end Go.Proofs.Ytefoofcfbcmjcaa.Phw
