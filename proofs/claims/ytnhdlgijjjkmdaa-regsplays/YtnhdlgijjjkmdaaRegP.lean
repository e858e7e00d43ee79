/- The document's registers: what New makes; and the two files side by side. -/
import Derived.Test.YtnhdlgijjjkmdaaRegR
namespace Go.Proofs.Ytnhdlgijjjkmdaa
open Go.RowKit
set_option linter.unusedVariables false

theorem one_new (w : World) (v : Value) (t : TypeId) : ∀ j u, ([v] : List Value)[j]? = some u → (w.alloc (.cells #[v] t)).cell? ((⟨w.heap.size, 0, none⟩ : Addr).add j) = some u := by
  intro j u hj
  match j, hj with
  | 0, hj => simp at hj; subst hj; simp [Addr.add]
theorem ownsRow_on {w w' : World} {base : Nat} {e : TypeId} {size : Nat} {v : Value} {n : Nat} {xs : List Value} (h : w.ownsRow base e size v n xs) (hk : ∀ k, base ≤ k → k < w.heap.size → w'.heap[k]? = w.heap[k]?) : w'.ownsRow base e size v n xs := by
  refine ⟨h.1, h.2.imp id ?_⟩
  rintro ⟨g, cap, cur, hv, hg, hh, r⟩
  exact ⟨g, cap, cur, hv, hg, by rw [hk g hg (Array.getElem?_eq_some_iff.1 hh).1]; exact hh, r⟩
/-- Between two statements of New: the struct's list is v, of k zeros, in a block of its own. -/
structure NewI (B : Nat) (w wr : World) (v : Value) (k : Nat) : Prop where
  head : wr.heap[B]? = some (.cells #[v] 51 (0, 0))
  owns : wr.ownsRow (B + 1) 33 1 v k (List.replicate k (.int .u64 0))
  below : Below B w wr
  size : B + 1 ≤ wr.heap.size
theorem NewI.step {B : Nat} {w wr w1 : World} {v : Value} {k : Nat} {v' : Value} {o : Obj} (h : NewI B w wr v k)
    (hown : w1.ownsRow (B + 1) 33 1 v' (k + 1) (List.replicate k (.int .u64 0) ++ [.int .u64 0])) (hg : (wr.alloc o).grownBy w1 v.ownBlock) :
    w1.heap[B]? = some (.cells #[v] 51 (0, 0)) ∧ NewI B w (w1.setCell ⟨B, 0, none⟩ v') v' (k + 1) := by
  have hs := h.size
  have hb1 : Below (B + 1) wr w1 := ((Below.refl _ _).alloc (by omega) o).grown hg (by simp; omega) (own_ge h.owns)
  have hhead : w1.heap[B]? = some (.cells #[v] 51 (0, 0)) := by rw [hb1.block B (by omega)]; exact h.head
  have hz := hb1.size
  refine ⟨hhead, ?_, ?_, ?_, ?_⟩
  · rw [heap_setCell_same w1 B 0 _ _ v' hhead]
    rfl
  · rw [List.replicate_succ']
    exact ownsRow_on hown fun j hj _ => Below.heap_setCell _ _ _ _ (by show j ≠ B; omega)
  · exact (h.below.trans (hb1.mono (by omega))).setCell (Nat.le_refl _) _
  · simp only [World.size_setCell]
    omega
theorem NewI.done {B : Nat} {w wr : World} {v : Value} (h : NewI B w wr v 8) : RefIs wr B B fun _ => 0 := by
  have e : List.replicate 8 (Value.int .u64 0) = regL fun _ => 0 := rfl
  have ho := h.owns
  rw [e] at ho
  obtain ⟨g, cap, rfl, hg, hl⟩ := owns_list ho
  exact ⟨g, cap, Nat.le_refl _, h.head, hl, by omega⟩
theorem NewI.start (w : World) : NewI w.heap.size w (w.alloc (.cells #[.slice none 0 0] 51)) (.slice none 0 0) 0 :=
  ⟨heap_alloc_new _ _, ⟨rfl, .inl ⟨rfl, rfl⟩⟩, (Below.refl _ _).alloc (Nat.le_refl _) _, by simp⟩
theorem ownsRow_succ {w : World} {base : Nat} {e : TypeId} {v : Value} {n : Nat} {xs : List Value} (h : w.ownsRow base e 1 v (n + 1) xs) : ∃ g cap, v = .slice (some ⟨g, 0, none⟩) (n + 1) cap := by
  rcases h.2 with ⟨_, e⟩ | ⟨g, cap, _, e, _⟩
  · cases e
  · exact ⟨g, cap, e⟩
set_option maxHeartbeats 2000000 in
theorem rnew_any (w : World) :
    Calls Try.prog 8 #[] w fun e w' => e = .returned (.pointer (some ⟨w.heap.size, 0, none⟩)) ∧ RefIs w' w.heap.size w.heap.size (fun _ => 0) ∧ Below w.heap.size w w' := by
  obtain ⟨it, hi, hz0, hz1, hz2⟩ := info_parts infoWord
  have H0 : Hid (NewI w.heap.size w (w.alloc (.cells #[.slice none 0 0] 51)) (.slice none 0 0) 0) := NewI.start w
  go_enter Try.func8, Try.ntmps8
  go_wp2
  go_loopw [2] (fun i wr => ∃ k : Nat, k ≤ 8 ∧ i = .int .i64 k ∧ ∃ v, NewI w.heap.size w wr v k) (fun i _ => 8 - (intOf i).toNat)
  case atStart => exact ⟨0, by omega, rfl, _, H0.out⟩
  case round =>
    obtain ⟨k, hk, rfl, v, hI⟩ := hrel
    have HI : Hid (NewI w.heap.size w wr v k) := hI
    clear hI H0
    by_cases hlt : k < 8
    · have hki : (k : Int) < 8 := by omega
      have hs := HI.out.size
      have d0 : wr.cell? ⟨w.heap.size, 0, none⟩ = some v := by rw [cell_of_row wr _ 0 _ _ _ HI.out.head]; rfl
      go_wp2_with (at_builtin; refine wpList_append_own_at _ rfl _ _ 24 rfl (w.heap.size + 1) 33 it (.int .u64 0) 1 8 Try.underlying24 hi hz0 hz1 hz2 rfl (by decide) _ _ _ rfl (HI.out.owns.alloc _) _ 1 1 [.int .u64 0] rfl rfl (one_new wr _ _) (by simp [Value.oneCell']) (by unfold maxLen; omega) (by omega) (by simp; omega) ?_; intro v1 w1 hown hgrow _ hat; obtain ⟨g1, p1, rfl⟩ := ownsRow_succ hown; have S := HI.out.step hown hgrow; clear d0; have d1 : w1.cell? ⟨w.heap.size, 0, none⟩ = some v := (by rw [cell_of_row w1 _ 0 _ _ _ S.1]; rfl); have z1 : w1.frozen? ⟨w.heap.size, 0, none⟩ = false := frozen_of_row w1 _ 0 _ _ S.1; have HS1 : Hid (NewI w.heap.size w (w1.setCell ⟨w.heap.size, 0, none⟩ (.slice (some ⟨g1, 0, none⟩) (k + 1) p1)) (.slice (some ⟨g1, 0, none⟩) (k + 1) p1) (k + 1)) := S.2; clear hown hgrow hat S)
      go_roundw
      case rel => exact ⟨k + 1, by omega, by go_num, _, HS1.out⟩
      case measure => simp [intOf]; omega
    · obtain rfl : k = 8 := by omega
      go_wp2
      go_ret
      exact ⟨rfl, HI.out.done, HI.out.below⟩
theorem rload_any (base q : Nat) (a : Option Addr) (n c n₀ : Nat) (L A : Nat → Int) (w : World) (hR : RefIs w base q L) (hbase : base ≤ w.heap.size) (hn63 : n ≤ 9223372036854775807) (hA : Eight n₀ w a n A) :
    Calls Try.prog 10 #[.pointer (some ⟨q, 0, none⟩), .slice a n c] w fun e w' => e = .returned (.int .i64 (errL n)) ∧ RefIs w' base q (loadR L n A) ∧ Below base w w' := by
  by_cases h8 : n = 8
  · obtain ⟨b, off, rfl, _, hc⟩ := hA h8
    simp only [errL, loadR, h8, if_true]
    exact rload_ok base q b off c L A w hR hbase hc
  · simp only [errL, loadR, h8, if_false]
    exact (rload_bad q a n c w h8 hn63).mono fun _ _ ⟨h1, h2⟩ => ⟨h1, by rw [h2]; exact hR, by rw [h2]; exact Below.refl _ _⟩
/-! ### Side by side -/
/-- Both have the registers L; nothing of w was changed. -/
structure Both (w wr : World) (L : Nat → Int) : Prop where
  f : FileIs wr w.heap.size L
  ref : RefIs wr (w.heap.size + 1) (w.heap.size + 1) L
  below : Below w.heap.size w wr
  size : w.heap.size + 1 ≤ wr.heap.size
theorem Both.more {w wr w' : World} {L : Nat → Int} (h : Both w wr L) (k : Below wr.heap.size wr w') : Both w w' L :=
  ⟨h.f.more k, h.ref.more k, h.below.trans (k.mono h.below.size), Nat.le_trans h.size k.size⟩
theorem Both.drewN {w wr : World} {L : Nat → Int} (h : Both w wr L) (n : Nat) : Both w (wr.drewN n) L := ⟨h.f, h.ref.drewN n, below_drewN h.below n, h.size⟩
theorem Both.drew {w wr : World} {L : Nat → Int} (h : Both w wr L) : Both w wr.drew L := ⟨h.f, h.ref.drew, h.below.drew, h.size⟩
/-- The one did its part; the document's own still has to do hers. -/
structure Half (w wr : World) (L L' : Nat → Int) : Prop where
  f : FileIs wr w.heap.size L'
  ref : RefIs wr (w.heap.size + 1) (w.heap.size + 1) L
  below : Below w.heap.size w wr
  size : w.heap.size + 1 ≤ wr.heap.size
theorem Both.half {w wr : World} {L : Nat → Int} (h : Both w wr L) (L' : Nat → Int) : Half w (wr.setRow w.heap.size (cellsF L')) L L' :=
  ⟨h.f.set L', h.ref.setRow (by omega) _, below_set h.below (Nat.le_refl _) _, by rw [size_setRow]; exact h.size⟩
theorem Half.both {w wr w' : World} {L L' : Nat → Int} (h : Half w wr L L') (hr : RefIs w' (w.heap.size + 1) (w.heap.size + 1) L') (k : Below (w.heap.size + 1) wr w') : Both w w' L' :=
  ⟨h.f.on (k.block _ (by omega)), hr, h.below.trans (k.mono (by omega)), Nat.le_trans h.size k.size⟩
theorem both_new {w w2 : World} (hr : RefIs w2 (newW w).heap.size (newW w).heap.size fun _ => 0) (hB : Below (newW w).heap.size (newW w) w2) : Both w w2 fun _ => 0 := by
  have hs := hB.size
  rw [newW_size] at hr hs
  exact ⟨(newW_is w).more hB, hr, (newW_below w).trans (hB.mono (newW_below w).size), hs⟩
theorem bounds_u8 {z : Int} (h : (Lit.int .u8 z).wf = true) : 0 ≤ z ∧ z ≤ 255 := by
  have h' : (decide (IntKind.u8.min ≤ z) && decide (z ≤ IntKind.u8.max)) = true := h
  have e1 : IntKind.u8.min = 0 := by decide
  have e2 : IntKind.u8.max = 255 := by decide
  rw [e1, e2] at h'
  simpa using h'

end Go.Proofs.Ytnhdlgijjjkmdaa
