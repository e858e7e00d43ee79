/- The document's table: what its New answers and makes, for every argument. -/
import Derived.Test.YtppbldhahddopaaLivR
import Derived.Maps.AppendAt
import Derived.OwnWalk
namespace Go.Proofs.Ytppbldhahddopaa
open Go.RowKit
set_option linter.unusedVariables false

theorem infoId : (Try.prog.info? 50).map (fun i => (i.zero, i.size, i.bytes)) = some (some (.agg #[.bool false, .int .i64 0, .bool false, .int .i64 0]), 4, 32) := by kernel_rfl
/-- The cells of one id that nobody has taken. -/
def noR : List Value := [.bool false, .int .i64 0, .bool false, .int .i64 0]
theorem own_ge {w : World} {base : Nat} {e : TypeId} {size : Nat} {v : Value} {n : Nat} {xs : List Value} (h : w.ownsRow base e size v n xs) : ∀ k, v.ownBlock = some k → base ≤ k := fun k hk => (h.lt k hk).1
theorem ownsRow_on {w w' : World} {base : Nat} {e : TypeId} {size : Nat} {v : Value} {n : Nat} {xs : List Value} (h : w.ownsRow base e size v n xs) (hk : ∀ k, base ≤ k → k < w.heap.size → w'.heap[k]? = w.heap[k]?) : w'.ownsRow base e size v n xs := by
  refine ⟨h.1, h.2.imp id ?_⟩
  rintro ⟨g, cap, cur, hv, hg, hh, r⟩
  exact ⟨g, cap, cur, hv, hg, by rw [hk g hg (Array.getElem?_eq_some_iff.1 hh).1]; exact hh, r⟩
def manyR : Nat → List Value
  | 0 => []
  | k + 1 => manyR k ++ noR
theorem manyR_len (k : Nat) : (manyR k).length = k * 4 := by
  induction k with
  | zero => rfl
  | succ k ih => simp [manyR, ih, noR]; omega
theorem manyR_get (k : Nat) {n j : Nat} (hn : n < k) (hj : j < 4) : (manyR k)[n * 4 + j]? = some (fldR noLS j) := by
  induction k with
  | zero => omega
  | succ k ih =>
    by_cases h : n < k
    · rw [manyR, List.getElem?_append_left (by rw [manyR_len]; omega), ih h]
    · obtain rfl : n = k := by omega
      rw [manyR, List.getElem?_append_right (by rw [manyR_len]; omega), manyR_len]
      have e : n * 4 + j - n * 4 = j := by omega
      rw [e]
      match j, hj with
      | 0, _ => rfl
      | 1, _ => rfl
      | 2, _ => rfl
      | 3, _ => rfl
/-- Between two statements of New: the struct's list is v, of k ids, in a block of its own. -/
structure NewI (B : Nat) (w wr : World) (v : Value) (k : Nat) : Prop where
  head : wr.heap[B]? = some (.cells #[v] 48 (0, 0))
  owns : wr.ownsRow (B + 1) 50 4 v k (manyR k)
  below : Below B w wr
  size : B + 1 ≤ wr.heap.size
theorem NewI.start (w : World) : NewI w.heap.size w (w.alloc (.cells #[.slice none 0 0] 48)) (.slice none 0 0) 0 :=
  ⟨heap_alloc_new _ _, ⟨rfl, .inl ⟨rfl, rfl⟩⟩, (Below.refl _ _).alloc (Nat.le_refl _) _, by simp⟩
theorem NewI.done {B N : Nat} {w wr : World} {v : Value} (h : NewI B w wr v N) (hN : 1 ≤ N) : RefIs wr B B N fun _ => noLS := by
  rcases h.owns.2 with ⟨_, e⟩ | ⟨g, cap, cur, e, hg, hh, _, _, _, ht⟩
  · have e' : N = 0 := e
    omega
  · refine ⟨g, cap, Nat.le_refl _, by rw [h.head, e], ⟨cur, hh, fun n j hn hj => ?_⟩, by omega, ok_no⟩
    have := congrArg (fun l => l[n * 4 + j]?) ht
    have hlt : n * 4 + j < N * 4 := by omega
    simp only [List.getElem?_take, hlt, if_true, Array.getElem?_toList] at this
    rw [this, manyR_get N hn hj]
theorem four_new (w : World) (t : TypeId) : ∀ j u, noR[j]? = some u → (w.alloc (.cells #[.bool false, .int .i64 0, .bool false, .int .i64 0] t)).cell? ((⟨w.heap.size, 0, none⟩ : Addr).add j) = some u := by
  intro j u hj
  rw [Addr.add_lit, Nat.zero_add, World.cell?_alloc_new, ← hj]
  match j with
  | 0 => rfl
  | 1 => rfl
  | 2 => rfl
  | 3 => rfl
  | j + 4 => simp [noR]
theorem NewI.step {B : Nat} {w wr w1 : World} {v : Value} {k : Nat} {v' : Value} {o : Obj} (h : NewI B w wr v k)
    (hown : w1.ownsRow (B + 1) 50 4 v' (k + 1) (manyR k ++ noR)) (hg : (wr.alloc o).grownBy w1 v.ownBlock) :
    w1.heap[B]? = some (.cells #[v] 48 (0, 0)) ∧ NewI B w (w1.setCell ⟨B, 0, none⟩ v') v' (k + 1) := by
  have hs := h.size
  have hb1 : Below (B + 1) wr w1 := ((Below.refl _ _).alloc (by omega) o).grown hg (by simp; omega) (own_ge h.owns)
  have hhead : w1.heap[B]? = some (.cells #[v] 48 (0, 0)) := by rw [hb1.block B (by omega)]; exact h.head
  have hz := hb1.size
  refine ⟨hhead, ?_, ?_, ?_, ?_⟩
  · rw [heap_setCell_same w1 B 0 _ _ v' hhead]
    rfl
  · exact ownsRow_on hown fun j hj _ => Below.heap_setCell _ _ _ _ (by show j ≠ B; omega)
  · exact (h.below.trans (hb1.mono (by omega))).setCell (Nat.le_refl _) _
  · simp only [World.size_setCell]
    omega
theorem ownsRow_succ {w : World} {base : Nat} {e : TypeId} {size : Nat} {v : Value} {n : Nat} {xs : List Value} (h : w.ownsRow base e size v (n + 1) xs) : ∃ g cap, v = .slice (some ⟨g, 0, none⟩) (n + 1) cap := by
  rcases h.2 with ⟨_, e⟩ | ⟨g, cap, _, e, _⟩
  · cases e
  · exact ⟨g, cap, e⟩
set_option maxHeartbeats 2000000 in
theorem rnew_any (w : World) :
    Calls Try.prog 9 #[] w fun e w' => e = .returned (.pointer (some ⟨w.heap.size, 0, none⟩)) ∧ RefIs w' w.heap.size w.heap.size 64 (fun _ => noLS) ∧ Below w.heap.size w w' := by
  obtain ⟨it, hi, hz0, hz1, hz2⟩ := info_parts infoId
  have H0 : Hid (NewI w.heap.size w (w.alloc (.cells #[.slice none 0 0] 48)) (.slice none 0 0) 0) := NewI.start w
  go_enter Try.func9, Try.ntmps9
  go_wp2
  go_loopw [2] (fun i wr => ∃ k : Nat, k ≤ 64 ∧ i = .int .i64 k ∧ ∃ v, NewI w.heap.size w wr v k) (fun i _ => 64 - (intOf i).toNat)
  case atStart => exact ⟨0, by omega, rfl, _, H0.out⟩
  case round =>
    obtain ⟨k, hk, rfl, v, hI⟩ := hrel
    have HI : Hid (NewI w.heap.size w wr v k) := hI
    clear hI H0
    by_cases hlt : k < 64
    · have hk64 : (k : Int) < 64 := by omega
      have hs := HI.out.size
      have d0 : wr.cell? ⟨w.heap.size, 0, none⟩ = some v := by rw [cell_of_row wr _ 0 _ _ _ HI.out.head]; rfl
      go_wp2_with (at_builtin; refine wpList_append_own_at _ rfl _ _ 46 rfl (w.heap.size + 1) 50 it _ 4 32 Try.underlying46 hi hz0 hz1 hz2 rfl (by decide) _ _ _ rfl (HI.out.owns.alloc _) _ 1 1 noR rfl rfl (four_new wr _) (by simp [noR, Value.oneCell']) (by unfold maxLen; omega) (by omega) (by simp; omega) ?_; intro v1 w1 hown hgrow _ hat; obtain ⟨g1, p1, rfl⟩ := ownsRow_succ hown; have S := HI.out.step hown hgrow; clear d0; have d1 : w1.cell? ⟨w.heap.size, 0, none⟩ = some v := (by rw [cell_of_row w1 _ 0 _ _ _ S.1]; rfl); have z1 : w1.frozen? ⟨w.heap.size, 0, none⟩ = false := frozen_of_row w1 _ 0 _ _ S.1; have HS1 : Hid (NewI w.heap.size w (w1.setCell ⟨w.heap.size, 0, none⟩ (.slice (some ⟨g1, 0, none⟩) (k + 1) p1)) (.slice (some ⟨g1, 0, none⟩) (k + 1) p1) (k + 1)) := S.2; clear hown hgrow hat S)
      go_roundw
      case rel => exact ⟨k + 1, by omega, by go_num, _, HS1.out⟩
      case measure => simp [intOf]; omega
    · obtain rfl : k = 64 := by omega
      go_wp2
      go_ret
      exact ⟨rfl, HI.out.done (by omega), HI.out.below⟩

end Go.Proofs.Ytppbldhahddopaa
