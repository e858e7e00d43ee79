/- The document's clock: what its New answers and makes, for every argument. -/
import Derived.Test.YtjbchnnbphikhaaClkR
import Derived.Maps.AppendAt
import Derived.OwnWalk
namespace Go.Proofs.Ytjbchnnbphikhaa
open Go.RowKit
set_option linter.unusedVariables false

theorem rnew_bad (n : Int) (w : World) (h : ¬ (1 ≤ n ∧ n ≤ 4)) :
    Calls Try.prog 7 #[.int .i64 n] w fun e w' => e = .returned (.tuple #[.pointer none, .int .i64 1]) ∧ w' = w := by
  by_cases h1 : n < 1
  · clear h
    go_enter Try.func7, Try.ntmps7
    go_wp2
    go_ret2
    exact ⟨rfl, rfl⟩
  · have h2 : 4 < n := by omega
    clear h
    go_enter Try.func7, Try.ntmps7
    go_wp2
    go_ret2
    exact ⟨rfl, rfl⟩
theorem infoInt : (Try.prog.info? 3).map (fun i => (i.zero, i.size, i.bytes)) = some (some (.int .i64 0), 1, 8) := by kernel_rfl
theorem one_new (w : World) (v : Value) (t : TypeId) : ∀ j u, ([v] : List Value)[j]? = some u → (w.alloc (.cells #[v] t)).cell? ((⟨w.heap.size, 0, none⟩ : Addr).add j) = some u := by
  intro j u hj
  match j, hj with
  | 0, hj => simp at hj; subst hj; simp [Addr.add]
theorem own_ge {w : World} {base : Nat} {e : TypeId} {v : Value} {n : Nat} {xs : List Value} (h : w.ownsRow base e 1 v n xs) : ∀ k, v.ownBlock = some k → base ≤ k := fun k hk => (h.lt k hk).1
theorem ownsRow_on {w w' : World} {base : Nat} {e : TypeId} {size : Nat} {v : Value} {n : Nat} {xs : List Value} (h : w.ownsRow base e size v n xs) (hk : ∀ k, base ≤ k → k < w.heap.size → w'.heap[k]? = w.heap[k]?) : w'.ownsRow base e size v n xs := by
  refine ⟨h.1, h.2.imp id ?_⟩
  rintro ⟨g, cap, cur, hv, hg, hh, r⟩
  exact ⟨g, cap, cur, hv, hg, by rw [hk g hg (Array.getElem?_eq_some_iff.1 hh).1]; exact hh, r⟩
theorem ownsRow_succ {w : World} {base : Nat} {e : TypeId} {v : Value} {n : Nat} {xs : List Value} (h : w.ownsRow base e 1 v (n + 1) xs) : ∃ g cap, v = .slice (some ⟨g, 0, none⟩) (n + 1) cap := by
  rcases h.2 with ⟨_, e⟩ | ⟨g, cap, _, e, _⟩
  · cases e
  · exact ⟨g, cap, e⟩
/-- What each list is filled with. -/
def x0 (i : Nat) : Int := if i = 0 then 0 else -1
/-- What holds between two statements of New: the struct's lists are v 0, v 1, v 2, of k 0, k 1, k 2 entries, each in a block of its own. -/
structure NewI (B : Nat) (w wr : World) (v : Nat → Value) (k : Nat → Nat) : Prop where
  head : wr.heap[B]? = some (.cells #[.int .i64 0, v 0, v 1, v 2] 51 (0, 0))
  owns : ∀ i, i < 3 → wr.ownsRow (B + 1) 3 1 (v i) (k i) (List.replicate (k i) (.int .i64 (x0 i)))
  apart : ∀ i j b, i < 3 → j < 3 → i ≠ j → (v i).ownBlock = some b → (v j).ownBlock ≠ some b
  below : Below B w wr
  size : B + 1 ≤ wr.heap.size
theorem NewI.step {B : Nat} {w wr w1 : World} {v : Nat → Value} {k : Nat → Nat} {i : Nat} {v' : Value} {o : Obj} (h : NewI B w wr v k) (hi : i < 3)
    (hown : w1.ownsRow (B + 1) 3 1 v' (k i + 1) (List.replicate (k i) (.int .i64 (x0 i)) ++ [.int .i64 (x0 i)])) (hg : (wr.alloc o).grownBy w1 (v i).ownBlock) (hat : v'.ownBlock = (v i).ownBlock ∨ v'.ownBlock = some (wr.alloc o).heap.size) :
    w1.heap[B]? = some (.cells #[.int .i64 0, v 0, v 1, v 2] 51 (0, 0)) ∧ NewI B w (w1.setCell ⟨B, i + 1, none⟩ v') (fun j => if j = i then v' else v j) (fun j => if j = i then k j + 1 else k j) := by
  have hs := h.size
  have hb1 : Below (B + 1) wr w1 := ((Below.refl _ _).alloc (by omega) o).grown hg (by simp; omega) (own_ge (h.owns i hi))
  have hhead : w1.heap[B]? = some (.cells #[.int .i64 0, v 0, v 1, v 2] 51 (0, 0)) := by rw [hb1.block B (by omega)]; exact h.head
  have hz := hb1.size
  have hold : ∀ j b, j < 3 → (v j).ownBlock = some b → b < wr.heap.size := fun j b hj e => ((h.owns j hj).lt b e).2
  have hset : ∀ {vv : Value} {n : Nat} {xs : List Value}, w1.ownsRow (B + 1) 3 1 vv n xs → (w1.setCell ⟨B, i + 1, none⟩ v').ownsRow (B + 1) 3 1 vv n xs := fun ho => ownsRow_on ho fun j hj _ => Below.heap_setCell _ _ _ _ (by show j ≠ B; omega)
  refine ⟨hhead, ?_, ?_, ?_, ?_, ?_⟩
  · rw [heap_setCell_same w1 B (i + 1) _ _ v' hhead]
    match i, hi with
    | 0, _ => rfl
    | 1, _ => rfl
    | 2, _ => rfl
  · intro j hj
    by_cases e : j = i
    · subst e
      simp only [if_true]
      rw [List.replicate_succ']
      exact hset hown
    · simp only [e, if_false]
      refine hset (((h.owns j hj).alloc o).kept hg ?_)
      cases hb : (v j).ownBlock with
      | none => exact .inl rfl
      | some b => exact .inr (fun hc => h.apart j i b hj hi e hb hc.symm)
  · intro a c b ha hc hne hab
    by_cases e1 : a = i
    · subst e1
      rw [if_pos rfl] at hab
      rw [if_neg (Ne.symm hne)]
      rcases hat with hat | hat
      · rw [hat] at hab
        exact h.apart a c b ha hc hne hab
      · intro hcb
        have := hold c b hc hcb
        rw [hat] at hab
        simp at hab
        omega
    · rw [if_neg e1] at hab
      by_cases e2 : c = i
      · subst e2
        rw [if_pos rfl]
        rcases hat with hat | hat
        · rw [hat]
          exact h.apart a c b ha hc hne hab
        · intro hcb
          have := hold a b ha hab
          rw [hat] at hcb
          simp at hcb
          omega
      · rw [if_neg e2]
        exact h.apart a c b ha hc hne hab
  · exact (h.below.trans (hb1.mono (by omega))).setCell (Nat.le_refl _) _
  · simp only [World.size_setCell]
    omega
/-- All three lists are full: it is a clock. -/
theorem NewI.done {B N : Nat} {w wr : World} {v : Nat → Value} (h : NewI B w wr v fun _ => N) (hN : 1 ≤ N) : RefIs wr B B N (newS N) := by
  have key : ∀ i, i < 3 → ∃ g cap, v i = .slice (some ⟨g, 0, none⟩) N cap ∧ B ≤ g ∧ ListIs wr g N (fun _ => x0 i) := by
    intro i hi
    rcases (h.owns i hi).2 with ⟨_, e⟩ | ⟨g, cap, cur, e, hg, hh, _, _, _, ht⟩
    · have e' : N = 0 := e
      omega
    · refine ⟨g, cap, e, by omega, cur, hh, fun j hj => ?_⟩
      have := congrArg (fun l => l[j]?) ht
      simp only [Nat.mul_one, List.getElem?_take, hj, if_true, List.getElem?_replicate, Array.getElem?_toList] at this
      exact this
  obtain ⟨r1, c1, e1, g1, l1⟩ := key 0 (by omega)
  obtain ⟨r2, c2, e2, g2, l2⟩ := key 1 (by omega)
  obtain ⟨r3, c3, e3, g3, l3⟩ := key 2 (by omega)
  refine ⟨r1, r2, r3, c1, c2, c3, Nat.le_refl _, ?_, l1, l2.congr (fun j hj => by simp [newS, hj, x0]), l3.congr (fun j hj => by simp [newS, hj, x0]), g1, g2, g3, ?_, ?_, ?_, newS_ok N⟩
  · rw [h.head, e1, e2, e3]; rfl
  · rintro rfl
    exact h.apart 0 1 r1 (by omega) (by omega) (by omega) (by rw [e1]; rfl) (by rw [e2]; rfl)
  · rintro rfl
    exact h.apart 0 2 r1 (by omega) (by omega) (by omega) (by rw [e1]; rfl) (by rw [e3]; rfl)
  · rintro rfl
    exact h.apart 1 2 r2 (by omega) (by omega) (by omega) (by rw [e2]; rfl) (by rw [e3]; rfl)
theorem NewI.congr {B : Nat} {w wr : World} {v : Nat → Value} {k k' : Nat → Nat} (h : NewI B w wr v k) (e : ∀ i, i < 3 → k i = k' i) : NewI B w wr v k' :=
  ⟨h.head, fun i hi => by rw [← e i hi]; exact h.owns i hi, h.apart, h.below, h.size⟩
theorem NewI.start (w : World) : NewI w.heap.size w (w.alloc (.cells #[.int .i64 0, .slice none 0 0, .slice none 0 0, .slice none 0 0] 51)) (fun _ => .slice none 0 0) fun _ => 0 :=
  ⟨heap_alloc_new _ _, fun i _ => ⟨rfl, .inl ⟨rfl, rfl⟩⟩, fun i j b _ _ _ e => by simp [Value.ownBlock] at e, (Below.refl _ _).alloc (Nat.le_refl _) _, by simp⟩
set_option maxHeartbeats 2000000 in
theorem rnew_ok (N : Nat) (w : World) (hN1 : 1 ≤ N) (hN : N ≤ 4) :
    Calls Try.prog 7 #[.int .i64 N] w fun e w' => e = .returned (.tuple #[.pointer (some ⟨w.heap.size, 0, none⟩), .int .i64 0]) ∧ RefIs w' w.heap.size w.heap.size N (newS N) ∧ Below w.heap.size w w' := by
  obtain ⟨it, hi, hz0, hz1, hz2⟩ := info_parts infoInt
  have h1 : (1 : Int) ≤ N := by omega
  have h2 : (N : Int) ≤ 4 := by omega
  have H0 : Hid (NewI w.heap.size w (w.alloc (.cells #[.int .i64 0, .slice none 0 0, .slice none 0 0, .slice none 0 0] 51)) (fun _ => .slice none 0 0) fun _ => 0) := NewI.start w
  go_enter Try.func7, Try.ntmps7
  go_wp2
  go_loopw [5] (fun i wr => ∃ k : Nat, k ≤ N ∧ i = .int .i64 k ∧ ∃ v, NewI w.heap.size w wr v fun _ => k) (fun i _ => N - (intOf i).toNat)
  case atStart => exact ⟨0, by omega, rfl, _, H0.out⟩
  case round =>
    obtain ⟨k, hk, rfl, v, hI⟩ := hrel
    have HI : Hid (NewI w.heap.size w wr v fun _ => k) := hI
    clear hI H0
    by_cases hlt : k < N
    · have hki : (k : Int) < (N : Int) := by omega
      have hs := HI.out.size
      have d0 : wr.cell? ⟨w.heap.size, 1, none⟩ = some (v 0) := by rw [cell_of_row wr _ 1 _ _ _ HI.out.head]; rfl
      have O0 : Hid (wr.ownsRow (w.heap.size + 1) 3 1 (v 0) k (List.replicate k (.int .i64 0))) := HI.out.owns 0 (by omega)
      have t1 : True := trivial
      have t2 : 0 = 0 := rfl
      go_wp2_with (first
        | (at_builtin; clear t1; refine wpList_append_own_at _ rfl _ _ 23 rfl (w.heap.size + 1) 3 it (.int .i64 0) 1 8 Try.underlying23 hi hz0 hz1 hz2 rfl (by decide) _ _ _ rfl (O0.out.alloc _) _ 1 1 [.int .i64 0] rfl rfl (one_new wr _ _) (by simp [Value.oneCell']) (by unfold maxLen; omega) (by omega) (by simp; omega) ?_; intro v1 w1 hown hgrow _ hat; obtain ⟨g1, p1, rfl⟩ := ownsRow_succ hown; have S := HI.out.step (i := 0) (by omega) hown hgrow hat; clear d0; have d1 : w1.cell? ⟨w.heap.size, 1, none⟩ = some (v 0) := (by rw [cell_of_row w1 _ 1 _ _ _ S.1]; rfl); have z1 : w1.frozen? ⟨w.heap.size, 1, none⟩ = false := frozen_of_row w1 _ 1 _ _ S.1; have d2 : w1.cell? ⟨w.heap.size, 2, none⟩ = some (v 1) := (by rw [cell_of_row w1 _ 2 _ _ _ S.1]; rfl); have HS1 : Hid (NewI w.heap.size w (w1.setCell ⟨w.heap.size, 1, none⟩ (.slice (some ⟨g1, 0, none⟩) (k + 1) p1)) (fun j => if j = 0 then .slice (some ⟨g1, 0, none⟩) (k + 1) p1 else v j) (fun j => if j = 0 then k + 1 else k)) := S.2; have hs1 : w.heap.size + 1 ≤ w1.heap.size := (by have := HS1.out.size; simpa using this); have O1 : Hid ((w1.setCell ⟨w.heap.size, 1, none⟩ (.slice (some ⟨g1, 0, none⟩) (k + 1) p1)).ownsRow (w.heap.size + 1) 3 1 (v 1) k (List.replicate k (.int .i64 (-1)))) := S.2.owns 1 (by omega); clear hown hgrow hat S)
        | (at_builtin; clear t2; refine wpList_append_own_at _ rfl _ _ 23 rfl (w.heap.size + 1) 3 it (.int .i64 0) 1 8 Try.underlying23 hi hz0 hz1 hz2 rfl (by decide) _ _ _ rfl (O1.out.alloc _) _ 1 1 [.int .i64 (-1)] rfl rfl (fun j u hj => (by have := one_new (w1.setCell ⟨w.heap.size, 1, none⟩ (.slice (some ⟨g1, 0, none⟩) (k + 1) p1)) (.int .i64 (-1)) 3 j u hj; simpa using this)) (by simp [Value.oneCell']) (by unfold maxLen; omega) (by omega) (by simp; omega) ?_; intro vv w2 hown hgrow _ hat; obtain ⟨g2, p2, rfl⟩ := ownsRow_succ hown; have S := HS1.out.step (i := 1) (by omega) hown hgrow hat; clear d1 z1 d2; have e1 : w2.cell? ⟨w.heap.size, 2, none⟩ = some (v 1) := (by rw [cell_of_row w2 _ 2 _ _ _ S.1]; rfl); have y1 : w2.frozen? ⟨w.heap.size, 2, none⟩ = false := frozen_of_row w2 _ 2 _ _ S.1; have e2 : w2.cell? ⟨w.heap.size, 3, none⟩ = some (v 2) := (by rw [cell_of_row w2 _ 3 _ _ _ S.1]; rfl); have HS2 : Hid (∃ u, u 2 = v 2 ∧ NewI w.heap.size w (w2.setCell ⟨w.heap.size, 2, none⟩ (.slice (some ⟨g2, 0, none⟩) (k + 1) p2)) u (fun j => if j = 2 then k else k + 1)) := ⟨fun j => if j = 1 then .slice (some ⟨g2, 0, none⟩) (k + 1) p2 else if j = 0 then .slice (some ⟨g1, 0, none⟩) (k + 1) p1 else v j, rfl, S.2.congr (fun i hi => (by match i, hi with | 0, _ => rfl | 1, _ => rfl | 2, _ => rfl))⟩; have O2 : Hid ((w2.setCell ⟨w.heap.size, 2, none⟩ (.slice (some ⟨g2, 0, none⟩) (k + 1) p2)).ownsRow (w.heap.size + 1) 3 1 (v 2) k (List.replicate k (.int .i64 (-1)))) := S.2.owns 2 (by omega); have hs2 : w.heap.size + 1 ≤ w2.heap.size := (by have := S.2.size; simpa using this); clear hown hgrow hat S)
        | (at_builtin; refine wpList_append_own_at _ rfl _ _ 23 rfl (w.heap.size + 1) 3 it (.int .i64 0) 1 8 Try.underlying23 hi hz0 hz1 hz2 rfl (by decide) _ _ _ rfl (O2.out.alloc _) _ 1 1 [.int .i64 (-1)] rfl rfl (fun j u hj => (by have := one_new (w2.setCell ⟨w.heap.size, 2, none⟩ (.slice (some ⟨g2, 0, none⟩) (k + 1) p2)) (.int .i64 (-1)) 3 j u hj; simpa using this)) (by simp [Value.oneCell']) (by unfold maxLen; omega) (by omega) (by simp; omega) ?_; intro vv w3 hown hgrow _ hat; obtain ⟨g3, p3, rfl⟩ := ownsRow_succ hown; obtain ⟨u, hu2, hU⟩ := HS2.out; rw [← hu2] at hgrow hat; have S := hU.step (i := 2) (by omega) hown hgrow hat; clear e1 y1 e2; have f1 : w3.cell? ⟨w.heap.size, 3, none⟩ = some (v 2) := (by rw [cell_of_row w3 _ 3 _ _ _ S.1, ← hu2]; rfl); have x1 : w3.frozen? ⟨w.heap.size, 3, none⟩ = false := frozen_of_row w3 _ 3 _ _ S.1; have HS3 : Hid (∃ u, NewI w.heap.size w (w3.setCell ⟨w.heap.size, 3, none⟩ (.slice (some ⟨g3, 0, none⟩) (k + 1) p3)) u (fun _ => k + 1)) := ⟨_, S.2.congr (fun i hi => (by match i, hi with | 0, _ => rfl | 1, _ => rfl | 2, _ => rfl))⟩; clear hown hgrow hat S hU))
      go_roundw
      case rel => exact ⟨k + 1, by omega, by go_num, HS3.out⟩
      case measure => simp [intOf]; omega
    · obtain rfl : k = N := by omega
      go_wp2
      go_ret2
      exact ⟨rfl, HI.out.done hN1, HI.out.below⟩

end Go.Proofs.Ytjbchnnbphikhaa
