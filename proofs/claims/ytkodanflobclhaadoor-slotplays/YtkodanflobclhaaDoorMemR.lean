/- The document's own memory (a list of lists): what each of its calls answers and does, for every argument; its New stands in a text of its own. -/
import Derived.Test.YtkodanflobclhaaDoorMemE
import Derived.BigRegion
namespace Go.Proofs.YtkodanflobclhaaDoor.Pmem
open Go.Proofs.YtkodanflobclhaaDoor.Pbase
open Go.RowKit
set_option linter.unusedVariables false

/-- The document's memory lies behind the pointer to block p: a list of N lists, all in blocks from base on. -/
structure RefIs (w : World) (base p N : Nat) (M : Nat → Nat → Int) : Prop where
  ge : base ≤ p
  is : ∃ v, w.heap[p]? = some (.cells #[v] 79 (0, 0)) ∧ RowsIs w base v N M
/-- As a walk asks it: the struct's cell, the lists' cells, the words' cells. -/
theorem RefIs.parts {w : World} {base p N : Nat} {M : Nat → Nat → Int} (h : RefIs w base p N M) (hN : 1 ≤ N) : ∃ g cap, ∃ r c : Nat → Nat, w.cell? ⟨p, 0, none⟩ = some (.slice (some ⟨g, 0, none⟩) N cap) ∧
    (∀ f, f < N → w.cell? ⟨g, f, none⟩ = some (.slice (some ⟨r f, 0, none⟩) 36 (c f))) ∧ (∀ f a, f < N → a < 36 → w.cell? ⟨r f, a, none⟩ = some (.int .u64 (M f a)) ∧ w.frozen? ⟨r f, a, none⟩ = false) ∧ (∀ f, f < N → base ≤ r f ∧ r f ≠ p ∧ r f ≠ g) ∧ ∀ i j, i < N → j < N → r i = r j → i = j := by
  obtain ⟨hp, v, hv, r, c, h1, h2, h3⟩ := h
  rcases h1.2 with ⟨_, e⟩ | ⟨g, cap, cur, rfl, hg, hh, _⟩
  · omega
  · refine ⟨g, cap, r, c, by rw [cell_of_row w p 0 _ _ _ hv]; rfl, fun f hf => ?_, fun f a hf ha => ?_, fun f hf => ?_, h3⟩
    · rw [h1.cellAt (g := g) f (by omega)]
      simp [hf]
    · obtain ⟨_, cu, hc, hw⟩ := h2 f hf
      exact ⟨by rw [cell_of_row w _ a _ _ _ hc]; exact hw a ha, frozen_of_row w _ a _ _ hc⟩
    · obtain ⟨hb, cu, hc, hw⟩ := h2 f hf
      refine ⟨hb, ?_, ?_⟩
      · intro e; rw [e, hv] at hc; simp at hc
      · intro e; rw [e, hh] at hc; simp at hc
/-- Whatever leaves the blocks from base on as they were leaves the document's memory. -/
theorem RefIs.on {w w' : World} {base p N : Nat} {M : Nat → Nat → Int} (h : RefIs w base p N M) (hk : ∀ k, base ≤ k → k < w.heap.size → w'.heap[k]? = w.heap[k]?) : RefIs w' base p N M := by
  obtain ⟨hp, v, hv, hr⟩ := h
  exact ⟨hp, v, by rw [hk p hp (Array.getElem?_eq_some_iff.1 hv).1]; exact hv, hr.on hk⟩
theorem RefIs.grown {w w' : World} {base p N : Nat} {M : Nat → Nat → Int} (h : RefIs w base p N M) (hB : Below w.heap.size w w') : RefIs w' base p N M := h.on fun k _ hk => hB.block k hk
theorem RefIs.lt {w : World} {base q N : Nat} {M : Nat → Nat → Int} (h : RefIs w base q N M) : q < w.heap.size := by
  obtain ⟨hq, v, hv, _⟩ := h
  exact (Array.getElem?_eq_some_iff.1 hv).1
/-- As a walk asks the document's memory, and of which kind its rows' blocks are. -/
theorem RefIs.rows {w : World} {base p N : Nat} {M : Nat → Nat → Int} (h : RefIs w base p N M) (hN : 1 ≤ N) : ∃ g cap, ∃ r c : Nat → Nat, w.cell? ⟨p, 0, none⟩ = some (.slice (some ⟨g, 0, none⟩) N cap) ∧
    (∀ f, f < N → w.cell? ⟨g, f, none⟩ = some (.slice (some ⟨r f, 0, none⟩) 36 (c f))) ∧ (∀ f a, f < N → a < 36 → w.cell? ⟨r f, a, none⟩ = some (.int .u64 (M f a)) ∧ w.frozen? ⟨r f, a, none⟩ = false) ∧ ∀ f, f < N → ∃ cur, w.heap[r f]? = some (.cells cur 58 (0, 0)) := by
  obtain ⟨hp, v, hv, r, c, h1, h2, h3⟩ := h
  rcases h1.2 with ⟨_, e⟩ | ⟨g, cap, cur, rfl, hg, hh, _⟩
  · omega
  · refine ⟨g, cap, r, c, by rw [cell_of_row w p 0 _ _ _ hv]; rfl, fun f hf => ?_, fun f a hf ha => ?_, fun f hf => ?_⟩
    · rw [h1.cellAt (g := g) f (by omega)]
      simp [hf]
    · obtain ⟨_, cu, hc, hw⟩ := h2 f hf
      exact ⟨by rw [cell_of_row w _ a _ _ _ hc]; exact hw a ha, frozen_of_row w _ a _ _ hc⟩
    · obtain ⟨_, cu, hc, _⟩ := h2 f hf
      exact ⟨cu, hc⟩
theorem RefIs.drewN {w : World} {base p N : Nat} {M : Nat → Nat → Int} (h : RefIs w base p N M) (n : Nat) : RefIs (w.drewN n) base p N M := h.on fun _ _ _ => rfl
theorem RefIs.alloc {w : World} {base p N : Nat} {M : Nat → Nat → Int} (h : RefIs w base p N M) (o : Obj) : RefIs (w.alloc o) base p N M := h.on fun k _ hk => Below.heap_alloc _ _ _ hk
theorem RefIs.setRow {w : World} {base p N : Nat} {M : Nat → Nat → Int} (h : RefIs w base p N M) {b : Nat} (hb : b < base) (cs : Array Value) : RefIs (w.setRow b cs) base p N M := h.on fun k hk _ => setRow_other w b k cs (by omega)
/-- The words are those of another function that agrees. -/
theorem RefIs.congr {w : World} {base p N : Nat} {M M' : Nat → Nat → Int} (h : RefIs w base p N M) (e : ∀ f a, f < N → a < 36 → M f a = M' f a) : RefIs w base p N M' := by
  obtain ⟨hp, v, hv, r, c, h1, h2, h3⟩ := h
  refine ⟨hp, v, hv, r, c, h1, fun j hj => ?_, h3⟩
  obtain ⟨hb, cu, hc, hw⟩ := h2 j hj
  exact ⟨hb, cu, hc, fun a ha => by rw [hw a ha, e j a hj ha]⟩
/-- One word is stored, at the address that the walk comes to. -/
theorem RefIs.store {w : World} {base p N : Nat} {M : Nat → Nat → Int} (h : RefIs w base p N M) {f a g cap x c : Nat} (hf : f < N) (ha : a < 36) (hp : w.cell? ⟨p, 0, none⟩ = some (.slice (some ⟨g, 0, none⟩) N cap)) (hg : w.cell? ⟨g, f, none⟩ = some (.slice (some ⟨x, 0, none⟩) 36 c)) (v : Int) :
    RefIs (w.setCell ⟨x, a, none⟩ (.int .u64 v)) base p N (fun h b => if h = f ∧ b = a then v else M h b) ∧ base ≤ x := by
  obtain ⟨hb, v0, hv, r, cc, h1, h2, h3⟩ := h
  have e0 : v0 = .slice (some ⟨g, 0, none⟩) N cap := by
    rw [cell_of_row w p 0 _ _ _ hv] at hp
    simpa using hp
  subst e0
  have ex : x = r f := by
    rw [h1.cellAt (g := g) f (by omega)] at hg
    simp [hf] at hg
    exact hg.1.symm
  subst ex
  obtain ⟨hbf, cuf, hcf, hwf⟩ := h2 f hf
  have hother : ∀ k, k ≠ r f → (w.setCell ⟨r f, a, none⟩ (.int .u64 v)).heap[k]? = w.heap[k]? := fun k hk => Below.heap_setCell _ _ _ _ hk
  refine ⟨⟨hb, .slice (some ⟨g, 0, none⟩) N cap, ?_, r, cc, ?_, fun j hj => ?_, h3⟩, hbf⟩
  · rw [hother p (by rintro rfl; rw [hv] at hcf; simp at hcf)]; exact hv
  · rcases h1.2 with ⟨e, _⟩ | ⟨g', cap', cur, e, hg', hh, rest⟩
    · cases e
    · cases e
      exact ⟨h1.1, .inr ⟨g, cap, cur, rfl, hg', by rw [hother g (by rintro rfl; rw [hh] at hcf; simp at hcf)]; exact hh, rest⟩⟩
  · obtain ⟨hbj, cuj, hcj, hwj⟩ := h2 j hj
    by_cases e : j = f
    · subst e
      rw [hcf] at hcj
      cases hcj
      refine ⟨hbj, cuf.setIfInBounds a (.int .u64 v), heap_setCell_same _ _ _ _ _ _ hcf, fun i hi => ?_⟩
      rw [Array.getElem?_setIfInBounds]
      by_cases ei : a = i
      · subst ei
        have := hwf a ha
        have hlt : a < cuf.size := by
          rcases Nat.lt_or_ge a cuf.size with h | h
          · exact h
          · rw [Array.getElem?_eq_none h] at this; cases this
        simp [hlt]
      · rw [if_neg ei, hwf i hi]
        simp [Ne.symm ei]
    · refine ⟨hbj, cuj, by rw [hother _ (fun h => e (h3 j f hj hf h))]; exact hcj, fun i hi => ?_⟩
      rw [hwj i hi]
      simp [e]

/-! ### The calls -/
theorem is_yes (p g cap N f : Nat) (w : World) (hf : f < N) (hN : N ≤ 64) (hp : w.cell? ⟨p, 0, none⟩ = some (.slice (some ⟨g, 0, none⟩) N cap)) :
    Calls Tryd.prog 37 #[.pointer (some ⟨p, 0, none⟩), .int .i64 f] w fun e w' => e = .returned (.bool true) ∧ w' = w := by
  have hfi : (f : Int) < (N : Int) := by omega
  go_enter Tryd.func37, Tryd.ntmps37
  go_wp2
  go_ret
  exact ⟨rfl, rfl⟩
theorem is_no (p g cap N : Nat) (f : Int) (w : World) (hf : ¬ (0 ≤ f ∧ f < N)) (hN : N ≤ 64) (hp : w.cell? ⟨p, 0, none⟩ = some (.slice (some ⟨g, 0, none⟩) N cap)) :
    Calls Tryd.prog 37 #[.pointer (some ⟨p, 0, none⟩), .int .i64 f] w fun e w' => e = .returned (.bool false) ∧ w' = w := by
  by_cases h0 : 0 ≤ f
  · have h1 : ¬ f < N := by omega
    clear hf
    go_enter Tryd.func37, Tryd.ntmps37
    go_wp2
    go_ret
    exact ⟨by first | rfl | (simp; omega), rfl⟩
  · clear hf
    go_enter Tryd.func37, Tryd.ntmps37
    go_wp2
    go_ret
    exact ⟨rfl, rfl⟩
/-- Is there such a frame? -/
theorem is_any (p g cap N : Nat) (f : Int) (w : World) (hN : N ≤ 64) (hp : w.cell? ⟨p, 0, none⟩ = some (.slice (some ⟨g, 0, none⟩) N cap)) :
    Calls Tryd.prog 37 #[.pointer (some ⟨p, 0, none⟩), .int .i64 f] w fun e w' => e = .returned (.bool (okF N f)) ∧ w' = w := by
  cases h : okF N f
  · exact is_no p g cap N f w (okF_no h) hN hp
  · obtain ⟨c, rfl, hc⟩ := okF_split h
    exact is_yes p g cap N c w hc hN hp
theorem rload_ok (base p N f a : Nat) (M : Nat → Nat → Int) (w : World) (hf : f < N) (ha : a < 36) (hN : N ≤ 64) (hR : RefIs w base p N M) :
    Calls Tryd.prog 28 #[.pointer (some ⟨p, 0, none⟩), .int .i64 f, .int .i64 a] w fun e w' => e = .returned (.tuple #[.int .u64 (M f a), .int .i64 0]) ∧ w' = w := by
  obtain ⟨g, cap, r, c, hp, hg0, hw0, _, _⟩ := hR.parts (by omega)
  have hg := hg0 f hf
  have hw := (hw0 f a hf ha).1
  have hok := okF_nat hf
  have hfi : (f : Int) < (N : Int) := by omega
  have hai : (a : Int) < 36 := by omega
  obtain ⟨m, hm⟩ : ∃ m, m = M f a := ⟨_, rfl⟩
  rw [← hm] at hw ⊢
  clear hg0 hw0 hR hm
  go_enter Tryd.func28, Tryd.ntmps28
  go_wp2_with (go_at_call 37; refine (is_any p g cap N f _ hN hp).mono ?_; rintro e w' ⟨rfl, rfl⟩)
  go_ret2
  exact ⟨rfl, rfl⟩

end Go.Proofs.YtkodanflobclhaaDoor.Pmem
