/- Entries of the document's answer: one is written; a list of them is made anew: what lies in memory then. -/
import Derived.Test.YtamfdnkjfmfcoaaTlbS
namespace Go.Proofs.Ytamfdnkjfmfcoaa
open Go.RowKit Go.ChangeMaps
set_option linter.unusedVariables false

theorem putM_at : ∀ {S : List En} {k : Ky} {j : Nat} {x : En} (p : Pt) (t : Int), (∀ l y, l < j → S[l]? = some y → y.1 ≠ k) → S[j]? = some x → x.1 = k → putM S k p t = S.set j (k, p, t)
  | [], _, _, _, _, _, _, hx, _ => by simp at hx
  | y :: S, k, 0, x, p, t, h, hx, e => by
    simp at hx
    subst hx
    simp [putM, e]
  | y :: S, k, j + 1, x, p, t, h, hx, e => by
    have hy : y.1 ≠ k := h 0 y (by omega) rfl
    have := putM_at (S := S) (k := k) (j := j) (x := x) p t (fun l z hl hz => h (l + 1) z (by omega) (by simpa using hz)) (by simpa using hx) e
    simp [putM, hy, this]
theorem putS_at {S : List En} {R : Nat} (hl : S.length ≤ R) {k : Ky} {j : Nat} {x : En} (p : Pt) (h : ∀ l y, l < j → S[l]? = some y → y.1 ≠ k) (hx : S[j]? = some x) (e : x.1 = k) : putS R S k p = S.set j (k, p, turnS S k) := by
  unfold putS
  rw [putM_at p _ h hx e, List.length_set, if_neg (by omega)]
theorem putS_none {S : List En} {R : Nat} {k : Ky} (p : Pt) (h : hasK S k = false) : putS R S k p = if R < S.length + 1 then (S ++ [(k, p, turnS S k)]).tail else S ++ [(k, p, turnS S k)] := by
  unfold putS
  rw [put_none k p _ S h]
  simp
theorem RefIs.set4 {n₀ : Nat} {w : World} {q g off cap : Nat} {room : Int} {S : List En} (h : RefIs n₀ w q room (some ⟨g, off, none⟩) cap S) {j : Nat} {x : En} (hx : S[j]? = some x) (p0 : Bool) (p1 p2 p3 t : Int) :
    RefIs n₀ ((((w.setCell ⟨g, off + j * 6 + 2, none⟩ (.bool p0)).setCell ⟨g, off + j * 6 + 3, none⟩ (.int .i64 p1)).setCell ⟨g, off + j * 6 + 4, none⟩ (.int .i64 p2)).setCell ⟨g, off + j * 6 + 5, none⟩ (.int .i64 p3)) q room (some ⟨g, off, none⟩) cap (S.set j (x.1, (p0, p1, p2, p3), t)) := by
  have hj : j < S.length := (List.getElem?_eq_some_iff.1 hx).1
  obtain ⟨g', off', e0, hg, hgq, hgl, hc6, hz⟩ := h.ent hx
  simp at e0
  obtain ⟨rfl, rfl⟩ := e0
  rcases h.held with ⟨rfl, _⟩ | ⟨g', off', cur, e1, hg1, hr, hc⟩
  · simp at hj
  · simp at e1
    obtain ⟨rfl, rfl⟩ := e1
    have hw := setCell_eq_setRow w g (off + j * 6 + 2) _ _ _ (.bool p0) hr
    have r1 := setRow_heap w g _ (cur.setIfInBounds (off + j * 6 + 2) (.bool p0)) _ _ hr
    rw [hw, setCell_eq_setRow _ g _ _ _ _ _ r1, setRow_setRow]
    have r2 := setRow_heap w g _ ((cur.setIfInBounds (off + j * 6 + 2) (.bool p0)).setIfInBounds (off + j * 6 + 3) (.int .i64 p1)) _ _ hr
    rw [setCell_eq_setRow _ g _ _ _ _ _ r2, setRow_setRow]
    have r3 := setRow_heap w g _ (((cur.setIfInBounds (off + j * 6 + 2) (.bool p0)).setIfInBounds (off + j * 6 + 3) (.int .i64 p1)).setIfInBounds (off + j * 6 + 4) (.int .i64 p2)) _ _ hr
    rw [setCell_eq_setRow _ g _ _ _ _ _ r3, setRow_setRow]
    have r4 := setRow_heap w g _ ((((cur.setIfInBounds (off + j * 6 + 2) (.bool p0)).setIfInBounds (off + j * 6 + 3) (.int .i64 p1)).setIfInBounds (off + j * 6 + 4) (.int .i64 p2)).setIfInBounds (off + j * 6 + 5) (.int .i64 p3)) _ _ hr
    have hsz : ∀ i, i < S.length * 6 → off + i < cur.size := fun i hi => by
      have h1 := hc i hi
      have h2 : (rcells S)[i]? ≠ none := by
        intro e
        have := List.getElem?_eq_none_iff.1 e
        rw [rcells_len] at this
        omega
      rw [← h1] at h2
      exact Nat.lt_of_not_le (fun hle => h2 (Array.getElem?_eq_none hle))
    refine ⟨?_, h.base, by simpa using h.capn, .inr ⟨g, off, _, rfl, hg1, r4, fun t' ht' => ?_⟩⟩
    · rw [setRow_other _ _ _ _ (Ne.symm hgq), h.row]
      simp
    · simp only [List.length_set] at ht'
      have hS : ∀ l y, S[l]? = some y → l ≠ j → (S.set j (x.1, (p0, p1, p2, p3), t))[l]? = some y := fun l y hl hne => by
        rw [List.getElem?_set_ne (Ne.symm hne)]; exact hl
      have hSj : (S.set j (x.1, (p0, p1, p2, p3), t))[j]? = some (x.1, (p0, p1, p2, p3), t) := by
        simp [hj]
      obtain ⟨l, c, rfl, hc⟩ : ∃ l c, t' = l * 6 + c ∧ c < 6 := ⟨t' / 6, t' % 6, by omega, by omega⟩
      have hl : l < S.length := by omega
      have b2 := hsz (j * 6 + 2) (by omega)
      have b3 := hsz (j * 6 + 3) (by omega)
      have b4 := hsz (j * 6 + 4) (by omega)
      have b5 := hsz (j * 6 + 5) (by omega)
      have hold : cur[off + (l * 6 + c)]? = (rc (S[l]))[c]? := by
        rw [‹∀ t, t < S.length * 6 → cur[off + t]? = (rcells S)[t]?› (l * 6 + c) (by omega), rcells_get S l c S[l] (List.getElem?_eq_getElem hl) hc]
      by_cases hlj : l = j
      · subst hlj
        rw [rcells_get _ l c _ hSj hc]
        have hxx : S[l] = x := (List.getElem?_eq_some_iff.1 hx).2
        rw [hxx] at hold
        match c, hc with
        | 0, _ =>
          simp only [Array.getElem?_setIfInBounds]
          rw [if_neg (by omega), if_neg (by omega), if_neg (by omega), if_neg (by omega), hold]; rfl
        | 1, _ =>
          simp only [Array.getElem?_setIfInBounds]
          rw [if_neg (by omega), if_neg (by omega), if_neg (by omega), if_neg (by omega), hold]; rfl
        | 2, _ =>
          simp only [Array.getElem?_setIfInBounds, Array.size_setIfInBounds]
          rw [if_neg (by omega), if_neg (by omega), if_neg (by omega), if_pos (by omega), if_pos (by omega)]; rfl
        | 3, _ =>
          simp only [Array.getElem?_setIfInBounds, Array.size_setIfInBounds]
          rw [if_neg (by omega), if_neg (by omega), if_pos (by omega), if_pos (by omega)]; rfl
        | 4, _ =>
          simp only [Array.getElem?_setIfInBounds, Array.size_setIfInBounds]
          rw [if_neg (by omega), if_pos (by omega), if_pos (by omega)]; rfl
        | 5, _ =>
          simp only [Array.getElem?_setIfInBounds, Array.size_setIfInBounds]
          rw [if_pos (by omega), if_pos (by omega)]; rfl
      · rw [rcells_get _ l c S[l] (hS l _ (List.getElem?_eq_getElem hl) hlj) hc]
        simp only [Array.getElem?_setIfInBounds]
        rw [if_neg (by omega), if_neg (by omega), if_neg (by omega), if_neg (by omega), hold]
/-- A list of entries of the call's own, laid into the document's Tlb. -/
theorem RefIs.lay {n₀ : Nat} {w w5 : World} {q cap : Nat} {room : Int} {ao : Option Addr} {S S' : List En} (h : RefIs n₀ w q room ao cap S) (hn : n₀ ≤ w.heap.size) (hq : w5.heap[q]? = w.heap[q]?) {g c5 : Nat} (ho : w5.ownsRow w.heap.size 47 6 (.slice (some ⟨g, 0, none⟩) S'.length c5) S'.length (rcells S')) :
    RefIs n₀ (w5.setCell ⟨q, 0, none⟩ (.slice (some ⟨g, 0, none⟩) S'.length c5)) q room (some ⟨g, 0, none⟩) c5 S' := by
  rcases ho.2 with ⟨e0, _⟩ | ⟨g', cap', cur, e0, hbg, hg, hnc, hcm, hcs, htake⟩
  · cases e0
  · cases e0
    have hr := hq.trans h.row
    have hlt := h.lt
    have hgq : g ≠ q := by omega
    rw [setCell_eq_setRow w5 q 0 _ _ _ _ hr]
    refine ⟨setRow_heap _ _ _ _ _ _ hr, h.base, hnc, .inr ⟨g, 0, cur, rfl, by omega, (setRow_other _ _ _ _ hgq).trans hg, fun t ht => ?_⟩⟩
    rw [Nat.zero_add, ← htake, List.getElem?_take, if_pos ht, Array.getElem?_toList]
/-- The first entry is left out. -/
theorem RefIs.tail {n₀ : Nat} {w : World} {q g off cap : Nat} {room : Int} {x : En} {S : List En} (h : RefIs n₀ w q room (some ⟨g, off, none⟩) cap (x :: S)) :
    RefIs n₀ (w.setCell ⟨q, 0, none⟩ (.slice (some ⟨g, off + 6, none⟩) S.length (cap - 1))) q room (some ⟨g, off + 6, none⟩) (cap - 1) S := by
  obtain ⟨g', off', e0, hg, hgq, hgl, hc6, hz⟩ := h.ent (j := 0) (x := x) rfl
  simp at e0
  obtain ⟨rfl, rfl⟩ := e0
  have hcap := h.capn
  rcases h.held with ⟨e, _⟩ | ⟨g', off', cur, e1, hg1, hr, hc⟩
  · cases e
  · simp at e1
    obtain ⟨rfl, rfl⟩ := e1
    rw [setCell_eq_setRow w q 0 _ _ _ _ h.row]
    refine ⟨setRow_heap _ _ _ _ _ _ h.row, h.base, by simp at hcap; omega, .inr ⟨g, off + 6, cur, rfl, hg1, (setRow_other _ _ _ _ hgq).trans hr, fun t ht => ?_⟩⟩
    have := hc (6 + t) (by simp; omega)
    rw [← Nat.add_assoc] at this
    rw [this]
    have e : rcells (x :: S) = rc x ++ rcells S := rfl
    rw [e, List.getElem?_append_right (by simp [rc])]
    congr 1
    simp [rc]
theorem infoEnt : (Try.prog.info? 47).map (fun i => (i.zero, i.size, i.bytes)) = some (some (.agg #[.int .i64 0, .int .i64 0, .bool false, .int .i64 0, .int .i64 0, .int .i64 0]), 6, 48) := by kernel_rfl
end Go.Proofs.Ytamfdnkjfmfcoaa
