/- Keys are sorted by their turns: what the library's sort leaves, at the keys of what is remembered. -/
import Derived.Test.YtamfdnkjfmfcoaaTlbD
namespace Go.Proofs.Ytamfdnkjfmfcoaa
open Go.Shelf Go.RowKit Go.Lib Go.Sort Go.ChangeMaps
set_option linter.unusedVariables false

/-! ### The list's order -/
/-- No key twice; turns rise from 1 on. -/
structure OkS (S : List En) : Prop where
  keys : S.Pairwise fun x y => x.1 ≠ y.1
  rise : S.Pairwise fun x y => x.2.2 < y.2.2
theorem tnK_mem : ∀ {S : List En}, S.Pairwise (fun x y => x.1 ≠ y.1) → ∀ {x : En}, x ∈ S → tnK S x.1 = x.2.2 ∧ ptK S x.1 = x.2.1 ∧ hasK S x.1 = true
  | [], _, _, h => by simp at h
  | y :: S, hp, x, h => by
    obtain ⟨h1, h2⟩ := List.pairwise_cons.1 hp
    rcases List.mem_cons.1 h with rfl | h
    · simp [tnK, ptK, hasK]
    · have hne := h1 x h
      have := tnK_mem h2 h
      simp only [tnK, ptK, hasK, if_neg hne, List.any_cons, decide_eq_true_eq, Bool.or_eq_true]
      exact ⟨this.1, this.2.1, Or.inr this.2.2⟩
theorem eq_of_rise {f : Ky → Int} : ∀ (s l : List Ky), s.Pairwise (fun x y => f x < f y) → l.Pairwise (fun x y => f x ≤ f y) → l.Perm s → l = s
  | [], l, _, _, h => List.Perm.eq_nil h
  | a :: s, [], _, _, h => by simpa using h.length_eq
  | a :: s, c :: l, h1, h2, h => by
    obtain ⟨g1, g2⟩ := List.pairwise_cons.1 h1
    obtain ⟨g3, g4⟩ := List.pairwise_cons.1 h2
    have e : c = a := by
      rcases List.mem_cons.1 (h.mem_iff.1 (List.mem_cons_self (a := c) (l := l))) with e | hc
      · exact e
      · rcases List.mem_cons.1 (h.mem_iff.2 (List.mem_cons_self (a := a) (l := s))) with e | ha
        · exact e.symm
        · have := g1 c hc
          have := g3 a ha
          omega
    subst e
    rw [eq_of_rise s l g2 g4 (List.perm_cons c |>.1 h)]
theorem rise_keys {S : List En} (h : OkS S) : (S.map (·.1)).Pairwise fun x y => tnK S x < tnK S y := by
  rw [List.pairwise_map]
  refine List.Pairwise.imp_of_mem (fun {x y} hx hy hlt => ?_) h.rise
  rw [(tnK_mem h.keys hx).1, (tnK_mem h.keys hy).1]
  exact hlt
theorem ltOf_cfT (S : List En) (x y : Ky) : ltOf (cfT S) x y = decide (tnK S x < tnK S y) := by
  unfold ltOf cfT Lib.compareInt
  by_cases h1 : tnK S x < tnK S y
  · simp [h1]
  · by_cases h2 : tnK S y < tnK S x <;> simp [h1, h2]
theorem swo_cfT (S : List En) : SWO (ltOf (cfT S)) where
  irrefl x := by rw [ltOf_cfT]; simp
  trans x y z h1 h2 := by rw [ltOf_cfT] at *; simp at *; omega
  ntrans x y z h1 h2 := by rw [ltOf_cfT] at *; simp at *; omega

/-! ### The sort's worlds -/
def encK (k : Ky) : List Value := [.int .i64 k.1, .int .i64 k.2]
theorem sort_block (w : World) (g m : Nat) (d : Array Ky) (os : Array Obj) {i : Nat} (hi : i < w.heap.size) (hne : i ≠ g) : (sortWorldK encK 2 w g 0 m d os).heap[i]? = w.heap[i]? := by
  unfold sortWorldK
  rw [heap_grow_old _ _ (by simpa [putRowK] using hi)]
  simp [putRowK, putRow, mapBlock, Array.getElem?_modify, Ne.symm hne]
theorem sort_below (w : World) (g m : Nat) (d : Array Ky) (os : Array Obj) {B : Nat} (hB : B ≤ w.heap.size) (hg : B ≤ g) : Below B w (sortWorldK encK 2 w g 0 m d os) :=
  ⟨rfl, rfl, rfl, by simp [sortWorldK, putRowK], fun i hi => sort_block w g m d os (by omega) (by omega)⟩
theorem sort_cells (w : World) (g m : Nat) (d d' : Array Ky) (os : Array Obj) (hH : HoldsK encK 2 w g 0 d) (hs : d'.size = d.size) (hg : g < w.heap.size) {j : Nat} (hj : j < d'.size) :
    (sortWorldK encK 2 w g 0 m d' os).cell? ⟨g, j * 2, none⟩ = some (.int .i64 (d'[j]!).1) ∧ (sortWorldK encK 2 w g 0 m d' os).cell? ⟨g, j * 2 + 1, none⟩ = some (.int .i64 (d'[j]!).2) := by
  have h1 : HoldsK encK 2 (sortWorldK encK 2 w g 0 m d' os) g 0 d' := by
    unfold sortWorldK
    exact holdsK_grow _ _ _ _ _ _ _ (by simpa [putRowK] using hg) (holdsK_putRowK _ _ _ _ _ d d' (holdsK_ahead _ _ _ _ _ _ _ hH) hs)
  have a := h1.cell (i := j) (c := 0) hj (by omega)
  have b := h1.cell (i := j) (c := 1) hj (by omega)
  simp only [Nat.zero_add, Nat.add_zero, encK, List.getElem!_cons_zero, List.getElem!_cons_succ] at a b
  exact ⟨a.1, b.1⟩
set_option maxHeartbeats 1000000 in
theorem sort_keys (q p b g cap : Nat) (S D : List En) (w : World) (hS : OkS S) (hP : S.Perm D) (h0 : w.cell? ⟨q, 0, none⟩ = some (.pointer (some ⟨p, 0, none⟩))) (h1 : w.cell? ⟨p, 1, none⟩ = some (.map (some b))) (hM : MapIs w b S)
    (hq : q ≠ g) (hp : p ≠ g) (hb : b ≠ g) (hg : g < w.heap.size) (hH : HoldsK encK 2 w g 0 (D.map (·.1)).toArray) (hl : D.length < 4611686018427387904) :
    Calls Try.prog 20 #[.slice (some ⟨g, 0, none⟩) D.length cap, .func (.func 21) #[] #[.pointer (some ⟨q, 0, none⟩)]] w fun e w' =>
      e = .returned (.tuple #[]) ∧ (∀ j x, S[j]? = some x → w'.cell? ⟨g, j * 2, none⟩ = some (.int .i64 x.1.1) ∧ w'.cell? ⟨g, j * 2 + 1, none⟩ = some (.int .i64 x.1.2)) ∧ ∀ B, B ≤ g → Below B w w' := by
  have eg : ∀ args w, (callFunc 21 args).run Try.prog w = .ok (.enter 21 args) w := enters_of Try.func21 (by kernel_rfl) rfl
  have hq' := World.block_lt_of_cell? w _ h0
  have hp' := World.block_lt_of_cell? w _ h1
  have hcmp : CmpLays Try.prog 21 #[.pointer (some ⟨q, 0, none⟩)] encK 2 (cfT S) g 0 (D.map (·.1)).toArray.size w := by
    intro m os dk hdk x y
    refine closure_any q p b S x y _ ?_ ?_ ?_
    · rw [World.cell?_of_block (w := w) (sort_block w g m dk os hq' hq)]; exact h0
    · rw [World.cell?_of_block (w := w) (sort_block w g m dk os hp' hp)]; exact h1
    · exact hM.on (sort_block w g m dk os hM.lt hb)
  have hcon := AnyQ.slices_SortFunc sortKey 2 Try.isAgg36 Try.sizeOf36 encK (fun _ => rfl) (fun x v hv => by simp [encK] at hv; rcases hv with rfl | rfl <;> rfl) (cfT S) (swo_cfT S) 21 #[.pointer (some ⟨q, 0, none⟩)] g 0 cap (D.map (·.1)).toArray w eg hcmp hH hg (by simpa using hl)
  have e1 : (D.map (·.1)).toArray.size = D.length := by simp
  rw [e1] at hcon
  change Calls Try.prog 20 _ _ _ at hcon
  refine hcon.mono ?_
  rintro e w' ⟨rfl, d', n, os, hperm, hsort, rfl⟩
  obtain ⟨s1, s2, s3⟩ := hperm
  have hsz : d'.size = D.length := by rw [s1, e1]
  have hd : d'.toList = S.map (·.1) := by
    refine eq_of_rise (f := tnK S) _ _ (rise_keys hS) ?_ ?_
    · rw [List.pairwise_iff_getElem]
      intro i j hi hj hij
      have := hsort i j (Nat.zero_le _) hij (by simpa [hsz] using hj)
      rw [ltOf_cfT] at this
      simp only [decide_eq_false_iff_not, Int.not_lt] at this
      have a1 : d'[i]! = d'.toList[i] := by rw [getElem!_pos d' i (by simpa using hi)]; simp
      have a2 : d'[j]! = d'.toList[j] := by rw [getElem!_pos d' j (by simpa using hj)]; simp
      rw [a1, a2] at this
      exact this
    · have x1 : (d'.extract 0 D.length) = d' := by rw [← hsz]; simp
      have x2 : ((D.map (·.1)).toArray.extract 0 D.length) = (D.map (·.1)).toArray := by
        have : D.length = (D.map (·.1)).toArray.size := by simp
        rw [this, Array.extract_size]
      rw [x1, x2] at s3
      exact s3.trans (hP.symm.map _)
  refine ⟨rfl, fun j x hx => ?_, fun B hB => sort_below w g n d' os (by omega) hB⟩
  have hj : j < S.length := (List.getElem?_eq_some_iff.1 hx).1
  have hj' : j < d'.size := by rw [hsz, ← hP.length_eq]; exact hj
  have hx' : d'[j]! = x.1 := by
    rw [getElem!_pos d' j hj', ← Array.getElem_toList]
    have : d'.toList[j]? = some x.1 := by rw [hd]; simp [hx]
    exact (List.getElem?_eq_some_iff.1 this).2
  have := sort_cells w g n (D.map (·.1)).toArray d' os hH (by rw [hsz, e1]) hg hj'
  rw [hx'] at this
  exact this
end Go.Proofs.Ytamfdnkjfmfcoaa
