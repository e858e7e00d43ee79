/- A range over a map from ints to ints, in whatever order (written out of tlb's TlbB). -/
import Derived.Test.YtefoofcfbcmjcaaHwM
import Derived.Maps.RangeWalk
namespace Go.Proofs.Ytefoofcfbcmjcaa.Phw
open Go.Proofs.Ytefoofcfbcmjcaa.Pbase
open Go.RowKit Go.ChangeMaps
set_option linter.unusedVariables false

/-- What rises has no two alike. -/
theorem rise_ne : ∀ {l : List Nat}, l.Pairwise (· < ·) → l.Pairwise (· ≠ ·)
  | [], _ => List.Pairwise.nil
  | a :: l, h => List.pairwise_cons.2 ⟨fun b hb => Nat.ne_of_lt ((List.pairwise_cons.1 h).1 b hb), rise_ne (List.pairwise_cons.1 h).2⟩
/-! ### The range -/
/-- Block r is an iterator over the map in block b, which holds S; D: the entries that it has handed out, in that order. -/
def RngIs (w : World) (b r : Nat) (S D : List En) : Prop :=
  ∃ es clock since seen c0, w.heap[b]? = some (.map es clock) ∧ Ents es clock S ∧ w.heap[r]? = some (.mapIter (some b) since seen c0) ∧ (∀ x ∈ es.toList, x.born < since) ∧ since ≤ c0 ∧ since ≤ clock ∧
    ∃ Z A B : List (MapEntry × En), Z.map Prod.fst = es.toList ∧ Z.map Prod.snd = S ∧ (∀ z ∈ Z, z.1.key = kv z.2.1 ∧ z.1.val = ev z.2.2) ∧ Z.Perm (A ++ B) ∧ seen.toList = A.map (fun z => z.1.born) ∧ D = A.map Prod.snd
theorem zip_ents : ∀ (l : List MapEntry) (S : List En), l.map (fun e => (e.key, e.val)) = S.map (fun x => (kv x.1, ev x.2)) → ∃ Z : List (MapEntry × En), Z.map Prod.fst = l ∧ Z.map Prod.snd = S ∧ ∀ z ∈ Z, z.1.key = kv z.2.1 ∧ z.1.val = ev z.2.2
  | [], [], _ => ⟨[], rfl, rfl, by simp⟩
  | [], _ :: _, h => by simp at h
  | _ :: _, [], h => by simp at h
  | e :: l, x :: S, h => by
    simp only [List.map_cons, List.cons.injEq, Prod.mk.injEq] at h
    obtain ⟨Z, h1, h2, h3⟩ := zip_ents l S h.2
    refine ⟨(e, x) :: Z, by simp [h1], by simp [h2], ?_⟩
    intro z hz
    rcases List.mem_cons.1 hz with rfl | hz
    · exact h.1
    · exact h3 z hz
theorem RngIs.map {w : World} {b r : Nat} {S D : List En} (h : RngIs w b r S D) : MapIs w b S := by
  obtain ⟨es, clock, since, seen, c0, h1, h2, _⟩ := h
  exact ⟨es, clock, h1, h2⟩
theorem RngIs.lt {w : World} {b r : Nat} {S D : List En} (h : RngIs w b r S D) : r < w.heap.size := by
  obtain ⟨es, clock, since, seen, c0, h1, h2, h3, _⟩ := h
  exact (Array.getElem?_eq_some_iff.1 h3).1
theorem RngIs.ne {w : World} {b r : Nat} {S D : List En} (h : RngIs w b r S D) : b ≠ r := by
  obtain ⟨es, clock, since, seen, c0, h1, h2, h3, _⟩ := h
  intro e
  rw [e, h3] at h1
  cases h1
theorem RngIs.on {w w' : World} {b r : Nat} {S D : List En} (h : RngIs w b r S D) (hb : w'.heap[b]? = w.heap[b]?) (hr : w'.heap[r]? = w.heap[r]?) : RngIs w' b r S D := by
  obtain ⟨es, clock, since, seen, c0, h1, h2, h3, h4⟩ := h
  exact ⟨es, clock, since, seen, c0, hb.trans h1, h2, hr.trans h3, h4⟩
theorem rangeLeft_on {w w' : World} {b r : Nat} (hb : w'.heap[b]? = w.heap[b]?) (hr : w'.heap[r]? = w.heap[r]?) : w'.rangeLeft b r = w.rangeLeft b r := by
  simp only [World.rangeLeft, hb, hr]
theorem RngIs.alloc {w : World} {b r : Nat} {S D : List En} (h : RngIs w b r S D) (o : Obj) : RngIs (w.alloc o) b r S D := h.on (Below.heap_alloc w o b h.map.lt) (Below.heap_alloc w o r h.lt)
theorem RngIs.left_alloc {w : World} {b r : Nat} {S D : List En} (h : RngIs w b r S D) (o : Obj) : (w.alloc o).rangeLeft b r = w.rangeLeft b r := rangeLeft_on (Below.heap_alloc w o b h.map.lt) (Below.heap_alloc w o r h.lt)
theorem RngIs.start {w : World} {b : Nat} {S : List En} (h : MapIs w b S) :
    ∃ o, (Instr.range 39 (.map (some b))).run Try.prog w = .ok (.pointer (some ⟨w.heap.size, 0, none⟩)) (w.alloc o) ∧ RngIs (w.alloc o) b w.heap.size S [] := by
  have hlt := h.lt
  obtain ⟨es, clock, hb, E⟩ := h
  obtain ⟨Z, z1, z2, z3⟩ := zip_ents es.toList S E.ents
  refine ⟨_, run_range_map w 39 3 3 b es clock Try.underlying39 hb, es, clock, clock, #[], clock, (MapKept.heap_alloc w _).2 b hlt |>.trans hb, E, (MapKept.heap_alloc w _).1, E.old, Nat.le_refl _, Nat.le_refl _, Z, [], Z, z1, z2, z3, List.Perm.refl _, rfl, rfl⟩
/-- The step: all was handed out; or one more comes. -/
theorem RngIs.next {w : World} {b r : Nat} {S D : List En} (h : RngIs w b r S D) (ty : TypeId) :
    (S.Perm D ∧ (Instr.next (.pointer (some ⟨r, 0, none⟩)) false ty).run Try.prog w = .ok (.tuple #[.bool false]) w) ∨
    ∃ x w', x ∈ S ∧ (∃ R, S.Perm (D ++ x :: R)) ∧ (Instr.next (.pointer (some ⟨r, 0, none⟩)) false ty).run Try.prog w = .ok (.tuple #[.bool true, kv x.1, ev x.2]) w' ∧ RngIs w' b r S (D ++ [x]) ∧ w'.rangeLeft b r < w.rangeLeft b r ∧
      (Instr.entry (.pointer (some ⟨r, 0, none⟩))).run Try.prog w' = .ok (.tuple #[kv x.1, ev x.2]) w' ∧ w'.heap.size = w.heap.size ∧ (∀ i, i ≠ r → w'.heap[i]? = w.heap[i]?) ∧ ∀ B, B ≤ r → Below B w w' := by
  have hne := h.ne
  obtain ⟨es, clock, since, seen, c0, hb, E, hr, hold, hsc, hsk, Z, A, B, z1, z2, z3, z4, z5, z6⟩ := h
  have nd : (Z.map fun z => z.1.born).Nodup := by
    have e1 : (Z.map fun z => z.1.born) = es.toList.map (·.born) := by rw [← z1]; simp
    rw [e1]
    exact rise_ne E.rise
  have nd2 : (A.map (fun z => z.1.born) ++ B.map fun z => z.1.born).Nodup := by
    have := (z4.map fun z => z.1.born).nodup_iff.1 nd
    simpa using this
  have hB : ∀ z ∈ B, seen.contains z.1.born = false := fun z hz => by
    cases hc : seen.contains z.1.born
    · rfl
    · exfalso
      have h1 : z.1.born ∈ A.map fun z => z.1.born := by
        rw [← z5]
        simpa using hc
      exact (List.nodup_append.1 nd2).2.2 _ h1 _ (List.mem_map.2 ⟨z, hz, rfl⟩) rfl
  rcases run_next_at (P := Try.prog) w ty r b since c0 seen es clock hr hb hold hsc with ⟨h0, hrun⟩ | ⟨e, he, w1, hal, hrun⟩
  · refine Or.inl ⟨?_, hrun⟩
    have hBn : B = [] := by
      cases B with
      | nil => rfl
      | cons z B =>
        have hz : z ∈ Z := z4.mem_iff.2 (by simp)
        have : z.1 ∈ es.toList := by rw [← z1]; exact List.mem_map.2 ⟨z, hz, rfl⟩
        have h1 := all_seen es seen h0 z.1 this
        rw [hB z (by simp)] at h1
        cases h1
    subst hBn
    rw [← z2, z6]
    simpa using z4.map Prod.snd
  · obtain ⟨hem, hes⟩ := mem_left he
    obtain ⟨z, hz, rfl⟩ : ∃ z ∈ Z, z.1 = e := by rw [← z1] at hem; simpa using hem
    have hzB : z ∈ B := by
      rcases List.mem_append.1 (z4.mem_iff.1 hz) with hA | hB'
      · exfalso
        have h1 : z.1.born ∈ seen.toList := by rw [z5]; exact List.mem_map.2 ⟨z, hA, rfl⟩
        have h2 : seen.contains z.1.born = true := by simpa using h1
        rw [hes] at h2
        cases h2
      · exact hB'
    obtain ⟨B1, B2, rfl⟩ := List.append_of_mem hzB
    obtain ⟨k1, k2⟩ := z3 z hz
    have hr1 : w1.heap[r]? = some (.mapIter (some b) since seen c0) := by rcases hal with rfl | rfl <;> exact hr
    have hb1 : w1.heap[b]? = some (.map es clock) := by rcases hal with rfl | rfl <;> exact hb
    have hlt : r < w1.heap.size := (Array.getElem?_eq_some_iff.1 hr1).1
    have hset1 : (setBlock w1 r (.mapIter (some b) since (seen.push z.1.born) clock)).heap[r]? = some (.mapIter (some b) since (seen.push z.1.born) clock) := by simp [setBlock, hlt]
    have hset2 : ∀ i, i ≠ r → (setBlock w1 r (.mapIter (some b) since (seen.push z.1.born) clock)).heap[i]? = w1.heap[i]? := fun i hi => by simp [setBlock, Ne.symm hi]
    have hb' := (hset2 b hne).trans hb1
    have hall : ∀ i, i ≠ r → (setBlock w1 r (.mapIter (some b) since (seen.push z.1.born) clock)).heap[i]? = w.heap[i]? := fun i hi => (hset2 i hi).trans (by rcases hal with rfl | rfl <;> rfl)
    have hsz : (setBlock w1 r (.mapIter (some b) since (seen.push z.1.born) clock)).heap.size = w.heap.size := by rw [setBlock_size]; rcases hal with rfl | rfl <;> rfl
    have hperm : (B1 ++ z :: B2).Perm (z :: (B1 ++ B2)) := List.perm_middle
    rw [k1, k2] at hrun
    refine Or.inr ⟨z.2, _, by rw [← z2]; exact List.mem_map.2 ⟨z, hz, rfl⟩, ⟨(B1 ++ B2).map Prod.snd, ?_⟩, hrun, ⟨es, clock, since, seen.push z.1.born, clock, hb', E, hset1, hold, hsk, hsk, Z, A ++ [z], B1 ++ B2, z1, z2, z3, ?_, by simp [z5], by simp [z6]⟩, ?_, ?_, hsz, hall, ?_⟩
    · rw [← z2, z6]
      have := (z4.trans (List.Perm.append_left A hperm)).map Prod.snd
      simpa using this
    · have := z4.trans (List.Perm.append_left A hperm)
      simpa using this
    · simp only [World.rangeLeft, hb', hset1, hb, hr]
      exact left_shrinks es seen z.1 he
    · have := run_entry_at (P := Try.prog) _ r b since seen es clock z.1 hset1 hb' (by rw [← z1]; exact List.mem_map.2 ⟨z, hz, rfl⟩) (rise_ne E.rise)
      rw [k1, k2] at this
      exact this
    · intro N hN
      have hos : w1.os = w.os ∧ w1.tape = w.tape ∧ w1.output = w.output := by rcases hal with rfl | rfl <;> exact ⟨rfl, rfl, rfl⟩
      exact ⟨hos.1, hos.2.1, hos.2.2, Nat.le_of_eq hsz.symm, fun i hi => hall i (by omega)⟩
section
variable (w : World) {ops : Array Oper} {rest : List Oper} {o : Oper} {a : Act} {Q : Exit → Act → World → Prop}
theorem wpList_range_map (hg : o.guard = none) (m : Operand) (hop : o.op = Op.range 39 m) (b : Nat) (S : List En) (hm : a.eval m = .map (some b)) (h : MapIs w b S)
    (hK : ∀ w', RngIs w' b w.heap.size S [] → Below w.heap.size w w' → w'.heap.size = w.heap.size + 1 → wpList Try.prog ops Q rest (a.put o.dst (.pointer (some ⟨w.heap.size, 0, none⟩))) w') :
    wpList Try.prog ops Q (o :: rest) a w := by
  refine wpList_plain hg fun K' hK' => ?_
  obtain ⟨o', hrun, h1⟩ := RngIs.start h
  unfold Oper.wp
  simp [execOp, hop, hm, hrun, Result.andThen]
  exact hK' _ _ (hK _ h1 (bal (Below.refl _ _) _) (by simp))
theorem wpList_next_map (hg : o.guard = none) (it : Operand) (hop : o.op = Op.next it false) (b r : Nat) (S D : List En) (hit : a.eval it = .pointer (some ⟨r, 0, none⟩)) (h : RngIs w b r S D)
    (hDone : S.Perm D → wpList Try.prog ops Q rest (a.put o.dst (.tuple #[.bool false])) w)
    (hMore : ∀ (k v : Int) (w' : World), Hid ((∃ R, S.Perm (D ++ (k, v) :: R)) ∧ RngIs w' b r S (D ++ [(k, v)]) ∧ w'.rangeLeft b r < w.rangeLeft b r ∧ w'.heap.size = w.heap.size ∧ (∀ i, i ≠ r → w'.heap[i]? = w.heap[i]?) ∧ ∀ B, B ≤ r → Below B w w') →
      (Instr.entry (.pointer (some ⟨r, 0, none⟩))).run Try.prog w' = .ok (.tuple #[.int .i64 k, .int .i64 v]) w' →
      wpList Try.prog ops Q rest (a.put o.dst (.tuple #[.bool true, .int .i64 k, .int .i64 v])) w') :
    wpList Try.prog ops Q (o :: rest) a w := by
  refine wpList_plain hg fun K' hK' => ?_
  unfold Oper.wp
  rcases h.next o.type with ⟨h0, hrun⟩ | ⟨x, w', hx, hR, hrun, h1, h2, h3, h4, h5, h6⟩
  · simp [execOp, hop, hit, hrun, Result.andThen]
    exact hK' _ _ (hDone h0)
  · obtain ⟨k, v⟩ := x
    simp only [kv, ev] at hrun h3
    simp [execOp, hop, hit, hrun, Result.andThen]
    exact hK' _ _ (hMore k v w' ⟨hR, h1, h2, h4, h5, h6⟩ h3)
end
end Go.Proofs.Ytefoofcfbcmjcaa.Phw
