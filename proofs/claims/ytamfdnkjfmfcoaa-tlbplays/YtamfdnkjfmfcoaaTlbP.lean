/- What New, Put and Keys of package tlb do, for every argument that their types allow. -/
import Derived.Test.YtamfdnkjfmfcoaaTlbH
import Derived.Test.YtamfdnkjfmfcoaaTlbC
import Derived.Carry
import Derived.Deep.RegionWith
namespace Go.Proofs.Ytamfdnkjfmfcoaa
open Go.RowKit Go.ChangeMaps
set_option linter.unusedVariables false

/-- Block b was written, and blocks were made: nothing else. -/
structure But (b : Nat) (w w' : World) : Prop where
  os : w'.os = w.os
  tape : w'.tape = w.tape
  output : w'.output = w.output
  size : w.heap.size ≤ w'.heap.size
  block : ∀ i, i < w.heap.size → i ≠ b → w'.heap[i]? = w.heap[i]?
theorem But.below {b B : Nat} {w w' : World} (h : But b w w') (hB : B ≤ b) (hw : B ≤ w.heap.size) : Below B w w' := ⟨h.os, h.tape, h.output, h.size, fun i hi => h.block i (by omega) (by omega)⟩
theorem But.of_below {w w' : World} (b : Nat) (h : Below w.heap.size w w') : But b w w' := ⟨h.os, h.tape, h.output, h.size, fun i hi _ => h.block i hi⟩
theorem But.trans {b : Nat} {a w w' : World} (h : But b a w) (k : But b w w') : But b a w' :=
  ⟨k.os.trans h.os, k.tape.trans h.tape, k.output.trans h.output, Nat.le_trans h.size k.size, fun i hi hne => (k.block i (Nat.lt_of_lt_of_le hi h.size) hne).trans (h.block i hi hne)⟩
theorem But.drew {b : Nat} {a w : World} (h : But b a w) : But b a w.drew := ⟨h.os, h.tape, h.output, h.size, h.block⟩
theorem But.drewN {b : Nat} {a w : World} (h : But b a w) (n : Nat) : But b a (w.drewN n) := ⟨h.os, h.tape, h.output, h.size, h.block⟩
theorem But.setBlock {b : Nat} {a w : World} (h : But b a w) (o : Obj) : But b a (setBlock w b o) :=
  ⟨h.os, h.tape, h.output, by rw [setBlock_size]; exact h.size, fun i hi hne => by
    have : (ChangeMaps.setBlock w b o).heap[i]? = w.heap[i]? := by simp [ChangeMaps.setBlock, Ne.symm hne]
    rw [this]; exact h.block i hi hne⟩

theorem keeps {w w' : World} (h : Below w.heap.size w w') {b j : Nat} {v : Value} (hc : w.cell? ⟨b, j, none⟩ = some v) : w'.cell? ⟨b, j, none⟩ = some v := (h.cell (p := ⟨b, j, none⟩) (World.block_lt_of_cell? w _ hc)).trans hc

theorem turned_cell {w : World} {b : Nat} {S : List En} (h : MapIs w b S) (o : Obj) {i j : Nat} {v : Value} (hc : w.cell? ⟨i, j, none⟩ = some v) : (setBlock w b o).cell? ⟨i, j, none⟩ = some v := by
  have hne : i ≠ b := by
    intro e
    obtain ⟨es, clock, hb, _⟩ := h
    rw [e] at hc
    simp [World.cell?, hb] at hc
  exact (World.cell?_of_block (w := w) (setBlock_other h o hne)).trans hc

/-! ### New -/
theorem new_bad (r : Int) (w : World) (h : r < 0 ∨ 8 < r) :
    Calls Try.prog 7 #[.int .i64 r] w fun e w' => e = .returned (.tuple #[.pointer none, .int .i64 1]) ∧ w' = w := by
  rcases h with h | h
  · go_enter Try.func7, Try.ntmps7
    go_wp2
    go_ret2
    exact ⟨rfl, rfl⟩
  · have h0 : ¬ r < 0 := by omega
    go_enter Try.func7, Try.ntmps7
    go_wp2
    go_ret2
    exact ⟨rfl, rfl⟩
theorem mapIs_new (w : World) : MapIs (w.alloc (.map #[] 0)) w.heap.size [] := ⟨#[], 0, (MapKept.heap_alloc w _).1, rfl, by simp, by simp⟩
theorem new_ok (r : Int) (w : World) (h0 : 0 ≤ r) (h1 : r ≤ 8) :
    Calls Try.prog 7 #[.int .i64 r] w fun e w' => e = .returned (.tuple #[.pointer (some ⟨w.heap.size + 1, 0, none⟩), .int .i64 0]) ∧ TlbIs w' (w.heap.size + 1) w.heap.size r [] ∧ Below w.heap.size w w' := by
  have hmm := @run_makeMap Try.prog
  have n0 : ¬ r < 0 := by omega
  have n1 : ¬ 8 < r := by omega
  go_enter Try.func7, Try.ntmps7
  go_wp2
  go_ret2
  refine ⟨rfl, ⟨?_, ?_⟩, bal (bal (Below.refl _ _) _) _⟩
  · have := heap_alloc_new (w.alloc (.map #[] 0)) (.cells #[.int .i64 r, .map (some w.heap.size)] 52)
    simpa using this
  · exact (mapIs_new w).on (Below.heap_alloc _ _ _ (by simp))

/-! ### The list behind a Put -/
def putS (R : Nat) (S : List En) (k : Ky) (p : Pt) : List En := if R < (putM S k p (turnS S k)).length then (putM S k p (turnS S k)).tail else putM S k p (turnS S k)
theorem putM_len (S : List En) (k : Ky) (p : Pt) (t : Int) : (putM S k p t).length = if hasK S k then S.length else S.length + 1 := by
  induction S with
  | nil => rfl
  | cons x S ih =>
    by_cases hx : x.1 = k
    · simp [putM, hasK, hx]
    · have e1 : putM (x :: S) k p t = x :: putM S k p t := by simp only [putM, if_neg hx]
      have e2 : hasK (x :: S) k = hasK S k := by simp [hasK, hx]
      rw [e1, e2, List.length_cons, ih]
      split <;> rfl
theorem mem_putM (S : List En) (k : Ky) (p : Pt) (t : Int) : ∀ x ∈ putM S k p t, x = (k, p, t) ∨ x ∈ S := by
  induction S with
  | nil => intro x hx; simpa [putM] using hx
  | cons y S ih =>
    intro x hx
    by_cases hy : y.1 = k
    · simp only [putM, if_pos hy, List.mem_cons] at hx
      rcases hx with hx | hx
      · exact .inl hx
      · exact .inr (by simp [hx])
    · simp only [putM, if_neg hy, List.mem_cons] at hx
      rcases hx with hx | hx
      · exact .inr (by simp [hx])
      · rcases ih x hx with h | h
        · exact .inl h
        · exact .inr (by simp [h])
theorem okS_has : ∀ {S : List En}, OkS S → ∀ {k : Ky} (p : Pt), hasK S k = true → OkS (putM S k p (tnK S k))
  | [], _, k, p, h => by simp [hasK] at h
  | y :: S, hS, k, p, h => by
    obtain ⟨a1, a2⟩ := List.pairwise_cons.1 hS.keys
    obtain ⟨b1, b2⟩ := List.pairwise_cons.1 hS.rise
    by_cases hy : y.1 = k
    · simp only [putM, tnK, if_pos hy]
      exact ⟨List.pairwise_cons.2 ⟨fun x hx => by rw [← hy]; exact a1 x hx, a2⟩, List.pairwise_cons.2 ⟨b1, b2⟩⟩
    · have h' : hasK S k = true := by simpa [hasK, hy] using h
      have ih := okS_has ⟨a2, b2⟩ p h'
      obtain ⟨j, _, hj⟩ := findS_some S k 0 h'
      have hm : (k, ptK S k, tnK S k) ∈ S := List.mem_of_getElem? hj
      simp only [putM, tnK, if_neg hy]
      refine ⟨List.pairwise_cons.2 ⟨fun x hx => ?_, ih.keys⟩, List.pairwise_cons.2 ⟨fun x hx => ?_, ih.rise⟩⟩
      · rcases mem_putM S k p _ x hx with rfl | hx
        · exact hy
        · exact a1 x hx
      · rcases mem_putM S k p _ x hx with rfl | hx
        · exact b1 (k, ptK S k, tnK S k) hm
        · exact b1 x hx
theorem okS_put {S : List En} (hS : OkS S) (k : Ky) (p : Pt) : OkS (putM S k p (turnS S k)) := by
  cases hk : hasK S k
  · have ht : turnS S k = mxT S + 1 := by simp [turnS, hk]
    rw [ht, put_none k p _ S hk]
    have hne : ∀ x ∈ S, x.1 ≠ k := fun x hx e => by
      simp only [hasK, List.any_eq_false, decide_eq_true_eq] at hk
      exact hk x hx e
    refine ⟨List.pairwise_append.2 ⟨hS.keys, by simp, fun x hx y hy => ?_⟩, List.pairwise_append.2 ⟨hS.rise, by simp, fun x hx y hy => ?_⟩⟩
    · simp only [List.mem_singleton] at hy
      rw [hy]; exact hne x hx
    · simp only [List.mem_singleton] at hy
      rw [hy]
      have := mxT_ge S hx
      show x.2.2 < mxT S + 1
      omega
  · have ht : turnS S k = tnK S k := by simp [turnS, hk]
    rw [ht]
    exact okS_has hS p hk
theorem okS_tail {S : List En} (hS : OkS S) : OkS S.tail := by
  cases S with
  | nil => exact hS
  | cons x S => exact ⟨(List.pairwise_cons.1 hS.keys).2, (List.pairwise_cons.1 hS.rise).2⟩
theorem okS_putS {S : List En} (hS : OkS S) (R : Nat) (k : Ky) (p : Pt) : OkS (putS R S k p) := by
  unfold putS
  split
  · exact okS_tail (okS_put hS k p)
  · exact okS_put hS k p
theorem turns_put {S : List En} {T : Int} (h0 : 0 ≤ T) (h : ∀ x ∈ S, x.2.2 ≤ T) (k : Ky) (p : Pt) : ∀ x ∈ putM S k p (turnS S k), x.2.2 ≤ T + 1 := by
  intro x hx
  rcases mem_putM S k p _ x hx with rfl | hx
  · show turnS S k ≤ T + 1
    unfold turnS
    split
    · rename_i hk
      obtain ⟨j, _, hj⟩ := findS_some S k 0 hk
      have := h _ (List.mem_of_getElem? hj)
      simp only at this
      omega
    · have := mxT_le S h0 h
      omega
  · have := h x hx
    omega
theorem turns_putS {S : List En} {T : Int} (h0 : 0 ≤ T) (h : ∀ x ∈ S, x.2.2 ≤ T) (R : Nat) (k : Ky) (p : Pt) : ∀ x ∈ putS R S k p, x.2.2 ≤ T + 1 := by
  intro x hx
  unfold putS at hx
  split at hx
  · exact turns_put h0 h k p x (List.mem_of_mem_tail hx)
  · exact turns_put h0 h k p x hx
theorem len_putS {S : List En} {R : Nat} (h : S.length ≤ R) (k : Ky) (p : Pt) : (putS R S k p).length ≤ R := by
  unfold putS
  have := putM_len S k p (turnS S k)
  split
  · rw [List.length_tail, this]
    split <;> omega
  · omega

/-! ### Put -/
theorem del_head (x : En) (S : List En) : delM (x :: S) x.1 = S := by simp [delM]
set_option maxHeartbeats 4000000 in
theorem put_some' (p b R : Nat) (S : List En) (k : Ky) (pt : Pt) (w : World) (h : TlbIs w p b R S) (hS : OkS S) (hT : mxT S < 4611686018427387904) (hl : S.length ≤ R) (hR : R ≤ 8) :
    Calls Try.prog 12 #[.pointer (some ⟨p, 0, none⟩), .agg #[.int .i64 k.1, .int .i64 k.2], .agg #[.bool pt.1, .int .i64 pt.2.1, .int .i64 pt.2.2.1, .int .i64 pt.2.2.2]] w fun e w' =>
      e = .returned (.int .i64 0) ∧ TlbIs w' p b R (putS R S k pt) ∧ But b w w' := by
  have hp := h.ents
  have hp0 := h.room
  have hlt := h.lt
  have hb := h.map.lt
  have H : Hid (TlbIs w p b R S) := h
  have HT : Hid (mxT S < 4611686018427387904) := hT
  have HS1 : Hid (OkS (putM S k pt (turnS S k))) := okS_put hS k pt
  have HL : Hid ((putM S k pt (turnS S k)).length ≤ 9) := by
    have h1 := putM_len S k pt (turnS S k)
    have : (putM S k pt (turnS S k)).length ≤ 9 := by rw [h1]; split <;> omega
    exact this
  clear h hS hT
  have HP : Hid (putS R S k pt = if R < (putM S k pt (turnS S k)).length then (putM S k pt (turnS S k)).tail else putM S k pt (turnS S k)) := rfl
  obtain ⟨S1, hS1⟩ : ∃ S1, S1 = putM S k pt (turnS S k) := ⟨_, rfl⟩
  rw [← hS1] at HS1 HL HP
  have HS : Hid (S1 = putM S k pt (turnS S k)) := hS1
  clear hS1
  obtain ⟨PS, hPS⟩ : ∃ S1, S1 = putS R S k pt := ⟨_, rfl⟩
  rw [← hPS] at HP ⊢
  clear hPS
  obtain ⟨a, c⟩ := k
  obtain ⟨q0, q1, q2, q3⟩ := pt
  obtain ⟨tn, htn⟩ : ∃ tn, tn = turnS S (a, c) := ⟨_, rfl⟩
  have HTN : Hid (tn = turnS S (a, c)) := htn
  clear htn
  go_enter Try.func12, Try.ntmps12
  go_wp2_with (first
    | (go_at_call 16; refine (made_some p b _ ((H.out.alloc _).alloc _).ents).mono ?_; rintro e w1 ⟨rfl, hw1⟩; have HW : Hid (w1 = _) := hw1; clear hw1; have HB : Hid (Below w.heap.size w w1) := (by rw [HW.out]; exact bal (bal (Below.refl _ _) _) _); have k0 : w1.cell? ⟨w.heap.size, 0, none⟩ = some (.int .i64 a) := (by rw [HW.out]; simp); have k1 : w1.cell? ⟨w.heap.size, 1, none⟩ = some (.int .i64 c) := (by rw [HW.out]; simp); have k2 : w1.cell? ⟨w.heap.size + 1, 0, none⟩ = some (.bool q0) := (by rw [HW.out]; simp); have k3 : w1.cell? ⟨w.heap.size + 1, 1, none⟩ = some (.int .i64 q1) := (by rw [HW.out]; simp); have k4 : w1.cell? ⟨w.heap.size + 1, 2, none⟩ = some (.int .i64 q2) := (by rw [HW.out]; simp); have k5 : w1.cell? ⟨w.heap.size + 1, 3, none⟩ = some (.int .i64 q3) := (by rw [HW.out]; simp); clear HW)
    | (go_at_call 19; refine (turn_any p b R S (a, c) _ (H.out.more HB.out) HT.out).mono ?_; rintro e w2 ⟨he, hb2⟩; rw [← HTN.out] at he; subst he; have HB2 : Hid (Below w.heap.size w w2) := HB.out.trans (hb2.mono HB.out.size); have l0 : w2.cell? ⟨w.heap.size, 0, none⟩ = some (.int .i64 a) := keeps hb2 k0; have l1 : w2.cell? ⟨w.heap.size, 1, none⟩ = some (.int .i64 c) := keeps hb2 k1; have l2 : w2.cell? ⟨w.heap.size + 1, 0, none⟩ = some (.bool q0) := keeps hb2 k2; have l3 : w2.cell? ⟨w.heap.size + 1, 1, none⟩ = some (.int .i64 q1) := keeps hb2 k3; have l4 : w2.cell? ⟨w.heap.size + 1, 2, none⟩ = some (.int .i64 q2) := keeps hb2 k4; have l5 : w2.cell? ⟨w.heap.size + 1, 3, none⟩ = some (.int .i64 q3) := keeps hb2 k5; clear hb2 k0 k1 k2 k3 k4 k5))
  have l6 : w2.cell? ⟨p, 1, none⟩ = some (.map (some b)) := (HB2.out.cell (p := ⟨p, 1, none⟩) hlt).trans hp
  have hm2 : MapIs w2.drew b S := (H.out.map.on (HB2.out.block b hb)).on rfl
  obtain ⟨o, hup, hm3⟩ := store_map hm2 (a, c) (q0, q1, q2, q3) tn
  have HM3 : Hid (MapIs (setBlock w2.drew b o) b S1) := by rw [HS.out, ← HTN.out]; exact hm3
  have HB3 : Hid (But b w (setBlock w2.drew b o)) := (But.of_below b HB2.out).drew.setBlock o
  have m0 : (setBlock w2.drew b o).cell? ⟨w.heap.size, 0, none⟩ = some (.int .i64 a) := turned_cell hm2 o l0
  have m1 : (setBlock w2.drew b o).cell? ⟨w.heap.size, 1, none⟩ = some (.int .i64 c) := turned_cell hm2 o l1
  have m2 : (setBlock w2.drew b o).cell? ⟨w.heap.size + 1, 0, none⟩ = some (.bool q0) := turned_cell hm2 o l2
  have m3 : (setBlock w2.drew b o).cell? ⟨w.heap.size + 1, 1, none⟩ = some (.int .i64 q1) := turned_cell hm2 o l3
  have m4 : (setBlock w2.drew b o).cell? ⟨w.heap.size + 1, 2, none⟩ = some (.int .i64 q2) := turned_cell hm2 o l4
  have m5 : (setBlock w2.drew b o).cell? ⟨w.heap.size + 1, 3, none⟩ = some (.int .i64 q3) := turned_cell hm2 o l5
  have m6 : (setBlock w2.drew b o).cell? ⟨p, 1, none⟩ = some (.map (some b)) := turned_cell hm2 o l6
  have m7 : (setBlock w2.drew b o).cell? ⟨p, 0, none⟩ = some (.int .i64 R) := turned_cell hm2 o ((HB2.out.cell (p := ⟨p, 0, none⟩) hlt).trans hp0)
  have HT3 : Hid (TlbIs (setBlock w2.drew b o) p b R S1) := by
    have : TlbIs w2.drew p b R S := (H.out.more HB2.out).drew
    exact this.turned HM3.out
  clear hm3 hm2
  simp only [kv, ev] at hup
  obtain ⟨w3, hw3⟩ : ∃ w3, w3 = setBlock w2.drew b o := ⟨_, rfl⟩
  rw [← hw3] at HM3 HB3 HT3 hup m0 m1 m2 m3 m4 m5 m6 m7
  clear hw3
  go_region_held3 (fun w' => w'.cell? ⟨p, 1, none⟩ = some (.map (some b)) ∧ w'.cell? ⟨w.heap.size, 0, none⟩ = some (.int .i64 a) ∧ w'.cell? ⟨w.heap.size, 1, none⟩ = some (.int .i64 c) ∧ w'.cell? ⟨w.heap.size + 1, 0, none⟩ = some (.bool q0) ∧ w'.cell? ⟨w.heap.size + 1, 1, none⟩ = some (.int .i64 q1) ∧ w'.cell? ⟨w.heap.size + 1, 2, none⟩ = some (.int .i64 q2) ∧ w'.cell? ⟨w.heap.size + 1, 3, none⟩ = some (.int .i64 q3)) (first | exact ⟨m6, m0, m1, m2, m3, m4, m5⟩ | go_keep) (fail)
  go_wp2
  clear hup m0 m1 m2 m3 m4 m5 l0 l1 l2 l3 l4 l5 l6
  obtain ⟨N, hN⟩ : ∃ N, N = S1.length := ⟨_, rfl⟩
  have hlen : ∀ n ty, (Builtin.len_ #[50] ty #[.map (some b)]).run Try.prog (w3.drewN n) = .ok (.int .i64 N) (w3.drewN n) := fun n ty => by rw [hN]; exact len_map (w := w3.drewN n) (HM3.out.on rfl) ty
  have HN : Hid (N = S1.length) := hN
  clear hN
  by_cases hgt : R < N
  · have hgt' : (R : Int) < (N : Int) := by omega
    go_quiet (fail)
    obtain ⟨w4, hw4⟩ : ∃ w4, w4 = w3.drewN nq := ⟨_, rfl⟩
    rw [← hw4]
    have HT4 : Hid (TlbIs w4 p b R S1) := by rw [hw4]; exact HT3.out.on rfl rfl
    have HB4 : Hid (But b w w4) := by rw [hw4]; exact HB3.out.drewN _
    have c4 : w4.cell? ⟨p, 1, none⟩ = some (.map (some b)) := HT4.out.ents
    clear hw4 hlen HM3 HB3 HT3 m6 m7
    have HPS : Hid (PS = S1.tail) := by
      have := HP.out
      rw [if_pos (by rw [← HN.out]; exact hgt)] at this
      exact this
    obtain ⟨x0, S2, e12⟩ : ∃ x0 S2, S1 = x0 :: S2 := by
      cases S1 with
      | nil => simp [Hid] at HN; omega
      | cons x S => exact ⟨x, S, rfl⟩
    have HE : Hid (S1 = x0 :: S2) := e12
    clear e12 HP
    have hN0 : (0 : Int) < (N : Int) := by omega
    have hN1 : N ≤ 1000 := by have := HL.out; have := HN.out; omega
    have hkey : Hid (hasK S1 x0.1 = true) := by rw [HE.out]; simp [hasK, Hid]
    obtain ⟨⟨k1, k2⟩, xp, xt⟩ := x0
    go_wp2
    go_region_with (
      (go_at_call 14; refine (keys_any p b R S1 _ HT4.out.drew HS1.out (by rw [← HN.out]; exact hN1)).mono ?_; rintro e w5 ⟨g, he, hg5, hc5, hb5⟩; rw [← HN.out] at he; subst he; have HB5 : Hid (But b w w5) := HB4.out.drew.trans (But.of_below b hb5); have HT5 : Hid (TlbIs w5 p b R S1) := HT4.out.drew.more hb5; have c5 : w5.cell? ⟨p, 1, none⟩ = some (.map (some b)) := HT5.out.ents; have g0 : w5.cell? ⟨g, 0, none⟩ = some (.int .i64 k1) := (hc5 0 ((k1, k2), xp, xt) (by rw [HE.out]; rfl)).1; have g1 : w5.cell? ⟨g, 1, none⟩ = some (.int .i64 k2) := (hc5 0 ((k1, k2), xp, xt) (by rw [HE.out]; rfl)).2; obtain ⟨o6, hd6, hm6⟩ := delete_map HT5.out.map (k1, k2) hkey.out; have HT6 : Hid (TlbIs (setBlock w5 b o6) p b R S2) := (by have := HT5.out.turned hm6; rwa [HE.out, del_head] at this); have HB6 : Hid (But b w (setBlock w5 b o6)) := HB5.out.setBlock o6; have c6 : (setBlock w5 b o6).cell? ⟨p, 1, none⟩ = some (.map (some b)) := HT6.out.ents; simp only [kv] at hd6; clear hm6 hc5 hb5))
    all_goals
      go_wp2
      go_ret
      exact ⟨rfl, by rw [HPS.out, HE.out]; exact HT6.out, HB6.out⟩
  · have hgt' : ¬ (R : Int) < (N : Int) := by omega
    go_quiet (fail)
    have HPS : Hid (PS = S1) := by
      have := HP.out
      rw [if_neg (by rw [← HN.out]; exact hgt)] at this
      exact this
    go_wp2
    go_ret
    exact ⟨rfl, by rw [HPS.out]; exact HT3.out.on rfl rfl, HB3.out.drewN _⟩
end Go.Proofs.Ytamfdnkjfmfcoaa
