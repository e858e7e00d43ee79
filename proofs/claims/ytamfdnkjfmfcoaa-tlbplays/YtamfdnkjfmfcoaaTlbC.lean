/- What turnOf of package tlb answers. -/
import Derived.Test.YtamfdnkjfmfcoaaTlbB
namespace Go.Proofs.Ytamfdnkjfmfcoaa
open Go.RowKit Go.ChangeMaps
set_option linter.unusedVariables false

set_option maxHeartbeats 1000000 in
theorem turn_has (p b : Nat) (r : Int) (S : List En) (k : Ky) (w : World) (h : TlbIs w p b r S) (hk : hasK S k = true) :
    Calls Try.prog 19 #[.pointer (some ⟨p, 0, none⟩), .agg #[.int .i64 k.1, .int .i64 k.2]] w fun e w' => e = .returned (.int .i64 (tnK S k)) ∧ Below w.heap.size w w' := by
  have hp := h.ents
  have hlt := h.lt
  have hl : Hid (∀ w', w'.heap[b]? = w.heap[b]? → (Instr.lookup 50 (.map (some b)) (kv k) true).run Try.prog w' = .ok (.tuple #[ev (ptK S k) (tnK S k), .bool true]) w') := fun w' e => hk ▸ look_has (h.map.on e) k
  have hb := h.map.lt
  have H : Hid (TlbIs w p b r S) := h
  obtain ⟨a, c⟩ := k
  obtain ⟨q, hq⟩ : ∃ q, q = ptK S (a, c) := ⟨_, rfl⟩
  obtain ⟨t, ht⟩ : ∃ q, q = tnK S (a, c) := ⟨_, rfl⟩
  rw [← hq, ← ht] at hl
  rw [← ht]
  clear hq ht h hk
  obtain ⟨q0, q1, q2, q3⟩ := q
  simp only [kv, ev] at hl
  go_enter Try.func19, Try.ntmps19
  go_wp2
  obtain ⟨w1, hw1⟩ : ∃ w1, w1 = w.alloc (.cells #[.int .i64 a, .int .i64 c] 36) := ⟨_, rfl⟩
  rw [← hw1]
  have HW : Hid (w1 = w.alloc (.cells #[.int .i64 a, .int .i64 c] 36)) := hw1
  clear hw1
  have c1 : w1.cell? ⟨p, 1, none⟩ = some (.map (some b)) := by rw [HW.out]; exact (H.out.alloc _).ents
  have c2 : w1.cell? ⟨w.heap.size, 0, none⟩ = some (.int .i64 a) := by rw [HW.out]; simp
  have c3 : w1.cell? ⟨w.heap.size, 1, none⟩ = some (.int .i64 c) := by rw [HW.out]; simp
  have HB : Hid (Below w.heap.size w w1) := by rw [HW.out]; exact bal (Below.refl _ _) _
  clear HW
  have n1 := World.new_ne w1 _ c1
  have n2 := World.new_ne w1 _ c2
  have hl1 := hl.out w1.drew (HB.out.drew.block b hb)
  have hl2 := hl.out (w1.alloc (.cells #[.bool false, .int .i64 0, .int .i64 0, .int .i64 0, .int .i64 0] 57)).drew ((bal HB.out _).drew.block b hb)
  go_region_held3 (fun w' => w'.cell? ⟨p, 1, none⟩ = some (.map (some b)) ∧ w'.cell? ⟨w.heap.size, 0, none⟩ = some (.int .i64 a) ∧ w'.cell? ⟨w.heap.size, 1, none⟩ = some (.int .i64 c)) (go_keep) (fail)
  all_goals
    go_wp2
    go_ret
    exact ⟨rfl, (bal HB.out _).drew⟩

set_option maxHeartbeats 2000000 in
theorem turn_new (p b : Nat) (r : Int) (S : List En) (k : Ky) (w : World) (h : TlbIs w p b r S) (hk : hasK S k = false) (hT : mxT S < 4611686018427387904) :
    Calls Try.prog 19 #[.pointer (some ⟨p, 0, none⟩), .agg #[.int .i64 k.1, .int .i64 k.2]] w fun e w' => e = .returned (.int .i64 (mxT S + 1)) ∧ Below w.heap.size w w' := by
  have hp := h.ents
  have hlt := h.lt
  have hl : Hid (∀ w', w'.heap[b]? = w.heap[b]? → (Instr.lookup 50 (.map (some b)) (kv k) true).run Try.prog w' = .ok (.tuple #[ev (ptK S k) (tnK S k), .bool false]) w') := fun w' e => hk ▸ look_has (h.map.on e) k
  have hb := h.map.lt
  have H : Hid (TlbIs w p b r S) := h
  obtain ⟨a, c⟩ := k
  obtain ⟨q, hq⟩ : ∃ q, q = ptK S (a, c) := ⟨_, rfl⟩
  obtain ⟨t, ht⟩ : ∃ q, q = tnK S (a, c) := ⟨_, rfl⟩
  rw [← hq, ← ht] at hl
  clear hq ht h hk
  have HT : Hid (mxT S < 4611686018427387904) := hT
  clear hT
  obtain ⟨q0, q1, q2, q3⟩ := q
  simp only [kv, ev] at hl
  go_enter Try.func19, Try.ntmps19
  go_wp2
  obtain ⟨w1, hw1⟩ : ∃ w1, w1 = w.alloc (.cells #[.int .i64 a, .int .i64 c] 36) := ⟨_, rfl⟩
  rw [← hw1]
  have HW : Hid (w1 = w.alloc (.cells #[.int .i64 a, .int .i64 c] 36)) := hw1
  clear hw1
  have c1 : w1.cell? ⟨p, 1, none⟩ = some (.map (some b)) := by rw [HW.out]; exact (H.out.alloc _).ents
  have c2 : w1.cell? ⟨w.heap.size, 0, none⟩ = some (.int .i64 a) := by rw [HW.out]; simp
  have c3 : w1.cell? ⟨w.heap.size, 1, none⟩ = some (.int .i64 c) := by rw [HW.out]; simp
  have HB : Hid (Below w.heap.size w w1) := by rw [HW.out]; exact bal (Below.refl _ _) _
  clear HW
  have n1 := World.new_ne w1 _ c1
  have n2 := World.new_ne w1 _ c2
  have hl1 := hl.out w1.drew (HB.out.drew.block b hb)
  have hl2 := hl.out (w1.alloc (.cells #[.bool false, .int .i64 0, .int .i64 0, .int .i64 0, .int .i64 0] 57)).drew ((bal HB.out _).drew.block b hb)
  have hp1 : p < w1.heap.size := by have := HB.out.size; omega
  go_region_held3 (fun w' => w'.cell? ⟨p, 1, none⟩ = some (.map (some b)) ∧ w'.cell? ⟨w.heap.size, 0, none⟩ = some (.int .i64 a) ∧ w'.cell? ⟨w.heap.size, 1, none⟩ = some (.int .i64 c)) (go_keep) (fail)
  all_goals
    obtain ⟨w2, hw2⟩ : ∃ w2, w2 = (w1.alloc (.cells #[.bool q0, .int .i64 q1, .int .i64 q2, .int .i64 q3, .int .i64 t] 57)).drew := ⟨_, rfl⟩
    rw [← hw2]
    have HB2 : Hid (Below w.heap.size w w2) := by rw [hw2]; exact (bal HB.out _).drew
    have c4 : w2.cell? ⟨p, 1, none⟩ = some (.map (some b)) := (HB2.out.cell (p := ⟨p, 1, none⟩) hlt).trans hp
    clear hw2 hl1 hl2 hl c1 c2 c3 n1 n2 hp1
    go_wp2_with (at_range; refine wpList_range_map _ rfl _ rfl b S rfl (H.out.map.on (HB2.out.block b hb)) ?_; intro w3 hrg hbl hsz; have HR : Hid (RngIs w3 b w2.heap.size S []) := hrg; have HB3 : Hid (Below w.heap.size w w3) := HB2.out.trans (hbl.mono HB2.out.size); clear hrg hbl hsz)
    go_frame
    go_loopw [7] (fun m wr => ∃ D, m = .int .i64 (mxT D) ∧ RngIs wr b w2.heap.size S D ∧ Below w.heap.size w wr ∧ ∃ R, S.Perm (D ++ R)) (fun _ wr => wr.rangeLeft b w2.heap.size)
    case atStart => exact ⟨[], rfl, HR.out, HB3.out, S, List.Perm.refl _⟩
    case round =>
      obtain ⟨D, rfl, hR, hB, hP⟩ := hrel
      have HR4 : Hid (RngIs wr b w2.heap.size S D) := hR
      have HB4 : Hid (Below w.heap.size w wr) := hB
      have HP : Hid (∃ R, S.Perm (D ++ R)) := hP
      clear hR hB hP HR HB3
      have hm0 := mxT_pos D
      have hm1 : mxT D < 4611686018427387904 := by
        obtain ⟨R, hR⟩ := HP.out
        refine Int.lt_of_le_of_lt (mxT_le D (mxT_pos S) fun x hx => mxT_ge S (hR.mem_iff.2 (by simp [hx]))) HT.out
      go_wp2_with (at_next; refine wpList_next_map _ rfl _ rfl b w2.heap.size S D rfl HR4.out (fun hD => ?_) (fun k1 k2 p0 p1 p2 p3 t4 w4 HN hen => ?_))
      · go_ret
        exact ⟨by rw [mxT_perm hD]; rfl, HB4.out⟩
      · obtain ⟨⟨R, hR⟩, g1, g2, g3, g4, g5⟩ := HN.out
        refine ⟨⟨D ++ [((k1, k2), (p0, p1, p2, p3), t4)], by rw [mxT_snoc], g1.alloc _, ?_, R, by simpa using hR⟩, ?_⟩
        · exact (HB4.out.trans (g5 _ HB2.out.size)).alloc (by rw [g3]; exact HB4.out.size) _
        · rw [g1.left_alloc]
          exact g2

/-- One contract, whatever the key. -/
theorem turn_any (p b : Nat) (r : Int) (S : List En) (k : Ky) (w : World) (h : TlbIs w p b r S) (hT : mxT S < 4611686018427387904) :
    Calls Try.prog 19 #[.pointer (some ⟨p, 0, none⟩), .agg #[.int .i64 k.1, .int .i64 k.2]] w fun e w' => e = .returned (.int .i64 (turnS S k)) ∧ Below w.heap.size w w' := by
  cases hk : hasK S k
  · simp only [turnS, hk, Bool.false_eq_true, if_false]
    exact turn_new p b r S k w h hk hT
  · simp only [turnS, hk, if_true]
    exact turn_has p b r S k w h hk
end Go.Proofs.Ytamfdnkjfmfcoaa
