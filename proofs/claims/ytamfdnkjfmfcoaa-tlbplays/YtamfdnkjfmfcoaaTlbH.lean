/- What Keys of package tlb answers: the keys, the oldest first, in a slice of its own. -/
import Derived.Test.YtamfdnkjfmfcoaaTlbF
namespace Go.Proofs.Ytamfdnkjfmfcoaa
open Go.Shelf Go.RowKit Go.Lib Go.Sort Go.ChangeMaps
set_option linter.unusedVariables false

theorem own_on {w w' : World} {base g n m cap size : Nat} {e : TypeId} {xs : List Value} (h : w.ownsRow base e size (.slice (some ⟨g, 0, none⟩) m cap) n xs) (hg : w'.heap[g]? = w.heap[g]?) : w'.ownsRow base e size (.slice (some ⟨g, 0, none⟩) m cap) n xs := by
  refine ⟨h.1, ?_⟩
  rcases h.2 with ⟨e0, _⟩ | ⟨g', cap', cur, e0, hbg, hg', r⟩
  · cases e0
  · cases e0
    exact .inr ⟨g, cap, cur, rfl, hbg, hg.trans hg', r⟩
theorem own_lt {w : World} {base g n m cap size : Nat} {e : TypeId} {xs : List Value} (h : w.ownsRow base e size (.slice (some ⟨g, 0, none⟩) m cap) n xs) : base ≤ g ∧ g < w.heap.size := by
  rcases h.2 with ⟨e0, _⟩ | ⟨g', cap', cur, e0, hbg, hg', r⟩
  · cases e0
  · cases e0
    exact ⟨hbg, (Array.getElem?_eq_some_iff.1 hg').1⟩
theorem own_ne_iter {w : World} {base g n m cap size b r : Nat} {e : TypeId} {xs : List Value} {S D : List En} (h : w.ownsRow base e size (.slice (some ⟨g, 0, none⟩) m cap) n xs) (k : RngIs w b r S D) : g ≠ r ∧ g ≠ b := by
  obtain ⟨es, clock, since, seen, c0, h1, h2, h3, _⟩ := k
  rcases h.2 with ⟨e0, _⟩ | ⟨g', cap', cur, e0, hbg, hg', r⟩
  · cases e0
  · cases e0
    exact ⟨fun e => (by rw [← e, hg'] at h3; cases h3), fun e => (by rw [← e, hg'] at h1; cases h1)⟩
theorem room_left {N : Nat} {S D : List En} {x : En} (hN : N = S.length) (h : ∃ R, S.Perm (D ++ x :: R)) : D.length + 1 ≤ N := by
  obtain ⟨R, hR⟩ := h
  have := hR.length_eq
  simp at this
  omega
theorem len_left {N : Nat} {S D : List En} (hN : N = S.length) (h : S.Perm D) (hl : N ≤ 1000) : D.length < 4611686018427387904 := by
  rw [← h.length_eq]
  omega
set_option maxHeartbeats 4000000 in
theorem keys_any (p b : Nat) (r : Int) (S : List En) (w : World) (h : TlbIs w p b r S) (hS : OkS S) (hl : S.length ≤ 1000) :
    Calls Try.prog 14 #[.pointer (some ⟨p, 0, none⟩)] w fun e w' => ∃ g, e = .returned (.slice (some ⟨g, 0, none⟩) S.length S.length) ∧ w.heap.size ≤ g ∧ (∀ j x, S[j]? = some x → w'.cell? ⟨g, j * 2, none⟩ = some (.int .i64 x.1.1) ∧ w'.cell? ⟨g, j * 2 + 1, none⟩ = some (.int .i64 x.1.2)) ∧ Below w.heap.size w w' := by
  have hp := h.ents
  have hlt := h.lt
  have hb := h.map.lt
  have H : Hid (TlbIs w p b r S) := h
  have HS : Hid (OkS S) := hS
  obtain ⟨i0, hi, hz0, hz1, hz2⟩ := info_parts infoKey
  clear h hS
  have HI : Hid (Try.prog.info? 36 = some i0) := hi
  have HZ0 : Hid (i0.zero = some (.agg #[.int .i64 0, .int .i64 0])) := hz0
  have HZ1 : Hid (i0.size = 2) := hz1
  have HZ2 : Hid (i0.bytes = 16) := hz2
  clear hi hz0 hz1 hz2
  obtain ⟨N, hN⟩ : ∃ N, N = S.length := ⟨_, rfl⟩
  have HN : Hid (N = S.length) := hN
  have hlen : Hid (∀ w', w'.heap[b]? = w.heap[b]? → ∀ ty, (Builtin.len_ #[50] ty #[.map (some b)]).run Try.prog w' = .ok (.int .i64 N) w') := fun w' e ty => by rw [hN]; exact len_map (H.out.map.on e) ty
  rw [← hN] at hl ⊢
  clear hN
  go_enter Try.func14, Try.ntmps14
  go_wp2_with (first
    | (go_at_call 16; refine (made_some p b _ (H.out.alloc _).ents).mono ?_; rintro e w1 ⟨rfl, hw1⟩; have HW : Hid (w1 = _) := hw1; clear hw1; have c0 : w1.cell? ⟨w.heap.size, 0, none⟩ = some (.pointer (some ⟨p, 0, none⟩)) := (by rw [HW.out]; simp); have HB : Hid (Below w.heap.size w w1) := (by rw [HW.out]; exact bal (Below.refl _ _) _); have c1 : w1.cell? ⟨p, 1, none⟩ = some (.map (some b)) := (HB.out.cell (p := ⟨p, 1, none⟩) hlt).trans hp; have hl1 := hlen.out w1 (HB.out.block b hb); have s1 : w.heap.size < w1.heap.size := World.block_lt_of_cell? w1 _ c0; clear HW)
    | (at_make; refine wpList_make_own _ rfl _ _ 23 rfl w.heap.size 36 i0 _ 2 Try.underlying23 HI.out HZ0.out HZ1.out _ _ _ N rfl rfl rfl (by rw [HZ2.out]; omega) (by unfold maxLen; omega) HB.out.size ?_; intro w2 hown2 hgr2; have HO : Hid (w2.ownsRow w.heap.size 36 2 (.slice (some ⟨w1.heap.size, 0, none⟩) 0 N) 0 []) := hown2; have HB2 : Hid (Below w.heap.size w w2) := HB.out.grown hgr2 HB.out.size (fun k hk => by cases hk); have d0 : w2.cell? ⟨w.heap.size, 0, none⟩ = some (.pointer (some ⟨p, 0, none⟩)) := (World.cell?_of_block (w := w1) (hgr2.block _ s1 (by simp))).trans c0; have d1 : w2.cell? ⟨p, 1, none⟩ = some (.map (some b)) := (HB2.out.cell (p := ⟨p, 1, none⟩) hlt).trans hp; clear hown2 hgr2 hl1 c0 c1)
    | (at_range; refine wpList_range_map _ rfl _ rfl b S rfl (H.out.map.on (HB2.out.block b hb)) ?_; intro w3 hrg hbl hsz; have HR : Hid (RngIs w3 b w2.heap.size S []) := hrg; have HB3 : Hid (Below w.heap.size w w3) := HB2.out.trans (hbl.mono HB2.out.size); have HO3 : Hid (w3.ownsRow w.heap.size 36 2 (.slice (some ⟨w1.heap.size, 0, none⟩) 0 N) 0 []) := own_on HO.out (hbl.block _ (own_lt HO.out).2); have e0 : w3.cell? ⟨w.heap.size, 0, none⟩ = some (.pointer (some ⟨p, 0, none⟩)) := (hbl.cell (p := ⟨w.heap.size, 0, none⟩) (World.block_lt_of_cell? w2 _ d0)).trans d0; clear hrg hbl hsz d0 d1 HO HB))
  go_frame
  obtain ⟨g, hg⟩ : ∃ g, g = w1.heap.size := ⟨_, rfl⟩
  obtain ⟨rr, hrr⟩ : ∃ g, g = w2.heap.size := ⟨_, rfl⟩
  rw [← hg] at HO3 ⊢
  rw [← hrr] at HR ⊢
  have HRB : Hid (w.heap.size ≤ rr) := by rw [hrr]; exact HB2.out.size
  have HGQ : Hid (w.heap.size ≠ g) := by rw [hg]; exact Nat.ne_of_lt s1
  clear hg hrr s1
  go_loopw [3] (fun v wr => ∃ D, v = .slice (some ⟨g, 0, none⟩) D.length N ∧ RngIs wr b rr S D ∧ wr.ownsRow w.heap.size 36 2 (.slice (some ⟨g, 0, none⟩) D.length N) D.length (keyCells D) ∧ Below w.heap.size w wr ∧ wr.cell? ⟨w.heap.size, 0, none⟩ = some (.pointer (some ⟨p, 0, none⟩)) ∧ ∃ R, S.Perm (D ++ R)) (fun _ wr => wr.rangeLeft b rr)
  case atStart => exact ⟨[], rfl, HR.out, HO3.out, HB3.out, e0, S, List.Perm.refl _⟩
  case round =>
    obtain ⟨D, rfl, hR, hO, hB, hq, hP⟩ := hrel
    have HR4 : Hid (RngIs wr b rr S D) := hR
    have HO4 : Hid (wr.ownsRow w.heap.size 36 2 (.slice (some ⟨g, 0, none⟩) D.length N) D.length (keyCells D)) := hO
    have HB4 : Hid (Below w.heap.size w wr) := hB
    have HQ4 : Hid (wr.cell? ⟨w.heap.size, 0, none⟩ = some (.pointer (some ⟨p, 0, none⟩))) := hq
    have HP : Hid (∃ R, S.Perm (D ++ R)) := hP
    clear hR hO hB hq hP HR HO3 HB3 e0
    have HNE := own_ne_iter HO4.out HR4.out
    have HN1 : Hid (g ≠ rr) := HNE.1
    have HN2 : Hid (g ≠ b) := HNE.2
    clear HNE
    go_wp2_with (first
      | (at_next; refine wpList_next_map _ rfl _ rfl b rr S D rfl HR4.out (fun hD => ?_) (fun k1 k2 p0 p1 p2 p3 t4 w4 HX hen => ?_))
      | (at_builtin; refine wpList_append_roomy _ rfl _ _ 23 rfl w.heap.size 36 i0 2 Try.underlying23 HI.out HZ1.out g D.length N (keyCells D) rfl (((own_on HO4.out (HX.out.2.2.2.2.1 g HN1.out)).alloc _).alloc _) ⟨w4.heap.size + 1, 0, none⟩ 1 1 [.int .i64 k1, .int .i64 k2] rfl rfl (by simpa using cell_two_new (w4.alloc _) (.int .i64 k1) (.int .i64 k2) 36) (by simp [Value.oneCell']) (room_left HN.out HX.out.1) ?_; intro w5 ho5 hg5; have HO5 : Hid (w5.ownsRow w.heap.size 36 2 (.slice (some ⟨g, 0, none⟩) (D.length + 1) N) (D.length + 1) (keyCells D ++ [.int .i64 k1, .int .i64 k2])) := ho5; have HG5 : Hid (((w4.alloc (.cells #[.int .i64 k1, .int .i64 k2] 36)).alloc (.cells #[.int .i64 k1, .int .i64 k2] 36)).grownBy w5 (some g)) := hg5; clear ho5 hg5)
      | (go_at_call 20; refine (sort_keys w.heap.size p b g N S D wr HS.out hD HQ4.out ((HB4.out.cell (p := ⟨p, 1, none⟩) hlt).trans hp) HR4.out.map HGQ.out (Nat.ne_of_lt (Nat.lt_of_lt_of_le hlt (own_lt HO4.out).1)) (Ne.symm HN2.out) (own_lt HO4.out).2 (holds_of_own HO4.out) (len_left HN.out hD hl)).mono ?_; rintro e w5 ⟨rfl, hc5, hb5⟩; have HC5 : Hid (∀ j x, S[j]? = some x → w5.cell? ⟨g, j * 2, none⟩ = some (.int .i64 x.1.1) ∧ w5.cell? ⟨g, j * 2 + 1, none⟩ = some (.int .i64 x.1.2)) := hc5; have HB5 : Hid (RowKit.Below w.heap.size w w5) := HB4.out.trans (hb5 _ (own_lt HO4.out).1); clear hc5 hb5))
    · go_ret
      exact ⟨g, by rw [HN.out, hD.length_eq]; rfl, (own_lt HO4.out).1, HC5.out, HB5.out⟩
    · obtain ⟨⟨R, hR⟩, g1, g2, g3, g4, g5⟩ := HX.out
      have m1 : g < w4.heap.size := by rw [g3]; exact (own_lt HO4.out).2
      have m2 : rr < w4.heap.size := g1.lt
      have m3 : b < w4.heap.size := g1.map.lt
      have hblk : ∀ i, i < w4.heap.size → i ≠ g → w5.heap[i]? = w4.heap[i]? := fun i hi hne => by
        have a1 := HG5.out.block i (by simp; omega) (by simpa using hne)
        rw [a1, Below.heap_alloc _ _ _ (by simp; omega), Below.heap_alloc _ _ _ hi]
      have e1 : w5.heap[b]? = w4.heap[b]? := hblk b m3 (Ne.symm HN2.out)
      have e2 : w5.heap[rr]? = w4.heap[rr]? := hblk rr m2 (Ne.symm HN1.out)
      have hq4 : w4.heap[w.heap.size]? = wr.heap[w.heap.size]? := g4 _ (by
        intro e
        have := HR4.out
        obtain ⟨es, clock, since, seen, c0, _, _, h3, _⟩ := this
        have hq := HQ4.out
        rw [← e] at h3
        simp [World.cell?, h3] at hq)
      have hql : w.heap.size < wr.heap.size := World.block_lt_of_cell? wr _ HQ4.out
      refine ⟨⟨D ++ [((k1, k2), (p0, p1, p2, p3), t4)], by simp, g1.on e1 e2, ?_, ?_, ?_, R, by simpa using hR⟩, ?_⟩
      · rw [keyCells_snoc]
        simpa using HO5.out
      · refine Below.grown (bal (Below.alloc (HB4.out.trans (g5 _ HRB.out)) (by rw [g3]; exact HB4.out.size) _) _) HG5.out (by simp; rw [g3]; have := HB4.out.size; omega) (fun k hk => by cases hk; exact (own_lt HO4.out).1)
      · refine (World.cell?_of_block (w := wr) ((hblk _ (by rw [g3]; exact hql) HGQ.out).trans hq4)).trans HQ4.out
      · rw [rangeLeft_on e1 e2]
        exact g2
end Go.Proofs.Ytamfdnkjfmfcoaa
