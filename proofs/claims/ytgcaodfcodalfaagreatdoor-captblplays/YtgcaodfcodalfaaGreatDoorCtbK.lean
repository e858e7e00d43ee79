/- What CaptblQuiet, CaptblLeaf and CaptblBeside ask, in plain words. No program is named here. -/
import Derived.Test.YtgcaodfcodalfaaGreatDoorCtbH
namespace Go.Proofs.YtgcaodfcodalfaaGreatDoor.Pcaptbl
open Go.Proofs.YtgcaodfcodalfaaGreatDoor.Pbase Go.Proofs.YtgcaodfcodalfaaGreatDoor.Pmem Go.Proofs.YtgcaodfcodalfaaGreatDoor.Pradix Go.Proofs.YtgcaodfcodalfaaGreatDoor.Pslot
open Go.RowKit
set_option linter.unusedVariables false

theorem tiB_iff (now : Int) : tiB now = true ↔ 1 ≤ now ∧ now ≤ 1073741824 := by simp [tiB]
/-- The numbers of one, in their order. -/
def six (k r t l e a : Int) (j : Nat) : Int := [k, r, t, l, e, a][j]?.getD 0
theorem ptM_no {N : Nat} {M : Nat → Nat → Int} {root adr k r t l e a floor : Int} (h : ptE N M root adr k r t l e a floor ≠ 0) : ptM N M root adr k r t l e a floor = M := by unfold ptM; rw [if_neg h]
theorem drM_no {N : Nat} {M : Nat → Nat → Int} {root adr now : Int} (h : drE N M root adr now ≠ 0) : drM N M root adr now = M := by unfold drM; rw [if_neg h]
theorem deM_no {N : Nat} {M : Nat → Nat → Int} {root high now floor : Int} (h : deE N M root high now floor ≠ 0) : deM N M root high now floor = M := by unfold deM; rw [if_neg h]
theorem ptE_up {N : Nat} {M : Nat → Nat → Int} {root adr k r t l e a floor : Int} (hr : Pcap.Rt k r t l e a) (hk : 1 < k) : ptE N M root adr k r t l e a floor = roE N M root adr floor := by
  unfold ptE
  rw [if_pos (by simp [upB, Pcap.rtB_yes hr, hk])]
theorem sl_of {high low : Int} (h0 : 0 ≤ high ∧ high ≤ 15) (l0 : 0 ≤ low ∧ low ≤ 15) : slE (16 * high + low) = 0 ∧ slH (16 * high + low) = high ∧ slL (16 * high + low) = low := by
  obtain ⟨e1, e2, e3⟩ := sl_yes (a := 16 * high + low) (by omega)
  exact ⟨e1, by rw [e2]; omega, by rw [e3]; omega⟩
/-- Put, looked up, dropped, put again, frozen. -/
theorem quiet_all {a k r t l e c now floor : Int} {M3 M4 M5 M6 M7 : Nat → Nat → Int} (h3 : M3 = coM 3 (twoM 3) 0 0 1 0) (hp : ptE 3 M3 0 a k r t l e c 0 = 0) (h4 : M4 = ptM 3 M3 0 a k r t l e c 0) :
    (0 ≤ a ∧ a ≤ 15) ∧ lkE 3 M4 0 a = 0 ∧ (∀ j, j < 6 → lkC 3 M4 0 a j = six k r t l e c j) ∧ (∀ k' r' t' l' e' c' fl, ptE 3 M4 0 a k' r' t' l' e' c' fl ≠ 0) ∧
    (drE 3 M4 0 a now = if tiB now = true then 0 else 1) ∧ (tiB now = true → (∀ j, j < 6 → drC 3 M4 0 a now j = six k r t l e c j) ∧ (M5 = drM 3 M4 0 a now → lkE 3 M5 0 a = 3 ∧
      (ptE 3 M5 0 a k r t l e c floor = if now < floor then 0 else 6) ∧ (M6 = ptM 3 M5 0 a k r t l e c floor → frE 3 M6 1 now = 0 ∧
      (M7 = frM 3 M6 1 now → drE 3 M7 0 a now ≠ 0 ∧ ∀ b fl, 0 ≤ b ∧ b ≤ 15 → ptE 3 M7 0 b k r t l e c fl = 6)))) := by
  obtain ⟨T3, _⟩ := tree_new (N := 3) (high := 0) (by omega) (by omega) 0
  rw [show ((0 : Nat) : Int) = 0 from rfl, ← h3] at T3
  obtain ⟨s1, s2, hr, hk, q1, q2⟩ := T3.took hp
  rw [← h4] at q2
  obtain ⟨hb, u1, _⟩ := sl_parts s1
  have hsm : 0 ≤ a ∧ a ≤ 15 := by rw [s2] at u1; omega
  have T4 : Tree 3 M4 0 false 0 := by rw [q2]; exact T3.put _ _ _ _ _ _ _
  obtain ⟨p1, p2, p3⟩ := T3.held s1 s2 q1 hk
  rw [← q2] at p1 p2 p3
  obtain ⟨d1, d2⟩ := T4.drop (now := now) s1 s2 p1
  refine ⟨hsm, p1, p2, p3, by rw [d1]; rfl, fun ht => ?_⟩
  rw [d1, if_pos ht] at d2
  obtain ⟨d3, d4, d5, _, _⟩ := d2 (by rfl)
  refine ⟨fun j hj => (d3 j).trans (p2 j hj), fun h5 => ?_⟩
  rw [← h5] at d4
  obtain ⟨m1, m2⟩ := T4.empty s1 s2 d5
  rw [← d4] at m1 m2
  have hE : ptE 3 M5 0 a k r t l e c floor = if now < floor then 0 else 6 := by rw [ptE_up hr hk, m2]
  refine ⟨m1, hE, fun h6 => ?_⟩
  have T5 : Tree 3 M5 0 false 0 := by rw [d4]; exact T4.put _ _ _ _ _ _ _
  have T6 : Tree 3 M6 0 false 0 := by
    rw [h6]
    by_cases h0 : ptE 3 M5 0 a k r t l e c floor = 0
    · rw [(T5.took h0).2.2.2.2.2]; exact T5.put _ _ _ _ _ _ _
    · rw [ptM_no h0]; exact T5
  obtain ⟨f1, T7, _⟩ := T6.freeze ht
  refine ⟨f1, fun h7 => ?_⟩
  rw [← h7] at T7
  refine ⟨(T7.frozen s1 s2).2 now, fun b fl hb => ?_⟩
  obtain ⟨e1, e2, _⟩ := sl_yes (a := b) (by omega)
  rw [ptE_up hr hk]
  exact (T7.frozen e1 (by rw [e2]; omega)).1 fl
/-- Hung in, put, frozen, taken out. -/
theorem leaf_all {high low k r t l e c now floor : Int} {M3 M4 M5 : Nat → Nat → Int} (hh : 0 ≤ high ∧ high ≤ 15) (hl : 0 ≤ low ∧ low ≤ 15) (ht : tiB now = true) (h3 : M3 = coM 3 (twoM 3) 0 high 1 0) (hp : ptE 3 M3 0 (16 * high + low) k r t l e c 0 = 0) (h4 : M4 = ptM 3 M3 0 (16 * high + low) k r t l e c 0) (h5 : M5 = frM 3 M4 1 now) :
    deE 3 M4 0 high now floor = 6 ∧ deM 3 M4 0 high now floor = M4 ∧ frE 3 M4 1 now = 0 ∧ ((now < floor ∧ deE 3 M5 0 high now floor = 0 ∧ deF 3 M5 0 high now floor = 1 ∧ lkE 3 (deM 3 M5 0 high now floor) 0 (16 * high + low) = 3) ∨ (¬ now < floor ∧ deE 3 M5 0 high now floor = 6 ∧ lkE 3 (deM 3 M5 0 high now floor) 0 (16 * high + low) = 0)) := by
  obtain ⟨n, rfl⟩ := Int.eq_ofNat_of_zero_le hh.1
  obtain ⟨s1, s2, s3⟩ := sl_of hh hl
  obtain ⟨T3, _⟩ := tree_new (N := 3) (high := n) (by omega) (by omega) 0
  rw [← h3] at T3
  obtain ⟨_, _, hr, hk, q1, q2⟩ := T3.took hp
  rw [← h4] at q2
  have T4 : Tree 3 M4 n false 0 := by rw [q2]; exact T3.put _ _ _ _ _ _ _
  have h6 : deE 3 M4 0 n now floor = 6 := by rw [T4.decons ht floor, if_neg (by simp)]
  obtain ⟨f1, T5, f3⟩ := T4.freeze ht
  rw [← h5] at T5 f3
  obtain ⟨p1, _, _⟩ := T3.held s1 s2 q1 hk
  rw [← q2] at p1
  refine ⟨h6, deM_no (by rw [h6]; decide), f1, ?_⟩
  have hd := T5.decons ht floor
  by_cases hf : now < floor
  · rw [if_pos ⟨rfl, hf⟩] at hd
    obtain ⟨g1, g2⟩ := T5.gone ht hd
    exact .inl ⟨hf, hd, g1, g2 _ s1 s2⟩
  · rw [if_neg (fun k => hf k.2)] at hd
    refine .inr ⟨hf, hd, ?_⟩
    rw [deM_no (by rw [hd]; decide), (T5.look s1 s2).1, (f3 _ _).1, (f3 _ _).2 0, ← (T4.look s1 s2).1]
    exact p1
/-- Two beside each other. -/
theorem beside_all {i j k r t l e c k' r' t' l' e' c' now : Int} {M3 M4 M5 : Nat → Nat → Int} (hi : 0 ≤ i ∧ i ≤ 15) (hj : 0 ≤ j ∧ j ≤ 15) (hn : i ≠ j) (h3 : M3 = coM 2 (twoM 2) 0 3 1 0) (hp : ptE 2 M3 0 (48 + i) k r t l e c 0 = 0) (h4 : M4 = ptM 2 M3 0 (48 + i) k r t l e c 0) (h5 : M5 = ptM 2 M4 0 (48 + j) k' r' t' l' e' c' 0) :
    lkE 2 M5 0 (48 + i) = 0 ∧ (∀ n, n < 6 → lkC 2 M5 0 (48 + i) n = six k r t l e c n) ∧ lkE 2 (drM 2 M5 0 (48 + j) now) 0 (48 + i) = 0 ∧ (∀ n, n < 6 → lkC 2 (drM 2 M5 0 (48 + j) now) 0 (48 + i) n = six k r t l e c n) ∧
    (ptE 2 M4 0 (48 + j) k' r' t' l' e' c' 0 ≠ 0 → drE 2 M5 0 (48 + j) now ≠ 0) ∧ (ptE 2 M4 0 (48 + j) k' r' t' l' e' c' 0 = 0 → drE 2 M5 0 (48 + j) now = 0 → ∀ n, n < 6 → drC 2 M5 0 (48 + j) now n = six k' r' t' l' e' c' n) := by
  obtain ⟨T3, z3⟩ := tree_new (N := 2) (high := 3) (by omega) (by omega) 0
  rw [show ((3 : Nat) : Int) = 3 from rfl, ← h3] at T3 z3
  obtain ⟨s1, s2, s3⟩ := sl_of (high := 3) (low := i) (by omega) hi
  obtain ⟨t1, t2, t3⟩ := sl_of (high := 3) (low := j) (by omega) hj
  rw [show 16 * (3 : Int) = 48 from rfl] at s1 s2 s3 t1 t2 t3
  obtain ⟨_, _, hr, hk, q1, q2⟩ := T3.took hp
  rw [← h4] at q2
  have T4 : Tree 2 M4 3 false 0 := by rw [q2]; exact T3.put _ _ _ _ _ _ _
  obtain ⟨p1, p2, _⟩ := T3.held s1 s2 q1 hk
  rw [← q2] at p1 p2
  -- whatever is put into slot j, slot i stays
  have stay : ∀ (M : Nat → Nat → Int), Tree 2 M 3 false 0 → lkE 2 M 0 (48 + i) = 0 → (∀ n, n < 6 → lkC 2 M 0 (48 + i) n = six k r t l e c n) → ∀ x0 x1 x2 x3 x4 x5, lkE 2 (pM 2 M 1 (slL (48 + j)) x0 x1 x2 x3 x4 x5) 0 (48 + i) = 0 ∧ ∀ n, n < 6 → lkC 2 (pM 2 M 1 (slL (48 + j)) x0 x1 x2 x3 x4 x5) 0 (48 + i) n = six k r t l e c n := by
    intro M T h1 h2 x0 x1 x2 x3 x4 x5
    have T' := T.put (slL (48 + j)) x0 x1 x2 x3 x4 x5
    obtain ⟨a1, a2⟩ := T'.look s1 s2
    obtain ⟨b1, b2⟩ := T.look s1 s2
    obtain ⟨m, hm⟩ := Int.eq_ofNat_of_zero_le hi.1
    obtain ⟨o1, o2⟩ := put_other (N := 2) (M := M) (f := 1) (i := slL (48 + j)) (k := x0) (r := x1) (t := x2) (l := x3) (e := x4) (a := x5) (g := 1) (m := m) (by omega) (.inr (by rw [t3]; omega))
    rw [s3, hm] at a1 a2 b1 b2
    rw [o1, o2 0, ← b1] at a1
    rw [hm] at h1 h2 ⊢
    have hz := a1.trans h1
    refine ⟨hz, fun n hn => ?_⟩
    rw [← h2 n hn, a2, b2, hz, h1, o2]
  have T5 : Tree 2 M5 3 false 0 := by
    rw [h5]
    by_cases h0 : ptE 2 M4 0 (48 + j) k' r' t' l' e' c' 0 = 0
    · rw [(T4.took h0).2.2.2.2.2]; exact T4.put _ _ _ _ _ _ _
    · rw [ptM_no h0]; exact T4
  have L5 : lkE 2 M5 0 (48 + i) = 0 ∧ ∀ n, n < 6 → lkC 2 M5 0 (48 + i) n = six k r t l e c n := by
    rw [h5]
    by_cases h0 : ptE 2 M4 0 (48 + j) k' r' t' l' e' c' 0 = 0
    · rw [(T4.took h0).2.2.2.2.2]; exact stay M4 T4 p1 p2 _ _ _ _ _ _
    · rw [ptM_no h0]; exact ⟨p1, p2⟩
  have L6 : lkE 2 (drM 2 M5 0 (48 + j) now) 0 (48 + i) = 0 ∧ ∀ n, n < 6 → lkC 2 (drM 2 M5 0 (48 + j) now) 0 (48 + i) n = six k r t l e c n := by
    by_cases h0 : drE 2 M5 0 (48 + j) now = 0
    · have hk : lkE 2 M5 0 (48 + j) = 0 := by
        unfold drE at h0
        by_cases k1 : tiB now = true
        · rw [if_pos k1] at h0
          by_cases k2 : lkE 2 M5 0 (48 + j) = 0
          · exact k2
          · rw [if_neg k2] at h0; exact h0
        · rw [if_neg k1] at h0; cases h0
      rw [((T5.drop t1 t2 hk).2 h0).2.1]
      exact stay M5 T5 L5.1 L5.2 _ _ _ _ _ _
    · rw [drM_no h0]; exact L5
  refine ⟨L5.1, L5.2, L6.1, L6.2, fun h0 h9 => ?_, fun h0 h9 => ?_⟩
  · -- nothing lies there
    rw [h5, ptM_no h0] at h9
    obtain ⟨m, hm⟩ := Int.eq_ofNat_of_zero_le hj.1
    obtain ⟨o1, o2⟩ := put_other (N := 2) (M := M3) (f := 1) (i := slL (48 + i)) (k := k) (r := r) (t := t) (l := l) (e := e) (a := c) (g := 1) (m := m) (by omega) (.inr (by rw [s3]; omega))
    have h3' : lkE 2 M4 0 (48 + j) = 3 := by
      rw [(T4.look t1 t2).1, t3, hm, q2, o1, o2 0, if_pos (z3 m (by omega)).1, (z3 m (by omega)).2 0 (by omega), if_neg (by omega)]
    unfold drE at h9
    rw [h3'] at h9
    by_cases k1 : tiB now = true
    · rw [if_pos k1, if_neg (by decide)] at h9; cases h9
    · rw [if_neg k1] at h9; cases h9
  · obtain ⟨_, _, hr', hk', q3, q4⟩ := T4.took h0
    rw [← h5] at q4
    obtain ⟨g1, g2, _⟩ := T4.held t1 t2 q3 hk'
    rw [← q4] at g1 g2
    have := ((T5.drop t1 t2 g1).2 h9).1
    exact fun n hn => (this n).trans (g2 n hn)
end Go.Proofs.YtgcaodfcodalfaaGreatDoor.Pcaptbl
