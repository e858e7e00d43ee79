/- The four tables; a memory made anew; what 'awake' and 'looked' of the statements answer. -/
import Derived.Test.YtgcaodfcodalfaaGreatDoorCtbJ
import Derived.Test.YtgcaodfcodalfaaGreatDoorCtbK
namespace Go.Proofs.YtgcaodfcodalfaaGreatDoor.Pcaptbl
open Go.Proofs.YtgcaodfcodalfaaGreatDoor.Pbase Go.Proofs.YtgcaodfcodalfaaGreatDoor.Pmem Go.Proofs.YtgcaodfcodalfaaGreatDoor.Pradix Go.Proofs.YtgcaodfcodalfaaGreatDoor.Pslot
open Go.RowKit
set_option linter.unusedVariables false

/-- The four tables. -/
structure Tb (w : World) : Prop where
  tm : Pcap.TabM w
  tw : Pcap.TabW w
  th : Phead.TabW w
  ts : Ws w
theorem Tb.on {w w' : World} (h : Tb w) (hB : Below w.heap.size w w') : Tb w' := ⟨h.tm.on hB, h.tw.on hB, h.th.on hB, h.ts.on hB⟩
theorem Mx.tb {w : World} {p b N : Nat} {M : Nat → Nat → Int} (h : Mx w p b N M) : Tb w := ⟨h.mt.tab, h.mt.tabw, h.th, h.ts⟩
theorem mx_new {w : World} (h : Tb w) {N : Nat} (h1 : 1 ≤ N) (h2 : N ≤ 64) : Mx (newW w N) (w.heap.size + 1) w.heap.size N fun _ _ => 0 :=
  ⟨mt_new h.tm h.tw h1 h2, h.th.on (newW_below w N), h.ts.on (newW_below w N)⟩
theorem made_zero {N : Nat} (f l : Int) (h0 : 0 ≤ f) (h1 : f < N) (hl : l = 0 ∨ l = 1) : Phead.errP N f 1 l false 0 = 0 := by
  have ho : okF N f = true := by simp [okF, h0, h1]
  simp [Phead.errP, Phead.rtB_yes (rt_head hl), errF, ho]
theorem two_eq (N : Nat) : Phead.mkM N (Phead.mkM N (fun _ _ => 0) 0 1 0 false 0) 1 1 1 false 0 = twoM N := rfl
/-- What 'awake' does. -/
theorem aw_all {M3 M4 : Nat → Nat → Int} (h3 : M3 = coM 2 (twoM 2) 0 0 1 0) (h4 : M4 = ptM 2 M3 0 5 11 0 0 0 0 0 0) : coE 2 (twoM 2) 0 0 1 0 = 0 ∧ ptE 2 M3 0 5 11 0 0 0 0 0 0 = 0 ∧ lkE 2 M4 0 5 = 0 ∧ lkC 2 M4 0 5 0 = 11 := by
  obtain ⟨T3, z3⟩ := tree_new (N := 2) (high := 0) (by omega) (by omega) 0
  rw [show ((0 : Nat) : Int) = 0 from rfl, ← h3] at T3 z3
  have e0 : coE 2 (twoM 2) 0 0 1 0 = 0 := cons_zero (N := 2) (high := 0) (by omega) (by omega) 0
  obtain ⟨s1, s2, s3⟩ := sl_of (high := 0) (low := 5) (by omega) (by omega)
  rw [show 16 * (0 : Int) + 5 = 5 from rfl] at s1 s2 s3
  obtain ⟨y1, y2⟩ := z3 5 (by omega)
  rw [show ((5 : Nat) : Int) = 5 from rfl] at y1 y2
  have hr : Pcap.Rt 11 0 0 0 0 0 := by unfold Pcap.Rt; omega
  have e1 : ptE 2 M3 0 5 11 0 0 0 0 0 0 = 0 := by
    rw [ptE_up hr (by omega), T3.room s1 s2, s3, y1, y2 0 (by omega), y2 5 (by omega)]
    decide
  obtain ⟨_, _, _, _, q1, q2⟩ := T3.took e1
  rw [← h4] at q2
  obtain ⟨a1, a2, _⟩ := T3.held s1 s2 q1 (by omega)
  rw [← q2] at a1 a2
  exact ⟨e0, e1, a1, a2 0 (by omega)⟩
set_option maxRecDepth 100000 in
theorem looked_any (p b N : Nat) (M : Nat → Nat → Int) (w : World) (h : Mx w p b N M) (h1 : lkE N M 0 5 = 0) (h2 : lkC N M 0 5 0 = 11) : Calls Tryz.prog 30 #[.pointer (some ⟨p, 0, none⟩)] w fun x w' => x = .returned (.bool true) ∧ Below w.heap.size w w' := by
  have HL := hide (clook_any p b N 0 5 M w h (by omega))
  rw [h1, h2] at HL
  clear h h1 h2
  go_enter Tryz.func30, Tryz.ntmps30
  go_wp2_with (first
    | (go_at_call 24; refine HL.out.mono ?_; rintro e1 w1 ⟨rfl, hb⟩; have H1 : Hid (Below w.heap.size w w1) := hb; clear hb)
    | fail)
  go_ret
  exact ⟨rfl, bal H1.out _⟩
/-- A memory of the call's own. -/
structure Own (w0 w : World) (p b N : Nat) (M : Nat → Nat → Int) : Prop where
  mx : Mx w p b N M
  below : Below w0.heap.size w0 w
  lo : w0.heap.size ≤ b
theorem Own.on {w0 w w' : World} {p b N : Nat} {M : Nat → Nat → Int} (h : Own w0 w p b N M) (hB : Below w.heap.size w w') : Own w0 w' p b N M := ⟨h.mx.on hB, h.below.trans (hB.mono h.below.size), h.lo⟩
theorem Own.but {w0 w w' : World} {p b N : Nat} {M M' : Nat → Nat → Int} (h : Own w0 w p b N M) (hm : Mx w' p b N M') (hB : But b w w') : Own w0 w' p b N M' := ⟨hm, h.below.trans (hB.below h.lo h.below.size), h.lo⟩
theorem own_new {w : World} (h : Tb w) {N : Nat} (h1 : 1 ≤ N) (h2 : N ≤ 64) : Own w (newW w N) (w.heap.size + 1) w.heap.size N fun _ _ => 0 := ⟨mx_new h h1 h2, newW_below w N, Nat.le_refl _⟩
set_option maxRecDepth 100000 in
set_option maxHeartbeats 1000000 in
theorem awake_any (w : World) (h : Tb w) : Calls Tryz.prog 7 #[] w fun x w' => x = .returned (.bool true) ∧ Below w.heap.size w w' := by
  have H0 := hide (own_new h (N := 2) (by omega) (by omega))
  clear h
  have m0 : Phead.errP (2 : Nat) 0 1 0 false 0 = 0 := made_zero 0 0 (by omega) (by decide) (.inl rfl)
  have m1 : Phead.errP (2 : Nat) 1 1 1 false 0 = 0 := made_zero 1 1 (by omega) (by decide) (.inr rfl)
  obtain ⟨M3, h3⟩ : ∃ M3, M3 = coM 2 (twoM 2) 0 0 1 0 := ⟨_, rfl⟩
  obtain ⟨M4, h4⟩ : ∃ M4, M4 = ptM 2 M3 0 5 11 0 0 0 0 0 0 := ⟨_, rfl⟩
  obtain ⟨e0, e1, e2, e3⟩ := aw_all h3 h4
  have E0 := hide e0
  have E1 := hide e1
  have E2 := hide e2
  have E3 := hide e3
  have E4 := hide h3
  have E5 := hide h4
  have E6 := hide m0
  have E7 := hide m1
  clear e0 e1 e2 e3 h3 h4 m0 m1
  have t1 : True := trivial
  go_enter Tryz.func7, Tryz.ntmps7
  go_wp2_with (first
    | (go_at_call 8; refine (new_ok 2 _ (by omega) (by omega)).mono ?_; rintro r1 w1 ⟨rfl, hw⟩; rw [← hw] at H0; clear hw; generalize w.heap.size + 1 = p at H0 ⊢; obtain ⟨b, hb⟩ : ∃ b, b = w.heap.size := ⟨_, rfl⟩; have H1 : Hid (Own w w1 p b 2 fun _ _ => 0) := (by rw [hb]; exact H0.out); clear H0 hb)
    | (go_at_call 12; clear t1; refine (make_any p b 2 0 0 _ _ H1.out.mx).mono ?_; rintro r2 w2 ⟨rfl, hm, hb⟩; rw [E6.out]; have H2 := hide (H1.out.but hm hb); clear hm hb)
    | (go_at_call 12; refine (make_any p b 2 1 1 _ _ H2.out.mx).mono ?_; rintro r3 w3 ⟨rfl, hm, hb⟩; rw [E7.out]; rw [two_eq] at hm; have H3 := hide (H2.out.but hm hb); clear hm hb)
    | (go_at_call 20; refine (cons_any p b 2 0 0 1 0 _ _ H3.out.mx).mono ?_; rintro r4 w4 ⟨rfl, hm, hb⟩; rw [E0.out]; rw [← E4.out] at hm; have H4 := hide (H3.out.but hm hb); clear hm hb)
    | (go_at_call 14; refine (cput_any p b 2 0 5 11 0 0 0 0 0 0 _ _ H4.out.mx (by omega)).mono ?_; rintro r5 w5 ⟨rfl, hm, hb⟩; rw [E1.out]; rw [← E5.out] at hm; have H5 := hide (H4.out.but hm hb); clear hm hb)
    | (go_at_call 30; refine (looked_any p b 2 M4 _ H5.out.mx E2.out E3.out).mono ?_; rintro r6 w6 ⟨rfl, hb⟩; have H6 := hide (H5.out.on hb); clear hb)
    | fail)
  go_ret
  exact ⟨rfl, H6.out.below⟩
end Go.Proofs.YtgcaodfcodalfaaGreatDoor.Pcaptbl
