/- A memory and what a core remembers of the call's own; Flush; what 'awake' of the statements answers. -/
import Derived.Test.YthcgdgpflhdchaaGreatDoorAccC
import Derived.Test.YthcgdgpflhdchaaGreatDoorAccH
namespace Go.Proofs.YthcgdgpflhdchaaGreatDoor.Paccess
open Go.Proofs.YthcgdgpflhdchaaGreatDoor.Pbase Go.Proofs.YthcgdgpflhdchaaGreatDoor.Pmem
open Go.RowKit
set_option linter.unusedVariables false

structure Ao (w0 w : World) (p b N : Nat) (M : Nat → Nat → Int) (pt bt R T : Nat) (S : List Ptlb.En) : Prop where
  ax : Ax w p b N M pt bt R T S
  below : Below w0.heap.size w0 w
  lo : w0.heap.size ≤ b
  lt : w0.heap.size ≤ bt
section
variable {w0 w w' w1 w2 : World} {p b N : Nat} {M M' : Nat → Nat → Int} {pt bt R T T' : Nat} {S S' : List Ptlb.En}
theorem Ao.on (h : Ao w0 w p b N M pt bt R T S) (hB : Below w.heap.size w w') : Ao w0 w' p b N M pt bt R T S := ⟨h.ax.on hB, h.below.trans (hB.mono h.below.size), h.lo, h.lt⟩
theorem Ao.mem (h : Ao w0 w p b N M pt bt R T S) (hm : Ppgtbl.Mx w' p b N M') (hB : But b w w') : Ao w0 w' p b N M' pt bt R T S := ⟨h.ax.mem hm hB, h.below.trans (hB.below h.lo h.below.size), h.lo, h.lt⟩
theorem Ao.tlb (h : Ao w0 w p b N M pt bt R T S) (ha : Ax w' p b N M' pt bt R T' S') (hB : But bt w w') : Ao w0 w' p b N M' pt bt R T' S' := ⟨ha, h.below.trans (hB.below h.lt h.below.size), h.lo, h.lt⟩
theorem Ao.both (h : Ao w0 w p b N M pt bt R T S) (ha : Ax w' p b N M' pt bt R T' S') (hB : Buts b bt w w') : Ao w0 w' p b N M' pt bt R T' S' := ⟨ha, h.below.trans (hB.below h.lo h.lt h.below.size), h.lo, h.lt⟩
theorem ao_new (h : Ppgtbl.Own w0 w1 p b N M) (hn : Nd w0) (ht : Ptlb.TlbIs w2 (w1.heap.size + 1) w1.heap.size R []) (hB : Below w1.heap.size w1 w2) (hR : R ≤ 8) : Ao w0 w2 p b N M (w1.heap.size + 1) w1.heap.size R 0 [] :=
  ⟨⟨h.mx.on hB, (hn.on h.below).on hB, ht, Ptlb.fine_nil R, hR⟩, h.below.trans (hB.mono h.below.size), h.lo, h.below.size⟩
theorem Ao.flush (h : Ao w0 w p b N M pt bt R T S) (ht : Ptlb.TlbIs w' pt bt R []) (hB : But bt w w') : Ao w0 w' p b N M pt bt R T [] := h.tlb (h.ax.tlb ht hB ((Ptlb.fine_nil R).mono (Nat.zero_le T))) hB
end
set_option maxRecDepth 100000 in
theorem aflush_any (p b : Nat) (r : Int) (S : List Ptlb.En) (w : World) (h : Ptlb.TlbIs w p b r S) :
    Calls Tryz.prog 11 #[.pointer (some ⟨p, 0, none⟩)] w fun e w' => e = .returned (.int .i64 S.length) ∧ Ptlb.TlbIs w' p b r [] ∧ But b w w' := by
  have hp := h.ents
  obtain ⟨o, hc, hm⟩ := Ptlb.clear_map h.map
  have HM := ahide hm
  have H := ahide h
  clear hm h
  have hl0 : (0 : Int) ≤ S.length := by omega
  by_cases h0 : S.length = 0
  · have HE : Hid (S = []) := List.eq_nil_of_length_eq_zero h0
    have h1 : ¬ (0 : Int) < S.length := by omega
    clear h0
    go_enter Tryz.func11, Tryz.ntmps11
    go_wp2_with (go_at_call 24; refine (Ptlb.len_some p b r S _ H.out).mono ?_; rintro e w' ⟨rfl, rfl⟩)
    go_ret
    exact ⟨rfl, HE.out ▸ H.out, But.of_below b (Below.refl _ _)⟩
  · have h1 : (0 : Int) < S.length := by omega
    clear h0
    go_enter Tryz.func11, Tryz.ntmps11
    go_wp2_with (go_at_call 24; refine (Ptlb.len_some p b r S _ H.out).mono ?_; rintro e w' ⟨rfl, rfl⟩)
    go_ret
    exact ⟨rfl, H.out.turned HM.out, Ptlb.but_setBlock (But.of_below b (Below.refl _ _)) o⟩
/-! ### awake -/
set_option maxRecDepth 100000 in
set_option maxHeartbeats 1000000 in
theorem aawake_any (w : World) (h : Tx w) : Calls Tryz.prog 17 #[] w fun x w' => x = .returned (.bool true) ∧ Below w.heap.size w w' := by
  have H0 := ahide (Ppgtbl.own_new h.tb (N := 3) (by omega) (by omega))
  have HN := ahide h.nd
  clear h
  obtain ⟨M3, h3⟩ : ∃ M3, M3 = Ppgtbl.coM 3 (Ppgtbl.twoM 3) 0 0 1 0 := ⟨_, rfl⟩
  obtain ⟨M4, h4⟩ : ∃ M4, M4 = Ppgtbl.maM 3 M3 0 0 2 3 0 := ⟨_, rfl⟩
  obtain ⟨e1, e2, e3⟩ := awake_find h3 h4
  have E1 := ahide e1
  have E2 := ahide e2
  have E3 := ahide e3
  have E4 := ahide h3
  have E5 := ahide h4
  clear e1 e2 e3 h3 h4
  go_enter Tryz.func17, Tryz.ntmps17
  go_wp2_with (first
    | (go_at_call 18; refine (new_ok 3 _ (by omega) (by omega)).mono ?_; rintro r1 w1 ⟨rfl, hw⟩; rw [← hw] at H0; clear hw; generalize w.heap.size + 1 = p at H0 ⊢; obtain ⟨b, hb⟩ : ∃ b, b = w.heap.size := ⟨_, rfl⟩; have H1 : Hid (Ppgtbl.Own w w1 p b 3 fun _ _ => 0) := (by rw [hb]; exact H0.out); clear H0 hb)
    | (go_at_call 5; refine (Ptlb.new_ok 2 _ (by omega) (by omega)).mono ?_; rintro r2 w2 ⟨rfl, ht, hb⟩; have H2 := ahide (ao_new (R := 2) H1.out HN.out ht hb (by omega)); clear ht hb H1; generalize w1.heap.size + 1 = pt at H2 ⊢; generalize w1.heap.size = bt at H2 ⊢)
    | (go_at_call 39; refine (Ppgtbl.make_any p b 3 0 0 _ _ H2.out.ax.mx).mono ?_; rintro r3 w3 ⟨rfl, hm, hb⟩; have H3 := ahide (H2.out.mem hm hb); clear hm hb H2)
    | (go_at_call 39; refine (Ppgtbl.make_any p b 3 1 1 _ _ H3.out.ax.mx).mono ?_; rintro r4 w4 ⟨rfl, hm, hb⟩; rw [Ppgtbl.two_eq] at hm; have H4 := ahide (H3.out.mem hm hb); clear hm hb H3)
    | (go_at_call 40; refine (Ppgtbl.cons_any p b 3 0 0 1 0 _ _ H4.out.ax.mx).mono ?_; rintro r5 w5 ⟨rfl, hm, hb⟩; rw [← E4.out] at hm; have H5 := ahide (H4.out.mem hm hb); clear hm hb H4)
    | (go_at_call 41; refine (Ppgtbl.map_any p b 3 0 0 2 3 0 _ _ H5.out.ax.mx).mono ?_; rintro r6 w6 ⟨rfl, hm, hb⟩; rw [← E5.out] at hm; have H6 := ahide (H5.out.mem hm hb); clear hm hb H5)
    | (go_at_call 13; refine (afind_any p b 3 M4 pt bt 2 0 [] 0 5 1 _ H6.out.ax (by omega) (by omega) (by omega)).mono ?_; rintro r7 w7 ⟨rfl, hm, hb⟩; rw [E1.out, E2.out, E3.out]; have H7 := ahide (H6.out.tlb hm hb); clear hm hb)
    | fail)
  go_ret
  exact ⟨rfl, H7.out.below⟩
end Go.Proofs.YthcgdgpflhdchaaGreatDoor.Paccess
