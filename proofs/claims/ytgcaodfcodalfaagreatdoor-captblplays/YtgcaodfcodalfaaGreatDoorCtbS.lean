/- The document's tables of capabilities: Room, Look, Put, Drop, Cons, Decons, Freeze. -/
import Derived.Test.YtgcaodfcodalfaaGreatDoorCtbT
namespace Go.Proofs.YtgcaodfcodalfaaGreatDoor.Pcaptbl
open Go.Proofs.YtgcaodfcodalfaaGreatDoor.Pbase Go.Proofs.YtgcaodfcodalfaaGreatDoor.Pmem Go.Proofs.YtgcaodfcodalfaaGreatDoor.Pradix Go.Proofs.YtgcaodfcodalfaaGreatDoor.Pslot
open Go.RowKit
set_option linter.unusedVariables false

/-- A capability that was read lies in a new block. -/
theorem cap_laid {w w1 : World} {base q N : Nat} {M : Nat → Nat → Int} (h : Rx w1 base q N M) (hb : Below w.heap.size w w1) (k r t l e c : Int) : Rx (w1.alloc (.cells #[.int .i64 k, .int .i64 r, .int .i64 t, .int .i64 l, .int .i64 e, .int .i64 c] 32)) base q N M ∧ Below w.heap.size w (w1.alloc (.cells #[.int .i64 k, .int .i64 r, .int .i64 t, .int .i64 l, .int .i64 e, .int .i64 c] 32)) ∧ Pcap.Box6 (w1.alloc (.cells #[.int .i64 k, .int .i64 r, .int .i64 t, .int .i64 l, .int .i64 e, .int .i64 c] 32)) w1.heap.size k r t l e c :=
  ⟨h.grown (bal (Below.refl _ _) _), bal hb _, Pcap.box6_new w1 k r t l e c 32⟩
/-! ### Room -/
set_option maxRecDepth 100000 in
set_option maxHeartbeats 1000000 in
theorem rroom_any (base q N : Nat) (root a floor : Int) (M : Nat → Nat → Int) (w : World) (h : Rx w base q N M) : Calls Tryz.prog 17 #[.pointer (some ⟨q, 0, none⟩), .int .i64 root, .int .i64 a, .int .i64 floor] w fun x w' => x = .returned (.int .i64 (roE N M root a floor)) ∧ Below w.heap.size w w' := by
  have HI := rhide h
  have HL := rhide (leaf_any base q N root a M w h)
  clear h
  unfold roE
  generalize lfF N M root a = F at HL ⊢
  generalize lfI N M root a = I at HL ⊢
  generalize lfZ N M root a = Z at HL ⊢
  generalize lfE N M root a = E at HL ⊢
  by_cases hE : E = 0
  case neg =>
    rw [if_neg hE]
    have hE' : (E != 0) = true := by simp [hE]
    clear hE
    go_enter Tryz.func17, Tryz.ntmps17
    go_wp2_with (first
      | (go_at_call 40; refine HL.out.mono ?_; rintro e1 w1 ⟨rfl, hb⟩; have H1 := rhide hb; clear hb)
      | fail)
    go_ret
    exact ⟨rfl, H1.out⟩
  subst hE
  rw [if_pos rfl]
  cases Z
  case true =>
    rw [if_pos rfl]
    go_enter Tryz.func17, Tryz.ntmps17
    go_wp2_with (first
      | (go_at_call 40; refine HL.out.mono ?_; rintro e1 w1 ⟨rfl, hb⟩; have H1 := rhide hb; clear hb)
      | fail)
    go_ret
    exact ⟨rfl, H1.out⟩
  rw [if_neg (by decide)]
  have HG : Hid (∀ wc, Below w.heap.size w wc → Calls Tryz.prog 42 #[.pointer (some ⟨q, 0, none⟩), .int .i64 F, .int .i64 I] wc fun x w' => x = .returned (.tuple #[.agg #[.int .i64 (sC N M F I 0), .int .i64 (sC N M F I 1), .int .i64 (sC N M F I 2), .int .i64 (sC N M F I 3), .int .i64 (sC N M F I 4), .int .i64 (sC N M F I 5)], .int .i64 (sE N M F I)]) ∧ Below wc.heap.size wc w') := fun wc hb => rsget_any base q N F I M wc HI.out.n1 HI.out.n64 (HI.out.grown hb).ref HI.out.fit
  generalize sC N M F I 0 = C0 at HG ⊢
  generalize sC N M F I 1 = C1 at HG ⊢
  generalize sC N M F I 2 = C2 at HG ⊢
  generalize sC N M F I 3 = C3 at HG ⊢
  generalize sC N M F I 4 = C4 at HG ⊢
  generalize sC N M F I 5 = C5 at HG ⊢
  generalize sE N M F I = S at HG ⊢
  by_cases hS : S = 0
  case neg =>
    rw [if_neg hS]
    have hS' : (S != 0) = true := by simp [hS]
    clear hS
    go_enter Tryz.func17, Tryz.ntmps17
    go_wp2_with (first
      | (go_at_call 40; refine HL.out.mono ?_; rintro e1 w1 ⟨rfl, hb⟩; have H1 := rhide hb; clear hb)
      | (go_at_call 42; refine (HG.out _ H1.out).mono ?_; rintro e2 w2 ⟨rfl, hb⟩; have H2 := rhide (H1.out.trans (hb.mono H1.out.size)); clear hb)
      | fail)
    go_ret
    exact ⟨rfl, bal H2.out _⟩
  subst hS
  rw [if_pos rfl]
  by_cases hk : 1 < C0
  case pos =>
    rw [if_pos hk]
    go_enter Tryz.func17, Tryz.ntmps17
    go_wp2_with (first
      | (go_at_call 40; refine HL.out.mono ?_; rintro e1 w1 ⟨rfl, hb⟩; have H1 := rhide hb; clear hb)
      | (go_at_call 42; refine (HG.out _ H1.out).mono ?_; rintro e2 w2 ⟨rfl, hb⟩; have H2 := rhide (H1.out.trans (hb.mono H1.out.size)); clear hb)
      | fail)
    go_ret
    exact ⟨rfl, bal H2.out _⟩
  rw [if_neg hk]
  obtain ⟨U, hU⟩ : ∃ U, quB C0 C5 floor = U := ⟨_, rfl⟩
  rw [hU]
  have HU := rhide hU
  clear hU
  cases U
  · rw [if_neg (by decide)]
    go_enter Tryz.func17, Tryz.ntmps17
    go_wp2_with (first
      | (go_at_call 40; refine HL.out.mono ?_; rintro e1 w1 ⟨rfl, hb⟩; have H1 := rhide hb; clear hb)
      | (go_at_call 42; refine (HG.out _ H1.out).mono ?_; rintro e2 w2 ⟨rfl, hb⟩; have H2 := rhide (H1.out.trans (hb.mono H1.out.size)); clear hb)
      | (go_at_call 43; refine (rquiet_any _ _ _ _ _ _ floor _).mono ?_; rintro e3 w3 ⟨rfl, hb⟩; rw [HU.out]; have H3 := rhide ((bal H2.out _).trans (hb.mono (bal H2.out _).size)); clear hb)
      | fail)
    go_ret
    exact ⟨rfl, H3.out⟩
  · rw [if_pos rfl]
    go_enter Tryz.func17, Tryz.ntmps17
    go_wp2_with (first
      | (go_at_call 40; refine HL.out.mono ?_; rintro e1 w1 ⟨rfl, hb⟩; have H1 := rhide hb; clear hb)
      | (go_at_call 42; refine (HG.out _ H1.out).mono ?_; rintro e2 w2 ⟨rfl, hb⟩; have H2 := rhide (H1.out.trans (hb.mono H1.out.size)); clear hb)
      | (go_at_call 43; refine (rquiet_any _ _ _ _ _ _ floor _).mono ?_; rintro e3 w3 ⟨rfl, hb⟩; rw [HU.out]; have H3 := rhide ((bal H2.out _).trans (hb.mono (bal H2.out _).size)); clear hb)
      | fail)
    go_ret
    exact ⟨rfl, H3.out⟩
/-! ### Look -/
theorem rlk_res {w w1 : World} (hb : Below (w.alloc (.cells #[.int .i64 0, .int .i64 0, .int .i64 0, .int .i64 0, .int .i64 0, .int .i64 0] 32)).heap.size (w.alloc (.cells #[.int .i64 0, .int .i64 0, .int .i64 0, .int .i64 0, .int .i64 0, .int .i64 0] 32)) w1) : Below w.heap.size w w1 ∧ Pcap.Box6 w1 w.heap.size 0 0 0 0 0 0 :=
  ⟨(bal (Below.refl _ _) _).trans (hb.mono (by simp)), (Pcap.box6_new w 0 0 0 0 0 0 32).on hb⟩
theorem rlk_two {w w2 : World} (hb : Below w.heap.size w w2) (hx : Pcap.Box6 w2 w.heap.size 0 0 0 0 0 0) (k r t l e c : Int) : Below w.heap.size w (w2.alloc (.cells #[.int .i64 k, .int .i64 r, .int .i64 t, .int .i64 l, .int .i64 e, .int .i64 c] 32)) ∧ Pcap.Box6 (w2.alloc (.cells #[.int .i64 k, .int .i64 r, .int .i64 t, .int .i64 l, .int .i64 e, .int .i64 c] 32)) w.heap.size 0 0 0 0 0 0 ∧ Pcap.Box6 (w2.alloc (.cells #[.int .i64 k, .int .i64 r, .int .i64 t, .int .i64 l, .int .i64 e, .int .i64 c] 32)) w2.heap.size k r t l e c :=
  ⟨bal hb _, hx.on (bal (Below.refl _ _) _), Pcap.box6_new w2 k r t l e c 32⟩
set_option maxRecDepth 100000 in
set_option maxHeartbeats 1000000 in
theorem rlook_any (base q N : Nat) (root a : Int) (M : Nat → Nat → Int) (w : World) (h : Rx w base q N M) : Calls Tryz.prog 25 #[.pointer (some ⟨q, 0, none⟩), .int .i64 root, .int .i64 a] w fun x w' => x = .returned (.tuple #[.agg #[.int .i64 (lkC N M root a 0), .int .i64 (lkC N M root a 1), .int .i64 (lkC N M root a 2), .int .i64 (lkC N M root a 3), .int .i64 (lkC N M root a 4), .int .i64 (lkC N M root a 5)], .int .i64 (lkE N M root a)]) ∧ Below w.heap.size w w' := by
  have HI := rhide h
  have HL := rhide (leaf_any base q N root a M _ (h.grown (bal (Below.refl _ _) (.cells #[.int .i64 0, .int .i64 0, .int .i64 0, .int .i64 0, .int .i64 0, .int .i64 0] 32))))
  clear h
  have hno : lkE N M root a ≠ 0 → ∀ j, lkC N M root a j = 0 := fun h j => by simp [lkC, h]
  have hyes : lkE N M root a = 0 → ∀ j, lkC N M root a j = sC N M (lfF N M root a) (lfI N M root a) j := fun h j => by simp [lkC, h]
  have hlk : lkE N M root a = if lfE N M root a = 0 then if sE N M (lfF N M root a) (lfI N M root a) = 0 then if 1 < sC N M (lfF N M root a) (lfI N M root a) 0 then 0 else 3 else sE N M (lfF N M root a) (lfI N M root a) else lfE N M root a := rfl
  generalize lfF N M root a = F at HL hyes hlk
  generalize lfI N M root a = I at HL hyes hlk
  generalize lfZ N M root a = Z at HL
  generalize lfE N M root a = E at HL hlk
  by_cases hE : E = 0
  case neg =>
    rw [if_neg hE] at hlk
    have hz := hno (by rw [hlk]; exact hE)
    simp only [hz]
    rw [hlk]
    have hE' : (E != 0) = true := by simp [hE]
    clear hE hz hno hyes hlk
    go_enter Tryz.func25, Tryz.ntmps25
    go_wp2_with (first
      | (go_at_call 40; refine HL.out.mono ?_; rintro e1 w1 ⟨rfl, hb⟩; have H1 := rhide (rlk_res hb); clear hb HL; have x0 := H1.out.2.c0; have x1 := H1.out.2.c1; have x2 := H1.out.2.c2; have x3 := H1.out.2.c3; have x4 := H1.out.2.c4; have x5 := H1.out.2.c5; have z0 := H1.out.2.fz 0; have z1 := H1.out.2.fz 1; have z2 := H1.out.2.fz 2; have z3 := H1.out.2.fz 3; have z4 := H1.out.2.fz 4; have z5 := H1.out.2.fz 5)
      | fail)
    refine bodyPost_ret (v := .tuple #[.agg #[.int .i64 0, .int .i64 0, .int .i64 0, .int .i64 0, .int .i64 0, .int .i64 0], .int .i64 E]) (by simp [results, Tryz.results25, go_sem, x0, x1, x2, x3, x4, x5]) rfl ⟨rfl, ?_⟩
    exact bst (bst (bst (bst (bst (bst H1.out.1 (Nat.le_refl _) _ _) (Nat.le_refl _) _ _) (Nat.le_refl _) _ _) (Nat.le_refl _) _ _) (Nat.le_refl _) _ _) (Nat.le_refl _) _ _
  subst hE
  rw [if_pos rfl] at hlk
  have HG : Hid (∀ wc, Below w.heap.size w wc → Calls Tryz.prog 42 #[.pointer (some ⟨q, 0, none⟩), .int .i64 F, .int .i64 I] wc fun x w' => x = .returned (.tuple #[.agg #[.int .i64 (sC N M F I 0), .int .i64 (sC N M F I 1), .int .i64 (sC N M F I 2), .int .i64 (sC N M F I 3), .int .i64 (sC N M F I 4), .int .i64 (sC N M F I 5)], .int .i64 (sE N M F I)]) ∧ Below wc.heap.size wc w') := fun wc hb => rsget_any base q N F I M wc HI.out.n1 HI.out.n64 (HI.out.grown hb).ref HI.out.fit
  by_cases hS : sE N M F I = 0
  case neg =>
    rw [if_neg hS] at hlk
    have hz := hno (by rw [hlk]; exact hS)
    simp only [hz]
    rw [hlk]
    clear hz hno hyes hlk
    generalize sC N M F I 0 = C0 at HG
    generalize sC N M F I 1 = C1 at HG
    generalize sC N M F I 2 = C2 at HG
    generalize sC N M F I 3 = C3 at HG
    generalize sC N M F I 4 = C4 at HG
    generalize sC N M F I 5 = C5 at HG
    generalize sE N M F I = S at HG hS ⊢
    have hS' : (S != 0) = true := by simp [hS]
    go_enter Tryz.func25, Tryz.ntmps25
    go_wp2_with (first
      | (go_at_call 40; refine HL.out.mono ?_; rintro e1 w1 ⟨rfl, hb⟩; have H1 := rhide (rlk_res hb); clear hb HL)
      | (go_at_call 42; refine (HG.out _ H1.out.1).mono ?_; rintro e2 w2 ⟨rfl, hb⟩; have H2 := rhide (And.intro (H1.out.1.trans (hb.mono H1.out.1.size)) (H1.out.2.on hb)); clear hb H1; have H3 := rhide (rlk_two H2.out.1 H2.out.2 C0 C1 C2 C3 C4 C5); clear H2; have x0 := H3.out.2.1.c0; have x1 := H3.out.2.1.c1; have x2 := H3.out.2.1.c2; have x3 := H3.out.2.1.c3; have x4 := H3.out.2.1.c4; have x5 := H3.out.2.1.c5; have z0 := H3.out.2.1.fz 0; have z1 := H3.out.2.1.fz 1; have z2 := H3.out.2.1.fz 2; have z3 := H3.out.2.1.fz 3; have z4 := H3.out.2.1.fz 4; have z5 := H3.out.2.1.fz 5)
      | fail)
    refine bodyPost_ret (v := .tuple #[.agg #[.int .i64 0, .int .i64 0, .int .i64 0, .int .i64 0, .int .i64 0, .int .i64 0], .int .i64 S]) (by simp [results, Tryz.results25, go_sem, x0, x1, x2, x3, x4, x5]) rfl ⟨rfl, ?_⟩
    exact bst (bst (bst (bst (bst (bst H3.out.1 (Nat.le_refl _) _ _) (Nat.le_refl _) _ _) (Nat.le_refl _) _ _) (Nat.le_refl _) _ _) (Nat.le_refl _) _ _) (Nat.le_refl _) _ _
  rw [if_pos hS] at hlk
  rw [hS] at HG
  by_cases hk : 1 < sC N M F I 0
  case neg =>
    rw [if_neg hk] at hlk
    have hz := hno (by rw [hlk]; decide)
    simp only [hz]
    rw [hlk]
    clear hz hno hyes hlk hS
    generalize sC N M F I 0 = C0 at HG hk
    generalize sC N M F I 1 = C1 at HG
    generalize sC N M F I 2 = C2 at HG
    generalize sC N M F I 3 = C3 at HG
    generalize sC N M F I 4 = C4 at HG
    generalize sC N M F I 5 = C5 at HG
    have hk' : C0 ≤ 1 := by omega
    go_enter Tryz.func25, Tryz.ntmps25
    go_upto_region 5 with (first
      | (go_at_call 40; refine HL.out.mono ?_; rintro e1 w1 ⟨rfl, hb⟩; have H1 := rhide (rlk_res hb); clear hb HL)
      | (go_at_call 42; refine (HG.out _ H1.out.1).mono ?_; rintro e2 w2 ⟨rfl, hb⟩; have H2 := rhide (And.intro (H1.out.1.trans (hb.mono H1.out.1.size)) (H1.out.2.on hb)); clear hb H1)
      | fail)
    have H3 := rlk_two H2.out.1 H2.out.2 C0 C1 C2 C3 C4 C5
    generalize w2.alloc _ = w3 at H3 ⊢
    generalize w2.heap.size = D at H3 ⊢
    have HB3 := rhide H3.1
    have x0 := H3.2.1.c0
    have x1 := H3.2.1.c1
    have x2 := H3.2.1.c2
    have x3 := H3.2.1.c3
    have x4 := H3.2.1.c4
    have x5 := H3.2.1.c5
    have z0 := H3.2.1.fz 0
    have z1 := H3.2.1.fz 1
    have z2 := H3.2.1.fz 2
    have z3 := H3.2.1.fz 3
    have z4 := H3.2.1.fz 4
    have z5 := H3.2.1.fz 5
    have y0 := H3.2.2.c0
    have y1 := H3.2.2.c1
    have y2 := H3.2.2.c2
    have y3 := H3.2.2.c3
    have y4 := H3.2.2.c4
    have y5 := H3.2.2.c5
    clear H3 H2
    go_wp2
    refine bodyPost_ret (v := .tuple #[.agg #[.int .i64 0, .int .i64 0, .int .i64 0, .int .i64 0, .int .i64 0, .int .i64 0], .int .i64 3]) (by simp [results, Tryz.results25, go_sem, x0, x1, x2, x3, x4, x5]) rfl ⟨rfl, ?_⟩
    exact bst (bst (bst (bst (bst (bst HB3.out (Nat.le_refl _) _ _) (Nat.le_refl _) _ _) (Nat.le_refl _) _ _) (Nat.le_refl _) _ _) (Nat.le_refl _) _ _) (Nat.le_refl _) _ _
  rw [if_pos hk] at hlk
  simp only [hyes hlk]
  rw [hlk]
  clear hno hyes hlk hS
  generalize sC N M F I 0 = C0 at HG hk ⊢
  generalize sC N M F I 1 = C1 at HG ⊢
  generalize sC N M F I 2 = C2 at HG ⊢
  generalize sC N M F I 3 = C3 at HG ⊢
  generalize sC N M F I 4 = C4 at HG ⊢
  generalize sC N M F I 5 = C5 at HG ⊢
  go_enter Tryz.func25, Tryz.ntmps25
  go_upto_region 5 with (first
    | (go_at_call 40; refine HL.out.mono ?_; rintro e1 w1 ⟨rfl, hb⟩; have H1 := rhide (rlk_res hb); clear hb HL)
    | (go_at_call 42; refine (HG.out _ H1.out.1).mono ?_; rintro e2 w2 ⟨rfl, hb⟩; have H2 := rhide (And.intro (H1.out.1.trans (hb.mono H1.out.1.size)) (H1.out.2.on hb)); clear hb H1)
    | fail)
  have H3 := rlk_two H2.out.1 H2.out.2 C0 C1 C2 C3 C4 C5
  generalize w2.alloc _ = w3 at H3 ⊢
  generalize w2.heap.size = D at H3 ⊢
  have HB3 := rhide H3.1
  have x0 := H3.2.1.c0
  have x1 := H3.2.1.c1
  have x2 := H3.2.1.c2
  have x3 := H3.2.1.c3
  have x4 := H3.2.1.c4
  have x5 := H3.2.1.c5
  have z0 := H3.2.1.fz 0
  have z1 := H3.2.1.fz 1
  have z2 := H3.2.1.fz 2
  have z3 := H3.2.1.fz 3
  have z4 := H3.2.1.fz 4
  have z5 := H3.2.1.fz 5
  have y0 := H3.2.2.c0
  have y1 := H3.2.2.c1
  have y2 := H3.2.2.c2
  have y3 := H3.2.2.c3
  have y4 := H3.2.2.c4
  have y5 := H3.2.2.c5
  clear H3 H2
  go_wp2
  refine bodyPost_ret (v := .tuple #[.agg #[.int .i64 C0, .int .i64 C1, .int .i64 C2, .int .i64 C3, .int .i64 C4, .int .i64 C5], .int .i64 0]) (by simp [results, Tryz.results25, go_sem, x0, x1, x2, x3, x4, x5]) rfl ⟨rfl, ?_⟩
  exact bst (bst (bst (bst (bst (bst HB3.out (Nat.le_refl _) _ _) (Nat.le_refl _) _ _) (Nat.le_refl _) _ _) (Nat.le_refl _) _ _) (Nat.le_refl _) _ _) (Nat.le_refl _) _ _
end Go.Proofs.YtgcaodfcodalfaaGreatDoor.Pcaptbl
