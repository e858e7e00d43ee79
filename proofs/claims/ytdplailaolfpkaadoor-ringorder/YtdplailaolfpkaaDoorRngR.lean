/- What the document's Check, Word, Of, places and Clear of layer 21 answer and do. -/
import Derived.Test.YtdplailaolfpkaaDoorRngF
import Derived.Test.YtdplailaolfpkaaDoorLayH
import Derived.BigRegion
namespace Go.Proofs.YtdplailaolfpkaaDoor.Pring
open Go.Proofs.YtdplailaolfpkaaDoor.Pbase Go.Proofs.YtdplailaolfpkaaDoor.Pfield Go.Proofs.YtdplailaolfpkaaDoor.Play Go.Proofs.YtdplailaolfpkaaDoor.Pmem
open Go.RowKit M
set_option linter.unusedVariables false

/-! ### Check -/
theorem ck_yes {x : Ev} (h : Eo x) : ckE x = 0 := by unfold ckE; rw [if_pos (eoB_yes h)]
theorem ck_no {x : Ev} (h : ¬ Eo x) : ckE x = 1 := by unfold ckE; rw [eoB_no h]; rfl
theorem wd_yes {x : Ev} (h : Eo x) : wdW x = ewd x := by unfold wdW; rw [if_pos (eoB_yes h)]
theorem wd_no {x : Ev} (h : ¬ Eo x) : wdW x = 0 := by unfold wdW; rw [eoB_no h]; rfl
set_option maxRecDepth 100000 in
theorem rcheck_any (x : Ev) (w : World) : Calls Tryd.prog 22 #[.agg #[.int .i64 x.k, .int .i64 x.t]] w fun e w' => e = .returned (.int .i64 (ckE x)) ∧ Below w.heap.size w w' := by
  obtain ⟨k, t⟩ := x
  dsimp only
  by_cases h1 : k < 1
  · rw [ck_no (by unfold Eo; dsimp only; omega)]
    go_enter Tryd.func22, Tryd.ntmps22
    go_wp2
    go_ret
    exact ⟨rfl, bal (Below.refl _ _) _⟩
  by_cases h2 : 6 < k
  · rw [ck_no (by unfold Eo; dsimp only; omega)]
    go_enter Tryd.func22, Tryd.ntmps22
    go_wp2
    go_ret
    exact ⟨rfl, bal (Below.refl _ _) _⟩
  by_cases h3 : t < 0
  · rw [ck_no (by unfold Eo; dsimp only; omega)]
    go_enter Tryd.func22, Tryd.ntmps22
    go_wp2
    go_ret
    exact ⟨rfl, bal (Below.refl _ _) _⟩
  by_cases h4 : 64 ≤ t
  · rw [ck_no (by unfold Eo; dsimp only; omega)]
    go_enter Tryd.func22, Tryd.ntmps22
    go_wp2
    go_ret
    exact ⟨rfl, bal (Below.refl _ _) _⟩
  rw [ck_yes (by unfold Eo; dsimp only; omega)]
  go_enter Tryd.func22, Tryd.ntmps22
  go_wp2
  go_ret
  exact ⟨rfl, bal (Below.refl _ _) _⟩
/-! ### Word -/
/-- An event that was handed in, in a block. -/
structure Wq (w W : World) (x : Ev) : Prop where
  box : RowE W w.heap.size x
  below : Below w.heap.size w W
theorem wq_new (w : World) (x : Ev) : Wq w (w.alloc (.cells #[.int .i64 x.k, .int .i64 x.t] 32)) x := ⟨rowE_new w x, bal (Below.refl _ _) _⟩
theorem Wq.on {w W W' : World} {x : Ev} (h : Wq w W x) (hB : Below W.heap.size W W') : Wq w W' x := ⟨h.box.on hB, h.below.trans (hB.mono h.below.size)⟩
/-- Packing behind the building of the widths and the parts. -/
theorem rpack_two {x : Ev} (h : Eo x) (wc : World) :
    Calls Tryd.prog 50 #[.slice (some ⟨wc.heap.size, 0, none⟩) 2 2, .slice (some ⟨wc.heap.size + 1, 0, none⟩) 2 2] ((wc.alloc (.cells #[.int .i64 4, .int .i64 6] 3)).alloc (.cells #[.int .u64 x.k, .int .u64 x.t] 26)) fun e w' => e = .returned (.tuple #[.int .u64 (ewd x), .int .i64 0]) ∧ Below wc.heap.size wc w' := by
  have h1 := (ints_ews wc 3).on (bal (Below.refl _ _) (.cells #[.int .u64 x.k, .int .u64 x.t] 26))
  have h2 := ints_vs (wc.alloc (.cells #[.int .i64 4, .int .i64 6] 3)) x 26
  have e : (wc.alloc (.cells #[.int .i64 4, .int .i64 6] 3)).heap.size = wc.heap.size + 1 := by simp
  rw [e] at h2
  exact (rpack_ok (some ⟨wc.heap.size, 0, none⟩) (some ⟨wc.heap.size + 1, 0, none⟩) 2 2 ews x.vs _ (by decide) rfl (eput_can h).1 h1 h2 (eput_can h).2).mono fun e w' ⟨q1, q2⟩ => ⟨q1, (bal (bal (Below.refl _ _) _) _).trans (q2.mono (by simp; omega))⟩
set_option maxRecDepth 100000 in
set_option maxHeartbeats 1000000 in
theorem rword_any (x : Ev) (w : World) : Calls Tryd.prog 20 #[.agg #[.int .i64 x.k, .int .i64 x.t]] w fun e w' => e = .returned (.tuple #[.int .u64 (wdW x), .int .i64 (ckE x)]) ∧ Below w.heap.size w w' := by
  have H0 := rhide (wq_new w x)
  have HC : Hid (∀ wc, Calls Tryd.prog 22 #[.agg #[.int .i64 x.k, .int .i64 x.t]] wc fun e w' => e = .returned (.int .i64 (ckE x)) ∧ Below wc.heap.size wc w') := fun wc => rcheck_any x wc
  by_cases hx : Eo x
  · rw [wd_yes hx, ck_yes hx]
    rw [ck_yes hx] at HC
    have HK := rhide (rpack_two hx)
    have d0 : IntKind.u64.wrap x.k = x.k := by unfold Eo at hx; exact wrapu_small (by omega) (by omega)
    have d1 : IntKind.u64.wrap x.t = x.t := by unfold Eo at hx; exact wrapu_small (by omega) (by omega)
    generalize ewd x = z at HK ⊢
    clear hx
    go_enter Tryd.func20, Tryd.ntmps20
    go_wp2_with (first
      | (go_at_call 22; refine (HC.out _).mono ?_; rintro e1 w1 ⟨rfl, hb⟩; have H1 := rhide (H0.out.on hb); clear hb H0 HC; have x0 := H1.out.box.c0; have x1 := H1.out.box.c1; have xl := H1.out.box.lt)
      | (go_at_call 50; refine (HK.out w1).mono ?_; rintro e2 w2 ⟨rfl, hb⟩; have H2 := rhide (H1.out.on hb); clear hb H1 HK)
      | fail)
    go_ret2
    exact ⟨rfl, H2.out.below⟩
  · rw [wd_no hx, ck_no hx]
    rw [ck_no hx] at HC
    clear hx
    go_enter Tryd.func20, Tryd.ntmps20
    go_wp2_with (first
      | (go_at_call 22; refine (HC.out _).mono ?_; rintro e1 w1 ⟨rfl, hb⟩; have H1 := rhide (H0.out.on hb); clear hb H0 HC)
      | fail)
    go_ret2
    exact ⟨rfl, H1.out.below⟩
/-! ### Of -/
/-- Unpacking behind the building of the widths. -/
theorem runpack_two {a : Int} (ha : 0 ≤ a ∧ a ≤ 18446744073709551615) (hA : canU a ews) (wc : World) :
    Calls Tryd.prog 30 #[.slice (some ⟨wc.heap.size, 0, none⟩) 2 2, .int .u64 a] (wc.alloc (.cells #[.int .i64 4, .int .i64 6] 3)) fun e' W' => ∃ b o c, e' = .returned (.tuple #[.slice (some ⟨b, o, none⟩) 2 c, .int .i64 0]) ∧ Two W' b o a ∧ Below wc.heap.size wc W' :=
  (runpack_ok (some ⟨wc.heap.size, 0, none⟩) 2 ews a _ (by decide) ha (ints_ews wc 3) hA).mono fun e' W' ⟨a, c, he, hi, hB⟩ => by
    obtain ⟨b, o, rfl, h5⟩ := two_of hi
    exact ⟨b, o, c, he, h5, (bal (Below.refl _ _) _).trans (hB.mono (by simp))⟩
theorem runpack_none {a : Int} (ha : 0 ≤ a ∧ a ≤ 18446744073709551615) (hA : ¬ canU a ews) (wc : World) :
    Calls Tryd.prog 30 #[.slice (some ⟨wc.heap.size, 0, none⟩) 2 2, .int .u64 a] (wc.alloc (.cells #[.int .i64 4, .int .i64 6] 3)) fun e' W' => e' = .returned (.tuple #[.slice none 0 0, .int .i64 1]) ∧ Below wc.heap.size wc W' :=
  (runpack_bad (some ⟨wc.heap.size, 0, none⟩) 2 ews a _ (by decide) ha (ints_ews wc 3) hA).mono fun e' W' ⟨he, hB⟩ => ⟨he, (bal (Below.refl _ _) _).trans (hB.mono (by simp))⟩
/-- What is not unpacked is no event's word. -/
theorem of_bad {a : Int} (h : ¬ canU a ews) : ofE a = 12 ∧ ofX a = ev0 := by
  have e : ofB a = false := by
    unfold ofB
    cases hb : unB a
    · rfl
    · exact absurd ((unB_iff a).1 hb) h
  unfold ofE ofX
  rw [e]
  exact ⟨rfl, rfl⟩
theorem of_eo {a : Int} (h : canU a ews) (he : Eo (ofR a)) : ofE a = 0 ∧ ofX a = ofR a := by
  have e : ofB a = true := by
    unfold ofB
    rw [(unB_iff a).2 h, eoB_yes he]
    rfl
  unfold ofE ofX
  rw [e]
  exact ⟨rfl, rfl⟩
theorem of_neo {a : Int} (he : ¬ Eo (ofR a)) : ofE a = 12 ∧ ofX a = ev0 := by
  have e : ofB a = false := by
    unfold ofB
    rw [eoB_no he, Bool.and_false]
  unfold ofE ofX
  rw [e]
  exact ⟨rfl, rfl⟩
/-- An event that is answered, and one that was read. -/
structure Oq (w W : World) (D : Nat) (x : Ev) : Prop where
  res : RowE W w.heap.size ev0
  box : RowE W D x
  below : Below w.heap.size w W
theorem Wq.read {w W : World} (h : Wq w W ev0) (x : Ev) : Oq w (W.alloc (.cells #[.int .i64 x.k, .int .i64 x.t] 32)) W.heap.size x := ⟨h.box.on (bal (Below.refl _ _) _), rowE_new W x, bal h.below _⟩
theorem Oq.on {w W W' : World} {D : Nat} {x : Ev} (h : Oq w W D x) (hB : Below W.heap.size W W') : Oq w W' D x := ⟨h.res.on hB, h.box.on hB, h.below.trans (hB.mono h.below.size)⟩
theorem two_below {w W : World} (h : Below w.heap.size w W) (u v : Value) : Below w.heap.size w ((W.setCell ⟨w.heap.size, 0, none⟩ u).setCell ⟨w.heap.size, 1, none⟩ v) := bst (bst h (Nat.le_refl _) _ _) (Nat.le_refl _) _ _
set_option maxRecDepth 100000 in
set_option maxHeartbeats 2000000 in
theorem rof_any (a : Int) (ha : 0 ≤ a ∧ a ≤ 18446744073709551615) (w : World) : Calls Tryd.prog 8 #[.int .u64 a] w fun e w' => e = .returned (.tuple #[.agg #[.int .i64 (ofX a).k, .int .i64 (ofX a).t], .int .i64 (ofE a)]) ∧ Below w.heap.size w w' := by
  have H0 : Hid (Wq w (w.alloc (.cells #[.int .i64 0, .int .i64 0] 32)) ev0) := wq_new w ev0
  by_cases hc : canU a ews
  case neg =>
    obtain ⟨e1, e2⟩ := of_bad hc
    rw [e1, e2]
    have HK := rhide (runpack_none ha hc)
    clear e1 e2 hc ha
    go_enter Tryd.func8, Tryd.ntmps8
    go_upto_region 1 with fail
    generalize w.alloc _ = v0 at H0 ⊢
    go_wp2_with (first
      | (go_at_call 30; refine (HK.out v0).mono ?_; rintro e5 w5 ⟨rfl, hb⟩; have H2 := rhide (H0.out.on hb); clear hb H0 HK; have x0 := H2.out.box.c0; have x1 := H2.out.box.c1; have z := H2.out.box.fz)
      | fail)
    refine bodyPost_ret (v := .tuple #[.agg #[.int .i64 0, .int .i64 0], .int .i64 12]) (by simp [results, Tryd.results8, go_sem, x0, x1]) rfl ⟨rfl, ?_⟩
    exact two_below H2.out.below _ _
  case pos =>
  have HK := rhide (runpack_two ha hc)
  obtain ⟨g0, g1⟩ := egN_bd ha hc
  have d0 : IntKind.i64.wrap (egN a 0) = egN a 0 := wrapi_small (by omega) (by omega)
  have d1 : IntKind.i64.wrap (egN a 1) = egN a 1 := wrapi_small (by omega) (by omega)
  have HC : Hid (∀ wc, Calls Tryd.prog 22 #[.agg #[.int .i64 (egN a 0), .int .i64 (egN a 1)]] wc fun e w' => e = .returned (.int .i64 (ckE (ofR a))) ∧ Below wc.heap.size wc w') := fun wc => rcheck_any (ofR a) wc
  by_cases he : Eo (ofR a)
  · obtain ⟨e1, e2⟩ := of_eo hc he
    rw [e1, e2]
    rw [ck_yes he] at HC
    unfold ofR
    dsimp only
    clear e1 e2 hc he ha g0 g1
    go_enter Tryd.func8, Tryd.ntmps8
    go_upto_region 1 with fail
    generalize w.alloc _ = v0 at H0 ⊢
    go_upto_region 4 with (first
      | (go_at_call 30; refine (HK.out v0).mono ?_; rintro e5 w5 ⟨b, o, c, rfl, h2, hb⟩; have H2 := rhide (H0.out.on hb); have H5 := rhide h2; clear hb H0 HK h2)
      | fail)
    have f0 := H5.out.c0
    have f1 := H5.out.c1
    have fl := H5.out.lt
    go_region
    have H3 : Hid (Oq w (w5.alloc (.cells #[.int .i64 (egN a 0), .int .i64 (egN a 1)] 32)).drew w5.heap.size ⟨egN a 0, egN a 1⟩) := (H2.out.read ⟨egN a 0, egN a 1⟩).on (Below.refl _ _).drew
    clear H2 H5 f0 f1 fl
    generalize World.drew _ = v3 at H3 ⊢
    generalize w5.heap.size = D at H3 ⊢
    have y0 := H3.out.box.c0
    have y1 := H3.out.box.c1
    go_wp2_with (first
      | (go_at_call 22; refine (HC.out _).mono ?_; rintro e6 w6 ⟨rfl, hb⟩; have H4 := rhide (H3.out.on hb); clear hb H3 HC y0 y1; have y0 := H4.out.box.c0; have y1 := H4.out.box.c1; have x0 := H4.out.res.c0; have x1 := H4.out.res.c1; have z := H4.out.res.fz)
      | fail)
    refine bodyPost_ret (v := .tuple #[.agg #[.int .i64 (egN a 0), .int .i64 (egN a 1)], .int .i64 0]) (by simp [results, Tryd.results8, go_sem, x0, x1]) rfl ⟨rfl, ?_⟩
    exact two_below H4.out.below _ _
  · obtain ⟨e1, e2⟩ := of_neo he
    rw [e1, e2]
    rw [ck_no he] at HC
    clear e1 e2 hc he ha g0 g1
    go_enter Tryd.func8, Tryd.ntmps8
    go_upto_region 1 with fail
    generalize w.alloc _ = v0 at H0 ⊢
    go_upto_region 4 with (first
      | (go_at_call 30; refine (HK.out v0).mono ?_; rintro e5 w5 ⟨b, o, c, rfl, h2, hb⟩; have H2 := rhide (H0.out.on hb); have H5 := rhide h2; clear hb H0 HK h2)
      | fail)
    have f0 := H5.out.c0
    have f1 := H5.out.c1
    have fl := H5.out.lt
    go_region
    have H3 : Hid (Oq w (w5.alloc (.cells #[.int .i64 (egN a 0), .int .i64 (egN a 1)] 32)).drew w5.heap.size ⟨egN a 0, egN a 1⟩) := (H2.out.read ⟨egN a 0, egN a 1⟩).on (Below.refl _ _).drew
    clear H2 H5 f0 f1 fl
    generalize World.drew _ = v3 at H3 ⊢
    generalize w5.heap.size = D at H3 ⊢
    have y0 := H3.out.box.c0
    have y1 := H3.out.box.c1
    go_wp2_with (first
      | (go_at_call 22; refine (HC.out _).mono ?_; rintro e6 w6 ⟨rfl, hb⟩; have H4 := rhide (H3.out.on hb); clear hb H3 HC y0 y1; have x0 := H4.out.res.c0; have x1 := H4.out.res.c1; have z := H4.out.res.fz)
      | fail)
    refine bodyPost_ret (v := .tuple #[.agg #[.int .i64 0, .int .i64 0], .int .i64 12]) (by simp [results, Tryd.results8, go_sem, x0, x1]) rfl ⟨rfl, ?_⟩
    exact two_below H4.out.below _ _
/-! ### places -/
def zif (E v : Int) : Int := if E = 0 then v else 0
theorem zif_yes (v : Int) : zif 0 v = v := rfl
theorem zif_no {E : Int} (h : E ≠ 0) (v : Int) : zif E v = 0 := by unfold zif; rw [if_neg h]
theorem rld_at (base q N : Nat) (f : Int) (M : Nat → Nat → Int) (hf : okF N f = true) (i : Nat) (hi : i < 36) (wc : World) (h : Rx wc base q N M) : Calls Tryd.prog 41 #[.pointer (some ⟨q, 0, none⟩), .int .i64 f, .int .i64 (i : Int)] wc fun e w' => e = .returned (.tuple #[.int .u64 (M f.toNat i), .int .i64 0]) ∧ w' = wc := by
  have := Pmem.rload_any base q N f (i : Int) M wc h.n1 h.n64 h.ref
  have o := okW_ring hf (i := (i : Int)) (by omega) (by omega)
  rwa [show errW N f (i : Int) = 0 by unfold errW; rw [o]; rfl, show ldM N M f (i : Int) = M f.toNat i by unfold ldM; rw [o]; rfl] at this
set_option maxRecDepth 100000 in
set_option maxHeartbeats 1000000 in
theorem rplaces_any (base q N : Nat) (f : Int) (M : Nat → Nat → Int) (w : World) (h : Rx w base q N M) : Calls Tryd.prog 37 #[.pointer (some ⟨q, 0, none⟩), .int .i64 f] w fun e w' => e = .returned (.tuple #[.int .i64 (zif (plE N M f) (bgI M f)), .int .i64 (zif (plE N M f) (cnI M f)), .int .i64 (plE N M f)]) ∧ Below w.heap.size w w' := by
  have HI : Hid (Calls Tryd.prog 33 #[.pointer (some ⟨q, 0, none⟩), .int .i64 f, .int .i64 6] w fun e w' => e = .returned (.int .i64 (Phead.isE N M f 6)) ∧ Below w.heap.size w w') := Phead.hris_any base q N f 6 M w h.n1 h.n64 h.ref h.fit
  by_cases hi : Phead.isE N M f 6 = 0
  · have hf := isE_ok hi
    have HL0 : Hid (∀ wc, Rx wc base q N M → Calls Tryd.prog 41 #[.pointer (some ⟨q, 0, none⟩), .int .i64 f, .int .i64 12] wc fun e w' => e = .returned (.tuple #[.int .u64 (bgI M f), .int .i64 0]) ∧ w' = wc) := fun wc hx => rld_at base q N f M hf 12 (by omega) wc hx
    have HL1 : Hid (∀ wc, Rx wc base q N M → Calls Tryd.prog 41 #[.pointer (some ⟨q, 0, none⟩), .int .i64 f, .int .i64 13] wc fun e w' => e = .returned (.tuple #[.int .u64 (cnI M f), .int .i64 0]) ∧ w' = wc) := fun wc hx => rld_at base q N f M hf 13 (by omega) wc hx
    have hb : 0 ≤ bgI M f ∧ bgI M f ≤ 18446744073709551615 := h.fit _ _
    have hn : 0 ≤ cnI M f ∧ cnI M f ≤ 18446744073709551615 := h.fit _ _
    have HR := rhide h
    rw [hi] at HI
    by_cases hp : bgI M f < 8 ∧ cnI M f ≤ 8
    · have e : plE N M f = 0 := by unfold plE; rw [if_pos hi, if_pos hp]
      rw [e, zif_yes, zif_yes]
      generalize bgI M f = a at HL0 hb hp ⊢
      generalize cnI M f = n at HL1 hn hp ⊢
      have g1 : ¬ 8 ≤ a := by omega
      have g2 : ¬ 8 < n := by omega
      have d0 : IntKind.i64.wrap a = a := wrapi_small (by omega) (by omega)
      have d1 : IntKind.i64.wrap n = n := wrapi_small (by omega) (by omega)
      clear e hp hb hn hi hf h
      go_enter Tryd.func37, Tryd.ntmps37
      go_wp2_with (first
        | (go_at_call 33; refine HI.out.mono ?_; rintro e1 w1 ⟨rfl, hb⟩; have H1 := rhide (HR.out.grown hb); have HB := rhide hb; clear hb HI HR)
        | (go_at_call 41; refine (HL0.out _ H1.out).mono ?_; rintro e2 w2 ⟨rfl, hw⟩; subst w2; clear HL0)
        | (go_at_call 41; refine (HL1.out _ H1.out).mono ?_; rintro e3 w3 ⟨rfl, hw⟩; subst w3; clear HL1)
        | fail)
      refine bodyPost_ret (v := .tuple #[.int .i64 a, .int .i64 n, .int .i64 0]) (by simp [results, Tryd.results37, go_sem]) rfl ⟨rfl, HB.out⟩
    · have e : plE N M f = 12 := by unfold plE; rw [if_pos hi, if_neg hp]
      rw [e, zif_no (by decide), zif_no (by decide)]
      generalize bgI M f = a at HL0 hb hp
      generalize cnI M f = n at HL1 hn hp
      by_cases g1 : 8 ≤ a
      · clear e hp hb hn hi hf h
        go_enter Tryd.func37, Tryd.ntmps37
        go_wp2_with (first
          | (go_at_call 33; refine HI.out.mono ?_; rintro e1 w1 ⟨rfl, hb⟩; have H1 := rhide (HR.out.grown hb); have HB := rhide hb; clear hb HI HR)
          | (go_at_call 41; refine (HL0.out _ H1.out).mono ?_; rintro e2 w2 ⟨rfl, hw⟩; subst w2; clear HL0)
          | (go_at_call 41; refine (HL1.out _ H1.out).mono ?_; rintro e3 w3 ⟨rfl, hw⟩; subst w3; clear HL1)
          | fail)
        refine bodyPost_ret (v := .tuple #[.int .i64 0, .int .i64 0, .int .i64 12]) (by simp [results, Tryd.results37, go_sem]) rfl ⟨rfl, HB.out⟩
      · have g2 : 8 < n := by omega
        clear e hp hb hn hi hf h
        go_enter Tryd.func37, Tryd.ntmps37
        go_wp2_with (first
          | (go_at_call 33; refine HI.out.mono ?_; rintro e1 w1 ⟨rfl, hb⟩; have H1 := rhide (HR.out.grown hb); have HB := rhide hb; clear hb HI HR)
          | (go_at_call 41; refine (HL0.out _ H1.out).mono ?_; rintro e2 w2 ⟨rfl, hw⟩; subst w2; clear HL0)
          | (go_at_call 41; refine (HL1.out _ H1.out).mono ?_; rintro e3 w3 ⟨rfl, hw⟩; subst w3; clear HL1)
          | fail)
        refine bodyPost_ret (v := .tuple #[.int .i64 0, .int .i64 0, .int .i64 12]) (by simp [results, Tryd.results37, go_sem]) rfl ⟨rfl, HB.out⟩
  · have e : plE N M f = 4 := by unfold plE; rw [if_neg hi]
    rw [e, zif_no (by decide), zif_no (by decide)]
    generalize Phead.isE N M f 6 = E at HI hi
    have hE : (E != 0) = true := by simp [hi]
    clear e h hi
    go_enter Tryd.func37, Tryd.ntmps37
    go_wp2_with (first
      | (go_at_call 33; refine HI.out.mono ?_; rintro e1 w1 ⟨rfl, hb⟩; have HB := rhide hb; clear hb HI)
      | fail)
    refine bodyPost_ret (v := .tuple #[.int .i64 0, .int .i64 0, .int .i64 4]) (by simp [results, Tryd.results37, go_sem]) rfl ⟨rfl, HB.out⟩
/-! ### Clear -/
theorem rst_at (w : World) (base q N : Nat) (f : Int) (M : Nat → Nat → Int) (hf : okF N f = true) (a : Int) (h0 : 0 ≤ a ∧ a < 36) (v : Int) (hv : 0 ≤ v ∧ v ≤ 18446744073709551615) (wc : World) (h : Dh w wc base q N M) : Calls Tryd.prog 28 #[.pointer (some ⟨q, 0, none⟩), .int .i64 f, .int .i64 a, .int .u64 v] wc fun e w' => e = .returned (.int .i64 0) ∧ Dh w w' base q N (stW N M f a v) ∧ KeepX q wc w' := by
  have := ystore_any base q N f a v M wc h.rx.n1 h.rx.n64 h.rx.ref
  rw [show errW N f a = 0 by unfold errW; rw [okW_ring hf h0.1 h0.2]; rfl] at this
  exact this.mono fun e w' ⟨q1, q2, q3, q4⟩ => ⟨q1, h.turn q2 (h.rx.fit.st N f a v hv) q3 q4, q4⟩
set_option maxRecDepth 100000 in
set_option maxHeartbeats 1000000 in
theorem rclear_any (base q N : Nat) (f : Int) (M : Nat → Nat → Int) (w : World) (h : Rx w base q N M) : Calls Tryd.prog 10 #[.pointer (some ⟨q, 0, none⟩), .int .i64 f] w fun e w' => e = .returned (.int .i64 (crE N M f)) ∧ Dh w w' base q N (crM N M f) := by
  have H0 := rhide (dh_self h)
  have HI : Hid (Calls Tryd.prog 33 #[.pointer (some ⟨q, 0, none⟩), .int .i64 f, .int .i64 6] w fun e w' => e = .returned (.int .i64 (Phead.isE N M f 6)) ∧ Below w.heap.size w w') := Phead.hris_any base q N f 6 M w h.n1 h.n64 h.ref h.fit
  by_cases hi : Phead.isE N M f 6 = 0
  · have hf := isE_ok hi
    have e1 : crE N M f = 0 := by unfold crE; rw [if_pos hi]
    have e2 : crM N M f = stW N (stW N M f 12 0) f 13 0 := by unfold crM; rw [if_pos e1]
    have HS0 : Hid (∀ wc, Dh w wc base q N M → Calls Tryd.prog 28 #[.pointer (some ⟨q, 0, none⟩), .int .i64 f, .int .i64 12, .int .u64 0] wc fun e w' => e = .returned (.int .i64 0) ∧ Dh w w' base q N (stW N M f 12 0)) := fun wc hd => (rst_at w base q N f M hf 12 (by omega) 0 (by omega) wc hd).mono fun e w' ⟨q1, q2, _⟩ => ⟨q1, q2⟩
    have HS1 : Hid (∀ wc, Dh w wc base q N (stW N M f 12 0) → Calls Tryd.prog 28 #[.pointer (some ⟨q, 0, none⟩), .int .i64 f, .int .i64 13, .int .u64 0] wc fun e w' => e = .returned (.int .i64 0) ∧ Dh w w' base q N (stW N (stW N M f 12 0) f 13 0)) := fun wc hd => (rst_at w base q N f _ hf 13 (by omega) 0 (by omega) wc hd).mono fun e w' ⟨q1, q2, _⟩ => ⟨q1, q2⟩
    rw [e1, e2]
    rw [hi] at HI
    generalize stW N (stW N M f 12 0) f 13 0 = M2 at HS1 ⊢
    generalize stW N M f 12 0 = M1 at HS0 HS1
    clear e1 e2 hi hf h
    go_enter Tryd.func10, Tryd.ntmps10
    go_wp2_with (first
      | (go_at_call 33; refine HI.out.mono ?_; rintro e1 w1 ⟨rfl, hb⟩; have H1 := rhide (H0.out.on hb); clear hb HI H0)
      | (go_at_call 28; refine (HS0.out _ H1.out).mono ?_; rintro e2 w2 ⟨rfl, hd⟩; have H2 := rhide hd; clear hd HS0 H1)
      | (go_at_call 28; refine (HS1.out _ H2.out).mono ?_; rintro e3 w3 ⟨rfl, hd⟩; have H3 := rhide hd; clear hd HS1 H2)
      | fail)
    go_ret
    exact ⟨rfl, H3.out⟩
  · have e1 : crE N M f = 4 := by unfold crE; rw [if_neg hi]
    have e2 : crM N M f = M := by unfold crM; rw [if_neg (by rw [e1]; decide)]
    rw [e1, e2]
    generalize Phead.isE N M f 6 = E at HI hi
    have hE : (E != 0) = true := by simp [hi]
    clear e1 e2 h hi
    go_enter Tryd.func10, Tryd.ntmps10
    go_wp2_with (first
      | (go_at_call 33; refine HI.out.mono ?_; rintro e1 w1 ⟨rfl, hb⟩; have H1 := rhide (H0.out.on hb); clear hb HI H0)
      | fail)
    go_ret
    exact ⟨rfl, H1.out⟩
end Go.Proofs.YtdplailaolfpkaaDoor.Pring
