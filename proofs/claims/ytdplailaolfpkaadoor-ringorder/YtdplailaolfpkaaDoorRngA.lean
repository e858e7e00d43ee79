/- What Check, Word and Of of package ring answer (written by mk_a.py). -/
import Derived.Test.YtdplailaolfpkaaDoorRngR
import Derived.Deep.RegionHeld3
namespace Go.Proofs.YtdplailaolfpkaaDoor.Pring
open Go.Proofs.YtdplailaolfpkaaDoor.Pbase Go.Proofs.YtdplailaolfpkaaDoor.Pfield Go.Proofs.YtdplailaolfpkaaDoor.Play Go.Proofs.YtdplailaolfpkaaDoor.Pmem
open Go.RowKit M
set_option linter.unusedVariables false

/-! ### Check -/
set_option maxRecDepth 100000 in
theorem check_any (x : Ev) (w : World) : Calls Tryd.prog 21 #[.agg #[.int .i64 x.k, .int .i64 x.t]] w fun e w' => e = .returned (.int .i64 (ckE x)) ∧ Below w.heap.size w w' := by
  obtain ⟨k, t⟩ := x
  dsimp only
  by_cases h1 : k < 1
  · rw [ck_no (by unfold Eo; dsimp only; omega)]
    go_enter Tryd.func21, Tryd.ntmps21
    go_wp2
    go_ret
    exact ⟨rfl, bal (Below.refl _ _) _⟩
  by_cases h2 : 6 < k
  · rw [ck_no (by unfold Eo; dsimp only; omega)]
    go_enter Tryd.func21, Tryd.ntmps21
    go_wp2
    go_ret
    exact ⟨rfl, bal (Below.refl _ _) _⟩
  by_cases h3 : t < 0
  · rw [ck_no (by unfold Eo; dsimp only; omega)]
    go_enter Tryd.func21, Tryd.ntmps21
    go_wp2
    go_ret
    exact ⟨rfl, bal (Below.refl _ _) _⟩
  by_cases h4 : 64 ≤ t
  · rw [ck_no (by unfold Eo; dsimp only; omega)]
    go_enter Tryd.func21, Tryd.ntmps21
    go_wp2
    go_ret
    exact ⟨rfl, bal (Below.refl _ _) _⟩
  rw [ck_yes (by unfold Eo; dsimp only; omega)]
  go_enter Tryd.func21, Tryd.ntmps21
  go_wp2
  go_ret
  exact ⟨rfl, bal (Below.refl _ _) _⟩
/-! ### Word -/
theorem pack_two {x : Ev} (h : Eo x) (D : Nat) (wc wd : World) (hi : Ints .i64 wc.heap.size wc (.slice (some ⟨D, 0, none⟩) 2 2) ews) (hd : Below (wc.alloc (.cells #[.int .u64 x.k, .int .u64 x.t] 26)).heap.size (wc.alloc (.cells #[.int .u64 x.k, .int .u64 x.t] 26)) wd) :
    Calls Tryd.prog 49 #[.slice (some ⟨D, 0, none⟩) 2 2, .slice (some ⟨wc.heap.size, 0, none⟩) 2 2] wd fun e w' => e = .returned (.tuple #[.int .u64 (ewd x), .int .i64 0]) ∧ Below wc.heap.size wc w' :=
  (pack_ok (some ⟨D, 0, none⟩) (some ⟨wc.heap.size, 0, none⟩) 2 2 ews x.vs _ (by decide) rfl (eput_can h).1 ((hi.on (bal (Below.refl _ _) _)).on hd) ((ints_vs wc x 26).on hd) (eput_can h).2).mono fun e w' ⟨q1, q2⟩ => ⟨q1, ((bal (Below.refl wc.heap.size wc) _).trans (hd.mono (by simp))).trans (q2.mono (by have := hd.size; simp at this; omega))⟩
set_option maxRecDepth 100000 in
set_option maxHeartbeats 2000000 in
theorem word_any (x : Ev) (w : World) (hT : TabR w) : Calls Tryd.prog 19 #[.agg #[.int .i64 x.k, .int .i64 x.t]] w fun e w' => e = .returned (.tuple #[.int .u64 (wdW x), .int .i64 (ckE x)]) ∧ Below w.heap.size w w' := by
  have H0 := rhide (wq_new w x)
  have HT := rhide hT
  have HC : Hid (∀ wc, Calls Tryd.prog 21 #[.agg #[.int .i64 x.k, .int .i64 x.t]] wc fun e w' => e = .returned (.int .i64 (ckE x)) ∧ Below wc.heap.size wc w') := fun wc => check_any x wc
  clear hT
  by_cases hx : Eo x
  · rw [wd_yes hx, ck_yes hx]
    rw [ck_yes hx] at HC
    have HK : Hid (∀ D wc wd, Ints .i64 wc.heap.size wc (.slice (some ⟨D, 0, none⟩) 2 2) ews → Below (wc.alloc (.cells #[.int .u64 x.k, .int .u64 x.t] 26)).heap.size (wc.alloc (.cells #[.int .u64 x.k, .int .u64 x.t] 26)) wd → Calls Tryd.prog 49 #[.slice (some ⟨D, 0, none⟩) 2 2, .slice (some ⟨wc.heap.size, 0, none⟩) 2 2] wd fun e w' => e = .returned (.tuple #[.int .u64 (ewd x), .int .i64 0]) ∧ Below wc.heap.size wc w') := fun D wc wd h hd => pack_two hx D wc wd h hd
    have d0 : IntKind.u64.wrap x.k = x.k := by unfold Eo at hx; exact wrapu_small (by omega) (by omega)
    have d1 : IntKind.u64.wrap x.t = x.t := by unfold Eo at hx; exact wrapu_small (by omega) (by omega)
    generalize ewd x = z at HK ⊢
    clear hx
    go_enter Tryd.func19, Tryd.ntmps19
    go_upto_region 5 with (first
      | (go_at_call 21; refine (HC.out _).mono ?_; rintro e1 w1 ⟨rfl, hb⟩; have H1 := rhide (H0.out.on hb); clear hb H0 HC; obtain ⟨t0, t1⟩ := (HT.out.on H1.out.below).cells; have tl := (HT.out.on H1.out.below).lt)
      | fail)
    have H2 := rhide (H1.out.on (bal (Below.refl w1.heap.size w1) (.cells #[.int .i64 4, .int .i64 6] 70)))
    have HJ : Hid (Ints .i64 _ _ (.slice (some ⟨w1.heap.size, 0, none⟩) 2 2) ews) := ints_ews w1 70
    clear t0 t1 tl H1
    generalize w1.alloc _ = v1 at H2 HJ ⊢
    generalize w1.heap.size = D at HJ ⊢
    have x0 := H2.out.box.c0
    have x1 := H2.out.box.c1
    go_region_held3 (fun w' => w'.cell? ⟨w.heap.size, 0, none⟩ = some (.int .i64 x.k) ∧ w'.cell? ⟨w.heap.size, 1, none⟩ = some (.int .i64 x.t)) (first | (refine ⟨?_, ?_⟩ <;> with_reducible assumption) | go_keep)
    (first
      | (go_at_call 49; refine (HK.out D v1 _ HJ.out (by first | exact Below.refl _ _ | exact (Below.refl _ _).drew)).mono ?_; rintro e2 w2 ⟨rfl, hb⟩; have H3 := rhide (H2.out.on (by first | exact hb | exact (Below.refl _ _).drew.trans hb)); clear hb H2 HJ HK x0 x1; have x0 := H3.out.box.c0; have x1 := H3.out.box.c1)
      | fail)
    all_goals
      go_wp2
      go_ret2
      first | exact ⟨rfl, H3.out.below⟩ | exact ⟨rfl, H3.out.below.drew⟩
  · rw [wd_no hx, ck_no hx]
    rw [ck_no hx] at HC
    clear hx
    go_enter Tryd.func19, Tryd.ntmps19
    go_wp2_with (first
      | (go_at_call 21; refine (HC.out _).mono ?_; rintro e1 w1 ⟨rfl, hb⟩; have H1 := rhide (H0.out.on hb); clear hb H0 HC)
      | fail)
    go_ret2
    exact ⟨rfl, H1.out.below⟩
/-! ### Of -/
theorem unpack_two {a : Int} (ha : 0 ≤ a ∧ a ≤ 18446744073709551615) (hA : canU a ews) (wc : World) :
    Calls Tryd.prog 29 #[.slice (some ⟨wc.heap.size, 0, none⟩) 2 2, .int .u64 a] (wc.alloc (.cells #[.int .i64 4, .int .i64 6] 70)) fun e' W' => ∃ b o c, e' = .returned (.tuple #[.slice (some ⟨b, o, none⟩) 2 c, .int .i64 0]) ∧ Two W' b o a ∧ Below wc.heap.size wc W' :=
  (unpack_ok (some ⟨wc.heap.size, 0, none⟩) 2 ews a _ (by decide) ha (ints_ews wc 70) hA).mono fun e' W' ⟨a, c, he, hi, hB⟩ => by
    obtain ⟨b, o, rfl, h5⟩ := two_of hi
    exact ⟨b, o, c, he, h5, (bal (Below.refl _ _) _).trans (hB.mono (by simp))⟩
theorem unpack_none {a : Int} (ha : 0 ≤ a ∧ a ≤ 18446744073709551615) (hA : ¬ canU a ews) (wc : World) :
    Calls Tryd.prog 29 #[.slice (some ⟨wc.heap.size, 0, none⟩) 2 2, .int .u64 a] (wc.alloc (.cells #[.int .i64 4, .int .i64 6] 70)) fun e' W' => e' = .returned (.tuple #[.slice none 0 0, .int .i64 1]) ∧ Below wc.heap.size wc W' :=
  (unpack_bad (some ⟨wc.heap.size, 0, none⟩) 2 ews a _ (by decide) ha (ints_ews wc 70) hA).mono fun e' W' ⟨he, hB⟩ => ⟨he, (bal (Below.refl _ _) _).trans (hB.mono (by simp))⟩
set_option maxRecDepth 100000 in
set_option maxHeartbeats 2000000 in
theorem of_any (a : Int) (ha : 0 ≤ a ∧ a ≤ 18446744073709551615) (w : World) (hT : TabR w) : Calls Tryd.prog 7 #[.int .u64 a] w fun e w' => e = .returned (.tuple #[.agg #[.int .i64 (ofX a).k, .int .i64 (ofX a).t], .int .i64 (ofE a)]) ∧ Below w.heap.size w w' := by
  have HT := rhide hT
  clear hT
  have H0 : Hid (Wq w (w.alloc (.cells #[.int .i64 0, .int .i64 0] 32)) ev0) := wq_new w ev0
  by_cases hc : canU a ews
  case neg =>
    obtain ⟨e1, e2⟩ := of_bad hc
    rw [e1, e2]
    have HK := rhide (unpack_none ha hc)
    clear e1 e2 hc ha
    go_enter Tryd.func7, Tryd.ntmps7
    go_upto_region 1 with fail
    generalize w.alloc _ = v0 at H0 ⊢
    obtain ⟨t0, t1⟩ := (HT.out.on H0.out.below).cells
    have tl := (HT.out.on H0.out.below).lt
    go_wp2_with (first
      | (go_at_call 29; refine (HK.out v0).mono ?_; rintro e5 w5 ⟨rfl, hb⟩; have H2 := rhide (H0.out.on hb); clear hb H0 HK; have x0 := H2.out.box.c0; have x1 := H2.out.box.c1; have z := H2.out.box.fz)
      | fail)
    refine bodyPost_ret (v := .tuple #[.agg #[.int .i64 0, .int .i64 0], .int .i64 12]) (by simp [results, Tryd.results7, go_sem, x0, x1]) rfl ⟨rfl, ?_⟩
    exact two_below H2.out.below _ _
  case pos =>
  have HK := rhide (unpack_two ha hc)
  obtain ⟨g0, g1⟩ := egN_bd ha hc
  have d0 : IntKind.i64.wrap (egN a 0) = egN a 0 := wrapi_small (by omega) (by omega)
  have d1 : IntKind.i64.wrap (egN a 1) = egN a 1 := wrapi_small (by omega) (by omega)
  have HC : Hid (∀ wc, Calls Tryd.prog 21 #[.agg #[.int .i64 (egN a 0), .int .i64 (egN a 1)]] wc fun e w' => e = .returned (.int .i64 (ckE (ofR a))) ∧ Below wc.heap.size wc w') := fun wc => check_any (ofR a) wc
  by_cases he : Eo (ofR a)
  · obtain ⟨e1, e2⟩ := of_eo hc he
    rw [e1, e2]
    rw [ck_yes he] at HC
    unfold ofR
    dsimp only
    clear e1 e2 hc he ha g0 g1
    go_enter Tryd.func7, Tryd.ntmps7
    go_upto_region 1 with fail
    generalize w.alloc _ = v0 at H0 ⊢
    obtain ⟨t0, t1⟩ := (HT.out.on H0.out.below).cells
    have tl := (HT.out.on H0.out.below).lt
    go_upto_region 5 with (first
      | (go_at_call 29; refine (HK.out v0).mono ?_; rintro e5 w5 ⟨b, o, c, rfl, h2, hb⟩; have H2 := rhide (H0.out.on hb); have H5 := rhide h2; clear hb H0 HK h2)
      | fail)
    have f0 := H5.out.c0
    have f1 := H5.out.c1
    have fl := H5.out.lt
    go_region
    have H3 : Hid (Oq w (w5.alloc (.cells #[.int .i64 (egN a 0), .int .i64 (egN a 1)] 32)).drew w5.heap.size ⟨egN a 0, egN a 1⟩) := (H2.out.read ⟨egN a 0, egN a 1⟩).on (Below.refl _ _).drew
    clear H2 H5 f0 f1 fl
    generalize World.drew _ = v3 at H3 ⊢
    generalize w5.heap.size = D at H3 ⊢
    have y0 := H3.out.box.c0
    have y1 := H3.out.box.c1
    go_wp2_with (first
      | (go_at_call 21; refine (HC.out _).mono ?_; rintro e6 w6 ⟨rfl, hb⟩; have H4 := rhide (H3.out.on hb); clear hb H3 HC y0 y1; have y0 := H4.out.box.c0; have y1 := H4.out.box.c1; have x0 := H4.out.res.c0; have x1 := H4.out.res.c1; have z := H4.out.res.fz)
      | fail)
    refine bodyPost_ret (v := .tuple #[.agg #[.int .i64 (egN a 0), .int .i64 (egN a 1)], .int .i64 0]) (by simp [results, Tryd.results7, go_sem, x0, x1]) rfl ⟨rfl, ?_⟩
    exact two_below H4.out.below _ _
  · obtain ⟨e1, e2⟩ := of_neo he
    rw [e1, e2]
    rw [ck_no he] at HC
    clear e1 e2 hc he ha g0 g1
    go_enter Tryd.func7, Tryd.ntmps7
    go_upto_region 1 with fail
    generalize w.alloc _ = v0 at H0 ⊢
    obtain ⟨t0, t1⟩ := (HT.out.on H0.out.below).cells
    have tl := (HT.out.on H0.out.below).lt
    go_upto_region 5 with (first
      | (go_at_call 29; refine (HK.out v0).mono ?_; rintro e5 w5 ⟨b, o, c, rfl, h2, hb⟩; have H2 := rhide (H0.out.on hb); have H5 := rhide h2; clear hb H0 HK h2)
      | fail)
    have f0 := H5.out.c0
    have f1 := H5.out.c1
    have fl := H5.out.lt
    go_region
    have H3 : Hid (Oq w (w5.alloc (.cells #[.int .i64 (egN a 0), .int .i64 (egN a 1)] 32)).drew w5.heap.size ⟨egN a 0, egN a 1⟩) := (H2.out.read ⟨egN a 0, egN a 1⟩).on (Below.refl _ _).drew
    clear H2 H5 f0 f1 fl
    generalize World.drew _ = v3 at H3 ⊢
    generalize w5.heap.size = D at H3 ⊢
    have y0 := H3.out.box.c0
    have y1 := H3.out.box.c1
    go_wp2_with (first
      | (go_at_call 21; refine (HC.out _).mono ?_; rintro e6 w6 ⟨rfl, hb⟩; have H4 := rhide (H3.out.on hb); clear hb H3 HC y0 y1; have x0 := H4.out.res.c0; have x1 := H4.out.res.c1; have z := H4.out.res.fz)
      | fail)
    refine bodyPost_ret (v := .tuple #[.agg #[.int .i64 0, .int .i64 0], .int .i64 12]) (by simp [results, Tryd.results7, go_sem, x0, x1]) rfl ⟨rfl, ?_⟩
    exact two_below H4.out.below _ _
/-! ### awake -/
set_option maxRecDepth 100000 in
theorem awake_any (w : World) : Calls Tryd.prog 24 #[] w fun e w' => e = .returned (.bool true) ∧ Below w.heap.size w w' := by
  have H0 : Hid (∀ wc, Calls Tryd.prog 21 #[.agg #[.int .i64 0, .int .i64 0]] wc fun e w' => e = .returned (.int .i64 1) ∧ Below wc.heap.size wc w') := fun wc => by
    have := check_any ⟨0, 0⟩ wc
    rwa [ck_no (by unfold Eo; dsimp only; omega)] at this
  have H1 : Hid (∀ wc, Calls Tryd.prog 21 #[.agg #[.int .i64 1, .int .i64 0]] wc fun e w' => e = .returned (.int .i64 0) ∧ Below wc.heap.size wc w') := fun wc => by
    have := check_any ⟨1, 0⟩ wc
    rwa [ck_yes (by unfold Eo; dsimp only; omega)] at this
  go_enter Tryd.func24, Tryd.ntmps24
  go_wp2_with (first
    | (go_at_call 21; refine (H0.out _).mono ?_; rintro e1 w1 ⟨rfl, hb⟩; have HB := rhide hb; clear hb H0)
    | (go_at_call 21; refine (H1.out _).mono ?_; rintro e2 w2 ⟨rfl, hb⟩; have HC : Hid (Below w.heap.size w w2) := HB.out.trans (hb.mono HB.out.size); clear hb H1)
    | fail)
  go_ret
  exact ⟨rfl, HC.out⟩
end Go.Proofs.YtdplailaolfpkaaDoor.Pring
