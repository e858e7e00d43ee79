/- The document's Put, Freeze and Cons. -/
import Derived.Test.YtgcaodfcodalfaaGreatDoorCtbS
import Derived.Test.YtgcaodfcodalfaaGreatDoorCtbJ
namespace Go.Proofs.YtgcaodfcodalfaaGreatDoor.Pcaptbl
open Go.Proofs.YtgcaodfcodalfaaGreatDoor.Pbase Go.Proofs.YtgcaodfcodalfaaGreatDoor.Pmem Go.Proofs.YtgcaodfcodalfaaGreatDoor.Pradix Go.Proofs.YtgcaodfcodalfaaGreatDoor.Pslot
open Go.RowKit
set_option linter.unusedVariables false

/-- The document's memory and a capability beside it. -/
structure Rb (w0 w : World) (base q N : Nat) (M : Nat → Nat → Int) (D : Nat) (k r t l e c : Int) : Prop where
  rx : Rx w base q N M
  below : Below w0.heap.size w0 w
  box : Pcap.Box6 w D k r t l e c
theorem Rb.on {w0 w w' : World} {base q N : Nat} {M : Nat → Nat → Int} {D : Nat} {k r t l e c : Int} (h : Rb w0 w base q N M D k r t l e c) (hB : Below w.heap.size w w') : Rb w0 w' base q N M D k r t l e c :=
  ⟨h.rx.grown hB, h.below.trans (hB.mono h.below.size), h.box.on hB⟩
theorem rb_new {w : World} {base q N : Nat} {M : Nat → Nat → Int} (h : Rx w base q N M) (k r t l e c : Int) : Rb w (w.alloc (.cells #[.int .i64 k, .int .i64 r, .int .i64 t, .int .i64 l, .int .i64 e, .int .i64 c] 32)) base q N M w.heap.size k r t l e c :=
  ⟨h.grown (bal (Below.refl _ _) _), bal (Below.refl _ _) _, Pcap.box6_new w k r t l e c 32⟩
theorem rx_le {w : World} {base q N : Nat} {M : Nat → Nat → Int} (h : Rx w base q N M) : base ≤ w.heap.size := RefIs_le h.ref
/-- What is left where nothing of the memory was written. -/
theorem rx_same {w w' : World} {base q N : Nat} {M : Nat → Nat → Int} (h : Rx w base q N M) (hb : Below w.heap.size w w') : Rx w' base q N M ∧ Below base w w' ∧ Keep w w' := ⟨h.grown hb, hb.mono (rx_le h), Keep.of_below hb⟩
/-- What is left behind the slot's Put. -/
theorem rx_put {w w3 w4 : World} {base q N : Nat} {M M' : Nat → Nat → Int} (h : Rx w base q N M) (hb : Below w.heap.size w w3) (hR : RefIs w4 base q N M') (hF : Fit M') (hB : Below base w3 w4) (hK : Keep w3 w4) : Rx w4 base q N M' ∧ Below base w w4 ∧ Keep w w4 :=
  ⟨h.turn hR hF, (hb.mono (rx_le h)).trans hB, (Keep.of_below hb).trans hK⟩
set_option maxRecDepth 100000 in
set_option maxHeartbeats 1000000 in
theorem rput_any (base q N : Nat) (root a k r t l e c floor : Int) (M : Nat → Nat → Int) (w : World) (h : Rx w base q N M) : Calls Tryz.prog 15 #[.pointer (some ⟨q, 0, none⟩), .int .i64 root, .int .i64 a, .agg #[.int .i64 k, .int .i64 r, .int .i64 t, .int .i64 l, .int .i64 e, .int .i64 c], .int .i64 floor] w fun x w' => x = .returned (.int .i64 (ptE N M root a k r t l e c floor)) ∧ Rx w' base q N (ptM N M root a k r t l e c floor) ∧ Below base w w' ∧ Keep w w' := by
  have HM := rhide h
  have HP := rb_new h k r t l e c
  clear h
  by_cases hr : Pcap.Rt k r t l e c
  case neg =>
    have e1 : ptE N M root a k r t l e c floor = 1 := by simp [ptE, upB, Pcap.rtB_no hr]
    have e2 : ptM N M root a k r t l e c floor = M := by simp [ptM, e1]
    have hc : Pcap.chk k r t l e c = 1 := Pcap.chk_no hr
    rw [e1, e2]
    clear e1 e2 hr
    go_enter Tryz.func15, Tryz.ntmps15
    go_upto_region 1 with fail
    generalize w.alloc _ = w1 at HP ⊢
    generalize w.heap.size = D at HP ⊢
    have H1 := rhide HP
    clear HP
    have x0 := H1.out.box.c0
    have x1 := H1.out.box.c1
    have x2 := H1.out.box.c2
    have x3 := H1.out.box.c3
    have x4 := H1.out.box.c4
    have x5 := H1.out.box.c5
    go_wp2_with (first
      | (go_at_call 39; refine (Pcap.rcheck_any k r t l e c _).mono ?_; rintro e2 w2 ⟨rfl, hb⟩; rw [hc]; have H2 := rhide (H1.out.on hb); clear hb H1 x0 x1 x2 x3 x4 x5; have x0 := H2.out.box.c0; have x1 := H2.out.box.c1; have x2 := H2.out.box.c2; have x3 := H2.out.box.c3; have x4 := H2.out.box.c4; have x5 := H2.out.box.c5)
      | fail)
    go_ret
    exact ⟨rfl, rx_same HM.out H2.out.below⟩
  have hc : Pcap.chk k r t l e c = 0 := Pcap.chk_yes hr
  by_cases hk : 1 < k
  case neg =>
    have e1 : ptE N M root a k r t l e c floor = 1 := by simp [ptE, upB, hk]
    have e2 : ptM N M root a k r t l e c floor = M := by simp [ptM, e1]
    have hk' : k ≤ 1 := by omega
    rw [e1, e2]
    clear e1 e2 hr hk
    go_enter Tryz.func15, Tryz.ntmps15
    go_upto_region 1 with fail
    generalize w.alloc _ = w1 at HP ⊢
    generalize w.heap.size = D at HP ⊢
    have H1 := rhide HP
    clear HP
    have x0 := H1.out.box.c0
    have x1 := H1.out.box.c1
    have x2 := H1.out.box.c2
    have x3 := H1.out.box.c3
    have x4 := H1.out.box.c4
    have x5 := H1.out.box.c5
    go_wp2_with (first
      | (go_at_call 39; refine (Pcap.rcheck_any k r t l e c _).mono ?_; rintro e2 w2 ⟨rfl, hb⟩; rw [hc]; have H2 := rhide (H1.out.on hb); clear hb H1 x0 x1 x2 x3 x4 x5; have x0 := H2.out.box.c0; have x1 := H2.out.box.c1; have x2 := H2.out.box.c2; have x3 := H2.out.box.c3; have x4 := H2.out.box.c4; have x5 := H2.out.box.c5)
      | fail)
    go_ret
    exact ⟨rfl, rx_same HM.out H2.out.below⟩
  have hk' : ¬ k ≤ 1 := by omega
  have e1 : ptE N M root a k r t l e c floor = roE N M root a floor := by simp [ptE, upB, hk, Pcap.rtB_yes hr]
  have e2 : ptM N M root a k r t l e c floor = if roE N M root a floor = 0 then pM N M (lfF N M root a) (lfI N M root a) k r t l e c else M := by simp [ptM, e1]
  have e3 : roE N M root a floor = 0 → pE N (lfF N M root a) (lfI N M root a) k r t l e c = 0 := fun h => ro_put hr h
  rw [e1, e2]
  clear e1 e2 hr hk
  by_cases hE : roE N M root a floor = 0
  case neg =>
    rw [if_neg hE]
    generalize hEE : roE N M root a floor = E at hE ⊢
    have HEE := rhide hEE
    have hE' : (E != 0) = true := by simp [hE]
    clear e3 hE hEE
    go_enter Tryz.func15, Tryz.ntmps15
    go_upto_region 1 with fail
    generalize w.alloc _ = w1 at HP ⊢
    generalize w.heap.size = D at HP ⊢
    have H1 := rhide HP
    clear HP
    have x0 := H1.out.box.c0
    have x1 := H1.out.box.c1
    have x2 := H1.out.box.c2
    have x3 := H1.out.box.c3
    have x4 := H1.out.box.c4
    have x5 := H1.out.box.c5
    go_wp2_with (first
      | (go_at_call 39; refine (Pcap.rcheck_any k r t l e c _).mono ?_; rintro e2 w2 ⟨rfl, hb⟩; rw [hc]; have H2 := rhide (H1.out.on hb); clear hb H1 x0 x1 x2 x3 x4 x5; have x0 := H2.out.box.c0; have x1 := H2.out.box.c1; have x2 := H2.out.box.c2; have x3 := H2.out.box.c3; have x4 := H2.out.box.c4; have x5 := H2.out.box.c5)
      | (go_at_call 17; refine (rroom_any base q N root a floor M _ H2.out.rx).mono ?_; rintro e3 w3 ⟨rfl, hb⟩; rw [HEE.out]; have H3 := rhide (H2.out.on hb); clear hb H2 x0 x1 x2 x3 x4 x5; have x0 := H3.out.box.c0; have x1 := H3.out.box.c1; have x2 := H3.out.box.c2; have x3 := H3.out.box.c3; have x4 := H3.out.box.c4; have x5 := H3.out.box.c5)
      | fail)
    go_ret
    exact ⟨rfl, rx_same HM.out H3.out.below⟩
  have HE4 := rhide (e3 hE)
  rw [if_pos hE, hE]
  have HEE := rhide hE
  clear e3 hE
  go_enter Tryz.func15, Tryz.ntmps15
  go_upto_region 1 with fail
  generalize w.alloc _ = w1 at HP ⊢
  generalize w.heap.size = D at HP ⊢
  have H1 := rhide HP
  clear HP
  have x0 := H1.out.box.c0
  have x1 := H1.out.box.c1
  have x2 := H1.out.box.c2
  have x3 := H1.out.box.c3
  have x4 := H1.out.box.c4
  have x5 := H1.out.box.c5
  go_wp2_with (first
    | (go_at_call 39; refine (Pcap.rcheck_any k r t l e c _).mono ?_; rintro e2 w2 ⟨rfl, hb⟩; rw [hc]; have H2 := rhide (H1.out.on hb); clear hb H1 x0 x1 x2 x3 x4 x5; have x0 := H2.out.box.c0; have x1 := H2.out.box.c1; have x2 := H2.out.box.c2; have x3 := H2.out.box.c3; have x4 := H2.out.box.c4; have x5 := H2.out.box.c5)
    | (go_at_call 17; refine (rroom_any base q N root a floor M _ H2.out.rx).mono ?_; rintro e3 w3 ⟨rfl, hb⟩; rw [HEE.out]; have H3 := rhide (H2.out.on hb); clear hb H2 x0 x1 x2 x3 x4 x5; have x0 := H3.out.box.c0; have x1 := H3.out.box.c1; have x2 := H3.out.box.c2; have x3 := H3.out.box.c3; have x4 := H3.out.box.c4; have x5 := H3.out.box.c5)
    | (go_at_call 40; refine (leaf_any base q N root a M _ H3.out.rx).mono ?_; rintro e4 w4 ⟨rfl, hb⟩; have H4 := rhide (H3.out.on hb); clear hb H3 x0 x1 x2 x3 x4 x5; have x0 := H4.out.box.c0; have x1 := H4.out.box.c1; have x2 := H4.out.box.c2; have x3 := H4.out.box.c3; have x4 := H4.out.box.c4; have x5 := H4.out.box.c5)
    | (go_at_call 41; refine (kput_any base q N _ _ k r t l e c M _ HM.out.n1 HM.out.n64 H4.out.rx.ref).mono ?_; rintro e5 w5 ⟨rfl, hR, hB, hK⟩; rw [HE4.out]; have H5 := rhide (rx_put HM.out H4.out.below hR (fit_pM HM.out.fit N _ _ _ _ _ _ _ _) hB hK); clear hR hB hK)
    | fail)
  go_ret
  exact ⟨rfl, H5.out⟩

/-! ### Freeze -/
set_option maxRecDepth 100000 in
set_option maxHeartbeats 1000000 in
theorem rfreeze_any (base q N : Nat) (f now : Int) (M : Nat → Nat → Int) (w : World) (h : Rx w base q N M) : Calls Tryz.prog 27 #[.pointer (some ⟨q, 0, none⟩), .int .i64 f, .int .i64 now] w fun x w' => x = .returned (.int .i64 (frE N M f now)) ∧ Rx w' base q N (frM N M f now) ∧ Below base w w' := by
  have HM := rhide h
  cases ht : tiB now
  case false =>
    have e1 : frE N M f now = 1 := by simp [frE, ht]
    have e2 : frM N M f now = M := by simp [frM, e1]
    rw [e1, e2]
    clear h e1 e2
    go_enter Tryz.func27, Tryz.ntmps27
    go_wp2_with (first
      | (go_at_call 49; refine (rtime_any now _).mono ?_; rintro e1 w1 ⟨rfl, hw⟩; subst w1; rw [ht])
      | fail)
    go_ret
    exact ⟨rfl, HM.out, Below.refl _ _⟩
  have HG := rhide (Phead.hrget_any base q N f M w h.n1 h.n64 h.ref h.fit)
  have hfz : Phead.ghE N M f = 0 → Phead.ghK N M f = 1 → Phead.errP N f 1 (Phead.ghL N M f) true now = 0 := fun h1 h2 => frozen_put h1 h2 ht
  have e1 : frE N M f now = if Phead.ghE N M f = 0 ∧ Phead.ghK N M f = 1 then (if Phead.ghZ N M f = true then 10 else 0) else 4 := by simp [frE, ht]
  have e2 : frM N M f now = if frE N M f now = 0 then Phead.putM N M f 1 (Phead.ghL N M f) true now else M := rfl
  rw [e2, e1]
  clear e1 e2 h
  generalize Phead.ghK N M f = K at HG hfz ⊢
  generalize Phead.ghL N M f = L at HG hfz ⊢
  generalize Phead.ghZ N M f = Z at HG ⊢
  generalize Phead.ghT N M f = T at HG ⊢
  generalize Phead.ghE N M f = E at HG hfz ⊢
  by_cases hE : E = 0
  case neg =>
    rw [if_neg (fun h => hE h.1), if_neg (by decide)]
    have hE' : (E != 0) = true := by simp [hE]
    clear hfz
    go_enter Tryz.func27, Tryz.ntmps27
    go_wp2_with (first
      | (go_at_call 49; refine (rtime_any now _).mono ?_; rintro e1 w1 ⟨rfl, hw⟩; subst w1; rw [ht])
      | (go_at_call 58; refine HG.out.mono ?_; rintro e2 w2 ⟨rfl, hb⟩; have H2 := rhide hb; clear hb)
      | fail)
    go_ret
    exact ⟨rfl, (rx_same HM.out (bal H2.out _)).1, (rx_same HM.out (bal H2.out _)).2.1⟩
  subst hE
  by_cases hK : K = 1
  case neg =>
    rw [if_neg (fun h => hK h.2), if_neg (by decide)]
    have hK' : (K != 1) = true := by simp [hK]
    clear hfz
    go_enter Tryz.func27, Tryz.ntmps27
    go_wp2_with (first
      | (go_at_call 49; refine (rtime_any now _).mono ?_; rintro e1 w1 ⟨rfl, hw⟩; subst w1; rw [ht])
      | (go_at_call 58; refine HG.out.mono ?_; rintro e2 w2 ⟨rfl, hb⟩; have H2 := rhide hb; clear hb)
      | fail)
    go_ret
    exact ⟨rfl, (rx_same HM.out (bal H2.out _)).1, (rx_same HM.out (bal H2.out _)).2.1⟩
  subst hK
  cases Z
  case true =>
    simp only [and_self, if_true]
    rw [if_neg (by decide)]
    clear hfz
    go_enter Tryz.func27, Tryz.ntmps27
    go_wp2_with (first
      | (go_at_call 49; refine (rtime_any now _).mono ?_; rintro e1 w1 ⟨rfl, hw⟩; subst w1; rw [ht])
      | (go_at_call 58; refine HG.out.mono ?_; rintro e2 w2 ⟨rfl, hb⟩; have H2 := rhide hb; clear hb)
      | fail)
    go_ret
    exact ⟨rfl, (rx_same HM.out (bal H2.out _)).1, (rx_same HM.out (bal H2.out _)).2.1⟩
  simp only [and_self, if_true, Bool.false_eq_true, if_false]
  have HZ := rhide (hfz rfl rfl)
  clear hfz
  go_enter Tryz.func27, Tryz.ntmps27
  go_wp2_with (first
    | (go_at_call 49; refine (rtime_any now _).mono ?_; rintro e1 w1 ⟨rfl, hw⟩; subst w1; rw [ht])
    | (go_at_call 58; refine HG.out.mono ?_; rintro e2 w2 ⟨rfl, hb⟩; have H2 := rhide hb; clear hb)
    | (go_at_call 61; refine (Phead.hrput_any base q N f 1 L true now M _ HM.out.n1 HM.out.n64 (HM.out.grown (bal H2.out _)).ref).mono ?_; rintro e3 w3 ⟨rfl, hm, hb⟩; rw [HZ.out]; have H3 : Hid (Rx w3 base q N (Phead.putM N M f 1 L true now) ∧ Below base w w3) := ⟨HM.out.turn hm (Phead.fit_put HM.out.fit N f 1 L true now), ((bal H2.out _).mono (rx_le HM.out)).trans hb⟩; clear hm hb)
    | fail)
  go_ret
  exact ⟨rfl, H3.out⟩

/-! ### Cons -/
set_option maxRecDepth 100000 in
set_option maxHeartbeats 1000000 in
theorem rcons_any (base q N : Nat) (root high f floor : Int) (M : Nat → Nat → Int) (w : World) (h : Rx w base q N M) : Calls Tryz.prog 21 #[.pointer (some ⟨q, 0, none⟩), .int .i64 root, .int .i64 high, .int .i64 f, .int .i64 floor] w fun x w' => x = .returned (.int .i64 (coE N M root high f floor)) ∧ Rx w' base q N (coM N M root high f floor) ∧ Below base w w' ∧ Keep w w' := by
  have HM := rhide h
  have e2 : coM N M root high f floor = if coE N M root high f floor = 0 then pM N M root high 3 31 f 0 0 0 else M := rfl
  have e3 : coE N M root high f floor = 0 → pE N root high 3 31 f 0 0 0 = 0 := fun hh => co_put h.n64 hh
  rw [e2]
  clear e2
  cases hs : okS high
  case false =>
    have e1 : coE N M root high f floor = 1 := by simp [coE, hs]
    rw [e1, if_neg (by decide)]
    clear h e1 e3
    rcases okS_no hs with h1 | h1
    · clear hs
      go_enter Tryz.func21, Tryz.ntmps21
      go_wp2
      go_ret
      exact ⟨rfl, rx_same HM.out (Below.refl _ _)⟩
    · clear hs
      have h2 : ¬ high < 0 := by omega
      go_enter Tryz.func21, Tryz.ntmps21
      go_wp2
      go_ret
      exact ⟨rfl, rx_same HM.out (Below.refl _ _)⟩
  obtain ⟨s0, s1⟩ := okS_yes hs
  have s2 : ¬ high < 0 := by omega
  have s3 : ¬ 16 ≤ high := by omega
  have ec : coE N M root high f floor = if tbB N M root 0 = true ∧ tbB N M f 1 = true then if Phead.ghZ N M root = true ∨ Phead.ghZ N M f = true then 6 else if sE N M root high = 0 then if 1 < sC N M root high 0 then 10 else
    if quB (sC N M root high 0) (sC N M root high 5) floor = true then 0 else 6 else sE N M root high else 4 := by simp [coE, hs]
  have HG : Hid (∀ wc, Below w.heap.size w wc → Calls Tryz.prog 42 #[.pointer (some ⟨q, 0, none⟩), .int .i64 root, .int .i64 high] wc fun x w' => x = .returned (.tuple #[.agg #[.int .i64 (sC N M root high 0), .int .i64 (sC N M root high 1), .int .i64 (sC N M root high 2), .int .i64 (sC N M root high 3), .int .i64 (sC N M root high 4), .int .i64 (sC N M root high 5)], .int .i64 (sE N M root high)]) ∧ Below wc.heap.size wc w') := fun wc hb => rsget_any base q N root high M wc h.n1 h.n64 (h.grown hb).ref h.fit
  have HT : Hid (∀ wc, Below w.heap.size w wc → Calls Tryz.prog 55 #[.pointer (some ⟨q, 0, none⟩), .int .i64 root, .int .i64 0] wc fun x w' => x = .returned (.tuple #[.bool (tbB N M root 0), .bool (Phead.ghZ N M root)]) ∧ Below wc.heap.size wc w') := fun wc hb => table_any base q N root 0 M wc (h.grown hb)
  have HU : Hid (∀ wc, Below w.heap.size w wc → Calls Tryz.prog 55 #[.pointer (some ⟨q, 0, none⟩), .int .i64 f, .int .i64 1] wc fun x w' => x = .returned (.tuple #[.bool (tbB N M f 1), .bool (Phead.ghZ N M f)]) ∧ Below wc.heap.size wc w') := fun wc hb => table_any base q N f 1 M wc (h.grown hb)
  rw [ec] at e3 ⊢
  clear hs s0 s1 h ec
  generalize tbB N M root 0 = T1 at HT e3 ⊢
  generalize tbB N M f 1 = T2 at HU e3 ⊢
  generalize Phead.ghZ N M root = Z1 at HT e3 ⊢
  generalize Phead.ghZ N M f = Z2 at HU e3 ⊢
  generalize sC N M root high 0 = C0 at HG e3 ⊢
  generalize sC N M root high 1 = C1 at HG e3 ⊢
  generalize sC N M root high 2 = C2 at HG e3 ⊢
  generalize sC N M root high 3 = C3 at HG e3 ⊢
  generalize sC N M root high 4 = C4 at HG e3 ⊢
  generalize sC N M root high 5 = C5 at HG e3 ⊢
  generalize sE N M root high = S at HG e3 ⊢
  have t1 : True := trivial
  have t2 : True := trivial
  cases T1
  case false =>
    simp only [Bool.false_eq_true, false_and, if_false]
    rw [if_neg (by decide)]
    clear e3
    go_enter Tryz.func21, Tryz.ntmps21
    go_wp2_with (first
      | (go_at_call 55; clear t1; refine (HT.out _ (Below.refl _ _)).mono ?_; rintro e1 w1 ⟨rfl, hb⟩; have H1 := rhide hb; clear hb)
      | (go_at_call 55; clear t2; refine (HU.out _ H1.out).mono ?_; rintro e2 w2 ⟨rfl, hb⟩; have H2 := rhide (H1.out.trans (hb.mono H1.out.size)); clear hb)
      | fail)
    go_ret
    exact ⟨rfl, rx_same HM.out H2.out⟩
  cases T2
  case false =>
    simp only [Bool.false_eq_true, and_false, if_false]
    rw [if_neg (by decide)]
    clear e3
    go_enter Tryz.func21, Tryz.ntmps21
    go_wp2_with (first
      | (go_at_call 55; clear t1; refine (HT.out _ (Below.refl _ _)).mono ?_; rintro e1 w1 ⟨rfl, hb⟩; have H1 := rhide hb; clear hb)
      | (go_at_call 55; clear t2; refine (HU.out _ H1.out).mono ?_; rintro e2 w2 ⟨rfl, hb⟩; have H2 := rhide (H1.out.trans (hb.mono H1.out.size)); clear hb)
      | fail)
    go_ret
    exact ⟨rfl, rx_same HM.out H2.out⟩
  simp only [and_self, if_true] at e3 ⊢
  cases Z1
  case true =>
    simp only [true_or, if_true]
    rw [if_neg (by decide)]
    clear e3
    go_enter Tryz.func21, Tryz.ntmps21
    go_wp2_with (first
      | (go_at_call 55; clear t1; refine (HT.out _ (Below.refl _ _)).mono ?_; rintro e1 w1 ⟨rfl, hb⟩; have H1 := rhide hb; clear hb)
      | (go_at_call 55; clear t2; refine (HU.out _ H1.out).mono ?_; rintro e2 w2 ⟨rfl, hb⟩; have H2 := rhide (H1.out.trans (hb.mono H1.out.size)); clear hb)
      | fail)
    go_ret
    exact ⟨rfl, rx_same HM.out H2.out⟩
  cases Z2
  case true =>
    simp only [or_true, if_true]
    rw [if_neg (by decide)]
    clear e3
    go_enter Tryz.func21, Tryz.ntmps21
    go_wp2_with (first
      | (go_at_call 55; clear t1; refine (HT.out _ (Below.refl _ _)).mono ?_; rintro e1 w1 ⟨rfl, hb⟩; have H1 := rhide hb; clear hb)
      | (go_at_call 55; clear t2; refine (HU.out _ H1.out).mono ?_; rintro e2 w2 ⟨rfl, hb⟩; have H2 := rhide (H1.out.trans (hb.mono H1.out.size)); clear hb)
      | fail)
    go_ret
    exact ⟨rfl, rx_same HM.out H2.out⟩
  simp only [Bool.false_eq_true, or_self, if_false] at e3 ⊢
  by_cases hS : S = 0
  case neg =>
    simp only [if_neg hS]
    have hS' : (S != 0) = true := by simp [hS]
    clear e3
    go_enter Tryz.func21, Tryz.ntmps21
    go_wp2_with (first
      | (go_at_call 55; clear t1; refine (HT.out _ (Below.refl _ _)).mono ?_; rintro e1 w1 ⟨rfl, hb⟩; have H1 := rhide hb; clear hb)
      | (go_at_call 55; clear t2; refine (HU.out _ H1.out).mono ?_; rintro e2 w2 ⟨rfl, hb⟩; have H2 := rhide (H1.out.trans (hb.mono H1.out.size)); clear hb)
      | (go_at_call 42; refine (HG.out _ H2.out).mono ?_; rintro e3 w3 ⟨rfl, hb⟩; have H3 := rhide (H2.out.trans (hb.mono H2.out.size)); clear hb)
      | fail)
    go_ret
    exact ⟨rfl, rx_same HM.out (bal H3.out _)⟩
  subst hS
  simp only [if_true] at e3 ⊢
  by_cases hk : 1 < C0
  case pos =>
    simp only [if_pos hk]
    rw [if_neg (by decide)]
    clear e3
    go_enter Tryz.func21, Tryz.ntmps21
    go_wp2_with (first
      | (go_at_call 55; clear t1; refine (HT.out _ (Below.refl _ _)).mono ?_; rintro e1 w1 ⟨rfl, hb⟩; have H1 := rhide hb; clear hb)
      | (go_at_call 55; clear t2; refine (HU.out _ H1.out).mono ?_; rintro e2 w2 ⟨rfl, hb⟩; have H2 := rhide (H1.out.trans (hb.mono H1.out.size)); clear hb)
      | (go_at_call 42; refine (HG.out _ H2.out).mono ?_; rintro e3 w3 ⟨rfl, hb⟩; have H3 := rhide (H2.out.trans (hb.mono H2.out.size)); clear hb)
      | fail)
    go_ret
    exact ⟨rfl, rx_same HM.out (bal H3.out _)⟩
  simp only [if_neg hk] at e3 ⊢
  obtain ⟨V, hV⟩ : ∃ V, quB C0 C5 floor = V := ⟨_, rfl⟩
  rw [hV] at e3 ⊢
  have HV := rhide hV
  clear hV
  cases V
  · simp only [Bool.false_eq_true, if_false]
    rw [if_neg (by decide)]
    clear e3
    go_enter Tryz.func21, Tryz.ntmps21
    go_wp2_with (first
      | (go_at_call 55; clear t1; refine (HT.out _ (Below.refl _ _)).mono ?_; rintro e1 w1 ⟨rfl, hb⟩; have H1 := rhide hb; clear hb)
      | (go_at_call 55; clear t2; refine (HU.out _ H1.out).mono ?_; rintro e2 w2 ⟨rfl, hb⟩; have H2 := rhide (H1.out.trans (hb.mono H1.out.size)); clear hb)
      | (go_at_call 42; refine (HG.out _ H2.out).mono ?_; rintro e3 w3 ⟨rfl, hb⟩; have H3 := rhide (H2.out.trans (hb.mono H2.out.size)); clear hb)
      | (go_at_call 43; refine (rquiet_any _ _ _ _ _ _ floor _).mono ?_; rintro e4 w4 ⟨rfl, hb⟩; rw [HV.out]; have H4 := rhide ((bal H3.out _).trans (hb.mono (bal H3.out _).size)); clear hb)
      | fail)
    go_ret
    exact ⟨rfl, rx_same HM.out H4.out⟩
  · simp only [if_true] at e3 ⊢
    have HP := rhide (e3 trivial)
    clear e3
    go_enter Tryz.func21, Tryz.ntmps21
    go_wp2_with (first
      | (go_at_call 55; clear t1; refine (HT.out _ (Below.refl _ _)).mono ?_; rintro e1 w1 ⟨rfl, hb⟩; have H1 := rhide hb; clear hb)
      | (go_at_call 55; clear t2; refine (HU.out _ H1.out).mono ?_; rintro e2 w2 ⟨rfl, hb⟩; have H2 := rhide (H1.out.trans (hb.mono H1.out.size)); clear hb)
      | (go_at_call 42; refine (HG.out _ H2.out).mono ?_; rintro e3 w3 ⟨rfl, hb⟩; have H3 := rhide (H2.out.trans (hb.mono H2.out.size)); clear hb)
      | (go_at_call 43; refine (rquiet_any _ _ _ _ _ _ floor _).mono ?_; rintro e4 w4 ⟨rfl, hb⟩; rw [HV.out]; have H4 := rhide ((bal H3.out _).trans (hb.mono (bal H3.out _).size)); clear hb)
      | (go_at_call 41; refine (kput_any base q N root high 3 31 f 0 0 0 M _ HM.out.n1 HM.out.n64 (HM.out.grown H4.out).ref).mono ?_; rintro e5 w5 ⟨rfl, hR, hB, hK⟩; rw [HP.out]; have H5 := rhide (rx_put HM.out H4.out hR (fit_pM HM.out.fit N _ _ _ _ _ _ _ _) hB hK); clear hR hB hK)
      | fail)
    go_ret
    exact ⟨rfl, H5.out⟩
end Go.Proofs.YtgcaodfcodalfaaGreatDoor.Pcaptbl
