/- What the document's Tell, More, Less and Wait of layer 22 answer and do, over its own memory. -/
import Derived.Test.YtcoggdnpjpiacaaGreatDoorRcvS
import Derived.Test.YtcoggdnpjpiacaaGreatDoorBunRing
import Derived.Deep.RegionHeld3
namespace Go.Proofs.YtcoggdnpjpiacaaGreatDoor.Prcv
open Go.Proofs.YtcoggdnpjpiacaaGreatDoor.Pbase Go.Proofs.YtcoggdnpjpiacaaGreatDoor.Pfield Go.Proofs.YtcoggdnpjpiacaaGreatDoor.Play Go.Proofs.YtcoggdnpjpiacaaGreatDoor.Pmem Go.Proofs.YtcoggdnpjpiacaaGreatDoor.Pring
open Go.RowKit M
set_option linter.unusedVariables false

/-- The document's memory, and the endpoint that was read. -/
structure De (w W : World) (base q N : Nat) (M : Nat → Nat → Int) (D : Nat) (x : Rv) : Prop where
  dh : Dh w W base q N M
  row : RowW W D x
  ge : w.heap.size ≤ D
section
variable {w W W' : World} {base q N : Nat} {M M' : Nat → Nat → Int} {D : Nat} {x : Rv}
theorem de_new (h : Dh w W base q N M) (hs : w.heap.size ≤ W.heap.size) (x : Rv) : De w (W.alloc (.cells #[.int .i64 x.th, .int .i64 x.pa, .int .i64 x.co, .bool x.wa, .int .i64 x.lo] 33)) base q N M W.heap.size x := ⟨h.on (bal (Below.refl _ _) _), rowW_new W x, hs⟩
theorem De.on (h : De w W base q N M D x) (hB : Below W.heap.size W W') : De w W' base q N M D x := ⟨h.dh.on hB, h.row.on hB, h.ge⟩
theorem De.turn (h : De w W base q N M D x) (k : Dh W W' base q N M') : De w W' base q N M' D x := ⟨h.dh.trans k, h.row.keep k.kp.t, h.ge⟩
theorem De.set2 (h : De w W base q N M D x) (hb : base ≤ w.heap.size) (v : Int) : De w (W.setCell ⟨D, 2, none⟩ (.int .i64 v)) base q N M D ⟨x.th, x.pa, v, x.wa, x.lo⟩ := ⟨h.dh.set h.row.c0 h.ge hb 2 _, h.row.set2 v, h.ge⟩
theorem De.set3 (h : De w W base q N M D x) (hb : base ≤ w.heap.size) (v : Bool) : De w (W.setCell ⟨D, 3, none⟩ (.bool v)) base q N M D ⟨x.th, x.pa, x.co, v, x.lo⟩ := ⟨h.dh.set h.row.c0 h.ge hb 3 _, h.row.set3 v, h.ge⟩
theorem De.set4 (h : De w W base q N M D x) (hb : base ≤ w.heap.size) (v : Int) : De w (W.setCell ⟨D, 4, none⟩ (.int .i64 v)) base q N M D ⟨x.th, x.pa, x.co, x.wa, v⟩ := ⟨h.dh.set h.row.c0 h.ge hb 4 _, h.row.set4 v, h.ge⟩
end
/-- Putting back a right endpoint into a frame that is one's. -/
theorem vput_at (w : World) (base q N : Nat) (f : Int) (M : Nat → Nat → Int) (x : Rv) (hi : Phead.isE N M f 6 = 0) (hx : Vo x) (D : Nat) (wc : World) (h : De w wc base q N M D x) : Calls Tryz.prog 19 #[.pointer (some ⟨q, 0, none⟩), .int .i64 f, .agg #[.int .i64 x.th, .int .i64 x.pa, .int .i64 x.co, .bool x.wa, .int .i64 x.lo]] wc fun e w' => e = .returned (.int .i64 0) ∧ De w w' base q N (layF N M f x.ws) D x := by
  have := vput_any base q N f x M wc h.dh.rx
  obtain ⟨e1, e2⟩ := vp_ok hi hx
  rw [e1, e2] at this
  exact this.mono fun e w' ⟨q1, q2⟩ => ⟨q1, h.turn q2⟩
/-! ### More -/
set_option maxRecDepth 100000 in
set_option maxHeartbeats 2000000 in
theorem vmore_any (base q N : Nat) (f : Int) (M : Nat → Nat → Int) (w : World) (h : Rx w base q N M) :
    Calls Tryz.prog 23 #[.pointer (some ⟨q, 0, none⟩), .int .i64 f] w fun e w' => e = .returned (.tuple #[.bool (moB N M f), .int .i64 (vgE N M f)]) ∧ Dh w w' base q N (moM N M f) := by
  have H0 := rhide (dh_self h)
  have HBs := rhide h.le
  have HG : Hid (∀ wc, Dh w wc base q N M → Calls Tryz.prog 7 #[.pointer (some ⟨q, 0, none⟩), .int .i64 f] wc fun e w' => e = .returned (.tuple #[.agg #[.int .i64 (vgX N M f).th, .int .i64 (vgX N M f).pa, .int .i64 (vgX N M f).co, .bool (vgX N M f).wa, .int .i64 (vgX N M f).lo], .int .i64 (vgE N M f)]) ∧ Below wc.heap.size wc w') := fun wc h => vget_any base q N f M wc h.rx
  clear h
  by_cases hg : vgE N M f = 0
  · obtain ⟨hi, _, hv, hx⟩ := vg_yes hg
    have e1 : moB N M f = (rvOf M f).wa := by unfold moB; rw [if_pos hg]
    have e2 : moM N M f = layF N M f (moreX (rvOf M f)).ws := by unfold moM; rw [if_pos hg]
    rw [e1, e2, hg]
    rw [hg, hx] at HG
    have HP : Hid (∀ D wc, De w wc base q N M D (moreX (rvOf M f)) → Calls Tryz.prog 19 #[.pointer (some ⟨q, 0, none⟩), .int .i64 f, .agg #[.int .i64 (moreX (rvOf M f)).th, .int .i64 (moreX (rvOf M f)).pa, .int .i64 (moreX (rvOf M f)).co, .bool (moreX (rvOf M f)).wa, .int .i64 (moreX (rvOf M f)).lo]] wc fun e w' => e = .returned (.int .i64 0) ∧ De w w' base q N (layF N M f (moreX (rvOf M f)).ws) D (moreX (rvOf M f))) := fun D wc h => vput_at w base q N f M _ hi (more_vo hv) D wc h
    have hc := hv.2.2.1
    generalize layF N M f (moreX (rvOf M f)).ws = M1 at HP ⊢
    generalize rvOf M f = x at HG HP hc ⊢
    unfold moreX at HP
    dsimp only at HP
    have d1 : wrap64 (x.co + 1) = x.co + 1 := by unfold wrap64; omega
    obtain ⟨s, hs⟩ : ∃ s, (if 255 < x.co + 1 then 255 else x.co + 1) = s := ⟨_, rfl⟩
    have HS := rhide hs
    unfold satI at HP
    rw [hs] at HP
    clear e1 e2 hg hi hv hx hs hc
    go_enter Tryz.func23, Tryz.ntmps23
    go_upto_region 4 with (first
      | (go_at_call 7; refine (HG.out _ H0.out).mono ?_; rintro e1 w1 ⟨rfl, hb⟩; have H1 := rhide (de_new (H0.out.on hb) hb.size x); clear hb HG H0)
      | fail)
    generalize w1.alloc _ = v1 at H1 ⊢
    generalize w1.heap.size = D at H1 ⊢
    have y2 := H1.out.row.c2
    have z2 := H1.out.row.fz 2
    go_upto_region 5 with fail
    rw [HS.out]
    have H2 := rhide (H1.out.set2 HBs.out s)
    clear H1 y2 z2 HS
    generalize v1.setCell _ _ = v2 at H2 ⊢
    have x0 := H2.out.row.c0
    have x1 := H2.out.row.c1
    have x2 := H2.out.row.c2
    have x3 := H2.out.row.c3
    have x4 := H2.out.row.c4
    go_region_held3 (fun w' => w'.cell? ⟨D, 0, none⟩ = some (.int .i64 x.th) ∧ w'.cell? ⟨D, 1, none⟩ = some (.int .i64 x.pa) ∧ w'.cell? ⟨D, 2, none⟩ = some (.int .i64 s) ∧ w'.cell? ⟨D, 3, none⟩ = some (.bool x.wa) ∧ w'.cell? ⟨D, 4, none⟩ = some (.int .i64 x.lo)) (first | (refine ⟨?_, ?_, ?_, ?_, ?_⟩ <;> with_reducible assumption) | go_keep)
    (first
      | (go_at_call 19; refine (HP.out _ _ (by first | exact H2.out | exact H2.out.on (Below.refl _ _).drew)).mono ?_; rintro e3 w3 ⟨rfl, hd⟩; have H3 := rhide hd; clear hd HP H2 x0 x1 x2 x3 x4; have x0 := H3.out.row.c0; have x1 := H3.out.row.c1; have x2 := H3.out.row.c2; have x3 := H3.out.row.c3; have x4 := H3.out.row.c4)
      | fail)
    all_goals
      go_wp2
      go_ret2
      first | exact ⟨rfl, H3.out.dh⟩ | exact ⟨rfl, H3.out.dh.on (Below.refl _ _).drew⟩
  · have e1 : moB N M f = false := by unfold moB; rw [if_neg hg]
    have e2 : moM N M f = M := by unfold moM; rw [if_neg hg]
    rw [e1, e2]
    rw [vg_no hg] at HG
    generalize vgE N M f = E at HG hg ⊢
    have hE : (E != 0) = true := by simp [hg]
    clear e1 e2 hg
    go_enter Tryz.func23, Tryz.ntmps23
    go_wp2_with (first
      | (go_at_call 7; refine (HG.out _ H0.out).mono ?_; rintro e1 w1 ⟨rfl, hb⟩; have H1 := rhide ((H0.out.on hb).on (bal (Below.refl _ _) (.cells #[.int .i64 0, .int .i64 0, .int .i64 0, .bool false, .int .i64 0] 33))); clear hb HG H0)
      | fail)
    go_ret2
    exact ⟨rfl, H1.out⟩
/-! ### Less -/
set_option maxRecDepth 100000 in
set_option maxHeartbeats 2000000 in
theorem vless_any (base q N : Nat) (f : Int) (M : Nat → Nat → Int) (w : World) (h : Rx w base q N M) :
    Calls Tryz.prog 25 #[.pointer (some ⟨q, 0, none⟩), .int .i64 f] w fun e w' => e = .returned (.tuple #[.bool (leB N M f), .int .i64 (vgE N M f)]) ∧ Dh w w' base q N (leM N M f) := by
  have H0 := rhide (dh_self h)
  have HBs := rhide h.le
  have HG : Hid (∀ wc, Dh w wc base q N M → Calls Tryz.prog 7 #[.pointer (some ⟨q, 0, none⟩), .int .i64 f] wc fun e w' => e = .returned (.tuple #[.agg #[.int .i64 (vgX N M f).th, .int .i64 (vgX N M f).pa, .int .i64 (vgX N M f).co, .bool (vgX N M f).wa, .int .i64 (vgX N M f).lo], .int .i64 (vgE N M f)]) ∧ Below wc.heap.size wc w') := fun wc h => vget_any base q N f M wc h.rx
  clear h
  by_cases hg : vgE N M f = 0
  · obtain ⟨hi, _, hv, hx⟩ := vg_yes hg
    rw [hg, hx] at HG
    by_cases h0 : (rvOf M f).co = 0
    · have e1 : leB N M f = false := by unfold leB; simp [h0]
      have e2 : leM N M f = M := by unfold leM; rw [if_neg (by rw [e1]; decide)]
      rw [e1, e2, hg]
      rw [h0] at HG
      generalize rvOf M f = x at HG
      clear e1 e2 hg hi hv hx h0
      go_enter Tryz.func25, Tryz.ntmps25
      go_wp2_with (first
        | (go_at_call 7; refine (HG.out _ H0.out).mono ?_; rintro e1 w1 ⟨rfl, hb⟩; have H1 := rhide ((H0.out.on hb).on (bal (Below.refl _ _) (.cells #[.int .i64 x.th, .int .i64 x.pa, .int .i64 0, .bool x.wa, .int .i64 x.lo] 33))); clear hb HG H0)
        | fail)
      go_ret2
      exact ⟨rfl, H1.out⟩
    · have e1 : leB N M f = true := by unfold leB; simp [h0, hg]
      have e2 : leM N M f = layF N M f (lessX (rvOf M f)).ws := by unfold leM; rw [if_pos e1]
      rw [e1, e2, hg]
      have HP : Hid (∀ D wc, De w wc base q N M D (lessX (rvOf M f)) → Calls Tryz.prog 19 #[.pointer (some ⟨q, 0, none⟩), .int .i64 f, .agg #[.int .i64 (lessX (rvOf M f)).th, .int .i64 (lessX (rvOf M f)).pa, .int .i64 (lessX (rvOf M f)).co, .bool (lessX (rvOf M f)).wa, .int .i64 (lessX (rvOf M f)).lo]] wc fun e w' => e = .returned (.int .i64 0) ∧ De w w' base q N (layF N M f (lessX (rvOf M f)).ws) D (lessX (rvOf M f))) := fun D wc h => vput_at w base q N f M _ hi (less_vo hv h0) D wc h
      have hc := hv.2.2.1
      generalize layF N M f (lessX (rvOf M f)).ws = M1 at HP ⊢
      generalize rvOf M f = x at HG HP hc h0 ⊢
      unfold lessX at HP
      dsimp only at HP
      have d1 : wrap64 (x.co - 1) = x.co - 1 := by unfold wrap64; omega
      have hn0 : (x.co == 0) = false := by simp [h0]
      clear e1 e2 hg hi hv hx hc h0
      go_enter Tryz.func25, Tryz.ntmps25
      go_upto_region 4 with (first
        | (go_at_call 7; refine (HG.out _ H0.out).mono ?_; rintro e1 w1 ⟨rfl, hb⟩; have H1 := rhide (de_new (H0.out.on hb) hb.size x); clear hb HG H0)
        | fail)
      generalize w1.alloc _ = v1 at H1 ⊢
      generalize w1.heap.size = D at H1 ⊢
      have y2 := H1.out.row.c2
      have z2 := H1.out.row.fz 2
      go_upto_region 5 with fail
      have H2 := rhide (H1.out.set2 HBs.out (x.co - 1))
      clear H1 y2 z2
      generalize v1.setCell _ _ = v2 at H2 ⊢
      have x0 := H2.out.row.c0
      have x1 := H2.out.row.c1
      have x2 := H2.out.row.c2
      have x3 := H2.out.row.c3
      have x4 := H2.out.row.c4
      go_wp2_with (first
        | (go_at_call 19; refine (HP.out _ _ H2.out).mono ?_; rintro e3 w3 ⟨rfl, hd⟩; have H3 := rhide hd; clear hd HP H2)
        | fail)
      go_ret2
      exact ⟨rfl, H3.out.dh⟩
  · have e1 : leB N M f = false := by unfold leB; simp [hg]
    have e2 : leM N M f = M := by unfold leM; rw [if_neg (by rw [e1]; decide)]
    rw [e1, e2]
    rw [vg_no hg] at HG
    generalize vgE N M f = E at HG hg ⊢
    have hE : (E != 0) = true := by simp [hg]
    clear e1 e2 hg
    go_enter Tryz.func25, Tryz.ntmps25
    go_wp2_with (first
      | (go_at_call 7; refine (HG.out _ H0.out).mono ?_; rintro e1 w1 ⟨rfl, hb⟩; have H1 := rhide ((H0.out.on hb).on (bal (Below.refl _ _) (.cells #[.int .i64 0, .int .i64 0, .int .i64 0, .bool false, .int .i64 0] 33))); clear hb HG H0)
      | fail)
    go_ret2
    exact ⟨rfl, H1.out⟩
/-! ### Wait -/
set_option maxRecDepth 100000 in
set_option maxHeartbeats 2000000 in
theorem vwait_any (base q N : Nat) (f : Int) (b : Bool) (M : Nat → Nat → Int) (w : World) (h : Rx w base q N M) :
    Calls Tryz.prog 27 #[.pointer (some ⟨q, 0, none⟩), .int .i64 f, .bool b] w fun e w' => e = .returned (.int .i64 (vgE N M f)) ∧ Dh w w' base q N (waM N M f b) := by
  have H0 := rhide (dh_self h)
  have HBs := rhide h.le
  have HG : Hid (∀ wc, Dh w wc base q N M → Calls Tryz.prog 7 #[.pointer (some ⟨q, 0, none⟩), .int .i64 f] wc fun e w' => e = .returned (.tuple #[.agg #[.int .i64 (vgX N M f).th, .int .i64 (vgX N M f).pa, .int .i64 (vgX N M f).co, .bool (vgX N M f).wa, .int .i64 (vgX N M f).lo], .int .i64 (vgE N M f)]) ∧ Below wc.heap.size wc w') := fun wc h => vget_any base q N f M wc h.rx
  clear h
  by_cases hg : vgE N M f = 0
  · obtain ⟨hi, _, hv, hx⟩ := vg_yes hg
    have e2 : waM N M f b = layF N M f (waitX (rvOf M f) b).ws := by unfold waM; rw [if_pos hg]
    rw [e2, hg]
    rw [hg, hx] at HG
    have HP : Hid (∀ D wc, De w wc base q N M D (waitX (rvOf M f) b) → Calls Tryz.prog 19 #[.pointer (some ⟨q, 0, none⟩), .int .i64 f, .agg #[.int .i64 (waitX (rvOf M f) b).th, .int .i64 (waitX (rvOf M f) b).pa, .int .i64 (waitX (rvOf M f) b).co, .bool (waitX (rvOf M f) b).wa, .int .i64 (waitX (rvOf M f) b).lo]] wc fun e w' => e = .returned (.int .i64 0) ∧ De w w' base q N (layF N M f (waitX (rvOf M f) b).ws) D (waitX (rvOf M f) b)) := fun D wc h => vput_at w base q N f M _ hi (wait_vo hv b) D wc h
    generalize layF N M f (waitX (rvOf M f) b).ws = M1 at HP ⊢
    generalize rvOf M f = x at HG HP
    unfold waitX at HP
    dsimp only at HP
    clear e2 hg hi hv hx
    go_enter Tryz.func27, Tryz.ntmps27
    go_upto_region 4 with (first
      | (go_at_call 7; refine (HG.out _ H0.out).mono ?_; rintro e1 w1 ⟨rfl, hb⟩; have H1 := rhide (de_new (H0.out.on hb) hb.size x); clear hb HG H0)
      | fail)
    generalize w1.alloc _ = v1 at H1 ⊢
    generalize w1.heap.size = D at H1 ⊢
    have y3 := H1.out.row.c3
    have z3 := H1.out.row.fz 3
    go_upto_region 5 with fail
    have H2 := rhide (H1.out.set3 HBs.out b)
    clear H1 y3 z3
    generalize v1.setCell _ _ = v2 at H2 ⊢
    have x0 := H2.out.row.c0
    have x1 := H2.out.row.c1
    have x2 := H2.out.row.c2
    have x3 := H2.out.row.c3
    have x4 := H2.out.row.c4
    go_wp2_with (first
      | (go_at_call 19; refine (HP.out _ _ H2.out).mono ?_; rintro e3 w3 ⟨rfl, hd⟩; have H3 := rhide hd; clear hd HP H2)
      | fail)
    go_ret
    exact ⟨rfl, H3.out.dh⟩
  · have e2 : waM N M f b = M := by unfold waM; rw [if_neg hg]
    rw [e2]
    rw [vg_no hg] at HG
    generalize vgE N M f = E at HG hg ⊢
    have hE : (E != 0) = true := by simp [hg]
    clear e2 hg
    go_enter Tryz.func27, Tryz.ntmps27
    go_wp2_with (first
      | (go_at_call 7; refine (HG.out _ H0.out).mono ?_; rintro e1 w1 ⟨rfl, hb⟩; have H1 := rhide ((H0.out.on hb).on (bal (Below.refl _ _) (.cells #[.int .i64 0, .int .i64 0, .int .i64 0, .bool false, .int .i64 0] 33))); clear hb HG H0)
      | fail)
    go_ret
    exact ⟨rfl, H1.out⟩
/-! ### Tell -/
/-- And the event that was handed in. -/
structure Df (w W : World) (base q N : Nat) (M : Nat → Nat → Int) (e : Ev) : Prop where
  dh : Dh w W base q N M
  box : RowE W w.heap.size e
theorem df_new {w : World} {base q N : Nat} {M : Nat → Nat → Int} (h : Rx w base q N M) (e : Ev) : Df w (w.alloc (.cells #[.int .i64 e.k, .int .i64 e.t] 35)) base q N M e := ⟨(dh_self h).on (bal (Below.refl _ _) _), rowE_new w e⟩
theorem Df.on {w W W' : World} {base q N : Nat} {M : Nat → Nat → Int} {e : Ev} (h : Df w W base q N M e) (hB : Below W.heap.size W W') : Df w W' base q N M e := ⟨h.dh.on hB, h.box.on hB⟩
set_option maxRecDepth 100000 in
set_option maxHeartbeats 4000000 in
theorem vtell_any (base q N : Nat) (f : Int) (e : Ev) (M : Nat → Nat → Int) (w : World) (h : Rx w base q N M) :
    Calls Tryz.prog 21 #[.pointer (some ⟨q, 0, none⟩), .int .i64 f, .agg #[.int .i64 e.k, .int .i64 e.t]] w fun x w' => x = .returned (.int .i64 (tlE N M f e)) ∧ Dh w w' base q N (tlM N M f e) := by
  have H0 := rhide (df_new h e)
  have HBs := rhide h.le
  have HC : Hid (∀ wc, Calls Tryz.prog 49 #[.agg #[.int .i64 e.k, .int .i64 e.t]] wc fun x w' => x = .returned (.int .i64 (ckE e)) ∧ Below wc.heap.size wc w') := fun wc => rcheck_any e wc
  have HG : Hid (∀ wc, Df w wc base q N M e → Calls Tryz.prog 7 #[.pointer (some ⟨q, 0, none⟩), .int .i64 f] wc fun x w' => x = .returned (.tuple #[.agg #[.int .i64 (vgX N M f).th, .int .i64 (vgX N M f).pa, .int .i64 (vgX N M f).co, .bool (vgX N M f).wa, .int .i64 (vgX N M f).lo], .int .i64 (vgE N M f)]) ∧ Below wc.heap.size wc w') := fun wc h => vget_any base q N f M wc h.dh.rx
  clear h
  by_cases he : Eo e
  case neg =>
    obtain ⟨e1, e2⟩ := tl_arg N M f he
    rw [e1, e2]
    rw [ck_no he] at HC
    clear e1 e2 he HG
    go_enter Tryz.func21, Tryz.ntmps21
    go_wp2_with (first
      | (go_at_call 49; refine (HC.out _).mono ?_; rintro x1 w1 ⟨rfl, hb⟩; have H1 := rhide (H0.out.on hb); clear hb HC H0)
      | fail)
    go_ret
    exact ⟨rfl, H1.out.dh⟩
  case pos =>
  rw [ck_yes he] at HC
  by_cases hg : vgE N M f = 0
  case neg =>
    obtain ⟨e1, e2⟩ := tl_get he hg
    rw [e1, e2]
    rw [vg_no hg] at HG
    generalize vgE N M f = E at HG hg ⊢
    have hE : (E != 0) = true := by simp [hg]
    clear e1 e2 he hg
    go_enter Tryz.func21, Tryz.ntmps21
    go_wp2_with (first
      | (go_at_call 49; refine (HC.out _).mono ?_; rintro x1 w1 ⟨rfl, hb⟩; have H1 := rhide (H0.out.on hb); clear hb HC H0)
      | (go_at_call 7; refine (HG.out _ H1.out).mono ?_; rintro x2 w2 ⟨rfl, hb⟩; have H2 := rhide ((H1.out.on hb).on (bal (Below.refl _ _) (.cells #[.int .i64 0, .int .i64 0, .int .i64 0, .bool false, .int .i64 0] 33))); clear hb HG H1)
      | fail)
    go_ret
    exact ⟨rfl, H2.out.dh⟩
  case pos =>
  obtain ⟨hi, _, hv, hx⟩ := vg_yes hg
  rw [hg, hx] at HG
  have HPu : Hid (∀ D x wc, De w wc base q N M D x → Calls Tryz.prog 50 #[.pointer (some ⟨q, 0, none⟩), .int .i64 f, .agg #[.int .i64 e.k, .int .i64 e.t]] wc fun y w' => y = .returned (.int .i64 (Pring.puE N M f e)) ∧ De w w' base q N (Pring.puM N M f e) D x) := fun D x wc h => (Pring.rput_any base q N f e M wc h.dh.rx).mono fun y w' ⟨q1, q2⟩ => ⟨q1, h.turn q2⟩
  by_cases hp : Pring.puE N M f e = 2
  · obtain ⟨e1, e2⟩ := tl_full he hg hp
    have em : Pring.puM N M f e = M := by unfold Pring.puM; rw [if_neg (by rw [hp]; decide)]
    rw [e1, e2]
    rw [hp, em] at HPu
    have HP : Hid (∀ D wc, De w wc base q N M D (lostX (rvOf M f)) → Calls Tryz.prog 19 #[.pointer (some ⟨q, 0, none⟩), .int .i64 f, .agg #[.int .i64 (lostX (rvOf M f)).th, .int .i64 (lostX (rvOf M f)).pa, .int .i64 (lostX (rvOf M f)).co, .bool (lostX (rvOf M f)).wa, .int .i64 (lostX (rvOf M f)).lo]] wc fun e w' => e = .returned (.int .i64 0) ∧ De w w' base q N (layF N M f (lostX (rvOf M f)).ws) D (lostX (rvOf M f))) := fun D wc h => vput_at w base q N f M _ hi (lost_vo hv) D wc h
    have hc := hv.2.2.2
    generalize layF N M f (lostX (rvOf M f)).ws = M1 at HP ⊢
    generalize rvOf M f = x at HG HP hc
    unfold lostX at HP
    dsimp only at HP
    have d1 : wrap64 (x.lo + 1) = x.lo + 1 := by unfold wrap64; omega
    obtain ⟨s, hs⟩ : ∃ s, (if 255 < x.lo + 1 then 255 else x.lo + 1) = s := ⟨_, rfl⟩
    have HS := rhide hs
    unfold satI at HP
    rw [hs] at HP
    clear e1 e2 em he hg hi hv hx hs hc hp
    go_enter Tryz.func21, Tryz.ntmps21
    go_upto_region 5 with (first
      | (go_at_call 49; refine (HC.out _).mono ?_; rintro x1 w1 ⟨rfl, hb⟩; have H1 := rhide (H0.out.on hb); clear hb HC H0)
      | (go_at_call 7; refine (HG.out _ H1.out).mono ?_; rintro x2 w2 ⟨rfl, hb⟩; have H2 := rhide (And.intro (de_new (H1.out.on hb).dh (Nat.le_trans (Nat.le_of_lt H1.out.box.lt) hb.size) x) ((H1.out.on hb).on (bal (Below.refl _ _) (.cells #[.int .i64 x.th, .int .i64 x.pa, .int .i64 x.co, .bool x.wa, .int .i64 x.lo] 33)))); clear hb HG H1)
      | fail)
    generalize w2.alloc _ = v2 at H2 ⊢
    generalize w2.heap.size = D at H2 ⊢
    have b0 := H2.out.2.box.c0
    have b1 := H2.out.2.box.c1
    go_upto_region 10 with (first
      | (go_at_call 50; refine (HPu.out _ _ _ H2.out.1).mono ?_; rintro x3 w3 ⟨rfl, hd⟩; have H3 := rhide hd; clear hd HPu H2 b0 b1)
      | fail)
    have y4 := H3.out.row.c4
    have z4 := H3.out.row.fz 4
    go_upto_region 11 with fail
    rw [HS.out]
    have H4 := rhide (H3.out.set4 HBs.out s)
    clear H3 y4 z4 HS
    generalize w3.setCell _ _ = v4 at H4 ⊢
    have x0 := H4.out.row.c0
    have x1 := H4.out.row.c1
    have x2 := H4.out.row.c2
    have x3 := H4.out.row.c3
    have x4 := H4.out.row.c4
    go_wp2_with (first
      | (go_at_call 19; refine (HP.out _ _ H4.out).mono ?_; rintro x5 w5 ⟨rfl, hd⟩; have H5 := rhide hd; clear hd HP H4)
      | fail)
    go_ret
    exact ⟨rfl, H5.out.dh⟩
  · obtain ⟨e1, e2⟩ := tl_put he hg hp
    rw [e1, e2]
    generalize Pring.puM N M f e = M1 at HPu ⊢
    generalize Pring.puE N M f e = E at HPu hp ⊢
    generalize rvOf M f = x at HG
    have hE : (E != 2) = true := by simp [hp]
    clear e1 e2 he hg hi hv hx hp
    go_enter Tryz.func21, Tryz.ntmps21
    go_upto_region 5 with (first
      | (go_at_call 49; refine (HC.out _).mono ?_; rintro x1 w1 ⟨rfl, hb⟩; have H1 := rhide (H0.out.on hb); clear hb HC H0)
      | (go_at_call 7; refine (HG.out _ H1.out).mono ?_; rintro x2 w2 ⟨rfl, hb⟩; have H2 := rhide (And.intro (de_new (H1.out.on hb).dh (Nat.le_trans (Nat.le_of_lt H1.out.box.lt) hb.size) x) ((H1.out.on hb).on (bal (Below.refl _ _) (.cells #[.int .i64 x.th, .int .i64 x.pa, .int .i64 x.co, .bool x.wa, .int .i64 x.lo] 33)))); clear hb HG H1)
      | fail)
    generalize w2.alloc _ = v2 at H2 ⊢
    generalize w2.heap.size = D at H2 ⊢
    have b0 := H2.out.2.box.c0
    have b1 := H2.out.2.box.c1
    go_wp2_with (first
      | (go_at_call 50; refine (HPu.out _ _ _ H2.out.1).mono ?_; rintro x3 w3 ⟨rfl, hd⟩; have H3 := rhide hd; clear hd HPu H2 b0 b1)
      | fail)
    go_ret
    exact ⟨rfl, H3.out.dh⟩
end Go.Proofs.YtcoggdnpjpiacaaGreatDoor.Prcv
