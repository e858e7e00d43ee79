/- What the document's Put, Take and All of layer 21 answer and do, over its own memory. -/
import Derived.Test.YtdplailaolfpkaaDoorRngR
import Derived.Test.YtdplailaolfpkaaDoorRngE
import Derived.Deep.RegionWith
namespace Go.Proofs.YtdplailaolfpkaaDoor.Pring
open Go.Proofs.YtdplailaolfpkaaDoor.Pbase Go.Proofs.YtdplailaolfpkaaDoor.Pfield Go.Proofs.YtdplailaolfpkaaDoor.Play Go.Proofs.YtdplailaolfpkaaDoor.Pmem
open Go.RowKit M
set_option linter.unusedVariables false

theorem tmod8 {a : Int} (h : 0 ≤ a) : a.tmod 8 = a % 8 := Int.tmod_eq_emod_of_nonneg h
/-! ### Put -/
set_option maxRecDepth 100000 in
set_option maxHeartbeats 2000000 in
theorem rput_any (base q N : Nat) (f : Int) (x : Ev) (M : Nat → Nat → Int) (w : World) (h : Rx w base q N M) : Calls Tryd.prog 12 #[.pointer (some ⟨q, 0, none⟩), .int .i64 f, .agg #[.int .i64 x.k, .int .i64 x.t]] w fun e w' => e = .returned (.int .i64 (puE N M f x)) ∧ Dh w w' base q N (puM N M f x) := by
  have H0 : Hid (Dh w (w.alloc (.cells #[.int .i64 x.k, .int .i64 x.t] 32)) base q N M) := (dh_self h).on (bal (Below.refl _ _) _)
  have HW : Hid (∀ wc, Calls Tryd.prog 20 #[.agg #[.int .i64 x.k, .int .i64 x.t]] wc fun e w' => e = .returned (.tuple #[.int .u64 (wdW x), .int .i64 (ckE x)]) ∧ Below wc.heap.size wc w') := fun wc => rword_any x wc
  have HP : Hid (∀ wc, Dh w wc base q N M → Calls Tryd.prog 37 #[.pointer (some ⟨q, 0, none⟩), .int .i64 f] wc fun e w' => e = .returned (.tuple #[.int .i64 (zif (plE N M f) (bgI M f)), .int .i64 (zif (plE N M f) (cnI M f)), .int .i64 (plE N M f)]) ∧ Below wc.heap.size wc w') := fun wc hd => rplaces_any base q N f M wc hd.rx
  have hF := h.fit
  clear h
  by_cases hx : Eo x
  case neg =>
    obtain ⟨e1, e2⟩ := pu_arg N M f hx
    rw [e1, e2]
    rw [wd_no hx, ck_no hx] at HW
    clear e1 e2 hx hF HP
    go_enter Tryd.func12, Tryd.ntmps12
    go_wp2_with (first
      | (go_at_call 20; refine (HW.out _).mono ?_; rintro e1 w1 ⟨rfl, hb⟩; have H1 := rhide (H0.out.on hb); clear hb HW H0)
      | fail)
    go_ret
    exact ⟨rfl, H1.out⟩
  case pos =>
  rw [wd_yes hx, ck_yes hx] at HW
  by_cases hp : plE N M f = 0
  case neg =>
    obtain ⟨e1, e2⟩ := pu_pl hx hp
    rw [e1, e2]
    rw [zif_no hp, zif_no hp] at HP
    generalize plE N M f = E at HP hp ⊢
    generalize ewd x = z at HW
    have hE : (E != 0) = true := by simp [hp]
    clear e1 e2 hx hF hp
    go_enter Tryd.func12, Tryd.ntmps12
    go_wp2_with (first
      | (go_at_call 20; refine (HW.out _).mono ?_; rintro e1 w1 ⟨rfl, hb⟩; have H1 := rhide (H0.out.on hb); clear hb HW H0)
      | (go_at_call 37; refine (HP.out _ H1.out).mono ?_; rintro e2 w2 ⟨rfl, hb⟩; have H2 := rhide (H1.out.on hb); clear hb HP H1)
      | fail)
    go_ret
    exact ⟨rfl, H2.out⟩
  case pos =>
  obtain ⟨_, hf, ha, hn⟩ := pl_yes hF hp
  rw [hp, zif_yes, zif_yes] at HP
  by_cases hc : cnI M f = 8
  · obtain ⟨e1, e2⟩ := pu_full hx hp hc
    rw [e1, e2]
    rw [hc] at HP
    generalize bgI M f = a at HP
    generalize ewd x = z at HW
    clear e1 e2 hx hF hp hc ha hn hf
    go_enter Tryd.func12, Tryd.ntmps12
    go_wp2_with (first
      | (go_at_call 20; refine (HW.out _).mono ?_; rintro e1 w1 ⟨rfl, hb⟩; have H1 := rhide (H0.out.on hb); clear hb HW H0)
      | (go_at_call 37; refine (HP.out _ H1.out).mono ?_; rintro e2 w2 ⟨rfl, hb⟩; have H2 := rhide (H1.out.on hb); clear hb HP H1)
      | fail)
    go_ret
    exact ⟨rfl, H2.out⟩
  · obtain ⟨e1, e2⟩ := pu_ok hx hp hc
    rw [e1, e2]
    have HS0 : Hid (∀ wc, Dh w wc base q N M → Calls Tryd.prog 28 #[.pointer (some ⟨q, 0, none⟩), .int .i64 f, .int .i64 (14 + (bgI M f + cnI M f) % 8), .int .u64 (ewd x)] wc fun e w' => e = .returned (.int .i64 0) ∧ Dh w w' base q N (stW N M f (14 + (bgI M f + cnI M f) % 8) (ewd x))) := fun wc hd => (rst_at w base q N f M hf _ (by omega) _ (ewd_bd hx) wc hd).mono fun e w' ⟨q1, q2, _⟩ => ⟨q1, q2⟩
    have HS1 : Hid (∀ wc M1, Dh w wc base q N M1 → Calls Tryd.prog 28 #[.pointer (some ⟨q, 0, none⟩), .int .i64 f, .int .i64 13, .int .u64 (cnI M f + 1)] wc fun e w' => e = .returned (.int .i64 0) ∧ Dh w w' base q N (stW N M1 f 13 (cnI M f + 1))) := fun wc M1 hd => (rst_at w base q N f M1 hf 13 (by omega) _ (by omega) wc hd).mono fun e w' ⟨q1, q2, _⟩ => ⟨q1, q2⟩
    generalize bgI M f = a at HP HS0 ha ⊢
    generalize cnI M f = n at HP HS0 HS1 hn hc ⊢
    generalize ewd x = z at HW HS0 ⊢
    have d1 : wrap64 (a + n) = a + n := by unfold wrap64; omega
    have d2 : (a + n).tmod 8 = (a + n) % 8 := tmod8 (by omega)
    have d3 : wrap64 (14 + (a + n) % 8) = 14 + (a + n) % 8 := by unfold wrap64; omega
    have d4 : wrap64 (n + 1) = n + 1 := by unfold wrap64; omega
    have d5 : IntKind.u64.wrap (n + 1) = n + 1 := wrapu_small (by omega) (by omega)
    have h8 : (n == 8) = false := by simp [hc]
    clear e1 e2 hx hF hp hc ha hn hf
    go_enter Tryd.func12, Tryd.ntmps12
    go_wp2_with (first
      | (go_at_call 20; refine (HW.out _).mono ?_; rintro e1 w1 ⟨rfl, hb⟩; have H1 := rhide (H0.out.on hb); clear hb HW H0)
      | (go_at_call 37; refine (HP.out _ H1.out).mono ?_; rintro e2 w2 ⟨rfl, hb⟩; have H2 := rhide (H1.out.on hb); clear hb HP H1)
      | (go_at_call 28; refine (HS0.out _ H2.out).mono ?_; rintro e3 w3 ⟨rfl, hd⟩; have H3 := rhide hd; clear hd HS0 H2)
      | (go_at_call 28; refine (HS1.out _ _ H3.out).mono ?_; rintro e4 w4 ⟨rfl, hd⟩; have H4 := rhide hd; clear hd HS1 H3)
      | fail)
    go_ret
    exact ⟨rfl, H4.out⟩
/-! ### Take -/
/-- The document's memory and the event that is answered. -/
structure Dt (w W : World) (base q N : Nat) (M : Nat → Nat → Int) : Prop where
  dh : Dh w W base q N M
  res : RowE W w.heap.size ev0
theorem dt_new {w : World} {base q N : Nat} {M : Nat → Nat → Int} (h : Rx w base q N M) : Dt w (w.alloc (.cells #[.int .i64 0, .int .i64 0] 32)) base q N M := ⟨(dh_self h).on (bal (Below.refl _ _) _), rowE_new w ev0⟩
theorem Dt.on {w W W' : World} {base q N : Nat} {M : Nat → Nat → Int} (h : Dt w W base q N M) (hB : Below W.heap.size W W') : Dt w W' base q N M := ⟨h.dh.on hB, h.res.on hB⟩
theorem Dt.put {w W : World} {base q N : Nat} {M : Nat → Nat → Int} (h : Dt w W base q N M) (hb : base ≤ w.heap.size) (x : Ev) : Dh w ((W.setCell ⟨w.heap.size, 0, none⟩ (.int .i64 x.k)).setCell ⟨w.heap.size, 1, none⟩ (.int .i64 x.t)) base q N M := by
  have h1 := h.dh.set h.res.c0 (Nat.le_refl _) hb 0 (.int .i64 x.k)
  have c : (W.setCell ⟨w.heap.size, 0, none⟩ (.int .i64 x.k)).cell? ⟨w.heap.size, 0, none⟩ = some (.int .i64 x.k) := by
    rw [cell_of_row _ _ _ _ _ _ (heap_setCell_same _ _ _ _ _ _ h.res.row)]
    rfl
  exact h1.set c (Nat.le_refl _) hb 1 _
/-- And an event that was read. -/
structure Du (w W : World) (base q N : Nat) (M : Nat → Nat → Int) (D : Nat) (x : Ev) : Prop where
  dt : Dt w W base q N M
  box : RowE W D x
theorem Dt.read {w W : World} {base q N : Nat} {M : Nat → Nat → Int} (h : Dt w W base q N M) (x : Ev) : Du w (W.alloc (.cells #[.int .i64 x.k, .int .i64 x.t] 32)) base q N M W.heap.size x := ⟨h.on (bal (Below.refl _ _) _), rowE_new W x⟩
theorem Du.on {w W W' : World} {base q N : Nat} {M : Nat → Nat → Int} {D : Nat} {x : Ev} (h : Du w W base q N M D x) (hB : Below W.heap.size W W') : Du w W' base q N M D x := ⟨h.dt.on hB, h.box.on hB⟩
theorem Du.turn {w W W' : World} {base q N : Nat} {M M' : Nat → Nat → Int} {D : Nat} {x : Ev} (h : Du w W base q N M D x) (hD : Dh w W' base q N M') (hK : KeepX q W W') : Du w W' base q N M' D x := ⟨⟨hD, h.dt.res.keep hK.t⟩, h.box.keep hK.t⟩
set_option maxRecDepth 100000 in
set_option maxHeartbeats 4000000 in
theorem rtake_any (base q N : Nat) (f : Int) (M : Nat → Nat → Int) (w : World) (h : Rx w base q N M) : Calls Tryd.prog 14 #[.pointer (some ⟨q, 0, none⟩), .int .i64 f] w fun e w' => e = .returned (.tuple #[.agg #[.int .i64 (tkX N M f).k, .int .i64 (tkX N M f).t], .int .i64 (tkE N M f)]) ∧ Dh w w' base q N (tkM N M f) := by
  have H0 := rhide (dt_new h)
  have HBs := rhide h.le
  have HP : Hid (∀ wc, Dt w wc base q N M → Calls Tryd.prog 37 #[.pointer (some ⟨q, 0, none⟩), .int .i64 f] wc fun e w' => e = .returned (.tuple #[.int .i64 (zif (plE N M f) (bgI M f)), .int .i64 (zif (plE N M f) (cnI M f)), .int .i64 (plE N M f)]) ∧ Below wc.heap.size wc w') := fun wc hd => rplaces_any base q N f M wc hd.dh.rx
  have hF := h.fit
  clear h
  by_cases hp : plE N M f = 0
  case neg =>
    obtain ⟨e1, e2, e3⟩ := tk_pl hp
    rw [e1, e2, e3]
    rw [zif_no hp, zif_no hp] at HP
    generalize plE N M f = E at HP hp ⊢
    have hE : (E != 0) = true := by simp [hp]
    clear e1 e2 e3 hF hp
    go_enter Tryd.func14, Tryd.ntmps14
    go_wp2_with (first
      | (go_at_call 37; refine (HP.out _ H0.out).mono ?_; rintro e1 w1 ⟨rfl, hb⟩; have H1 := rhide (H0.out.on hb); clear hb HP H0; have x0 := H1.out.res.c0; have x1 := H1.out.res.c1; have z := H1.out.res.fz)
      | fail)
    refine bodyPost_ret (v := .tuple #[.agg #[.int .i64 0, .int .i64 0], .int .i64 E]) (by simp [results, Tryd.results14, go_sem, x0, x1]) rfl ⟨rfl, ?_⟩
    exact H1.out.put HBs.out ev0
  case pos =>
  obtain ⟨_, hf, ha, hn⟩ := pl_yes hF hp
  rw [hp, zif_yes, zif_yes] at HP
  by_cases hc : cnI M f = 0
  · obtain ⟨e1, e2, e3⟩ := tk_none hp hc
    rw [e1, e2, e3]
    rw [hc] at HP
    generalize bgI M f = a at HP
    clear e1 e2 e3 hF hp hc ha hn hf
    go_enter Tryd.func14, Tryd.ntmps14
    go_wp2_with (first
      | (go_at_call 37; refine (HP.out _ H0.out).mono ?_; rintro e1 w1 ⟨rfl, hb⟩; have H1 := rhide (H0.out.on hb); clear hb HP H0; have x0 := H1.out.res.c0; have x1 := H1.out.res.c1; have z := H1.out.res.fz)
      | fail)
    refine bodyPost_ret (v := .tuple #[.agg #[.int .i64 0, .int .i64 0], .int .i64 3]) (by simp [results, Tryd.results14, go_sem, x0, x1]) rfl ⟨rfl, ?_⟩
    exact H1.out.put HBs.out ev0
  have hr := rw_zero hF hp
  have hv : 0 ≤ rwI M f 0 ∧ rwI M f 0 ≤ 18446744073709551615 := hF _ _
  have HL : Hid (∀ wc, Dt w wc base q N M → Calls Tryd.prog 41 #[.pointer (some ⟨q, 0, none⟩), .int .i64 f, .int .i64 (14 + bgI M f)] wc fun e w' => e = .returned (.tuple #[.int .u64 (rwI M f 0), .int .i64 0]) ∧ w' = wc) := fun wc hd => by
    have := rld_at base q N f M hf (14 + (bgI M f).toNat) (by omega) wc hd.dh.rx
    rwa [hr, show ((14 + (bgI M f).toNat : Nat) : Int) = 14 + bgI M f by omega] at this
  have HO : Hid (∀ wc, Calls Tryd.prog 8 #[.int .u64 (rwI M f 0)] wc fun e w' => e = .returned (.tuple #[.agg #[.int .i64 (ofX (rwI M f 0)).k, .int .i64 (ofX (rwI M f 0)).t], .int .i64 (ofE (rwI M f 0))]) ∧ Below wc.heap.size wc w') := fun wc => rof_any _ hv wc
  have d0 : wrap64 (14 + bgI M f) = 14 + bgI M f := by unfold wrap64; omega
  have h0 : (cnI M f == 0) = false := by simp [hc]
  by_cases ho : ofE (rwI M f 0) = 0
  · obtain ⟨e1, e2, e3⟩ := tk_ok hp hc ho
    rw [e1, e2, e3]
    rw [ho] at HO
    have HS0 : Hid (∀ D X wc, Du w wc base q N M D X → Calls Tryd.prog 28 #[.pointer (some ⟨q, 0, none⟩), .int .i64 f, .int .i64 12, .int .u64 ((bgI M f + 1) % 8)] wc fun e w' => e = .returned (.int .i64 0) ∧ Du w w' base q N (stW N M f 12 ((bgI M f + 1) % 8)) D X) := fun D X wc hd => (rst_at w base q N f M hf 12 (by omega) _ (by omega) wc hd.dt.dh).mono fun e w' ⟨q1, q2, q3⟩ => ⟨q1, hd.turn q2 q3⟩
    have HS1 : Hid (∀ D X wc M1, Du w wc base q N M1 D X → Calls Tryd.prog 28 #[.pointer (some ⟨q, 0, none⟩), .int .i64 f, .int .i64 13, .int .u64 (cnI M f - 1)] wc fun e w' => e = .returned (.int .i64 0) ∧ Du w w' base q N (stW N M1 f 13 (cnI M f - 1)) D X) := fun D X wc M1 hd => (rst_at w base q N f M1 hf 13 (by omega) _ (by omega) wc hd.dt.dh).mono fun e w' ⟨q1, q2, q3⟩ => ⟨q1, hd.turn q2 q3⟩
    generalize ofX (rwI M f 0) = X at HO ⊢
    generalize rwI M f 0 = v at HL HO
    generalize bgI M f = a at HP HL HS0 ha d0 ⊢
    generalize cnI M f = n at HP HS1 hn hc h0 ⊢
    have d1 : wrap64 (a + 1) = a + 1 := by unfold wrap64; omega
    have d2 : (a + 1).tmod 8 = (a + 1) % 8 := tmod8 (by omega)
    have d3 : IntKind.u64.wrap ((a + 1) % 8) = (a + 1) % 8 := wrapu_small (by omega) (by omega)
    have d4 : wrap64 (n - 1) = n - 1 := by unfold wrap64; omega
    have d4' : IntKind.i64.wrap (n - 1) = n - 1 := by rw [IntKind.wrap_i64]; omega
    have d5 : IntKind.u64.wrap (n - 1) = n - 1 := wrapu_small (by omega) (by omega)
    clear e1 e2 e3 hF hp hc ha hn hf hr hv ho
    go_enter Tryd.func14, Tryd.ntmps14
    go_upto_region 8 with (first
      | (go_at_call 37; refine (HP.out _ H0.out).mono ?_; rintro e1 w1 ⟨rfl, hb⟩; have H1 := rhide (H0.out.on hb); clear hb HP H0)
      | (go_at_call 41; refine (HL.out _ H1.out).mono ?_; rintro e2 w2 ⟨rfl, hw⟩; subst w2; clear HL)
      | (go_at_call 8; refine (HO.out _).mono ?_; rintro e3 w3 ⟨rfl, hb⟩; have H3 := rhide ((H1.out.on hb).read X); clear hb HO H1)
      | fail)
    generalize w3.alloc _ = v3 at H3 ⊢
    generalize w3.heap.size = D at H3 ⊢
    go_upto_region 11 with (first
      | (go_at_call 28; refine (HS0.out _ _ _ H3.out).mono ?_; rintro e4 w4 ⟨rfl, hd⟩; have H4 := rhide hd; clear hd HS0 H3)
      | fail)
    have x0 := H4.out.dt.res.c0
    have x1 := H4.out.dt.res.c1
    have z := H4.out.dt.res.fz
    have y0 := H4.out.box.c0
    have y1 := H4.out.box.c1
    go_region_with (first
      | (go_at_call 28; refine (HS1.out _ _ _ _ (by first | exact H4.out | exact H4.out.on (Below.refl _ _).drew)).mono ?_; rintro e5 w5 ⟨rfl, hd⟩; have H5 := rhide hd; clear hd HS1 H4 x0 x1 y0 y1 z; have x0 := H5.out.dt.res.c0; have x1 := H5.out.dt.res.c1; have z := H5.out.dt.res.fz; have y0 := H5.out.box.c0; have y1 := H5.out.box.c1)
      | fail)
    all_goals
      go_wp2
      refine bodyPost_ret (v := .tuple #[.agg #[.int .i64 X.k, .int .i64 X.t], .int .i64 0]) (by simp [results, Tryd.results14, go_sem, x0, x1]) rfl ⟨rfl, ?_⟩
      exact H5.out.dt.put HBs.out X
  · obtain ⟨e1, e2, e3⟩ := tk_form hp hc ho
    rw [e1, e2, e3]
    rw [(of_no ho).1, (of_no ho).2] at HO
    generalize rwI M f 0 = v at HL HO
    generalize bgI M f = a at HP HL d0
    generalize cnI M f = n at HP h0
    clear e1 e2 e3 hF hp hc ha hn hf hr hv ho
    go_enter Tryd.func14, Tryd.ntmps14
    go_wp2_with (first
      | (go_at_call 37; refine (HP.out _ H0.out).mono ?_; rintro e1 w1 ⟨rfl, hb⟩; have H1 := rhide (H0.out.on hb); clear hb HP H0)
      | (go_at_call 41; refine (HL.out _ H1.out).mono ?_; rintro e2 w2 ⟨rfl, hw⟩; subst w2; clear HL)
      | (go_at_call 8; refine (HO.out _).mono ?_; rintro e3 w3 ⟨rfl, hb⟩; have H3 := rhide ((H1.out.on hb).read ev0); clear hb HO H1; have x0 := H3.out.dt.res.c0; have x1 := H3.out.dt.res.c1; have z := H3.out.dt.res.fz)
      | fail)
    refine bodyPost_ret (v := .tuple #[.agg #[.int .i64 0, .int .i64 0], .int .i64 12]) (by simp [results, Tryd.results14, go_sem, x0, x1]) rfl ⟨rfl, ?_⟩
    exact H3.out.dt.put HBs.out ev0
/-! ### All -/
/-- The document's memory and the list that grows. -/
structure Ra (w0 w : World) (base q N : Nat) (M : Nat → Nat → Int) (f : Int) (v : Value) (k : Nat) : Prop where
  rx : Rx w base q N M
  below : Below w0.heap.size w0 w
  row : w.ownsRow w0.heap.size 32 2 v k (cellsL (allK M f k))
theorem Ra.on {w0 w w' : World} {base q N : Nat} {M : Nat → Nat → Int} {f : Int} {v : Value} {k : Nat} (h : Ra w0 w base q N M f v k) (hB : Below w.heap.size w w') : Ra w0 w' base q N M f v k :=
  ⟨h.rx.grown hB, h.below.trans (hB.mono h.below.size), own_on h.row hB⟩
theorem Ra.step {w0 w w1 : World} {base q N : Nat} {M : Nat → Nat → Int} {f : Int} {v v' : Value} {k : Nat} {o : Obj} (h0 : Rx w0 base q N M) (h : Ra w0 w base q N M f v k) (hown : w1.ownsRow w0.heap.size 32 2 v' (k + 1) (cellsL (allK M f k) ++ twoL (ofX (rwI M f (k : Int))))) (hg : (w.alloc o).grownBy w1 v.ownBlock) : Ra w0 w1 base q N M f v' (k + 1) := by
  have hB : Below w0.heap.size w0 w1 := (bal h.below o).grown hg (by have := h.below.size; simp; omega) (own_ge h.row)
  exact ⟨h0.grown hB, hB, by rw [allK_succ, cellsL_snoc]; exact hown⟩
set_option maxRecDepth 100000 in
set_option maxHeartbeats 2000000 in
theorem rall_any (base q N : Nat) (f : Int) (M : Nat → Nat → Int) (w : World) (h : Rx w base q N M) :
    Calls Tryd.prog 18 #[.pointer (some ⟨q, 0, none⟩), .int .i64 f] w fun e w' => ∃ v, e = .returned (.tuple #[v, .int .i64 (alE N M f)]) ∧ Evs w' w.heap.size v (alL N M f) ∧ Below w.heap.size w w' := by
  obtain ⟨it, hi, hz0, hz1, hz2⟩ := info_parts infoEv
  have HR := rhide h
  have HP : Hid (Calls Tryd.prog 37 #[.pointer (some ⟨q, 0, none⟩), .int .i64 f] w fun e w' => e = .returned (.tuple #[.int .i64 (zif (plE N M f) (bgI M f)), .int .i64 (zif (plE N M f) (cnI M f)), .int .i64 (plE N M f)]) ∧ Below w.heap.size w w') := rplaces_any base q N f M w h
  have hF := h.fit
  clear h
  by_cases hp : plE N M f = 0
  case neg =>
    obtain ⟨e1, e2⟩ := al_err hp
    rw [e1, e2]
    rw [zif_no hp, zif_no hp] at HP
    generalize plE N M f = E at HP hp ⊢
    have hE : (E != 0) = true := by simp [hp]
    clear e1 e2 hF hp
    go_enter Tryd.func18, Tryd.ntmps18
    go_wp2_with (first
      | (go_at_call 37; refine HP.out.mono ?_; rintro e1 w1 ⟨rfl, hb⟩; have H1 := rhide hb; clear hb HP)
      | fail)
    go_ret2
    exact ⟨_, rfl, evs_nil _ _, H1.out⟩
  case pos =>
  obtain ⟨_, hf, ha, hn⟩ := pl_yes hF hp
  rw [hp, zif_yes, zif_yes] at HP
  have HAy : Hid ((∀ j : Nat, j < (cnI M f).toNat → ofE (rwI M f (j : Int)) = 0) → alE N M f = 0 ∧ alL N M f = allK M f (cnI M f).toNat) := al_yes hp
  have HAn : Hid (∀ x : Nat, x < (cnI M f).toNat → ofE (rwI M f (x : Int)) ≠ 0 → alE N M f = 12 ∧ alL N M f = []) := fun x => al_no hp
  have HL : Hid (∀ (k : Nat) wc, Rx wc base q N M → Calls Tryd.prog 41 #[.pointer (some ⟨q, 0, none⟩), .int .i64 f, .int .i64 (14 + (bgI M f + (k : Int)) % 8)] wc fun e w' => e = .returned (.tuple #[.int .u64 (rwI M f (k : Int)), .int .i64 0]) ∧ w' = wc) := fun k wc hx => by
    have := rld_at base q N f M hf (14 + ((bgI M f + (k : Int)) % 8)).toNat (by omega) wc hx
    rwa [rw_at hF hp k, show (((14 + ((bgI M f + (k : Int)) % 8)).toNat : Nat) : Int) = 14 + (bgI M f + (k : Int)) % 8 by omega] at this
  have HV : Hid (∀ k : Nat, 0 ≤ rwI M f (k : Int) ∧ rwI M f (k : Int) ≤ 18446744073709551615) := fun k => hF _ _
  obtain ⟨n, en⟩ : ∃ n : Nat, cnI M f = (n : Int) := ⟨(cnI M f).toNat, by omega⟩
  rw [en, Int.toNat_natCast] at HAy HAn
  rw [en] at HP hn
  generalize bgI M f = a at HP HL ha
  clear hp hf hF en
  go_enter Tryd.func18, Tryd.ntmps18
  go_wp2_with (first
    | (go_at_call 37; refine HP.out.mono ?_; rintro e1 w1 ⟨rfl, hb⟩; have H1 : Hid (Ra w w1 base q N M f (.slice none 0 0) 0) := ⟨HR.out.grown hb, hb, World.ownsRow_nil _ _ _ _⟩; clear hb HP)
    | fail)
  go_loopw [9, 10] (fun v i wr => ∃ k : Nat, k ≤ n ∧ i = .int .i64 k ∧ (∀ j : Nat, j < k → ofE (rwI M f (j : Int)) = 0) ∧ Ra w wr base q N M f v k) (fun _ i _ => n - (intOf i).toNat)
  case atStart => exact ⟨0, by omega, rfl, fun j hj => by omega, H1.out⟩
  case round =>
    obtain ⟨k, hk, rfl, hok, hI⟩ := hrel
    have HI := rhide hI
    have HO : Hid (∀ j : Nat, j < k → ofE (rwI M f (j : Int)) = 0) := hok
    obtain ⟨av, cv, rfl⟩ := ownsRow_slice hI.row
    clear hI hok H1
    by_cases hlt : k < n
    · have hki : (k : Int) < (n : Int) := by omega
      have HLk := rhide (HL.out k)
      have HOf : Hid (∀ wc, Calls Tryd.prog 8 #[.int .u64 (rwI M f (k : Int))] wc fun e w' => e = .returned (.tuple #[.agg #[.int .i64 (ofX (rwI M f (k : Int))).k, .int .i64 (ofX (rwI M f (k : Int))).t], .int .i64 (ofE (rwI M f (k : Int)))]) ∧ Below wc.heap.size wc w') := fun wc => rof_any _ (HV.out k) wc
      have d1 : wrap64 (a + (k : Int)) = a + (k : Int) := by unfold wrap64; omega
      have d2 : (a + (k : Int)).tmod 8 = (a + (k : Int)) % 8 := tmod8 (by omega)
      have d3 : wrap64 (14 + (a + (k : Int)) % 8) = 14 + (a + (k : Int)) % 8 := by unfold wrap64; omega
      have HSt : Hid (∀ (w' w1 : World) (v v' : Value) (o : Obj), Ra w w' base q N M f v k → w1.ownsRow w.heap.size 32 2 v' (k + 1) (cellsL (allK M f k) ++ twoL (ofX (rwI M f (k : Int)))) → (w'.alloc o).grownBy w1 v.ownBlock → Ra w w1 base q N M f v' (k + 1)) := fun w' w1 v v' o h1 h2 h3 => h1.step HR.out h2 h3
      obtain ⟨E, hE⟩ : ∃ E, E = ofE (rwI M f (k : Int)) := ⟨_, rfl⟩
      rw [← hE] at HOf
      have HE : Hid (E = ofE (rwI M f (k : Int))) := hE
      clear hE
      generalize ofX (rwI M f (k : Int)) = X at HOf HSt
      generalize hrw : rwI M f (k : Int) = V at HLk HOf
      have HRW := rhide hrw
      clear hrw
      go_upto_region 10 with (first
        | (go_at_call 41; refine (HLk.out _ HI.out.rx).mono ?_; rintro e2 w2 ⟨rfl, hw⟩; subst w2; clear HLk)
        | (go_at_call 8; refine (HOf.out _).mono ?_; rintro e3 w3 ⟨rfl, hb⟩; have H1 := rhide (HI.out.on hb); clear hb HOf HI)
        | fail)
      have H2 := H1.out.on (bal (Below.refl w3.heap.size w3) (.cells #[.int .i64 X.k, .int .i64 X.t] 32))
      have hx := rowE_new w3 X
      generalize w3.alloc _ = v1 at H2 hx ⊢
      generalize w3.heap.size = A at hx ⊢
      have H3 := rhide H2
      clear H1 H2
      by_cases h0 : E = 0
      · subst h0
        have x0 := hx.c0
        have x1 := hx.c1
        have hsz : w.heap.size ≤ v1.heap.size := H3.out.below.size
        clear hx
        go_wp2_with (first
          | (at_builtin; refine wpList_append_own _ rfl _ _ 25 rfl w.heap.size 32 it (.agg #[.int .i64 0, .int .i64 0]) 2 16 Tryd.underlying25 hi hz0 hz1 hz2 rfl (by decide) _ _ _ rfl (H3.out.row.alloc _) ⟨v1.heap.size, 0, none⟩ 1 1 (twoL X) rfl rfl (two_new v1 _ _ _) (twoL_one X) (by unfold maxLen; omega) (by omega) (by simp; omega) ?_; intro v' w4 hown hgrow _; have H4 := rhide (HSt.out _ _ _ _ _ H3.out hown hgrow); clear hown hgrow)
          | fail)
        go_roundw
        case rel =>
          refine ⟨k + 1, by omega, by go_num, fun j hj => ?_, H4.out⟩
          by_cases e : j = k
          · subst e; exact HE.out.symm
          · exact HO.out j (by omega)
        case measure => simp [intOf]; omega
      · have hne : (E != 0) = true := by simp [h0]
        have hb12 : ofE (rwI M f (k : Int)) ≠ 0 := by rw [← HE.out]; exact h0
        have h12 : E = 12 := by rw [HE.out]; exact (of_no hb12).1
        subst h12
        obtain ⟨e1, e2⟩ := HAn.out k hlt hb12
        have HQ := rhide (And.intro e1 e2)
        clear hx h0 e1 e2 hb12 HE
        go_wp2
        go_ret2
        exact ⟨_, by rw [HQ.out.1]; rfl, by rw [HQ.out.2]; exact evs_nil _ _, H3.out.below⟩
    · obtain rfl : k = n := by omega
      have HQ := rhide (HAy.out HO.out)
      go_wp2
      go_ret2
      refine ⟨_, by rw [HQ.out.1]; rfl, ?_, HI.out.below⟩
      rw [HQ.out.2]
      exact evs_of (by rw [allK_len]; exact HI.out.row)
end Go.Proofs.YtdplailaolfpkaaDoor.Pring
