/- The document's Raw, Walk, Map, Unmap. -/
import Derived.Test.YtfmkhjbahgcgiaaGreatDoorPgtR
namespace Go.Proofs.YtfmkhjbahgcgiaaGreatDoor.Ppgtbl
open Go.Proofs.YtfmkhjbahgcgiaaGreatDoor.Pbase Go.Proofs.YtfmkhjbahgcgiaaGreatDoor.Pmem
open Go.RowKit
set_option linter.unusedVariables false

/-- The result's block, beside the document's memory. -/
structure Rs (w0 w : World) (base q N : Nat) (M : Nat → Nat → Int) : Prop where
  rx : Rx w base q N M
  below : Below w0.heap.size w0 w
  res : Ppte.BoxP w w0.heap.size false 0 0 0
theorem Rs.on {w0 w w' : World} {base q N : Nat} {M : Nat → Nat → Int} (h : Rs w0 w base q N M) (hB : Below w.heap.size w w') : Rs w0 w' base q N M := ⟨h.rx.grown hB, h.below.trans (hB.mono h.below.size), h.res.on hB⟩
theorem rs_new {w : World} {base q N : Nat} {M : Nat → Nat → Int} (h : Rx w base q N M) (ty : TypeId) : Rs w (w.alloc (.cells #[.bool false, .int .i64 0, .int .i64 0, .int .i64 0] ty)) base q N M :=
  ⟨h.grown (bal (Below.refl _ _) _), bal (Below.refl _ _) _, Ppte.boxP_new w false 0 0 0 ty⟩
/-- A mapping that was read, beside it. -/
structure Rp (w0 w : World) (base q N : Nat) (M : Nat → Nat → Int) (D : Nat) (o : Bool) (f r t : Int) : Prop where
  rs : Rs w0 w base q N M
  box : Ppte.BoxP w D o f r t
  ne : w0.heap.size < D
theorem Rp.on {w0 w w' : World} {base q N : Nat} {M : Nat → Nat → Int} {D : Nat} {o : Bool} {f r t : Int} (h : Rp w0 w base q N M D o f r t) (hB : Below w.heap.size w w') : Rp w0 w' base q N M D o f r t := ⟨h.rs.on hB, h.box.on hB, h.ne⟩
theorem Rs.read {w0 w : World} {base q N : Nat} {M : Nat → Nat → Int} (h : Rs w0 w base q N M) (o : Bool) (f r t : Int) (ty : TypeId) : Rp w0 (w.alloc (.cells #[.bool o, .int .i64 f, .int .i64 r, .int .i64 t] ty)) base q N M w.heap.size o f r t :=
  ⟨h.on (bal (Below.refl _ _) _), Ppte.boxP_new w o f r t ty, h.res.lt⟩
theorem res4 {w0 w : World} (h : Below w0.heap.size w0 w) (a b c d : Value) : Below w0.heap.size w0 ((((w.setCell ⟨w0.heap.size, 0, none⟩ a).setCell ⟨w0.heap.size, 1, none⟩ b).setCell ⟨w0.heap.size, 2, none⟩ c).setCell ⟨w0.heap.size, 3, none⟩ d) :=
  bst (bst (bst (bst h (Nat.le_refl _) _ _) (Nat.le_refl _) _ _) (Nat.le_refl _) _ _) (Nat.le_refl _) _ _
/-! ### Raw -/
set_option maxRecDepth 100000 in
set_option maxHeartbeats 2000000 in
theorem rraw_any (base q N : Nat) (root page : Int) (M : Nat → Nat → Int) (w : World) (h : Rx w base q N M) :
    Calls Tryz.prog 15 #[.pointer (some ⟨q, 0, none⟩), .int .i64 root, .int .i64 page] w fun x w' => x = .returned (.tuple #[.agg #[.bool (raO N M root page), .int .i64 (raF N M root page), .int .i64 (raR N M root page), .int .i64 (raT N M root page)], .int .i64 (raE N M root page)]) ∧ Below w.heap.size w w' := by
  have HI := rhide h
  have HS : Hid (∀ ty, Rs w (w.alloc (.cells #[.bool false, .int .i64 0, .int .i64 0, .int .i64 0] ty)) base q N M) := fun ty => rs_new h ty
  have HL : Hid (∀ wc, Rs w wc base q N M → Calls Tryz.prog 35 #[.pointer (some ⟨q, 0, none⟩), .int .i64 root, .int .i64 page] wc fun x w' => x = .returned (.tuple #[.int .i64 (lfF N M root page), .int .i64 (lfE N M root page)]) ∧ Below wc.heap.size wc w') := fun wc hc => rleaf_any base q N root page M wc hc.rx
  clear h
  by_cases hE : lfE N M root page = 0
  case neg =>
    have e0 : raE N M root page = lfE N M root page := by simp [raE, hE]
    have e1 : raO N M root page = false := by simp [raO, hE]
    have e2 : raF N M root page = 0 := by simp [raF, hE]
    have e3 : raR N M root page = 0 := by simp [raR, hE]
    have e4 : raT N M root page = 0 := by simp [raT, hE]
    rw [e0, e1, e2, e3, e4]
    generalize lfF N M root page = F at HL
    generalize lfE N M root page = E at HL hE ⊢
    have hE' : (E != 0) = true := by simp [hE]
    clear e0 e1 e2 e3 e4 hE
    go_enter Tryz.func15, Tryz.ntmps15
    go_wp2_with (first
      | (go_at_call 35; refine (HL.out _ (HS.out _)).mono ?_; rintro e1 w1 ⟨rfl, hb⟩; have H1 := rhide ((HS.out _).on hb); clear hb HS; have x0 := H1.out.res.c0; have x1 := H1.out.res.c1; have x2 := H1.out.res.c2; have x3 := H1.out.res.c3; have z0 := H1.out.res.fz 0; have z1 := H1.out.res.fz 1; have z2 := H1.out.res.fz 2; have z3 := H1.out.res.fz 3; have xl := H1.out.res.lt)
      | fail)
    refine bodyPost_ret (v := .tuple #[.agg #[.bool false, .int .i64 0, .int .i64 0, .int .i64 0], .int .i64 E]) (by simp [results, Tryz.results15, go_sem, x0, x1, x2, x3]) rfl ⟨rfl, ?_⟩
    exact res4 H1.out.below _ _ _ _
  have hp : 0 ≤ page ∧ page < 1024 := by
    rw [← okG_iff]
    unfold lfE at hE
    by_cases k : okG page = true
    · exact k
    · rw [if_neg k] at hE; cases hE
  have h0 : 0 ≤ page := hp.1
  have h1 : 0 ≤ page % 32 := by omega
  have e0 : raE N M root page = enE N M (lfF N M root page) (page % 32) := by simp [raE, hE]
  have e1 : raO N M root page = enO N M (lfF N M root page) (page % 32) := by simp [raO, hE]
  have e2 : raF N M root page = enF N M (lfF N M root page) (page % 32) := by simp [raF, hE]
  have e3 : raR N M root page = enR N M (lfF N M root page) (page % 32) := by simp [raR, hE]
  have e4 : raT N M root page = enT N M (lfF N M root page) (page % 32) := by simp [raT, hE]
  rw [e0, e1, e2, e3, e4]
  rw [hE] at HL
  generalize lfF N M root page = F at HL ⊢
  have HG : Hid (∀ wc, Rs w wc base q N M → Calls Tryz.prog 36 #[.pointer (some ⟨q, 0, none⟩), .int .i64 F, .int .i64 (page % 32)] wc fun x w' => x = .returned (.tuple #[.agg #[.bool (enO N M F (page % 32)), .int .i64 (enF N M F (page % 32)), .int .i64 (enR N M F (page % 32)), .int .i64 (enT N M F (page % 32))], .int .i64 (enE N M F (page % 32))]) ∧ Below wc.heap.size wc w') := fun wc hc => rentry_any base q N F (page % 32) M wc hc.rx (by omega)
  generalize enO N M F (page % 32) = O at HG ⊢
  generalize enF N M F (page % 32) = G at HG ⊢
  generalize enR N M F (page % 32) = R at HG ⊢
  generalize enT N M F (page % 32) = T at HG ⊢
  generalize enE N M F (page % 32) = E at HG ⊢
  clear e0 e1 e2 e3 e4 hE hp
  go_enter Tryz.func15, Tryz.ntmps15
  go_wp2_with (first
    | (go_at_call 35; refine (HL.out _ (HS.out _)).mono ?_; rintro e1 w1 ⟨rfl, hb⟩; have H1 := rhide ((HS.out _).on hb); clear hb HS)
    | (go_at_call 36; refine (HG.out _ H1.out).mono ?_; rintro e2 w2 ⟨rfl, hb⟩; have H2 := rhide (H1.out.on hb); clear hb H1; have x0 := H2.out.res.c0; have x1 := H2.out.res.c1; have x2 := H2.out.res.c2; have x3 := H2.out.res.c3; have z0 := H2.out.res.fz 0; have z1 := H2.out.res.fz 1; have z2 := H2.out.res.fz 2; have z3 := H2.out.res.fz 3; have xl := H2.out.res.lt)
    | fail)
  refine bodyPost_ret (v := .tuple #[.agg #[.bool O, .int .i64 G, .int .i64 R, .int .i64 T], .int .i64 E]) (by simp [results, Tryz.results15, go_sem, x0, x1, x2, x3]) rfl ⟨rfl, ?_⟩
  exact res4 H2.out.below _ _ _ _
/-! ### Walk -/
set_option maxRecDepth 100000 in
set_option maxHeartbeats 2000000 in
theorem rwalk_any (base q N : Nat) (root page : Int) (M : Nat → Nat → Int) (w : World) (h : Rx w base q N M) :
    Calls Tryz.prog 13 #[.pointer (some ⟨q, 0, none⟩), .int .i64 root, .int .i64 page] w fun x w' => x = .returned (.tuple #[.agg #[.bool (wkO N M root page), .int .i64 (wkF N M root page), .int .i64 (wkR N M root page), .int .i64 (wkT N M root page)], .int .i64 (wkE N M root page)]) ∧ Below w.heap.size w w' := by
  have HS : Hid (∀ ty, Rs w (w.alloc (.cells #[.bool false, .int .i64 0, .int .i64 0, .int .i64 0] ty)) base q N M) := fun ty => rs_new h ty
  have HL : Hid (∀ wc, Rs w wc base q N M → Calls Tryz.prog 15 #[.pointer (some ⟨q, 0, none⟩), .int .i64 root, .int .i64 page] wc fun x w' => x = .returned (.tuple #[.agg #[.bool (raO N M root page), .int .i64 (raF N M root page), .int .i64 (raR N M root page), .int .i64 (raT N M root page)], .int .i64 (raE N M root page)]) ∧ Below wc.heap.size wc w') := fun wc hc => rraw_any base q N root page M wc hc.rx
  clear h
  unfold wkO wkF wkR wkT wkE
  generalize raO N M root page = O at HL ⊢
  generalize raF N M root page = G at HL ⊢
  generalize raR N M root page = R at HL ⊢
  generalize raT N M root page = T at HL ⊢
  generalize raE N M root page = E at HL ⊢
  have hc : (E ≠ 0 ∧ (E != 0) = true) ∨ (E = 0 ∧ O = false) ∨ (E = 0 ∧ O = true) := by
    by_cases hE : E = 0
    · cases O <;> simp [hE]
    · exact .inl ⟨hE, by simp [hE]⟩
  rcases hc with ⟨hE, hE'⟩ | ⟨rfl, rfl⟩ | ⟨rfl, rfl⟩
  case' inl => simp only [if_neg hE, decide_eq_false hE, Bool.false_and]; clear hE
  case' inr.inl => simp only [if_true, Bool.false_eq_true, if_false, Bool.and_false, show ¬ (9 : Int) = 0 by decide]
  case' inr.inr => simp only [if_true, decide_true, Bool.and_self]
  · go_enter Tryz.func13, Tryz.ntmps13
    go_upto_region 2 with (first
      | (go_at_call 15; refine (HL.out _ (HS.out _)).mono ?_; rintro e1 w1 ⟨rfl, hb⟩; have H1 := ((HS.out _).on hb).read true G R T 42; clear hb HS)
      | fail)
    generalize w1.alloc _ = w2 at H1 ⊢
    generalize w1.heap.size = D at H1 ⊢
    have H2 := rhide H1
    clear H1
    have x0 := H2.out.rs.res.c0
    have x1 := H2.out.rs.res.c1
    have x2 := H2.out.rs.res.c2
    have x3 := H2.out.rs.res.c3
    have z0 := H2.out.rs.res.fz 0
    have z1 := H2.out.rs.res.fz 1
    have z2 := H2.out.rs.res.fz 2
    have z3 := H2.out.rs.res.fz 3
    have xl := H2.out.rs.res.lt
    have y0 := H2.out.box.c0
    have y1 := H2.out.box.c1
    have y2 := H2.out.box.c2
    have y3 := H2.out.box.c3
    have yl := H2.out.box.lt
    have ne1 : ¬ D = w.heap.size := Nat.ne_of_gt H2.out.ne
    have ne2 : ¬ w.heap.size = D := Nat.ne_of_lt H2.out.ne
    go_wp2
    refine bodyPost_ret (v := .tuple #[.agg #[.bool true, .int .i64 G, .int .i64 R, .int .i64 T], .int .i64 0]) (by simp [results, Tryz.results13, go_sem, x0, x1, x2, x3]) rfl ⟨rfl, ?_⟩
    exact res4 H2.out.rs.below _ _ _ _
  · go_enter Tryz.func13, Tryz.ntmps13
    go_upto_region 2 with (first
      | (go_at_call 15; refine (HL.out _ (HS.out _)).mono ?_; rintro e1 w1 ⟨rfl, hb⟩; have H1 := ((HS.out _).on hb).read false G R T 42; clear hb HS)
      | fail)
    generalize w1.alloc _ = w2 at H1 ⊢
    generalize w1.heap.size = D at H1 ⊢
    have H2 := rhide H1
    clear H1
    have x0 := H2.out.rs.res.c0
    have x1 := H2.out.rs.res.c1
    have x2 := H2.out.rs.res.c2
    have x3 := H2.out.rs.res.c3
    have z0 := H2.out.rs.res.fz 0
    have z1 := H2.out.rs.res.fz 1
    have z2 := H2.out.rs.res.fz 2
    have z3 := H2.out.rs.res.fz 3
    have xl := H2.out.rs.res.lt
    have y0 := H2.out.box.c0
    have y1 := H2.out.box.c1
    have y2 := H2.out.box.c2
    have y3 := H2.out.box.c3
    have yl := H2.out.box.lt
    have ne1 : ¬ D = w.heap.size := Nat.ne_of_gt H2.out.ne
    have ne2 : ¬ w.heap.size = D := Nat.ne_of_lt H2.out.ne
    go_wp2
    refine bodyPost_ret (v := .tuple #[.agg #[.bool false, .int .i64 0, .int .i64 0, .int .i64 0], .int .i64 9]) (by simp [results, Tryz.results13, go_sem, x0, x1, x2, x3]) rfl ⟨rfl, ?_⟩
    exact res4 H2.out.rs.below _ _ _ _
  · go_enter Tryz.func13, Tryz.ntmps13
    go_upto_region 2 with (first
      | (go_at_call 15; refine (HL.out _ (HS.out _)).mono ?_; rintro e1 w1 ⟨rfl, hb⟩; have H1 := ((HS.out _).on hb).read O G R T 42; clear hb HS)
      | fail)
    generalize w1.alloc _ = w2 at H1 ⊢
    generalize w1.heap.size = D at H1 ⊢
    have H2 := rhide H1
    clear H1
    have x0 := H2.out.rs.res.c0
    have x1 := H2.out.rs.res.c1
    have x2 := H2.out.rs.res.c2
    have x3 := H2.out.rs.res.c3
    have z0 := H2.out.rs.res.fz 0
    have z1 := H2.out.rs.res.fz 1
    have z2 := H2.out.rs.res.fz 2
    have z3 := H2.out.rs.res.fz 3
    have xl := H2.out.rs.res.lt
    have y0 := H2.out.box.c0
    have y1 := H2.out.box.c1
    have y2 := H2.out.box.c2
    have y3 := H2.out.box.c3
    have yl := H2.out.box.lt
    have ne1 : ¬ D = w.heap.size := Nat.ne_of_gt H2.out.ne
    have ne2 : ¬ w.heap.size = D := Nat.ne_of_lt H2.out.ne
    go_wp2
    refine bodyPost_ret (v := .tuple #[.agg #[.bool false, .int .i64 0, .int .i64 0, .int .i64 0], .int .i64 E]) (by simp [results, Tryz.results13, go_sem, x0, x1, x2, x3]) rfl ⟨rfl, ?_⟩
    exact res4 H2.out.rs.below _ _ _ _
/-! ### Map -/
theorem rx_same {w w' : World} {base q N : Nat} {M : Nat → Nat → Int} (h : Rx w base q N M) (hb : Below w.heap.size w w') : Rx w' base q N M ∧ Below base w w' ∧ Keep w w' := ⟨h.grown hb, hb.mono (rx_le h), Keep.of_below hb⟩
theorem rx_put {w w3 w4 : World} {base q N : Nat} {M M' : Nat → Nat → Int} (h : Rx w base q N M) (hb : Below w.heap.size w w3) (hk : Rx w4 base q N M' ∧ Below base w3 w4 ∧ Keep w3 w4) : Rx w4 base q N M' ∧ Below base w w4 ∧ Keep w w4 :=
  ⟨hk.1, (hb.mono (rx_le h)).trans hk.2.1, (Keep.of_below hb).trans hk.2.2⟩
/-- The document's memory and a mapping beside it. -/
structure Rb (w0 w : World) (base q N : Nat) (M : Nat → Nat → Int) (D : Nat) (o : Bool) (f r t : Int) : Prop where
  rx : Rx w base q N M
  below : Below w0.heap.size w0 w
  box : Ppte.BoxP w D o f r t
theorem Rb.on {w0 w w' : World} {base q N : Nat} {M : Nat → Nat → Int} {D : Nat} {o : Bool} {f r t : Int} (h : Rb w0 w base q N M D o f r t) (hB : Below w.heap.size w w') : Rb w0 w' base q N M D o f r t := ⟨h.rx.grown hB, h.below.trans (hB.mono h.below.size), h.box.on hB⟩
theorem rb_read {w w1 : World} {base q N : Nat} {M : Nat → Nat → Int} (h : Rx w base q N M) (hb : Below w.heap.size w w1) (o : Bool) (f r t : Int) (ty : TypeId) : Rb w (w1.alloc (.cells #[.bool o, .int .i64 f, .int .i64 r, .int .i64 t] ty)) base q N M w1.heap.size o f r t :=
  ⟨(h.grown hb).grown (bal (Below.refl _ _) _), bal hb _, Ppte.boxP_new w1 o f r t ty⟩
theorem qu_raw {N : Nat} {M : Nat → Nat → Int} {root page floor : Int} (h : lfE N M root page = 0) : Ppte.quB (raO N M root page) (raF N M root page) (raR N M root page) (raT N M root page) floor = enQ N M (lfF N M root page) (page % 32) floor := by
  unfold enQ raO raF raR raT
  rw [h]
  simp
set_option maxRecDepth 100000 in
set_option maxHeartbeats 4000000 in
theorem rmap_any (base q N : Nat) (root page f r floor : Int) (M : Nat → Nat → Int) (w : World) (h : Rx w base q N M) :
    Calls Tryz.prog 21 #[.pointer (some ⟨q, 0, none⟩), .int .i64 root, .int .i64 page, .int .i64 f, .int .i64 r, .int .i64 floor] w fun x w' => x = .returned (.int .i64 (maE N M root page f r floor)) ∧ Rx w' base q N (maM N M root page f r floor) ∧ Below base w w' ∧ Keep w w' := by
  have HM := rhide h
  clear h
  have eM : maM N M root page f r floor = if maE N M root page f r floor = 0 then seM N M (lfF N M root page) (page % 32) true f r 0 else M := rfl
  by_cases ha : okA f r = true
  case neg =>
    have e0 : maE N M root page f r floor = 1 := by simp [maE, ha]
    rw [eM, e0, if_neg (by decide)]
    have hk : f < 0 ∨ (¬ f < 0 ∧ 64 ≤ f) ∨ (¬ f < 0 ∧ ¬ 64 ≤ f ∧ r < 1) ∨ ¬ f < 0 ∧ ¬ 64 ≤ f ∧ ¬ r < 1 ∧ 3 < r := by
      rw [okA_iff] at ha
      omega
    clear eM e0 ha
    rcases hk with h0 | ⟨h0, h1⟩ | ⟨h0, h1, h2⟩ | ⟨h0, h1, h2, h3⟩
    all_goals
      go_enter Tryz.func21, Tryz.ntmps21
      go_wp2
      go_ret
      exact ⟨rfl, rx_same HM.out (Below.refl _ _)⟩
  have hA := (okA_iff f r).1 ha
  have h0 : ¬ f < 0 := by omega
  have h1 : ¬ 64 ≤ f := by omega
  have h2 : ¬ r < 1 := by omega
  have h3 : ¬ 3 < r := by omega
  have HL : Hid (∀ wc, Below w.heap.size w wc → Calls Tryz.prog 15 #[.pointer (some ⟨q, 0, none⟩), .int .i64 root, .int .i64 page] wc fun x w' => x = .returned (.tuple #[.agg #[.bool (raO N M root page), .int .i64 (raF N M root page), .int .i64 (raR N M root page), .int .i64 (raT N M root page)], .int .i64 (raE N M root page)]) ∧ Below wc.heap.size wc w') := fun wc hb => rraw_any base q N root page M wc (HM.out.grown hb)
  by_cases hE : raE N M root page = 0
  case neg =>
    have e0 : maE N M root page f r floor = raE N M root page := by simp [maE, ha, hE]
    rw [eM, e0, if_neg hE]
    clear eM e0 ha hA
    generalize raO N M root page = O at HL
    generalize raF N M root page = G at HL
    generalize raR N M root page = R at HL
    generalize raT N M root page = T at HL
    generalize raE N M root page = E at HL hE ⊢
    have hE' : (E != 0) = true := by simp [hE]
    clear hE
    go_enter Tryz.func21, Tryz.ntmps21
    go_wp2_with (first
      | (go_at_call 15; refine (HL.out _ (Below.refl _ _)).mono ?_; rintro e1 w1 ⟨rfl, hb⟩; have H1 := rhide (bal hb (.cells #[.bool O, .int .i64 G, .int .i64 R, .int .i64 T] 42)); clear hb)
      | fail)
    go_ret
    exact ⟨rfl, rx_same HM.out H1.out⟩
  have hl : lfE N M root page = 0 := by
    unfold raE at hE
    by_cases k : lfE N M root page = 0
    · exact k
    · rw [if_neg k] at hE; exact hE
  have hp : 0 ≤ page ∧ page < 1024 := by
    rw [← okG_iff]
    unfold lfE at hl
    by_cases k : okG page = true
    · exact k
    · rw [if_neg k] at hl; cases hl
  have e1 : maE N M root page f r floor = if raO N M root page = true then 10 else if enQ N M (lfF N M root page) (page % 32) floor = true then 0 else 6 := by simp only [maE, ha, hE, if_true]
  have hq := qu_raw (floor := floor) hl
  have HSE : Hid (maE N M root page f r floor = 0 → seE N (lfF N M root page) (page % 32) true f r 0 = 0) := fun k => (ma_set k).2.2.2.2
  have HLf : Hid (∀ wc, Below w.heap.size w wc → Calls Tryz.prog 35 #[.pointer (some ⟨q, 0, none⟩), .int .i64 root, .int .i64 page] wc fun x w' => x = .returned (.tuple #[.int .i64 (lfF N M root page), .int .i64 0]) ∧ Below wc.heap.size wc w') := fun wc hb => by
    have := rleaf_any base q N root page M wc (HM.out.grown hb)
    rwa [hl] at this
  rw [eM]
  rw [e1] at HSE ⊢
  rw [hE] at HL
  rw [← hq] at HSE ⊢
  clear eM e1 hq hl hE ha hA
  generalize raO N M root page = O at HL HSE ⊢
  generalize raF N M root page = G at HL HSE ⊢
  generalize raR N M root page = R at HL HSE ⊢
  generalize raT N M root page = T at HL HSE ⊢
  generalize lfF N M root page = F at HLf HSE ⊢
  have HQ : Hid (∀ wc, Calls Tryz.prog 44 #[.agg #[.bool O, .int .i64 G, .int .i64 R, .int .i64 T], .int .i64 floor] wc fun e w' => e = .returned (.bool (Ppte.quB O G R T floor)) ∧ Below wc.heap.size wc w') := fun wc => Ppte.rquiet_any O G R T floor wc
  generalize Ppte.quB O G R T floor = U at HQ HSE ⊢
  have HP : Hid (∀ wc, Rx wc base q N M → Calls Tryz.prog 45 #[.pointer (some ⟨q, 0, none⟩), .int .i64 F, .int .i64 (page % 32), .agg #[.bool true, .int .i64 f, .int .i64 r, .int .i64 0]] wc fun x w' => x = .returned (.int .i64 (seE N F (page % 32) true f r 0)) ∧ Rx w' base q N (seM N M F (page % 32) true f r 0) ∧ Below base wc w' ∧ Keep wc w') := fun wc hc => rset_any base q N F (page % 32) true f r 0 M wc hc (by omega)
  have h4 : 0 ≤ page := hp.1
  have h5 : 0 ≤ page % 32 := by omega
  clear hp
  have hc : O = true ∨ (O = false ∧ U = false) ∨ (O = false ∧ U = true) := by cases O <;> cases U <;> simp
  rcases hc with rfl | ⟨rfl, rfl⟩ | ⟨rfl, rfl⟩
  case' inl => simp only [if_true, show ¬ (10 : Int) = 0 by decide, if_false]
  case' inr.inl => simp only [Bool.false_eq_true, if_false, show ¬ (6 : Int) = 0 by decide]
  case' inr.inr =>
    have hz := HSE.out (by simp)
    rw [hz] at HP
    simp only [Bool.false_eq_true, if_false, if_true]
    clear hz
  · clear HSE
    go_enter Tryz.func21, Tryz.ntmps21
    go_upto_region 4 with (first
      | (go_at_call 15; refine (HL.out _ (Below.refl _ _)).mono ?_; rintro e1 w1 ⟨rfl, hb⟩; have H1 := rb_read HM.out hb false G R T 42; clear hb HL)
      | fail)
    generalize w1.alloc _ = w2 at H1 ⊢
    generalize w1.heap.size = D at H1 ⊢
    have H2 := rhide H1
    clear H1
    have y0 := H2.out.box.c0
    have y1 := H2.out.box.c1
    have y2 := H2.out.box.c2
    have y3 := H2.out.box.c3
    have yl := H2.out.box.lt
    go_wp2_with (first
      | (go_at_call 44; refine (HQ.out _).mono ?_; rintro e3 w3 ⟨rfl, hb⟩; have H3 := rhide (H2.out.on hb); clear hb H2 y0 y1 y2 y3 yl; have H2 := H3; clear H3)
      | (go_at_call 35; refine (HLf.out _ H2.out.below).mono ?_; rintro e4 w4 ⟨rfl, hb⟩; have H4 := rhide (H2.out.on hb); clear hb H2)
      | (go_at_call 45; refine (HP.out _ H4.out.rx).mono ?_; rintro e5 w5 ⟨rfl, hk⟩; have H5 := rhide (rx_put HM.out H4.out.below hk); clear hk)
      | fail)
    go_ret
    first
      | exact ⟨rfl, H5.out⟩
      | exact ⟨rfl, rx_same HM.out H2.out.below⟩
  · clear HSE
    go_enter Tryz.func21, Tryz.ntmps21
    go_upto_region 4 with (first
      | (go_at_call 15; refine (HL.out _ (Below.refl _ _)).mono ?_; rintro e1 w1 ⟨rfl, hb⟩; have H1 := rb_read HM.out hb false G R T 42; clear hb HL)
      | fail)
    generalize w1.alloc _ = w2 at H1 ⊢
    generalize w1.heap.size = D at H1 ⊢
    have H2 := rhide H1
    clear H1
    have y0 := H2.out.box.c0
    have y1 := H2.out.box.c1
    have y2 := H2.out.box.c2
    have y3 := H2.out.box.c3
    have yl := H2.out.box.lt
    go_wp2_with (first
      | (go_at_call 44; refine (HQ.out _).mono ?_; rintro e3 w3 ⟨rfl, hb⟩; have H3 := rhide (H2.out.on hb); clear hb H2 y0 y1 y2 y3 yl; have H2 := H3; clear H3)
      | (go_at_call 35; refine (HLf.out _ H2.out.below).mono ?_; rintro e4 w4 ⟨rfl, hb⟩; have H4 := rhide (H2.out.on hb); clear hb H2)
      | (go_at_call 45; refine (HP.out _ H4.out.rx).mono ?_; rintro e5 w5 ⟨rfl, hk⟩; have H5 := rhide (rx_put HM.out H4.out.below hk); clear hk)
      | fail)
    go_ret
    first
      | exact ⟨rfl, H5.out⟩
      | exact ⟨rfl, rx_same HM.out H2.out.below⟩
  · clear HSE
    go_enter Tryz.func21, Tryz.ntmps21
    go_upto_region 4 with (first
      | (go_at_call 15; refine (HL.out _ (Below.refl _ _)).mono ?_; rintro e1 w1 ⟨rfl, hb⟩; have H1 := rb_read HM.out hb true G R T 42; clear hb HL)
      | fail)
    generalize w1.alloc _ = w2 at H1 ⊢
    generalize w1.heap.size = D at H1 ⊢
    have H2 := rhide H1
    clear H1
    have y0 := H2.out.box.c0
    have y1 := H2.out.box.c1
    have y2 := H2.out.box.c2
    have y3 := H2.out.box.c3
    have yl := H2.out.box.lt
    go_wp2_with (first
      | (go_at_call 44; refine (HQ.out _).mono ?_; rintro e3 w3 ⟨rfl, hb⟩; have H3 := rhide (H2.out.on hb); clear hb H2 y0 y1 y2 y3 yl; have H2 := H3; clear H3)
      | (go_at_call 35; refine (HLf.out _ H2.out.below).mono ?_; rintro e4 w4 ⟨rfl, hb⟩; have H4 := rhide (H2.out.on hb); clear hb H2)
      | (go_at_call 45; refine (HP.out _ H4.out.rx).mono ?_; rintro e5 w5 ⟨rfl, hk⟩; have H5 := rhide (rx_put HM.out H4.out.below hk); clear hk)
      | fail)
    go_ret
    first
      | exact ⟨rfl, H5.out⟩
      | exact ⟨rfl, rx_same HM.out H2.out.below⟩
end Go.Proofs.YtfmkhjbahgcgiaaGreatDoor.Ppgtbl
