/- The document's Unmap, Cons, Decons, Used. -/
import Derived.Test.YtfmkhjbahgcgiaaGreatDoorPgtS
namespace Go.Proofs.YtfmkhjbahgcgiaaGreatDoor.Ppgtbl
open Go.Proofs.YtfmkhjbahgcgiaaGreatDoor.Pbase Go.Proofs.YtfmkhjbahgcgiaaGreatDoor.Pmem
open Go.RowKit
set_option linter.unusedVariables false

/-- A block that begins with a Bool is none of the document's memory. -/
theorem ref_apart {w w' : World} {base q N : Nat} {M : Nat → Nat → Int} {B : Nat} {z : Bool} (h : RefIs w base q N M) (hN : 1 ≤ N) (hB : w.cell? ⟨B, 0, none⟩ = some (.bool z)) (hk : ∀ k, k ≠ B → w'.heap[k]? = w.heap[k]?) : RefIs w' base q N M := by
  obtain ⟨hb, v0, hv, r, cc, h1, h2, h3⟩ := h
  rcases h1.2 with ⟨_, e⟩ | ⟨g, cap, cur, e, hg, hh, rest⟩
  · omega
  · refine ⟨hb, v0, ?_, r, cc, ⟨h1.1, .inr ⟨g, cap, cur, e, hg, ?_, rest⟩⟩, fun j hj => ?_, h3⟩
    · rw [hk q (by rintro rfl; rw [cell_of_row _ _ _ _ _ _ hv, e] at hB; simp at hB)]; exact hv
    · subst e
      rw [hk g (by rintro rfl; rw [h1.cellAt 0 (by omega)] at hB; simp at hB)]; exact hh
    · obtain ⟨hbj, cu, hc, hw⟩ := h2 j hj
      refine ⟨hbj, cu, ?_, hw⟩
      rw [hk (r j) (by intro e; rw [← e, cell_of_row _ _ _ _ _ _ hc, hw 0 (by omega)] at hB; simp at hB)]; exact hc
/-- Four cells of a result, written. -/
theorem put4_other (w : World) (B : Nat) (a b c d : Value) (k : Nat) (hk : k ≠ B) : ((((w.setCell ⟨B, 0, none⟩ a).setCell ⟨B, 1, none⟩ b).setCell ⟨B, 2, none⟩ c).setCell ⟨B, 3, none⟩ d).heap[k]? = w.heap[k]? := by
  rw [heap_setCell_other _ _ _ _ hk, heap_setCell_other _ _ _ _ hk, heap_setCell_other _ _ _ _ hk, heap_setCell_other _ _ _ _ hk]
theorem put4_below {w0 w : World} {base B : Nat} (h : Below base w0 w) (hB : base ≤ B) (a b c d : Value) : Below base w0 ((((w.setCell ⟨B, 0, none⟩ a).setCell ⟨B, 1, none⟩ b).setCell ⟨B, 2, none⟩ c).setCell ⟨B, 3, none⟩ d) :=
  (((h.setCell (p := ⟨B, 0, none⟩) hB a).setCell (p := ⟨B, 1, none⟩) hB b).setCell (p := ⟨B, 2, none⟩) hB c).setCell (p := ⟨B, 3, none⟩) hB d
/-- The document's memory behind what is stored into the result. -/
theorem rx_res {w w9 : World} {base q N : Nat} {M M' : Nat → Nat → Int} {o : Bool} (hM : Rx w base q N M) (h : Rx w9 base q N M' ∧ Below base w w9 ∧ Keep w w9) (hx : w9.cell? ⟨w.heap.size, 0, none⟩ = some (.bool o)) (a b c d : Value) : Rx ((((w9.setCell ⟨w.heap.size, 0, none⟩ a).setCell ⟨w.heap.size, 1, none⟩ b).setCell ⟨w.heap.size, 2, none⟩ c).setCell ⟨w.heap.size, 3, none⟩ d) base q N M' ∧ Below base w ((((w9.setCell ⟨w.heap.size, 0, none⟩ a).setCell ⟨w.heap.size, 1, none⟩ b).setCell ⟨w.heap.size, 2, none⟩ c).setCell ⟨w.heap.size, 3, none⟩ d) ∧ Keep w ((((w9.setCell ⟨w.heap.size, 0, none⟩ a).setCell ⟨w.heap.size, 1, none⟩ b).setCell ⟨w.heap.size, 2, none⟩ c).setCell ⟨w.heap.size, 3, none⟩ d) := by
  have ho := put4_other w9 w.heap.size a b c d
  have hb : Below base w9 ((((w9.setCell ⟨w.heap.size, 0, none⟩ a).setCell ⟨w.heap.size, 1, none⟩ b).setCell ⟨w.heap.size, 2, none⟩ c).setCell ⟨w.heap.size, 3, none⟩ d) := put4_below (Below.refl _ _) (rx_le hM) _ _ _ _
  exact ⟨h.1.turn (ref_apart h.1.ref h.1.n1 hx ho) h.1.fit, h.2.1.trans hb, Nat.le_trans h.2.2.1 hb.size, fun B z hB hz => (ho B (Nat.ne_of_lt (World.block_lt_of_cell? w _ hB))).trans (h.2.2.2 B z hB hz)⟩
theorem rp_keep {w0 w7 w9 : World} {base q N : Nat} {M : Nat → Nat → Int} {D : Nat} {o : Bool} {f r t : Int} (h : Rp w0 w7 base q N M D o f r t) (hK : Keep w7 w9) :
    w9.cell? ⟨D, 0, none⟩ = some (.bool o) ∧ w9.cell? ⟨D, 1, none⟩ = some (.int .i64 f) ∧ w9.cell? ⟨D, 2, none⟩ = some (.int .i64 r) ∧ w9.cell? ⟨D, 3, none⟩ = some (.int .i64 t) :=
  ⟨(hK.box h.box).c0, (hK.box h.box).c1, (hK.box h.box).c2, (hK.box h.box).c3⟩
theorem rp_put {w0 w7 w9 : World} {base q N : Nat} {M : Nat → Nat → Int} {D : Nat} {o : Bool} {f r t : Int} (h : Rp w0 w7 base q N M D o f r t) (hK : Keep w7 w9) (a b c d : Value) :
    ((((w9.setCell ⟨w0.heap.size, 0, none⟩ a).setCell ⟨w0.heap.size, 1, none⟩ b).setCell ⟨w0.heap.size, 2, none⟩ c).setCell ⟨w0.heap.size, 3, none⟩ d).cell? ⟨D, 0, none⟩ = some (.bool o) ∧ ((((w9.setCell ⟨w0.heap.size, 0, none⟩ a).setCell ⟨w0.heap.size, 1, none⟩ b).setCell ⟨w0.heap.size, 2, none⟩ c).setCell ⟨w0.heap.size, 3, none⟩ d).cell? ⟨D, 1, none⟩ = some (.int .i64 f) ∧ ((((w9.setCell ⟨w0.heap.size, 0, none⟩ a).setCell ⟨w0.heap.size, 1, none⟩ b).setCell ⟨w0.heap.size, 2, none⟩ c).setCell ⟨w0.heap.size, 3, none⟩ d).cell? ⟨D, 2, none⟩ = some (.int .i64 r) ∧ ((((w9.setCell ⟨w0.heap.size, 0, none⟩ a).setCell ⟨w0.heap.size, 1, none⟩ b).setCell ⟨w0.heap.size, 2, none⟩ c).setCell ⟨w0.heap.size, 3, none⟩ d).cell? ⟨D, 3, none⟩ = some (.int .i64 t) := by
  have hb := put4_other w9 w0.heap.size a b c d D (Nat.ne_of_gt h.ne)
  have hk := rp_keep h hK
  generalize ((((w9.setCell ⟨w0.heap.size, 0, none⟩ a).setCell ⟨w0.heap.size, 1, none⟩ b).setCell ⟨w0.heap.size, 2, none⟩ c).setCell ⟨w0.heap.size, 3, none⟩ d) = w10 at hb ⊢
  have e : ∀ j, w10.cell? ⟨D, j, none⟩ = w9.cell? ⟨D, j, none⟩ := fun j => World.cell?_of_block (w := w9) hb
  exact ⟨(e 0).trans hk.1, (e 1).trans hk.2.1, (e 2).trans hk.2.2.1, (e 3).trans hk.2.2.2⟩
/-! ### Unmap -/
set_option maxRecDepth 100000 in
set_option maxHeartbeats 4000000 in
theorem runmap_any (base q N : Nat) (root page now : Int) (M : Nat → Nat → Int) (w : World) (h : Rx w base q N M) :
    Calls Tryz.prog 23 #[.pointer (some ⟨q, 0, none⟩), .int .i64 root, .int .i64 page, .int .i64 now] w fun x w' => x = .returned (.tuple #[.agg #[.bool (unO N M root page now), .int .i64 (unF N M root page now), .int .i64 (unR N M root page now), .int .i64 (unT N M root page now)], .int .i64 (unE N M root page now)]) ∧ Rx w' base q N (unM N M root page now) ∧ Below base w w' ∧ Keep w w' := by
  have HM := rhide h
  have HS : Hid (∀ ty, Rs w (w.alloc (.cells #[.bool false, .int .i64 0, .int .i64 0, .int .i64 0] ty)) base q N M) := fun ty => rs_new h ty
  clear h
  have eM : unM N M root page now = if unE N M root page now = 0 then seM N M (lfF N M root page) (page % 32) false 0 0 now else M := rfl
  by_cases ht : tiB now = true
  case neg =>
    have e0 : unE N M root page now = 1 := by simp [unE, ht]
    have e1 : unO N M root page now = false := by simp [unO, ht]
    have e2 : unF N M root page now = 0 := by simp [unF, ht]
    have e3 : unR N M root page now = 0 := by simp [unR, ht]
    have e4 : unT N M root page now = 0 := by simp [unT, ht]
    rw [eM, e0, e1, e2, e3, e4, if_neg (by decide)]
    have hk : now < 1 ∨ ¬ now < 1 ∧ 1073741824 < now := by
      rw [tiB_iff] at ht
      omega
    have HB := rhide (HS.out 42).below
    clear eM e0 e1 e2 e3 e4 ht
    rcases hk with h0 | ⟨h0, h1⟩
    all_goals
      go_enter Tryz.func23, Tryz.ntmps23
      go_wp2
      refine bodyPost_ret (v := .tuple #[.agg #[.bool false, .int .i64 0, .int .i64 0, .int .i64 0], .int .i64 1]) (by simp [results, Tryz.results23, go_sem]) rfl ⟨rfl, ?_⟩
      first
        | exact rx_same HM.out HB.out
        | exact rx_same HM.out (res4 HB.out _ _ _ _)
  have hti := (tiB_iff now).1 ht
  have h0 : ¬ now < 1 := by omega
  have h1 : ¬ 1073741824 < now := by omega
  have e0 : unE N M root page now = wkE N M root page := by simp [unE, ht]
  have e1 : unO N M root page now = wkO N M root page := by simp [unO, ht]
  have e2 : unF N M root page now = wkF N M root page := by simp [unF, ht]
  have e3 : unR N M root page now = wkR N M root page := by simp [unR, ht]
  have e4 : unT N M root page now = wkT N M root page := by simp [unT, ht]
  have HL : Hid (∀ wc, Rs w wc base q N M → Calls Tryz.prog 13 #[.pointer (some ⟨q, 0, none⟩), .int .i64 root, .int .i64 page] wc fun x w' => x = .returned (.tuple #[.agg #[.bool (wkO N M root page), .int .i64 (wkF N M root page), .int .i64 (wkR N M root page), .int .i64 (wkT N M root page)], .int .i64 (wkE N M root page)]) ∧ Below wc.heap.size wc w') := fun wc hc => rwalk_any base q N root page M wc hc.rx
  rw [eM, e0, e1, e2, e3, e4]
  by_cases hE : wkE N M root page = 0
  case neg =>
    have f1 : wkO N M root page = false := by simp [wkO, hE]
    have f2 : wkF N M root page = 0 := by simp [wkF, hE]
    have f3 : wkR N M root page = 0 := by simp [wkR, hE]
    have f4 : wkT N M root page = 0 := by simp [wkT, hE]
    rw [if_neg hE, f1, f2, f3, f4]
    rw [f1, f2, f3, f4] at HL
    generalize wkE N M root page = E at HL hE ⊢
    have hE' : (E != 0) = true := by simp [hE]
    clear eM e0 e1 e2 e3 e4 f1 f2 f3 f4 hE ht hti
    go_enter Tryz.func23, Tryz.ntmps23
    go_upto_region 4 with (first
      | (go_at_call 13; refine (HL.out _ (HS.out _)).mono ?_; rintro e1 w1 ⟨rfl, hb⟩; have H1 := ((HS.out _).on hb).read false 0 0 0 42; clear hb HS)
      | fail)
    generalize w1.alloc _ = w2 at H1 ⊢
    generalize w1.heap.size = D at H1 ⊢
    have H2 := rhide H1
    clear H1
    have x0 := H2.out.rs.res.c0
    have x1 := H2.out.rs.res.c1
    have x2 := H2.out.rs.res.c2
    have x3 := H2.out.rs.res.c3
    have z0 := H2.out.rs.res.fz 0
    have z1 := H2.out.rs.res.fz 1
    have z2 := H2.out.rs.res.fz 2
    have z3 := H2.out.rs.res.fz 3
    have xl := H2.out.rs.res.lt
    go_wp2
    refine bodyPost_ret (v := .tuple #[.agg #[.bool false, .int .i64 0, .int .i64 0, .int .i64 0], .int .i64 E]) (by simp [results, Tryz.results23, go_sem, x0, x1, x2, x3]) rfl ⟨rfl, ?_⟩
    exact rx_same HM.out (res4 H2.out.rs.below _ _ _ _)
  have hs := un_set (now := now) (show unE N M root page now = 0 by rw [e0]; exact hE)
  have hl := hs.2.2.2.1
  have hp : 0 ≤ page ∧ page < 1024 := by
    rw [← okG_iff]
    unfold lfE at hl
    by_cases k : okG page = true
    · exact k
    · rw [if_neg k] at hl; cases hl
  have HZ := rhide hs.2.2.2.2.2
  have HF : Hid (∀ wc, Below w.heap.size w wc → Calls Tryz.prog 35 #[.pointer (some ⟨q, 0, none⟩), .int .i64 root, .int .i64 page] wc fun x w' => x = .returned (.tuple #[.int .i64 (lfF N M root page), .int .i64 0]) ∧ Below wc.heap.size wc w') := fun wc hb => by
    have := rleaf_any base q N root page M wc (HM.out.grown hb)
    rwa [hl] at this
  rw [if_pos hE, hE]
  rw [hE] at HL
  generalize wkO N M root page = O at HL ⊢
  generalize wkF N M root page = G at HL ⊢
  generalize wkR N M root page = R at HL ⊢
  generalize wkT N M root page = T at HL ⊢
  generalize lfF N M root page = F at HF HZ ⊢
  have HP : Hid (∀ wc, Rx wc base q N M → Calls Tryz.prog 45 #[.pointer (some ⟨q, 0, none⟩), .int .i64 F, .int .i64 (page % 32), .agg #[.bool false, .int .i64 0, .int .i64 0, .int .i64 now]] wc fun x w' => x = .returned (.int .i64 0) ∧ Rx w' base q N (seM N M F (page % 32) false 0 0 now) ∧ Below base wc w' ∧ Keep wc w') := fun wc hc => by
    have := rset_any base q N F (page % 32) false 0 0 now M wc hc (by omega)
    rwa [HZ.out] at this
  have hZm : page.tmod 32 = page % 32 := Int.tmod_eq_emod_of_nonneg hp.1
  clear eM e0 e1 e2 e3 e4 hE ht hti hs hl hp HZ
  generalize seM N M F (page % 32) false 0 0 now = M' at HP ⊢
  generalize page % 32 = Zm at HP hZm
  go_enter Tryz.func23, Tryz.ntmps23
  go_upto_region 4 with (first
    | (go_at_call 13; refine (HL.out _ (HS.out _)).mono ?_; rintro e1 w1 ⟨rfl, hb⟩; have H1 := ((HS.out _).on hb).read O G R T 42; clear hb HS)
    | fail)
  generalize w1.alloc _ = w2 at H1 ⊢
  generalize w1.heap.size = D at H1 ⊢
  have H3 := rhide H1
  clear H1
  go_upto_region 7 with (first
    | (go_at_call 35; refine (HF.out _ H3.out.rs.below).mono ?_; rintro e4 w4 ⟨rfl, hb⟩; have H4 := rhide (H3.out.on hb); clear hb H3)
    | fail)
  go_region_held3 (fun w' => w'.cell? ⟨D, 0, none⟩ = some (.bool O) ∧ w'.cell? ⟨D, 1, none⟩ = some (.int .i64 G) ∧ w'.cell? ⟨D, 2, none⟩ = some (.int .i64 R) ∧ w'.cell? ⟨D, 3, none⟩ = some (.int .i64 T)) (first | with_reducible exact rp_put H4.out KP.out _ _ _ _ | with_reducible exact rp_keep H4.out KP.out | with_reducible exact rp_keep H4.out (Keep.of_below (Below.refl _ _).drew))
  (first
    | (go_at_call 45; refine (HP.out _ (by first | exact (H4.out.on (Below.refl _ _).drew).rs.rx | exact H4.out.rs.rx)).mono ?_; rintro e9 w9 ⟨rfl, hR9, hB9, hK9⟩; have KP : Hid (Keep w4 w9) := (by first | exact hK9 | exact (Keep.of_below (Below.refl _ _).drew).trans hK9); have H9 := rhide (rx_put HM.out H4.out.rs.below ⟨hR9, (by first | exact hB9 | exact ((Below.refl _ _).drew).trans hB9), KP.out⟩); have HX := rhide (KP.out.box H4.out.rs.res); clear hR9 hB9 hK9; have x0 := HX.out.c0; have x1 := HX.out.c1; have x2 := HX.out.c2; have x3 := HX.out.c3; have z0 := HX.out.fz 0; have z1 := HX.out.fz 1; have z2 := HX.out.fz 2; have z3 := HX.out.fz 3)
    | fail)
  go_wp2
  refine bodyPost_ret (v := .tuple #[.agg #[.bool O, .int .i64 G, .int .i64 R, .int .i64 T], .int .i64 0]) (by simp [results, Tryz.results23, go_sem, x0, x1, x2, x3]) rfl ⟨rfl, ?_⟩
  exact rx_res HM.out H9.out HX.out.c0 _ _ _ _
/-! ### Cons -/
set_option maxRecDepth 100000 in
set_option maxHeartbeats 4000000 in
theorem rcons_any (base q N : Nat) (root high f floor : Int) (M : Nat → Nat → Int) (w : World) (h : Rx w base q N M) :
    Calls Tryz.prog 25 #[.pointer (some ⟨q, 0, none⟩), .int .i64 root, .int .i64 high, .int .i64 f, .int .i64 floor] w fun x w' => x = .returned (.int .i64 (coE N M root high f floor)) ∧ Rx w' base q N (coM N M root high f floor) ∧ Below base w w' ∧ Keep w w' := by
  have HM := rhide h
  clear h
  have eM : coM N M root high f floor = if coE N M root high f floor = 0 then seM N M root high true f 3 0 else M := rfl
  by_cases hi : okI high = true
  case neg =>
    have e0 : coE N M root high f floor = 1 := by simp [coE, hi]
    rw [eM, e0, if_neg (by decide)]
    have hk : high < 0 ∨ ¬ high < 0 ∧ 32 ≤ high := by
      rw [okI_iff] at hi
      omega
    clear eM e0 hi
    rcases hk with h0 | ⟨h0, h1⟩
    all_goals
      go_enter Tryz.func25, Tryz.ntmps25
      go_wp2
      go_ret
      exact ⟨rfl, rx_same HM.out (Below.refl _ _)⟩
  have hI := (okI_iff high).1 hi
  have h0 : ¬ high < 0 := by omega
  have h1 : ¬ 32 ≤ high := by omega
  have HT : Hid (∀ wc, Below w.heap.size w wc → Calls Tryz.prog 51 #[.pointer (some ⟨q, 0, none⟩), .int .i64 root, .int .i64 0] wc fun x w' => x = .returned (.bool (tbB N M root 0)) ∧ Below wc.heap.size wc w') := fun wc hb => rtable_any base q N root 0 M wc (HM.out.grown hb)
  have HU : Hid (∀ wc, Below w.heap.size w wc → Calls Tryz.prog 51 #[.pointer (some ⟨q, 0, none⟩), .int .i64 f, .int .i64 1] wc fun x w' => x = .returned (.bool (tbB N M f 1)) ∧ Below wc.heap.size wc w') := fun wc hb => rtable_any base q N f 1 M wc (HM.out.grown hb)
  have HG : Hid (∀ wc, Below w.heap.size w wc → Calls Tryz.prog 36 #[.pointer (some ⟨q, 0, none⟩), .int .i64 root, .int .i64 high] wc fun x w' => x = .returned (.tuple #[.agg #[.bool (enO N M root high), .int .i64 (enF N M root high), .int .i64 (enR N M root high), .int .i64 (enT N M root high)], .int .i64 (enE N M root high)]) ∧ Below wc.heap.size wc w') := fun wc hb => rentry_any base q N root high M wc (HM.out.grown hb) hI
  have HQ : Hid (∀ wc, Calls Tryz.prog 44 #[.agg #[.bool (enO N M root high), .int .i64 (enF N M root high), .int .i64 (enR N M root high), .int .i64 (enT N M root high)], .int .i64 floor] wc fun e w' => e = .returned (.bool (enQ N M root high floor)) ∧ Below wc.heap.size wc w') := fun wc => Ppte.rquiet_any _ _ _ _ floor wc
  have HP : Hid (∀ wc, Rx wc base q N M → Calls Tryz.prog 45 #[.pointer (some ⟨q, 0, none⟩), .int .i64 root, .int .i64 high, .agg #[.bool true, .int .i64 f, .int .i64 3, .int .i64 0]] wc fun x w' => x = .returned (.int .i64 (seE N root high true f 3 0)) ∧ Rx w' base q N (seM N M root high true f 3 0) ∧ Below base wc w' ∧ Keep wc w') := fun wc hc => rset_any base q N root high true f 3 0 M wc hc hI
  clear hI
  by_cases h2 : tbB N M root 0 = true
  case neg =>
    have e0 : coE N M root high f floor = 4 := by simp [coE, hi, h2]
    rw [eM, e0, if_neg (by decide)]
    rw [show tbB N M root 0 = false by simpa using h2] at HT
    clear eM e0 hi h2 HU HG HQ HP
    go_enter Tryz.func25, Tryz.ntmps25
    go_wp2_with (first
      | (go_at_call 51; with_reducible refine (HT.out _ (Below.refl _ _)).mono ?_; rintro e1 w1 ⟨rfl, hb⟩; have H1 := rhide hb; clear hb)
      | fail)
    go_ret
    exact ⟨rfl, rx_same HM.out H1.out⟩
  rw [h2] at HT
  by_cases h3 : tbB N M f 1 = true
  case neg =>
    have e0 : coE N M root high f floor = 4 := by simp [coE, hi, h3]
    rw [eM, e0, if_neg (by decide)]
    rw [show tbB N M f 1 = false by simpa using h3] at HU
    clear eM e0 hi h2 h3 HG HQ HP
    go_enter Tryz.func25, Tryz.ntmps25
    go_wp2_with (first
      | (go_at_call 51; with_reducible refine (HT.out _ (Below.refl _ _)).mono ?_; rintro e1 w1 ⟨rfl, hb⟩; have H1 := rhide hb; clear hb HT)
      | (go_at_call 51; with_reducible refine (HU.out _ H1.out).mono ?_; rintro e2 w2 ⟨rfl, hb⟩; have H2 := rhide (H1.out.trans (hb.mono H1.out.size)); clear hb)
      | fail)
    go_ret
    exact ⟨rfl, rx_same HM.out H2.out⟩
  rw [h3] at HU
  have HZ : Hid (coE N M root high f floor = 0 → seE N root high true f 3 0 = 0) := fun k => (co_set HM.out.n64 k).2.2
  have e1 : coE N M root high f floor = if enE N M root high = 0 then if enO N M root high = true then 10 else if enQ N M root high floor = true then 0 else 6 else enE N M root high := by unfold coE; rw [if_pos hi, if_pos ⟨h2, h3⟩]
  generalize hX : coE N M root high f floor = X at eM e1 HZ ⊢
  generalize hY : coM N M root high f floor = M' at eM ⊢
  generalize enO N M root high = O at HG HQ e1
  generalize enF N M root high = G at HG HQ
  generalize enR N M root high = R at HG HQ
  generalize enT N M root high = T at HG HQ
  generalize enE N M root high = E at HG e1
  generalize enQ N M root high floor = U at HQ e1
  have HXX : Hid ((E ≠ 0 → X = E ∧ M' = M) ∧ (E = 0 → O = true → X = 10 ∧ M' = M) ∧ (E = 0 → O = false → U = false → X = 6 ∧ M' = M) ∧ (E = 0 → O = false → U = true → X = 0 ∧ M' = seM N M root high true f 3 0 ∧ seE N root high true f 3 0 = 0)) := by
    refine ⟨fun h => ?_, fun h h' => ?_, fun h h' h'' => ?_, fun h h' h'' => ?_⟩
    · rw [if_neg h] at e1; subst e1; exact ⟨rfl, by rw [eM, if_neg h]⟩
    · rw [if_pos h, if_pos h'] at e1; subst e1; exact ⟨rfl, by rw [eM]; rfl⟩
    · subst h' h''; rw [if_pos h] at e1; simp at e1; subst e1; exact ⟨rfl, by rw [eM]; rfl⟩
    · subst h' h''; rw [if_pos h] at e1; simp at e1; subst e1; exact ⟨rfl, by rw [eM]; rfl, HZ.out rfl⟩
  have hc : (E ≠ 0 ∧ (E != 0) = true) ∨ (E = 0 ∧ O = true) ∨ (E = 0 ∧ O = false ∧ U = false) ∨ (E = 0 ∧ O = false ∧ U = true) := by
    by_cases hE : E = 0
    · cases O <;> cases U <;> simp [hE]
    · simp [hE]
  clear eM e1 HZ hX hY hi h2 h3
  go_enter Tryz.func25, Tryz.ntmps25
  go_upto_region 6 with (first
    | (go_at_call 51; with_reducible refine (HT.out _ (Below.refl _ _)).mono ?_; rintro e1 w1 ⟨rfl, hb⟩; have H1 := rhide hb; clear hb HT)
    | (go_at_call 51; with_reducible refine (HU.out _ H1.out).mono ?_; rintro e2 w2 ⟨rfl, hb⟩; have H2 := rhide (H1.out.trans (hb.mono H1.out.size)); clear hb HU)
    | (go_at_call 36; with_reducible refine (HG.out _ H2.out).mono ?_; rintro e3 w3 ⟨rfl, hb⟩; have H3 := rb_read HM.out (H2.out.trans (hb.mono H2.out.size)) O G R T 42; clear hb HG)
    | fail)
  generalize w3.alloc _ = w4 at H3 ⊢
  generalize w3.heap.size = D at H3 ⊢
  clear H1 H2
  rcases hc with ⟨hE, hE'⟩ | ⟨rfl, rfl⟩ | ⟨rfl, rfl, rfl⟩ | ⟨rfl, rfl, rfl⟩
  · have HV := rhide (HXX.out.1 hE)
    have H4 := rhide H3
    clear H3 hE HXX
    go_wp2
    go_ret
    rw [HV.out.1, HV.out.2]
    exact ⟨rfl, rx_same HM.out H4.out.below⟩
  · have HV := rhide (HXX.out.2.1 rfl rfl)
    have H4 := rhide H3
    clear H3 HXX
    have y0 := H4.out.box.c0
    have yl := H4.out.box.lt
    go_wp2
    go_ret
    rw [HV.out.1, HV.out.2]
    exact ⟨rfl, rx_same HM.out H4.out.below⟩
  · have HV := rhide (HXX.out.2.2.1 rfl rfl rfl)
    have H4 := rhide H3
    clear H3 HXX
    have y0 := H4.out.box.c0
    have y1 := H4.out.box.c1
    have y2 := H4.out.box.c2
    have y3 := H4.out.box.c3
    have yl := H4.out.box.lt
    go_wp2_with (first
      | (go_at_call 44; with_reducible refine (HQ.out _).mono ?_; rintro e5 w5 ⟨rfl, hb⟩; have H5 := rhide (H4.out.on hb); clear hb)
      | fail)
    go_ret
    rw [HV.out.1, HV.out.2]
    exact ⟨rfl, rx_same HM.out H5.out.below⟩
  · have HV := rhide (HXX.out.2.2.2 rfl rfl rfl)
    have H4 := rhide H3
    rw [HV.out.2.2] at HP
    clear H3 HXX
    have y0 := H4.out.box.c0
    have y1 := H4.out.box.c1
    have y2 := H4.out.box.c2
    have y3 := H4.out.box.c3
    have yl := H4.out.box.lt
    go_wp2_with (first
      | (go_at_call 44; with_reducible refine (HQ.out _).mono ?_; rintro e5 w5 ⟨rfl, hb⟩; have H5 := rhide (H4.out.on hb); clear hb)
      | (go_at_call 45; with_reducible refine (HP.out _ H5.out.rx).mono ?_; rintro e6 w6 ⟨rfl, hk⟩; have H6 := rhide (rx_put HM.out H5.out.below hk); clear hk)
      | fail)
    go_ret
    rw [HV.out.1, HV.out.2.1]
    exact ⟨rfl, H6.out⟩
/-! ### Decons -/
set_option maxRecDepth 100000 in
set_option maxHeartbeats 4000000 in
theorem rdecons_any (base q N : Nat) (root high now : Int) (M : Nat → Nat → Int) (w : World) (h : Rx w base q N M) :
    Calls Tryz.prog 27 #[.pointer (some ⟨q, 0, none⟩), .int .i64 root, .int .i64 high, .int .i64 now] w fun x w' => x = .returned (.tuple #[.int .i64 (deF N M root high now), .int .i64 (deE N M root high now)]) ∧ Rx w' base q N (deM N M root high now) ∧ Below base w w' ∧ Keep w w' := by
  have HM := rhide h
  clear h
  have eM : deM N M root high now = if deE N M root high now = 0 then seM N M root high false 0 0 now else M := rfl
  have eF : deF N M root high now = if deE N M root high now = 0 then enF N M root high else 0 := rfl
  by_cases hi : okI high = true ∧ tiB now = true
  case neg =>
    have e0 : deE N M root high now = 1 := by unfold deE; rw [if_neg hi]
    rw [eM, eF, e0, if_neg (by decide), if_neg (by decide)]
    have hk : high < 0 ∨ (¬ high < 0 ∧ 32 ≤ high) ∨ (¬ high < 0 ∧ ¬ 32 ≤ high ∧ now < 1) ∨ ¬ high < 0 ∧ ¬ 32 ≤ high ∧ ¬ now < 1 ∧ 1073741824 < now := by
      rw [okI_iff, tiB_iff] at hi
      omega
    clear eM eF e0 hi
    rcases hk with h0 | ⟨h0, h1⟩ | ⟨h0, h1, h2⟩ | ⟨h0, h1, h2, h3⟩
    all_goals
      go_enter Tryz.func27, Tryz.ntmps27
      go_wp2
      go_ret2
      exact ⟨rfl, rx_same HM.out (Below.refl _ _)⟩
  have hI := (okI_iff high).1 hi.1
  have hT := (tiB_iff now).1 hi.2
  have h0 : ¬ high < 0 := by omega
  have h1 : ¬ 32 ≤ high := by omega
  have h2 : ¬ now < 1 := by omega
  have h3 : ¬ 1073741824 < now := by omega
  have HT : Hid (∀ wc, Below w.heap.size w wc → Calls Tryz.prog 51 #[.pointer (some ⟨q, 0, none⟩), .int .i64 root, .int .i64 0] wc fun x w' => x = .returned (.bool (tbB N M root 0)) ∧ Below wc.heap.size wc w') := fun wc hb => rtable_any base q N root 0 M wc (HM.out.grown hb)
  have HG : Hid (∀ wc, Below w.heap.size w wc → Calls Tryz.prog 36 #[.pointer (some ⟨q, 0, none⟩), .int .i64 root, .int .i64 high] wc fun x w' => x = .returned (.tuple #[.agg #[.bool (enO N M root high), .int .i64 (enF N M root high), .int .i64 (enR N M root high), .int .i64 (enT N M root high)], .int .i64 (enE N M root high)]) ∧ Below wc.heap.size wc w') := fun wc hb => rentry_any base q N root high M wc (HM.out.grown hb) hI
  have HP : Hid (∀ wc, Rx wc base q N M → Calls Tryz.prog 45 #[.pointer (some ⟨q, 0, none⟩), .int .i64 root, .int .i64 high, .agg #[.bool false, .int .i64 0, .int .i64 0, .int .i64 now]] wc fun x w' => x = .returned (.int .i64 (seE N root high false 0 0 now)) ∧ Rx w' base q N (seM N M root high false 0 0 now) ∧ Below base wc w' ∧ Keep wc w') := fun wc hc => rset_any base q N root high false 0 0 now M wc hc hI
  have HZ : Hid (deE N M root high now = 0 → seE N root high false 0 0 now = 0) := fun k => (de_set k).2.2
  clear hI hT
  by_cases h4 : tbB N M root 0 = true
  case neg =>
    have e0 : deE N M root high now = 4 := by unfold deE; rw [if_pos hi, if_neg h4]
    rw [eM, eF, e0, if_neg (by decide), if_neg (by decide)]
    rw [show tbB N M root 0 = false by simpa using h4] at HT
    clear eM eF e0 hi h4 HG HP HZ
    go_enter Tryz.func27, Tryz.ntmps27
    go_wp2_with (first
      | (go_at_call 51; with_reducible refine (HT.out _ (Below.refl _ _)).mono ?_; rintro e1 w1 ⟨rfl, hb⟩; have H1 := rhide hb; clear hb)
      | fail)
    go_ret2
    exact ⟨rfl, rx_same HM.out H1.out⟩
  rw [h4] at HT
  have e1 : deE N M root high now = if enE N M root high = 0 then if enO N M root high = true then 0 else 3 else enE N M root high := by unfold deE; rw [if_pos hi, if_pos h4]
  generalize hX : deE N M root high now = X at eM eF e1 HZ ⊢
  generalize hY : deM N M root high now = M' at eM ⊢
  generalize hF : deF N M root high now = Y at eF ⊢
  generalize enO N M root high = O at HG e1
  generalize enF N M root high = G at HG eF
  generalize enR N M root high = R at HG
  generalize enT N M root high = T at HG
  generalize enE N M root high = E at HG e1
  have HXX : Hid ((E ≠ 0 → X = E ∧ M' = M ∧ Y = 0) ∧ (E = 0 → O = false → X = 3 ∧ M' = M ∧ Y = 0) ∧ (E = 0 → O = true → X = 0 ∧ M' = seM N M root high false 0 0 now ∧ Y = G ∧ seE N root high false 0 0 now = 0)) := by
    refine ⟨fun h => ?_, fun h h' => ?_, fun h h' => ?_⟩
    · rw [if_neg h] at e1; subst e1; exact ⟨rfl, by rw [eM, if_neg h], by rw [eF, if_neg h]⟩
    · subst h'; rw [if_pos h] at e1; simp at e1; subst e1; exact ⟨rfl, by rw [eM]; rfl, by rw [eF]; rfl⟩
    · rw [if_pos h, if_pos h'] at e1; subst e1; exact ⟨rfl, by rw [eM]; rfl, by rw [eF]; rfl, HZ.out rfl⟩
  have hc : (E ≠ 0 ∧ (E != 0) = true) ∨ (E = 0 ∧ O = false) ∨ (E = 0 ∧ O = true) := by
    by_cases hE : E = 0
    · cases O <;> simp [hE]
    · simp [hE]
  clear eM eF e1 HZ hX hY hF hi h4
  go_enter Tryz.func27, Tryz.ntmps27
  go_upto_region 6 with (first
    | (go_at_call 51; with_reducible refine (HT.out _ (Below.refl _ _)).mono ?_; rintro e1 w1 ⟨rfl, hb⟩; have H1 := rhide hb; clear hb HT)
    | (go_at_call 36; with_reducible refine (HG.out _ H1.out).mono ?_; rintro e3 w3 ⟨rfl, hb⟩; have H3 := rb_read HM.out (H1.out.trans (hb.mono H1.out.size)) O G R T 42; clear hb)
    | fail)
  generalize w3.alloc _ = w4 at H3 ⊢
  generalize w3.heap.size = D at H3 ⊢
  clear HG H1
  rcases hc with ⟨hE, hE'⟩ | ⟨rfl, rfl⟩ | ⟨rfl, rfl⟩
  · have HV := rhide (HXX.out.1 hE)
    have H4 := rhide H3
    clear H3 hE HXX
    go_wp2
    go_ret2
    rw [HV.out.1, HV.out.2.1, HV.out.2.2]
    exact ⟨rfl, rx_same HM.out H4.out.below⟩
  · have HV := rhide (HXX.out.2.1 rfl rfl)
    have H4 := rhide H3
    clear H3 HXX
    have y0 := H4.out.box.c0
    have yl := H4.out.box.lt
    go_wp2
    go_ret2
    rw [HV.out.1, HV.out.2.1, HV.out.2.2]
    exact ⟨rfl, rx_same HM.out H4.out.below⟩
  · have HV := rhide (HXX.out.2.2 rfl rfl)
    have H4 := rhide H3
    rw [HV.out.2.2.2] at HP
    clear H3 HXX
    have y0 := H4.out.box.c0
    have y1 := H4.out.box.c1
    have yl := H4.out.box.lt
    go_upto_region 10 with fail
    go_region_held3 (fun w' => w'.cell? ⟨D, 1, none⟩ = some (.int .i64 G)) (first | with_reducible exact (KP.out.box H4.out.box).c1 | with_reducible exact ((Keep.of_below (Below.refl _ _).drew).box H4.out.box).c1)
    (first
      | (go_at_call 45; refine (HP.out _ (by first | exact (H4.out.on (Below.refl _ _).drew).rx | exact H4.out.rx)).mono ?_; rintro e9 w9 ⟨rfl, hR9, hB9, hK9⟩; have KP : Hid (Keep w4 w9) := (by first | exact hK9 | exact (Keep.of_below (Below.refl _ _).drew).trans hK9); have H9 := rhide (rx_put HM.out H4.out.below ⟨hR9, (by first | exact hB9 | exact ((Below.refl _ _).drew).trans hB9), KP.out⟩); clear hR9 hB9 hK9)
      | fail)
    go_wp2
    go_ret2
    rw [HV.out.1, HV.out.2.1, HV.out.2.2.1]
    exact ⟨rfl, H9.out⟩
/-! ### Used -/
set_option maxRecDepth 100000 in
set_option maxHeartbeats 4000000 in
theorem rused_any (base q N : Nat) (f : Int) (M : Nat → Nat → Int) (w : World) (h : Rx w base q N M) :
    Calls Tryz.prog 17 #[.pointer (some ⟨q, 0, none⟩), .int .i64 f] w fun x w' => x = .returned (.tuple #[.int .i64 (usN N M f), .int .i64 (usE N M f)]) ∧ Below w.heap.size w w' := by
  have HM := rhide h
  have HH := rhide (Phead.hris_any base q N f 2 M w h.n1 h.n64 h.ref h.fit)
  clear h
  by_cases hk : Phead.isE N M f 2 = 0
  case neg =>
    have e0 : usE N M f = 4 := by simp [usE, hk]
    have e1 : usN N M f = 0 := by simp [usN, e0]
    rw [e0, e1]
    generalize Phead.isE N M f 2 = E at HH hk
    have hE : (E != 0) = true := by simp [hk]
    clear e0 e1 hk
    go_enter Tryz.func17, Tryz.ntmps17
    go_wp2_with (first
      | (go_at_call 39; refine HH.out.mono ?_; rintro e1 w1 ⟨rfl, hb⟩; have H1 := rhide hb; clear hb)
      | fail)
    go_ret2
    exact ⟨rfl, H1.out⟩
  have HF : Hid (okF N f = true) := by
    unfold Phead.isE at hk
    by_cases k : Phead.ghE N M f = 0
    · unfold Phead.ghE at k
      by_cases k2 : okF N f = true
      · exact k2
      · rw [if_neg k2] at k; cases k
    · rw [if_neg k] at hk; exact absurd hk k
  have HK := rhide hk
  rw [hk] at HH
  have HG : Hid (∀ (i : Nat) wc, i < 32 → Below w.heap.size w wc → Calls Tryz.prog 36 #[.pointer (some ⟨q, 0, none⟩), .int .i64 f, .int .i64 i] wc fun x w' => x = .returned (.tuple #[.agg #[.bool (enO N M f i), .int .i64 (enF N M f i), .int .i64 (enR N M f i), .int .i64 (enT N M f i)], .int .i64 (enE N M f i)]) ∧ Below wc.heap.size wc w') := fun i wc hi hb => rentry_any base q N f i M wc (HM.out.grown hb) (by omega)
  obtain ⟨X, hX⟩ : ∃ X, usN N M f = X := ⟨_, rfl⟩
  obtain ⟨Y, hY⟩ : ∃ Y, usE N M f = Y := ⟨_, rfl⟩
  rw [hX, hY]
  have HX := rhide hX
  have HY := rhide hY
  clear hX hY hk
  go_enter Tryz.func17, Tryz.ntmps17
  go_wp2_with (first
    | (go_at_call 39; refine HH.out.mono ?_; rintro e1 w1 ⟨rfl, hb⟩; have H1 := rhide hb; clear hb)
    | fail)
  go_loopw [6, 7] (fun n i wr => ∃ k : Nat, k ≤ 32 ∧ i = .int .i64 k ∧ n = .int .i64 (onTo N M f k) ∧ okTo N M f k = true ∧ Below w.heap.size w wr) (fun _ i _ => 32 - (intOf i).toNat)
  case atStart => exact ⟨0, by omega, rfl, rfl, rfl, H1.out⟩
  case round =>
    obtain ⟨k, hk, rfl, rfl, ho, hB⟩ := hrel
    have HO := rhide ho
    have HB := rhide hB
    clear ho hB H1
    by_cases hlt : k < 32
    · have hki : (k : Int) < 32 := by omega
      have hbd := onTo_bd (N := N) (M := M) (f := f) k
      have HN : Hid (onTo N M f (k + 1) = onTo N M f k + if enO N M f k = true then 1 else 0) := rfl
      have HOK : Hid (okTo N M f (k + 1) = (okTo N M f k && decide (enE N M f k = 0))) := rfl
      have HE : Hid (enE N M f k ≠ 0 → enE N M f k = 12) := fun hh => en_form (by rw [okW_en (okI_nat hlt)]; exact HF.out) hh
      have HW : Hid (enE N M f k ≠ 0 → usE N M f = 12 ∧ usN N M f = 0) := fun hh => by
        have e : usE N M f = 12 := by unfold usE; rw [if_pos HK.out, okTo_fail hh hlt]; rfl
        exact ⟨e, by unfold usN; rw [e]; rfl⟩
      have HC := rhide (HG.out k wr hlt HB.out)
      generalize onTo N M f k = C at hbd HN ⊢
      generalize enO N M f k = O at HC HN
      generalize enF N M f k = G at HC
      generalize enR N M f k = R at HC
      generalize enT N M f k = T at HC
      generalize enE N M f k = E at HC HOK HE HW
      by_cases hE : E = 0
      · subst hE
        have HG2 := rhide (show okTo N M f (k + 1) = true by rw [HOK.out, HO.out]; rfl)
        cases O
        · go_wp2_with (first
            | (go_at_call 36; refine HC.out.mono ?_; rintro e2 w2 ⟨rfl, hb⟩; have HR := rhide (rb_read HM.out (HB.out.trans (hb.mono HB.out.size)) false G R T 42); clear hb; have y0 := HR.out.box.c0; have yl := HR.out.box.lt)
            | fail)
          go_roundw
          case rel => exact ⟨k + 1, by omega, by go_num, by rw [HN.out]; simp, HG2.out, HR.out.below⟩
          case measure => simp [intOf]; omega
        · go_wp2_with (first
            | (go_at_call 36; refine HC.out.mono ?_; rintro e2 w2 ⟨rfl, hb⟩; have HR := rhide (rb_read HM.out (HB.out.trans (hb.mono HB.out.size)) true G R T 42); clear hb; have y0 := HR.out.box.c0; have yl := HR.out.box.lt)
            | fail)
          go_roundw
          case rel => exact ⟨k + 1, by omega, by go_num, by rw [HN.out]; simp, HG2.out, HR.out.below⟩
          case measure => simp [intOf]; omega
      · have hE' : (E != 0) = true := by simp [hE]
        have HV := rhide (And.intro (HE.out hE) (HW.out hE))
        clear hE
        go_wp2_with (first
          | (go_at_call 36; refine HC.out.mono ?_; rintro e2 w2 ⟨rfl, hb⟩; have HR := rhide (rb_read HM.out (HB.out.trans (hb.mono HB.out.size)) O G R T 42); clear hb; have y0 := HR.out.box.c0; have yl := HR.out.box.lt)
          | fail)
        go_ret2
        refine ⟨?_, HR.out.below⟩
        rw [← HX.out, ← HY.out, HV.out.2.1, HV.out.2.2, HV.out.1]
        rfl
    · obtain rfl : k = 32 := by omega
      go_wp2
      go_ret2
      have e : usE N M f = 0 := by unfold usE; rw [if_pos HK.out, if_pos HO.out]
      refine ⟨?_, HB.out⟩
      rw [← HX.out, ← HY.out, e]
      unfold usN
      rw [if_pos e]
      rfl
end Go.Proofs.YtfmkhjbahgcgiaaGreatDoor.Ppgtbl
