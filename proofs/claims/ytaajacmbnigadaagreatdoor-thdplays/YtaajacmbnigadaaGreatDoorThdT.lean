/- What the document's Get and State of layer 18 answer and do, over its own memory (written by mk_doc.py). -/
import Derived.Test.YtaajacmbnigadaaGreatDoorThdS
namespace Go.Proofs.YtaajacmbnigadaaGreatDoor.Pthd
open Go.Proofs.YtaajacmbnigadaaGreatDoor.Pbase Go.Proofs.YtaajacmbnigadaaGreatDoor.Pfield Go.Proofs.YtaajacmbnigadaaGreatDoor.Play Go.Proofs.YtaajacmbnigadaaGreatDoor.Pmem
open Go.RowKit M
set_option linter.unusedVariables false

/-- The document's memory, the result of Get, and what was laid since. -/
structure Rg (w W : World) (base q N : Nat) (M : Nat → Nat → Int) : Prop where
  res : RowT W w.heap.size th0
  rx : Rx W base q N M
  below : Below w.heap.size w W
theorem rg_new {w : World} {base q N : Nat} {M : Nat → Nat → Int} (h : Rx w base q N M) : Rg w (w.alloc (.cells #[.int .i64 0, .int .i64 0, .int .i64 0, .int .i64 0, .int .i64 0] 37)) base q N M :=
  ⟨rowT_new w th0, h.grown (bal (Below.refl _ _) _), bal (Below.refl _ _) _⟩
theorem Rg.on {w W W' : World} {base q N : Nat} {M : Nat → Nat → Int} (h : Rg w W base q N M) (hB : Below W.heap.size W W') : Rg w W' base q N M :=
  ⟨h.res.on hB, h.rx.grown hB, h.below.trans (hB.mono h.below.size)⟩
/-- What is read is the frame's words. -/
def wd (x : Th) (k : Nat) : Int := x.ws[k]?.getD 0
theorem wd_thOf (M : Nat → Nat → Int) (f : Int) (k : Nat) (hk : k < 5) : wd (thOf M f) k = M f.toNat (4 + k) := by
  match k, hk with
  | 0, _ | 1, _ | 2, _ | 3, _ | 4, _ => rfl
theorem ld_in {N : Nat} {M : Nat → Nat → Int} {f : Int} (hf : okF N f = true) {k : Nat} (hk : k < 5) : ldM N M f (4 + (k : Nat)) = wd (thOf M f) k ∧ errW N f (4 + (k : Nat)) = 0 := by
  have h : okW N f (4 + (k : Nat)) = true := by unfold okW; rw [hf]; simp; omega
  unfold ldM errW
  rw [if_pos h, if_pos h, wd_thOf M f k hk]
  exact ⟨by congr 1, rfl⟩
theorem rd_at {N : Nat} {M : Nat → Nat → Int} {f : Int} (hf : okF N f = true) {j : Nat} (hj : j < 5) : (rdL N M f 5)[j]?.getD 0 = wd (thOf M f) j := by
  rw [rdL_at N M f hj]
  exact (ld_in (M := M) hf hj).1
theorem rd_no {N : Nat} {M : Nat → Nat → Int} {f : Int} (hf : okF N f = true) (h : rdB N M f 5 = false) : toB (thOf M f) = false := by
  refine toB_no fun hc => ?_
  unfold rdB at h
  rw [decide_eq_false_iff_not] at h
  apply h
  intro i hi
  rw [(ld_in (M := M) hf hi).1]
  unfold To at hc
  rcases (show i = 0 ∨ i = 1 ∨ i = 2 ∨ i = 3 ∨ i = 4 by omega) with rfl | rfl | rfl | rfl | rfl
  · show (thOf M f).st ≤ _; omega
  · show (thOf M f).co ≤ _; omega
  · show (thOf M f).tc ≤ _; omega
  · show (thOf M f).rc ≤ _; omega
  · show (thOf M f).de ≤ _; omega
set_option maxRecDepth 100000 in
set_option maxHeartbeats 800000 in
theorem rget_any (base q N : Nat) (f : Int) (M : Nat → Nat → Int) (w : World) (h : Rx w base q N M) :
    Calls Tryz.prog 22 #[.pointer (some ⟨q, 0, none⟩), .int .i64 f] w fun e w' => e = .returned (.tuple #[.agg #[.int .i64 (gtT N M f).st, .int .i64 (gtT N M f).co, .int .i64 (gtT N M f).tc, .int .i64 (gtT N M f).rc, .int .i64 (gtT N M f).de], .int .i64 (gtE N M f)]) ∧ Below w.heap.size w w' := by
  have HIs : Hid (∀ wc, Rx wc base q N M → Calls Tryz.prog 40 #[.pointer (some ⟨q, 0, none⟩), .int .i64 f, .int .i64 4] wc fun e w' => e = .returned (.int .i64 (Phead.isE N M f 4)) ∧ Below wc.heap.size wc w') := fun wc h => Phead.hris_any base q N f 4 M wc h.n1 h.n64 h.ref h.fit
  have H0 := rhide (rg_new h)
  clear h
  by_cases hk : Phead.isE N M f 4 = 0
  case neg =>
    have e1 : gtE N M f = 4 := by unfold gtE; rw [if_neg hk]
    have e2 : gtT N M f = th0 := by unfold gtT; rw [if_neg (by rw [e1]; decide)]
    rw [e1, e2]
    generalize Phead.isE N M f 4 = E at HIs hk
    have hE : (E != 0) = true := by simp [hk]
    clear hk e1 e2
    go_enter Tryz.func22, Tryz.ntmps22
    go_wp2_with (first
      | (go_at_call 40; refine (HIs.out _ H0.out.rx).mono ?_; rintro e1 w1 ⟨rfl, hb⟩; have H1 := rhide (H0.out.on hb); clear hb HIs H0; have x0 := H1.out.res.c0; have x1 := H1.out.res.c1; have x2 := H1.out.res.c2; have x3 := H1.out.res.c3; have x4 := H1.out.res.c4; have z := H1.out.res.fz)
      | fail)
    refine bodyPost_ret (v := .tuple #[.agg #[.int .i64 0, .int .i64 0, .int .i64 0, .int .i64 0, .int .i64 0], .int .i64 4]) (by simp [results, Tryz.results22, go_sem, x0, x1, x2, x3, x4]) rfl ⟨rfl, ?_⟩
    exact bst (bst (bst (bst (bst H1.out.below (Nat.le_refl _) _ _) (Nat.le_refl _) _ _) (Nat.le_refl _) _ _) (Nat.le_refl _) _ _) (Nat.le_refl _) _ _
  case pos =>
    have hf := isE_ok hk
    rw [hk] at HIs
    cases hr : rdB N M f 5
    · have hc := rd_no hf hr
      have e1 : gtE N M f = 12 := by unfold gtE; rw [if_pos hk, hc]; rfl
      have e2 : gtT N M f = th0 := by unfold gtT; rw [if_neg (by rw [e1]; decide)]
      rw [e1, e2]
      have HRd : Hid (∀ wc, Rx wc base q N M → Calls Tryz.prog 51 #[.pointer (some ⟨q, 0, none⟩), .int .i64 f, .int .i64 5] wc fun x w' => x = .returned (.tuple #[.slice none 0 0, .bool false]) ∧ Below wc.heap.size wc w') := fun wc h => (rread_any base q N 5 f M wc h (by omega) (by omega)).mono fun x w' ⟨hx, hB⟩ => by
        rcases hx with ⟨_, hx⟩ | ⟨hx, _⟩
        · exact ⟨hx, hB⟩
        · rw [hr] at hx
          cases hx
      clear hk e1 e2 hc hr hf
      go_enter Tryz.func22, Tryz.ntmps22
      go_wp2_with (first
        | (go_at_call 40; refine (HIs.out _ H0.out.rx).mono ?_; rintro e1 w1 ⟨rfl, hb⟩; have H1 := rhide (H0.out.on hb); clear hb HIs H0)
        | (go_at_call 51; refine (HRd.out _ H1.out.rx).mono ?_; rintro e2 w2 ⟨rfl, hb⟩; have H2 := rhide (H1.out.on hb); clear hb HRd H1; have x0 := H2.out.res.c0; have x1 := H2.out.res.c1; have x2 := H2.out.res.c2; have x3 := H2.out.res.c3; have x4 := H2.out.res.c4; have z := H2.out.res.fz)
        | fail)
      refine bodyPost_ret (v := .tuple #[.agg #[.int .i64 0, .int .i64 0, .int .i64 0, .int .i64 0, .int .i64 0], .int .i64 12]) (by simp [results, Tryz.results22, go_sem, x0, x1, x2, x3, x4]) rfl ⟨rfl, ?_⟩
      exact bst (bst (bst (bst (bst H2.out.below (Nat.le_refl _) _ _) (Nat.le_refl _) _ _) (Nat.le_refl _) _ _) (Nat.le_refl _) _ _) (Nat.le_refl _) _ _
    · have HRd : Hid (∀ wc, Rx wc base q N M → Calls Tryz.prog 51 #[.pointer (some ⟨q, 0, none⟩), .int .i64 f, .int .i64 5] wc fun x w' => ∃ g cap, x = .returned (.tuple #[.slice (some ⟨g, 0, none⟩) 5 cap, .bool true]) ∧ Below wc.heap.size wc w' ∧ g < w'.heap.size ∧ ∀ j, j < 5 → w'.cell? ⟨g, j, none⟩ = some (.int .i64 (wd (thOf M f) j))) := fun wc h => (rread_any base q N 5 f M wc h (by omega) (by omega)).mono fun x w' ⟨hx, hB⟩ => by
        rcases hx with ⟨hx, _⟩ | ⟨_, g, cap, hx, _, hg, hl⟩
        · rw [hr] at hx; cases hx
        · exact ⟨g, cap, hx, hB, hg, fun j hj => by rw [hl.cell (by rw [rdL_len]; exact hj), rd_at hf hj]⟩
      have HR : Hid (∀ w1, Calls Tryz.prog 35 #[.agg #[.int .i64 (thOf M f).st, .int .i64 (thOf M f).co, .int .i64 (thOf M f).tc, .int .i64 (thOf M f).rc, .int .i64 (thOf M f).de]] w1 fun e w' => e = .returned (.bool (toB (thOf M f))) ∧ Below w1.heap.size w1 w') := fun w1 => right_any (thOf M f) w1
      have e1 : gtE N M f = if toB (thOf M f) = true then 0 else 12 := by unfold gtE; rw [if_pos hk]
      have e2 : gtT N M f = toX (thOf M f) := by
        unfold gtT toX
        rw [e1]
        cases toB (thOf M f) <;> rfl
      have e3 : toX (thOf M f) = if toB (thOf M f) = true then thOf M f else th0 := rfl
      rw [e1, e2, e3]
      clear e1 e2 e3 hk hr hf
      generalize toB (thOf M f) = R at HR ⊢
      generalize thOf M f = y at HRd HR ⊢
      obtain ⟨A, hA⟩ : ∃ A : Int, A = if R = true then 0 else 12 := ⟨_, rfl⟩
      obtain ⟨B, hB⟩ : ∃ B : Th, B = if R = true then y else th0 := ⟨_, rfl⟩
      rw [← hA, ← hB]
      have HA := rhide hA
      have HB := rhide hB
      clear hA hB
      go_enter Tryz.func22, Tryz.ntmps22
      go_upto_region 6 with (first
        | (go_at_call 40; refine (HIs.out _ H0.out.rx).mono ?_; rintro e1 w1 ⟨rfl, hb⟩; have H1 := rhide (H0.out.on hb); clear hb HIs H0)
        | (go_at_call 51; refine (HRd.out _ H1.out.rx).mono ?_; rintro e2 w2 ⟨g, cap, rfl, hb, hg, hl⟩; have H2 := rhide (H1.out.on hb); have HL := rhide (And.intro hg hl); clear hb hl hg HRd H1)
        | fail)
      have l0 : w2.cell? ⟨g, 0, none⟩ = some (.int .i64 y.st) := HL.out.2 0 (by omega)
      have l1 : w2.cell? ⟨g, 1, none⟩ = some (.int .i64 y.co) := HL.out.2 1 (by omega)
      have l2 : w2.cell? ⟨g, 2, none⟩ = some (.int .i64 y.tc) := HL.out.2 2 (by omega)
      have l3 : w2.cell? ⟨g, 3, none⟩ = some (.int .i64 y.rc) := HL.out.2 3 (by omega)
      have l4 : w2.cell? ⟨g, 4, none⟩ = some (.int .i64 y.de) := HL.out.2 4 (by omega)
      have lg := HL.out.1
      clear HL
      go_wp2
      go_region_held3 (fun w' => w'.cell? ⟨g, 0, none⟩ = some (.int .i64 y.st) ∧ w'.cell? ⟨g, 1, none⟩ = some (.int .i64 y.co) ∧ w'.cell? ⟨g, 2, none⟩ = some (.int .i64 y.tc) ∧ w'.cell? ⟨g, 3, none⟩ = some (.int .i64 y.rc) ∧ w'.cell? ⟨g, 4, none⟩ = some (.int .i64 y.de)) (first | exact ⟨by assumption, by assumption, by assumption, by assumption, by assumption⟩ | go_keep)
      (fail)
      have r3 : RowT (w2.alloc (.cells #[.int .i64 y.st, .int .i64 y.co, .int .i64 y.tc, .int .i64 y.rc, .int .i64 y.de] 37)).drew w2.heap.size y := ⟨(rowT_new w2 y).row⟩
      have h3 : Rg w (w2.alloc (.cells #[.int .i64 y.st, .int .i64 y.co, .int .i64 y.tc, .int .i64 y.rc, .int .i64 y.de] 37)).drew base q N M := H2.out.on ((bal (Below.refl _ _) _).drew)
      have hE : w.heap.size ≠ w2.heap.size := Nat.ne_of_lt H2.out.res.lt
      clear l0 l1 l2 l3 l4 lg H2
      generalize (w2.alloc (.cells #[.int .i64 y.st, .int .i64 y.co, .int .i64 y.tc, .int .i64 y.rc, .int .i64 y.de] 37)).drew = v at r3 h3 ⊢
      generalize w2.heap.size = E at r3 hE ⊢
      have R3 := rhide r3
      have H3 := rhide h3
      clear r3 h3
      have x0 := R3.out.c0
      have x1 := R3.out.c1
      have x2 := R3.out.c2
      have x3 := R3.out.c3
      have x4 := R3.out.c4
      cases R
      · go_wp2_with (first
          | (go_at_call 35; refine (HR.out _).mono ?_; rintro e3 w3 ⟨rfl, hb⟩; have H5 := rhide (H3.out.on hb); have R5 := rhide (R3.out.on hb); clear hb HR H3 R3; have y0 := H5.out.res.c0; have y1 := H5.out.res.c1; have y2 := H5.out.res.c2; have y3 := H5.out.res.c3; have y4 := H5.out.res.c4; have z := H5.out.res.fz)
          | fail)
        refine bodyPost_ret (v := .tuple #[.agg #[.int .i64 0, .int .i64 0, .int .i64 0, .int .i64 0, .int .i64 0], .int .i64 12]) (by simp [results, Tryz.results22, go_sem, y0, y1, y2, y3, y4]) rfl ⟨by rw [HA.out, HB.out]; rfl, ?_⟩
        exact bst (bst (bst (bst (bst H5.out.below (Nat.le_refl _) _ _) (Nat.le_refl _) _ _) (Nat.le_refl _) _ _) (Nat.le_refl _) _ _) (Nat.le_refl _) _ _
      · go_wp2_with (first
          | (go_at_call 35; refine (HR.out _).mono ?_; rintro e3 w3 ⟨rfl, hb⟩; have H5 := rhide (H3.out.on hb); have R5 := rhide (R3.out.on hb); clear hb HR H3 R3; have y0 := H5.out.res.c0; have y1 := H5.out.res.c1; have y2 := H5.out.res.c2; have y3 := H5.out.res.c3; have y4 := H5.out.res.c4; have t0 := R5.out.c0; have t1 := R5.out.c1; have t2 := R5.out.c2; have t3 := R5.out.c3; have t4 := R5.out.c4; have z := H5.out.res.fz)
          | fail)
        refine bodyPost_ret (v := .tuple #[.agg #[.int .i64 y.st, .int .i64 y.co, .int .i64 y.tc, .int .i64 y.rc, .int .i64 y.de], .int .i64 0]) (by simp [results, Tryz.results22, go_sem, y0, y1, y2, y3, y4]) rfl ⟨by rw [HA.out, HB.out]; rfl, ?_⟩
        exact bst (bst (bst (bst (bst H5.out.below (Nat.le_refl _) _ _) (Nat.le_refl _) _ _) (Nat.le_refl _) _ _) (Nat.le_refl _) _ _) (Nat.le_refl _) _ _
/-! ### State -/
/-- The document's memory and what was laid since. -/
structure Rh (w W : World) (base q N : Nat) (M : Nat → Nat → Int) : Prop where
  rx : Rx W base q N M
  below : Below base w W
  kp : KeepX q w W
theorem Rh.on {w W W' : World} {base q N : Nat} {M : Nat → Nat → Int} (h : Rh w W base q N M) (hB : Below W.heap.size W W') : Rh w W' base q N M := ⟨h.rx.grown hB, h.below.trans (hB.mono h.rx.le), h.kp.trans (KeepX.below hB)⟩
set_option maxRecDepth 100000 in
set_option maxHeartbeats 2000000 in
theorem rstate_any (base q N : Nat) (f s : Int) (M : Nat → Nat → Int) (w : World) (h : Rx w base q N M) :
    Calls Tryz.prog 12 #[.pointer (some ⟨q, 0, none⟩), .int .i64 f, .int .i64 s] w fun e w' => e = .returned (.int .i64 (stE N M f s)) ∧ Rx w' base q N (stM N M f s) ∧ Below base w w' ∧ KeepX q w w' := by
  have HG : Hid (Calls Tryz.prog 22 #[.pointer (some ⟨q, 0, none⟩), .int .i64 f] w fun e w' => e = .returned (.tuple #[.agg #[.int .i64 (gtT N M f).st, .int .i64 (gtT N M f).co, .int .i64 (gtT N M f).tc, .int .i64 (gtT N M f).rc, .int .i64 (gtT N M f).de], .int .i64 (gtE N M f)]) ∧ Below w.heap.size w w') := rget_any base q N f M w h
  have H0 : Hid (Rh w w base q N M) := ⟨h, Below.refl _ _, KeepX.refl _ _⟩
  clear h
  by_cases hg : gtE N M f = 0
  · obtain ⟨h1, h2, h3⟩ := gt_yes hg
    rw [hg, h3] at HG
    obtain ⟨p1, p2⟩ := st_put (s := s) hg
    have HP : Hid (∀ wc, Rx wc base q N M → Calls Tryz.prog 10 #[.pointer (some ⟨q, 0, none⟩), .int .i64 f, .agg #[.int .i64 s, .int .i64 (thOf M f).co, .int .i64 (thOf M f).tc, .int .i64 (thOf M f).rc, .int .i64 (thOf M f).de]] wc fun e w' => e = .returned (.int .i64 (stE N M f s)) ∧ Rx w' base q N (stM N M f s) ∧ Below base wc w' ∧ KeepX q wc w') := fun wc h => by
      have := rput_any base q N f (stX (thOf M f) s) M wc h
      rw [← p1, ← p2] at this
      exact this
    generalize stM N M f s = M1 at HP ⊢
    generalize stE N M f s = E at HP ⊢
    clear p1 p2 hg h1 h2 h3
    generalize thOf M f = y at HG HP
    go_enter Tryz.func12, Tryz.ntmps12
    go_wp2_with (first
      | (go_at_call 22; refine HG.out.mono ?_; rintro e1 w1 ⟨rfl, hb⟩; have H1 := rhide (H0.out.on hb); clear hb HG H0; have H2 := rhide (H1.out.on (bal (Below.refl w1.heap.size w1) (.cells #[.int .i64 s, .int .i64 y.co, .int .i64 y.tc, .int .i64 y.rc, .int .i64 y.de] 37))); clear H1)
      | (go_at_call 10; refine (HP.out _ H2.out.rx).mono ?_; rintro e4 w4 ⟨rfl, hm, hb, hk⟩; have H3 := rhide (And.intro hm (And.intro (H2.out.below.trans hb) (H2.out.kp.trans hk))); clear hm hb hk HP H2)
      | fail)
    go_ret
    exact ⟨rfl, H3.out⟩
  · have e1 : stE N M f s = gtE N M f := by unfold stE; rw [if_neg hg]
    have e2 : stM N M f s = M := by unfold stM; rw [if_neg (by rw [e1]; exact hg)]
    rw [e1, e2]
    generalize gtE N M f = E at HG hg ⊢
    generalize gtT N M f = y at HG
    have hE : (E != 0) = true := by simp [hg]
    clear e1 e2 hg
    go_enter Tryz.func12, Tryz.ntmps12
    go_wp2_with (first
      | (go_at_call 22; refine HG.out.mono ?_; rintro e1 w1 ⟨rfl, hb⟩; have H1 := rhide (H0.out.on hb); clear hb HG H0)
      | fail)
    go_ret
    have H2 := H1.out.on (bal (Below.refl _ _) (.cells #[.int .i64 y.st, .int .i64 y.co, .int .i64 y.tc, .int .i64 y.rc, .int .i64 y.de] 37))
    exact ⟨rfl, H2.rx, H2.below, H2.kp⟩
end Go.Proofs.YtaajacmbnigadaaGreatDoor.Pthd
