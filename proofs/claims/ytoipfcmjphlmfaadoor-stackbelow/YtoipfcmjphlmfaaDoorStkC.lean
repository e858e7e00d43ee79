/- What last, write, Push, Pop, Top and Ip of package stack answer and do; awake. -/
import Derived.Test.YtoipfcmjphlmfaaDoorStkB
import Derived.Test.YtoipfcmjphlmfaaDoorStkH
import Derived.Deep.RegionWith
import Derived.Deep.CutBlock
namespace Go.Proofs.YtoipfcmjphlmfaaDoor.Pstack
open Go.Proofs.YtoipfcmjphlmfaaDoor.Pbase Go.Proofs.YtoipfcmjphlmfaaDoor.Pfield Go.Proofs.YtoipfcmjphlmfaaDoor.Play Go.Proofs.YtoipfcmjphlmfaaDoor.Pmem Go.Proofs.YtoipfcmjphlmfaaDoor.Pthd
open Go.RowKit M
set_option linter.unusedVariables false

theorem z9_cells {W : World} {B : Nat} (h : RowV W B z9) : W.cell? ⟨B, 0, none⟩ = some (.pointer none) ∧ W.cell? ⟨B, 1, none⟩ = some (.int .i64 0) ∧ W.cell? ⟨B, 2, none⟩ = some (.int .i64 0) ∧ W.cell? ⟨B, 3, none⟩ = some (.int .i64 0) ∧ W.cell? ⟨B, 4, none⟩ = some (.int .i64 0) ∧ W.cell? ⟨B, 5, none⟩ = some (.int .i64 0) ∧ W.cell? ⟨B, 6, none⟩ = some (.int .i64 0) ∧ W.cell? ⟨B, 7, none⟩ = some (.int .i64 0) ∧ W.cell? ⟨B, 8, none⟩ = some (.int .i64 0) :=
  ⟨h.cell 0, h.cell 1, h.cell 2, h.cell 3, h.cell 4, h.cell 5, h.cell 6, h.cell 7, h.cell 8⟩
theorem r9_cells {W : World} {B p : Nat} {f i : Int} {x : Rc} (h : RowV W B (r9 p f i x)) : W.cell? ⟨B, 0, none⟩ = some (.pointer (some ⟨p, 0, none⟩)) ∧ W.cell? ⟨B, 1, none⟩ = some (.int .i64 f) ∧ W.cell? ⟨B, 2, none⟩ = some (.int .i64 i) ∧ W.cell? ⟨B, 3, none⟩ = some (.int .i64 x.co) ∧ W.cell? ⟨B, 4, none⟩ = some (.int .i64 x.tb) ∧ W.cell? ⟨B, 5, none⟩ = some (.int .i64 x.pg) ∧ W.cell? ⟨B, 6, none⟩ = some (.int .i64 x.l) ∧ W.cell? ⟨B, 7, none⟩ = some (.int .i64 x.e) ∧ W.cell? ⟨B, 8, none⟩ = some (.int .i64 x.ip) :=
  ⟨h.cell 0, h.cell 1, h.cell 2, h.cell 3, h.cell 4, h.cell 5, h.cell 6, h.cell 7, h.cell 8⟩
/-! ### last -/
theorem tpc_rc {N : Nat} {M : Nat → Nat → Int} {f : Int} {k : Nat} (hg : gtE N M f = 0) (hd : dpN M f = k + 1) : tpE N M f = rcE M f k ∧ tpX N M f = rcX M f k := by
  have e : tpE N M f = rcE M f k := by
    unfold tpE
    rw [if_pos hg, hd, if_neg (by omega), Nat.add_sub_cancel]
  refine ⟨e, ?_⟩
  unfold tpX
  rw [e, hd, Nat.add_sub_cancel]
  split
  · rfl
  · rename_i hne
    unfold rcE rdE at hne
    unfold rcX rdX
    split at hne
    · exact absurd rfl hne
    · rename_i hb
      rw [if_neg hb]
structure La (w W : World) (p b N : Nat) (M : Nat → Nat → Int) : Prop where
  sx : Sx W p b N M
  res : RowV W w.heap.size z9
  below : Below w.heap.size w W
theorem la_new {w : World} {p b N : Nat} {M : Nat → Nat → Int} (h : Sx w p b N M) : La w (w.alloc (.cells z9.toArray 55)) p b N M := ⟨h.on (bal (Below.refl _ _) _), rowV_new w z9 55, bal (Below.refl _ _) _⟩
theorem La.on {w W W' : World} {p b N : Nat} {M : Nat → Nat → Int} (h : La w W p b N M) (hB : Below W.heap.size W W') : La w W' p b N M := ⟨h.sx.on hB, h.res.on hB, h.below.trans (hB.mono h.below.size)⟩
set_option maxRecDepth 100000 in
set_option maxHeartbeats 2000000 in
theorem last_any (p b N : Nat) (f : Int) (M : Nat → Nat → Int) (w : World) (hM : Sx w p b N M) :
    Calls Tryd.prog 21 #[.pointer (some ⟨p, 0, none⟩), .int .i64 f] w fun e w' => e = .returned (.tuple #[.agg #[.pointer (pz (tpE N M f) p), .int .i64 (iz (tpE N M f) f), .int .i64 (iz (tpE N M f) ((dpN M f - 1 : Nat) : Int)), .int .i64 (tpX N M f).co, .int .i64 (tpX N M f).tb, .int .i64 (tpX N M f).pg, .int .i64 (tpX N M f).l, .int .i64 (tpX N M f).e, .int .i64 (tpX N M f).ip], .int .i64 (tpE N M f)]) ∧ Below w.heap.size w w' := by
  have H0 := rhide (la_new hM)
  have HG : Hid (∀ wc, La w wc p b N M → Calls Tryd.prog 16 #[.pointer (some ⟨p, 0, none⟩), .int .i64 f] wc fun e w' => e = .returned (.tuple #[.agg #[.int .i64 (gtT N M f).st, .int .i64 (gtT N M f).co, .int .i64 (gtT N M f).tc, .int .i64 (gtT N M f).rc, .int .i64 (gtT N M f).de], .int .i64 (gtE N M f)]) ∧ Below wc.heap.size wc w') := fun wc h => Pthd.get_any p b N f M wc h.sx.mx
  by_cases hg : gtE N M f = 0
  · obtain ⟨hf, hde, h6⟩ := gt_dp hg
    rw [hg, (gt_yes hg).2.2] at HG
    by_cases hd : dpN M f = 0
    · have e1 : tpE N M f = 8 := by unfold tpE; rw [if_pos hg, if_pos hd]
      have e2 : tpX N M f = rc0 := by unfold tpX; rw [if_neg (by rw [e1]; decide)]
      rw [e1, e2, pz_no (by decide), iz_no (by decide), iz_no (by decide)]
      rw [show (thOf M f).de = 0 by rw [hde, hd]; rfl] at HG
      generalize thOf M f = y at HG
      clear e1 e2 hd hde h6 hf hg hM
      go_enter Tryd.func21, Tryd.ntmps21
      go_wp2_with (first
        | (go_at_call 16; refine (HG.out _ H0.out).mono ?_; rintro e1 w1 ⟨rfl, hb⟩; have H1 := rhide ((H0.out.on hb).on (bal (Below.refl _ _) (.cells #[.int .i64 y.st, .int .i64 y.co, .int .i64 y.tc, .int .i64 y.rc, .int .i64 0] 29))); clear hb H0 HG; obtain ⟨x0, x1, x2, x3, x4, x5, x6, x7, x8⟩ := z9_cells H1.out.res; have z := H1.out.res.fz)
        | fail)
      refine bodyPost_ret (v := .tuple #[.agg #[.pointer none, .int .i64 0, .int .i64 0, .int .i64 0, .int .i64 0, .int .i64 0, .int .i64 0, .int .i64 0, .int .i64 0], .int .i64 8]) (by simp [results, Tryd.results21, go_sem, x0, x1, x2, x3, x4, x5, x6, x7, x8]) rfl ⟨rfl, ?_⟩
      exact bst (bst (bst (bst (bst (bst (bst (bst (bst H1.out.below (Nat.le_refl _) _ _) (Nat.le_refl _) _ _) (Nat.le_refl _) _ _) (Nat.le_refl _) _ _) (Nat.le_refl _) _ _) (Nat.le_refl _) _ _) (Nat.le_refl _) _ _) (Nat.le_refl _) _ _) (Nat.le_refl _) _ _
    · obtain ⟨k, hk⟩ : ∃ k, dpN M f = k + 1 := ⟨dpN M f - 1, by omega⟩
      obtain ⟨e1, e2⟩ := tpc_rc hg hk
      rw [e1, e2, hk, Nat.add_sub_cancel]
      have HR : Hid (∀ wc, La w wc p b N M → Calls Tryd.prog 36 #[.agg #[.pointer (some ⟨p, 0, none⟩), .int .i64 f, .int .i64 (k : Int)]] wc fun e w' => e = .returned (.tuple #[.agg #[.pointer (pz (rcE M f k) p), .int .i64 (iz (rcE M f k) f), .int .i64 (iz (rcE M f k) (k : Int)), .int .i64 (rcX M f k).co, .int .i64 (rcX M f k).tb, .int .i64 (rcX M f k).pg, .int .i64 (rcX M f k).l, .int .i64 (rcX M f k).e, .int .i64 (rcX M f k).ip], .int .i64 (rcE M f k)]) ∧ Below wc.heap.size wc w') := fun wc h => read_any p b N f k M wc h.sx hf (by omega)
      rw [show (thOf M f).de = (k : Int) + 1 by rw [hde, hk]; rfl] at HG
      have hw : wrap64 ((k : Int) + 1 - 1) = (k : Int) := by unfold wrap64; omega
      have hw' : wrap64 (k : Int) = (k : Int) := by unfold wrap64; omega
      have h0 : (((k : Int) + 1 == 0) = false) := by simp; omega
      generalize rcX M f k = X at HR ⊢
      generalize rcE M f k = E at HR ⊢
      generalize pz E p = A0 at HR ⊢
      generalize iz E f = A1 at HR ⊢
      generalize iz E (k : Int) = A2 at HR ⊢
      generalize thOf M f = y at HG
      clear e1 e2 hd hde hf hg hM hk h6
      go_enter Tryd.func21, Tryd.ntmps21
      go_wp2_with (first
        | (go_at_call 16; refine (HG.out _ H0.out).mono ?_; rintro e1 w1 ⟨rfl, hb⟩; have H1 := rhide ((H0.out.on hb).on (bal (Below.refl _ _) (.cells #[.int .i64 y.st, .int .i64 y.co, .int .i64 y.tc, .int .i64 y.rc, .int .i64 ((k : Int) + 1)] 29))); clear hb H0 HG)
        | (go_at_call 36; refine (HR.out _ H1.out).mono ?_; rintro e2 w2 ⟨rfl, hb⟩; have H2 := rhide (H1.out.on hb); clear hb H1 HR; obtain ⟨x0, x1, x2, x3, x4, x5, x6, x7, x8⟩ := z9_cells H2.out.res; have z := H2.out.res.fz)
        | fail)
      refine bodyPost_ret (v := .tuple #[.agg #[.pointer A0, .int .i64 A1, .int .i64 A2, .int .i64 X.co, .int .i64 X.tb, .int .i64 X.pg, .int .i64 X.l, .int .i64 X.e, .int .i64 X.ip], .int .i64 E]) (by simp [results, Tryd.results21, go_sem, x0, x1, x2, x3, x4, x5, x6, x7, x8]) rfl ⟨rfl, ?_⟩
      exact bst (bst (bst (bst (bst (bst (bst (bst (bst H2.out.below (Nat.le_refl _) _ _) (Nat.le_refl _) _ _) (Nat.le_refl _) _ _) (Nat.le_refl _) _ _) (Nat.le_refl _) _ _) (Nat.le_refl _) _ _) (Nat.le_refl _) _ _) (Nat.le_refl _) _ _) (Nat.le_refl _) _ _
  · have e1 : tpE N M f = gtE N M f := by unfold tpE; rw [if_neg hg]
    have e2 : tpX N M f = rc0 := by unfold tpX; rw [if_neg (by rw [e1]; exact hg)]
    rw [e1, e2, pz_no hg, iz_no hg, iz_no hg]
    generalize gtT N M f = y at HG
    generalize gtE N M f = E at HG hg ⊢
    have hE : (E != 0) = true := by simp [hg]
    clear e1 e2 hg hM
    go_enter Tryd.func21, Tryd.ntmps21
    go_wp2_with (first
      | (go_at_call 16; refine (HG.out _ H0.out).mono ?_; rintro e1 w1 ⟨rfl, hb⟩; have H1 := rhide ((H0.out.on hb).on (bal (Below.refl _ _) (.cells #[.int .i64 y.st, .int .i64 y.co, .int .i64 y.tc, .int .i64 y.rc, .int .i64 y.de] 29))); clear hb H0 HG; obtain ⟨x0, x1, x2, x3, x4, x5, x6, x7, x8⟩ := z9_cells H1.out.res; have z := H1.out.res.fz)
      | fail)
    refine bodyPost_ret (v := .tuple #[.agg #[.pointer none, .int .i64 0, .int .i64 0, .int .i64 0, .int .i64 0, .int .i64 0, .int .i64 0, .int .i64 0, .int .i64 0], .int .i64 E]) (by simp [results, Tryd.results21, go_sem, x0, x1, x2, x3, x4, x5, x6, x7, x8]) rfl ⟨rfl, ?_⟩
    exact bst (bst (bst (bst (bst (bst (bst (bst (bst H1.out.below (Nat.le_refl _) _ _) (Nat.le_refl _) _ _) (Nat.le_refl _) _ _) (Nat.le_refl _) _ _) (Nat.le_refl _) _ _) (Nat.le_refl _) _ _) (Nat.le_refl _) _ _) (Nat.le_refl _) _ _) (Nat.le_refl _) _ _
theorem last_yes (p b N : Nat) (f : Int) (M : Nat → Nat → Int) (w : World) (hM : Sx w p b N M) (h : tpE N M f = 0) :
    Calls Tryd.prog 21 #[.pointer (some ⟨p, 0, none⟩), .int .i64 f] w fun e w' => e = .returned (.tuple #[.agg #[.pointer (some ⟨p, 0, none⟩), .int .i64 f, .int .i64 ((dpN M f - 1 : Nat) : Int), .int .i64 (tpX N M f).co, .int .i64 (tpX N M f).tb, .int .i64 (tpX N M f).pg, .int .i64 (tpX N M f).l, .int .i64 (tpX N M f).e, .int .i64 (tpX N M f).ip], .int .i64 0]) ∧ Below w.heap.size w w' := by
  have := last_any p b N f M w hM
  rwa [h, pz_yes, iz_yes, iz_yes] at this
theorem last_no (p b N : Nat) (f : Int) (M : Nat → Nat → Int) (w : World) (hM : Sx w p b N M) (h : tpE N M f ≠ 0) :
    Calls Tryd.prog 21 #[.pointer (some ⟨p, 0, none⟩), .int .i64 f] w fun e w' => e = .returned (.tuple #[.agg #[.pointer none, .int .i64 0, .int .i64 0, .int .i64 0, .int .i64 0, .int .i64 0, .int .i64 0, .int .i64 0, .int .i64 0], .int .i64 (tpE N M f)]) ∧ Below w.heap.size w w' := by
  have := last_any p b N f M w hM
  rw [pz_no h, iz_no h, iz_no h, show tpX N M f = rc0 by unfold tpX; rw [if_neg h]] at this
  exact this
/-! ### Top -/
structure To6 (w W : World) (p b N : Nat) (M : Nat → Nat → Int) : Prop where
  sx : Sx W p b N M
  res : RowR W w.heap.size rc0
  below : Below w.heap.size w W
theorem to6_new {w : World} {p b N : Nat} {M : Nat → Nat → Int} (h : Sx w p b N M) : To6 w (w.alloc (.cells #[.int .i64 0, .int .i64 0, .int .i64 0, .int .i64 0, .int .i64 0, .int .i64 0] 32)) p b N M := ⟨h.on (bal (Below.refl _ _) _), rowR_new w rc0, bal (Below.refl _ _) _⟩
theorem To6.on {w W W' : World} {p b N : Nat} {M : Nat → Nat → Int} (h : To6 w W p b N M) (hB : Below W.heap.size W W') : To6 w W' p b N M := ⟨h.sx.on hB, h.res.on hB, h.below.trans (hB.mono h.below.size)⟩
set_option maxRecDepth 100000 in
set_option maxHeartbeats 2000000 in
theorem top_any (p b N : Nat) (f : Int) (M : Nat → Nat → Int) (w : World) (hM : Sx w p b N M) :
    Calls Tryd.prog 23 #[.pointer (some ⟨p, 0, none⟩), .int .i64 f] w fun e w' => e = .returned (.tuple #[.agg #[.int .i64 (tpX N M f).co, .int .i64 (tpX N M f).tb, .int .i64 (tpX N M f).pg, .int .i64 (tpX N M f).l, .int .i64 (tpX N M f).e, .int .i64 (tpX N M f).ip], .int .i64 (tpE N M f)]) ∧ Below w.heap.size w w' := by
  have H0 := rhide (to6_new hM)
  have HL : Hid (∀ wc, To6 w wc p b N M → Calls Tryd.prog 21 #[.pointer (some ⟨p, 0, none⟩), .int .i64 f] wc fun e w' => e = .returned (.tuple #[.agg #[.pointer (pz (tpE N M f) p), .int .i64 (iz (tpE N M f) f), .int .i64 (iz (tpE N M f) ((dpN M f - 1 : Nat) : Int)), .int .i64 (tpX N M f).co, .int .i64 (tpX N M f).tb, .int .i64 (tpX N M f).pg, .int .i64 (tpX N M f).l, .int .i64 (tpX N M f).e, .int .i64 (tpX N M f).ip], .int .i64 (tpE N M f)]) ∧ Below wc.heap.size wc w') := fun wc h => last_any p b N f M wc h.sx
  clear hM
  generalize tpX N M f = X at HL ⊢
  generalize tpE N M f = E at HL ⊢
  generalize pz E p = A0 at HL
  generalize iz E f = A1 at HL
  generalize iz E ((dpN M f - 1 : Nat) : Int) = A2 at HL
  go_enter Tryd.func23, Tryd.ntmps23
  go_wp2_with (first
    | (go_at_call 21; refine (HL.out _ H0.out).mono ?_; rintro e1 w1 ⟨rfl, hb⟩; have H1 := rhide ((H0.out.on hb).on (bal (Below.refl _ _) (.cells #[.pointer A0, .int .i64 A1, .int .i64 A2, .int .i64 X.co, .int .i64 X.tb, .int .i64 X.pg, .int .i64 X.l, .int .i64 X.e, .int .i64 X.ip] 55))); clear hb H0 HL; have x0 := H1.out.res.c0; have x1 := H1.out.res.c1; have x2 := H1.out.res.c2; have x3 := H1.out.res.c3; have x4 := H1.out.res.c4; have x5 := H1.out.res.c5; have z := H1.out.res.fz)
    | fail)
  refine bodyPost_ret (v := .tuple #[.agg #[.int .i64 X.co, .int .i64 X.tb, .int .i64 X.pg, .int .i64 X.l, .int .i64 X.e, .int .i64 X.ip], .int .i64 E]) (by simp [results, Tryd.results23, go_sem, x0, x1, x2, x3, x4, x5]) rfl ⟨rfl, ?_⟩
  exact bst (bst (bst (bst (bst (bst H1.out.below (Nat.le_refl _) _ _) (Nat.le_refl _) _ _) (Nat.le_refl _) _ _) (Nat.le_refl _) _ _) (Nat.le_refl _) _ _) (Nat.le_refl _) _ _
/-! ### write -/
structure Wr (w W : World) (p b N : Nat) (f i : Int) (M : Nat → Nat → Int) (x : Rc) : Prop where
  sx : Sx W p b N M
  row : RowV W w.heap.size (r9 p f i x)
  but : But b w W
theorem wr_new {w : World} {p b N : Nat} {M : Nat → Nat → Int} (h : Sx w p b N M) (f i : Int) (x : Rc) : Wr w (w.alloc (.cells (r9 p f i x).toArray 55)) p b N f i M x := ⟨h.on (bal (Below.refl _ _) _), rowV_new w (r9 p f i x) 55, But.of_below b (bal (Below.refl _ _) _)⟩
theorem Wr.on {w W W' : World} {p b N : Nat} {f i : Int} {M : Nat → Nat → Int} {x : Rc} (h : Wr w W p b N f i M x) (hB : Below W.heap.size W W') : Wr w W' p b N f i M x := ⟨h.sx.on hB, h.row.on hB, h.but.trans (But.of_below b hB)⟩
theorem Wr.turn {w W W' : World} {p b N : Nat} {f i : Int} {M M' : Nat → Nat → Int} {x : Rc} (h : Wr w W p b N f i M x) (hl : b < w.heap.size) (hX : Sx W' p b N M') (hB : But b W W') : Wr w W' p b N f i M' x := ⟨hX, RowV.but h.row hB (by omega), h.but.trans hB⟩
set_option maxRecDepth 100000 in
set_option maxHeartbeats 4000000 in
theorem write_any (p b N : Nat) (f : Int) (i : Nat) (x : Rc) (M : Nat → Nat → Int) (w : World) (hM : Sx w p b N M) (hf : okF N f = true) (hi : i < 6) (hx : Ro x) :
    Calls Tryd.prog 17 #[.agg #[.pointer (some ⟨p, 0, none⟩), .int .i64 f, .int .i64 (i : Int), .int .i64 x.co, .int .i64 x.tb, .int .i64 x.pg, .int .i64 x.l, .int .i64 x.e, .int .i64 x.ip]] w fun e w' => e = .returned (.int .i64 0) ∧ Sx w' p b N (lyR N M f i x) ∧ But b w w' := by
  have hlb := hM.ltb
  have hip := hx.2.2.2.2.2
  have H0 := rhide (wr_new hM f (i : Int) x)
  have HS0 : Hid (∀ wc, Wr w wc p b N f (i : Int) M x → Calls Tryd.prog 24 #[.agg #[.pointer (some ⟨p, 0, none⟩), .int .i64 f, .int .i64 (i : Int)], .int .i64 0, .int .u64 (rwd x)] wc fun e w' => e = .returned (.int .i64 0) ∧ Wr w w' p b N f (i : Int) (stW N M f (17 + 2 * (i : Int)) (rwd x)) x) := fun wc h => by
    have := pstore_any p b N f (rwd x) i 0 M wc h.sx hf hi (by omega) (rwd_bd hx)
    rw [show 17 + 2 * (i : Int) + ((0 : Nat) : Int) = 17 + 2 * (i : Int) by omega] at this
    exact this.mono fun e w' ⟨q1, q2, q3⟩ => ⟨q1, h.turn hlb q2 q3⟩
  have HS1 : Hid (∀ wc, Wr w wc p b N f (i : Int) (stW N M f (17 + 2 * (i : Int)) (rwd x)) x → Calls Tryd.prog 24 #[.agg #[.pointer (some ⟨p, 0, none⟩), .int .i64 f, .int .i64 (i : Int)], .int .i64 1, .int .u64 x.ip] wc fun e w' => e = .returned (.int .i64 0) ∧ Wr w w' p b N f (i : Int) (lyR N M f i x) x) := fun wc h => by
    have := pstore_any p b N f x.ip i 1 _ wc h.sx hf hi (by omega) (by omega)
    rw [show 17 + 2 * (i : Int) + ((1 : Nat) : Int) = 18 + 2 * (i : Int) by omega] at this
    exact this.mono fun e w' ⟨q1, q2, q3⟩ => ⟨q1, h.turn hlb q2 q3⟩
  have HK : Hid (∀ D wc wd, Ints .i64 wc.heap.size wc (.slice (some ⟨D, 0, none⟩) 5 5) rws → Below (wc.alloc (.cells #[.int .u64 x.co, .int .u64 x.tb, .int .u64 x.pg, .int .u64 x.l, .int .u64 x.e] 64)).heap.size (wc.alloc (.cells #[.int .u64 x.co, .int .u64 x.tb, .int .u64 x.pg, .int .u64 x.l, .int .u64 x.e] 64)) wd → Calls Tryd.prog 33 #[.slice (some ⟨D, 0, none⟩) 5 5, .slice (some ⟨wc.heap.size, 0, none⟩) 5 5] wd fun e w' => e = .returned (.tuple #[.int .u64 (rwd x), .int .i64 0]) ∧ Below wc.heap.size wc w') := fun D wc wd h hd =>
    (pack_ok (some ⟨D, 0, none⟩) (some ⟨wc.heap.size, 0, none⟩) 5 5 rws x.vs _ (by decide) rfl (rput_can hx).1 ((h.on (bal (Below.refl _ _) _)).on hd) ((ints_vs wc x 64).on hd) (rput_can hx).2).mono fun e w' ⟨q1, q2⟩ => ⟨q1, ((bal (Below.refl wc.heap.size wc) _).trans (hd.mono (by simp))).trans (q2.mono (by have := hd.size; simp at this; omega))⟩
  unfold Ro at hx
  have d0 : IntKind.u64.wrap x.co = x.co := wrapu_small (by omega) (by omega)
  have d1 : IntKind.u64.wrap x.tb = x.tb := wrapu_small (by omega) (by omega)
  have d2 : IntKind.u64.wrap x.pg = x.pg := wrapu_small (by omega) (by omega)
  have d3 : IntKind.u64.wrap x.l = x.l := wrapu_small (by omega) (by omega)
  have d4 : IntKind.u64.wrap x.e = x.e := wrapu_small (by omega) (by omega)
  have d5 : IntKind.u64.wrap x.ip = x.ip := wrapu_small (by omega) (by omega)
  clear hx hip hM hf hlb
  generalize rwd x = z at HS0 HS1 HK
  generalize lyR N M f i x = M2 at HS1 ⊢
  generalize stW N M f (17 + 2 * (i : Int)) z = M1 at HS0 HS1
  generalize (i : Int) = i' at H0 HS0 HS1 ⊢
  go_enter Tryd.func17, Tryd.ntmps17
  go_upto_region 1 with fail
  have H0' : Hid (Wr w (w.alloc (.cells #[.pointer (some ⟨p, 0, none⟩), .int .i64 f, .int .i64 i', .int .i64 x.co, .int .i64 x.tb, .int .i64 x.pg, .int .i64 x.l, .int .i64 x.e, .int .i64 x.ip] 55)) p b N f i' M x) := H0
  clear H0
  generalize w.alloc _ = v0 at H0' ⊢
  obtain ⟨g0, g1, g2, g3, g4⟩ := H0'.out.sx.tb.cells
  have gl := H0'.out.sx.tb.lt
  go_upto_region 2 with fail
  have H1 := rhide (H0'.out.on (bal (Below.refl v0.heap.size v0) (.cells #[.int .i64 6, .int .i64 6, .int .i64 6, .int .i64 6, .int .i64 16] 76)))
  have HJ : Hid (Ints .i64 _ _ (.slice (some ⟨v0.heap.size, 0, none⟩) 5 5) rws) := ints_rws v0 76
  clear g0 g1 g2 g3 g4 gl H0'
  generalize v0.alloc _ = v1 at H1 HJ ⊢
  generalize v0.heap.size = D at HJ ⊢
  go_cut [4, 5] from 8 to 33 (fun v4 v5 wc => v4 = .int .u64 z ∧ v5 = .int .i64 0 ∧ Wr w wc p b N f i' M x)
  case first =>
    obtain ⟨x0, x1, x2, x3, x4, x5, x6, x7, x8⟩ := r9_cells H1.out.row
    clear x0 x1 x2 x8
    go_region_held3 (fun w' => w'.cell? ⟨w.heap.size, 3, none⟩ = some (.int .i64 x.co) ∧ w'.cell? ⟨w.heap.size, 4, none⟩ = some (.int .i64 x.tb) ∧ w'.cell? ⟨w.heap.size, 5, none⟩ = some (.int .i64 x.pg) ∧ w'.cell? ⟨w.heap.size, 6, none⟩ = some (.int .i64 x.l) ∧ w'.cell? ⟨w.heap.size, 7, none⟩ = some (.int .i64 x.e)) (first | (refine ⟨?_, ?_, ?_, ?_, ?_⟩ <;> with_reducible assumption) | go_keep)
    (first
      | (go_at_call 33; refine (HK.out D v1 _ HJ.out (by first | exact Below.refl _ _ | exact (Below.refl _ _).drew)).mono ?_; rintro e2 w2 ⟨rfl, hb⟩; have H2 := rhide (H1.out.on (by first | exact hb | exact (Below.refl _ _).drew.trans hb)); clear hb H1 HJ HK x3 x4 x5 x6 x7; obtain ⟨x0, x1, x2, x3, x4, x5, x6, x7, x8⟩ := r9_cells H2.out.row; clear x0 x1 x2 x8)
      | fail)
    all_goals
      go_wp2_with fail
      go_meet
      first | exact ⟨rfl, rfl, H2.out⟩ | exact ⟨rfl, rfl, H2.out.on (Below.refl _ _).drew⟩
  case rest =>
    obtain ⟨h4, h5, h2⟩ := hcut
    subst h4
    subst h5
    have H2 := rhide h2
    clear h2 H1 HJ HK
    obtain ⟨x0, x1, x2, x3, x4, x5, x6, x7, x8⟩ := r9_cells H2.out.row
    go_wp2_with (first
      | (go_at_call 24; refine (HS0.out _ H2.out).mono ?_; rintro e3 w3 ⟨rfl, hw⟩; have H3 := rhide hw; clear hw HS0 H2 x0 x1 x2 x3 x4 x5 x6 x7 x8; obtain ⟨x0, x1, x2, x3, x4, x5, x6, x7, x8⟩ := r9_cells H3.out.row)
      | (go_at_call 24; refine (HS1.out _ H3.out).mono ?_; rintro e4 w4 ⟨rfl, hw⟩; have H4 := rhide hw; clear hw HS1 H3)
      | fail)
    go_ret
    exact ⟨rfl, H4.out.sx, H4.out.but⟩
/-! ### Push -/
structure Pu (w W : World) (p b N : Nat) (M : Nat → Nat → Int) (x : Rc) : Prop where
  sx : Sx W p b N M
  row : RowR W w.heap.size x
  below : Below w.heap.size w W
theorem pu_new {w : World} {p b N : Nat} {M : Nat → Nat → Int} (h : Sx w p b N M) (x : Rc) : Pu w (w.alloc (.cells #[.int .i64 x.co, .int .i64 x.tb, .int .i64 x.pg, .int .i64 x.l, .int .i64 x.e, .int .i64 x.ip] 32)) p b N M x := ⟨h.on (bal (Below.refl _ _) _), rowR_new w x, bal (Below.refl _ _) _⟩
theorem Pu.on {w W W' : World} {p b N : Nat} {M : Nat → Nat → Int} {x : Rc} (h : Pu w W p b N M x) (hB : Below W.heap.size W W') : Pu w W' p b N M x := ⟨h.sx.on hB, h.row.on hB, h.below.trans (hB.mono h.below.size)⟩
structure Pv (w W : World) (p b N : Nat) (M : Nat → Nat → Int) (E : Nat) (f d : Int) (x : Rc) : Prop where
  sx : Sx W p b N M
  rc : RowV W E (r9 p f d x)
  el : w.heap.size ≤ E
  but : But b w W
theorem Pu.more {w W : World} {p b N : Nat} {M : Nat → Nat → Int} {x : Rc} (h : Pu w W p b N M x) (o : Obj) (f d : Int) : Pv w ((W.alloc o).alloc (.cells #[.pointer (some ⟨p, 0, none⟩), .int .i64 f, .int .i64 d, .int .i64 x.co, .int .i64 x.tb, .int .i64 x.pg, .int .i64 x.l, .int .i64 x.e, .int .i64 x.ip] 55)) p b N M (W.heap.size + 1) f d x := by
  have h1 := rowV_new (W.alloc o) (r9 p f d x) 55
  simp only [World.size_alloc] at h1
  have hs := h.below.size
  have hb := bal (bal (Below.refl W.heap.size W) o) (.cells #[.pointer (some ⟨p, 0, none⟩), .int .i64 f, .int .i64 d, .int .i64 x.co, .int .i64 x.tb, .int .i64 x.pg, .int .i64 x.l, .int .i64 x.e, .int .i64 x.ip] 55)
  exact ⟨h.sx.on hb, h1, by omega, But.of_below b (h.below.trans (hb.mono hs))⟩
theorem Pv.turn {w W W' : World} {p b N : Nat} {M M' : Nat → Nat → Int} {E : Nat} {f d : Int} {x : Rc} (h : Pv w W p b N M E f d x) (hl : b < w.heap.size) (hX : Sx W' p b N M') (hB : But b W W') : Pv w W' p b N M' E f d x := ⟨hX, RowV.but h.rc hB (by have := h.el; omega), h.el, h.but.trans hB⟩
set_option maxRecDepth 100000 in
set_option maxHeartbeats 2000000 in
theorem push_any (p b N : Nat) (f : Int) (x : Rc) (M : Nat → Nat → Int) (w : World) (hM : Sx w p b N M) :
    Calls Tryd.prog 7 #[.pointer (some ⟨p, 0, none⟩), .int .i64 f, .agg #[.int .i64 x.co, .int .i64 x.tb, .int .i64 x.pg, .int .i64 x.l, .int .i64 x.e, .int .i64 x.ip]] w fun e w' => e = .returned (.int .i64 (psE N M f x)) ∧ Sx w' p b N (psM N M f x) ∧ But b w w' := by
  have hlb := hM.ltb
  have H0 := rhide (pu_new hM x)
  have HC : Hid (∀ wc, Calls Tryd.prog 8 #[.agg #[.int .i64 x.co, .int .i64 x.tb, .int .i64 x.pg, .int .i64 x.l, .int .i64 x.e, .int .i64 x.ip]] wc fun e w' => e = .returned (.int .i64 (rkE x)) ∧ Below wc.heap.size wc w') := fun wc => check_any x wc
  have HG : Hid (∀ wc, Pu w wc p b N M x → Calls Tryd.prog 16 #[.pointer (some ⟨p, 0, none⟩), .int .i64 f] wc fun e w' => e = .returned (.tuple #[.agg #[.int .i64 (gtT N M f).st, .int .i64 (gtT N M f).co, .int .i64 (gtT N M f).tc, .int .i64 (gtT N M f).rc, .int .i64 (gtT N M f).de], .int .i64 (gtE N M f)]) ∧ Below wc.heap.size wc w') := fun wc h => Pthd.get_any p b N f M wc h.sx.mx
  by_cases hx : Ro x
  case neg =>
    have e1 : psE N M f x = 1 := by unfold psE; rw [roB_no hx]; rfl
    have e2 : psM N M f x = M := by unfold psM; rw [if_neg (by rw [e1]; decide)]
    rw [e1, e2]
    rw [show rkE x = 1 by unfold rkE; rw [roB_no hx]; rfl] at HC
    clear e1 e2 hx hM HG hlb
    go_enter Tryd.func7, Tryd.ntmps7
    go_wp2_with (first
      | (go_at_call 8; refine (HC.out _).mono ?_; rintro e1 w1 ⟨rfl, hb⟩; have H1 := rhide (H0.out.on hb); clear hb H0 HC)
      | fail)
    go_ret
    exact ⟨rfl, H1.out.sx, But.of_below b H1.out.below⟩
  case pos =>
  rw [show rkE x = 0 by unfold rkE; rw [roB_yes hx]; rfl] at HC
  by_cases hg : gtE N M f = 0
  · obtain ⟨hf, hde, h6⟩ := gt_dp hg
    rw [hg, (gt_yes hg).2.2] at HG
    by_cases hd : dpN M f = 6
    · have e1 : psE N M f x = 8 := by unfold psE; rw [if_pos (roB_yes hx), if_pos hg, if_pos hd]
      have e2 : psM N M f x = M := by unfold psM; rw [if_neg (by rw [e1]; decide)]
      rw [e1, e2]
      rw [show (thOf M f).de = 6 by rw [hde, hd]; rfl] at HG
      generalize thOf M f = y at HG
      clear e1 e2 hd hde h6 hf hg hx hM hlb
      go_enter Tryd.func7, Tryd.ntmps7
      go_wp2_with (first
        | (go_at_call 8; refine (HC.out _).mono ?_; rintro e1 w1 ⟨rfl, hb⟩; have H1 := rhide (H0.out.on hb); clear hb H0 HC)
        | (go_at_call 16; refine (HG.out _ H1.out).mono ?_; rintro e2 w2 ⟨rfl, hb⟩; have H2 := rhide ((H1.out.on hb).on (bal (Below.refl _ _) (.cells #[.int .i64 y.st, .int .i64 y.co, .int .i64 y.tc, .int .i64 y.rc, .int .i64 6] 29))); clear hb H1 HG)
        | fail)
      go_ret
      exact ⟨rfl, H2.out.sx, But.of_below b H2.out.below⟩
    · have e1 : psE N M f x = 0 := by unfold psE; rw [if_pos (roB_yes hx), if_pos hg, if_neg hd]
      have e2 : psM N M f x = stW N (lyR N M f (dpN M f) x) f 8 ((dpN M f + 1 : Nat) : Int) := by unfold psM; rw [if_pos e1]
      rw [e1, e2]
      rw [hde] at HG
      have HW : Hid (∀ E wc, Pv w wc p b N M E f ((dpN M f : Nat) : Int) x → Calls Tryd.prog 17 #[.agg #[.pointer (some ⟨p, 0, none⟩), .int .i64 f, .int .i64 ((dpN M f : Nat) : Int), .int .i64 x.co, .int .i64 x.tb, .int .i64 x.pg, .int .i64 x.l, .int .i64 x.e, .int .i64 x.ip]] wc fun e w' => e = .returned (.int .i64 0) ∧ Pv w w' p b N (lyR N M f (dpN M f) x) E f ((dpN M f : Nat) : Int) x) := fun E wc h =>
        (write_any p b N f (dpN M f) x M wc h.sx hf (by omega) hx).mono fun e w' ⟨q1, q2, q3⟩ => ⟨q1, h.turn hlb q2 q3⟩
      have HV : Hid (∀ E wc, Pv w wc p b N (lyR N M f (dpN M f) x) E f ((dpN M f : Nat) : Int) x → Calls Tryd.prog 18 #[.agg #[.pointer (some ⟨p, 0, none⟩), .int .i64 f, .int .i64 ((dpN M f : Nat) : Int)]] wc fun e w' => e = .returned (.int .i64 0) ∧ Sx w' p b N (stW N (lyR N M f (dpN M f) x) f 8 ((dpN M f + 1 : Nat) : Int)) ∧ But b w w') := fun E wc h =>
        (cover_any p b N f (dpN M f) (lyR N M f (dpN M f) x) wc h.sx (by rw [ly_gt hf (by omega)]; exact hg) (by omega)).mono fun e w' ⟨q1, q2, q3⟩ => ⟨q1, q2, h.but.trans q3⟩
      generalize stW N (lyR N M f (dpN M f) x) f 8 ((dpN M f + 1 : Nat) : Int) = M2 at HV ⊢
      generalize lyR N M f (dpN M f) x = M1 at HW HV
      generalize thOf M f = y at HG
      generalize dpN M f = d0 at HG HW HV hd h6
      have hd6 : ((d0 : Int) == 6) = false := by simp; omega
      generalize (d0 : Int) = d at HG HW HV hd6
      clear e1 e2 hde hf hg hx hM hd h6 hlb
      go_enter Tryd.func7, Tryd.ntmps7
      go_upto_region 10 with (first
        | (go_at_call 8; refine (HC.out _).mono ?_; rintro e1 w1 ⟨rfl, hb⟩; have H1 := rhide (H0.out.on hb); clear hb H0 HC)
        | (go_at_call 16; refine (HG.out _ H1.out).mono ?_; rintro e2 w2 ⟨rfl, hb⟩; have H2 := rhide (H1.out.on hb); clear hb H1 HG; have x0 := H2.out.row.c0; have x1 := H2.out.row.c1; have x2 := H2.out.row.c2; have x3 := H2.out.row.c3; have x4 := H2.out.row.c4; have x5 := H2.out.row.c5; have xl := H2.out.row.lt)
        | fail)
      have H3 := rhide (H2.out.more (.cells #[.int .i64 y.st, .int .i64 y.co, .int .i64 y.tc, .int .i64 y.rc, .int .i64 d] 29) f d)
      clear H2 x0 x1 x2 x3 x4 x5 xl
      generalize (w2.alloc _).alloc _ = v at H3 ⊢
      generalize w2.heap.size + 1 = E at H3 ⊢
      obtain ⟨x0, x1, x2, x3, x4, x5, x6, x7, x8⟩ := r9_cells H3.out.rc
      go_wp2_with (first
        | (go_at_call 17; refine (HW.out _ _ H3.out).mono ?_; rintro e3 w3 ⟨rfl, hw⟩; have H4 := rhide hw; clear hw HW H3 x0 x1 x2 x3 x4 x5 x6 x7 x8; obtain ⟨x0, x1, x2, x3, x4, x5, x6, x7, x8⟩ := r9_cells H4.out.rc)
        | (go_at_call 18; refine (HV.out _ _ H4.out).mono ?_; rintro e4 w4 ⟨rfl, hw⟩; have H5 := rhide hw; clear hw HV H4)
        | fail)
      go_ret
      exact ⟨rfl, H5.out⟩
  · have e1 : psE N M f x = gtE N M f := by unfold psE; rw [if_pos (roB_yes hx), if_neg hg]
    have e2 : psM N M f x = M := by unfold psM; rw [if_neg (by rw [e1]; exact hg)]
    rw [e1, e2]
    generalize gtT N M f = y at HG
    generalize gtE N M f = E at HG hg ⊢
    have hE : (E != 0) = true := by simp [hg]
    clear e1 e2 hg hM hx hlb
    go_enter Tryd.func7, Tryd.ntmps7
    go_wp2_with (first
      | (go_at_call 8; refine (HC.out _).mono ?_; rintro e1 w1 ⟨rfl, hb⟩; have H1 := rhide (H0.out.on hb); clear hb H0 HC)
      | (go_at_call 16; refine (HG.out _ H1.out).mono ?_; rintro e2 w2 ⟨rfl, hb⟩; have H2 := rhide ((H1.out.on hb).on (bal (Below.refl _ _) (.cells #[.int .i64 y.st, .int .i64 y.co, .int .i64 y.tc, .int .i64 y.rc, .int .i64 y.de] 29))); clear hb H1 HG)
      | fail)
    go_ret
    exact ⟨rfl, H2.out.sx, But.of_below b H2.out.below⟩
/-! ### Ip -/
structure Iq (w W : World) (p b N : Nat) (M : Nat → Nat → Int) : Prop where
  sx : Sx W p b N M
  below : Below w.heap.size w W
theorem Iq.on {w W W' : World} {p b N : Nat} {M : Nat → Nat → Int} (h : Iq w W p b N M) (hB : Below W.heap.size W W') : Iq w W' p b N M := ⟨h.sx.on hB, h.below.trans (hB.mono h.below.size)⟩
set_option maxRecDepth 100000 in
set_option maxHeartbeats 2000000 in
theorem ip_any (p b N : Nat) (f q : Int) (M : Nat → Nat → Int) (w : World) (hM : Sx w p b N M) :
    Calls Tryd.prog 12 #[.pointer (some ⟨p, 0, none⟩), .int .i64 f, .int .i64 q] w fun e w' => e = .returned (.int .i64 (ipE N M f q)) ∧ Sx w' p b N (ipM N M f q) ∧ But b w w' := by
  have H0 : Hid (Iq w w p b N M) := ⟨hM, Below.refl _ _⟩
  by_cases ht : tpE N M f = 0
  · have HL : Hid (∀ wc, Iq w wc p b N M → Calls Tryd.prog 21 #[.pointer (some ⟨p, 0, none⟩), .int .i64 f] wc fun e w' => e = .returned (.tuple #[.agg #[.pointer (some ⟨p, 0, none⟩), .int .i64 f, .int .i64 ((dpN M f - 1 : Nat) : Int), .int .i64 (tpX N M f).co, .int .i64 (tpX N M f).tb, .int .i64 (tpX N M f).pg, .int .i64 (tpX N M f).l, .int .i64 (tpX N M f).e, .int .i64 (tpX N M f).ip], .int .i64 0]) ∧ Below wc.heap.size wc w') := fun wc h => last_yes p b N f M wc h.sx ht
    have HU : Hid (∀ wc, Calls Tryd.prog 19 #[.int .i64 1073741824, .int .i64 q] wc fun e w' => e = .returned (.bool (ipB q)) ∧ w' = wc) := fun wc => upto_any 1073741824 q wc
    obtain ⟨hg, hd1, _⟩ := tp_yes ht
    obtain ⟨hf, hde, h6⟩ := gt_dp hg
    cases hq : ipB q
    · have e1 : ipE N M f q = 1 := by unfold ipE; rw [if_pos ht, hq]; rfl
      have e2 : ipM N M f q = M := by unfold ipM; rw [if_neg (by rw [e1]; decide)]
      rw [e1, e2]
      rw [hq] at HU
      generalize ((dpN M f - 1 : Nat) : Int) = k at HL
      generalize tpX N M f = X at HL
      clear e1 e2 hq hg hd1 hf hde h6 ht hM
      go_enter Tryd.func12, Tryd.ntmps12
      go_wp2_with (first
        | (go_at_call 21; refine (HL.out _ H0.out).mono ?_; rintro e1 w1 ⟨rfl, hb⟩; have H1 := rhide ((H0.out.on hb).on (bal (Below.refl _ _) (.cells #[.pointer (some ⟨p, 0, none⟩), .int .i64 f, .int .i64 k, .int .i64 X.co, .int .i64 X.tb, .int .i64 X.pg, .int .i64 X.l, .int .i64 X.e, .int .i64 X.ip] 55))); clear hb H0 HL)
        | (go_at_call 19; refine (HU.out _).mono ?_; rintro e2 w2 ⟨rfl, hw⟩; subst w2)
        | fail)
      go_ret
      exact ⟨rfl, H1.out.sx, But.of_below b H1.out.below⟩
    · have e1 : ipE N M f q = 0 := by unfold ipE; rw [if_pos ht, if_pos hq]
      have e2 : ipM N M f q = stW N M f (18 + 2 * ((dpN M f - 1 : Nat) : Int)) q := by unfold ipM; rw [if_pos e1]
      rw [e1, e2]
      have hqb := (ipB_iff q).1 hq
      have HS : Hid (∀ wc, Iq w wc p b N M → Calls Tryd.prog 24 #[.agg #[.pointer (some ⟨p, 0, none⟩), .int .i64 f, .int .i64 ((dpN M f - 1 : Nat) : Int)], .int .i64 1, .int .u64 q] wc fun e w' => e = .returned (.int .i64 0) ∧ Sx w' p b N (stW N M f (18 + 2 * ((dpN M f - 1 : Nat) : Int)) q) ∧ But b w w') := fun wc h => by
        have := pstore_any p b N f q (dpN M f - 1) 1 M wc h.sx hf (by omega) (by omega) (by omega)
        rw [show 17 + 2 * ((dpN M f - 1 : Nat) : Int) + ((1 : Nat) : Int) = 18 + 2 * ((dpN M f - 1 : Nat) : Int) by omega] at this
        exact this.mono fun e w' ⟨q1, q2, q3⟩ => ⟨q1, q2, (But.of_below b h.below).trans q3⟩
      rw [hq] at HU
      have hw : IntKind.u64.wrap q = q := wrapu_small (by omega) (by omega)
      generalize stW N M f (18 + 2 * ((dpN M f - 1 : Nat) : Int)) q = M1 at HS ⊢
      generalize ((dpN M f - 1 : Nat) : Int) = k at HL HS
      generalize tpX N M f = X at HL
      clear e1 e2 hq hg hd1 hf hde h6 ht hM hqb
      go_enter Tryd.func12, Tryd.ntmps12
      go_wp2_with (first
        | (go_at_call 21; refine (HL.out _ H0.out).mono ?_; rintro e1 w1 ⟨rfl, hb⟩; have H1 := rhide ((H0.out.on hb).on (bal (Below.refl _ _) (.cells #[.pointer (some ⟨p, 0, none⟩), .int .i64 f, .int .i64 k, .int .i64 X.co, .int .i64 X.tb, .int .i64 X.pg, .int .i64 X.l, .int .i64 X.e, .int .i64 X.ip] 55))); clear hb H0 HL)
        | (go_at_call 19; refine (HU.out _).mono ?_; rintro e2 w2 ⟨rfl, hw⟩; subst w2)
        | (go_at_call 24; refine (HS.out _ H1.out).mono ?_; rintro e3 w3 ⟨rfl, hw⟩; have H3 := rhide hw; clear hw HS H1)
        | fail)
      go_ret
      exact ⟨rfl, H3.out⟩
  · have e1 : ipE N M f q = tpE N M f := by unfold ipE; rw [if_neg ht]
    have e2 : ipM N M f q = M := by unfold ipM; rw [if_neg (by rw [e1]; exact ht)]
    rw [e1, e2]
    have HL : Hid (∀ wc, Iq w wc p b N M → Calls Tryd.prog 21 #[.pointer (some ⟨p, 0, none⟩), .int .i64 f] wc fun e w' => e = .returned (.tuple #[.agg #[.pointer none, .int .i64 0, .int .i64 0, .int .i64 0, .int .i64 0, .int .i64 0, .int .i64 0, .int .i64 0, .int .i64 0], .int .i64 (tpE N M f)]) ∧ Below wc.heap.size wc w') := fun wc h => last_no p b N f M wc h.sx ht
    generalize tpE N M f = E at HL ht ⊢
    have hE : (E != 0) = true := by simp [ht]
    clear e1 e2 hM ht
    go_enter Tryd.func12, Tryd.ntmps12
    go_wp2_with (first
      | (go_at_call 21; refine (HL.out _ H0.out).mono ?_; rintro e1 w1 ⟨rfl, hb⟩; have H1 := rhide ((H0.out.on hb).on (bal (Below.refl _ _) (.cells #[.pointer none, .int .i64 0, .int .i64 0, .int .i64 0, .int .i64 0, .int .i64 0, .int .i64 0, .int .i64 0, .int .i64 0] 55))); clear hb H0 HL)
      | fail)
    go_ret
    exact ⟨rfl, H1.out.sx, But.of_below b H1.out.below⟩
/-! ### Pop -/
theorem but_own {w W : World} {b q : Nat} (h : But b w W) (hq : w.heap.size ≤ q) (j : Nat) (v : Value) : But b w (W.setCell ⟨q, j, none⟩ v) := ⟨h.os, h.tape, h.output, by rw [World.size_setCell]; exact h.size, fun i hi hn => (heap_setCell_other _ _ _ _ (by show i ≠ q; omega)).trans (h.block i hi hn)⟩
theorem own2 {w W : World} {p b N : Nat} {M M0 : Nat → Nat → Int} (h0 : Sx w p b N M0) (h : Sx W p b N M ∧ But b w W) (j : Nat) (v : Value) : Sx (W.setCell ⟨w.heap.size, j, none⟩ v) p b N M ∧ But b w (W.setCell ⟨w.heap.size, j, none⟩ v) := by
  have hp := h0.mx.mem.lt
  have ho : ∀ k, k ≠ w.heap.size → (W.setCell ⟨w.heap.size, j, none⟩ v).heap[k]? = W.heap[k]? := fun k hk => heap_setCell_other _ _ _ _ hk
  refine ⟨⟨⟨h.1.mx.mem.on (ho p (by omega)) (ho b (by omega)), ?_, h.1.mx.fit, h.1.mx.n1, h.1.mx.n64⟩, ?_⟩, but_own h.2 (Nat.le_refl _) j v⟩
  · obtain ⟨t, fr, hr⟩ := h.1.mx.tb.row
    have := h0.mx.tb.lt
    exact ⟨by rw [World.size_setCell]; exact h.1.mx.tb.lt, t, fr, (ho _ (by omega)).trans hr⟩
  · obtain ⟨t, fr, hr⟩ := h.1.tb.row
    have := h0.tb.lt
    exact ⟨by rw [World.size_setCell]; exact h.1.tb.lt, t, fr, (ho _ (by omega)).trans hr⟩
theorem own_six {w W : World} {p b N : Nat} {M M0 : Nat → Nat → Int} (h0 : Sx w p b N M0) (h : Sx W p b N M ∧ But b w W) (x : Rc) : Sx ((((((W.setCell ⟨w.heap.size, 0, none⟩ (.int .i64 x.co)).setCell ⟨w.heap.size, 1, none⟩ (.int .i64 x.tb)).setCell ⟨w.heap.size, 2, none⟩ (.int .i64 x.pg)).setCell ⟨w.heap.size, 3, none⟩ (.int .i64 x.l)).setCell ⟨w.heap.size, 4, none⟩ (.int .i64 x.e)).setCell ⟨w.heap.size, 5, none⟩ (.int .i64 x.ip)) p b N M ∧ But b w ((((((W.setCell ⟨w.heap.size, 0, none⟩ (.int .i64 x.co)).setCell ⟨w.heap.size, 1, none⟩ (.int .i64 x.tb)).setCell ⟨w.heap.size, 2, none⟩ (.int .i64 x.pg)).setCell ⟨w.heap.size, 3, none⟩ (.int .i64 x.l)).setCell ⟨w.heap.size, 4, none⟩ (.int .i64 x.e)).setCell ⟨w.heap.size, 5, none⟩ (.int .i64 x.ip)) :=
  own2 h0 (own2 h0 (own2 h0 (own2 h0 (own2 h0 (own2 h0 h 0 _) 1 _) 2 _) 3 _) 4 _) 5 _
structure Po (w W : World) (p b N : Nat) (M : Nat → Nat → Int) (D : Nat) (f k : Int) (X : Rc) : Prop where
  sx : Sx W p b N M
  res : RowR W w.heap.size rc0
  rc : RowV W D (r9 p f k X)
  dl : w.heap.size < D
  but : But b w W
theorem To6.more {w W : World} {p b N : Nat} {M : Nat → Nat → Int} (h : To6 w W p b N M) (f k : Int) (X : Rc) : Po w (W.alloc (.cells #[.pointer (some ⟨p, 0, none⟩), .int .i64 f, .int .i64 k, .int .i64 X.co, .int .i64 X.tb, .int .i64 X.pg, .int .i64 X.l, .int .i64 X.e, .int .i64 X.ip] 55)) p b N M W.heap.size f k X :=
  ⟨h.sx.on (bal (Below.refl _ _) _), h.res.on (bal (Below.refl _ _) _), rowV_new W (r9 p f k X) 55, h.res.lt, But.of_below b (h.below.trans ((bal (Below.refl _ _) _).mono h.below.size))⟩
theorem Po.on {w W W' : World} {p b N : Nat} {M : Nat → Nat → Int} {D : Nat} {f k : Int} {X : Rc} (h : Po w W p b N M D f k X) (hB : Below W.heap.size W W') : Po w W' p b N M D f k X := ⟨h.sx.on hB, h.res.on hB, h.rc.on hB, h.dl, h.but.trans (But.of_below b hB)⟩
theorem Po.turn {w W W' : World} {p b N : Nat} {M M' : Nat → Nat → Int} {D : Nat} {f k : Int} {X : Rc} (h : Po w W p b N M D f k X) (hl : b < w.heap.size) (hX : Sx W' p b N M') (hB : But b W W') : Po w W' p b N M' D f k X := ⟨hX, h.res.but hB (by omega), RowV.but h.rc hB (by have := h.dl; omega), h.dl, h.but.trans hB⟩
set_option maxRecDepth 100000 in
set_option maxHeartbeats 4000000 in
theorem pop_any (p b N : Nat) (f : Int) (M : Nat → Nat → Int) (w : World) (hM : Sx w p b N M) :
    Calls Tryd.prog 10 #[.pointer (some ⟨p, 0, none⟩), .int .i64 f] w fun e w' => e = .returned (.tuple #[.agg #[.int .i64 (tpX N M f).co, .int .i64 (tpX N M f).tb, .int .i64 (tpX N M f).pg, .int .i64 (tpX N M f).l, .int .i64 (tpX N M f).e, .int .i64 (tpX N M f).ip], .int .i64 (tpE N M f)]) ∧ Sx w' p b N (ppM N M f) ∧ But b w w' := by
  have HS0 := rhide hM
  have hlb := hM.ltb
  have H0 := rhide (to6_new hM)
  by_cases ht : tpE N M f = 0
  · have HL : Hid (∀ wc, To6 w wc p b N M → Calls Tryd.prog 21 #[.pointer (some ⟨p, 0, none⟩), .int .i64 f] wc fun e w' => e = .returned (.tuple #[.agg #[.pointer (some ⟨p, 0, none⟩), .int .i64 f, .int .i64 ((dpN M f - 1 : Nat) : Int), .int .i64 (tpX N M f).co, .int .i64 (tpX N M f).tb, .int .i64 (tpX N M f).pg, .int .i64 (tpX N M f).l, .int .i64 (tpX N M f).e, .int .i64 (tpX N M f).ip], .int .i64 0]) ∧ Below wc.heap.size wc w') := fun wc h => last_yes p b N f M wc h.sx ht
    obtain ⟨hg, hd1, _⟩ := tp_yes ht
    obtain ⟨hf, hde, h6⟩ := gt_dp hg
    have e2 : ppM N M f = stW N M f 8 ((dpN M f - 1 : Nat) : Int) := by unfold ppM; rw [if_pos ht]
    have HU : Hid (∀ D wc, Po w wc p b N M D f ((dpN M f - 1 : Nat) : Int) (tpX N M f) → Calls Tryd.prog 22 #[.agg #[.pointer (some ⟨p, 0, none⟩), .int .i64 f, .int .i64 ((dpN M f - 1 : Nat) : Int)]] wc fun e w' => e = .returned (.int .i64 0) ∧ Po w w' p b N (stW N M f 8 ((dpN M f - 1 : Nat) : Int)) D f ((dpN M f - 1 : Nat) : Int) (tpX N M f)) := fun D wc h =>
      (uncover_any p b N f (dpN M f - 1) M wc h.sx hg (by omega)).mono fun e w' ⟨q1, q2, q3⟩ => ⟨q1, h.turn hlb q2 q3⟩
    rw [ht, e2]
    generalize stW N M f 8 ((dpN M f - 1 : Nat) : Int) = M1 at HU ⊢
    generalize ((dpN M f - 1 : Nat) : Int) = k at HL HU
    generalize tpX N M f = X at HL HU ⊢
    clear e2 hg hd1 hf hde h6 ht hM hlb
    go_enter Tryd.func10, Tryd.ntmps10
    go_upto_region 4 with (first
      | (go_at_call 21; refine (HL.out _ H0.out).mono ?_; rintro e1 w1 ⟨rfl, hb⟩; have H1 := rhide ((H0.out.on hb).more f k X); clear hb H0 HL)
      | fail)
    generalize w1.alloc _ = v at H1 ⊢
    generalize w1.heap.size = D at H1 ⊢
    obtain ⟨y0, y1, y2, y3, y4, y5, y6, y7, y8⟩ := r9_cells H1.out.rc
    have x0 := H1.out.res.c0
    have x1 := H1.out.res.c1
    have x2 := H1.out.res.c2
    have x3 := H1.out.res.c3
    have x4 := H1.out.res.c4
    have x5 := H1.out.res.c5
    have z := H1.out.res.fz
    go_region_with (first
      | (go_at_call 22; refine (HU.out _ _ (by first | exact H1.out | exact H1.out.on (Below.refl _ _).drew)).mono ?_; rintro e2 w2 ⟨rfl, hw⟩; have H2 := rhide hw; clear hw HU H1 y0 y1 y2 y3 y4 y5 y6 y7 y8 x0 x1 x2 x3 x4 x5 z; obtain ⟨y0, y1, y2, y3, y4, y5, y6, y7, y8⟩ := r9_cells H2.out.rc; have x0 := H2.out.res.c0; have x1 := H2.out.res.c1; have x2 := H2.out.res.c2; have x3 := H2.out.res.c3; have x4 := H2.out.res.c4; have x5 := H2.out.res.c5; have z := H2.out.res.fz)
      | fail)
    all_goals
      go_wp2
      refine bodyPost_ret (v := .tuple #[.agg #[.int .i64 X.co, .int .i64 X.tb, .int .i64 X.pg, .int .i64 X.l, .int .i64 X.e, .int .i64 X.ip], .int .i64 0]) (by simp [results, Tryd.results10, go_sem, x0, x1, x2, x3, x4, x5]) rfl ⟨rfl, ?_⟩
      exact own_six HS0.out ⟨H2.out.sx, H2.out.but⟩ X
  · have e2 : ppM N M f = M := by unfold ppM; rw [if_neg ht]
    rw [e2, show tpX N M f = rc0 by unfold tpX; rw [if_neg ht]]
    have HL : Hid (∀ wc, To6 w wc p b N M → Calls Tryd.prog 21 #[.pointer (some ⟨p, 0, none⟩), .int .i64 f] wc fun e w' => e = .returned (.tuple #[.agg #[.pointer none, .int .i64 0, .int .i64 0, .int .i64 0, .int .i64 0, .int .i64 0, .int .i64 0, .int .i64 0, .int .i64 0], .int .i64 (tpE N M f)]) ∧ Below wc.heap.size wc w') := fun wc h => last_no p b N f M wc h.sx ht
    generalize tpE N M f = E at HL ht ⊢
    have hE : (E != 0) = true := by simp [ht]
    clear e2 hM ht hlb
    go_enter Tryd.func10, Tryd.ntmps10
    go_wp2_with (first
      | (go_at_call 21; refine (HL.out _ H0.out).mono ?_; rintro e1 w1 ⟨rfl, hb⟩; have H1 := rhide ((H0.out.on hb).on (bal (Below.refl _ _) (.cells #[.pointer none, .int .i64 0, .int .i64 0, .int .i64 0, .int .i64 0, .int .i64 0, .int .i64 0, .int .i64 0, .int .i64 0] 55))); clear hb H0 HL; have x0 := H1.out.res.c0; have x1 := H1.out.res.c1; have x2 := H1.out.res.c2; have x3 := H1.out.res.c3; have x4 := H1.out.res.c4; have x5 := H1.out.res.c5; have z := H1.out.res.fz)
      | fail)
    refine bodyPost_ret (v := .tuple #[.agg #[.int .i64 0, .int .i64 0, .int .i64 0, .int .i64 0, .int .i64 0, .int .i64 0], .int .i64 E]) (by simp [results, Tryd.results10, go_sem, x0, x1, x2, x3, x4, x5]) rfl ⟨rfl, ?_⟩
    exact own_six HS0.out ⟨H1.out.sx, But.of_below b H1.out.below⟩ rc0
/-! ### awake -/
theorem sx_new {w : World} (h : Ts w) {N : Nat} (h1 : 1 ≤ N) (h2 : N ≤ 64) : Sx (newW w N) (w.heap.size + 1) w.heap.size N fun _ _ => 0 :=
  sx_of h (newW_below w N) (newW_is w N) Fit.zero h1 h2
structure Ow (w W : World) (p b N : Nat) (M : Nat → Nat → Int) : Prop where
  sx : Sx W p b N M
  ge : w.heap.size ≤ b
  below : Below w.heap.size w W
theorem ow_new {w : World} (h : Ts w) {N : Nat} (h1 : 1 ≤ N) (h2 : N ≤ 64) : Ow w (newW w N) (w.heap.size + 1) w.heap.size N fun _ _ => 0 := ⟨sx_new h h1 h2, Nat.le_refl _, newW_below w N⟩
theorem Ow.on {w W W' : World} {p b N : Nat} {M : Nat → Nat → Int} (h : Ow w W p b N M) (hB : Below W.heap.size W W') : Ow w W' p b N M := ⟨h.sx.on hB, h.ge, h.below.trans (hB.mono h.below.size)⟩
theorem Ow.turn {w W W' : World} {p b N : Nat} {M M' : Nat → Nat → Int} (h : Ow w W p b N M) (hX : Sx W' p b N M') (hB : But b W W') : Ow w W' p b N M' := ⟨hX, h.ge, h.below.trans (hB.below h.ge h.below.size)⟩
set_option maxRecDepth 100000 in
set_option maxHeartbeats 1000000 in
theorem awake_any (w : World) (hT : Ts w) : Calls Tryd.prog 11 #[] w fun e w' => e = .returned (.bool true) ∧ Below w.heap.size w w' := by
  have H0 := rhide (ow_new hT (N := 1) (by omega) (by omega))
  have HM : Hid (∀ wc p b, Ow w wc p b 1 (fun _ _ => 0) → Calls Tryd.prog 6 #[.pointer (some ⟨p, 0, none⟩), .int .i64 0, .agg #[.int .i64 0, .int .i64 0, .int .i64 0, .int .i64 0, .int .i64 0]] wc fun e w' => e = .returned (.int .i64 0) ∧ Ow w w' p b 1 (mkM 1 (fun _ _ => 0) 0 th0)) := fun wc p b h => by
    have := Pthd.make_any p b 1 0 th0 _ wc h.sx.mx (by unfold Pthd.Fi In64 th0; decide)
    rw [stk_made.1] at this
    exact this.mono fun e w' ⟨q1, q2, q3⟩ => ⟨q1, h.turn (h.sx.but q2 q3) q3⟩
  have HTp : Hid (∀ wc p b, Ow w wc p b 1 (mkM 1 (fun _ _ => 0) 0 th0) → Calls Tryd.prog 23 #[.pointer (some ⟨p, 0, none⟩), .int .i64 0] wc fun e w' => e = .returned (.tuple #[.agg #[.int .i64 (tpX 1 (mkM 1 (fun _ _ => 0) 0 th0) 0).co, .int .i64 (tpX 1 (mkM 1 (fun _ _ => 0) 0 th0) 0).tb, .int .i64 (tpX 1 (mkM 1 (fun _ _ => 0) 0 th0) 0).pg, .int .i64 (tpX 1 (mkM 1 (fun _ _ => 0) 0 th0) 0).l, .int .i64 (tpX 1 (mkM 1 (fun _ _ => 0) 0 th0) 0).e, .int .i64 (tpX 1 (mkM 1 (fun _ _ => 0) 0 th0) 0).ip], .int .i64 8]) ∧ Below wc.heap.size wc w') := fun wc p b h => by
    have := top_any p b 1 0 _ wc h.sx
    rwa [stk_made.2.top_nil] at this
  generalize tpX 1 (mkM 1 (fun _ _ => 0) 0 th0) 0 = X at HTp
  generalize mkM 1 (fun _ _ => 0) 0 th0 = M1 at HM HTp
  clear hT
  go_enter Tryd.func11, Tryd.ntmps11
  go_wp2_with (first
    | (go_at_call 5; refine (new_ok 1 _ (by omega) (by omega)).mono ?_; rintro r1 w1 ⟨rfl, hw⟩; rw [← hw] at H0; clear hw)
    | (go_at_call 6; refine (HM.out _ _ _ H0.out).mono ?_; rintro r2 w2 ⟨rfl, hw⟩; have H1 := rhide hw; clear hw HM H0)
    | (go_at_call 23; refine (HTp.out _ _ _ H1.out).mono ?_; rintro r3 w3 ⟨rfl, hb⟩; have H2 := rhide ((H1.out.on hb).on (bal (Below.refl _ _) (.cells #[.int .i64 X.co, .int .i64 X.tb, .int .i64 X.pg, .int .i64 X.l, .int .i64 X.e, .int .i64 X.ip] 32))); clear hb HTp H1)
    | fail)
  go_ret
  exact ⟨rfl, H2.out.below⟩
end Go.Proofs.YtoipfcmjphlmfaaDoor.Pstack
