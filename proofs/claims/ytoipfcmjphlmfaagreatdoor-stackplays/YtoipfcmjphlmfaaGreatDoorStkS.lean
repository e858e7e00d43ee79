/- What the document's read of layer 19 answers (written by mk_doc.py). -/
import Derived.Test.YtoipfcmjphlmfaaGreatDoorStkR
namespace Go.Proofs.YtoipfcmjphlmfaaGreatDoor.Pstack
open Go.Proofs.YtoipfcmjphlmfaaGreatDoor.Pbase Go.Proofs.YtoipfcmjphlmfaaGreatDoor.Pfield Go.Proofs.YtoipfcmjphlmfaaGreatDoor.Play Go.Proofs.YtoipfcmjphlmfaaGreatDoor.Pmem Go.Proofs.YtoipfcmjphlmfaaGreatDoor.Pthd
open Go.RowKit M
set_option linter.unusedVariables false

theorem six_below {w W : World} (h : Below w.heap.size w W) (x : Rc) : Below w.heap.size w ((((((W.setCell ⟨w.heap.size, 0, none⟩ (.int .i64 x.co)).setCell ⟨w.heap.size, 1, none⟩ (.int .i64 x.tb)).setCell ⟨w.heap.size, 2, none⟩ (.int .i64 x.pg)).setCell ⟨w.heap.size, 3, none⟩ (.int .i64 x.l)).setCell ⟨w.heap.size, 4, none⟩ (.int .i64 x.e)).setCell ⟨w.heap.size, 5, none⟩ (.int .i64 x.ip)).drew := by
  have r3 : Below w.heap.size w ((((((W.setCell ⟨w.heap.size, 0, none⟩ (.int .i64 x.co)).setCell ⟨w.heap.size, 1, none⟩ (.int .i64 x.tb)).setCell ⟨w.heap.size, 2, none⟩ (.int .i64 x.pg)).setCell ⟨w.heap.size, 3, none⟩ (.int .i64 x.l)).setCell ⟨w.heap.size, 4, none⟩ (.int .i64 x.e)).setCell ⟨w.heap.size, 5, none⟩ (.int .i64 x.ip)) := bst (bst (bst (bst (bst (bst h (Nat.le_refl _) _ _) (Nat.le_refl _) _ _) (Nat.le_refl _) _ _) (Nat.le_refl _) _ _) (Nat.le_refl _) _ _) (Nat.le_refl _) _ _
  exact r3.drew
theorem runpack_five (a0 : Option Addr) (x : Int) (w : World) (hx : 0 ≤ x ∧ x ≤ 18446744073709551615) (hI : Ints .i64 w.heap.size w (.slice a0 5 5) rws) (hA : canU x rws) :
    Calls Tryz.prog 70 #[.slice a0 5 5, .int .u64 x] w fun e' W' => ∃ b o c, e' = .returned (.tuple #[.slice (some ⟨b, o, none⟩) 5 c, .int .i64 0]) ∧ Fiv W' b o x ∧ Below w.heap.size w W' :=
  (runpack_ok a0 5 rws x w (by decide) hx hI hA).mono fun e' W' ⟨a, c, he, hi, hB⟩ => by
    obtain ⟨b, o, rfl, h5⟩ := fiv_of hi
    exact ⟨b, o, c, he, h5, hB⟩
structure Rq (w W : World) (base q N : Nat) (M : Nat → Nat → Int) : Prop where
  rx : Rx W base q N M
  res : RowR W w.heap.size rc0
  below : Below w.heap.size w W
theorem rq_new {w : World} {base q N : Nat} {M : Nat → Nat → Int} (h : Rx w base q N M) : Rq w (w.alloc (.cells #[.int .i64 0, .int .i64 0, .int .i64 0, .int .i64 0, .int .i64 0, .int .i64 0] 38)) base q N M := ⟨h.grown (bal (Below.refl _ _) _), rowR_new w rc0, bal (Below.refl _ _) _⟩
theorem Rq.on {w W W' : World} {base q N : Nat} {M : Nat → Nat → Int} (h : Rq w W base q N M) (hB : Below W.heap.size W W') : Rq w W' base q N M := ⟨h.rx.grown hB, h.res.on hB, h.below.trans (hB.mono h.below.size)⟩
set_option maxRecDepth 100000 in
set_option maxHeartbeats 4000000 in
theorem rrd_any (base q N : Nat) (f : Int) (i : Nat) (M : Nat → Nat → Int) (w : World) (h : Rx w base q N M) (hf : okF N f = true) (hi : i < 6) :
    Calls Tryz.prog 44 #[.pointer (some ⟨q, 0, none⟩), .int .i64 f, .int .i64 i] w fun e w' => e = .returned (.tuple #[.agg #[.int .i64 (rcX M f i).co, .int .i64 (rcX M f i).tb, .int .i64 (rcX M f i).pg, .int .i64 (rcX M f i).l, .int .i64 (rcX M f i).e, .int .i64 (rcX M f i).ip], .int .i64 (rcE M f i)]) ∧ Below w.heap.size w w' := by
  have H0 := rhide (rq_new h)
  have HPl : Hid (∀ wc, Calls Tryz.prog 66 #[.int .i64 i] wc fun e w' => e = .returned (.int .i64 (17 + 2 * (i : Int))) ∧ w' = wc) := fun wc => rplace_any i hi wc
  have o1 : okW N f (17 + 2 * (i : Int)) = true := by unfold okW; rw [hf]; simp; omega
  have o2 : okW N f (17 + 2 * (i : Int) + 1) = true := by unfold okW; rw [hf]; simp; omega
  have HL1 : Hid (∀ wc, Rq w wc base q N M → Calls Tryz.prog 69 #[.pointer (some ⟨q, 0, none⟩), .int .i64 f, .int .i64 (17 + 2 * (i : Int))] wc fun e w' => e = .returned (.tuple #[.int .u64 (M f.toNat (17 + 2 * i)), .int .i64 0]) ∧ w' = wc) := fun wc h => by
    have := Pmem.rload_any base q N f (17 + 2 * (i : Int)) M wc h.rx.n1 h.rx.n64 h.rx.ref
    rwa [show errW N f (17 + 2 * (i : Int)) = 0 by unfold errW; rw [o1]; rfl, show ldM N M f (17 + 2 * (i : Int)) = M f.toNat (17 + 2 * i) by unfold ldM; rw [o1, show (17 + 2 * (i : Int)).toNat = 17 + 2 * i by omega]; rfl] at this
  have HL2 : Hid (∀ wc, Rq w wc base q N M → Calls Tryz.prog 69 #[.pointer (some ⟨q, 0, none⟩), .int .i64 f, .int .i64 (17 + 2 * (i : Int) + 1)] wc fun e w' => e = .returned (.tuple #[.int .u64 (M f.toNat (18 + 2 * i)), .int .i64 0]) ∧ w' = wc) := fun wc h => by
    have := Pmem.rload_any base q N f (17 + 2 * (i : Int) + 1) M wc h.rx.n1 h.rx.n64 h.rx.ref
    rwa [show errW N f (17 + 2 * (i : Int) + 1) = 0 by unfold errW; rw [o2]; rfl, show ldM N M f (17 + 2 * (i : Int) + 1) = M f.toNat (18 + 2 * i) by unfold ldM; rw [o2, show (17 + 2 * (i : Int) + 1).toNat = 18 + 2 * i by omega]; rfl] at this
  have d6 : wrap64 (17 + 2 * (i : Int) + 1) = 17 + 2 * (i : Int) + 1 := by unfold wrap64; omega
  have d7 : IntKind.i64.wrap (17 + 2 * (i : Int) + 1) = 17 + 2 * (i : Int) + 1 := wrapi_small (by omega) (by omega)
  have hA := h.fit f.toNat (17 + 2 * i)
  have hB0 := (h.fit f.toNat (18 + 2 * i)).1
  unfold rcX rcE
  clear o1 o2 hf hi h
  generalize M f.toNat (17 + 2 * i) = a at HL1 hA ⊢
  generalize M f.toNat (18 + 2 * i) = b at HL2 hB0 ⊢
  have HA : Hid (0 ≤ a ∧ a ≤ 18446744073709551615) := hA
  clear hA
  by_cases hc : canU a rws
  case neg =>
    have e0 : rdB a b = false := by
      cases hb : rdB a b
      · rfl
      · exact absurd ((rdB_iff a b).1 hb).1 hc
    have e1 : rdE a b = 12 := by unfold rdE; rw [e0]; rfl
    have e2 : rdX a b = rc0 := by unfold rdX; rw [e0]; rfl
    rw [e1, e2]
    have HC : Hid (¬ canU a rws) := hc
    clear e0 e1 e2 hc
    go_enter Tryz.func44, Tryz.ntmps44
    go_wp2_with (first
      | (go_at_call 66; refine (HPl.out _).mono ?_; rintro e1 w1 ⟨rfl, hw⟩; subst w1)
      | (go_at_call 69; refine (HL1.out _ H0.out).mono ?_; rintro e2 w2 ⟨rfl, hw⟩; subst w2; clear HL1)
      | (go_at_call 69; refine (HL2.out _ H0.out).mono ?_; rintro e3 w3 ⟨rfl, hw⟩; subst w3; clear HL2)
      | (go_at_call 65; refine (rwidths_any _).mono ?_; rintro e4 w4 ⟨c, rfl, hi2, hb⟩; have H1 := rhide (H0.out.on hb); have HI := rhide hi2; clear hb hi2 H0)
      | (go_at_call 70; refine (runpack_bad (some ⟨c, 0, none⟩) 5 rws a _ (by decide) HA.out HI.out HC.out).mono ?_; rintro e5 w5 ⟨rfl, hb⟩; have H2 := rhide (H1.out.on hb); clear hb H1 HI; have x0 := H2.out.res.c0; have x1 := H2.out.res.c1; have x2 := H2.out.res.c2; have x3 := H2.out.res.c3; have x4 := H2.out.res.c4; have x5 := H2.out.res.c5; have z := H2.out.res.fz)
      | fail)
    refine bodyPost_ret (v := .tuple #[.agg #[.int .i64 0, .int .i64 0, .int .i64 0, .int .i64 0, .int .i64 0, .int .i64 0], .int .i64 12]) (by simp [results, Tryz.results44, go_sem, x0, x1, x2, x3, x4, x5]) rfl ⟨rfl, ?_⟩
    exact bst (bst (bst (bst (bst (bst H2.out.below (Nat.le_refl _) _ _) (Nat.le_refl _) _ _) (Nat.le_refl _) _ _) (Nat.le_refl _) _ _) (Nat.le_refl _) _ _) (Nat.le_refl _) _ _
  case pos =>
  have HC : Hid (canU a rws) := hc
  by_cases hb : b ≤ 1073741824
  case neg =>
    have e0 : rdB a b = false := by
      cases hh : rdB a b
      · rfl
      · exact absurd ((rdB_iff a b).1 hh).2 hb
    have e1 : rdE a b = 12 := by unfold rdE; rw [e0]; rfl
    have e2 : rdX a b = rc0 := by unfold rdX; rw [e0]; rfl
    rw [e1, e2]
    have hb' : 1073741824 < b := by omega
    clear e0 e1 e2 hc hb
    go_enter Tryz.func44, Tryz.ntmps44
    go_wp2_with (first
      | (go_at_call 66; refine (HPl.out _).mono ?_; rintro e1 w1 ⟨rfl, hw⟩; subst w1)
      | (go_at_call 69; refine (HL1.out _ H0.out).mono ?_; rintro e2 w2 ⟨rfl, hw⟩; subst w2; clear HL1)
      | (go_at_call 69; refine (HL2.out _ H0.out).mono ?_; rintro e3 w3 ⟨rfl, hw⟩; subst w3; clear HL2)
      | (go_at_call 65; refine (rwidths_any _).mono ?_; rintro e4 w4 ⟨c, rfl, hi2, hb⟩; have H1 := rhide (H0.out.on hb); have HI := rhide hi2; clear hb hi2 H0)
      | (go_at_call 70; refine (runpack_ok (some ⟨c, 0, none⟩) 5 rws a _ (by decide) HA.out HI.out HC.out).mono ?_; rintro e5 w5 ⟨aa, cc, rfl, _, hb⟩; have H2 := rhide (H1.out.on hb); clear hb H1 HI; have x0 := H2.out.res.c0; have x1 := H2.out.res.c1; have x2 := H2.out.res.c2; have x3 := H2.out.res.c3; have x4 := H2.out.res.c4; have x5 := H2.out.res.c5; have z := H2.out.res.fz)
      | fail)
    refine bodyPost_ret (v := .tuple #[.agg #[.int .i64 0, .int .i64 0, .int .i64 0, .int .i64 0, .int .i64 0, .int .i64 0], .int .i64 12]) (by simp [results, Tryz.results44, go_sem, x0, x1, x2, x3, x4, x5]) rfl ⟨rfl, ?_⟩
    exact bst (bst (bst (bst (bst (bst H2.out.below (Nat.le_refl _) _ _) (Nat.le_refl _) _ _) (Nat.le_refl _) _ _) (Nat.le_refl _) _ _) (Nat.le_refl _) _ _) (Nat.le_refl _) _ _
  case pos =>
    have e0 : rdB a b = true := (rdB_iff a b).2 ⟨hc, hb⟩
    have e1 : rdE a b = 0 := by unfold rdE; rw [if_pos e0]
    have e2 : rdX a b = rdR a b := by unfold rdX; rw [if_pos e0]
    rw [e1, e2]
    unfold rdR
    dsimp only
    obtain ⟨g0, g1, g2, g3, g4⟩ := rgN_bd HA.out hc
    have d0 : IntKind.i64.wrap (rgN a 0) = rgN a 0 := wrapi_small (by omega) (by omega)
    have d1 : IntKind.i64.wrap (rgN a 1) = rgN a 1 := wrapi_small (by omega) (by omega)
    have d2 : IntKind.i64.wrap (rgN a 2) = rgN a 2 := wrapi_small (by omega) (by omega)
    have d3 : IntKind.i64.wrap (rgN a 3) = rgN a 3 := wrapi_small (by omega) (by omega)
    have d4 : IntKind.i64.wrap (rgN a 4) = rgN a 4 := wrapi_small (by omega) (by omega)
    have d5 : IntKind.i64.wrap b = b := wrapi_small (by omega) (by omega)
    have hb' : ¬ 1073741824 < b := by omega
    clear e0 e1 e2 hc g0 g1 g2 g3 g4 hb hB0
    go_enter Tryz.func44, Tryz.ntmps44
    go_upto_region 6 with (first
      | (go_at_call 66; refine (HPl.out _).mono ?_; rintro e1 w1 ⟨rfl, hw⟩; subst w1)
      | (go_at_call 69; refine (HL1.out _ H0.out).mono ?_; rintro e2 w2 ⟨rfl, hw⟩; subst w2; clear HL1)
      | (go_at_call 69; refine (HL2.out _ H0.out).mono ?_; rintro e3 w3 ⟨rfl, hw⟩; subst w3; clear HL2)
      | (go_at_call 65; refine (rwidths_any _).mono ?_; rintro e4 w4 ⟨c, rfl, hi2, hb⟩; have H1 := rhide (H0.out.on hb); have HI := rhide hi2; clear hb hi2 H0)
      | (go_at_call 70; refine (runpack_five (some ⟨c, 0, none⟩) a _ HA.out HI.out HC.out).mono ?_; rintro e5 w5 ⟨bb, oo, cc, rfl, h5, hb⟩; have H2 := rhide (H1.out.on hb); have H5 := rhide h5; clear hb H1 HI h5)
      | fail)
    have hne := fiv_ne H5.out H2.out.res
    have f0 := H5.out.c0
    have f1 := H5.out.c1
    have f2 := H5.out.c2
    have f3 := H5.out.c3
    have f4 := H5.out.c4
    have x0 := H2.out.res.c0
    have x1 := H2.out.res.c1
    have x2 := H2.out.res.c2
    have x3 := H2.out.res.c3
    have x4 := H2.out.res.c4
    have x5 := H2.out.res.c5
    have z := H2.out.res.fz
    go_region
    have HBl := rhide H2.out.below
    clear H2 H5 HA HC f0 f1 f2 f3 f4 hne
    go_wp2
    refine bodyPost_ret (v := .tuple #[.agg #[.int .i64 (rgN a 0), .int .i64 (rgN a 1), .int .i64 (rgN a 2), .int .i64 (rgN a 3), .int .i64 (rgN a 4), .int .i64 b], .int .i64 0]) (by simp [results, Tryz.results44, go_sem, x0, x1, x2, x3, x4, x5]) rfl ⟨rfl, ?_⟩
    exact six_below HBl.out ⟨rgN a 0, rgN a 1, rgN a 2, rgN a 3, rgN a 4, b⟩
end Go.Proofs.YtoipfcmjphlmfaaGreatDoor.Pstack
