/- What the document's Check of layer 24 answers, for every call. -/
import Derived.Test.YtjibbppjdojbpaaDoorCalR
import Derived.Test.YtjibbppjdojbpaaDoorBunWalk
import Derived.Outline
import Derived.Deep.CutBlock
import Derived.BigRegion
import Derived.Deep.QuietTactic
import Derived.Deep.RegionHeld3
import Derived.Deep.RegionWith
namespace Go.Proofs.YtjibbppjdojbpaaDoor.Pcall
open Go.Proofs.YtjibbppjdojbpaaDoor.Pbase Go.Proofs.YtjibbppjdojbpaaDoor.Pfield Go.Proofs.YtjibbppjdojbpaaDoor.Pwalk
open Go.RowKit M
set_option linter.unusedVariables false

theorem wl_at {k : Nat} (h : k < 5) : wlV[k + 1]? = some (.int .i64 (wl[k + 1]?.getD 0)) := by
  rcases (show k = 0 ∨ k = 1 ∨ k = 2 ∨ k = 3 ∨ k = 4 by omega) with rfl | rfl | rfl | rfl | rfl <;> rfl
theorem v_cell {w : World} {B : Nat} {x : Cl} (h : RowC w B x) {k : Nat} (hk : k < 5) : w.cell? ⟨B, 1 + k, none⟩ = some (.int .i64 (x.v k)) := by
  rcases (show k = 0 ∨ k = 1 ∨ k = 2 ∨ k = 3 ∨ k = 4 by omega) with rfl | rfl | rfl | rfl | rfl
  · exact h.c1
  · exact h.c2
  · exact h.c3
  · exact h.c4
  · exact h.c5
theorem v_fc {x : Cl} (h : Fc x) {k : Nat} (hk : k < 5) : I64 (x.v k) := by
  obtain ⟨h0, h1, h2, h3, h4, h5⟩ := h
  rcases (show k = 0 ∨ k = 1 ∨ k = 2 ∨ k = 3 ∨ k = 4 by omega) with rfl | rfl | rfl | rfl | rfl <;> assumption
theorem fits_v {z : Int} {k : Nat} (hk : k < 5) : fitsB z (wl[k + 1]?.getD 0) = decide (z ≤ mxI k) := by
  rcases (show k = 0 ∨ k = 1 ∨ k = 2 ∨ k = 3 ∨ k = 4 by omega) with rfl | rfl | rfl | rfl | rfl
  · show fitsB z 8 = _; rw [fitsB, mask8]; rfl
  · show fitsB z 16 = _; rw [fitsB, mask16]; rfl
  · show fitsB z 16 = _; rw [fitsB, mask16]; rfl
  · show fitsB z 8 = _; rw [fitsB, mask8]; rfl
  · show fitsB z 8 = _; rw [fitsB, mask8]; rfl
structure CkI (w W : World) (x : Cl) : Prop where
  box : RowC W w.heap.size x
  below : Below w.heap.size w W
theorem ckI_new (w : World) (x : Cl) : CkI w (w.alloc (.cells #[.int .i64 x.n, .int .i64 x.a, .int .i64 x.b, .int .i64 x.c, .int .i64 x.d, .int .i64 x.e] 24)) x := ⟨rowC_new w x, bal (Below.refl _ _) _⟩
theorem CkI.on {w W W' : World} {x : Cl} (h : CkI w W x) (hB : Below W.heap.size W W') : CkI w W' x := ⟨h.box.on hB, h.below.trans (hB.mono h.below.size)⟩
theorem CkI.drew {w W : World} {x : Cl} (h : CkI w W x) : CkI w W.drew x := ⟨h.box.drew, h.below.drew⟩
set_option maxRecDepth 100000 in
set_option maxHeartbeats 20000000 in
theorem rcheck_any (x : Cl) (hx : Fc x) (w : World) : Calls Tryd.prog 13 #[.agg #[.int .i64 x.n, .int .i64 x.a, .int .i64 x.b, .int .i64 x.c, .int .i64 x.d, .int .i64 x.e]] w fun e w' => e = .returned (.int .i64 (kcE x)) ∧ Below w.heap.size w w' := by
  have H0 := chide (ckI_new w x)
  have HX := chide hx
  clear hx
  have q0 := H0.out.box.c0
  by_cases hn : 0 ≤ x.n ∧ x.n ≤ 29
  · have h1 : ¬ x.n < 0 := by omega
    have h2 : ¬ 29 < x.n := by omega
    have HN := chide hn
    clear hn
    go_enter Tryd.func13, Tryd.ntmps13
    go_upto_region 1 with fail
    generalize w.alloc _ = w1 at H0 q0 ⊢
    go_wp2
    go_loopw [3] (fun i wr => ∃ k : Nat, k ≤ 5 ∧ i = .int .i64 k ∧ (∀ j, j < k → okB x j = true) ∧ CkI w wr x) (fun i _ => 5 - (intOf i).toNat)
    case atStart => exact ⟨0, by omega, rfl, fun j hj => by omega, H0.out⟩
    case round =>
      obtain ⟨k, hk, rfl, hJ, hI⟩ := hrel
      have HJ := chide hJ
      have HI := chide hI
      clear hJ hI H0 q0
      by_cases hlt : k < 5
      · have h3 : (k : Int) < 5 := by omega
        have q0 := HI.out.box.c0
        have HQ : Hid (∀ W, RowC W w.heap.size x → W.cell? ⟨w.heap.size, 1 + k, none⟩ = some (.int .i64 (x.v k))) := fun W h => v_cell h hlt
        obtain ⟨b0, b1⟩ := v_fc HX.out hlt
        have hf := fits_v (z := x.v k) hlt
        have HV := chide (wl_at hlt)
        have HF : Hid (∀ wc, 0 ≤ x.v k → Calls Tryd.prog 30 #[.int .u64 (x.v k), .int .i64 (wl[k + 1]?.getD 0)] wc fun e w' => e = .returned (.bool (fitsB (x.v k) (wl[k + 1]?.getD 0))) ∧ w' = wc) := fun wc h => rfits_any _ _ wc h (by omega)
        have HD : Hid (∀ wc, Calls Tryd.prog 15 #[.int .i64 x.n] wc fun e w' => e = .returned (.int .i64 (ndI x.n)) ∧ Below wc.heap.size wc w') := fun wc => rneeds_any _ wc
        have h4 : (k : Int) + 1 < 6 := by omega
        have h5 : 0 ≤ (k : Int) + 1 := by omega
        have h6 : ((k : Int) + 1).toNat = k + 1 := by omega
        have u1 : wrap64 ((k : Int) + 1) = (k : Int) + 1 := by unfold wrap64; omega
        have u2 : IntKind.i64.wrap ((k : Int) + 1) = (k : Int) + 1 := by rw [IntKind.wrap_i64]; omega
        have okd : okB x k = ((decide (0 ≤ x.v k) && decide (x.v k ≤ mxI k)) && (decide ((k : Int) < ndI x.n) || decide (x.v k = 0))) := rfl
        have HK : Hid (okB x k = false → kcE x = 1) := fun h => kc_no (rcB_i hlt h)
        rw [← hf] at okd
        generalize wl[k + 1]?.getD 0 = z at HV HF okd
        generalize fitsB (x.v k) z = ft at HF okd
        generalize hok' : okB x k = ok at okd HK
        generalize ndI x.n = nd at HD okd
        generalize x.v k = v at HQ b0 b1 HF okd
        clear hf
        have HO : Hid (ok = true → okB x k = true) := fun h => hok'.trans h
        by_cases c1 : v < 0
        · have d1 : decide (v < 0) = true := decide_eq_true c1
          have HE := chide (HK.out (show ok = false by rw [okd, decide_eq_false (show ¬ 0 ≤ v by omega)]; rfl))
          clear okd HO HK HF HD HV b0 b1
          go_upto_region 6 with fail
          have hS0 : CkI w wr.drew x := HI.out.drew
          refine wp_region_held_drew (S := fun w' => CkI w w' x) (by kernel_rfl) hS0 (fun hHeld => ?_)
          clear hS0
          refine takeV (i := 0) (v := ?_) rfl (by kernel_rfl) (by kernel_rfl) (by kernel_rfl) (fun _ _ _ h => h) (by rfl) hHeld ?_ ?_
          rotate_left
          · (intro w0 hSw; (try dsimp only at hSw); have q0 := hSw.box.c0; have q1 := HQ.out _ hSw.box; clear hSw; go_simp; try (with_reducible rfl))
          try simp only [Act.put, List.setIfInBounds_toArray, List.set_cons_zero, List.set_cons_succ]
          refine takeV (i := 1) (v := ?_) rfl (by kernel_rfl) (by kernel_rfl) (by kernel_rfl) (fun _ _ _ h => h) (by rfl) hHeld ?_ ?_
          rotate_left
          · (intro w0 hSw; (try dsimp only at hSw); have q0 := hSw.box.c0; have q1 := HQ.out _ hSw.box; clear hSw; go_simp; try (with_reducible rfl))
          try simp only [Act.put, List.setIfInBounds_toArray, List.set_cons_zero, List.set_cons_succ]
          refine takeV (i := 2) (v := ?_) rfl (by kernel_rfl) (by kernel_rfl) (by kernel_rfl) (fun _ _ _ h => h) (by rfl) hHeld ?_ ?_
          rotate_left
          · (intro w0 hSw; (try dsimp only at hSw); have q0 := hSw.box.c0; have q1 := HQ.out _ hSw.box; clear hSw; go_simp; try (with_reducible rfl))
          try simp only [Act.put, List.setIfInBounds_toArray, List.set_cons_zero, List.set_cons_succ]
          refine takeV (i := 3) (v := ?_) rfl (by kernel_rfl) (by kernel_rfl) (by kernel_rfl) (fun _ _ _ h => h) (by rfl) hHeld ?_ ?_
          rotate_left
          · (intro w0 hSw; (try dsimp only at hSw); have q0 := hSw.box.c0; have q1 := HQ.out _ hSw.box; clear hSw; go_simp; try (with_reducible rfl))
          try simp only [Act.put, List.setIfInBounds_toArray, List.set_cons_zero, List.set_cons_succ]
          refine takeV (i := 4) (v := ?_) rfl (by kernel_rfl) (by kernel_rfl) (by kernel_rfl) (fun _ _ _ h => h) (by rfl) hHeld ?_ ?_
          rotate_left
          · (intro w0 hSw; (try dsimp only at hSw); have q0 := hSw.box.c0; have q1 := HQ.out _ hSw.box; clear hSw; go_simp; try (with_reducible rfl))
          try simp only [Act.put, List.setIfInBounds_toArray, List.set_cons_zero, List.set_cons_succ]
          refine takeV (i := 5) (v := ?_) rfl (by kernel_rfl) (by kernel_rfl) (by kernel_rfl) (fun _ _ _ h => h) (by rfl) hHeld ?_ ?_
          rotate_left
          · (intro w0 hSw; (try dsimp only at hSw); have q0 := hSw.box.c0; have q1 := HQ.out _ hSw.box; clear hSw; go_simp; try (with_reducible rfl))
          try simp only [Act.put, List.setIfInBounds_toArray, List.set_cons_zero, List.set_cons_succ]
          refine takeU (i := 6) rfl (by kernel_rfl) (by kernel_rfl) (by kernel_rfl) (fun _ _ _ h => h) (by rfl) hHeld ?_
          try simp only [Act.put, List.setIfInBounds_toArray, List.set_cons_zero, List.set_cons_succ]
          refine takeU (i := 7) rfl (by kernel_rfl) (by kernel_rfl) (by kernel_rfl) (fun _ _ _ h => h) (by rfl) hHeld ?_
          try simp only [Act.put, List.setIfInBounds_toArray, List.set_cons_zero, List.set_cons_succ]
          refine takeU (i := 8) rfl (by kernel_rfl) (by kernel_rfl) (by kernel_rfl) (fun _ _ _ h => h) (by rfl) hHeld ?_
          try simp only [Act.put, List.setIfInBounds_toArray, List.set_cons_zero, List.set_cons_succ]
          refine takeU (i := 9) rfl (by kernel_rfl) (by kernel_rfl) (by kernel_rfl) (fun _ _ _ h => h) (by rfl) hHeld ?_
          try simp only [Act.put, List.setIfInBounds_toArray, List.set_cons_zero, List.set_cons_succ]
          refine takeU (i := 10) rfl (by kernel_rfl) (by kernel_rfl) (by kernel_rfl) (fun _ _ _ h => h) (by rfl) hHeld ?_
          try simp only [Act.put, List.setIfInBounds_toArray, List.set_cons_zero, List.set_cons_succ]
          refine takeU (i := 11) rfl (by kernel_rfl) (by kernel_rfl) (by kernel_rfl) (fun _ _ _ h => h) (by rfl) hHeld ?_
          try simp only [Act.put, List.setIfInBounds_toArray, List.set_cons_zero, List.set_cons_succ]
          refine takeU (i := 12) rfl (by kernel_rfl) (by kernel_rfl) (by kernel_rfl) (fun _ _ _ h => h) (by rfl) hHeld ?_
          try simp only [Act.put, List.setIfInBounds_toArray, List.set_cons_zero, List.set_cons_succ]
          refine takeU (i := 13) rfl (by kernel_rfl) (by kernel_rfl) (by kernel_rfl) (fun _ _ _ h => h) (by rfl) hHeld ?_
          try simp only [Act.put, List.setIfInBounds_toArray, List.set_cons_zero, List.set_cons_succ]
          refine takeU (i := 14) rfl (by kernel_rfl) (by kernel_rfl) (by kernel_rfl) (fun _ _ _ h => h) (by rfl) hHeld ?_
          try simp only [Act.put, List.setIfInBounds_toArray, List.set_cons_zero, List.set_cons_succ]
          refine takeU (i := 15) rfl (by kernel_rfl) (by kernel_rfl) (by kernel_rfl) (fun _ _ _ h => h) (by rfl) hHeld ?_
          try simp only [Act.put, List.setIfInBounds_toArray, List.set_cons_zero, List.set_cons_succ]
          refine takeU (i := 16) rfl (by kernel_rfl) (by kernel_rfl) (by kernel_rfl) (fun _ _ _ h => h) (by rfl) hHeld ?_
          try simp only [Act.put, List.setIfInBounds_toArray, List.set_cons_zero, List.set_cons_succ]
          refine takeU (i := 17) rfl (by kernel_rfl) (by kernel_rfl) (by kernel_rfl) (fun _ _ _ h => h) (by rfl) hHeld ?_
          try simp only [Act.put, List.setIfInBounds_toArray, List.set_cons_zero, List.set_cons_succ]
          refine takeV (i := 18) (v := ?_) rfl (by kernel_rfl) (by kernel_rfl) (by kernel_rfl) (fun _ _ _ h => h) (by rfl) hHeld ?_ ?_
          rotate_left
          · (intro w0 hSw; (try dsimp only at hSw); have q0 := hSw.box.c0; have q1 := HQ.out _ hSw.box; clear hSw; go_simp; try (with_reducible rfl))
          try simp only [Act.put, List.setIfInBounds_toArray, List.set_cons_zero, List.set_cons_succ]
          refine takeV (i := 19) (v := ?_) rfl (by kernel_rfl) (by kernel_rfl) (by kernel_rfl) (fun _ _ _ h => h) (by rfl) hHeld ?_ ?_
          rotate_left
          · (intro w0 hSw; (try dsimp only at hSw); have q0 := hSw.box.c0; have q1 := HQ.out _ hSw.box; clear hSw; go_simp; try (with_reducible rfl))
          try simp only [Act.put, List.setIfInBounds_toArray, List.set_cons_zero, List.set_cons_succ]
          refine takeU (i := 20) rfl (by kernel_rfl) (by kernel_rfl) (by kernel_rfl) (fun _ _ _ h => h) (by rfl) hHeld ?_
          try simp only [Act.put, List.setIfInBounds_toArray, List.set_cons_zero, List.set_cons_succ]
          refine takeU (i := 21) rfl (by kernel_rfl) (by kernel_rfl) (by kernel_rfl) (fun _ _ _ h => h) (by rfl) hHeld ?_
          try simp only [Act.put, List.setIfInBounds_toArray, List.set_cons_zero, List.set_cons_succ]
          refine takeU (i := 22) rfl (by kernel_rfl) (by kernel_rfl) (by kernel_rfl) (fun _ _ _ h => h) (by rfl) hHeld ?_
          try simp only [Act.put, List.setIfInBounds_toArray, List.set_cons_zero, List.set_cons_succ]
          refine takeU (i := 23) rfl (by kernel_rfl) (by kernel_rfl) (by kernel_rfl) (fun _ _ _ h => h) (by rfl) hHeld ?_
          try simp only [Act.put, List.setIfInBounds_toArray, List.set_cons_zero, List.set_cons_succ]
          refine takeU (i := 24) rfl (by kernel_rfl) (by kernel_rfl) (by kernel_rfl) (fun _ _ _ h => h) (by rfl) hHeld ?_
          try simp only [Act.put, List.setIfInBounds_toArray, List.set_cons_zero, List.set_cons_succ]
          refine takeU (i := 25) rfl (by kernel_rfl) (by kernel_rfl) (by kernel_rfl) (fun _ _ _ h => h) (by rfl) hHeld ?_
          try simp only [Act.put, List.setIfInBounds_toArray, List.set_cons_zero, List.set_cons_succ]
          refine takeU (i := 26) rfl (by kernel_rfl) (by kernel_rfl) (by kernel_rfl) (fun _ _ _ h => h) (by rfl) hHeld ?_
          try simp only [Act.put, List.setIfInBounds_toArray, List.set_cons_zero, List.set_cons_succ]
          refine takeU (i := 27) rfl (by kernel_rfl) (by kernel_rfl) (by kernel_rfl) (fun _ _ _ h => h) (by rfl) hHeld ?_
          try simp only [Act.put, List.setIfInBounds_toArray, List.set_cons_zero, List.set_cons_succ]
          refine takeU (i := 28) rfl (by kernel_rfl) (by kernel_rfl) (by kernel_rfl) (fun _ _ _ h => h) (by rfl) hHeld ?_
          try simp only [Act.put, List.setIfInBounds_toArray, List.set_cons_zero, List.set_cons_succ]
          refine takeU (i := 29) rfl (by kernel_rfl) (by kernel_rfl) (by kernel_rfl) (fun _ _ _ h => h) (by rfl) hHeld ?_
          try simp only [Act.put, List.setIfInBounds_toArray, List.set_cons_zero, List.set_cons_succ]
          refine takeU (i := 30) rfl (by kernel_rfl) (by kernel_rfl) (by kernel_rfl) (fun _ _ _ h => h) (by rfl) hHeld ?_
          try simp only [Act.put, List.setIfInBounds_toArray, List.set_cons_zero, List.set_cons_succ]
          refine takeU (i := 31) rfl (by kernel_rfl) (by kernel_rfl) (by kernel_rfl) (fun _ _ _ h => h) (by rfl) hHeld ?_
          try simp only [Act.put, List.setIfInBounds_toArray, List.set_cons_zero, List.set_cons_succ]
          refine takeV (i := 32) (v := ?_) rfl (by kernel_rfl) (by kernel_rfl) (by kernel_rfl) (fun _ _ _ h => h) (by rfl) hHeld ?_ ?_
          rotate_left
          · (intro w0 hSw; (try dsimp only at hSw); have q0 := hSw.box.c0; have q1 := HQ.out _ hSw.box; clear hSw; go_simp; try (with_reducible rfl))
          try simp only [Act.put, List.setIfInBounds_toArray, List.set_cons_zero, List.set_cons_succ]
          refine wpAnyH_done (by kernel_rfl) ?_ _
          go_wp2
          go_ret
          exact ⟨by rw [HE.out]; rfl, hHeld.below⟩
        have d1 : decide (v < 0) = false := decide_eq_false c1
        have d2 : IntKind.u64.wrap v = v := wrapu_small (by omega) (by omega)
        have c2 : 0 ≤ v := by omega
        rw [decide_eq_true c2] at okd
        cases ft
        · have HE := chide (HK.out (show ok = false by rw [okd]; rfl))
          clear okd HO HK HD
          go_upto_region 6 with fail
          have hS0 : CkI w wr.drew x := HI.out.drew
          refine wp_region_held_drew (S := fun w' => CkI w w' x) (by kernel_rfl) hS0 (fun hHeld => ?_)
          clear hS0
          refine takeV (i := 0) (v := ?_) rfl (by kernel_rfl) (by kernel_rfl) (by kernel_rfl) (fun _ _ _ h => h) (by rfl) hHeld ?_ ?_
          rotate_left
          · (intro w0 hSw; (try dsimp only at hSw); have q0 := hSw.box.c0; have q1 := HQ.out _ hSw.box; clear hSw; go_simp; try (with_reducible rfl))
          try simp only [Act.put, List.setIfInBounds_toArray, List.set_cons_zero, List.set_cons_succ]
          refine takeV (i := 1) (v := ?_) rfl (by kernel_rfl) (by kernel_rfl) (by kernel_rfl) (fun _ _ _ h => h) (by rfl) hHeld ?_ ?_
          rotate_left
          · (intro w0 hSw; (try dsimp only at hSw); have q0 := hSw.box.c0; have q1 := HQ.out _ hSw.box; clear hSw; go_simp; try (with_reducible rfl))
          try simp only [Act.put, List.setIfInBounds_toArray, List.set_cons_zero, List.set_cons_succ]
          refine takeV (i := 2) (v := ?_) rfl (by kernel_rfl) (by kernel_rfl) (by kernel_rfl) (fun _ _ _ h => h) (by rfl) hHeld ?_ ?_
          rotate_left
          · (intro w0 hSw; (try dsimp only at hSw); have q0 := hSw.box.c0; have q1 := HQ.out _ hSw.box; clear hSw; go_simp; try (with_reducible rfl))
          try simp only [Act.put, List.setIfInBounds_toArray, List.set_cons_zero, List.set_cons_succ]
          refine takeV (i := 3) (v := ?_) rfl (by kernel_rfl) (by kernel_rfl) (by kernel_rfl) (fun _ _ _ h => h) (by rfl) hHeld ?_ ?_
          rotate_left
          · (intro w0 hSw; (try dsimp only at hSw); have q0 := hSw.box.c0; have q1 := HQ.out _ hSw.box; clear hSw; go_simp; try (with_reducible rfl))
          try simp only [Act.put, List.setIfInBounds_toArray, List.set_cons_zero, List.set_cons_succ]
          refine takeV (i := 4) (v := ?_) rfl (by kernel_rfl) (by kernel_rfl) (by kernel_rfl) (fun _ _ _ h => h) (by rfl) hHeld ?_ ?_
          rotate_left
          · (intro w0 hSw; (try dsimp only at hSw); have q0 := hSw.box.c0; have q1 := HQ.out _ hSw.box; clear hSw; go_simp; try (with_reducible rfl))
          try simp only [Act.put, List.setIfInBounds_toArray, List.set_cons_zero, List.set_cons_succ]
          refine takeV (i := 5) (v := ?_) rfl (by kernel_rfl) (by kernel_rfl) (by kernel_rfl) (fun _ _ _ h => h) (by rfl) hHeld ?_ ?_
          rotate_left
          · (intro w0 hSw; (try dsimp only at hSw); have q0 := hSw.box.c0; have q1 := HQ.out _ hSw.box; clear hSw; go_simp; try (with_reducible rfl))
          try simp only [Act.put, List.setIfInBounds_toArray, List.set_cons_zero, List.set_cons_succ]
          refine takeV (i := 6) (v := ?_) rfl (by kernel_rfl) (by kernel_rfl) (by kernel_rfl) (fun _ _ _ h => h) (by rfl) hHeld ?_ ?_
          rotate_left
          · (intro w0 hSw; (try dsimp only at hSw); have q0 := hSw.box.c0; have q1 := HQ.out _ hSw.box; clear hSw; go_simp; try (with_reducible rfl))
          try simp only [Act.put, List.setIfInBounds_toArray, List.set_cons_zero, List.set_cons_succ]
          refine takeV (i := 7) (v := ?_) rfl (by kernel_rfl) (by kernel_rfl) (by kernel_rfl) (fun _ _ _ h => h) (by rfl) hHeld ?_ ?_
          rotate_left
          · (intro w0 hSw; (try dsimp only at hSw); have q0 := hSw.box.c0; have q1 := HQ.out _ hSw.box; clear hSw; go_simp; try (with_reducible rfl))
          try simp only [Act.put, List.setIfInBounds_toArray, List.set_cons_zero, List.set_cons_succ]
          refine takeV (i := 8) (v := ?_) rfl (by kernel_rfl) (by kernel_rfl) (by kernel_rfl) (fun _ _ _ h => h) (by rfl) hHeld ?_ ?_
          rotate_left
          · (intro w0 hSw; (try dsimp only at hSw); have q0 := hSw.box.c0; have q1 := HQ.out _ hSw.box; clear hSw; go_simp; try (with_reducible rfl))
          try simp only [Act.put, List.setIfInBounds_toArray, List.set_cons_zero, List.set_cons_succ]
          refine takeV (i := 9) (v := ?_) rfl (by kernel_rfl) (by kernel_rfl) (by kernel_rfl) (fun _ _ _ h => h) (by rfl) hHeld ?_ ?_
          rotate_left
          · (intro w0 hSw; (try dsimp only at hSw); have q0 := hSw.box.c0; have q1 := HQ.out _ hSw.box; clear hSw; go_simp; try (with_reducible rfl))
          try simp only [Act.put, List.setIfInBounds_toArray, List.set_cons_zero, List.set_cons_succ]
          refine takeV (i := 10) (v := ?_) rfl (by kernel_rfl) (by kernel_rfl) (by kernel_rfl) (fun _ _ _ h => h) (by rfl) hHeld ?_ ?_
          rotate_left
          · (intro w0 hSw; (try dsimp only at hSw); have q0 := hSw.box.c0; have q1 := HQ.out _ hSw.box; clear hSw; go_simp; try (with_reducible rfl))
          try simp only [Act.put, List.setIfInBounds_toArray, List.set_cons_zero, List.set_cons_succ]
          refine takeV (i := 12) (v := ?_) rfl (by kernel_rfl) (by kernel_rfl) (by kernel_rfl) (fun _ _ _ h => h) (by rfl) hHeld ?_ ?_
          rotate_left
          · (intro w0 hSw; (try dsimp only at hSw); have q0 := hSw.box.c0; have q1 := HQ.out _ hSw.box; clear hSw; go_simp; try (with_reducible rfl))
          try simp only [Act.put, List.setIfInBounds_toArray, List.set_cons_zero, List.set_cons_succ]
          refine takeV (i := 13) (v := ?_) rfl (by kernel_rfl) (by kernel_rfl) (by kernel_rfl) (fun _ _ _ h => h) (by rfl) hHeld ?_ ?_
          rotate_left
          · (intro w0 hSw; (try dsimp only at hSw); have q0 := hSw.box.c0; have q1 := HQ.out _ hSw.box; clear hSw; go_simp; try (with_reducible rfl))
          try simp only [Act.put, List.setIfInBounds_toArray, List.set_cons_zero, List.set_cons_succ]
          refine stepOne (i := 11) rfl (by kernel_rfl) (fun K hK => ?_)
          go_simp
          (go_at_call 21; refine (rwidths_any _).mono ?_; rintro e9 w9 ⟨rfl, hr9, hb9⟩)
          go_wp2_with fail
          refine hK.out _ _ (hHeld.on hb9) (fun hHeld => ?_)
          clear hK K
          try simp only [Act.put, List.setIfInBounds_toArray, List.set_cons_zero, List.set_cons_succ]
          refine turnS (T := fun w' => CkI w w' x ∧ RowX w' _ wlV) (fun _ h => h.1) ⟨hHeld, hr9⟩ (fun hHeld => ?_)
          clear hr9 hb9
          refine takeV (i := 14) (v := ?_) rfl (by kernel_rfl) (by kernel_rfl) (by kernel_rfl) (fun _ _ _ h => h) (by rfl) hHeld ?_ ?_
          rotate_left
          · (intro w0 hSw; (try dsimp only at hSw); have q0 := hSw.1.box.c0; have q1 := HQ.out _ hSw.1.box; have q2 : w0.cell? ⟨wr.heap.size, k + 1, none⟩ = some (.int .i64 z) := (hSw.2.cell (k + 1)).trans HV.out; clear hSw; go_simp; try (with_reducible rfl))
          try simp only [Act.put, List.setIfInBounds_toArray, List.set_cons_zero, List.set_cons_succ]
          refine takeV (i := 15) (v := ?_) rfl (by kernel_rfl) (by kernel_rfl) (by kernel_rfl) (fun _ _ _ h => h) (by rfl) hHeld ?_ ?_
          rotate_left
          · (intro w0 hSw; (try dsimp only at hSw); have q0 := hSw.1.box.c0; have q1 := HQ.out _ hSw.1.box; have q2 : w0.cell? ⟨wr.heap.size, k + 1, none⟩ = some (.int .i64 z) := (hSw.2.cell (k + 1)).trans HV.out; clear hSw; go_simp; try (with_reducible rfl))
          try simp only [Act.put, List.setIfInBounds_toArray, List.set_cons_zero, List.set_cons_succ]
          refine stepOne (i := 16) rfl (by kernel_rfl) (fun K hK => ?_)
          go_simp
          (go_at_call 30; refine (HF.out _ (by omega)).mono ?_; rintro e9 w9 ⟨rfl, hw9⟩; subst w9)
          go_wp2_with fail
          refine hK.out _ _ hHeld (fun hHeld => ?_)
          clear hK K
          try simp only [Act.put, List.setIfInBounds_toArray, List.set_cons_zero, List.set_cons_succ]
          refine takeV (i := 17) (v := ?_) rfl (by kernel_rfl) (by kernel_rfl) (by kernel_rfl) (fun _ _ _ h => h) (by rfl) hHeld ?_ ?_
          rotate_left
          · (intro w0 hSw; (try dsimp only at hSw); have q0 := hSw.1.box.c0; have q1 := HQ.out _ hSw.1.box; have q2 : w0.cell? ⟨wr.heap.size, k + 1, none⟩ = some (.int .i64 z) := (hSw.2.cell (k + 1)).trans HV.out; clear hSw; go_simp; try (with_reducible rfl))
          try simp only [Act.put, List.setIfInBounds_toArray, List.set_cons_zero, List.set_cons_succ]
          refine takeV (i := 18) (v := ?_) rfl (by kernel_rfl) (by kernel_rfl) (by kernel_rfl) (fun _ _ _ h => h) (by rfl) hHeld ?_ ?_
          rotate_left
          · (intro w0 hSw; (try dsimp only at hSw); have q0 := hSw.1.box.c0; have q1 := HQ.out _ hSw.1.box; have q2 : w0.cell? ⟨wr.heap.size, k + 1, none⟩ = some (.int .i64 z) := (hSw.2.cell (k + 1)).trans HV.out; clear hSw; go_simp; try (with_reducible rfl))
          try simp only [Act.put, List.setIfInBounds_toArray, List.set_cons_zero, List.set_cons_succ]
          refine takeV (i := 19) (v := ?_) rfl (by kernel_rfl) (by kernel_rfl) (by kernel_rfl) (fun _ _ _ h => h) (by rfl) hHeld ?_ ?_
          rotate_left
          · (intro w0 hSw; (try dsimp only at hSw); have q0 := hSw.1.box.c0; have q1 := HQ.out _ hSw.1.box; have q2 : w0.cell? ⟨wr.heap.size, k + 1, none⟩ = some (.int .i64 z) := (hSw.2.cell (k + 1)).trans HV.out; clear hSw; go_simp; try (with_reducible rfl))
          try simp only [Act.put, List.setIfInBounds_toArray, List.set_cons_zero, List.set_cons_succ]
          refine takeU (i := 20) rfl (by kernel_rfl) (by kernel_rfl) (by kernel_rfl) (fun _ _ _ h => h) (by rfl) hHeld ?_
          try simp only [Act.put, List.setIfInBounds_toArray, List.set_cons_zero, List.set_cons_succ]
          refine takeU (i := 21) rfl (by kernel_rfl) (by kernel_rfl) (by kernel_rfl) (fun _ _ _ h => h) (by rfl) hHeld ?_
          try simp only [Act.put, List.setIfInBounds_toArray, List.set_cons_zero, List.set_cons_succ]
          refine takeU (i := 22) rfl (by kernel_rfl) (by kernel_rfl) (by kernel_rfl) (fun _ _ _ h => h) (by rfl) hHeld ?_
          try simp only [Act.put, List.setIfInBounds_toArray, List.set_cons_zero, List.set_cons_succ]
          refine takeU (i := 23) rfl (by kernel_rfl) (by kernel_rfl) (by kernel_rfl) (fun _ _ _ h => h) (by rfl) hHeld ?_
          try simp only [Act.put, List.setIfInBounds_toArray, List.set_cons_zero, List.set_cons_succ]
          refine takeU (i := 24) rfl (by kernel_rfl) (by kernel_rfl) (by kernel_rfl) (fun _ _ _ h => h) (by rfl) hHeld ?_
          try simp only [Act.put, List.setIfInBounds_toArray, List.set_cons_zero, List.set_cons_succ]
          refine takeU (i := 25) rfl (by kernel_rfl) (by kernel_rfl) (by kernel_rfl) (fun _ _ _ h => h) (by rfl) hHeld ?_
          try simp only [Act.put, List.setIfInBounds_toArray, List.set_cons_zero, List.set_cons_succ]
          refine takeU (i := 26) rfl (by kernel_rfl) (by kernel_rfl) (by kernel_rfl) (fun _ _ _ h => h) (by rfl) hHeld ?_
          try simp only [Act.put, List.setIfInBounds_toArray, List.set_cons_zero, List.set_cons_succ]
          refine takeU (i := 27) rfl (by kernel_rfl) (by kernel_rfl) (by kernel_rfl) (fun _ _ _ h => h) (by rfl) hHeld ?_
          try simp only [Act.put, List.setIfInBounds_toArray, List.set_cons_zero, List.set_cons_succ]
          refine takeU (i := 28) rfl (by kernel_rfl) (by kernel_rfl) (by kernel_rfl) (fun _ _ _ h => h) (by rfl) hHeld ?_
          try simp only [Act.put, List.setIfInBounds_toArray, List.set_cons_zero, List.set_cons_succ]
          refine takeU (i := 29) rfl (by kernel_rfl) (by kernel_rfl) (by kernel_rfl) (fun _ _ _ h => h) (by rfl) hHeld ?_
          try simp only [Act.put, List.setIfInBounds_toArray, List.set_cons_zero, List.set_cons_succ]
          refine takeU (i := 30) rfl (by kernel_rfl) (by kernel_rfl) (by kernel_rfl) (fun _ _ _ h => h) (by rfl) hHeld ?_
          try simp only [Act.put, List.setIfInBounds_toArray, List.set_cons_zero, List.set_cons_succ]
          refine takeU (i := 31) rfl (by kernel_rfl) (by kernel_rfl) (by kernel_rfl) (fun _ _ _ h => h) (by rfl) hHeld ?_
          try simp only [Act.put, List.setIfInBounds_toArray, List.set_cons_zero, List.set_cons_succ]
          refine takeV (i := 32) (v := ?_) rfl (by kernel_rfl) (by kernel_rfl) (by kernel_rfl) (fun _ _ _ h => h) (by rfl) hHeld ?_ ?_
          rotate_left
          · (intro w0 hSw; (try dsimp only at hSw); have q0 := hSw.1.box.c0; have q1 := HQ.out _ hSw.1.box; have q2 : w0.cell? ⟨wr.heap.size, k + 1, none⟩ = some (.int .i64 z) := (hSw.2.cell (k + 1)).trans HV.out; clear hSw; go_simp; try (with_reducible rfl))
          try simp only [Act.put, List.setIfInBounds_toArray, List.set_cons_zero, List.set_cons_succ]
          refine wpAnyH_done (by kernel_rfl) ?_ _
          go_wp2
          go_ret
          exact ⟨by rw [HE.out]; rfl, hHeld.1.below⟩
        by_cases c3 : (k : Int) < nd
        · have d3 : decide (nd ≤ (k : Int)) = false := decide_eq_false (by omega)
          have HE := chide (HO.out (show ok = true by rw [okd, decide_eq_true c3]; rfl))
          clear okd HO HK
          go_upto_region 6 with fail
          have hS0 : CkI w wr.drew x := HI.out.drew
          refine wp_region_held_drew (S := fun w' => CkI w w' x) (by kernel_rfl) hS0 (fun hHeld => ?_)
          clear hS0
          refine takeV (i := 0) (v := ?_) rfl (by kernel_rfl) (by kernel_rfl) (by kernel_rfl) (fun _ _ _ h => h) (by rfl) hHeld ?_ ?_
          rotate_left
          · (intro w0 hSw; (try dsimp only at hSw); have q0 := hSw.box.c0; have q1 := HQ.out _ hSw.box; clear hSw; go_simp; try (with_reducible rfl))
          try simp only [Act.put, List.setIfInBounds_toArray, List.set_cons_zero, List.set_cons_succ]
          refine takeV (i := 1) (v := ?_) rfl (by kernel_rfl) (by kernel_rfl) (by kernel_rfl) (fun _ _ _ h => h) (by rfl) hHeld ?_ ?_
          rotate_left
          · (intro w0 hSw; (try dsimp only at hSw); have q0 := hSw.box.c0; have q1 := HQ.out _ hSw.box; clear hSw; go_simp; try (with_reducible rfl))
          try simp only [Act.put, List.setIfInBounds_toArray, List.set_cons_zero, List.set_cons_succ]
          refine takeV (i := 2) (v := ?_) rfl (by kernel_rfl) (by kernel_rfl) (by kernel_rfl) (fun _ _ _ h => h) (by rfl) hHeld ?_ ?_
          rotate_left
          · (intro w0 hSw; (try dsimp only at hSw); have q0 := hSw.box.c0; have q1 := HQ.out _ hSw.box; clear hSw; go_simp; try (with_reducible rfl))
          try simp only [Act.put, List.setIfInBounds_toArray, List.set_cons_zero, List.set_cons_succ]
          refine takeV (i := 3) (v := ?_) rfl (by kernel_rfl) (by kernel_rfl) (by kernel_rfl) (fun _ _ _ h => h) (by rfl) hHeld ?_ ?_
          rotate_left
          · (intro w0 hSw; (try dsimp only at hSw); have q0 := hSw.box.c0; have q1 := HQ.out _ hSw.box; clear hSw; go_simp; try (with_reducible rfl))
          try simp only [Act.put, List.setIfInBounds_toArray, List.set_cons_zero, List.set_cons_succ]
          refine takeV (i := 4) (v := ?_) rfl (by kernel_rfl) (by kernel_rfl) (by kernel_rfl) (fun _ _ _ h => h) (by rfl) hHeld ?_ ?_
          rotate_left
          · (intro w0 hSw; (try dsimp only at hSw); have q0 := hSw.box.c0; have q1 := HQ.out _ hSw.box; clear hSw; go_simp; try (with_reducible rfl))
          try simp only [Act.put, List.setIfInBounds_toArray, List.set_cons_zero, List.set_cons_succ]
          refine takeV (i := 5) (v := ?_) rfl (by kernel_rfl) (by kernel_rfl) (by kernel_rfl) (fun _ _ _ h => h) (by rfl) hHeld ?_ ?_
          rotate_left
          · (intro w0 hSw; (try dsimp only at hSw); have q0 := hSw.box.c0; have q1 := HQ.out _ hSw.box; clear hSw; go_simp; try (with_reducible rfl))
          try simp only [Act.put, List.setIfInBounds_toArray, List.set_cons_zero, List.set_cons_succ]
          refine takeV (i := 6) (v := ?_) rfl (by kernel_rfl) (by kernel_rfl) (by kernel_rfl) (fun _ _ _ h => h) (by rfl) hHeld ?_ ?_
          rotate_left
          · (intro w0 hSw; (try dsimp only at hSw); have q0 := hSw.box.c0; have q1 := HQ.out _ hSw.box; clear hSw; go_simp; try (with_reducible rfl))
          try simp only [Act.put, List.setIfInBounds_toArray, List.set_cons_zero, List.set_cons_succ]
          refine takeV (i := 7) (v := ?_) rfl (by kernel_rfl) (by kernel_rfl) (by kernel_rfl) (fun _ _ _ h => h) (by rfl) hHeld ?_ ?_
          rotate_left
          · (intro w0 hSw; (try dsimp only at hSw); have q0 := hSw.box.c0; have q1 := HQ.out _ hSw.box; clear hSw; go_simp; try (with_reducible rfl))
          try simp only [Act.put, List.setIfInBounds_toArray, List.set_cons_zero, List.set_cons_succ]
          refine takeV (i := 8) (v := ?_) rfl (by kernel_rfl) (by kernel_rfl) (by kernel_rfl) (fun _ _ _ h => h) (by rfl) hHeld ?_ ?_
          rotate_left
          · (intro w0 hSw; (try dsimp only at hSw); have q0 := hSw.box.c0; have q1 := HQ.out _ hSw.box; clear hSw; go_simp; try (with_reducible rfl))
          try simp only [Act.put, List.setIfInBounds_toArray, List.set_cons_zero, List.set_cons_succ]
          refine takeV (i := 9) (v := ?_) rfl (by kernel_rfl) (by kernel_rfl) (by kernel_rfl) (fun _ _ _ h => h) (by rfl) hHeld ?_ ?_
          rotate_left
          · (intro w0 hSw; (try dsimp only at hSw); have q0 := hSw.box.c0; have q1 := HQ.out _ hSw.box; clear hSw; go_simp; try (with_reducible rfl))
          try simp only [Act.put, List.setIfInBounds_toArray, List.set_cons_zero, List.set_cons_succ]
          refine takeV (i := 10) (v := ?_) rfl (by kernel_rfl) (by kernel_rfl) (by kernel_rfl) (fun _ _ _ h => h) (by rfl) hHeld ?_ ?_
          rotate_left
          · (intro w0 hSw; (try dsimp only at hSw); have q0 := hSw.box.c0; have q1 := HQ.out _ hSw.box; clear hSw; go_simp; try (with_reducible rfl))
          try simp only [Act.put, List.setIfInBounds_toArray, List.set_cons_zero, List.set_cons_succ]
          refine takeV (i := 12) (v := ?_) rfl (by kernel_rfl) (by kernel_rfl) (by kernel_rfl) (fun _ _ _ h => h) (by rfl) hHeld ?_ ?_
          rotate_left
          · (intro w0 hSw; (try dsimp only at hSw); have q0 := hSw.box.c0; have q1 := HQ.out _ hSw.box; clear hSw; go_simp; try (with_reducible rfl))
          try simp only [Act.put, List.setIfInBounds_toArray, List.set_cons_zero, List.set_cons_succ]
          refine takeV (i := 13) (v := ?_) rfl (by kernel_rfl) (by kernel_rfl) (by kernel_rfl) (fun _ _ _ h => h) (by rfl) hHeld ?_ ?_
          rotate_left
          · (intro w0 hSw; (try dsimp only at hSw); have q0 := hSw.box.c0; have q1 := HQ.out _ hSw.box; clear hSw; go_simp; try (with_reducible rfl))
          try simp only [Act.put, List.setIfInBounds_toArray, List.set_cons_zero, List.set_cons_succ]
          refine stepOne (i := 11) rfl (by kernel_rfl) (fun K hK => ?_)
          go_simp
          (go_at_call 21; refine (rwidths_any _).mono ?_; rintro e9 w9 ⟨rfl, hr9, hb9⟩)
          go_wp2_with fail
          refine hK.out _ _ (hHeld.on hb9) (fun hHeld => ?_)
          clear hK K
          try simp only [Act.put, List.setIfInBounds_toArray, List.set_cons_zero, List.set_cons_succ]
          refine turnS (T := fun w' => CkI w w' x ∧ RowX w' _ wlV) (fun _ h => h.1) ⟨hHeld, hr9⟩ (fun hHeld => ?_)
          clear hr9 hb9
          refine takeV (i := 14) (v := ?_) rfl (by kernel_rfl) (by kernel_rfl) (by kernel_rfl) (fun _ _ _ h => h) (by rfl) hHeld ?_ ?_
          rotate_left
          · (intro w0 hSw; (try dsimp only at hSw); have q0 := hSw.1.box.c0; have q1 := HQ.out _ hSw.1.box; have q2 : w0.cell? ⟨wr.heap.size, k + 1, none⟩ = some (.int .i64 z) := (hSw.2.cell (k + 1)).trans HV.out; clear hSw; go_simp; try (with_reducible rfl))
          try simp only [Act.put, List.setIfInBounds_toArray, List.set_cons_zero, List.set_cons_succ]
          refine takeV (i := 15) (v := ?_) rfl (by kernel_rfl) (by kernel_rfl) (by kernel_rfl) (fun _ _ _ h => h) (by rfl) hHeld ?_ ?_
          rotate_left
          · (intro w0 hSw; (try dsimp only at hSw); have q0 := hSw.1.box.c0; have q1 := HQ.out _ hSw.1.box; have q2 : w0.cell? ⟨wr.heap.size, k + 1, none⟩ = some (.int .i64 z) := (hSw.2.cell (k + 1)).trans HV.out; clear hSw; go_simp; try (with_reducible rfl))
          try simp only [Act.put, List.setIfInBounds_toArray, List.set_cons_zero, List.set_cons_succ]
          refine stepOne (i := 16) rfl (by kernel_rfl) (fun K hK => ?_)
          go_simp
          (go_at_call 30; refine (HF.out _ (by omega)).mono ?_; rintro e9 w9 ⟨rfl, hw9⟩; subst w9)
          go_wp2_with fail
          refine hK.out _ _ hHeld (fun hHeld => ?_)
          clear hK K
          try simp only [Act.put, List.setIfInBounds_toArray, List.set_cons_zero, List.set_cons_succ]
          refine takeV (i := 17) (v := ?_) rfl (by kernel_rfl) (by kernel_rfl) (by kernel_rfl) (fun _ _ _ h => h) (by rfl) hHeld ?_ ?_
          rotate_left
          · (intro w0 hSw; (try dsimp only at hSw); have q0 := hSw.1.box.c0; have q1 := HQ.out _ hSw.1.box; have q2 : w0.cell? ⟨wr.heap.size, k + 1, none⟩ = some (.int .i64 z) := (hSw.2.cell (k + 1)).trans HV.out; clear hSw; go_simp; try (with_reducible rfl))
          try simp only [Act.put, List.setIfInBounds_toArray, List.set_cons_zero, List.set_cons_succ]
          refine takeV (i := 18) (v := ?_) rfl (by kernel_rfl) (by kernel_rfl) (by kernel_rfl) (fun _ _ _ h => h) (by rfl) hHeld ?_ ?_
          rotate_left
          · (intro w0 hSw; (try dsimp only at hSw); have q0 := hSw.1.box.c0; have q1 := HQ.out _ hSw.1.box; have q2 : w0.cell? ⟨wr.heap.size, k + 1, none⟩ = some (.int .i64 z) := (hSw.2.cell (k + 1)).trans HV.out; clear hSw; go_simp; try (with_reducible rfl))
          try simp only [Act.put, List.setIfInBounds_toArray, List.set_cons_zero, List.set_cons_succ]
          refine takeV (i := 19) (v := ?_) rfl (by kernel_rfl) (by kernel_rfl) (by kernel_rfl) (fun _ _ _ h => h) (by rfl) hHeld ?_ ?_
          rotate_left
          · (intro w0 hSw; (try dsimp only at hSw); have q0 := hSw.1.box.c0; have q1 := HQ.out _ hSw.1.box; have q2 : w0.cell? ⟨wr.heap.size, k + 1, none⟩ = some (.int .i64 z) := (hSw.2.cell (k + 1)).trans HV.out; clear hSw; go_simp; try (with_reducible rfl))
          try simp only [Act.put, List.setIfInBounds_toArray, List.set_cons_zero, List.set_cons_succ]
          refine takeV (i := 20) (v := ?_) rfl (by kernel_rfl) (by kernel_rfl) (by kernel_rfl) (fun _ _ _ h => h) (by rfl) hHeld ?_ ?_
          rotate_left
          · (intro w0 hSw; (try dsimp only at hSw); have q0 := hSw.1.box.c0; have q1 := HQ.out _ hSw.1.box; have q2 : w0.cell? ⟨wr.heap.size, k + 1, none⟩ = some (.int .i64 z) := (hSw.2.cell (k + 1)).trans HV.out; clear hSw; go_simp; try (with_reducible rfl))
          try simp only [Act.put, List.setIfInBounds_toArray, List.set_cons_zero, List.set_cons_succ]
          refine takeV (i := 21) (v := ?_) rfl (by kernel_rfl) (by kernel_rfl) (by kernel_rfl) (fun _ _ _ h => h) (by rfl) hHeld ?_ ?_
          rotate_left
          · (intro w0 hSw; (try dsimp only at hSw); have q0 := hSw.1.box.c0; have q1 := HQ.out _ hSw.1.box; have q2 : w0.cell? ⟨wr.heap.size, k + 1, none⟩ = some (.int .i64 z) := (hSw.2.cell (k + 1)).trans HV.out; clear hSw; go_simp; try (with_reducible rfl))
          try simp only [Act.put, List.setIfInBounds_toArray, List.set_cons_zero, List.set_cons_succ]
          refine takeV (i := 22) (v := ?_) rfl (by kernel_rfl) (by kernel_rfl) (by kernel_rfl) (fun _ _ _ h => h) (by rfl) hHeld ?_ ?_
          rotate_left
          · (intro w0 hSw; (try dsimp only at hSw); have q0 := hSw.1.box.c0; have q1 := HQ.out _ hSw.1.box; have q2 : w0.cell? ⟨wr.heap.size, k + 1, none⟩ = some (.int .i64 z) := (hSw.2.cell (k + 1)).trans HV.out; clear hSw; go_simp; try (with_reducible rfl))
          try simp only [Act.put, List.setIfInBounds_toArray, List.set_cons_zero, List.set_cons_succ]
          refine stepOne (i := 23) rfl (by kernel_rfl) (fun K hK => ?_)
          go_simp
          (go_at_call 15; refine (HD.out _).mono ?_; rintro e9 w9 ⟨rfl, hb9⟩)
          go_wp2_with fail
          refine hK.out _ _ ⟨hHeld.1.on hb9, hHeld.2.on hb9⟩ (fun hHeld => ?_)
          clear hK K
          try simp only [Act.put, List.setIfInBounds_toArray, List.set_cons_zero, List.set_cons_succ]
          refine takeV (i := 24) (v := ?_) rfl (by kernel_rfl) (by kernel_rfl) (by kernel_rfl) (fun _ _ _ h => h) (by rfl) hHeld ?_ ?_
          rotate_left
          · (intro w0 hSw; (try dsimp only at hSw); have q0 := hSw.1.box.c0; have q1 := HQ.out _ hSw.1.box; have q2 : w0.cell? ⟨wr.heap.size, k + 1, none⟩ = some (.int .i64 z) := (hSw.2.cell (k + 1)).trans HV.out; clear hSw; go_simp; try (with_reducible rfl))
          try simp only [Act.put, List.setIfInBounds_toArray, List.set_cons_zero, List.set_cons_succ]
          refine takeV (i := 25) (v := ?_) rfl (by kernel_rfl) (by kernel_rfl) (by kernel_rfl) (fun _ _ _ h => h) (by rfl) hHeld ?_ ?_
          rotate_left
          · (intro w0 hSw; (try dsimp only at hSw); have q0 := hSw.1.box.c0; have q1 := HQ.out _ hSw.1.box; have q2 : w0.cell? ⟨wr.heap.size, k + 1, none⟩ = some (.int .i64 z) := (hSw.2.cell (k + 1)).trans HV.out; clear hSw; go_simp; try (with_reducible rfl))
          try simp only [Act.put, List.setIfInBounds_toArray, List.set_cons_zero, List.set_cons_succ]
          refine takeU (i := 26) rfl (by kernel_rfl) (by kernel_rfl) (by kernel_rfl) (fun _ _ _ h => h) (by rfl) hHeld ?_
          try simp only [Act.put, List.setIfInBounds_toArray, List.set_cons_zero, List.set_cons_succ]
          refine takeU (i := 27) rfl (by kernel_rfl) (by kernel_rfl) (by kernel_rfl) (fun _ _ _ h => h) (by rfl) hHeld ?_
          try simp only [Act.put, List.setIfInBounds_toArray, List.set_cons_zero, List.set_cons_succ]
          refine takeU (i := 28) rfl (by kernel_rfl) (by kernel_rfl) (by kernel_rfl) (fun _ _ _ h => h) (by rfl) hHeld ?_
          try simp only [Act.put, List.setIfInBounds_toArray, List.set_cons_zero, List.set_cons_succ]
          refine takeU (i := 29) rfl (by kernel_rfl) (by kernel_rfl) (by kernel_rfl) (fun _ _ _ h => h) (by rfl) hHeld ?_
          try simp only [Act.put, List.setIfInBounds_toArray, List.set_cons_zero, List.set_cons_succ]
          refine takeU (i := 30) rfl (by kernel_rfl) (by kernel_rfl) (by kernel_rfl) (fun _ _ _ h => h) (by rfl) hHeld ?_
          try simp only [Act.put, List.setIfInBounds_toArray, List.set_cons_zero, List.set_cons_succ]
          refine takeV (i := 31) (v := ?_) rfl (by kernel_rfl) (by kernel_rfl) (by kernel_rfl) (fun _ _ _ h => h) (by rfl) hHeld ?_ ?_
          rotate_left
          · (intro w0 hSw; (try dsimp only at hSw); have q0 := hSw.1.box.c0; have q1 := HQ.out _ hSw.1.box; have q2 : w0.cell? ⟨wr.heap.size, k + 1, none⟩ = some (.int .i64 z) := (hSw.2.cell (k + 1)).trans HV.out; clear hSw; go_simp; try (with_reducible rfl))
          try simp only [Act.put, List.setIfInBounds_toArray, List.set_cons_zero, List.set_cons_succ]
          refine takeV (i := 32) (v := ?_) rfl (by kernel_rfl) (by kernel_rfl) (by kernel_rfl) (fun _ _ _ h => h) (by rfl) hHeld ?_ ?_
          rotate_left
          · (intro w0 hSw; (try dsimp only at hSw); have q0 := hSw.1.box.c0; have q1 := HQ.out _ hSw.1.box; have q2 : w0.cell? ⟨wr.heap.size, k + 1, none⟩ = some (.int .i64 z) := (hSw.2.cell (k + 1)).trans HV.out; clear hSw; go_simp; try (with_reducible rfl))
          try simp only [Act.put, List.setIfInBounds_toArray, List.set_cons_zero, List.set_cons_succ]
          refine wpAnyH_done (by kernel_rfl) ?_ _
          go_wp2
          go_roundw
          case rel => exact ⟨k + 1, by omega, by go_num, fun j hj => by
            rcases (show j < k ∨ j = k by omega) with h | rfl
            · exact HJ.out j h
            · exact HE.out, hHeld.1⟩
          case measure => simp [intOf]; omega
        have d3 : decide (nd ≤ (k : Int)) = true := decide_eq_true (by omega)
        rw [decide_eq_false c3] at okd
        by_cases c4 : v = 0
        · have d4 : (v != 0) = false := by simp [c4]
          have HE := chide (HO.out (show ok = true by rw [okd, decide_eq_true c4]; rfl))
          clear okd HO HK c4
          go_upto_region 6 with fail
          have hS0 : CkI w wr.drew x := HI.out.drew
          refine wp_region_held_drew (S := fun w' => CkI w w' x) (by kernel_rfl) hS0 (fun hHeld => ?_)
          clear hS0
          refine takeV (i := 0) (v := ?_) rfl (by kernel_rfl) (by kernel_rfl) (by kernel_rfl) (fun _ _ _ h => h) (by rfl) hHeld ?_ ?_
          rotate_left
          · (intro w0 hSw; (try dsimp only at hSw); have q0 := hSw.box.c0; have q1 := HQ.out _ hSw.box; clear hSw; go_simp; try (with_reducible rfl))
          try simp only [Act.put, List.setIfInBounds_toArray, List.set_cons_zero, List.set_cons_succ]
          refine takeV (i := 1) (v := ?_) rfl (by kernel_rfl) (by kernel_rfl) (by kernel_rfl) (fun _ _ _ h => h) (by rfl) hHeld ?_ ?_
          rotate_left
          · (intro w0 hSw; (try dsimp only at hSw); have q0 := hSw.box.c0; have q1 := HQ.out _ hSw.box; clear hSw; go_simp; try (with_reducible rfl))
          try simp only [Act.put, List.setIfInBounds_toArray, List.set_cons_zero, List.set_cons_succ]
          refine takeV (i := 2) (v := ?_) rfl (by kernel_rfl) (by kernel_rfl) (by kernel_rfl) (fun _ _ _ h => h) (by rfl) hHeld ?_ ?_
          rotate_left
          · (intro w0 hSw; (try dsimp only at hSw); have q0 := hSw.box.c0; have q1 := HQ.out _ hSw.box; clear hSw; go_simp; try (with_reducible rfl))
          try simp only [Act.put, List.setIfInBounds_toArray, List.set_cons_zero, List.set_cons_succ]
          refine takeV (i := 3) (v := ?_) rfl (by kernel_rfl) (by kernel_rfl) (by kernel_rfl) (fun _ _ _ h => h) (by rfl) hHeld ?_ ?_
          rotate_left
          · (intro w0 hSw; (try dsimp only at hSw); have q0 := hSw.box.c0; have q1 := HQ.out _ hSw.box; clear hSw; go_simp; try (with_reducible rfl))
          try simp only [Act.put, List.setIfInBounds_toArray, List.set_cons_zero, List.set_cons_succ]
          refine takeV (i := 4) (v := ?_) rfl (by kernel_rfl) (by kernel_rfl) (by kernel_rfl) (fun _ _ _ h => h) (by rfl) hHeld ?_ ?_
          rotate_left
          · (intro w0 hSw; (try dsimp only at hSw); have q0 := hSw.box.c0; have q1 := HQ.out _ hSw.box; clear hSw; go_simp; try (with_reducible rfl))
          try simp only [Act.put, List.setIfInBounds_toArray, List.set_cons_zero, List.set_cons_succ]
          refine takeV (i := 5) (v := ?_) rfl (by kernel_rfl) (by kernel_rfl) (by kernel_rfl) (fun _ _ _ h => h) (by rfl) hHeld ?_ ?_
          rotate_left
          · (intro w0 hSw; (try dsimp only at hSw); have q0 := hSw.box.c0; have q1 := HQ.out _ hSw.box; clear hSw; go_simp; try (with_reducible rfl))
          try simp only [Act.put, List.setIfInBounds_toArray, List.set_cons_zero, List.set_cons_succ]
          refine takeV (i := 6) (v := ?_) rfl (by kernel_rfl) (by kernel_rfl) (by kernel_rfl) (fun _ _ _ h => h) (by rfl) hHeld ?_ ?_
          rotate_left
          · (intro w0 hSw; (try dsimp only at hSw); have q0 := hSw.box.c0; have q1 := HQ.out _ hSw.box; clear hSw; go_simp; try (with_reducible rfl))
          try simp only [Act.put, List.setIfInBounds_toArray, List.set_cons_zero, List.set_cons_succ]
          refine takeV (i := 7) (v := ?_) rfl (by kernel_rfl) (by kernel_rfl) (by kernel_rfl) (fun _ _ _ h => h) (by rfl) hHeld ?_ ?_
          rotate_left
          · (intro w0 hSw; (try dsimp only at hSw); have q0 := hSw.box.c0; have q1 := HQ.out _ hSw.box; clear hSw; go_simp; try (with_reducible rfl))
          try simp only [Act.put, List.setIfInBounds_toArray, List.set_cons_zero, List.set_cons_succ]
          refine takeV (i := 8) (v := ?_) rfl (by kernel_rfl) (by kernel_rfl) (by kernel_rfl) (fun _ _ _ h => h) (by rfl) hHeld ?_ ?_
          rotate_left
          · (intro w0 hSw; (try dsimp only at hSw); have q0 := hSw.box.c0; have q1 := HQ.out _ hSw.box; clear hSw; go_simp; try (with_reducible rfl))
          try simp only [Act.put, List.setIfInBounds_toArray, List.set_cons_zero, List.set_cons_succ]
          refine takeV (i := 9) (v := ?_) rfl (by kernel_rfl) (by kernel_rfl) (by kernel_rfl) (fun _ _ _ h => h) (by rfl) hHeld ?_ ?_
          rotate_left
          · (intro w0 hSw; (try dsimp only at hSw); have q0 := hSw.box.c0; have q1 := HQ.out _ hSw.box; clear hSw; go_simp; try (with_reducible rfl))
          try simp only [Act.put, List.setIfInBounds_toArray, List.set_cons_zero, List.set_cons_succ]
          refine takeV (i := 10) (v := ?_) rfl (by kernel_rfl) (by kernel_rfl) (by kernel_rfl) (fun _ _ _ h => h) (by rfl) hHeld ?_ ?_
          rotate_left
          · (intro w0 hSw; (try dsimp only at hSw); have q0 := hSw.box.c0; have q1 := HQ.out _ hSw.box; clear hSw; go_simp; try (with_reducible rfl))
          try simp only [Act.put, List.setIfInBounds_toArray, List.set_cons_zero, List.set_cons_succ]
          refine takeV (i := 12) (v := ?_) rfl (by kernel_rfl) (by kernel_rfl) (by kernel_rfl) (fun _ _ _ h => h) (by rfl) hHeld ?_ ?_
          rotate_left
          · (intro w0 hSw; (try dsimp only at hSw); have q0 := hSw.box.c0; have q1 := HQ.out _ hSw.box; clear hSw; go_simp; try (with_reducible rfl))
          try simp only [Act.put, List.setIfInBounds_toArray, List.set_cons_zero, List.set_cons_succ]
          refine takeV (i := 13) (v := ?_) rfl (by kernel_rfl) (by kernel_rfl) (by kernel_rfl) (fun _ _ _ h => h) (by rfl) hHeld ?_ ?_
          rotate_left
          · (intro w0 hSw; (try dsimp only at hSw); have q0 := hSw.box.c0; have q1 := HQ.out _ hSw.box; clear hSw; go_simp; try (with_reducible rfl))
          try simp only [Act.put, List.setIfInBounds_toArray, List.set_cons_zero, List.set_cons_succ]
          refine stepOne (i := 11) rfl (by kernel_rfl) (fun K hK => ?_)
          go_simp
          (go_at_call 21; refine (rwidths_any _).mono ?_; rintro e9 w9 ⟨rfl, hr9, hb9⟩)
          go_wp2_with fail
          refine hK.out _ _ (hHeld.on hb9) (fun hHeld => ?_)
          clear hK K
          try simp only [Act.put, List.setIfInBounds_toArray, List.set_cons_zero, List.set_cons_succ]
          refine turnS (T := fun w' => CkI w w' x ∧ RowX w' _ wlV) (fun _ h => h.1) ⟨hHeld, hr9⟩ (fun hHeld => ?_)
          clear hr9 hb9
          refine takeV (i := 14) (v := ?_) rfl (by kernel_rfl) (by kernel_rfl) (by kernel_rfl) (fun _ _ _ h => h) (by rfl) hHeld ?_ ?_
          rotate_left
          · (intro w0 hSw; (try dsimp only at hSw); have q0 := hSw.1.box.c0; have q1 := HQ.out _ hSw.1.box; have q2 : w0.cell? ⟨wr.heap.size, k + 1, none⟩ = some (.int .i64 z) := (hSw.2.cell (k + 1)).trans HV.out; clear hSw; go_simp; try (with_reducible rfl))
          try simp only [Act.put, List.setIfInBounds_toArray, List.set_cons_zero, List.set_cons_succ]
          refine takeV (i := 15) (v := ?_) rfl (by kernel_rfl) (by kernel_rfl) (by kernel_rfl) (fun _ _ _ h => h) (by rfl) hHeld ?_ ?_
          rotate_left
          · (intro w0 hSw; (try dsimp only at hSw); have q0 := hSw.1.box.c0; have q1 := HQ.out _ hSw.1.box; have q2 : w0.cell? ⟨wr.heap.size, k + 1, none⟩ = some (.int .i64 z) := (hSw.2.cell (k + 1)).trans HV.out; clear hSw; go_simp; try (with_reducible rfl))
          try simp only [Act.put, List.setIfInBounds_toArray, List.set_cons_zero, List.set_cons_succ]
          refine stepOne (i := 16) rfl (by kernel_rfl) (fun K hK => ?_)
          go_simp
          (go_at_call 30; refine (HF.out _ (by omega)).mono ?_; rintro e9 w9 ⟨rfl, hw9⟩; subst w9)
          go_wp2_with fail
          refine hK.out _ _ hHeld (fun hHeld => ?_)
          clear hK K
          try simp only [Act.put, List.setIfInBounds_toArray, List.set_cons_zero, List.set_cons_succ]
          refine takeV (i := 17) (v := ?_) rfl (by kernel_rfl) (by kernel_rfl) (by kernel_rfl) (fun _ _ _ h => h) (by rfl) hHeld ?_ ?_
          rotate_left
          · (intro w0 hSw; (try dsimp only at hSw); have q0 := hSw.1.box.c0; have q1 := HQ.out _ hSw.1.box; have q2 : w0.cell? ⟨wr.heap.size, k + 1, none⟩ = some (.int .i64 z) := (hSw.2.cell (k + 1)).trans HV.out; clear hSw; go_simp; try (with_reducible rfl))
          try simp only [Act.put, List.setIfInBounds_toArray, List.set_cons_zero, List.set_cons_succ]
          refine takeV (i := 18) (v := ?_) rfl (by kernel_rfl) (by kernel_rfl) (by kernel_rfl) (fun _ _ _ h => h) (by rfl) hHeld ?_ ?_
          rotate_left
          · (intro w0 hSw; (try dsimp only at hSw); have q0 := hSw.1.box.c0; have q1 := HQ.out _ hSw.1.box; have q2 : w0.cell? ⟨wr.heap.size, k + 1, none⟩ = some (.int .i64 z) := (hSw.2.cell (k + 1)).trans HV.out; clear hSw; go_simp; try (with_reducible rfl))
          try simp only [Act.put, List.setIfInBounds_toArray, List.set_cons_zero, List.set_cons_succ]
          refine takeV (i := 19) (v := ?_) rfl (by kernel_rfl) (by kernel_rfl) (by kernel_rfl) (fun _ _ _ h => h) (by rfl) hHeld ?_ ?_
          rotate_left
          · (intro w0 hSw; (try dsimp only at hSw); have q0 := hSw.1.box.c0; have q1 := HQ.out _ hSw.1.box; have q2 : w0.cell? ⟨wr.heap.size, k + 1, none⟩ = some (.int .i64 z) := (hSw.2.cell (k + 1)).trans HV.out; clear hSw; go_simp; try (with_reducible rfl))
          try simp only [Act.put, List.setIfInBounds_toArray, List.set_cons_zero, List.set_cons_succ]
          refine takeV (i := 20) (v := ?_) rfl (by kernel_rfl) (by kernel_rfl) (by kernel_rfl) (fun _ _ _ h => h) (by rfl) hHeld ?_ ?_
          rotate_left
          · (intro w0 hSw; (try dsimp only at hSw); have q0 := hSw.1.box.c0; have q1 := HQ.out _ hSw.1.box; have q2 : w0.cell? ⟨wr.heap.size, k + 1, none⟩ = some (.int .i64 z) := (hSw.2.cell (k + 1)).trans HV.out; clear hSw; go_simp; try (with_reducible rfl))
          try simp only [Act.put, List.setIfInBounds_toArray, List.set_cons_zero, List.set_cons_succ]
          refine takeV (i := 21) (v := ?_) rfl (by kernel_rfl) (by kernel_rfl) (by kernel_rfl) (fun _ _ _ h => h) (by rfl) hHeld ?_ ?_
          rotate_left
          · (intro w0 hSw; (try dsimp only at hSw); have q0 := hSw.1.box.c0; have q1 := HQ.out _ hSw.1.box; have q2 : w0.cell? ⟨wr.heap.size, k + 1, none⟩ = some (.int .i64 z) := (hSw.2.cell (k + 1)).trans HV.out; clear hSw; go_simp; try (with_reducible rfl))
          try simp only [Act.put, List.setIfInBounds_toArray, List.set_cons_zero, List.set_cons_succ]
          refine takeV (i := 22) (v := ?_) rfl (by kernel_rfl) (by kernel_rfl) (by kernel_rfl) (fun _ _ _ h => h) (by rfl) hHeld ?_ ?_
          rotate_left
          · (intro w0 hSw; (try dsimp only at hSw); have q0 := hSw.1.box.c0; have q1 := HQ.out _ hSw.1.box; have q2 : w0.cell? ⟨wr.heap.size, k + 1, none⟩ = some (.int .i64 z) := (hSw.2.cell (k + 1)).trans HV.out; clear hSw; go_simp; try (with_reducible rfl))
          try simp only [Act.put, List.setIfInBounds_toArray, List.set_cons_zero, List.set_cons_succ]
          refine stepOne (i := 23) rfl (by kernel_rfl) (fun K hK => ?_)
          go_simp
          (go_at_call 15; refine (HD.out _).mono ?_; rintro e9 w9 ⟨rfl, hb9⟩)
          go_wp2_with fail
          refine hK.out _ _ ⟨hHeld.1.on hb9, hHeld.2.on hb9⟩ (fun hHeld => ?_)
          clear hK K
          try simp only [Act.put, List.setIfInBounds_toArray, List.set_cons_zero, List.set_cons_succ]
          refine takeV (i := 24) (v := ?_) rfl (by kernel_rfl) (by kernel_rfl) (by kernel_rfl) (fun _ _ _ h => h) (by rfl) hHeld ?_ ?_
          rotate_left
          · (intro w0 hSw; (try dsimp only at hSw); have q0 := hSw.1.box.c0; have q1 := HQ.out _ hSw.1.box; have q2 : w0.cell? ⟨wr.heap.size, k + 1, none⟩ = some (.int .i64 z) := (hSw.2.cell (k + 1)).trans HV.out; clear hSw; go_simp; try (with_reducible rfl))
          try simp only [Act.put, List.setIfInBounds_toArray, List.set_cons_zero, List.set_cons_succ]
          refine takeV (i := 25) (v := ?_) rfl (by kernel_rfl) (by kernel_rfl) (by kernel_rfl) (fun _ _ _ h => h) (by rfl) hHeld ?_ ?_
          rotate_left
          · (intro w0 hSw; (try dsimp only at hSw); have q0 := hSw.1.box.c0; have q1 := HQ.out _ hSw.1.box; have q2 : w0.cell? ⟨wr.heap.size, k + 1, none⟩ = some (.int .i64 z) := (hSw.2.cell (k + 1)).trans HV.out; clear hSw; go_simp; try (with_reducible rfl))
          try simp only [Act.put, List.setIfInBounds_toArray, List.set_cons_zero, List.set_cons_succ]
          refine takeV (i := 26) (v := ?_) rfl (by kernel_rfl) (by kernel_rfl) (by kernel_rfl) (fun _ _ _ h => h) (by rfl) hHeld ?_ ?_
          rotate_left
          · (intro w0 hSw; (try dsimp only at hSw); have q0 := hSw.1.box.c0; have q1 := HQ.out _ hSw.1.box; have q2 : w0.cell? ⟨wr.heap.size, k + 1, none⟩ = some (.int .i64 z) := (hSw.2.cell (k + 1)).trans HV.out; clear hSw; go_simp; try (with_reducible rfl))
          try simp only [Act.put, List.setIfInBounds_toArray, List.set_cons_zero, List.set_cons_succ]
          refine takeV (i := 27) (v := ?_) rfl (by kernel_rfl) (by kernel_rfl) (by kernel_rfl) (fun _ _ _ h => h) (by rfl) hHeld ?_ ?_
          rotate_left
          · (intro w0 hSw; (try dsimp only at hSw); have q0 := hSw.1.box.c0; have q1 := HQ.out _ hSw.1.box; have q2 : w0.cell? ⟨wr.heap.size, k + 1, none⟩ = some (.int .i64 z) := (hSw.2.cell (k + 1)).trans HV.out; clear hSw; go_simp; try (with_reducible rfl))
          try simp only [Act.put, List.setIfInBounds_toArray, List.set_cons_zero, List.set_cons_succ]
          refine takeV (i := 28) (v := ?_) rfl (by kernel_rfl) (by kernel_rfl) (by kernel_rfl) (fun _ _ _ h => h) (by rfl) hHeld ?_ ?_
          rotate_left
          · (intro w0 hSw; (try dsimp only at hSw); have q0 := hSw.1.box.c0; have q1 := HQ.out _ hSw.1.box; have q2 : w0.cell? ⟨wr.heap.size, k + 1, none⟩ = some (.int .i64 z) := (hSw.2.cell (k + 1)).trans HV.out; clear hSw; go_simp; try (with_reducible rfl))
          try simp only [Act.put, List.setIfInBounds_toArray, List.set_cons_zero, List.set_cons_succ]
          refine takeV (i := 29) (v := ?_) rfl (by kernel_rfl) (by kernel_rfl) (by kernel_rfl) (fun _ _ _ h => h) (by rfl) hHeld ?_ ?_
          rotate_left
          · (intro w0 hSw; (try dsimp only at hSw); have q0 := hSw.1.box.c0; have q1 := HQ.out _ hSw.1.box; have q2 : w0.cell? ⟨wr.heap.size, k + 1, none⟩ = some (.int .i64 z) := (hSw.2.cell (k + 1)).trans HV.out; clear hSw; go_simp; try (with_reducible rfl))
          try simp only [Act.put, List.setIfInBounds_toArray, List.set_cons_zero, List.set_cons_succ]
          refine takeV (i := 30) (v := ?_) rfl (by kernel_rfl) (by kernel_rfl) (by kernel_rfl) (fun _ _ _ h => h) (by rfl) hHeld ?_ ?_
          rotate_left
          · (intro w0 hSw; (try dsimp only at hSw); have q0 := hSw.1.box.c0; have q1 := HQ.out _ hSw.1.box; have q2 : w0.cell? ⟨wr.heap.size, k + 1, none⟩ = some (.int .i64 z) := (hSw.2.cell (k + 1)).trans HV.out; clear hSw; go_simp; try (with_reducible rfl))
          try simp only [Act.put, List.setIfInBounds_toArray, List.set_cons_zero, List.set_cons_succ]
          refine takeV (i := 31) (v := ?_) rfl (by kernel_rfl) (by kernel_rfl) (by kernel_rfl) (fun _ _ _ h => h) (by rfl) hHeld ?_ ?_
          rotate_left
          · (intro w0 hSw; (try dsimp only at hSw); have q0 := hSw.1.box.c0; have q1 := HQ.out _ hSw.1.box; have q2 : w0.cell? ⟨wr.heap.size, k + 1, none⟩ = some (.int .i64 z) := (hSw.2.cell (k + 1)).trans HV.out; clear hSw; go_simp; try (with_reducible rfl))
          try simp only [Act.put, List.setIfInBounds_toArray, List.set_cons_zero, List.set_cons_succ]
          refine takeV (i := 32) (v := ?_) rfl (by kernel_rfl) (by kernel_rfl) (by kernel_rfl) (fun _ _ _ h => h) (by rfl) hHeld ?_ ?_
          rotate_left
          · (intro w0 hSw; (try dsimp only at hSw); have q0 := hSw.1.box.c0; have q1 := HQ.out _ hSw.1.box; have q2 : w0.cell? ⟨wr.heap.size, k + 1, none⟩ = some (.int .i64 z) := (hSw.2.cell (k + 1)).trans HV.out; clear hSw; go_simp; try (with_reducible rfl))
          try simp only [Act.put, List.setIfInBounds_toArray, List.set_cons_zero, List.set_cons_succ]
          refine wpAnyH_done (by kernel_rfl) ?_ _
          go_wp2
          go_roundw
          case rel => exact ⟨k + 1, by omega, by go_num, fun j hj => by
            rcases (show j < k ∨ j = k by omega) with h | rfl
            · exact HJ.out j h
            · exact HE.out, hHeld.1⟩
          case measure => simp [intOf]; omega
        · have d4 : (v != 0) = true := by simp [c4]
          have HE := chide (HK.out (show ok = false by rw [okd, decide_eq_false c4]; rfl))
          clear okd HO HK c4
          go_upto_region 6 with fail
          have hS0 : CkI w wr.drew x := HI.out.drew
          refine wp_region_held_drew (S := fun w' => CkI w w' x) (by kernel_rfl) hS0 (fun hHeld => ?_)
          clear hS0
          refine takeV (i := 0) (v := ?_) rfl (by kernel_rfl) (by kernel_rfl) (by kernel_rfl) (fun _ _ _ h => h) (by rfl) hHeld ?_ ?_
          rotate_left
          · (intro w0 hSw; (try dsimp only at hSw); have q0 := hSw.box.c0; have q1 := HQ.out _ hSw.box; clear hSw; go_simp; try (with_reducible rfl))
          try simp only [Act.put, List.setIfInBounds_toArray, List.set_cons_zero, List.set_cons_succ]
          refine takeV (i := 1) (v := ?_) rfl (by kernel_rfl) (by kernel_rfl) (by kernel_rfl) (fun _ _ _ h => h) (by rfl) hHeld ?_ ?_
          rotate_left
          · (intro w0 hSw; (try dsimp only at hSw); have q0 := hSw.box.c0; have q1 := HQ.out _ hSw.box; clear hSw; go_simp; try (with_reducible rfl))
          try simp only [Act.put, List.setIfInBounds_toArray, List.set_cons_zero, List.set_cons_succ]
          refine takeV (i := 2) (v := ?_) rfl (by kernel_rfl) (by kernel_rfl) (by kernel_rfl) (fun _ _ _ h => h) (by rfl) hHeld ?_ ?_
          rotate_left
          · (intro w0 hSw; (try dsimp only at hSw); have q0 := hSw.box.c0; have q1 := HQ.out _ hSw.box; clear hSw; go_simp; try (with_reducible rfl))
          try simp only [Act.put, List.setIfInBounds_toArray, List.set_cons_zero, List.set_cons_succ]
          refine takeV (i := 3) (v := ?_) rfl (by kernel_rfl) (by kernel_rfl) (by kernel_rfl) (fun _ _ _ h => h) (by rfl) hHeld ?_ ?_
          rotate_left
          · (intro w0 hSw; (try dsimp only at hSw); have q0 := hSw.box.c0; have q1 := HQ.out _ hSw.box; clear hSw; go_simp; try (with_reducible rfl))
          try simp only [Act.put, List.setIfInBounds_toArray, List.set_cons_zero, List.set_cons_succ]
          refine takeV (i := 4) (v := ?_) rfl (by kernel_rfl) (by kernel_rfl) (by kernel_rfl) (fun _ _ _ h => h) (by rfl) hHeld ?_ ?_
          rotate_left
          · (intro w0 hSw; (try dsimp only at hSw); have q0 := hSw.box.c0; have q1 := HQ.out _ hSw.box; clear hSw; go_simp; try (with_reducible rfl))
          try simp only [Act.put, List.setIfInBounds_toArray, List.set_cons_zero, List.set_cons_succ]
          refine takeV (i := 5) (v := ?_) rfl (by kernel_rfl) (by kernel_rfl) (by kernel_rfl) (fun _ _ _ h => h) (by rfl) hHeld ?_ ?_
          rotate_left
          · (intro w0 hSw; (try dsimp only at hSw); have q0 := hSw.box.c0; have q1 := HQ.out _ hSw.box; clear hSw; go_simp; try (with_reducible rfl))
          try simp only [Act.put, List.setIfInBounds_toArray, List.set_cons_zero, List.set_cons_succ]
          refine takeV (i := 6) (v := ?_) rfl (by kernel_rfl) (by kernel_rfl) (by kernel_rfl) (fun _ _ _ h => h) (by rfl) hHeld ?_ ?_
          rotate_left
          · (intro w0 hSw; (try dsimp only at hSw); have q0 := hSw.box.c0; have q1 := HQ.out _ hSw.box; clear hSw; go_simp; try (with_reducible rfl))
          try simp only [Act.put, List.setIfInBounds_toArray, List.set_cons_zero, List.set_cons_succ]
          refine takeV (i := 7) (v := ?_) rfl (by kernel_rfl) (by kernel_rfl) (by kernel_rfl) (fun _ _ _ h => h) (by rfl) hHeld ?_ ?_
          rotate_left
          · (intro w0 hSw; (try dsimp only at hSw); have q0 := hSw.box.c0; have q1 := HQ.out _ hSw.box; clear hSw; go_simp; try (with_reducible rfl))
          try simp only [Act.put, List.setIfInBounds_toArray, List.set_cons_zero, List.set_cons_succ]
          refine takeV (i := 8) (v := ?_) rfl (by kernel_rfl) (by kernel_rfl) (by kernel_rfl) (fun _ _ _ h => h) (by rfl) hHeld ?_ ?_
          rotate_left
          · (intro w0 hSw; (try dsimp only at hSw); have q0 := hSw.box.c0; have q1 := HQ.out _ hSw.box; clear hSw; go_simp; try (with_reducible rfl))
          try simp only [Act.put, List.setIfInBounds_toArray, List.set_cons_zero, List.set_cons_succ]
          refine takeV (i := 9) (v := ?_) rfl (by kernel_rfl) (by kernel_rfl) (by kernel_rfl) (fun _ _ _ h => h) (by rfl) hHeld ?_ ?_
          rotate_left
          · (intro w0 hSw; (try dsimp only at hSw); have q0 := hSw.box.c0; have q1 := HQ.out _ hSw.box; clear hSw; go_simp; try (with_reducible rfl))
          try simp only [Act.put, List.setIfInBounds_toArray, List.set_cons_zero, List.set_cons_succ]
          refine takeV (i := 10) (v := ?_) rfl (by kernel_rfl) (by kernel_rfl) (by kernel_rfl) (fun _ _ _ h => h) (by rfl) hHeld ?_ ?_
          rotate_left
          · (intro w0 hSw; (try dsimp only at hSw); have q0 := hSw.box.c0; have q1 := HQ.out _ hSw.box; clear hSw; go_simp; try (with_reducible rfl))
          try simp only [Act.put, List.setIfInBounds_toArray, List.set_cons_zero, List.set_cons_succ]
          refine takeV (i := 12) (v := ?_) rfl (by kernel_rfl) (by kernel_rfl) (by kernel_rfl) (fun _ _ _ h => h) (by rfl) hHeld ?_ ?_
          rotate_left
          · (intro w0 hSw; (try dsimp only at hSw); have q0 := hSw.box.c0; have q1 := HQ.out _ hSw.box; clear hSw; go_simp; try (with_reducible rfl))
          try simp only [Act.put, List.setIfInBounds_toArray, List.set_cons_zero, List.set_cons_succ]
          refine takeV (i := 13) (v := ?_) rfl (by kernel_rfl) (by kernel_rfl) (by kernel_rfl) (fun _ _ _ h => h) (by rfl) hHeld ?_ ?_
          rotate_left
          · (intro w0 hSw; (try dsimp only at hSw); have q0 := hSw.box.c0; have q1 := HQ.out _ hSw.box; clear hSw; go_simp; try (with_reducible rfl))
          try simp only [Act.put, List.setIfInBounds_toArray, List.set_cons_zero, List.set_cons_succ]
          refine stepOne (i := 11) rfl (by kernel_rfl) (fun K hK => ?_)
          go_simp
          (go_at_call 21; refine (rwidths_any _).mono ?_; rintro e9 w9 ⟨rfl, hr9, hb9⟩)
          go_wp2_with fail
          refine hK.out _ _ (hHeld.on hb9) (fun hHeld => ?_)
          clear hK K
          try simp only [Act.put, List.setIfInBounds_toArray, List.set_cons_zero, List.set_cons_succ]
          refine turnS (T := fun w' => CkI w w' x ∧ RowX w' _ wlV) (fun _ h => h.1) ⟨hHeld, hr9⟩ (fun hHeld => ?_)
          clear hr9 hb9
          refine takeV (i := 14) (v := ?_) rfl (by kernel_rfl) (by kernel_rfl) (by kernel_rfl) (fun _ _ _ h => h) (by rfl) hHeld ?_ ?_
          rotate_left
          · (intro w0 hSw; (try dsimp only at hSw); have q0 := hSw.1.box.c0; have q1 := HQ.out _ hSw.1.box; have q2 : w0.cell? ⟨wr.heap.size, k + 1, none⟩ = some (.int .i64 z) := (hSw.2.cell (k + 1)).trans HV.out; clear hSw; go_simp; try (with_reducible rfl))
          try simp only [Act.put, List.setIfInBounds_toArray, List.set_cons_zero, List.set_cons_succ]
          refine takeV (i := 15) (v := ?_) rfl (by kernel_rfl) (by kernel_rfl) (by kernel_rfl) (fun _ _ _ h => h) (by rfl) hHeld ?_ ?_
          rotate_left
          · (intro w0 hSw; (try dsimp only at hSw); have q0 := hSw.1.box.c0; have q1 := HQ.out _ hSw.1.box; have q2 : w0.cell? ⟨wr.heap.size, k + 1, none⟩ = some (.int .i64 z) := (hSw.2.cell (k + 1)).trans HV.out; clear hSw; go_simp; try (with_reducible rfl))
          try simp only [Act.put, List.setIfInBounds_toArray, List.set_cons_zero, List.set_cons_succ]
          refine stepOne (i := 16) rfl (by kernel_rfl) (fun K hK => ?_)
          go_simp
          (go_at_call 30; refine (HF.out _ (by omega)).mono ?_; rintro e9 w9 ⟨rfl, hw9⟩; subst w9)
          go_wp2_with fail
          refine hK.out _ _ hHeld (fun hHeld => ?_)
          clear hK K
          try simp only [Act.put, List.setIfInBounds_toArray, List.set_cons_zero, List.set_cons_succ]
          refine takeV (i := 17) (v := ?_) rfl (by kernel_rfl) (by kernel_rfl) (by kernel_rfl) (fun _ _ _ h => h) (by rfl) hHeld ?_ ?_
          rotate_left
          · (intro w0 hSw; (try dsimp only at hSw); have q0 := hSw.1.box.c0; have q1 := HQ.out _ hSw.1.box; have q2 : w0.cell? ⟨wr.heap.size, k + 1, none⟩ = some (.int .i64 z) := (hSw.2.cell (k + 1)).trans HV.out; clear hSw; go_simp; try (with_reducible rfl))
          try simp only [Act.put, List.setIfInBounds_toArray, List.set_cons_zero, List.set_cons_succ]
          refine takeV (i := 18) (v := ?_) rfl (by kernel_rfl) (by kernel_rfl) (by kernel_rfl) (fun _ _ _ h => h) (by rfl) hHeld ?_ ?_
          rotate_left
          · (intro w0 hSw; (try dsimp only at hSw); have q0 := hSw.1.box.c0; have q1 := HQ.out _ hSw.1.box; have q2 : w0.cell? ⟨wr.heap.size, k + 1, none⟩ = some (.int .i64 z) := (hSw.2.cell (k + 1)).trans HV.out; clear hSw; go_simp; try (with_reducible rfl))
          try simp only [Act.put, List.setIfInBounds_toArray, List.set_cons_zero, List.set_cons_succ]
          refine takeV (i := 19) (v := ?_) rfl (by kernel_rfl) (by kernel_rfl) (by kernel_rfl) (fun _ _ _ h => h) (by rfl) hHeld ?_ ?_
          rotate_left
          · (intro w0 hSw; (try dsimp only at hSw); have q0 := hSw.1.box.c0; have q1 := HQ.out _ hSw.1.box; have q2 : w0.cell? ⟨wr.heap.size, k + 1, none⟩ = some (.int .i64 z) := (hSw.2.cell (k + 1)).trans HV.out; clear hSw; go_simp; try (with_reducible rfl))
          try simp only [Act.put, List.setIfInBounds_toArray, List.set_cons_zero, List.set_cons_succ]
          refine takeV (i := 20) (v := ?_) rfl (by kernel_rfl) (by kernel_rfl) (by kernel_rfl) (fun _ _ _ h => h) (by rfl) hHeld ?_ ?_
          rotate_left
          · (intro w0 hSw; (try dsimp only at hSw); have q0 := hSw.1.box.c0; have q1 := HQ.out _ hSw.1.box; have q2 : w0.cell? ⟨wr.heap.size, k + 1, none⟩ = some (.int .i64 z) := (hSw.2.cell (k + 1)).trans HV.out; clear hSw; go_simp; try (with_reducible rfl))
          try simp only [Act.put, List.setIfInBounds_toArray, List.set_cons_zero, List.set_cons_succ]
          refine takeV (i := 21) (v := ?_) rfl (by kernel_rfl) (by kernel_rfl) (by kernel_rfl) (fun _ _ _ h => h) (by rfl) hHeld ?_ ?_
          rotate_left
          · (intro w0 hSw; (try dsimp only at hSw); have q0 := hSw.1.box.c0; have q1 := HQ.out _ hSw.1.box; have q2 : w0.cell? ⟨wr.heap.size, k + 1, none⟩ = some (.int .i64 z) := (hSw.2.cell (k + 1)).trans HV.out; clear hSw; go_simp; try (with_reducible rfl))
          try simp only [Act.put, List.setIfInBounds_toArray, List.set_cons_zero, List.set_cons_succ]
          refine takeV (i := 22) (v := ?_) rfl (by kernel_rfl) (by kernel_rfl) (by kernel_rfl) (fun _ _ _ h => h) (by rfl) hHeld ?_ ?_
          rotate_left
          · (intro w0 hSw; (try dsimp only at hSw); have q0 := hSw.1.box.c0; have q1 := HQ.out _ hSw.1.box; have q2 : w0.cell? ⟨wr.heap.size, k + 1, none⟩ = some (.int .i64 z) := (hSw.2.cell (k + 1)).trans HV.out; clear hSw; go_simp; try (with_reducible rfl))
          try simp only [Act.put, List.setIfInBounds_toArray, List.set_cons_zero, List.set_cons_succ]
          refine stepOne (i := 23) rfl (by kernel_rfl) (fun K hK => ?_)
          go_simp
          (go_at_call 15; refine (HD.out _).mono ?_; rintro e9 w9 ⟨rfl, hb9⟩)
          go_wp2_with fail
          refine hK.out _ _ ⟨hHeld.1.on hb9, hHeld.2.on hb9⟩ (fun hHeld => ?_)
          clear hK K
          try simp only [Act.put, List.setIfInBounds_toArray, List.set_cons_zero, List.set_cons_succ]
          refine takeV (i := 24) (v := ?_) rfl (by kernel_rfl) (by kernel_rfl) (by kernel_rfl) (fun _ _ _ h => h) (by rfl) hHeld ?_ ?_
          rotate_left
          · (intro w0 hSw; (try dsimp only at hSw); have q0 := hSw.1.box.c0; have q1 := HQ.out _ hSw.1.box; have q2 : w0.cell? ⟨wr.heap.size, k + 1, none⟩ = some (.int .i64 z) := (hSw.2.cell (k + 1)).trans HV.out; clear hSw; go_simp; try (with_reducible rfl))
          try simp only [Act.put, List.setIfInBounds_toArray, List.set_cons_zero, List.set_cons_succ]
          refine takeV (i := 25) (v := ?_) rfl (by kernel_rfl) (by kernel_rfl) (by kernel_rfl) (fun _ _ _ h => h) (by rfl) hHeld ?_ ?_
          rotate_left
          · (intro w0 hSw; (try dsimp only at hSw); have q0 := hSw.1.box.c0; have q1 := HQ.out _ hSw.1.box; have q2 : w0.cell? ⟨wr.heap.size, k + 1, none⟩ = some (.int .i64 z) := (hSw.2.cell (k + 1)).trans HV.out; clear hSw; go_simp; try (with_reducible rfl))
          try simp only [Act.put, List.setIfInBounds_toArray, List.set_cons_zero, List.set_cons_succ]
          refine takeV (i := 26) (v := ?_) rfl (by kernel_rfl) (by kernel_rfl) (by kernel_rfl) (fun _ _ _ h => h) (by rfl) hHeld ?_ ?_
          rotate_left
          · (intro w0 hSw; (try dsimp only at hSw); have q0 := hSw.1.box.c0; have q1 := HQ.out _ hSw.1.box; have q2 : w0.cell? ⟨wr.heap.size, k + 1, none⟩ = some (.int .i64 z) := (hSw.2.cell (k + 1)).trans HV.out; clear hSw; go_simp; try (with_reducible rfl))
          try simp only [Act.put, List.setIfInBounds_toArray, List.set_cons_zero, List.set_cons_succ]
          refine takeV (i := 27) (v := ?_) rfl (by kernel_rfl) (by kernel_rfl) (by kernel_rfl) (fun _ _ _ h => h) (by rfl) hHeld ?_ ?_
          rotate_left
          · (intro w0 hSw; (try dsimp only at hSw); have q0 := hSw.1.box.c0; have q1 := HQ.out _ hSw.1.box; have q2 : w0.cell? ⟨wr.heap.size, k + 1, none⟩ = some (.int .i64 z) := (hSw.2.cell (k + 1)).trans HV.out; clear hSw; go_simp; try (with_reducible rfl))
          try simp only [Act.put, List.setIfInBounds_toArray, List.set_cons_zero, List.set_cons_succ]
          refine takeV (i := 28) (v := ?_) rfl (by kernel_rfl) (by kernel_rfl) (by kernel_rfl) (fun _ _ _ h => h) (by rfl) hHeld ?_ ?_
          rotate_left
          · (intro w0 hSw; (try dsimp only at hSw); have q0 := hSw.1.box.c0; have q1 := HQ.out _ hSw.1.box; have q2 : w0.cell? ⟨wr.heap.size, k + 1, none⟩ = some (.int .i64 z) := (hSw.2.cell (k + 1)).trans HV.out; clear hSw; go_simp; try (with_reducible rfl))
          try simp only [Act.put, List.setIfInBounds_toArray, List.set_cons_zero, List.set_cons_succ]
          refine takeV (i := 29) (v := ?_) rfl (by kernel_rfl) (by kernel_rfl) (by kernel_rfl) (fun _ _ _ h => h) (by rfl) hHeld ?_ ?_
          rotate_left
          · (intro w0 hSw; (try dsimp only at hSw); have q0 := hSw.1.box.c0; have q1 := HQ.out _ hSw.1.box; have q2 : w0.cell? ⟨wr.heap.size, k + 1, none⟩ = some (.int .i64 z) := (hSw.2.cell (k + 1)).trans HV.out; clear hSw; go_simp; try (with_reducible rfl))
          try simp only [Act.put, List.setIfInBounds_toArray, List.set_cons_zero, List.set_cons_succ]
          refine takeV (i := 30) (v := ?_) rfl (by kernel_rfl) (by kernel_rfl) (by kernel_rfl) (fun _ _ _ h => h) (by rfl) hHeld ?_ ?_
          rotate_left
          · (intro w0 hSw; (try dsimp only at hSw); have q0 := hSw.1.box.c0; have q1 := HQ.out _ hSw.1.box; have q2 : w0.cell? ⟨wr.heap.size, k + 1, none⟩ = some (.int .i64 z) := (hSw.2.cell (k + 1)).trans HV.out; clear hSw; go_simp; try (with_reducible rfl))
          try simp only [Act.put, List.setIfInBounds_toArray, List.set_cons_zero, List.set_cons_succ]
          refine takeV (i := 31) (v := ?_) rfl (by kernel_rfl) (by kernel_rfl) (by kernel_rfl) (fun _ _ _ h => h) (by rfl) hHeld ?_ ?_
          rotate_left
          · (intro w0 hSw; (try dsimp only at hSw); have q0 := hSw.1.box.c0; have q1 := HQ.out _ hSw.1.box; have q2 : w0.cell? ⟨wr.heap.size, k + 1, none⟩ = some (.int .i64 z) := (hSw.2.cell (k + 1)).trans HV.out; clear hSw; go_simp; try (with_reducible rfl))
          try simp only [Act.put, List.setIfInBounds_toArray, List.set_cons_zero, List.set_cons_succ]
          refine takeV (i := 32) (v := ?_) rfl (by kernel_rfl) (by kernel_rfl) (by kernel_rfl) (fun _ _ _ h => h) (by rfl) hHeld ?_ ?_
          rotate_left
          · (intro w0 hSw; (try dsimp only at hSw); have q0 := hSw.1.box.c0; have q1 := HQ.out _ hSw.1.box; have q2 : w0.cell? ⟨wr.heap.size, k + 1, none⟩ = some (.int .i64 z) := (hSw.2.cell (k + 1)).trans HV.out; clear hSw; go_simp; try (with_reducible rfl))
          try simp only [Act.put, List.setIfInBounds_toArray, List.set_cons_zero, List.set_cons_succ]
          refine wpAnyH_done (by kernel_rfl) ?_ _
          go_wp2
          go_ret
          exact ⟨by rw [HE.out]; rfl, hHeld.1.below⟩
      · obtain rfl : k = 5 := by omega
        have HE := chide (kc_yes ((rcB_iff x).2 ⟨HN.out, HJ.out⟩))
        go_wp2
        go_ret
        exact ⟨by rw [HE.out]; rfl, HI.out.below⟩
  · have HE := chide (kc_no (rcB_n hn))
    rcases (show x.n < 0 ∨ (¬ x.n < 0 ∧ 29 < x.n) by omega) with h1 | ⟨h1, h2⟩
    all_goals
      clear hn
      go_enter Tryd.func13, Tryd.ntmps13
      go_upto_region 1 with fail
      generalize w.alloc _ = w1 at H0 q0 ⊢
      go_wp2
      go_ret
      exact ⟨by rw [HE.out]; rfl, H0.out.below⟩
end Go.Proofs.YtjibbppjdojbpaaDoor.Pcall
