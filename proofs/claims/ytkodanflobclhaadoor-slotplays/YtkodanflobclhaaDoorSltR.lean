/- What the document's Put and Get of layer 11 answer and do, over its own memory. -/
import Derived.Test.YtkodanflobclhaaDoorSltK
import Derived.Test.YtkodanflobclhaaDoorCapH
import Derived.Deep.CutBlock
namespace Go.Proofs.YtkodanflobclhaaDoor.Pslot
open Go.Proofs.YtkodanflobclhaaDoor.Pbase Go.Proofs.YtkodanflobclhaaDoor.Pcap Go.Proofs.YtkodanflobclhaaDoor.Pfield Go.Proofs.YtkodanflobclhaaDoor.Pmem
open Go.RowKit M
set_option linter.unusedVariables false

/-- The document's memory and, in the call's first block, a capability. -/
structure Rf (w0 w : World) (base q N : Nat) (M : Nat → Nat → Int) (k r t l e a : Int) : Prop where
  ref : RefIs w base q N M
  below : Below w0.heap.size w0 w
  box : Box6 w w0.heap.size k r t l e a
theorem Rf.on {w0 w w' : World} {base q N : Nat} {M : Nat → Nat → Int} {k r t l e a : Int} (h : Rf w0 w base q N M k r t l e a) (hB : Below w.heap.size w w') : Rf w0 w' base q N M k r t l e a :=
  ⟨h.ref.grown hB, h.below.trans (hB.mono h.below.size), h.box.on hB⟩
theorem rf_new {w : World} {base q N : Nat} {M : Nat → Nat → Int} (h : RefIs w base q N M) (k r t l e a : Int) (ty : TypeId) : Rf w (w.alloc (.cells #[.int .i64 k, .int .i64 r, .int .i64 t, .int .i64 l, .int .i64 e, .int .i64 a] ty)) base q N M k r t l e a :=
  ⟨h.alloc _, bal (Below.refl _ _) _, box6_new w k r t l e a ty⟩
theorem err_lo {N n : Nat} (f : Int) (hn : n < 16) : errW N f (4 + 2 * (n : Int)) = errF N f := by
  have : decide ((0 : Int) ≤ 4 + 2 * (n : Int) ∧ 4 + 2 * (n : Int) < 36) = true := by simp; omega
  simp only [errW, okW, errF, this, Bool.and_true]
theorem err_hi {N n : Nat} (f : Int) (hn : n < 16) : errW N f (4 + 2 * (n : Int) + 1) = errF N f := by
  have : decide ((0 : Int) ≤ 4 + 2 * (n : Int) + 1 ∧ 4 + 2 * (n : Int) + 1 < 36) = true := by simp; omega
  simp only [errW, okW, errF, this, Bool.and_true]
theorem RefIs_le {w : World} {base q N : Nat} {M : Nat → Nat → Int} (h : RefIs w base q N M) : base ≤ w.heap.size := Nat.le_trans h.ge (Nat.le_of_lt h.lt)
set_option maxRecDepth 100000 in
set_option maxHeartbeats 1000000 in
theorem rsput_bad (base q N : Nat) (f i k r t l e a : Int) (M : Nat → Nat → Int) (w : World) (hR : RefIs w base q N M) (hb : okS i = false ∨ ¬ Rt k r t l e a) :
    Calls Tryd.prog 8 #[.pointer (some ⟨q, 0, none⟩), .int .i64 f, .int .i64 i, .agg #[.int .i64 k, .int .i64 r, .int .i64 t, .int .i64 l, .int .i64 e, .int .i64 a]] w fun x w' => x = .returned (.int .i64 1) ∧ Below w.heap.size w w' := by
  have HI : Hid (Rf w (w.alloc (.cells #[.int .i64 k, .int .i64 r, .int .i64 t, .int .i64 l, .int .i64 e, .int .i64 a] 32)) base q N M k r t l e a) := rf_new hR k r t l e a 32
  clear hR
  cases hi : okS i
  · clear hb
    rcases okS_no hi with h1 | h1
    · clear hi
      go_enter Tryd.func8, Tryd.ntmps8
      go_wp2
      go_ret
      exact ⟨rfl, HI.out.below⟩
    · have h2 : ¬ i < 0 := by omega
      clear hi
      go_enter Tryd.func8, Tryd.ntmps8
      go_wp2
      go_ret
      exact ⟨rfl, HI.out.below⟩
  · have hr : ¬ Rt k r t l e a := by rcases hb with h | h; · rw [hi] at h; cases h
                                     · exact h
    obtain ⟨n, rfl, hn⟩ := okS_split hi
    have hc : chk k r t l e a = 1 := chk_no hr
    have h1 : ¬ (n : Int) < 0 := by omega
    have h2 : ¬ 16 ≤ (n : Int) := by omega
    have h2' : ¬ 16 ≤ n := by omega
    clear hb hi hr
    go_enter Tryd.func8, Tryd.ntmps8
    go_upto_region 3 with fail
    generalize w.alloc _ = v1 at HI ⊢
    have x0 := HI.out.box.c0
    have x1 := HI.out.box.c1
    have x2 := HI.out.box.c2
    have x3 := HI.out.box.c3
    have x4 := HI.out.box.c4
    have x5 := HI.out.box.c5
    go_wp2_with (first
      | (go_at_call 25; refine (Pcap.rput_any _ _ _ _ _ _ _).mono ?_; rintro e2 w2 ⟨rfl, hb2⟩; rw [hc]; have H2 : Hid (Below w.heap.size w w2) := HI.out.below.trans (hb2.mono HI.out.below.size); clear hb2)
      | fail)
    go_ret
    exact ⟨rfl, H2.out⟩
set_option maxRecDepth 100000 in
set_option maxHeartbeats 1000000 in
theorem rsput_ok (base q N n : Nat) (f k r t l e a : Int) (M : Nat → Nat → Int) (w : World) (hN1 : 1 ≤ N) (hN : N ≤ 64) (hR : RefIs w base q N M) (hn : n < 16) (hr : Rt k r t l e a) :
    Calls Tryd.prog 8 #[.pointer (some ⟨q, 0, none⟩), .int .i64 f, .int .i64 n, .agg #[.int .i64 k, .int .i64 r, .int .i64 t, .int .i64 l, .int .i64 e, .int .i64 a]] w fun x w' => x = .returned (.int .i64 (errF N f)) ∧ RefIs w' base q N (stW N (stW N M f (4 + 2 * (n : Int)) (putW k r t l e a)) f (4 + 2 * (n : Int) + 1) (putA k r t l e a)) ∧ Below base w w' := by
  have HI : Hid (Rf w (w.alloc (.cells #[.int .i64 k, .int .i64 r, .int .i64 t, .int .i64 l, .int .i64 e, .int .i64 a] 32)) base q N M k r t l e a) := rf_new hR k r t l e a 32
  have hle := RefIs_le hR
  have hc : chk k r t l e a = 0 := chk_yes hr
  have e1 := err_lo (N := N) f hn
  have e2 := err_hi (N := N) f hn
  have h1 : ¬ (n : Int) < 0 := by omega
  have h2 : ¬ 16 ≤ (n : Int) := by omega
  have h2' : ¬ 16 ≤ n := by omega
  have hz : errF N f = 0 ∨ (errF N f = 1 ∧ ∀ c v M', stW N M' f c v = M') := by
    cases hf : okF N f
    · exact .inr ⟨by simp [errF, hf], fun c v M' => by simp [stW, okW, hf]⟩
    · exact .inl (by simp [errF, hf])
  have HC : Hid (∀ wc, Calls Tryd.prog 25 #[.agg #[.int .i64 k, .int .i64 r, .int .i64 t, .int .i64 l, .int .i64 e, .int .i64 a]] wc fun x w' => x = .returned (.tuple #[.int .u64 (putW k r t l e a), .int .u64 (putA k r t l e a), .int .i64 0]) ∧ Below wc.heap.size wc w') := fun wc => by
    have := Pcap.rput_any k r t l e a wc
    rwa [hc] at this
  generalize putW k r t l e a = x at HC ⊢
  generalize putA k r t l e a = y at HC ⊢
  clear hR hc hr
  have t1 : True := trivial
  have HL : Hid (base ≤ w.heap.size) := hle
  clear hle
  rcases hz with hz | ⟨hz, hM⟩
  · rw [hz] at e1 e2 ⊢
    clear hz
    go_enter Tryd.func8, Tryd.ntmps8
    go_upto_region 3 with fail
    generalize w.alloc _ = v1 at HI ⊢
    have x0 := HI.out.box.c0
    have x1 := HI.out.box.c1
    have x2 := HI.out.box.c2
    have x3 := HI.out.box.c3
    have x4 := HI.out.box.c4
    have x5 := HI.out.box.c5
    go_wp2_with (first
      | (go_at_call 25; refine (HC.out _).mono ?_; rintro r2 w2 ⟨rfl, hb2⟩; have H2 : Hid (Rf w w2 base q N M k r t l e a) := HI.out.on hb2; clear hb2 x0 x1 x2 x3 x4 x5 HI)
      | (go_at_call 22; clear t1; refine (rstore_any base q N f (4 + 2 * (n : Int)) x M _ hN1 hN H2.out.ref).mono ?_; rintro r3 w3 ⟨rfl, hR3, hB3⟩; rw [e1]; have H3 : Hid (RefIs w3 base q N (stW N M f (4 + 2 * (n : Int)) x) ∧ Below base w w3) := ⟨hR3, (H2.out.below.mono HL.out).trans hB3⟩; clear hR3 hB3 e1)
      | (go_at_call 22; refine (rstore_any base q N f (4 + 2 * (n : Int) + 1) y _ _ hN1 hN H3.out.1).mono ?_; rintro r4 w4 ⟨rfl, hR4, hB4⟩; rw [e2]; have H4 : Hid (RefIs w4 base q N (stW N (stW N M f (4 + 2 * (n : Int)) x) f (4 + 2 * (n : Int) + 1) y) ∧ Below base w w4) := ⟨hR4, H3.out.2.trans hB4⟩; clear hR4 hB4)
      | fail)
    go_ret
    exact ⟨rfl, H4.out⟩
  · rw [hM, hM, hz]
    rw [hz] at e1
    clear hz e2
    go_enter Tryd.func8, Tryd.ntmps8
    go_upto_region 3 with fail
    generalize w.alloc _ = v1 at HI ⊢
    have x0 := HI.out.box.c0
    have x1 := HI.out.box.c1
    have x2 := HI.out.box.c2
    have x3 := HI.out.box.c3
    have x4 := HI.out.box.c4
    have x5 := HI.out.box.c5
    go_wp2_with (first
      | (go_at_call 25; refine (HC.out _).mono ?_; rintro r2 w2 ⟨rfl, hb2⟩; have H2 : Hid (Rf w w2 base q N M k r t l e a) := HI.out.on hb2; clear hb2 x0 x1 x2 x3 x4 x5 HI)
      | (go_at_call 22; clear t1; refine (rstore_any base q N f (4 + 2 * (n : Int)) x M _ hN1 hN H2.out.ref).mono ?_; rintro r3 w3 ⟨rfl, hR3, hB3⟩; rw [e1]; rw [hM] at hR3; have H3 : Hid (RefIs w3 base q N M ∧ Below base w w3) := ⟨hR3, (H2.out.below.mono HL.out).trans hB3⟩; clear hR3 hB3 e1)
      | fail)
    go_ret
    exact ⟨rfl, H3.out⟩
/-- The document's Put, for every argument. -/
theorem rsput_any (base q N : Nat) (f i k r t l e a : Int) (M : Nat → Nat → Int) (w : World) (hN1 : 1 ≤ N) (hN : N ≤ 64) (hR : RefIs w base q N M) :
    Calls Tryd.prog 8 #[.pointer (some ⟨q, 0, none⟩), .int .i64 f, .int .i64 i, .agg #[.int .i64 k, .int .i64 r, .int .i64 t, .int .i64 l, .int .i64 e, .int .i64 a]] w fun x w' => x = .returned (.int .i64 (pE N f i k r t l e a)) ∧ RefIs w' base q N (pM N M f i k r t l e a) ∧ Below base w w' := by
  by_cases h : okS i = true ∧ Rt k r t l e a
  · obtain ⟨hi, hr⟩ := h
    obtain ⟨n, rfl, hn⟩ := okS_split hi
    have e1 : pE N f n k r t l e a = errF N f := by simp [pE, hi, rtB_yes hr, errF]
    have e2 : pM N M f n k r t l e a = stW N (stW N M f (4 + 2 * (n : Int)) (putW k r t l e a)) f (4 + 2 * (n : Int) + 1) (putA k r t l e a) := by
      simp only [pM, hi, rtB_yes hr, Bool.and_self, if_true]
    rw [e1, e2]
    exact rsput_ok base q N n f k r t l e a M w hN1 hN hR hn hr
  · have hb : okS i = false ∨ ¬ Rt k r t l e a := by
      cases hi : okS i
      · exact .inl rfl
      · exact .inr fun hr => h ⟨hi, hr⟩
    have hz : (okS i && rtB k r t l e a) = false := by
      rcases hb with hb | hb
      · simp [hb]
      · simp [rtB_no hb]
    have e1 : pE N f i k r t l e a = 1 := by simp [pE, hz]
    have e2 : pM N M f i k r t l e a = M := by simp [pM, hz]
    rw [e1, e2]
    exact (rsput_bad base q N f i k r t l e a M w hR hb).mono fun x w' ⟨h1, h2⟩ => ⟨h1, hR.grown h2, h2.mono (RefIs_le hR)⟩

/-! ### Get -/
set_option maxRecDepth 100000 in
set_option maxHeartbeats 1000000 in
theorem rsget_bad (base q N : Nat) (f i : Int) (M : Nat → Nat → Int) (w : World) (hN1 : 1 ≤ N) (hN : N ≤ 64) (hR : RefIs w base q N M) (hb : okS i = false ∨ okF N f = false) :
    Calls Tryd.prog 10 #[.pointer (some ⟨q, 0, none⟩), .int .i64 f, .int .i64 i] w fun x w' => x = .returned (.tuple #[.agg #[.int .i64 0, .int .i64 0, .int .i64 0, .int .i64 0, .int .i64 0, .int .i64 0], .int .i64 1]) ∧ Below w.heap.size w w' := by
  have HI : Hid (Rf w (w.alloc (.cells #[.int .i64 0, .int .i64 0, .int .i64 0, .int .i64 0, .int .i64 0, .int .i64 0] 32)) base q N M 0 0 0 0 0 0) := rf_new hR 0 0 0 0 0 0 32
  clear hR
  cases hi : okS i
  · clear hb
    have h12 : i < 0 ∨ ((0 : Int) ≤ i ∧ 16 ≤ i) := by have := okS_no hi; omega
    clear hi
    rcases h12 with h1 | ⟨h0, h1⟩
    all_goals
      try (have h2 : ¬ i < 0 := by omega)
      go_enter Tryd.func10, Tryd.ntmps10
      go_upto_region 2 with fail
      generalize w.alloc _ = v1 at HI ⊢
      have x0 := HI.out.box.c0
      have x1 := HI.out.box.c1
      have x2 := HI.out.box.c2
      have x3 := HI.out.box.c3
      have x4 := HI.out.box.c4
      have x5 := HI.out.box.c5
      have z0 := HI.out.box.fz 0
      have z1 := HI.out.box.fz 1
      have z2 := HI.out.box.fz 2
      have z3 := HI.out.box.fz 3
      have z4 := HI.out.box.fz 4
      have z5 := HI.out.box.fz 5
      go_wp2
      refine bodyPost_ret (v := .tuple #[.agg #[.int .i64 0, .int .i64 0, .int .i64 0, .int .i64 0, .int .i64 0, .int .i64 0], .int .i64 1]) (by simp [results, Tryd.results10, go_sem, x0, x1, x2, x3, x4, x5]) rfl ⟨rfl, ?_⟩
      exact bst (bst (bst (bst (bst (bst HI.out.below (Nat.le_refl _) _ _) (Nat.le_refl _) _ _) (Nat.le_refl _) _ _) (Nat.le_refl _) _ _) (Nat.le_refl _) _ _) (Nat.le_refl _) _ _
  · have hf : okF N f = false := by rcases hb with h | h; · rw [hi] at h; cases h
                                    · exact h
    obtain ⟨n, rfl, hn⟩ := okS_split hi
    have h1 : ¬ (n : Int) < 0 := by omega
    have h2 : ¬ 16 ≤ (n : Int) := by omega
    have h2' : ¬ 16 ≤ n := by omega
    have l0 : ldM N M f (4 + 2 * (n : Int)) = 0 := by simp [ldM, okW, hf]
    have e0 : errW N f (4 + 2 * (n : Int)) = 1 := by simp [errW, okW, hf]
    clear hb hi hf
    go_enter Tryd.func10, Tryd.ntmps10
    go_upto_region 5 with (first
      | (go_at_call 28; refine (rload_any base q N f (4 + 2 * (n : Int)) M _ hN1 hN HI.out.ref).mono ?_; rintro e1 w1 ⟨rfl, hw1⟩; subst w1; rw [l0, e0])
      | fail)
    generalize w.alloc _ = v1 at HI ⊢
    have x0 := HI.out.box.c0
    have x1 := HI.out.box.c1
    have x2 := HI.out.box.c2
    have x3 := HI.out.box.c3
    have x4 := HI.out.box.c4
    have x5 := HI.out.box.c5
    have z0 := HI.out.box.fz 0
    have z1 := HI.out.box.fz 1
    have z2 := HI.out.box.fz 2
    have z3 := HI.out.box.fz 3
    have z4 := HI.out.box.fz 4
    have z5 := HI.out.box.fz 5
    go_wp2
    refine bodyPost_ret (v := .tuple #[.agg #[.int .i64 0, .int .i64 0, .int .i64 0, .int .i64 0, .int .i64 0, .int .i64 0], .int .i64 1]) (by simp [results, Tryd.results10, go_sem, x0, x1, x2, x3, x4, x5]) rfl ⟨rfl, ?_⟩
    exact bst (bst (bst (bst (bst (bst HI.out.below (Nat.le_refl _) _ _) (Nat.le_refl _) _ _) (Nat.le_refl _) _ _) (Nat.le_refl _) _ _) (Nat.le_refl _) _ _) (Nat.le_refl _) _ _
set_option maxRecDepth 100000 in
set_option maxHeartbeats 1000000 in
theorem rsget_ok (base q N n : Nat) (f : Int) (M : Nat → Nat → Int) (w : World) (hN1 : 1 ≤ N) (hN : N ≤ 64) (hR : RefIs w base q N M) (hF : Fit M) (hn : n < 16) (hf : okF N f = true) :
    Calls Tryd.prog 10 #[.pointer (some ⟨q, 0, none⟩), .int .i64 f, .int .i64 n] w fun x w' => x = .returned (.tuple #[.agg #[.int .i64 (getC (w1 M f n) (w2 M f n) 0), .int .i64 (getC (w1 M f n) (w2 M f n) 1), .int .i64 (getC (w1 M f n) (w2 M f n) 2), .int .i64 (getC (w1 M f n) (w2 M f n) 3), .int .i64 (getC (w1 M f n) (w2 M f n) 4), .int .i64 (getC (w1 M f n) (w2 M f n) 5)], .int .i64 (getE (w1 M f n) (w2 M f n))]) ∧ Below w.heap.size w w' := by
  have HI : Hid (Rf w (w.alloc (.cells #[.int .i64 0, .int .i64 0, .int .i64 0, .int .i64 0, .int .i64 0, .int .i64 0] 32)) base q N M 0 0 0 0 0 0) := rf_new hR 0 0 0 0 0 0 32
  have o1 : okW N f (4 + 2 * (n : Int)) = true := by simp [okW, hf]; omega
  have o2 : okW N f (4 + 2 * (n : Int) + 1) = true := by simp [okW, hf]; omega
  have l0 : ldM N M f (4 + 2 * (n : Int)) = w1 M f n := by
    unfold ldM w1
    rw [if_pos o1, show (4 + 2 * (n : Int)).toNat = 4 + 2 * (n : Int).toNat by omega]
  have l1 : ldM N M f (4 + 2 * (n : Int) + 1) = w2 M f n := by
    unfold ldM w2
    rw [if_pos o2, show (4 + 2 * (n : Int) + 1).toNat = 4 + 2 * (n : Int).toNat + 1 by omega]
  have e0 : errW N f (4 + 2 * (n : Int)) = 0 := by simp [errW, o1]
  have e1 : errW N f (4 + 2 * (n : Int) + 1) = 0 := by simp [errW, o2]
  have h1 : ¬ (n : Int) < 0 := by omega
  have h2 : ¬ 16 ≤ (n : Int) := by omega
  have h2' : ¬ 16 ≤ n := by omega
  have hx : 0 ≤ w1 M f n ∧ w1 M f n ≤ 18446744073709551615 := hF _ _
  have hy : 0 ≤ w2 M f n ∧ w2 M f n ≤ 18446744073709551615 := hF _ _
  generalize w1 M f n = x at l0 hx ⊢
  generalize w2 M f n = y at l1 hy ⊢
  have HC : Hid (∀ wc, Calls Tryd.prog 29 #[.int .u64 x, .int .u64 y] wc fun v w' => v = .returned (.tuple #[.agg #[.int .i64 (getC x y 0), .int .i64 (getC x y 1), .int .i64 (getC x y 2), .int .i64 (getC x y 3), .int .i64 (getC x y 4), .int .i64 (getC x y 5)], .int .i64 (getE x y)]) ∧ Below wc.heap.size wc w') := fun wc => Pcap.rget_any x y wc hx hy
  generalize getC x y 0 = C0 at HC ⊢
  generalize getC x y 1 = C1 at HC ⊢
  generalize getC x y 2 = C2 at HC ⊢
  generalize getC x y 3 = C3 at HC ⊢
  generalize getC x y 4 = C4 at HC ⊢
  generalize getC x y 5 = C5 at HC ⊢
  generalize getE x y = E at HC ⊢
  clear hR o1 o2 hx hy hf
  have t1 : True := trivial
  go_enter Tryd.func10, Tryd.ntmps10
  go_upto_region 3 with fail
  generalize w.alloc _ = v1 at HI ⊢
  go_wp2_with (first
    | (go_at_call 28; clear t1; refine (rload_any base q N f (4 + 2 * (n : Int)) M _ hN1 hN HI.out.ref).mono ?_; rintro r1 w1 ⟨rfl, hw1⟩; subst w1; rw [l0, e0])
    | (go_at_call 28; refine (rload_any base q N f (4 + 2 * (n : Int) + 1) M _ hN1 hN HI.out.ref).mono ?_; rintro r1 w1 ⟨rfl, hw1⟩; subst w1; rw [l1, e1])
    | (go_at_call 29; refine (HC.out _).mono ?_; rintro r2 w3 ⟨rfl, hb⟩; have H3 : Hid (Below w.heap.size w w3) := HI.out.below.trans (hb.mono HI.out.below.size); have X := HI.out.box.on hb; clear hb; have x0 := X.c0; have x1 := X.c1; have x2 := X.c2; have x3 := X.c3; have x4 := X.c4; have x5 := X.c5; have z0 := X.fz 0; have z1 := X.fz 1; have z2 := X.fz 2; have z3 := X.fz 3; have z4 := X.fz 4; have z5 := X.fz 5; clear X)
    | fail)
  refine bodyPost_ret (v := .tuple #[.agg #[.int .i64 C0, .int .i64 C1, .int .i64 C2, .int .i64 C3, .int .i64 C4, .int .i64 C5], .int .i64 E]) (by simp [results, Tryd.results10, go_sem, x0, x1, x2, x3, x4, x5]) rfl ⟨rfl, ?_⟩
  exact bst (bst (bst (bst (bst (bst H3.out (Nat.le_refl _) _ _) (Nat.le_refl _) _ _) (Nat.le_refl _) _ _) (Nat.le_refl _) _ _) (Nat.le_refl _) _ _) (Nat.le_refl _) _ _
/-- The document's Get, for every argument. -/
theorem rsget_any (base q N : Nat) (f i : Int) (M : Nat → Nat → Int) (w : World) (hN1 : 1 ≤ N) (hN : N ≤ 64) (hR : RefIs w base q N M) (hF : Fit M) :
    Calls Tryd.prog 10 #[.pointer (some ⟨q, 0, none⟩), .int .i64 f, .int .i64 i] w fun x w' => x = .returned (.tuple #[.agg #[.int .i64 (sC N M f i 0), .int .i64 (sC N M f i 1), .int .i64 (sC N M f i 2), .int .i64 (sC N M f i 3), .int .i64 (sC N M f i 4), .int .i64 (sC N M f i 5)], .int .i64 (sE N M f i)]) ∧ Below w.heap.size w w' := by
  cases hi : okS i
  · simp only [sC, sE, hi, Bool.false_and, Bool.false_eq_true, if_false]
    exact rsget_bad base q N f i M w hN1 hN hR (.inl hi)
  · cases hf : okF N f
    · simp only [sC, sE, hf, Bool.and_false, Bool.false_eq_true, if_false]
      exact rsget_bad base q N f i M w hN1 hN hR (.inr hf)
    · simp only [sC, sE, hi, hf, Bool.and_self, if_true]
      obtain ⟨n, rfl, hn⟩ := okS_split hi
      exact rsget_ok base q N n f M w hN1 hN hR hF hn hf
end Go.Proofs.YtkodanflobclhaaDoor.Pslot
