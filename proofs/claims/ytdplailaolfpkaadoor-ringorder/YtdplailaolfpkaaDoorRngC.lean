/- The closures that Take hands to hand; hand with it; what Take of package ring answers and does (written by mk_c.py). -/
import Derived.Test.YtdplailaolfpkaaDoorRngB
import Derived.Deep.RegionWith
namespace Go.Proofs.YtdplailaolfpkaaDoor.Pring
open Go.Proofs.YtdplailaolfpkaaDoor.Pbase Go.Proofs.YtdplailaolfpkaaDoor.Pfield Go.Proofs.YtdplailaolfpkaaDoor.Play Go.Proofs.YtdplailaolfpkaaDoor.Pmem
open Go.RowKit M
set_option linter.unusedVariables false

/-! ### the closure of Take -/
theorem but_set {b : Nat} (w : World) (j : Nat) (v : Value) : But b w (w.setCell ⟨b, j, none⟩ v) := by
  have h := (Below.refl b w).setCell (p := ⟨b, j, none⟩) (Nat.le_refl _) v
  exact ⟨h.os, h.tape, h.output, h.size, fun i _ hn => heap_setCell_other _ _ _ _ hn⟩
set_option maxRecDepth 100000 in
theorem take1_any (F : Nat) (x y : Ev) (W : World) (hR : RowE W F x) : Calls Tryd.prog 39 #[.agg #[.int .i64 y.k, .int .i64 y.t], .pointer (some ⟨F, 0, none⟩)] W fun e w' => e = .returned (.tuple #[]) ∧ RowE w' F y ∧ But F W w' := by
  have H0 : Hid (RowE (W.alloc (.cells #[.int .i64 y.k, .int .i64 y.t] 32)) F x ∧ RowE (W.alloc (.cells #[.int .i64 y.k, .int .i64 y.t] 32)) W.heap.size y ∧ But F W (W.alloc (.cells #[.int .i64 y.k, .int .i64 y.t] 32))) := ⟨hR.on (bal (Below.refl _ _) _), rowE_new W y, But.of_below F (bal (Below.refl _ _) _)⟩
  clear hR
  go_enter Tryd.func39, Tryd.ntmps39
  go_upto_region 1 with fail
  generalize W.alloc _ = v0 at H0 ⊢
  generalize W.heap.size = D at H0 ⊢
  have x0 := H0.out.1.c0
  have x1 := H0.out.1.c1
  have z := H0.out.1.fz
  have y0 := H0.out.2.1.c0
  have y1 := H0.out.2.1.c1
  go_wp2
  go_end0
  exact ⟨rfl, H0.out.1.put y, (H0.out.2.2.trans (but_set _ _ _)).trans (but_set _ _ _)⟩
/-! ### hand -/
set_option maxRecDepth 100000 in
set_option maxHeartbeats 4000000 in
theorem hand_take (p b N n : Nat) (hn : n ≤ 8) (f c : Int) (M : Nat → Nat → Int) (F : Nat) (I : Nat → World → Prop) (w : World) (hF : Fit M) (hp : plE N M f = 0)
    (hM : ∀ k W, I k W → Mx W p b N M) (hO : ∀ k W W', I k W → Below W.heap.size W W' → I k W')
    (hY : ∀ (k : Nat) W, k < n → ofE (rwI M f (k : Int)) = 0 → I k W → Calls Tryd.prog 39 #[.agg #[.int .i64 (ofX (rwI M f (k : Int))).k, .int .i64 (ofX (rwI M f (k : Int))).t], .pointer (some ⟨F, 0, none⟩)] W fun e w' => e = .returned (.tuple #[]) ∧ I (k + 1) w' ∧ ∀ B, RowN W B p f (bgI M f) c → RowN w' B p f (bgI M f) c)
    (h0 : I 0 w) :
    Calls Tryd.prog 38 #[.agg #[.pointer (some ⟨p, 0, none⟩), .int .i64 f, .int .u64 (bgI M f), .int .u64 c], .int .i64 (n : Int), .func (.func 39) #[] #[.pointer (some ⟨F, 0, none⟩)]] w fun e w' =>
      (e = .returned (.int .i64 0) ∧ (∀ j : Nat, j < n → ofE (rwI M f (j : Int)) = 0) ∧ I n w') ∨ (e = .returned (.int .i64 12) ∧ ∃ k : Nat, k < n ∧ ofE (rwI M f (k : Int)) ≠ 0 ∧ I k w') := by
  obtain ⟨_, hf, ha, _⟩ := pl_yes hF hp
  have HI : Hid ((∀ k W, I k W → Mx W p b N M) ∧ ∀ k W W', I k W → Below W.heap.size W W' → I k W') := ⟨hM, hO⟩
  have HY := rhide hY
  have HL : Hid (∀ (k : Nat) wc, Mx wc p b N M → Calls Tryd.prog 62 #[.agg #[.pointer (some ⟨p, 0, none⟩), .int .i64 f, .int .u64 (bgI M f), .int .u64 c], .int .i64 (2 + (bgI M f + (k : Int)) % 8)] wc fun e w' => e = .returned (.tuple #[.int .u64 (rwI M f (k : Int)), .int .i64 0]) ∧ Below wc.heap.size wc w') := fun k wc h => by
    have := ld_any p b N f (bgI M f) c (2 + (bgI M f + (k : Int)) % 8) M wc h hf (by omega)
    rwa [show 12 + (2 + (bgI M f + (k : Int)) % 8) = 14 + (bgI M f + (k : Int)) % 8 by omega, rw_at hF hp k] at this
  have HP : Hid (∀ k : Nat, k < n → ∀ wc, Calls Tryd.prog 40 #[.int .u64 (bgI M f), .int .i64 (k : Int)] wc fun e w' => e = .returned (.int .i64 ((bgI M f + (k : Int)) % 8)) ∧ w' = wc) := fun k hk wc => plI_any _ _ ha (by omega) wc
  have HV : Hid (∀ k : Nat, 0 ≤ rwI M f (k : Int) ∧ rwI M f (k : Int) ≤ 18446744073709551615) := fun k => hF _ _
  have H0 : Hid (I 0 (w.alloc (.cells #[.pointer (some ⟨p, 0, none⟩), .int .i64 f, .int .u64 (bgI M f), .int .u64 c] 77)) ∧ RowN (w.alloc (.cells #[.pointer (some ⟨p, 0, none⟩), .int .i64 f, .int .u64 (bgI M f), .int .u64 c] 77)) w.heap.size p f (bgI M f) c) := ⟨hO _ _ _ h0 (bal (Below.refl _ _) _), rowN_new w p f (bgI M f) c⟩
  generalize bgI M f = a at HL HP HY H0 ha ⊢
  clear hM hO hY h0 hF hp hf
  go_enter Tryd.func38, Tryd.ntmps38
  go_upto_region 1 with fail
  generalize w.alloc _ = v0 at H0 ⊢
  generalize w.heap.size = D at H0 ⊢
  go_wp2
  go_loopw [12] (fun i wr => ∃ k : Nat, k ≤ n ∧ i = .int .i64 k ∧ (∀ j : Nat, j < k → ofE (rwI M f (j : Int)) = 0) ∧ I k wr ∧ RowN wr D p f a c) (fun i _ => n - (intOf i).toNat)
  case atStart => exact ⟨0, by omega, rfl, fun j hj => by omega, H0.out⟩
  case round =>
    obtain ⟨k, hk, rfl, hok, hI⟩ := hrel
    have H1 := rhide hI
    have HK : Hid (∀ j : Nat, j < k → ofE (rwI M f (j : Int)) = 0) := hok
    clear hI hok H0
    by_cases hlt : k < n
    · have hki : (k : Int) < (n : Int) := by omega
      have HLk := rhide (HL.out k)
      have HPk := rhide (HP.out k hlt)
      have HOf : Hid (∀ wc, Mx wc p b N M → Calls Tryd.prog 7 #[.int .u64 (rwI M f (k : Int))] wc fun e w' => e = .returned (.tuple #[.agg #[.int .i64 (ofX (rwI M f (k : Int))).k, .int .i64 (ofX (rwI M f (k : Int))).t], .int .i64 (ofE (rwI M f (k : Int)))]) ∧ Below wc.heap.size wc w') := fun wc h => of_any _ (HV.out k) wc h.wd
      have HYk := rhide (HY.out k)
      have d1 : IntKind.i64.wrap (2 + (a + (k : Int)) % 8) = 2 + (a + (k : Int)) % 8 := wrapi_small (by omega) (by omega)
      have d1' : wrap64 (2 + (a + (k : Int)) % 8) = 2 + (a + (k : Int)) % 8 := by unfold wrap64; omega
      obtain ⟨E, hE⟩ : ∃ E, E = ofE (rwI M f (k : Int)) := ⟨_, rfl⟩
      rw [← hE] at HOf HYk
      have HE : Hid (E = ofE (rwI M f (k : Int))) := hE
      clear hE
      generalize ofX (rwI M f (k : Int)) = X at HOf HYk
      generalize hrw : rwI M f (k : Int) = V at HLk HOf
      have HRW := rhide hrw
      clear hrw
      generalize (a + (k : Int)) % 8 = r at HLk HPk d1 d1'
      have x0 := H1.out.2.c0
      have x1 := H1.out.2.c1
      have x2 := H1.out.2.c2
      have x3 := H1.out.2.c3
      go_upto_region 4 with fail
      go_region_held3 (fun w' => w'.cell? ⟨D, 0, none⟩ = some (.pointer (some ⟨p, 0, none⟩)) ∧ w'.cell? ⟨D, 1, none⟩ = some (.int .i64 f) ∧ w'.cell? ⟨D, 2, none⟩ = some (.int .u64 a) ∧ w'.cell? ⟨D, 3, none⟩ = some (.int .u64 c)) (first | (refine ⟨?_, ?_, ?_, ?_⟩ <;> with_reducible assumption) | go_keep)
      (first
        | (go_at_call 40; refine (HPk.out _).mono ?_; rintro e1 w1 ⟨rfl, hw⟩; subst w1)
        | (go_at_call 62; refine (HLk.out _ (by first | exact HI.out.1 _ _ H1.out.1 | exact HI.out.1 _ _ (HI.out.2 _ _ _ H1.out.1 (Below.refl _ _).drew))).mono ?_; rintro e2 w2 ⟨rfl, hb⟩; have hB : Below wr.heap.size wr w2 := (by first | exact hb | exact (Below.refl _ _).drew.trans hb); have H2 : Hid (I k w2 ∧ RowN w2 D p f a c) := ⟨HI.out.2 _ _ _ H1.out.1 hB, H1.out.2.on hB⟩; clear hb hB HLk H1 x0 x1 x2 x3; have x0 := H2.out.2.c0; have x1 := H2.out.2.c1; have x2 := H2.out.2.c2; have x3 := H2.out.2.c3)
        | fail)
      go_upto_region 8 with (first
        | (go_at_call 7; refine (HOf.out _ (by first | exact HI.out.1 _ _ H2.out.1 | exact HI.out.1 _ _ (HI.out.2 _ _ _ H2.out.1 (Below.refl _ _).drew))).mono ?_; rintro e3 w3 ⟨rfl, hb⟩; have hB : Below w2.heap.size w2 w3 := (by first | exact hb | exact (Below.refl _ _).drew.trans hb); have H3 : Hid (I k w3 ∧ RowN w3 D p f a c) := ⟨HI.out.2 _ _ _ H2.out.1 hB, H2.out.2.on hB⟩; clear hb hB HOf H2 x0 x1 x2 x3)
        | fail)
      have hx := rowE_new w3 X
      have H4 : I k (w3.alloc (.cells #[.int .i64 X.k, .int .i64 X.t] 32)) ∧ RowN (w3.alloc (.cells #[.int .i64 X.k, .int .i64 X.t] 32)) D p f a c := ⟨HI.out.2 _ _ _ H3.out.1 (bal (Below.refl _ _) _), H3.out.2.on (bal (Below.refl _ _) _)⟩
      generalize w3.alloc _ = v3 at H4 hx ⊢
      generalize w3.heap.size = A at hx ⊢
      have H5 := rhide H4
      clear H3 H4
      by_cases h0 : E = 0
      · subst h0
        have y0 := hx.c0
        have y1 := hx.c1
        clear hx
        go_wp2_with (first
          | (go_at_call 39; refine (HYk.out _ hlt rfl H5.out.1).mono ?_; rintro e6 w6 ⟨rfl, hi, hr⟩; have H6 : Hid (I (k + 1) w6 ∧ RowN w6 D p f a c) := ⟨hi, hr _ H5.out.2⟩; clear hi hr HYk H5)
          | fail)
        go_roundw
        case rel =>
          refine ⟨k + 1, by omega, by go_num, fun j hj => ?_, H6.out⟩
          by_cases e : j = k
          · subst e; exact HE.out.symm
          · exact HK.out j (by omega)
        case measure => simp [intOf]; omega
      · have hne : (E != 0) = true := by simp [h0]
        have hb12 : ofE (rwI M f (k : Int)) ≠ 0 := by rw [← HE.out]; exact h0
        have h12 : E = 12 := by rw [HE.out]; exact (of_no hb12).1
        subst h12
        have HQ := rhide hb12
        clear hx h0 hb12 HE HYk
        go_wp2
        go_ret
        exact .inr ⟨rfl, k, hlt, HQ.out, H5.out.1⟩
    · obtain rfl : k = n := by omega
      go_wp2
      go_ret
      exact .inl ⟨rfl, HK.out, H1.out.1⟩
/-! ### Take -/
/-- A result, a ring in a block, the first event and a memory. -/
structure Ti (w W : World) (p b N : Nat) (M : Nat → Nat → Int) (D F : Nat) (f a c : Int) (x : Ev) : Prop where
  m0 : Mx w p b N M
  res : RowE W w.heap.size ev0
  r : RowN W D p f a c
  fst : RowE W F x
  below : Below w.heap.size w W
  n1 : w.heap.size < D
  n2 : w.heap.size < F
structure Tj (w W : World) (p b N : Nat) (M : Nat → Nat → Int) : Prop where
  m0 : Mx w p b N M
  res : RowE W w.heap.size ev0
  below : Below w.heap.size w W
section
variable {w W W' : World} {p b N : Nat} {M M' : Nat → Nat → Int} {D F : Nat} {f a c : Int} {x y : Ev}
theorem tj_new (h : Mx w p b N M) : Tj w (w.alloc (.cells #[.int .i64 0, .int .i64 0] 32)) p b N M := ⟨h, rowE_new w ev0, bal (Below.refl _ _) _⟩
theorem Tj.on (h : Tj w W p b N M) (hB : Below W.heap.size W W') : Tj w W' p b N M := ⟨h.m0, h.res.on hB, h.below.trans (hB.mono h.below.size)⟩
theorem Tj.mx (h : Tj w W p b N M) : Mx W p b N M := h.m0.on h.below
theorem Tj.more (h : Tj w W p b N M) (f a c : Int) : Ti w ((W.alloc (.cells #[.pointer (some ⟨p, 0, none⟩), .int .i64 f, .int .u64 a, .int .u64 c] 77)).alloc (.cells #[.int .i64 0, .int .i64 0] 32)) p b N M W.heap.size (W.heap.size + 1) f a c ev0 := by
  have b1 := bal (Below.refl W.heap.size W) (.cells #[.pointer (some ⟨p, 0, none⟩), .int .i64 f, .int .u64 a, .int .u64 c] 77)
  have b2 := bal (Below.refl (W.alloc (.cells #[.pointer (some ⟨p, 0, none⟩), .int .i64 f, .int .u64 a, .int .u64 c] 77)).heap.size (W.alloc (.cells #[.pointer (some ⟨p, 0, none⟩), .int .i64 f, .int .u64 a, .int .u64 c] 77))) (.cells #[.int .i64 0, .int .i64 0] 32)
  have r2 := rowE_new (W.alloc (.cells #[.pointer (some ⟨p, 0, none⟩), .int .i64 f, .int .u64 a, .int .u64 c] 77)) ev0
  rw [World.size_alloc] at r2
  have hl := h.res.lt
  exact ⟨h.m0, ((h.on b1).on b2).res, (rowN_new W p f a c).on b2, r2, ((h.on b1).on b2).below, hl, by omega⟩
theorem Ti.on (h : Ti w W p b N M D F f a c x) (hB : Below W.heap.size W W') : Ti w W' p b N M D F f a c x := ⟨h.m0, h.res.on hB, h.r.on hB, h.fst.on hB, h.below.trans (hB.mono h.below.size), h.n1, h.n2⟩
theorem Ti.mx (h : Ti w W p b N M D F f a c x) : Mx W p b N M := h.m0.on h.below
theorem rowN_ne {B p : Nat} (h : RowN W B p f a c) (k : RowE W F x) : B ≠ F := by
  rintro rfl
  have e := h.row
  rw [k.row] at e
  simp at e
theorem Ti.turn (h : Ti w W p b N M D F f a c x) (hx : RowE W' F y) (hB : But F W W') : Ti w W' p b N M D F f a c y :=
  ⟨h.m0, h.res.but hB (Nat.ne_of_lt h.n2), h.r.but hB (rowN_ne h.r h.fst), hx, h.below.trans (hB.below (Nat.le_of_lt h.n2) h.below.size), h.n1, h.n2⟩
theorem tk_but (h : Ti w W p b N M D F f a c x) (hB : But b W W') : W'.cell? ⟨F, 0, none⟩ = some (.int .i64 x.k) ∧ W'.cell? ⟨F, 1, none⟩ = some (.int .i64 x.t) ∧ W'.cell? ⟨D, 0, none⟩ = some (.pointer (some ⟨p, 0, none⟩)) ∧ W'.cell? ⟨D, 1, none⟩ = some (.int .i64 f) ∧ W'.cell? ⟨D, 2, none⟩ = some (.int .u64 a) ∧ W'.cell? ⟨D, 3, none⟩ = some (.int .u64 c) := by
  have hb := h.m0.ltb
  have r1 := h.fst.but hB (by have := h.n2; omega)
  have r2 := h.r.but hB (by have := h.n1; omega)
  exact ⟨r1.c0, r1.c1, r2.c0, r2.c1, r2.c2, r2.c3⟩
theorem set2_other (w : World) (q : Nat) (u v : Value) (B : Nat) (h : B ≠ q) : ((w.setCell ⟨q, 0, none⟩ u).setCell ⟨q, 1, none⟩ v).heap[B]? = w.heap[B]? :=
  (heap_setCell_other _ _ _ _ h).trans (heap_setCell_other _ _ _ _ h)
theorem tk_put2 (h : Ti w W p b N M D F f a c x) (hB : But b W W') (u v : Value) : ((W'.setCell ⟨w.heap.size, 0, none⟩ u).setCell ⟨w.heap.size, 1, none⟩ v).cell? ⟨F, 0, none⟩ = some (.int .i64 x.k) ∧ ((W'.setCell ⟨w.heap.size, 0, none⟩ u).setCell ⟨w.heap.size, 1, none⟩ v).cell? ⟨F, 1, none⟩ = some (.int .i64 x.t) ∧ ((W'.setCell ⟨w.heap.size, 0, none⟩ u).setCell ⟨w.heap.size, 1, none⟩ v).cell? ⟨D, 0, none⟩ = some (.pointer (some ⟨p, 0, none⟩)) ∧ ((W'.setCell ⟨w.heap.size, 0, none⟩ u).setCell ⟨w.heap.size, 1, none⟩ v).cell? ⟨D, 1, none⟩ = some (.int .i64 f) ∧ ((W'.setCell ⟨w.heap.size, 0, none⟩ u).setCell ⟨w.heap.size, 1, none⟩ v).cell? ⟨D, 2, none⟩ = some (.int .u64 a) ∧ ((W'.setCell ⟨w.heap.size, 0, none⟩ u).setCell ⟨w.heap.size, 1, none⟩ v).cell? ⟨D, 3, none⟩ = some (.int .u64 c) := by
  have h1 := set2_other W' w.heap.size u v F (Nat.ne_of_gt h.n2)
  have h2 := set2_other W' w.heap.size u v D (Nat.ne_of_gt h.n1)
  obtain ⟨k0, k1, k2, k3, k4, k5⟩ := tk_but h hB
  generalize (W'.setCell ⟨w.heap.size, 0, none⟩ u).setCell ⟨w.heap.size, 1, none⟩ v = W2 at h1 h2 ⊢
  have e1 : ∀ j, W2.cell? ⟨F, j, none⟩ = W'.cell? ⟨F, j, none⟩ := fun j => World.cell?_of_block (w := W') h1
  have e2 : ∀ j, W2.cell? ⟨D, j, none⟩ = W'.cell? ⟨D, j, none⟩ := fun j => World.cell?_of_block (w := W') h2
  exact ⟨(e1 _).trans k0, (e1 _).trans k1, (e2 _).trans k2, (e2 _).trans k3, (e2 _).trans k4, (e2 _).trans k5⟩
theorem but_on {b : Nat} {w W W' : World} (h : But b w W) (k : Below w.heap.size W W') : But b w W' :=
  ⟨k.os.trans h.os, k.tape.trans h.tape, k.output.trans h.output, Nat.le_trans h.size k.size, fun i hi hn => (k.block i hi).trans (h.block i hi hn)⟩
/-- The result's block is no part of the memory. -/
theorem tk_end (h0 : Mx w p b N M) (hm : Mx W p b N M') (hB : But b w W) (u v : Value) : Mx ((W.setCell ⟨w.heap.size, 0, none⟩ u).setCell ⟨w.heap.size, 1, none⟩ v) p b N M' ∧ But b w ((W.setCell ⟨w.heap.size, 0, none⟩ u).setCell ⟨w.heap.size, 1, none⟩ v) := by
  have ho := set2_other W w.heap.size u v
  have l1 := h0.mem.lt.1
  have l2 := h0.mem.lt.2
  have hb := but_on hB (((Below.refl w.heap.size W).setCell (p := ⟨w.heap.size, 0, none⟩) (Nat.le_refl _) u).setCell (p := ⟨w.heap.size, 1, none⟩) (Nat.le_refl _) v)
  exact ⟨h0.but (hm.mem.on (ho p (by omega)) (ho b (by omega))) hm.fit hb, hb⟩
end
/-- What hand with Take's closure answers: one event. -/
theorem hand_one (p b N : Nat) (f c : Int) (M : Nat → Nat → Int) (w W : World) (D F : Nat) (hp : plE N M f = 0) (h : Ti w W p b N M D F f (bgI M f) c ev0) :
    Calls Tryd.prog 38 #[.agg #[.pointer (some ⟨p, 0, none⟩), .int .i64 f, .int .u64 (bgI M f), .int .u64 c], .int .i64 1, .func (.func 39) #[] #[.pointer (some ⟨F, 0, none⟩)]] W fun e w' =>
      (e = .returned (.int .i64 0) ∧ ofE (rwI M f 0) = 0 ∧ Ti w w' p b N M D F f (bgI M f) c (ofX (rwI M f 0))) ∨ (e = .returned (.int .i64 12) ∧ ofE (rwI M f 0) ≠ 0 ∧ Ti w w' p b N M D F f (bgI M f) c ev0) := by
  refine (hand_take p b N 1 (by omega) f c M F (fun k W => Ti w W p b N M D F f (bgI M f) c (if k = 0 then ev0 else ofX (rwI M f 0))) W h.m0.fit hp (fun k W h => h.mx) (fun k W W' h hB => h.on hB) ?_ h).mono ?_
  · intro k W2 hk ho hi
    obtain rfl : k = 0 := by omega
    refine (take1_any F _ _ W2 hi.fst).mono ?_
    rintro e w' ⟨h1, h2, h3⟩
    exact ⟨h1, hi.turn h2 h3, fun B hr => hr.but h3 (rowN_ne hr hi.fst)⟩
  · rintro e w' (⟨h1, h2, h3⟩ | ⟨h1, k, h2, h3, h4⟩)
    · exact .inl ⟨h1, h2 0 (by omega), h3⟩
    · obtain rfl : k = 0 := by omega
      exact .inr ⟨h1, h3, h4⟩
set_option maxRecDepth 100000 in
set_option maxHeartbeats 4000000 in
theorem take_any (p b N : Nat) (f : Int) (M : Nat → Nat → Int) (w : World) (hM : Mx w p b N M) : Calls Tryd.prog 13 #[.pointer (some ⟨p, 0, none⟩), .int .i64 f] w fun e w' => e = .returned (.tuple #[.agg #[.int .i64 (tkX N M f).k, .int .i64 (tkX N M f).t], .int .i64 (tkE N M f)]) ∧ Mx w' p b N (tkM N M f) ∧ But b w w' := by
  have hmf : ∀ (fn : Fn) (first cap : Array Value) (w : World), (Instr.makeFunc fn first cap).run Tryd.prog w = .ok (.func fn first cap) w := fun _ _ _ _ => rfl
  have HM := rhide hM
  have H0 := rhide (tj_new hM)
  have hF := hM.fit
  clear hM
  by_cases hp : plE N M f = 0
  case neg =>
    obtain ⟨e1, e2, e3⟩ := tk_pl hp
    rw [e1, e2, e3]
    have HP : Hid (∀ wc, Mx wc p b N M → Calls Tryd.prog 34 #[.pointer (some ⟨p, 0, none⟩), .int .i64 f] wc fun e w' => e = .returned (.tuple #[.agg #[.pointer none, .int .i64 0, .int .u64 0, .int .u64 0], .int .i64 (plE N M f)]) ∧ Below wc.heap.size wc w') := fun wc h => find_no p b N f M wc h hp
    generalize plE N M f = E at HP hp ⊢
    have hE : (E != 0) = true := by simp [hp]
    clear e1 e2 e3 hF hp
    go_enter Tryd.func13, Tryd.ntmps13
    go_wp2_with (first
      | (go_at_call 34; refine (HP.out _ H0.out.mx).mono ?_; rintro e1 w1 ⟨rfl, hb⟩; have H1 := rhide ((H0.out.on hb).on (bal (Below.refl _ _) (.cells #[.pointer none, .int .i64 0, .int .u64 0, .int .u64 0] 77))); clear hb HP H0; have x0 := H1.out.res.c0; have x1 := H1.out.res.c1; have z := H1.out.res.fz)
      | fail)
    refine bodyPost_ret (v := .tuple #[.agg #[.int .i64 0, .int .i64 0], .int .i64 E]) (by simp [results, Tryd.results13, go_sem, x0, x1]) rfl ⟨rfl, ?_⟩
    exact tk_end HM.out H1.out.mx (But.of_below b H1.out.below) _ _
  case pos =>
  obtain ⟨_, hf, ha, hn⟩ := pl_yes hF hp
  have HP : Hid (∀ wc, Mx wc p b N M → Calls Tryd.prog 34 #[.pointer (some ⟨p, 0, none⟩), .int .i64 f] wc fun e w' => e = .returned (.tuple #[.agg #[.pointer (some ⟨p, 0, none⟩), .int .i64 f, .int .u64 (bgI M f), .int .u64 (cnI M f)], .int .i64 0]) ∧ Below wc.heap.size wc w') := fun wc h => find_yes p b N f M wc h hp
  by_cases hc : cnI M f = 0
  · obtain ⟨e1, e2, e3⟩ := tk_none hp hc
    rw [e1, e2, e3]
    rw [hc] at HP
    generalize bgI M f = a at HP
    clear e1 e2 e3 hF hp hc ha hn hf
    go_enter Tryd.func13, Tryd.ntmps13
    go_wp2_with (first
      | (go_at_call 34; refine (HP.out _ H0.out.mx).mono ?_; rintro e1 w1 ⟨rfl, hb⟩; have H1 := rhide ((H0.out.on hb).on (bal (Below.refl _ _) (.cells #[.pointer (some ⟨p, 0, none⟩), .int .i64 f, .int .u64 a, .int .u64 0] 77))); clear hb HP H0; have x0 := H1.out.res.c0; have x1 := H1.out.res.c1; have z := H1.out.res.fz)
      | fail)
    refine bodyPost_ret (v := .tuple #[.agg #[.int .i64 0, .int .i64 0], .int .i64 3]) (by simp [results, Tryd.results13, go_sem, x0, x1]) rfl ⟨rfl, ?_⟩
    exact tk_end HM.out H1.out.mx (But.of_below b H1.out.below) _ _
  have h0 : (cnI M f == 0) = false := by simp [hc]
  have HH : Hid (∀ W D F, Ti w W p b N M D F f (bgI M f) (cnI M f) ev0 → Calls Tryd.prog 38 #[.agg #[.pointer (some ⟨p, 0, none⟩), .int .i64 f, .int .u64 (bgI M f), .int .u64 (cnI M f)], .int .i64 1, .func (.func 39) #[] #[.pointer (some ⟨F, 0, none⟩)]] W fun e w' =>
      (e = .returned (.int .i64 0) ∧ ofE (rwI M f 0) = 0 ∧ Ti w w' p b N M D F f (bgI M f) (cnI M f) (ofX (rwI M f 0))) ∨ (e = .returned (.int .i64 12) ∧ ofE (rwI M f 0) ≠ 0 ∧ Ti w w' p b N M D F f (bgI M f) (cnI M f) ev0)) := fun W D F h => hand_one p b N f (cnI M f) M w W D F hp h
  by_cases ho : ofE (rwI M f 0) = 0
  · obtain ⟨e1, e2, e3⟩ := tk_ok hp hc ho
    rw [e1, e2, e3]
    have HH1 : Hid (∀ W D F, Ti w W p b N M D F f (bgI M f) (cnI M f) ev0 → Calls Tryd.prog 38 #[.agg #[.pointer (some ⟨p, 0, none⟩), .int .i64 f, .int .u64 (bgI M f), .int .u64 (cnI M f)], .int .i64 1, .func (.func 39) #[] #[.pointer (some ⟨F, 0, none⟩)]] W fun e w' => e = .returned (.int .i64 0) ∧ Ti w w' p b N M D F f (bgI M f) (cnI M f) (ofX (rwI M f 0))) := fun W D F h => (HH.out W D F h).mono fun e w' q => by
      rcases q with ⟨q1, _, q3⟩ | ⟨_, q2, _⟩
      · exact ⟨q1, q3⟩
      · exact absurd ho q2
    have HPl : Hid (∀ wc, Calls Tryd.prog 40 #[.int .u64 (bgI M f), .int .i64 1] wc fun e w' => e = .returned (.int .i64 ((bgI M f + 1) % 8)) ∧ w' = wc) := fun wc => plI_any _ _ ha (by omega) wc
    have HR : Hid (∀ wc, Mx wc p b N M → Calls Tryd.prog 32 #[.agg #[.pointer (some ⟨p, 0, none⟩), .int .i64 f, .int .u64 (bgI M f), .int .u64 (cnI M f)], .int .u64 ((bgI M f + 1) % 8), .int .u64 (cnI M f - 1)] wc fun e w' => e = .returned (.int .i64 0) ∧ Mx w' p b N (stW N (stW N M f 12 ((bgI M f + 1) % 8)) f 13 (cnI M f - 1)) ∧ But b wc w') := fun wc h => reach_any p b N f (bgI M f) (cnI M f) _ _ M wc h hf (by omega) (by omega)
    generalize stW N (stW N M f 12 ((bgI M f + 1) % 8)) f 13 (cnI M f - 1) = M2 at HR ⊢
    generalize ofX (rwI M f 0) = X at HH1 ⊢
    generalize bgI M f = a at HP HH1 HPl HR ha
    generalize cnI M f = n at HP HH1 HR hn hc h0
    have d1 : IntKind.u64.wrap ((a + 1) % 8) = (a + 1) % 8 := wrapu_small (by omega) (by omega)
    have d2 : IntKind.u64.wrap (n - 1) = n - 1 := wrapu_small (by omega) (by omega)
    clear e1 e2 e3 hF hp hc ha hn hf ho HH
    go_enter Tryd.func13, Tryd.ntmps13
    go_upto_region 7 with (first
      | (go_at_call 34; refine (HP.out _ H0.out.mx).mono ?_; rintro e1 w1 ⟨rfl, hb⟩; have H1 := rhide ((H0.out.on hb).more f a n); clear hb HP H0)
      | fail)
    generalize (w1.alloc _).alloc _ = v1 at H1 ⊢
    generalize w1.heap.size + 1 = F at H1 ⊢
    generalize w1.heap.size = D at H1 ⊢
    have x0 := H1.out.r.c0
    have x1 := H1.out.r.c1
    have x2 := H1.out.r.c2
    have x3 := H1.out.r.c3
    go_upto_region 10 with (first
      | (go_at_call 38; refine (HH1.out _ _ _ H1.out).mono ?_; rintro e3 w3 ⟨rfl, hw⟩; have H3 := rhide hw; clear hw HH1 H1 x0 x1 x2 x3)
      | fail)
    have hk := tk_but H3.out (But.refl b w3)
    obtain ⟨y0, y1, x0, x1, x2, x3⟩ := hk
    go_region_held3 (fun w' => w'.cell? ⟨F, 0, none⟩ = some (.int .i64 X.k) ∧ w'.cell? ⟨F, 1, none⟩ = some (.int .i64 X.t) ∧ w'.cell? ⟨D, 0, none⟩ = some (.pointer (some ⟨p, 0, none⟩)) ∧ w'.cell? ⟨D, 1, none⟩ = some (.int .i64 f) ∧ w'.cell? ⟨D, 2, none⟩ = some (.int .u64 a) ∧ w'.cell? ⟨D, 3, none⟩ = some (.int .u64 n)) (first | with_reducible exact tk_put2 H3.out HB9.out _ _ | with_reducible exact tk_but H3.out HB9.out | with_reducible exact tk_but H3.out (But.of_below b (Below.refl _ _).drew) | with_reducible exact tk_but H3.out (But.refl b _))
    (first
      | (go_at_call 40; refine (HPl.out _).mono ?_; rintro e4 w4 ⟨rfl, hw⟩; subst w4)
      | (go_at_call 32; refine (HR.out _ (by first | exact H3.out.mx | exact (H3.out.on (Below.refl _ _).drew).mx)).mono ?_; rintro e9 w9 ⟨rfl, hm9, hb9⟩; have HB9 : Hid (But b w3 w9) := (by first | exact hb9 | exact (But.of_below b (Below.refl _ _).drew).trans hb9); have HT9 := rhide hm9; clear hm9 hb9; have HX : Hid (RowE w9 w.heap.size ev0) := H3.out.res.but HB9.out (Nat.ne_of_gt H3.out.m0.ltb); have r0 := HX.out.c0; have r1 := HX.out.c1; have z0 := HX.out.fz)
      | fail)
    go_wp2
    refine bodyPost_ret (v := .tuple #[.agg #[.int .i64 X.k, .int .i64 X.t], .int .i64 0]) (by simp [results, Tryd.results13, go_sem, r0, r1]) rfl ⟨rfl, ?_⟩
    exact tk_end HM.out HT9.out ((But.of_below b H3.out.below).trans HB9.out) _ _
  · obtain ⟨e1, e2, e3⟩ := tk_form hp hc ho
    rw [e1, e2, e3]
    have HH1 : Hid (∀ W D F, Ti w W p b N M D F f (bgI M f) (cnI M f) ev0 → Calls Tryd.prog 38 #[.agg #[.pointer (some ⟨p, 0, none⟩), .int .i64 f, .int .u64 (bgI M f), .int .u64 (cnI M f)], .int .i64 1, .func (.func 39) #[] #[.pointer (some ⟨F, 0, none⟩)]] W fun e w' => e = .returned (.int .i64 12) ∧ Ti w w' p b N M D F f (bgI M f) (cnI M f) ev0) := fun W D F h => (HH.out W D F h).mono fun e w' q => by
      rcases q with ⟨_, q2, _⟩ | ⟨q1, _, q3⟩
      · exact absurd q2 ho
      · exact ⟨q1, q3⟩
    generalize bgI M f = a at HP HH1
    generalize cnI M f = n at HP HH1 h0
    clear e1 e2 e3 hF hp hc ha hn hf ho HH
    go_enter Tryd.func13, Tryd.ntmps13
    go_upto_region 7 with (first
      | (go_at_call 34; refine (HP.out _ H0.out.mx).mono ?_; rintro e1 w1 ⟨rfl, hb⟩; have H1 := rhide ((H0.out.on hb).more f a n); clear hb HP H0)
      | fail)
    generalize (w1.alloc _).alloc _ = v1 at H1 ⊢
    generalize w1.heap.size + 1 = F at H1 ⊢
    generalize w1.heap.size = D at H1 ⊢
    have x0 := H1.out.r.c0
    have x1 := H1.out.r.c1
    have x2 := H1.out.r.c2
    have x3 := H1.out.r.c3
    go_wp2_with (first
      | (go_at_call 38; refine (HH1.out _ _ _ H1.out).mono ?_; rintro e3 w3 ⟨rfl, hw⟩; have H3 := rhide hw; clear hw HH1 H1 x0 x1 x2 x3; have r0 := H3.out.res.c0; have r1 := H3.out.res.c1; have z0 := H3.out.res.fz)
      | fail)
    refine bodyPost_ret (v := .tuple #[.agg #[.int .i64 0, .int .i64 0], .int .i64 12]) (by simp [results, Tryd.results13, go_sem, r0, r1]) rfl ⟨rfl, ?_⟩
    exact tk_end HM.out H3.out.mx (But.of_below b H3.out.below) _ _
end Go.Proofs.YtdplailaolfpkaaDoor.Pring
