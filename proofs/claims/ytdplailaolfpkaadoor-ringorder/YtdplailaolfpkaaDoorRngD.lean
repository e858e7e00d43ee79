/- The closure that All hands to hand; hand with it; what All of package ring answers (written by mk_c.py). -/
import Derived.Test.YtdplailaolfpkaaDoorRngC
namespace Go.Proofs.YtdplailaolfpkaaDoor.Pring
open Go.Proofs.YtdplailaolfpkaaDoor.Pbase Go.Proofs.YtdplailaolfpkaaDoor.Pfield Go.Proofs.YtdplailaolfpkaaDoor.Play Go.Proofs.YtdplailaolfpkaaDoor.Pmem
open Go.RowKit M
set_option linter.unusedVariables false

/-! ### the closure of All -/
/-- A list of events in a variable. -/
structure BoxS (W : World) (F : Nat) (v : Value) : Prop where
  row : W.heap[F]? = some (.cells #[v] 25 (0, 0))
section
variable {W W' : World} {F : Nat} {v : Value}
theorem BoxS.lt (h : BoxS W F v) : F < W.heap.size := (Array.getElem?_eq_some_iff.1 h.row).1
theorem BoxS.c0 (h : BoxS W F v) : W.cell? ⟨F, 0, none⟩ = some v := (cell_of_row _ _ _ _ _ _ h.row).trans rfl
theorem BoxS.fz (h : BoxS W F v) : W.frozen? ⟨F, 0, none⟩ = false := frozen_of_row _ _ _ _ _ h.row
theorem BoxS.on (h : BoxS W F v) (hB : Below W.heap.size W W') : BoxS W' F v := ⟨(hB.block F h.lt).trans h.row⟩
theorem BoxS.set (h : BoxS W F v) (u : Value) : BoxS (W.setCell ⟨F, 0, none⟩ u) F u := by
  refine ⟨?_⟩
  rw [heap_setCell_same _ _ _ _ _ _ h.row]
  simp
theorem boxS_new (W : World) (v : Value) : BoxS (W.alloc (.cells #[v] 25)) W.heap.size v := ⟨heap_alloc_new W _⟩
theorem rowN_neS {B p : Nat} {f a c : Int} (h : RowN W B p f a c) (k : BoxS W F v) : B ≠ F := by
  rintro rfl
  have e := h.row
  rw [k.row] at e
  simp at e
end
/-- What the closure leaves. -/
theorem all1_end {W v0 w1 : World} {base F k : Nat} {v v' : Value} {xs ys : List Value} {o : Obj} (hb : Below W.heap.size W v0) (hF : BoxS W F v) (hbF : base ≤ F) (hbW : base ≤ W.heap.size) (hr : v0.ownsRow base 32 2 v k xs) (hown : w1.ownsRow base 32 2 v' (k + 1) ys) (hg : (v0.alloc o).grownBy w1 v.ownBlock) :
    BoxS w1 F v ∧ BoxS (w1.setCell ⟨F, 0, none⟩ v') F v' ∧ (w1.setCell ⟨F, 0, none⟩ v').ownsRow base 32 2 v' (k + 1) ys ∧ Below base W (w1.setCell ⟨F, 0, none⟩ v') ∧ ∀ B p f a c, RowN W B p f a c → RowN (w1.setCell ⟨F, 0, none⟩ v') B p f a c := by
  have hv := hF.on hb
  have hva : BoxS (v0.alloc o) F v := hv.on (bal (Below.refl _ _) _)
  have h1 : BoxS w1 F v := ⟨(hg.block F hva.lt (fun e => own_ne hr hv.row (by decide) e.symm)).trans hva.row⟩
  have hB : Below base W w1 := ((hb.mono hbW).alloc (Nat.le_trans hbW hb.size) o).grown hg (by have := hb.size; simp; omega) (own_ge hr)
  refine ⟨h1, h1.set v', own_off hown (fun g e => heap_setCell_other _ _ _ _ (by rintro rfl; exact own_ne hown h1.row (by decide) e)), hB.setCell (p := ⟨F, 0, none⟩) hbF v', fun B p f a c hn => ?_⟩
  have hn0 := (hn.on hb)
  have hna := hn0.on (bal (Below.refl _ _) o)
  refine ⟨?_⟩
  rw [heap_setCell_other _ _ _ _ (rowN_neS hn hF)]
  exact (hg.block B hna.lt (fun e => own_ne hr hn0.row (by decide) e.symm)).trans hna.row
set_option maxRecDepth 100000 in
set_option maxHeartbeats 1000000 in
theorem all1_any (F base k : Nat) (y : Ev) (v : Value) (xs : List Value) (W : World) (hk : k ≤ 8) (hF : BoxS W F v) (hr : W.ownsRow base 32 2 v k xs) (hbF : base ≤ F) (hbW : base ≤ W.heap.size) :
    Calls Tryd.prog 48 #[.agg #[.int .i64 y.k, .int .i64 y.t], .pointer (some ⟨F, 0, none⟩)] W fun e w' => e = .returned (.tuple #[]) ∧ (∃ v', BoxS w' F v' ∧ w'.ownsRow base 32 2 v' (k + 1) (xs ++ twoL y)) ∧ Below base W w' ∧ ∀ B p f a c, RowN W B p f a c → RowN w' B p f a c := by
  obtain ⟨it, hi, hz0, hz1, hz2⟩ := info_parts infoEv
  obtain ⟨av, cv, rfl⟩ := ownsRow_slice hr
  have HQ : Hid (Below W.heap.size W (W.alloc (.cells #[.int .i64 y.k, .int .i64 y.t] 32))) := bal (Below.refl _ _) _
  have HB : Hid (RowE (W.alloc (.cells #[.int .i64 y.k, .int .i64 y.t] 32)) W.heap.size y) := rowE_new W y
  have HF := rhide hF
  have HR : Hid ((W.alloc (.cells #[.int .i64 y.k, .int .i64 y.t] 32)).ownsRow base 32 2 (.slice av k cv) k xs) := hr.alloc _
  have HL := rhide (And.intro hbF hbW)
  clear hF hr
  go_enter Tryd.func48, Tryd.ntmps48
  go_upto_region 1 with fail
  generalize W.alloc _ = v0 at HQ HB HR ⊢
  have hsz : base ≤ v0.heap.size := Nat.le_trans HL.out.2 HQ.out.size
  have y0 := HB.out.c0
  have y1 := HB.out.c1
  have x0 := (HF.out.on HQ.out).c0
  clear hbF hbW HB
  generalize W.heap.size = D at y0 y1 ⊢
  go_wp2_with (first
    | (at_builtin; refine wpList_append_own _ rfl _ _ 25 rfl base 32 it (.agg #[.int .i64 0, .int .i64 0]) 2 16 Tryd.underlying25 hi hz0 hz1 hz2 rfl (by decide) _ _ _ rfl (HR.out.alloc _) ⟨v0.heap.size, 0, none⟩ 1 1 (twoL y) rfl rfl (two_new v0 _ _ _) (twoL_one y) (by unfold maxLen; omega) (by omega) (by simp; omega) ?_; intro v' w4 hown hgrow _; obtain ⟨g', cap', rfl⟩ := own_succ hown; have H4 := rhide (all1_end HQ.out HF.out HL.out.1 HL.out.2 HR.out hown hgrow); clear hown hgrow; have m1 := H4.out.1.c0; have m2 := H4.out.1.fz)
    | fail)
  go_end0
  exact ⟨rfl, ⟨_, H4.out.2.1, H4.out.2.2.1⟩, H4.out.2.2.2.1, H4.out.2.2.2.2⟩
/-! ### hand -/
set_option maxRecDepth 100000 in
set_option maxHeartbeats 4000000 in
theorem hand_all (p b N n : Nat) (hn : n ≤ 8) (f c : Int) (M : Nat → Nat → Int) (F : Nat) (I : Nat → World → Prop) (w : World) (hF : Fit M) (hp : plE N M f = 0)
    (hM : ∀ k W, I k W → Mx W p b N M) (hO : ∀ k W W', I k W → Below W.heap.size W W' → I k W')
    (hY : ∀ (k : Nat) W, k < n → ofE (rwI M f (k : Int)) = 0 → I k W → Calls Tryd.prog 48 #[.agg #[.int .i64 (ofX (rwI M f (k : Int))).k, .int .i64 (ofX (rwI M f (k : Int))).t], .pointer (some ⟨F, 0, none⟩)] W fun e w' => e = .returned (.tuple #[]) ∧ I (k + 1) w' ∧ ∀ B, RowN W B p f (bgI M f) c → RowN w' B p f (bgI M f) c)
    (h0 : I 0 w) :
    Calls Tryd.prog 38 #[.agg #[.pointer (some ⟨p, 0, none⟩), .int .i64 f, .int .u64 (bgI M f), .int .u64 c], .int .i64 (n : Int), .func (.func 48) #[] #[.pointer (some ⟨F, 0, none⟩)]] w fun e w' =>
      (e = .returned (.int .i64 0) ∧ (∀ j : Nat, j < n → ofE (rwI M f (j : Int)) = 0) ∧ I n w') ∨ (e = .returned (.int .i64 12) ∧ ∃ k : Nat, k < n ∧ ofE (rwI M f (k : Int)) ≠ 0 ∧ I k w') := by
  obtain ⟨_, hf, ha, _⟩ := pl_yes hF hp
  have HI : Hid ((∀ k W, I k W → Mx W p b N M) ∧ ∀ k W W', I k W → Below W.heap.size W W' → I k W') := ⟨hM, hO⟩
  have HY := rhide hY
  have HL : Hid (∀ (k : Nat) wc, Mx wc p b N M → Calls Tryd.prog 62 #[.agg #[.pointer (some ⟨p, 0, none⟩), .int .i64 f, .int .u64 (bgI M f), .int .u64 c], .int .i64 (2 + (bgI M f + (k : Int)) % 8)] wc fun e w' => e = .returned (.tuple #[.int .u64 (rwI M f (k : Int)), .int .i64 0]) ∧ Below wc.heap.size wc w') := fun k wc h => by
    have := ld_any p b N f (bgI M f) c (2 + (bgI M f + (k : Int)) % 8) M wc h hf (by omega)
    rwa [show 12 + (2 + (bgI M f + (k : Int)) % 8) = 14 + (bgI M f + (k : Int)) % 8 by omega, rw_at hF hp k] at this
  have HP : Hid (∀ k : Nat, k < n → ∀ wc, Calls Tryd.prog 40 #[.int .u64 (bgI M f), .int .i64 (k : Int)] wc fun e w' => e = .returned (.int .i64 ((bgI M f + (k : Int)) % 8)) ∧ w' = wc) := fun k hk wc => plI_any _ _ ha (by omega) wc
  have HV : Hid (∀ k : Nat, 0 ≤ rwI M f (k : Int) ∧ rwI M f (k : Int) ≤ 18446744073709551615) := fun k => hF _ _
  have H0 : Hid (I 0 (w.alloc (.cells #[.pointer (some ⟨p, 0, none⟩), .int .i64 f, .int .u64 (bgI M f), .int .u64 c] 77)) ∧ RowN (w.alloc (.cells #[.pointer (some ⟨p, 0, none⟩), .int .i64 f, .int .u64 (bgI M f), .int .u64 c] 77)) w.heap.size p f (bgI M f) c) := ⟨hO _ _ _ h0 (bal (Below.refl _ _) _), rowN_new w p f (bgI M f) c⟩
  generalize bgI M f = a at HL HP HY H0 ha ⊢
  clear hM hO hY h0 hF hp hf
  go_enter Tryd.func38, Tryd.ntmps38
  go_upto_region 1 with fail
  generalize w.alloc _ = v0 at H0 ⊢
  generalize w.heap.size = D at H0 ⊢
  go_wp2
  go_loopw [12] (fun i wr => ∃ k : Nat, k ≤ n ∧ i = .int .i64 k ∧ (∀ j : Nat, j < k → ofE (rwI M f (j : Int)) = 0) ∧ I k wr ∧ RowN wr D p f a c) (fun i _ => n - (intOf i).toNat)
  case atStart => exact ⟨0, by omega, rfl, fun j hj => by omega, H0.out⟩
  case round =>
    obtain ⟨k, hk, rfl, hok, hI⟩ := hrel
    have H1 := rhide hI
    have HK : Hid (∀ j : Nat, j < k → ofE (rwI M f (j : Int)) = 0) := hok
    clear hI hok H0
    by_cases hlt : k < n
    · have hki : (k : Int) < (n : Int) := by omega
      have HLk := rhide (HL.out k)
      have HPk := rhide (HP.out k hlt)
      have HOf : Hid (∀ wc, Mx wc p b N M → Calls Tryd.prog 7 #[.int .u64 (rwI M f (k : Int))] wc fun e w' => e = .returned (.tuple #[.agg #[.int .i64 (ofX (rwI M f (k : Int))).k, .int .i64 (ofX (rwI M f (k : Int))).t], .int .i64 (ofE (rwI M f (k : Int)))]) ∧ Below wc.heap.size wc w') := fun wc h => of_any _ (HV.out k) wc h.wd
      have HYk := rhide (HY.out k)
      have d1 : IntKind.i64.wrap (2 + (a + (k : Int)) % 8) = 2 + (a + (k : Int)) % 8 := wrapi_small (by omega) (by omega)
      have d1' : wrap64 (2 + (a + (k : Int)) % 8) = 2 + (a + (k : Int)) % 8 := by unfold wrap64; omega
      obtain ⟨E, hE⟩ : ∃ E, E = ofE (rwI M f (k : Int)) := ⟨_, rfl⟩
      rw [← hE] at HOf HYk
      have HE : Hid (E = ofE (rwI M f (k : Int))) := hE
      clear hE
      generalize ofX (rwI M f (k : Int)) = X at HOf HYk
      generalize hrw : rwI M f (k : Int) = V at HLk HOf
      have HRW := rhide hrw
      clear hrw
      generalize (a + (k : Int)) % 8 = r at HLk HPk d1 d1'
      have x0 := H1.out.2.c0
      have x1 := H1.out.2.c1
      have x2 := H1.out.2.c2
      have x3 := H1.out.2.c3
      go_upto_region 4 with fail
      go_region_held3 (fun w' => w'.cell? ⟨D, 0, none⟩ = some (.pointer (some ⟨p, 0, none⟩)) ∧ w'.cell? ⟨D, 1, none⟩ = some (.int .i64 f) ∧ w'.cell? ⟨D, 2, none⟩ = some (.int .u64 a) ∧ w'.cell? ⟨D, 3, none⟩ = some (.int .u64 c)) (first | (refine ⟨?_, ?_, ?_, ?_⟩ <;> with_reducible assumption) | go_keep)
      (first
        | (go_at_call 40; refine (HPk.out _).mono ?_; rintro e1 w1 ⟨rfl, hw⟩; subst w1)
        | (go_at_call 62; refine (HLk.out _ (by first | exact HI.out.1 _ _ H1.out.1 | exact HI.out.1 _ _ (HI.out.2 _ _ _ H1.out.1 (Below.refl _ _).drew))).mono ?_; rintro e2 w2 ⟨rfl, hb⟩; have hB : Below wr.heap.size wr w2 := (by first | exact hb | exact (Below.refl _ _).drew.trans hb); have H2 : Hid (I k w2 ∧ RowN w2 D p f a c) := ⟨HI.out.2 _ _ _ H1.out.1 hB, H1.out.2.on hB⟩; clear hb hB HLk H1 x0 x1 x2 x3; have x0 := H2.out.2.c0; have x1 := H2.out.2.c1; have x2 := H2.out.2.c2; have x3 := H2.out.2.c3)
        | fail)
      go_upto_region 8 with (first
        | (go_at_call 7; refine (HOf.out _ (by first | exact HI.out.1 _ _ H2.out.1 | exact HI.out.1 _ _ (HI.out.2 _ _ _ H2.out.1 (Below.refl _ _).drew))).mono ?_; rintro e3 w3 ⟨rfl, hb⟩; have hB : Below w2.heap.size w2 w3 := (by first | exact hb | exact (Below.refl _ _).drew.trans hb); have H3 : Hid (I k w3 ∧ RowN w3 D p f a c) := ⟨HI.out.2 _ _ _ H2.out.1 hB, H2.out.2.on hB⟩; clear hb hB HOf H2 x0 x1 x2 x3)
        | fail)
      have hx := rowE_new w3 X
      have H4 : I k (w3.alloc (.cells #[.int .i64 X.k, .int .i64 X.t] 32)) ∧ RowN (w3.alloc (.cells #[.int .i64 X.k, .int .i64 X.t] 32)) D p f a c := ⟨HI.out.2 _ _ _ H3.out.1 (bal (Below.refl _ _) _), H3.out.2.on (bal (Below.refl _ _) _)⟩
      generalize w3.alloc _ = v3 at H4 hx ⊢
      generalize w3.heap.size = A at hx ⊢
      have H5 := rhide H4
      clear H3 H4
      by_cases h0 : E = 0
      · subst h0
        have y0 := hx.c0
        have y1 := hx.c1
        clear hx
        go_wp2_with (first
          | (go_at_call 48; refine (HYk.out _ hlt rfl H5.out.1).mono ?_; rintro e6 w6 ⟨rfl, hi, hr⟩; have H6 : Hid (I (k + 1) w6 ∧ RowN w6 D p f a c) := ⟨hi, hr _ H5.out.2⟩; clear hi hr HYk H5)
          | fail)
        go_roundw
        case rel =>
          refine ⟨k + 1, by omega, by go_num, fun j hj => ?_, H6.out⟩
          by_cases e : j = k
          · subst e; exact HE.out.symm
          · exact HK.out j (by omega)
        case measure => simp [intOf]; omega
      · have hne : (E != 0) = true := by simp [h0]
        have hb12 : ofE (rwI M f (k : Int)) ≠ 0 := by rw [← HE.out]; exact h0
        have h12 : E = 12 := by rw [HE.out]; exact (of_no hb12).1
        subst h12
        have HQ := rhide hb12
        clear hx h0 hb12 HE HYk
        go_wp2
        go_ret
        exact .inr ⟨rfl, k, hlt, HQ.out, H5.out.1⟩
    · obtain rfl : k = n := by omega
      go_wp2
      go_ret
      exact .inl ⟨rfl, HK.out, H1.out.1⟩
/-! ### All -/
/-- A ring in a block, the list that grows and a memory. -/
structure Ai (w W : World) (p b N : Nat) (M : Nat → Nat → Int) (D F : Nat) (f a c : Int) (k : Nat) : Prop where
  m0 : Mx w p b N M
  r : RowN W D p f a c
  lst : ∃ v, BoxS W F v ∧ W.ownsRow w.heap.size 32 2 v k (cellsL (allK M f k))
  below : Below w.heap.size w W
  n2 : w.heap.size ≤ F
section
variable {w W W' : World} {p b N : Nat} {M : Nat → Nat → Int} {D F : Nat} {f a c : Int} {k : Nat}
theorem Ai.mx (h : Ai w W p b N M D F f a c k) : Mx W p b N M := h.m0.on h.below
theorem Ai.on (h : Ai w W p b N M D F f a c k) (hB : Below W.heap.size W W') : Ai w W' p b N M D F f a c k := by
  obtain ⟨v, h1, h2⟩ := h.lst
  exact ⟨h.m0, h.r.on hB, ⟨v, h1.on hB, own_on h2 hB⟩, h.below.trans (hB.mono h.below.size), h.n2⟩
theorem ai_new (h : Mx w p b N M) (hB : Below w.heap.size w W) (f a c : Int) : Ai w ((W.alloc (.cells #[.pointer (some ⟨p, 0, none⟩), .int .i64 f, .int .u64 a, .int .u64 c] 77)).alloc (.cells #[.slice none 0 0] 25)) p b N M W.heap.size (W.heap.size + 1) f a c 0 := by
  have b1 := bal (Below.refl W.heap.size W) (.cells #[.pointer (some ⟨p, 0, none⟩), .int .i64 f, .int .u64 a, .int .u64 c] 77)
  have b2 := bal (Below.refl (W.alloc (.cells #[.pointer (some ⟨p, 0, none⟩), .int .i64 f, .int .u64 a, .int .u64 c] 77)).heap.size (W.alloc (.cells #[.pointer (some ⟨p, 0, none⟩), .int .i64 f, .int .u64 a, .int .u64 c] 77))) (.cells #[.slice none 0 0] 25)
  have r2 := boxS_new (W.alloc (.cells #[.pointer (some ⟨p, 0, none⟩), .int .i64 f, .int .u64 a, .int .u64 c] 77)) (.slice none 0 0)
  rw [World.size_alloc] at r2
  have hs := hB.size
  exact ⟨h, (rowN_new W p f a c).on b2, ⟨_, r2, World.ownsRow_nil _ _ _ _⟩, bal (bal hB _) _, by omega⟩
end
theorem hand_each (p b N n : Nat) (hn : n ≤ 8) (f c : Int) (M : Nat → Nat → Int) (w W : World) (D F : Nat) (hp : plE N M f = 0) (h : Ai w W p b N M D F f (bgI M f) c 0) :
    Calls Tryd.prog 38 #[.agg #[.pointer (some ⟨p, 0, none⟩), .int .i64 f, .int .u64 (bgI M f), .int .u64 c], .int .i64 (n : Int), .func (.func 48) #[] #[.pointer (some ⟨F, 0, none⟩)]] W fun e w' =>
      (e = .returned (.int .i64 0) ∧ (∀ j : Nat, j < n → ofE (rwI M f (j : Int)) = 0) ∧ Ai w w' p b N M D F f (bgI M f) c n) ∨ (e = .returned (.int .i64 12) ∧ ∃ k : Nat, k < n ∧ ofE (rwI M f (k : Int)) ≠ 0 ∧ Ai w w' p b N M D F f (bgI M f) c k) := by
  refine hand_all p b N n hn f c M F (fun k W => Ai w W p b N M D F f (bgI M f) c k) W h.m0.fit hp (fun k W h => h.mx) (fun k W W' h hB => h.on hB) ?_ h
  intro k W2 hk ho hi
  obtain ⟨v, h1, h2⟩ := hi.lst
  refine (all1_any F w.heap.size k _ v _ W2 (by omega) h1 h2 hi.n2 hi.below.size).mono ?_
  rintro e w' ⟨q1, ⟨v', q2, q3⟩, q4, q5⟩
  refine ⟨q1, ⟨hi.m0, q5 _ _ _ _ _ hi.r, ⟨v', q2, ?_⟩, hi.below.trans q4, hi.n2⟩, fun B hr => q5 _ _ _ _ _ hr⟩
  rw [allK_succ, cellsL_snoc]
  exact q3
set_option maxRecDepth 100000 in
set_option maxHeartbeats 2000000 in
theorem all_any (p b N : Nat) (f : Int) (M : Nat → Nat → Int) (w : World) (hM : Mx w p b N M) : Calls Tryd.prog 17 #[.pointer (some ⟨p, 0, none⟩), .int .i64 f] w fun e w' => ∃ v, e = .returned (.tuple #[v, .int .i64 (alE N M f)]) ∧ Evs w' w.heap.size v (alL N M f) ∧ Below w.heap.size w w' := by
  have hmf : ∀ (fn : Fn) (first cap : Array Value) (w : World), (Instr.makeFunc fn first cap).run Tryd.prog w = .ok (.func fn first cap) w := fun _ _ _ _ => rfl
  have HM := rhide hM
  have hF := hM.fit
  by_cases hp : plE N M f = 0
  case neg =>
    obtain ⟨e1, e2⟩ := al_err hp
    rw [e1, e2]
    have HP : Hid (Calls Tryd.prog 34 #[.pointer (some ⟨p, 0, none⟩), .int .i64 f] w fun e w' => e = .returned (.tuple #[.agg #[.pointer none, .int .i64 0, .int .u64 0, .int .u64 0], .int .i64 (plE N M f)]) ∧ Below w.heap.size w w') := find_no p b N f M w hM hp
    generalize plE N M f = E at HP hp ⊢
    have hE : (E != 0) = true := by simp [hp]
    clear e1 e2 hF hp hM
    go_enter Tryd.func17, Tryd.ntmps17
    go_wp2_with (first
      | (go_at_call 34; refine HP.out.mono ?_; rintro e1 w1 ⟨rfl, hb⟩; have H1 := rhide (bal hb (.cells #[.pointer none, .int .i64 0, .int .u64 0, .int .u64 0] 77)); clear hb HP)
      | fail)
    go_ret2
    exact ⟨_, rfl, evs_nil _ _, H1.out⟩
  case pos =>
  obtain ⟨_, hf, ha, hn⟩ := pl_yes hF hp
  have HP : Hid (Calls Tryd.prog 34 #[.pointer (some ⟨p, 0, none⟩), .int .i64 f] w fun e w' => e = .returned (.tuple #[.agg #[.pointer (some ⟨p, 0, none⟩), .int .i64 f, .int .u64 (bgI M f), .int .u64 (cnI M f)], .int .i64 0]) ∧ Below w.heap.size w w') := find_yes p b N f M w hM hp
  have HAy : Hid ((∀ j : Nat, j < (cnI M f).toNat → ofE (rwI M f (j : Int)) = 0) → alE N M f = 0 ∧ alL N M f = allK M f (cnI M f).toNat) := al_yes hp
  have HAn : Hid (∀ x : Nat, x < (cnI M f).toNat → ofE (rwI M f (x : Int)) ≠ 0 → alE N M f = 12 ∧ alL N M f = []) := fun x => al_no hp
  obtain ⟨n, en⟩ : ∃ n : Nat, cnI M f = (n : Int) := ⟨(cnI M f).toNat, by omega⟩
  rw [en, Int.toNat_natCast] at HAy HAn
  rw [en] at HP hn
  have HH : Hid (∀ W D F, Ai w W p b N M D F f (bgI M f) (n : Int) 0 → Calls Tryd.prog 38 #[.agg #[.pointer (some ⟨p, 0, none⟩), .int .i64 f, .int .u64 (bgI M f), .int .u64 (n : Int)], .int .i64 (n : Int), .func (.func 48) #[] #[.pointer (some ⟨F, 0, none⟩)]] W fun e w' => ∃ E, e = .returned (.int .i64 E) ∧ ((E = 0 ∧ alE N M f = 0 ∧ alL N M f = allK M f n ∧ Ai w w' p b N M D F f (bgI M f) (n : Int) n) ∨ (E = 12 ∧ alE N M f = 12 ∧ alL N M f = [] ∧ ∃ k, Ai w w' p b N M D F f (bgI M f) (n : Int) k))) := fun W D F h => (hand_each p b N n (by omega) f (n : Int) M w W D F hp h).mono fun e w' q => by
    rcases q with ⟨q1, q2, q3⟩ | ⟨q1, k, q2, q3, q4⟩
    · obtain ⟨e1, e2⟩ := HAy.out q2
      exact ⟨0, q1, .inl ⟨rfl, e1, e2, q3⟩⟩
    · obtain ⟨e1, e2⟩ := HAn.out k q2 q3
      exact ⟨12, q1, .inr ⟨rfl, e1, e2, k, q4⟩⟩
  have d0 : IntKind.i64.wrap (n : Int) = (n : Int) := wrapi_small (by omega) (by omega)
  generalize bgI M f = a at HP HH
  clear hF hp ha hn hf en hM HAy HAn
  go_enter Tryd.func17, Tryd.ntmps17
  go_upto_region 5 with (first
    | (go_at_call 34; refine HP.out.mono ?_; rintro e1 w1 ⟨rfl, hb⟩; have H1 := rhide (ai_new HM.out hb f a (n : Int)); clear hb HP)
    | fail)
  generalize (w1.alloc _).alloc _ = v1 at H1 ⊢
  generalize w1.heap.size + 1 = F at H1 ⊢
  generalize w1.heap.size = D at H1 ⊢
  have x0 := H1.out.r.c0
  have x1 := H1.out.r.c1
  have x2 := H1.out.r.c2
  have x3 := H1.out.r.c3
  go_upto_region 6 with (first
    | (go_at_call 38; refine (HH.out _ _ _ H1.out).mono ?_; rintro e3 w3 ⟨E, rfl, hw⟩; have H3 := rhide hw; clear hw HH H1 x0 x1 x2 x3)
    | fail)
  rcases H3.out with ⟨rfl, e1, e2, h4⟩ | ⟨rfl, e1, e2, k, h4⟩
  · obtain ⟨v, hv, hr⟩ := h4.lst
    have x0 := hv.c0
    have HE := rhide (And.intro e1 e2)
    have HR := rhide hr
    have HB := rhide h4.below
    clear H3 e1 e2 h4 hv hr
    go_wp2
    go_ret2
    refine ⟨_, by rw [HE.out.1]; rfl, ?_, HB.out⟩
    rw [HE.out.2]
    exact evs_of (by rw [allK_len]; exact HR.out)
  · have HE := rhide (And.intro e1 e2)
    have HB := rhide h4.below
    clear H3 e1 e2 h4
    go_wp2
    go_ret2
    exact ⟨_, by rw [HE.out.1]; rfl, by rw [HE.out.2]; exact evs_nil _ _, HB.out⟩
end Go.Proofs.YtdplailaolfpkaaDoor.Pring
