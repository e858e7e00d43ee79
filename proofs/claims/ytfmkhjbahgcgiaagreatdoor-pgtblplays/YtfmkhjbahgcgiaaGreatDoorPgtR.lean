/- The document's tables of mappings: Make, Table, entry, set, leaf. -/
import Derived.Test.YtfmkhjbahgcgiaaGreatDoorPgtG
import Derived.Test.YtfmkhjbahgcgiaaGreatDoorBunHead
import Derived.Test.YtfmkhjbahgcgiaaGreatDoorBunPte
import Derived.BigQuiet
import Derived.BigRegion
import Derived.Deep.RegionHeld3
import Derived.Deep.CutBlock
namespace Go.Proofs.YtfmkhjbahgcgiaaGreatDoor.Ppgtbl
open Go.Proofs.YtfmkhjbahgcgiaaGreatDoor.Pbase Go.Proofs.YtfmkhjbahgcgiaaGreatDoor.Pmem
open Go.RowKit
set_option linter.unusedVariables false

theorem rhide {p : Prop} (h : p) : Hid p := h
/-! ### the document's memory -/
structure Rx (w : World) (base q N : Nat) (M : Nat → Nat → Int) : Prop where
  ref : RefIs w base q N M
  fit : Fit M
  n1 : 1 ≤ N
  n64 : N ≤ 64
theorem Rx.grown {w w' : World} {base q N : Nat} {M : Nat → Nat → Int} (h : Rx w base q N M) (hB : Below w.heap.size w w') : Rx w' base q N M := ⟨h.ref.grown hB, h.fit, h.n1, h.n64⟩
theorem Rx.turn {w w' : World} {base q N : Nat} {M M' : Nat → Nat → Int} (h : Rx w base q N M) (hR : RefIs w' base q N M') (hF : Fit M') : Rx w' base q N M' := ⟨hR, hF, h.n1, h.n64⟩
theorem rx_le {w : World} {base q N : Nat} {M : Nat → Nat → Int} (h : Rx w base q N M) : base ≤ w.heap.size := Nat.le_trans h.ref.ge (Nat.le_of_lt h.ref.lt)
/-- Blocks that begin with anything but a word stay. -/
def Keep (w w' : World) : Prop := w.heap.size ≤ w'.heap.size ∧ ∀ (B : Nat) (v : Value), w.cell? ⟨B, 0, none⟩ = some v → (∀ z, v ≠ .int .u64 z) → w'.heap[B]? = w.heap[B]?
theorem Keep.refl (w : World) : Keep w w := ⟨Nat.le_refl _, fun _ _ _ _ => rfl⟩
theorem Keep.trans {a b c : World} (h : Keep a b) (k : Keep b c) : Keep a c := ⟨Nat.le_trans h.1 k.1, fun B z hB hz => (k.2 B z ((World.cell?_of_block (w := a) (h.2 B z hB hz)).trans hB) hz).trans (h.2 B z hB hz)⟩
theorem Keep.of_below {w w' : World} (h : Below w.heap.size w w') : Keep w w' := ⟨h.size, fun B z hB _ => h.block B (World.block_lt_of_cell? w _ hB)⟩
theorem Keep.cell {w w' : World} (h : Keep w w') {B : Nat} {v : Value} (hB : w.cell? ⟨B, 0, none⟩ = some v) (hz : ∀ z, v ≠ .int .u64 z) (j : Nat) : w'.cell? ⟨B, j, none⟩ = w.cell? ⟨B, j, none⟩ := World.cell?_of_block (w := w) (h.2 B v hB hz)
theorem Keep.box {w w' : World} (h : Keep w w') {B : Nat} {o : Bool} {f r t : Int} (x : Ppte.BoxP w B o f r t) : Ppte.BoxP w' B o f r t := by
  have hz : ∀ z, (Value.bool o) ≠ .int .u64 z := fun z e => by cases e
  exact ⟨Nat.lt_of_lt_of_le x.lt h.1, (h.cell x.c0 hz 0).trans x.c0, (h.cell x.c0 hz 1).trans x.c1, (h.cell x.c0 hz 2).trans x.c2, (h.cell x.c0 hz 3).trans x.c3, fun j => (World.frozen?_of_block (w := w) (h.2 B _ x.c0 hz)).trans (x.fz j)⟩
theorem keep_store {w : World} {x j : Nat} {m : Int} (hm : w.cell? ⟨x, 0, none⟩ = some (.int .u64 m)) (v : Value) : Keep w (w.setCell ⟨x, j, none⟩ v) :=
  ⟨by rw [World.size_setCell]; exact Nat.le_refl _, fun B z hB hz => heap_setCell_other _ _ _ _ fun e => by rw [e, hm] at hB; cases hB; exact hz _ rfl⟩
theorem kstore_ok (base p N f a : Nat) (v : Int) (M : Nat → Nat → Int) (w : World) (hf : f < N) (ha : a < 36) (hN : N ≤ 64) (hR : RefIs w base p N M) :
    Calls Tryz.prog 11 #[.pointer (some ⟨p, 0, none⟩), .int .i64 f, .int .i64 a, .int .u64 v] w fun e w' => e = .returned (.int .i64 0) ∧ RefIs w' base p N (fun h b => if h = f ∧ b = a then v else M h b) ∧ Below base w w' ∧ Keep w w' := by
  obtain ⟨g, cap, r, c, hp, hg0, hw0, _, _⟩ := hR.parts (by omega)
  have hg := hg0 f hf
  obtain ⟨hw, hz⟩ := hw0 f a hf ha
  have hok := okF_nat hf
  have hfi : (f : Int) < (N : Int) := by omega
  have hai : (a : Int) < 36 := by omega
  have S := hR.store hf ha hp hg v
  have HS : Hid (RefIs (w.setCell ⟨r f, a, none⟩ (.int .u64 v)) base p N (fun h b => if h = f ∧ b = a then v else M h b) ∧ Below base w (w.setCell ⟨r f, a, none⟩ (.int .u64 v)) ∧ Keep w (w.setCell ⟨r f, a, none⟩ (.int .u64 v))) := ⟨S.1, (Below.refl _ _).setCell S.2 _, keep_store (hw0 f 0 hf (by omega)).1 _⟩
  obtain ⟨x, hx⟩ : ∃ x, x = r f := ⟨_, rfl⟩
  obtain ⟨y, hy⟩ : ∃ y, y = c f := ⟨_, rfl⟩
  rw [← hx] at hg hw hz HS
  rw [← hy] at hg
  obtain ⟨m, hm⟩ : ∃ m, m = M f a := ⟨_, rfl⟩
  rw [← hm] at hw
  clear hg0 hw0 hR hm S hx hy
  go_enter Tryz.func11, Tryz.ntmps11
  go_wp2_with (go_at_call 32; refine (is_any p g cap N f _ hN hp).mono ?_; rintro e w' ⟨rfl, rfl⟩)
  go_ret
  exact ⟨rfl, HS.out⟩
theorem kstore_any (base p N : Nat) (f a v : Int) (M : Nat → Nat → Int) (w : World) (hN1 : 1 ≤ N) (hN : N ≤ 64) (hR : RefIs w base p N M) :
    Calls Tryz.prog 11 #[.pointer (some ⟨p, 0, none⟩), .int .i64 f, .int .i64 a, .int .u64 v] w fun e w' => e = .returned (.int .i64 (errW N f a)) ∧ RefIs w' base p N (stW N M f a v) ∧ Below base w w' ∧ Keep w w' := by
  cases h : okF N f
  · simp only [stW, errW, okW, h, Bool.false_and, Bool.false_eq_true, if_false]
    exact (rstore_badF base p N f a v M w h hN1 hN hR).mono fun _ _ ⟨h1, h2⟩ => ⟨h1, by rw [h2]; exact hR, by rw [h2]; exact ⟨Below.refl _ _, Keep.refl _⟩⟩
  · obtain ⟨c, rfl, hc⟩ := okF_split h
    by_cases ha : 0 ≤ a ∧ a < 36
    · obtain ⟨d, rfl⟩ := Int.eq_ofNat_of_zero_le ha.1
      have : okW N (c : Int) (d : Int) = true := by simp [okW, h]; omega
      simp only [stW, errW, this, if_true, Int.toNat_natCast]
      exact kstore_ok base p N c d v M w hc (by omega) hN hR
    · have : okW N (c : Int) a = false := by simp [okW, h]; omega
      simp only [stW, errW, this, Bool.false_eq_true, if_false]
      exact (rstore_badA base p N c a v M w hc ha hN hR).mono fun _ _ ⟨h1, h2⟩ => ⟨h1, by rw [h2]; exact hR, by rw [h2]; exact ⟨Below.refl _ _, Keep.refl _⟩⟩

/-! ### Make, Table -/
set_option maxRecDepth 100000 in
theorem rmake_any (base q N : Nat) (f l : Int) (M : Nat → Nat → Int) (w : World) (h : Rx w base q N M) : Calls Tryz.prog 19 #[.pointer (some ⟨q, 0, none⟩), .int .i64 f, .int .i64 l] w fun x w' => x = .returned (.int .i64 (Phead.errP N f 2 l false 0)) ∧ Rx w' base q N (Phead.mkM N M f 2 l false 0) ∧ Below base w w' := by
  have HM : Hid (Calls Tryz.prog 41 #[.pointer (some ⟨q, 0, none⟩), .int .i64 f, .agg #[.int .i64 2, .int .i64 l, .bool false, .int .i64 0]] w fun x w' => x = .returned (.int .i64 (Phead.errP N f 2 l false 0)) ∧ Rx w' base q N (Phead.mkM N M f 2 l false 0) ∧ Below base w w') := by
    refine (Phead.hrmake_any base q N f 2 l false 0 M w h.n1 h.n64 h.ref).mono ?_
    rintro x w' ⟨rfl, h1, h2⟩
    exact ⟨rfl, h.turn h1 (Phead.fit_mk h.fit N f 2 l false 0), h2⟩
  clear h
  go_enter Tryz.func19, Tryz.ntmps19
  go_wp2_with (first
    | (go_at_call 41; refine HM.out.mono ?_; rintro e1 w1 ⟨rfl, hb⟩; have H1 : Hid (Rx w1 base q N (Phead.mkM N M f 2 l false 0) ∧ Below base w w1) := hb; clear hb)
    | fail)
  go_ret
  exact ⟨rfl, H1.out⟩
theorem rt_laid {w w1 : World} (hb : Below w.heap.size w w1) (k l : Int) (z : Bool) (t : Int) : Below w.heap.size w (w1.alloc (.cells #[.int .i64 k, .int .i64 l, .bool z, .int .i64 t] 85)) ∧ Phead.Box4 (w1.alloc (.cells #[.int .i64 k, .int .i64 l, .bool z, .int .i64 t] 85)) w1.heap.size k l z t :=
  ⟨bal hb _, Phead.box4_new w1 k l z t 85⟩
set_option maxRecDepth 100000 in
set_option maxHeartbeats 1000000 in
theorem rtable_any (base q N : Nat) (f l : Int) (M : Nat → Nat → Int) (w : World) (h : Rx w base q N M) : Calls Tryz.prog 51 #[.pointer (some ⟨q, 0, none⟩), .int .i64 f, .int .i64 l] w fun x w' => x = .returned (.bool (tbB N M f l)) ∧ Below w.heap.size w w' := by
  have HG : Hid (Calls Tryz.prog 58 #[.pointer (some ⟨q, 0, none⟩), .int .i64 f] w fun x w' => x = .returned (.tuple #[.agg #[.int .i64 (Phead.ghK N M f), .int .i64 (Phead.ghL N M f), .bool (Phead.ghZ N M f), .int .i64 (Phead.ghT N M f)], .int .i64 (Phead.ghE N M f)]) ∧ Below w.heap.size w w') := Phead.hrget_any base q N f M w h.n1 h.n64 h.ref h.fit
  clear h
  unfold tbB
  generalize Phead.ghK N M f = K at HG ⊢
  generalize Phead.ghL N M f = L at HG ⊢
  generalize Phead.ghZ N M f = Z at HG ⊢
  generalize Phead.ghT N M f = T at HG ⊢
  generalize Phead.ghE N M f = E at HG ⊢
  obtain ⟨R, hR⟩ : ∃ R, (decide (E = 0) && decide (K = 2) && decide (L = l)) = R := ⟨_, rfl⟩
  rw [hR]
  have HR := rhide hR
  clear hR
  have hcase : ((E == 0) = true ∧ (K == 2) = true ∧ (L == l) = true) ∨ ((E == 0) = true ∧ (K == 2) = true ∧ (L == l) = false) ∨ ((E == 0) = true ∧ (K == 2) = false) ∨ (E == 0) = false := by
    simp only [beq_eq_false_iff_ne, ne_eq, beq_iff_eq]
    omega
  rcases hcase with ⟨h1, h2, h3⟩ | ⟨h1, h2, h3⟩ | ⟨h1, h2⟩ | h1
  all_goals
    go_enter Tryz.func51, Tryz.ntmps51
    go_upto_region 2 with (first
      | (go_at_call 58; refine HG.out.mono ?_; rintro e1 w1 ⟨rfl, hb⟩; have H1 : Hid (Below w.heap.size w w1) := hb; clear hb)
      | fail)
    have HL := rt_laid H1.out K L Z T
    generalize w1.alloc _ = w2 at HL ⊢
    generalize w1.heap.size = D at HL ⊢
    have H2 := rhide HL.1
    have x0 := HL.2.c0
    have x1 := HL.2.c1
    have x2 := HL.2.c2
    clear HL H1 HG
    first
      | (go_quiet (fail)
         go_wp2
         go_ret
         have hr := HR.out
         simp_all
         exact H2.out.trans (below_drew' _ _ _))
      | (go_wp2
         go_ret
         have hr := HR.out
         simp_all
         exact H2.out)

/-! ### entries -/
theorem res_box {w w1 : World} (hb : Below (w.alloc (.cells #[.bool false, .int .i64 0, .int .i64 0, .int .i64 0] 42)).heap.size (w.alloc (.cells #[.bool false, .int .i64 0, .int .i64 0, .int .i64 0] 42)) w1) : Below w.heap.size w w1 ∧ Ppte.BoxP w1 w.heap.size false 0 0 0 :=
  ⟨(bal (Below.refl _ _) _).trans (hb.mono (by simp)), (Ppte.boxP_new w false 0 0 0 42).on hb⟩
theorem ld_bd {N : Nat} {M : Nat → Nat → Int} (hF : Fit M) (f a : Int) : 0 ≤ ldM N M f a ∧ ldM N M f a ≤ 18446744073709551615 := by
  unfold ldM
  split
  · exact hF _ _
  · omega
set_option maxRecDepth 100000 in
set_option maxHeartbeats 1000000 in
theorem rentry_any (base q N : Nat) (f i : Int) (M : Nat → Nat → Int) (w : World) (h : Rx w base q N M) (hi : 0 ≤ i ∧ i < 32) :
    Calls Tryz.prog 36 #[.pointer (some ⟨q, 0, none⟩), .int .i64 f, .int .i64 i] w fun x w' => x = .returned (.tuple #[.agg #[.bool (enO N M f i), .int .i64 (enF N M f i), .int .i64 (enR N M f i), .int .i64 (enT N M f i)], .int .i64 (enE N M f i)]) ∧ Below w.heap.size w w' := by
  obtain ⟨h0, h1⟩ := hi
  have HL : Hid (∀ wc, Below w.heap.size w wc → Calls Tryz.prog 54 #[.pointer (some ⟨q, 0, none⟩), .int .i64 f, .int .i64 (4 + i)] wc fun x w' => x = .returned (.tuple #[.int .u64 (ldM N M f (4 + i)), .int .i64 (errW N f (4 + i))]) ∧ w' = wc) := fun wc hb => rload_any base q N f (4 + i) M wc h.n1 h.n64 (h.grown hb).ref
  have HB : Hid (∀ ty, Below w.heap.size w (w.alloc (.cells #[.bool false, .int .i64 0, .int .i64 0, .int .i64 0] ty)) ∧ Ppte.BoxP (w.alloc (.cells #[.bool false, .int .i64 0, .int .i64 0, .int .i64 0] ty)) w.heap.size false 0 0 0) := fun ty => ⟨bal (Below.refl _ _) _, Ppte.boxP_new w false 0 0 0 ty⟩
  have hbd := ld_bd (N := N) h.fit f (4 + i)
  by_cases hk : okW N f (4 + i) = true
  case neg =>
    have e0 : enE N M f i ≠ 0 := by unfold enE; rw [if_neg hk]; decide
    obtain ⟨e1, e2, e3, e4⟩ := en_none e0
    have e5 : enE N M f i = 1 := by unfold enE; rw [if_neg hk]
    rw [e1, e2, e3, e4, e5]
    have e6 : errW N f (4 + i) = 1 := by unfold errW; rw [if_neg hk]
    rw [e6] at HL
    clear e0 e1 e2 e3 e4 e5 e6 hk h hbd
    go_enter Tryz.func36, Tryz.ntmps36
    go_wp2_with (first
      | (go_at_call 54; refine (HL.out _ (HB.out _).1).mono ?_; rintro e1 w1 ⟨rfl, hw⟩; have H1 := rhide (HB.out 42); rw [← hw] at H1; clear hw HB; have x0 := H1.out.2.c0; have x1 := H1.out.2.c1; have x2 := H1.out.2.c2; have x3 := H1.out.2.c3; have z0 := H1.out.2.fz 0; have z1 := H1.out.2.fz 1; have z2 := H1.out.2.fz 2; have z3 := H1.out.2.fz 3; have xl := H1.out.2.lt)
      | fail)
    refine bodyPost_ret (v := .tuple #[.agg #[.bool false, .int .i64 0, .int .i64 0, .int .i64 0], .int .i64 1]) (by simp [results, Tryz.results36, go_sem, x0, x1, x2, x3]) rfl ⟨rfl, ?_⟩
    exact bst (bst (bst (bst H1.out.1 (Nat.le_refl _) _ _) (Nat.le_refl _) _ _) (Nat.le_refl _) _ _) (Nat.le_refl _) _ _
  case pos =>
  have e5 : enE N M f i = Ppte.getE (enW N M f i) := by unfold enE; rw [if_pos hk]
  have e6 : errW N f (4 + i) = 0 := by unfold errW; rw [if_pos hk]
  rw [e5]
  rw [e6] at HL
  unfold enO enF enR enT enW
  generalize ldM N M f (4 + i) = x at HL hbd ⊢
  have HG : Hid (∀ wc, Calls Tryz.prog 55 #[.int .u64 x] wc fun v w' => v = .returned (.tuple #[.agg #[.bool (Ppte.getO x), .int .i64 (Ppte.getF x), .int .i64 (Ppte.getR x), .int .i64 (Ppte.getT x)], .int .i64 (Ppte.getE x)]) ∧ Below wc.heap.size wc w') := fun wc => Ppte.rget_any x wc hbd
  clear e5 e6 hk h hbd
  generalize Ppte.getO x = go at HG ⊢
  generalize Ppte.getF x = gf at HG ⊢
  generalize Ppte.getR x = gr at HG ⊢
  generalize Ppte.getT x = gt at HG ⊢
  generalize Ppte.getE x = ge at HG ⊢
  go_enter Tryz.func36, Tryz.ntmps36
  go_wp2_with (first
    | (go_at_call 54; refine (HL.out _ (HB.out _).1).mono ?_; rintro e1 w1 ⟨rfl, hw⟩; have H1 := rhide (HB.out 42); rw [← hw] at H1; clear hw HB)
    | (go_at_call 55; refine (HG.out _).mono ?_; rintro e2 w2 ⟨rfl, hb⟩; have H2 := rhide (And.intro (H1.out.1.trans (hb.mono H1.out.1.size)) (H1.out.2.on hb)); clear hb H1; have x0 := H2.out.2.c0; have x1 := H2.out.2.c1; have x2 := H2.out.2.c2; have x3 := H2.out.2.c3; have z0 := H2.out.2.fz 0; have z1 := H2.out.2.fz 1; have z2 := H2.out.2.fz 2; have z3 := H2.out.2.fz 3; have xl := H2.out.2.lt)
    | fail)
  refine bodyPost_ret (v := .tuple #[.agg #[.bool go, .int .i64 gf, .int .i64 gr, .int .i64 gt], .int .i64 ge]) (by simp [results, Tryz.results36, go_sem, x0, x1, x2, x3]) rfl ⟨rfl, ?_⟩
  exact bst (bst (bst (bst H2.out.1 (Nat.le_refl _) _ _) (Nat.le_refl _) _ _) (Nat.le_refl _) _ _) (Nat.le_refl _) _ _
set_option maxRecDepth 100000 in
set_option maxHeartbeats 1000000 in
theorem rset_any (base q N : Nat) (f i : Int) (o : Bool) (g r t : Int) (M : Nat → Nat → Int) (w : World) (h : Rx w base q N M) (hi : 0 ≤ i ∧ i < 32) :
    Calls Tryz.prog 45 #[.pointer (some ⟨q, 0, none⟩), .int .i64 f, .int .i64 i, .agg #[.bool o, .int .i64 g, .int .i64 r, .int .i64 t]] w fun x w' => x = .returned (.int .i64 (seE N f i o g r t)) ∧ Rx w' base q N (seM N M f i o g r t) ∧ Below base w w' ∧ Keep w w' := by
  obtain ⟨h0, h1⟩ := hi
  have HM := rhide h
  have HX : Hid (∀ ty, Ppte.BoxP (w.alloc (.cells #[.bool o, .int .i64 g, .int .i64 r, .int .i64 t] ty)) w.heap.size o g r t) := fun ty => Ppte.boxP_new w o g r t ty
  have HP : Hid (∀ wc, Calls Tryz.prog 69 #[.agg #[.bool o, .int .i64 g, .int .i64 r, .int .i64 t]] wc fun e w' => e = .returned (.tuple #[.int .u64 (Ppte.putW o g r t), .int .i64 (Ppte.chk o g r t)]) ∧ Below wc.heap.size wc w') := fun wc => Ppte.rput_any o g r t wc
  clear h
  by_cases hp : Ppte.Rt o g r t
  case neg =>
    have e1 : seE N f i o g r t = 1 := by unfold seE; rw [Ppte.rtB_no hp]; rfl
    have e2 : seM N M f i o g r t = M := by unfold seM; rw [Ppte.rtB_no hp]; rfl
    rw [e1, e2]
    rw [Ppte.putW_no hp, Ppte.chk_no hp] at HP
    clear e1 e2 hp
    go_enter Tryz.func45, Tryz.ntmps45
    go_wp2_with (first
      | (go_at_call 69; refine (HP.out _).mono ?_; rintro e1 w1 ⟨rfl, hb1⟩; have H1 : Hid (Below w.heap.size w w1) := (bal (Below.refl _ _) _).trans (hb1.mono (by simp)); clear hb1)
      | fail)
    go_ret
    exact ⟨rfl, HM.out.grown H1.out, H1.out.mono (rx_le HM.out), Keep.of_below H1.out⟩
  case pos =>
  have e1 : seE N f i o g r t = errW N f (4 + i) := by unfold seE; rw [if_pos (Ppte.rtB_yes hp)]
  rw [e1, seM_yes hp]
  rw [Ppte.putW_yes hp, Ppte.chk_yes hp] at HP
  have HF : Hid (Fit (stW N M f (4 + i) (Ppte.wd o g r t))) := HM.out.fit.st N f _ _ (Ppte.wd_bd hp)
  generalize Ppte.wd o g r t = x at HP HF ⊢
  clear e1 hp
  go_enter Tryz.func45, Tryz.ntmps45
  go_wp2_with (first
    | (go_at_call 69; refine (HP.out _).mono ?_; rintro e1 w1 ⟨rfl, hb1⟩; have H1 : Hid (Below w.heap.size w w1) := (bal (Below.refl _ _) _).trans (hb1.mono (by simp)); clear hb1)
    | (go_at_call 11; refine (kstore_any base q N f (4 + i) x M _ HM.out.n1 HM.out.n64 (HM.out.grown H1.out).ref).mono ?_; rintro e2 w2 ⟨rfl, hR, hB, hK⟩; have H2 : Hid (Rx w2 base q N (stW N M f (4 + i) x) ∧ Below base w w2 ∧ Keep w w2) := ⟨HM.out.turn hR HF.out, (H1.out.mono (rx_le HM.out)).trans hB, (Keep.of_below H1.out).trans hK⟩; clear hR hB hK)
    | fail)
  go_ret
  exact ⟨rfl, H2.out⟩
/-! ### the leaf of a page -/
/-- An entry that was read lies in a new block. -/
theorem pte_laid {w w1 : World} {base q N : Nat} {M : Nat → Nat → Int} (h : Rx w base q N M) (hb : Below w.heap.size w w1) (o : Bool) (f r t : Int) : Rx (w1.alloc (.cells #[.bool o, .int .i64 f, .int .i64 r, .int .i64 t] 42)) base q N M ∧ Below w.heap.size w (w1.alloc (.cells #[.bool o, .int .i64 f, .int .i64 r, .int .i64 t] 42)) ∧ Ppte.BoxP (w1.alloc (.cells #[.bool o, .int .i64 f, .int .i64 r, .int .i64 t] 42)) w1.heap.size o f r t :=
  ⟨(h.grown hb).grown (bal (Below.refl _ _) _), bal hb _, Ppte.boxP_new w1 o f r t 42⟩
theorem pte_more {w w1 w2 : World} {base q N : Nat} {M : Nat → Nat → Int} {D : Nat} {o : Bool} {f r t : Int} (h : Rx w1 base q N M ∧ Below w.heap.size w w1 ∧ Ppte.BoxP w1 D o f r t) (hb : Below w1.heap.size w1 w2) : Rx w2 base q N M ∧ Below w.heap.size w w2 ∧ Ppte.BoxP w2 D o f r t :=
  ⟨h.1.grown hb, h.2.1.trans (hb.mono h.2.1.size), h.2.2.on hb⟩
set_option maxRecDepth 100000 in
set_option maxHeartbeats 2000000 in
theorem rleaf_any (base q N : Nat) (root page : Int) (M : Nat → Nat → Int) (w : World) (h : Rx w base q N M) : Calls Tryz.prog 35 #[.pointer (some ⟨q, 0, none⟩), .int .i64 root, .int .i64 page] w fun x w' => x = .returned (.tuple #[.int .i64 (lfF N M root page), .int .i64 (lfE N M root page)]) ∧ Below w.heap.size w w' := by
  have HI := rhide h
  clear h
  have hno : lfE N M root page ≠ 0 → lfF N M root page = 0 := fun h => by simp [lfF, h]
  by_cases hg : okG page = true
  case neg =>
    have e0 : lfE N M root page = 1 := by simp [lfE, hg]
    rw [hno (by rw [e0]; decide), e0]
    have hk : page < 0 ∨ ¬ page < 0 ∧ 1024 ≤ page := by
      rw [okG_iff] at hg
      omega
    clear hno e0 hg
    rcases hk with h0 | ⟨h0, h1⟩
    all_goals
      go_enter Tryz.func35, Tryz.ntmps35
      go_wp2
      go_ret2
      exact ⟨rfl, Below.refl _ _⟩
  have hp := (okG_iff page).1 hg
  have h0 : ¬ page < 0 := by omega
  have h1 : ¬ 1024 ≤ page := by omega
  have HT := rhide (rtable_any base q N root 0 M w HI.out)
  by_cases h2 : tbB N M root 0 = true
  case neg =>
    have e0 : lfE N M root page = 4 := by simp [lfE, hg, h2]
    rw [hno (by rw [e0]; decide), e0]
    rw [show tbB N M root 0 = false by simpa using h2] at HT
    clear hno e0 hg h2
    go_enter Tryz.func35, Tryz.ntmps35
    go_wp2_with (first
      | (go_at_call 51; with_reducible refine HT.out.mono ?_; rintro e1 w1 ⟨rfl, hb⟩; have H1 := rhide hb; clear hb)
      | fail)
    go_ret2
    exact ⟨rfl, H1.out⟩
  rw [h2] at HT
  have HG : Hid (∀ wc, Below w.heap.size w wc → Calls Tryz.prog 36 #[.pointer (some ⟨q, 0, none⟩), .int .i64 root, .int .i64 (page / 32)] wc fun x w' => x = .returned (.tuple #[.agg #[.bool (enO N M root (page / 32)), .int .i64 (enF N M root (page / 32)), .int .i64 (enR N M root (page / 32)), .int .i64 (enT N M root (page / 32))], .int .i64 (enE N M root (page / 32))]) ∧ Below wc.heap.size wc w') := fun wc hb => rentry_any base q N root (page / 32) M wc (HI.out.grown hb) (by omega)
  have hq : 0 ≤ page / 32 := by omega
  have eL : lfE N M root page = if enE N M root (page / 32) = 0 ∧ enO N M root (page / 32) = true then if tbB N M (enF N M root (page / 32)) 1 = true then 0 else 4 else 9 := by simp only [lfE, hg, h2, if_true]
  have eF : lfF N M root page = if lfE N M root page = 0 then enF N M root (page / 32) else 0 := rfl
  rw [eF, eL]
  clear eF eL hno hg h2
  generalize enE N M root (page / 32) = E at HG ⊢
  generalize enO N M root (page / 32) = O at HG ⊢
  generalize enF N M root (page / 32) = F at HG ⊢
  generalize enR N M root (page / 32) = R at HG ⊢
  generalize enT N M root (page / 32) = T at HG ⊢
  have HU : Hid (∀ wc, Below w.heap.size w wc → Calls Tryz.prog 51 #[.pointer (some ⟨q, 0, none⟩), .int .i64 F, .int .i64 1] wc fun x w' => x = .returned (.bool (tbB N M F 1)) ∧ Below wc.heap.size wc w') := fun wc hb => rtable_any base q N F 1 M wc (HI.out.grown hb)
  generalize tbB N M F 1 = U at HU ⊢
  have hc : (E ≠ 0 ∧ (E != 0) = true) ∨ (E = 0 ∧ O = false) ∨ (E = 0 ∧ O = true ∧ U = false) ∨ (E = 0 ∧ O = true ∧ U = true) := by
    by_cases hE : E = 0
    · cases O <;> cases U <;> simp [hE]
    · exact .inl ⟨hE, by simp [hE]⟩
  generalize hX : (if E = 0 ∧ O = true then if U = true then (0 : Int) else 4 else 9) = X
  generalize hY : (if X = 0 then F else 0) = Y
  have HX := rhide hX
  have HY := rhide hY
  clear hX hY
  go_enter Tryz.func35, Tryz.ntmps35
  go_upto_region 6 with (first
    | (go_at_call 51; with_reducible refine HT.out.mono ?_; rintro e1 w1 ⟨rfl, hb⟩; have H1 := rhide hb; clear hb HT)
    | (go_at_call 36; with_reducible refine (HG.out _ H1.out).mono ?_; rintro e2 w2 ⟨rfl, hb⟩; have H2 := pte_laid HI.out (H1.out.trans (hb.mono H1.out.size)) O F R T; clear hb)
    | fail)
  generalize w2.alloc _ = w3 at H2 ⊢
  generalize w2.heap.size = D at H2 ⊢
  rcases hc with ⟨hE, hE'⟩ | ⟨rfl, rfl⟩ | ⟨rfl, rfl, rfl⟩ | ⟨rfl, rfl, rfl⟩
  case' inl =>
    have HV : Hid ((if E = 0 ∧ O = true then if U = true then (0 : Int) else 4 else 9) = 9) := if_neg (fun k => hE k.1)
    clear hE
  case' inr.inl => have HV : Hid ((if (0 : Int) = 0 ∧ false = true then if U = true then (0 : Int) else 4 else 9) = 9) := (by simp : (if (0 : Int) = 0 ∧ false = true then if U = true then (0 : Int) else 4 else 9) = 9)
  case' inr.inr.inl => have HV : Hid ((if (0 : Int) = 0 ∧ true = true then if false = true then (0 : Int) else 4 else 9) = 4) := (by simp : (if (0 : Int) = 0 ∧ true = true then if false = true then (0 : Int) else 4 else 9) = 4)
  case' inr.inr.inr => have HV : Hid ((if (0 : Int) = 0 ∧ true = true then if true = true then (0 : Int) else 4 else 9) = 0) := (by simp : (if (0 : Int) = 0 ∧ true = true then if true = true then (0 : Int) else 4 else 9) = 0)
  all_goals
    have H3 := rhide H2
    clear H2
    have x0 := H3.out.2.2.c0
    have x1 := H3.out.2.2.c1
    have xl := H3.out.2.2.lt
    go_wp2_with (first
      | (go_at_call 51; with_reducible refine (HU.out _ H3.out.2.1).mono ?_; rintro e4 w4 ⟨rfl, hb⟩; have H4 := rhide (pte_more H3.out hb); clear hb x0 x1 xl; have x0 := H4.out.2.2.c0; have x1 := H4.out.2.2.c1; have xl := H4.out.2.2.lt)
      | fail)
    go_ret2
    first
      | exact ⟨by rw [← HY.out, ← HX.out, HV.out]; rfl, H4.out.2.1⟩
      | exact ⟨by rw [← HY.out, ← HX.out, HV.out]; rfl, H3.out.2.1⟩
end Go.Proofs.YtfmkhjbahgcgiaaGreatDoor.Ppgtbl
