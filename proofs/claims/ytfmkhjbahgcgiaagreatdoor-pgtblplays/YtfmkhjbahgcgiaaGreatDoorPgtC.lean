/- What put and fill of an entry, and Walk, Raw, Map, Cons of package pgtbl answer and do, for every argument. -/
import Derived.Test.YtfmkhjbahgcgiaaGreatDoorPgtB
namespace Go.Proofs.YtfmkhjbahgcgiaaGreatDoor.Ppgtbl
open Go.Proofs.YtfmkhjbahgcgiaaGreatDoor.Pbase Go.Proofs.YtfmkhjbahgcgiaaGreatDoor.Pmem Go.Proofs.YtfmkhjbahgcgiaaGreatDoor.Pradix
open Go.RowKit
set_option linter.unusedVariables false

/-- An entry and a mapping in blocks, beside a memory and the tables. -/
structure Eb (w0 w : World) (p b N : Nat) (M : Nat → Nat → Int) (D D' : Nat) (q : Option Addr) (f a : Int) (o' : Bool) (g' r' t' : Int) (o : Bool) (g r t : Int) : Prop where
  mx : Mx w p b N M
  below : Below w0.heap.size w0 w
  ent : Box7 w D q f a o' g' r' t'
  pte : Ppte.BoxP w D' o g r t
section
variable {w0 w w' : World} {p b N : Nat} {M : Nat → Nat → Int} {D D' : Nat} {q : Option Addr} {f a : Int} {o' : Bool} {g' r' t' : Int} {o : Bool} {g r t : Int}
theorem Eb.on (h : Eb w0 w p b N M D D' q f a o' g' r' t' o g r t) (hB : Below w.heap.size w w') : Eb w0 w' p b N M D D' q f a o' g' r' t' o g r t :=
  ⟨h.mx.on hB, h.below.trans (hB.mono h.below.size), h.ent.on hB, h.pte.on hB⟩
theorem eb_new (h : Mx w p b N M) (q : Option Addr) (f a : Int) (o' : Bool) (g' r' t' : Int) (o : Bool) (g r t : Int) : Eb w ((w.alloc (.cells #[.pointer q, .int .i64 f, .int .i64 a, .bool o', .int .i64 g', .int .i64 r', .int .i64 t'] 76)).alloc (.cells #[.bool o, .int .i64 g, .int .i64 r, .int .i64 t] 42)) p b N M w.heap.size (w.heap.size + 1) q f a o' g' r' t' o g r t := by
  have h2 := Ppte.boxP_new (w.alloc (.cells #[.pointer q, .int .i64 f, .int .i64 a, .bool o', .int .i64 g', .int .i64 r', .int .i64 t'] 76)) o g r t 42
  rw [World.size_alloc] at h2
  exact ⟨(h.on (bal (Below.refl _ _) _)).on (bal (Below.refl _ _) _), bal (bal (Below.refl _ _) _) _, (box7_new w q f a o' g' r' t' 76).on (bal (Below.refl _ _) _), h2⟩
end
/-! ### put -/
set_option maxRecDepth 100000 in
set_option maxHeartbeats 2000000 in
theorem put_any (p b N : Nat) (f i : Int) (o' : Bool) (g' r' t' : Int) (o : Bool) (g r t : Int) (M : Nat → Nat → Int) (w : World) (h : Mx w p b N M) :
    Calls Tryz.prog 47 #[.agg #[.pointer (some ⟨p, 0, none⟩), .int .i64 f, .int .i64 (4 + i), .bool o', .int .i64 g', .int .i64 r', .int .i64 t'], .agg #[.bool o, .int .i64 g, .int .i64 r, .int .i64 t]] w fun x w' => x = .returned (.int .i64 (seE N f i o g r t)) ∧ Mx w' p b N (seM N M f i o g r t) ∧ But b w w' := by
  have HE := eb_new h (some ⟨p, 0, none⟩) f (4 + i) o' g' r' t' o g r t
  have HM := hide h
  have HP : Hid (∀ wc, Mx wc p b N M → Calls Tryz.prog 70 #[.agg #[.bool o, .int .i64 g, .int .i64 r, .int .i64 t]] wc fun e w' => e = .returned (.tuple #[.int .u64 (Ppte.putW o g r t), .int .i64 (Ppte.chk o g r t)]) ∧ Below wc.heap.size wc w') := fun wc hc => Ppte.put_any o g r t wc hc.tb.tp
  clear h
  by_cases hp : Ppte.Rt o g r t
  case neg =>
    have e1 : seE N f i o g r t = 1 := by unfold seE; rw [Ppte.rtB_no hp]; rfl
    have e2 : seM N M f i o g r t = M := by unfold seM; rw [Ppte.rtB_no hp]; rfl
    rw [e1, e2]
    rw [Ppte.putW_no hp, Ppte.chk_no hp] at HP
    clear e1 e2 hp
    go_enter Tryz.func47, Tryz.ntmps47
    go_upto_region 1 with fail
    generalize (w.alloc _).alloc _ = w1 at HE ⊢
    have H1 := hide HE
    clear HE
    have y0 := H1.out.pte.c0
    have y1 := H1.out.pte.c1
    have y2 := H1.out.pte.c2
    have y3 := H1.out.pte.c3
    go_wp2_with (first
      | (go_at_call 70; refine (HP.out _ H1.out.mx).mono ?_; rintro e2 w2 ⟨rfl, hb⟩; have H2 := hide (H1.out.on hb); clear hb)
      | fail)
    go_ret
    exact ⟨rfl, H2.out.mx, But.of_below b H2.out.below⟩
  case pos =>
  have e1 : seE N f i o g r t = errW N f (4 + i) := by unfold seE; rw [if_pos (Ppte.rtB_yes hp)]
  rw [e1, seM_yes hp]
  rw [Ppte.putW_yes hp, Ppte.chk_yes hp] at HP
  have HF : Hid (Fit (stW N M f (4 + i) (Ppte.wd o g r t))) := HM.out.fit.st N f _ _ (Ppte.wd_bd hp)
  generalize Ppte.wd o g r t = x at HP HF ⊢
  have HS : Hid (∀ wc, Mx wc p b N M → Calls Tryz.prog 10 #[.pointer (some ⟨p, 0, none⟩), .int .i64 f, .int .i64 (4 + i), .int .u64 x] wc fun e w' => e = .returned (.int .i64 (errW N f (4 + i))) ∧ Mx w' p b N (stW N M f (4 + i) x) ∧ But b wc w') := fun wc hc => by
    refine (store_any p b N f (4 + i) x M wc hc.n1 hc.n64 hc.mem).mono ?_
    rintro e w' ⟨rfl, rfl⟩
    have hB := (But.refl b wc).setRow (cellsM N (stW N M f (4 + i) x))
    exact ⟨rfl, hc.but (hc.mem.set _) HF.out hB, hB⟩
  generalize errW N f (4 + i) = E at HS ⊢
  generalize stW N M f (4 + i) x = M' at HS ⊢
  generalize 4 + i = A at HS HE ⊢
  clear e1 hp HF
  go_enter Tryz.func47, Tryz.ntmps47
  go_upto_region 1 with fail
  generalize (w.alloc _).alloc _ = w1 at HE ⊢
  have H1 := hide HE
  clear HE
  have y0 := H1.out.pte.c0
  have y1 := H1.out.pte.c1
  have y2 := H1.out.pte.c2
  have y3 := H1.out.pte.c3
  go_wp2_with (first
    | (go_at_call 70; refine (HP.out _ H1.out.mx).mono ?_; rintro e2 w2 ⟨rfl, hb⟩; have H2 := hide (H1.out.on hb); clear hb H1 y0 y1 y2 y3; have x0 := H2.out.ent.c0; have x1 := H2.out.ent.c1; have x2 := H2.out.ent.c2)
    | (go_at_call 10; refine (HS.out _ H2.out.mx).mono ?_; rintro e3 w3 ⟨rfl, hm, hb⟩; have H3 := hide (And.intro hm ((But.of_below b H2.out.below).trans hb)); clear hm hb)
    | fail)
  go_ret
  exact ⟨rfl, H3.out⟩
/-! ### fill -/
def flE (N : Nat) (f i : Int) (o' : Bool) (g' r' t' : Int) (o : Bool) (g r t floor : Int) : Int := if o' = true then 10 else if Ppte.quB o' g' r' t' floor = true then seE N f i o g r t else 6
def flM (N : Nat) (M : Nat → Nat → Int) (f i : Int) (o' : Bool) (g' r' t' : Int) (o : Bool) (g r t floor : Int) : Nat → Nat → Int := if o' = true then M else if Ppte.quB o' g' r' t' floor = true then seM N M f i o g r t else M
set_option maxRecDepth 100000 in
set_option maxHeartbeats 2000000 in
theorem fill_any (p b N : Nat) (f i : Int) (o' : Bool) (g' r' t' : Int) (o : Bool) (g r t floor : Int) (M : Nat → Nat → Int) (w : World) (h : Mx w p b N M) :
    Calls Tryz.prog 43 #[.agg #[.pointer (some ⟨p, 0, none⟩), .int .i64 f, .int .i64 (4 + i), .bool o', .int .i64 g', .int .i64 r', .int .i64 t'], .agg #[.bool o, .int .i64 g, .int .i64 r, .int .i64 t], .int .i64 floor] w fun x w' => x = .returned (.int .i64 (flE N f i o' g' r' t' o g r t floor)) ∧ Mx w' p b N (flM N M f i o' g' r' t' o g r t floor) ∧ But b w w' := by
  have HE := eb_new h (some ⟨p, 0, none⟩) f (4 + i) o' g' r' t' o g r t
  have HP : Hid (∀ wc, Mx wc p b N M → Calls Tryz.prog 47 #[.agg #[.pointer (some ⟨p, 0, none⟩), .int .i64 f, .int .i64 (4 + i), .bool o', .int .i64 g', .int .i64 r', .int .i64 t'], .agg #[.bool o, .int .i64 g, .int .i64 r, .int .i64 t]] wc fun x w' => x = .returned (.int .i64 (seE N f i o g r t)) ∧ Mx w' p b N (seM N M f i o g r t) ∧ But b wc w') := fun wc hc => put_any p b N f i o' g' r' t' o g r t M wc hc
  have HQ : Hid (∀ wc, Calls Tryz.prog 67 #[.agg #[.bool o', .int .i64 g', .int .i64 r', .int .i64 t'], .int .i64 floor] wc fun e w' => e = .returned (.bool (Ppte.quB o' g' r' t' floor)) ∧ Below wc.heap.size wc w') := fun wc => Ppte.quiet_any o' g' r' t' floor wc
  clear h
  unfold flE flM
  generalize Ppte.quB o' g' r' t' floor = U at HQ ⊢
  generalize seE N f i o g r t = E at HP ⊢
  generalize seM N M f i o g r t = M' at HP ⊢
  generalize 4 + i = A at HP HE ⊢
  have hc : o' = true ∨ (o' = false ∧ U = false) ∨ (o' = false ∧ U = true) := by cases o' <;> cases U <;> simp
  rcases hc with rfl | ⟨rfl, rfl⟩ | ⟨rfl, rfl⟩
  all_goals
    simp only [if_true, if_false, Bool.false_eq_true]
    go_enter Tryz.func43, Tryz.ntmps43
    go_upto_region 1 with fail
    generalize (w.alloc _).alloc _ = w1 at HE ⊢
    have H1 := hide HE
    clear HE
    have x3 := H1.out.ent.c3
    have x4 := H1.out.ent.c4
    have x5 := H1.out.ent.c5
    have x6 := H1.out.ent.c6
    go_wp2_with (first
      | (go_at_call 67; refine (HQ.out _).mono ?_; rintro e2 w2 ⟨rfl, hb⟩; have H2 := hide (H1.out.on hb); clear hb H1 x3 x4 x5 x6; have H1 := H2; clear H2; have x0 := H1.out.ent.c0; have x1 := H1.out.ent.c1; have x2 := H1.out.ent.c2; have x3 := H1.out.ent.c3; have x4 := H1.out.ent.c4; have x5 := H1.out.ent.c5; have x6 := H1.out.ent.c6; have y0 := H1.out.pte.c0; have y1 := H1.out.pte.c1; have y2 := H1.out.pte.c2; have y3 := H1.out.pte.c3)
      | (go_at_call 47; refine (HP.out _ H1.out.mx).mono ?_; rintro e3 w3 ⟨rfl, hm, hb⟩; have H3 := hide (And.intro hm ((But.of_below b H1.out.below).trans hb)); clear hm hb)
      | fail)
    go_ret
    first
      | exact ⟨rfl, H3.out⟩
      | exact ⟨rfl, H1.out.mx, But.of_below b H1.out.below⟩
/-! ### Walk, Raw -/
/-- The result's block of a call that answers a mapping, beside a memory and the tables. -/
structure Pr (w0 w : World) (p b N : Nat) (M : Nat → Nat → Int) : Prop where
  mx : Mx w p b N M
  below : Below w0.heap.size w0 w
  res : Ppte.BoxP w w0.heap.size false 0 0 0
theorem Pr.on {w0 w w' : World} {p b N : Nat} {M : Nat → Nat → Int} (h : Pr w0 w p b N M) (hB : Below w.heap.size w w') : Pr w0 w' p b N M := ⟨h.mx.on hB, h.below.trans (hB.mono h.below.size), h.res.on hB⟩
theorem pr_new {w : World} {p b N : Nat} {M : Nat → Nat → Int} (h : Mx w p b N M) : Pr w (w.alloc (.cells #[.bool false, .int .i64 0, .int .i64 0, .int .i64 0] 42)) p b N M :=
  ⟨h.on (bal (Below.refl _ _) _), bal (Below.refl _ _) _, Ppte.boxP_new w false 0 0 0 42⟩
structure Pe (w0 w : World) (p b N : Nat) (M : Nat → Nat → Int) (D : Nat) (q : Option Addr) (f a : Int) (o : Bool) (g r t : Int) : Prop where
  pr : Pr w0 w p b N M
  box : Box7 w D q f a o g r t
  ne : w0.heap.size < D
theorem Pe.on {w0 w w' : World} {p b N : Nat} {M : Nat → Nat → Int} {D : Nat} {q : Option Addr} {f a : Int} {o : Bool} {g r t : Int} (h : Pe w0 w p b N M D q f a o g r t) (hB : Below w.heap.size w w') : Pe w0 w' p b N M D q f a o g r t := ⟨h.pr.on hB, h.box.on hB, h.ne⟩
theorem Pr.more {w0 w : World} {p b N : Nat} {M : Nat → Nat → Int} (h : Pr w0 w p b N M) (q : Option Addr) (f a : Int) (o : Bool) (g r t : Int) : Pe w0 (w.alloc (.cells #[.pointer q, .int .i64 f, .int .i64 a, .bool o, .int .i64 g, .int .i64 r, .int .i64 t] 76)) p b N M w.heap.size q f a o g r t :=
  ⟨h.on (bal (Below.refl _ _) _), box7_new w q f a o g r t 76, h.res.lt⟩
theorem res4 {w0 w : World} (h : Below w0.heap.size w0 w) (a b c d : Value) : Below w0.heap.size w0 ((((w.setCell ⟨w0.heap.size, 0, none⟩ a).setCell ⟨w0.heap.size, 1, none⟩ b).setCell ⟨w0.heap.size, 2, none⟩ c).setCell ⟨w0.heap.size, 3, none⟩ d) :=
  bst (bst (bst (bst h (Nat.le_refl _) _ _) (Nat.le_refl _) _ _) (Nat.le_refl _) _ _) (Nat.le_refl _) _ _
set_option maxRecDepth 100000 in
set_option maxHeartbeats 2000000 in
theorem pwalk_any (p b N : Nat) (root page : Int) (M : Nat → Nat → Int) (w : World) (h : Mx w p b N M) :
    Calls Tryz.prog 12 #[.pointer (some ⟨p, 0, none⟩), .int .i64 root, .int .i64 page] w fun x w' => x = .returned (.tuple #[.agg #[.bool (wkO N M root page), .int .i64 (wkF N M root page), .int .i64 (wkR N M root page), .int .i64 (wkT N M root page)], .int .i64 (wkE N M root page)]) ∧ Below w.heap.size w w' := by
  have HE := hide (pr_new h)
  have HF : Hid (∀ wc, Mx wc p b N M → Calls Tryz.prog 33 #[.pointer (some ⟨p, 0, none⟩), .int .i64 root, .int .i64 page] wc fun x w' => x = .returned (.tuple #[.agg #[.pointer (waP N M root page p), .int .i64 (waF N M root page), .int .i64 (waA N M root page), .bool (wkO N M root page), .int .i64 (wkF N M root page), .int .i64 (wkR N M root page), .int .i64 (wkT N M root page)], .int .i64 (wkE N M root page)]) ∧ Below wc.heap.size wc w') := fun wc hc => walk_any p b N root page M wc hc
  clear h
  generalize wkE N M root page = E at HF ⊢
  generalize wkO N M root page = O at HF ⊢
  generalize wkF N M root page = F at HF ⊢
  generalize wkR N M root page = R at HF ⊢
  generalize wkT N M root page = T at HF ⊢
  generalize waF N M root page = L at HF
  generalize waA N M root page = A at HF
  generalize waP N M root page p = P at HF
  go_enter Tryz.func12, Tryz.ntmps12
  go_upto_region 2 with (first
    | (go_at_call 33; refine (HF.out _ HE.out.mx).mono ?_; rintro e1 w1 ⟨rfl, hb⟩; have H1 := (HE.out.on hb).more P L A O F R T; clear hb HE)
    | fail)
  generalize w1.alloc _ = w2 at H1 ⊢
  generalize w1.heap.size = D at H1 ⊢
  have H2 := hide H1
  clear H1
  have x0 := H2.out.pr.res.c0
  have x1 := H2.out.pr.res.c1
  have x2 := H2.out.pr.res.c2
  have x3 := H2.out.pr.res.c3
  have z0 := H2.out.pr.res.fz
  have xl := H2.out.pr.res.lt
  have y3 := H2.out.box.c3
  have y4 := H2.out.box.c4
  have y5 := H2.out.box.c5
  have y6 := H2.out.box.c6
  have yl := H2.out.box.lt
  have ne1 : ¬ D = w.heap.size := Nat.ne_of_gt H2.out.ne
  have ne2 : ¬ w.heap.size = D := Nat.ne_of_lt H2.out.ne
  go_wp2
  refine bodyPost_ret (v := .tuple #[.agg #[.bool O, .int .i64 F, .int .i64 R, .int .i64 T], .int .i64 E]) (by simp [results, Tryz.results12, go_sem, x0, x1, x2, x3]) rfl ⟨rfl, ?_⟩
  exact res4 H2.out.pr.below _ _ _ _
set_option maxRecDepth 100000 in
set_option maxHeartbeats 2000000 in
theorem raw_any (p b N : Nat) (root page : Int) (M : Nat → Nat → Int) (w : World) (h : Mx w p b N M) :
    Calls Tryz.prog 14 #[.pointer (some ⟨p, 0, none⟩), .int .i64 root, .int .i64 page] w fun x w' => x = .returned (.tuple #[.agg #[.bool (raO N M root page), .int .i64 (raF N M root page), .int .i64 (raR N M root page), .int .i64 (raT N M root page)], .int .i64 (raE N M root page)]) ∧ Below w.heap.size w w' := by
  have HE := hide (pr_new h)
  have HF : Hid (∀ wc, Mx wc p b N M → Calls Tryz.prog 34 #[.pointer (some ⟨p, 0, none⟩), .int .i64 root, .int .i64 page] wc fun x w' => x = .returned (.tuple #[.agg #[.pointer (fiP N M root page p), .int .i64 (lfF N M root page), .int .i64 (fiA N M root page), .bool (raO N M root page), .int .i64 (raF N M root page), .int .i64 (raR N M root page), .int .i64 (raT N M root page)], .int .i64 (raE N M root page)]) ∧ Below wc.heap.size wc w') := fun wc hc => find_any p b N root page M wc hc
  clear h
  generalize raE N M root page = E at HF ⊢
  generalize raO N M root page = O at HF ⊢
  generalize raF N M root page = F at HF ⊢
  generalize raR N M root page = R at HF ⊢
  generalize raT N M root page = T at HF ⊢
  generalize lfF N M root page = L at HF
  generalize fiA N M root page = A at HF
  generalize fiP N M root page p = P at HF
  go_enter Tryz.func14, Tryz.ntmps14
  go_upto_region 2 with (first
    | (go_at_call 34; refine (HF.out _ HE.out.mx).mono ?_; rintro e1 w1 ⟨rfl, hb⟩; have H1 := (HE.out.on hb).more P L A O F R T; clear hb HE)
    | fail)
  generalize w1.alloc _ = w2 at H1 ⊢
  generalize w1.heap.size = D at H1 ⊢
  have H2 := hide H1
  clear H1
  have x0 := H2.out.pr.res.c0
  have x1 := H2.out.pr.res.c1
  have x2 := H2.out.pr.res.c2
  have x3 := H2.out.pr.res.c3
  have z0 := H2.out.pr.res.fz
  have xl := H2.out.pr.res.lt
  have y3 := H2.out.box.c3
  have y4 := H2.out.box.c4
  have y5 := H2.out.box.c5
  have y6 := H2.out.box.c6
  have yl := H2.out.box.lt
  have ne1 : ¬ D = w.heap.size := Nat.ne_of_gt H2.out.ne
  have ne2 : ¬ w.heap.size = D := Nat.ne_of_lt H2.out.ne
  go_wp2
  refine bodyPost_ret (v := .tuple #[.agg #[.bool O, .int .i64 F, .int .i64 R, .int .i64 T], .int .i64 E]) (by simp [results, Tryz.results14, go_sem, x0, x1, x2, x3]) rfl ⟨rfl, ?_⟩
  exact res4 H2.out.pr.below _ _ _ _
/-! ### Map -/
theorem chk_on (f r : Int) : Ppte.chk true f r 0 = if okA f r = true then 0 else 1 := by
  by_cases h : okA f r = true
  · rw [if_pos h]; exact Ppte.chk_yes (rt_on h)
  · rw [if_neg h]
    refine Ppte.chk_no fun k => h ((okA_iff f r).2 ?_)
    have := k.1 rfl
    omega
theorem fl_map {N : Nat} {M : Nat → Nat → Int} {root page f r floor : Int} (ha : okA f r = true) (hE : raE N M root page = 0) :
    lfE N M root page = 0 ∧ flE N (lfF N M root page) (page % 32) (raO N M root page) (raF N M root page) (raR N M root page) (raT N M root page) true f r 0 floor = maE N M root page f r floor ∧ flM N M (lfF N M root page) (page % 32) (raO N M root page) (raF N M root page) (raR N M root page) (raT N M root page) true f r 0 floor = maM N M root page f r floor := by
  have hl : lfE N M root page = 0 := by
    unfold raE at hE
    by_cases k : lfE N M root page = 0
    · exact k
    · rw [if_neg k] at hE; exact hE
  have hk : okW N (lfF N M root page) (4 + page % 32) = true := by
    unfold raE at hE
    rw [if_pos hl] at hE
    exact en_ok hE
  have hq : Ppte.quB (raO N M root page) (raF N M root page) (raR N M root page) (raT N M root page) floor = enQ N M (lfF N M root page) (page % 32) floor := by
    unfold enQ raO raF raR raT
    rw [hl]
    simp
  have e1 : maE N M root page f r floor = if raO N M root page = true then 10 else if enQ N M (lfF N M root page) (page % 32) floor = true then 0 else 6 := by simp only [maE, ha, hE, if_true]
  refine ⟨hl, ?_, ?_⟩
  · unfold flE
    rw [e1, hq, seE_yes (rt_on ha) hk]
  · unfold flM maM
    rw [e1, hq]
    cases raO N M root page
    · cases enQ N M (lfF N M root page) (page % 32) floor <;> simp
    · simp
/-- A mapping beside a memory and the tables. -/
structure Mp (w0 w : World) (p b N : Nat) (M : Nat → Nat → Int) (D : Nat) (o : Bool) (g r t : Int) : Prop where
  mx : Mx w p b N M
  below : Below w0.heap.size w0 w
  pte : Ppte.BoxP w D o g r t
theorem Mp.on {w0 w w' : World} {p b N : Nat} {M : Nat → Nat → Int} {D : Nat} {o : Bool} {g r t : Int} (h : Mp w0 w p b N M D o g r t) (hB : Below w.heap.size w w') : Mp w0 w' p b N M D o g r t := ⟨h.mx.on hB, h.below.trans (hB.mono h.below.size), h.pte.on hB⟩
theorem mp_new {w : World} {p b N : Nat} {M : Nat → Nat → Int} (h : Mx w p b N M) (o : Bool) (g r t : Int) : Mp w (w.alloc (.cells #[.bool o, .int .i64 g, .int .i64 r, .int .i64 t] 42)) p b N M w.heap.size o g r t :=
  ⟨h.on (bal (Below.refl _ _) _), bal (Below.refl _ _) _, Ppte.boxP_new w o g r t 42⟩
theorem Mp.more {w0 w : World} {p b N : Nat} {M : Nat → Nat → Int} {D : Nat} {o : Bool} {g r t : Int} (h : Mp w0 w p b N M D o g r t) (q : Option Addr) (f a : Int) (o' : Bool) (g' r' t' : Int) : Eb w0 (w.alloc (.cells #[.pointer q, .int .i64 f, .int .i64 a, .bool o', .int .i64 g', .int .i64 r', .int .i64 t'] 76)) p b N M w.heap.size D q f a o' g' r' t' o g r t :=
  ⟨h.mx.on (bal (Below.refl _ _) _), bal h.below _, box7_new w q f a o' g' r' t' 76, h.pte.on (bal (Below.refl _ _) _)⟩
set_option maxRecDepth 100000 in
set_option maxHeartbeats 2000000 in
theorem map_any (p b N : Nat) (root page f r floor : Int) (M : Nat → Nat → Int) (w : World) (h : Mx w p b N M) :
    Calls Tryz.prog 20 #[.pointer (some ⟨p, 0, none⟩), .int .i64 root, .int .i64 page, .int .i64 f, .int .i64 r, .int .i64 floor] w fun x w' => x = .returned (.int .i64 (maE N M root page f r floor)) ∧ Mx w' p b N (maM N M root page f r floor) ∧ But b w w' := by
  have HE := mp_new h true f r 0
  have HC : Hid (∀ wc, Calls Tryz.prog 42 #[.agg #[.bool true, .int .i64 f, .int .i64 r, .int .i64 0]] wc fun e w' => e = .returned (.int .i64 (if okA f r = true then 0 else 1)) ∧ Below wc.heap.size wc w') := fun wc => by
    have := Ppte.check_any true f r 0 wc
    rwa [chk_on] at this
  have HF : Hid (∀ wc, Mx wc p b N M → Calls Tryz.prog 34 #[.pointer (some ⟨p, 0, none⟩), .int .i64 root, .int .i64 page] wc fun x w' => x = .returned (.tuple #[.agg #[.pointer (fiP N M root page p), .int .i64 (lfF N M root page), .int .i64 (fiA N M root page), .bool (raO N M root page), .int .i64 (raF N M root page), .int .i64 (raR N M root page), .int .i64 (raT N M root page)], .int .i64 (raE N M root page)]) ∧ Below wc.heap.size wc w') := fun wc hc => find_any p b N root page M wc hc
  clear h
  have eM : maM N M root page f r floor = if maE N M root page f r floor = 0 then seM N M (lfF N M root page) (page % 32) true f r 0 else M := rfl
  by_cases ha : okA f r = true
  case neg =>
    have e0 : maE N M root page f r floor = 1 := by simp [maE, ha]
    rw [eM, e0, if_neg (by decide)]
    rw [if_neg ha] at HC
    clear eM e0 ha HF
    go_enter Tryz.func20, Tryz.ntmps20
    go_upto_region 2 with fail
    generalize w.alloc _ = w1 at HE ⊢
    have H1 := hide HE
    clear HE
    have y0 := H1.out.pte.c0
    have y1 := H1.out.pte.c1
    have y2 := H1.out.pte.c2
    have y3 := H1.out.pte.c3
    go_wp2_with (first
      | (go_at_call 42; refine (HC.out _).mono ?_; rintro e2 w2 ⟨rfl, hb⟩; have H2 := hide (H1.out.on hb); clear hb)
      | fail)
    go_ret
    exact ⟨rfl, H2.out.mx, But.of_below b H2.out.below⟩
  rw [if_pos ha] at HC
  by_cases hE : raE N M root page = 0
  case neg =>
    have e0 : maE N M root page f r floor = raE N M root page := by simp [maE, ha, hE]
    rw [eM, e0, if_neg hE]
    generalize raE N M root page = E at HF hE ⊢
    generalize raO N M root page = O at HF
    generalize raF N M root page = F at HF
    generalize raR N M root page = R at HF
    generalize raT N M root page = T at HF
    generalize lfF N M root page = L at HF
    generalize fiA N M root page = A at HF
    generalize fiP N M root page p = P at HF
    have hE' : (E != 0) = true := by simp [hE]
    clear eM e0 ha hE
    go_enter Tryz.func20, Tryz.ntmps20
    go_upto_region 2 with fail
    generalize w.alloc _ = w1 at HE ⊢
    have H1 := hide HE
    clear HE
    have y0 := H1.out.pte.c0
    have y1 := H1.out.pte.c1
    have y2 := H1.out.pte.c2
    have y3 := H1.out.pte.c3
    go_upto_region 5 with (first
      | (go_at_call 42; refine (HC.out _).mono ?_; rintro e2 w2 ⟨rfl, hb⟩; have H2 := hide (H1.out.on hb); clear hb)
      | (go_at_call 34; refine (HF.out _ H2.out.mx).mono ?_; rintro e3 w3 ⟨rfl, hb⟩; have H3 := (H2.out.on hb).more P L A O F R T; clear hb)
      | fail)
    generalize w3.alloc _ = w4 at H3 ⊢
    have H4 := hide H3
    clear H3
    go_wp2
    go_ret
    exact ⟨rfl, H4.out.mx, But.of_below b H4.out.below⟩
  obtain ⟨hl, q1, q2⟩ := fl_map (floor := floor) ha hE
  have g5 : fiP N M root page p = some ⟨p, 0, none⟩ := by simp [fiP, hl]
  have g6 : fiA N M root page = 4 + page % 32 := by simp [fiA, hl]
  rw [g5, g6, hE] at HF
  rw [← q1, ← q2]
  clear eM q1 q2 g5 g6 hl hE ha
  have HP : Hid (∀ wc, Mx wc p b N M → Calls Tryz.prog 43 #[.agg #[.pointer (some ⟨p, 0, none⟩), .int .i64 (lfF N M root page), .int .i64 (4 + page % 32), .bool (raO N M root page), .int .i64 (raF N M root page), .int .i64 (raR N M root page), .int .i64 (raT N M root page)], .agg #[.bool true, .int .i64 f, .int .i64 r, .int .i64 0], .int .i64 floor] wc fun x w' => x = .returned (.int .i64 (flE N (lfF N M root page) (page % 32) (raO N M root page) (raF N M root page) (raR N M root page) (raT N M root page) true f r 0 floor)) ∧ Mx w' p b N (flM N M (lfF N M root page) (page % 32) (raO N M root page) (raF N M root page) (raR N M root page) (raT N M root page) true f r 0 floor) ∧ But b wc w') := fun wc hc => fill_any p b N (lfF N M root page) (page % 32) (raO N M root page) (raF N M root page) (raR N M root page) (raT N M root page) true f r 0 floor M wc hc
  generalize flE N (lfF N M root page) (page % 32) (raO N M root page) (raF N M root page) (raR N M root page) (raT N M root page) true f r 0 floor = E at HP ⊢
  generalize flM N M (lfF N M root page) (page % 32) (raO N M root page) (raF N M root page) (raR N M root page) (raT N M root page) true f r 0 floor = M' at HP ⊢
  generalize raO N M root page = O at HF HP
  generalize raF N M root page = F at HF HP
  generalize raR N M root page = R at HF HP
  generalize raT N M root page = T at HF HP
  generalize lfF N M root page = L at HF HP
  generalize 4 + page % 32 = A at HF HP
  go_enter Tryz.func20, Tryz.ntmps20
  go_upto_region 2 with fail
  generalize w.alloc _ = w1 at HE ⊢
  generalize hDD : w.heap.size = DD at HE ⊢
  have HDD := hide hDD
  clear hDD
  have H1 := hide HE
  clear HE
  have y0 := H1.out.pte.c0
  have y1 := H1.out.pte.c1
  have y2 := H1.out.pte.c2
  have y3 := H1.out.pte.c3
  go_upto_region 5 with (first
    | (go_at_call 42; refine (HC.out _).mono ?_; rintro e2 w2 ⟨rfl, hb⟩; have H2 := hide (H1.out.on hb); clear hb H1 y0 y1 y2 y3)
    | (go_at_call 34; refine (HF.out _ H2.out.mx).mono ?_; rintro e3 w3 ⟨rfl, hb⟩; have H3 := (H2.out.on hb).more (some ⟨p, 0, none⟩) L A O F R T; clear hb H2)
    | fail)
  generalize w3.alloc _ = w4 at H3 ⊢
  generalize w3.heap.size = D at H3 ⊢
  have H4 := hide H3
  clear H3
  have x0 := H4.out.ent.c0
  have x1 := H4.out.ent.c1
  have x2 := H4.out.ent.c2
  have x3 := H4.out.ent.c3
  have x4 := H4.out.ent.c4
  have x5 := H4.out.ent.c5
  have x6 := H4.out.ent.c6
  have y0 := H4.out.pte.c0
  have y1 := H4.out.pte.c1
  have y2 := H4.out.pte.c2
  have y3 := H4.out.pte.c3
  go_wp2_with (first
    | (go_at_call 43; refine (HP.out _ H4.out.mx).mono ?_; rintro e5 w5 ⟨rfl, hm, hb⟩; have H5 := hide (And.intro hm ((But.of_below b H4.out.below).trans hb)); clear hm hb)
    | fail)
  go_ret
  exact ⟨rfl, H5.out⟩
end Go.Proofs.YtfmkhjbahgcgiaaGreatDoor.Ppgtbl
