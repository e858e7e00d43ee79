/- Entries of tables of mappings: read, find, walk, put and fill of package pgtbl, for every argument. -/
import Derived.Test.YtfmkhjbahgcgiaaGreatDoorPgtA
namespace Go.Proofs.YtfmkhjbahgcgiaaGreatDoor.Ppgtbl
open Go.Proofs.YtfmkhjbahgcgiaaGreatDoor.Pbase Go.Proofs.YtfmkhjbahgcgiaaGreatDoor.Pmem Go.Proofs.YtfmkhjbahgcgiaaGreatDoor.Pradix
open Go.RowKit
set_option linter.unusedVariables false

/-! ### an entry in a block -/
structure Box7 (w : World) (B : Nat) (q : Option Addr) (f a : Int) (o : Bool) (g r t : Int) : Prop where
  lt : B < w.heap.size
  c0 : w.cell? ⟨B, 0, none⟩ = some (.pointer q)
  c1 : w.cell? ⟨B, 1, none⟩ = some (.int .i64 f)
  c2 : w.cell? ⟨B, 2, none⟩ = some (.int .i64 a)
  c3 : w.cell? ⟨B, 3, none⟩ = some (.bool o)
  c4 : w.cell? ⟨B, 4, none⟩ = some (.int .i64 g)
  c5 : w.cell? ⟨B, 5, none⟩ = some (.int .i64 r)
  c6 : w.cell? ⟨B, 6, none⟩ = some (.int .i64 t)
  fz : ∀ j, w.frozen? ⟨B, j, none⟩ = false
theorem Box7.on {w w' : World} {B : Nat} {q : Option Addr} {f a : Int} {o : Bool} {g r t : Int} (h : Box7 w B q f a o g r t) (hB : Below w.heap.size w w') : Box7 w' B q f a o g r t :=
  ⟨Nat.lt_of_lt_of_le h.lt hB.size, (hB.cell (p := ⟨B, 0, none⟩) h.lt).trans h.c0, (hB.cell (p := ⟨B, 1, none⟩) h.lt).trans h.c1, (hB.cell (p := ⟨B, 2, none⟩) h.lt).trans h.c2, (hB.cell (p := ⟨B, 3, none⟩) h.lt).trans h.c3, (hB.cell (p := ⟨B, 4, none⟩) h.lt).trans h.c4, (hB.cell (p := ⟨B, 5, none⟩) h.lt).trans h.c5, (hB.cell (p := ⟨B, 6, none⟩) h.lt).trans h.c6, fun j => (hB.frozen (p := ⟨B, j, none⟩) h.lt).trans (h.fz j)⟩
theorem Box7.but {w w' : World} {B q0 : Nat} {q : Option Addr} {f a : Int} {o : Bool} {g r t : Int} (h : Box7 w B q f a o g r t) (hB : But q0 w w') (hn : B ≠ q0) : Box7 w' B q f a o g r t :=
  ⟨Nat.lt_of_lt_of_le h.lt hB.size, (hB.cell h.lt hn).trans h.c0, (hB.cell h.lt hn).trans h.c1, (hB.cell h.lt hn).trans h.c2, (hB.cell h.lt hn).trans h.c3, (hB.cell h.lt hn).trans h.c4, (hB.cell h.lt hn).trans h.c5, (hB.cell h.lt hn).trans h.c6, fun j => (hB.frozen h.lt hn).trans (h.fz j)⟩
theorem box7_new (w : World) (q : Option Addr) (f a : Int) (o : Bool) (g r t : Int) (ty : TypeId) : Box7 (w.alloc (.cells #[.pointer q, .int .i64 f, .int .i64 a, .bool o, .int .i64 g, .int .i64 r, .int .i64 t] ty)) w.heap.size q f a o g r t := by
  have h := heap_alloc_new w (.cells #[.pointer q, .int .i64 f, .int .i64 a, .bool o, .int .i64 g, .int .i64 r, .int .i64 t] ty)
  refine ⟨by simp, ?_, ?_, ?_, ?_, ?_, ?_, ?_, fun j => frozen_of_row _ _ _ _ _ h⟩ <;> (rw [cell_of_row _ _ _ _ _ _ h]; rfl)
/-- The result's block, beside a memory and the tables. -/
structure Er (w0 w : World) (p b N : Nat) (M : Nat → Nat → Int) : Prop where
  mx : Mx w p b N M
  below : Below w0.heap.size w0 w
  res : Box7 w w0.heap.size none 0 0 false 0 0 0
theorem Er.on {w0 w w' : World} {p b N : Nat} {M : Nat → Nat → Int} (h : Er w0 w p b N M) (hB : Below w.heap.size w w') : Er w0 w' p b N M := ⟨h.mx.on hB, h.below.trans (hB.mono h.below.size), h.res.on hB⟩
theorem er_new {w : World} {p b N : Nat} {M : Nat → Nat → Int} (h : Mx w p b N M) : Er w (w.alloc (.cells #[.pointer none, .int .i64 0, .int .i64 0, .bool false, .int .i64 0, .int .i64 0, .int .i64 0] 76)) p b N M :=
  ⟨h.on (bal (Below.refl _ _) _), bal (Below.refl _ _) _, box7_new w none 0 0 false 0 0 0 76⟩
/-- An entry that was read, beside it. -/
structure Ep (w0 w : World) (p b N : Nat) (M : Nat → Nat → Int) (D : Nat) (q : Option Addr) (f a : Int) (o : Bool) (g r t : Int) : Prop where
  er : Er w0 w p b N M
  box : Box7 w D q f a o g r t
  ne : w0.heap.size < D
theorem Ep.on {w0 w w' : World} {p b N : Nat} {M : Nat → Nat → Int} {D : Nat} {q : Option Addr} {f a : Int} {o : Bool} {g r t : Int} (h : Ep w0 w p b N M D q f a o g r t) (hB : Below w.heap.size w w') : Ep w0 w' p b N M D q f a o g r t := ⟨h.er.on hB, h.box.on hB, h.ne⟩
theorem Er.more {w0 w : World} {p b N : Nat} {M : Nat → Nat → Int} (h : Er w0 w p b N M) (q : Option Addr) (f a : Int) (o : Bool) (g r t : Int) : Ep w0 (w.alloc (.cells #[.pointer q, .int .i64 f, .int .i64 a, .bool o, .int .i64 g, .int .i64 r, .int .i64 t] 76)) p b N M w.heap.size q f a o g r t :=
  ⟨h.on (bal (Below.refl _ _) _), box7_new w q f a o g r t 76, h.res.lt⟩
theorem res7 {w0 w : World} (h : Below w0.heap.size w0 w) (a b c d e f g : Value) : Below w0.heap.size w0 (((((((w.setCell ⟨w0.heap.size, 0, none⟩ a).setCell ⟨w0.heap.size, 1, none⟩ b).setCell ⟨w0.heap.size, 2, none⟩ c).setCell ⟨w0.heap.size, 3, none⟩ d).setCell ⟨w0.heap.size, 4, none⟩ e).setCell ⟨w0.heap.size, 5, none⟩ f).setCell ⟨w0.heap.size, 6, none⟩ g) :=
  bst (bst (bst (bst (bst (bst (bst h (Nat.le_refl _) _ _) (Nat.le_refl _) _ _) (Nat.le_refl _) _ _) (Nat.le_refl _) _ _) (Nat.le_refl _) _ _) (Nat.le_refl _) _ _) (Nat.le_refl _) _ _
theorem mid4 {w0 w : World} (h : Below w0.heap.size w0 w) {D : Nat} (hD : w0.heap.size < D) (a b c d : Value) : Below w0.heap.size w0 ((((w.setCell ⟨D, 3, none⟩ a).setCell ⟨D, 4, none⟩ b).setCell ⟨D, 5, none⟩ c).setCell ⟨D, 6, none⟩ d) :=
  bst (bst (bst (bst h (Nat.le_of_lt hD) _ _) (Nat.le_of_lt hD) _ _) (Nat.le_of_lt hD) _ _) (Nat.le_of_lt hD) _ _
theorem ld_bd {N : Nat} {M : Nat → Nat → Int} (hF : Fit M) (f a : Int) : 0 ≤ ldM N M f a ∧ ldM N M f a ≤ 18446744073709551615 := by
  unfold ldM
  split
  · exact hF _ _
  · omega
/-! ### read -/
set_option maxRecDepth 100000 in
set_option maxHeartbeats 2000000 in
theorem read_any (p b N : Nat) (f i : Int) (M : Nat → Nat → Int) (w : World) (h : Mx w p b N M) (hi : 0 ≤ i ∧ i < 32) :
    Calls Tryz.prog 50 #[.pointer (some ⟨p, 0, none⟩), .int .i64 f, .int .i64 i] w fun x w' => x = .returned (.tuple #[.agg #[.pointer (some ⟨p, 0, none⟩), .int .i64 f, .int .i64 (4 + i), .bool (enO N M f i), .int .i64 (enF N M f i), .int .i64 (enR N M f i), .int .i64 (enT N M f i)], .int .i64 (enE N M f i)]) ∧ Below w.heap.size w w' := by
  obtain ⟨h0, h1⟩ := hi
  have hw : wrap64 (4 + i) = 4 + i := by unfold wrap64; omega
  have HL : Hid (∀ wc, Mx wc p b N M → Calls Tryz.prog 71 #[.pointer (some ⟨p, 0, none⟩), .int .i64 f, .int .i64 (4 + i)] wc fun x w' => x = .returned (.tuple #[.int .u64 (ldM N M f (4 + i)), .int .i64 (errW N f (4 + i))]) ∧ w' = wc) := fun wc hc => load_any p b N f (4 + i) M wc hc.n1 hc.n64 hc.mem
  have hbd := ld_bd (N := N) h.fit f (4 + i)
  have HE := (er_new h).more (some ⟨p, 0, none⟩) f (4 + i) false 0 0 0
  rw [World.size_alloc] at HE
  clear h
  by_cases hk : okW N f (4 + i) = true
  case neg =>
    have e0 : enE N M f i ≠ 0 := by unfold enE; rw [if_neg hk]; decide
    obtain ⟨e1, e2, e3, e4⟩ := en_none e0
    have e5 : enE N M f i = 1 := by unfold enE; rw [if_neg hk]
    rw [e1, e2, e3, e4, e5]
    have e6 : errW N f (4 + i) = 1 := by unfold errW; rw [if_neg hk]
    rw [e6] at HL
    clear e0 e1 e2 e3 e4 e5 e6 hk hbd
    go_enter Tryz.func50, Tryz.ntmps50
    go_upto_region 2 with fail
    generalize (w.alloc _).alloc _ = w1 at HE ⊢
    generalize w.heap.size + 1 = D at HE ⊢
    have H1 := hide HE
    clear HE
    have y0 := H1.out.box.c0
    have y1 := H1.out.box.c1
    have y2 := H1.out.box.c2
    have y3 := H1.out.box.c3
    have y4 := H1.out.box.c4
    have y5 := H1.out.box.c5
    have y6 := H1.out.box.c6
    have x0 := H1.out.er.res.c0
    have x1 := H1.out.er.res.c1
    have x2 := H1.out.er.res.c2
    have x3 := H1.out.er.res.c3
    have x4 := H1.out.er.res.c4
    have x5 := H1.out.er.res.c5
    have x6 := H1.out.er.res.c6
    have z0 := H1.out.er.res.fz
    have ne1 : ¬ D = w.heap.size := Nat.ne_of_gt H1.out.ne
    have ne2 : ¬ w.heap.size = D := Nat.ne_of_lt H1.out.ne
    go_wp2_with (first
      | (go_at_call 71; refine (HL.out _ H1.out.er.mx).mono ?_; rintro e1 w2 ⟨rfl, hw2⟩; subst hw2)
      | fail)
    refine bodyPost_ret (v := .tuple #[.agg #[.pointer (some ⟨p, 0, none⟩), .int .i64 f, .int .i64 (4 + i), .bool false, .int .i64 0, .int .i64 0, .int .i64 0], .int .i64 1]) (by simp [results, Tryz.results50, go_sem, x0, x1, x2, x3, x4, x5, x6]) rfl ⟨rfl, ?_⟩
    exact res7 H1.out.er.below _ _ _ _ _ _ _
  case pos =>
  have e5 : enE N M f i = Ppte.getE (enW N M f i) := by unfold enE; rw [if_pos hk]
  have e6 : errW N f (4 + i) = 0 := by unfold errW; rw [if_pos hk]
  rw [e5]
  rw [e6] at HL
  unfold enO enF enR enT enW
  generalize ldM N M f (4 + i) = x at HL hbd ⊢
  have HG : Hid (∀ wc, Mx wc p b N M → Calls Tryz.prog 72 #[.int .u64 x] wc fun v w' => v = .returned (.tuple #[.agg #[.bool (Ppte.getO x), .int .i64 (Ppte.getF x), .int .i64 (Ppte.getR x), .int .i64 (Ppte.getT x)], .int .i64 (Ppte.getE x)]) ∧ Below wc.heap.size wc w') := fun wc hc => Ppte.get_any x wc hbd hc.tb.tp
  clear e5 e6 hk hbd
  generalize Ppte.getO x = go at HG ⊢
  generalize Ppte.getF x = gf at HG ⊢
  generalize Ppte.getR x = gr at HG ⊢
  generalize Ppte.getT x = gt at HG ⊢
  generalize Ppte.getE x = ge at HG ⊢
  go_enter Tryz.func50, Tryz.ntmps50
  go_upto_region 2 with fail
  generalize (w.alloc _).alloc _ = w1 at HE ⊢
  generalize w.heap.size + 1 = D at HE ⊢
  have H1 := hide HE
  clear HE
  have y0 := H1.out.box.c0
  have y1 := H1.out.box.c1
  have y2 := H1.out.box.c2
  have ne1 : ¬ D = w.heap.size := Nat.ne_of_gt H1.out.ne
  have ne2 : ¬ w.heap.size = D := Nat.ne_of_lt H1.out.ne
  go_wp2_with (first
    | (go_at_call 71; refine (HL.out _ H1.out.er.mx).mono ?_; rintro e1 w2 ⟨rfl, hw2⟩; subst hw2)
    | (go_at_call 72; refine (HG.out _ H1.out.er.mx).mono ?_; rintro e2 w3 ⟨rfl, hb⟩; have H3 := hide (H1.out.on hb); clear hb H1 y0 y1 y2; have y0 := H3.out.box.c0; have y1 := H3.out.box.c1; have y2 := H3.out.box.c2; have y3 := H3.out.box.c3; have y4 := H3.out.box.c4; have y5 := H3.out.box.c5; have y6 := H3.out.box.c6; have x0 := H3.out.er.res.c0; have x1 := H3.out.er.res.c1; have x2 := H3.out.er.res.c2; have x3 := H3.out.er.res.c3; have x4 := H3.out.er.res.c4; have x5 := H3.out.er.res.c5; have x6 := H3.out.er.res.c6; have z0 := H3.out.er.res.fz; have z1 := H3.out.box.fz; have xl := H3.out.er.res.lt; have yl := H3.out.box.lt)
    | fail)
  refine bodyPost_ret (v := .tuple #[.agg #[.pointer (some ⟨p, 0, none⟩), .int .i64 f, .int .i64 (4 + i), .bool go, .int .i64 gf, .int .i64 gr, .int .i64 gt], .int .i64 ge]) (by simp [results, Tryz.results50, go_sem, x0, x1, x2, x3, x4, x5, x6]) rfl ⟨rfl, ?_⟩
  exact res7 (mid4 H3.out.er.below H3.out.ne _ _ _ _) _ _ _ _ _ _ _
/-! ### find -/
def fiP (N : Nat) (M : Nat → Nat → Int) (root page : Int) (p : Nat) : Option Addr := if lfE N M root page = 0 then some ⟨p, 0, none⟩ else none
def fiA (N : Nat) (M : Nat → Nat → Int) (root page : Int) : Int := if lfE N M root page = 0 then 4 + page % 32 else 0
set_option maxRecDepth 100000 in
set_option maxHeartbeats 4000000 in
theorem find_any (p b N : Nat) (root page : Int) (M : Nat → Nat → Int) (w : World) (h : Mx w p b N M) :
    Calls Tryz.prog 34 #[.pointer (some ⟨p, 0, none⟩), .int .i64 root, .int .i64 page] w fun x w' => x = .returned (.tuple #[.agg #[.pointer (fiP N M root page p), .int .i64 (lfF N M root page), .int .i64 (fiA N M root page), .bool (raO N M root page), .int .i64 (raF N M root page), .int .i64 (raR N M root page), .int .i64 (raT N M root page)], .int .i64 (raE N M root page)]) ∧ Below w.heap.size w w' := by
  have HE := hide (er_new h)
  have HC : Hid (∀ wc, Mx wc p b N M → Calls Tryz.prog 53 #[.int .i64 page] wc fun x w' => x = .returned (.tuple #[.int .i64 (cuH page), .int .i64 (cuL page), .int .i64 (cuE page)]) ∧ Below wc.heap.size wc w') := fun wc hc => cut_any page wc hc.tb
  have HT : Hid (∀ wc, Mx wc p b N M → Calls Tryz.prog 49 #[.pointer (some ⟨p, 0, none⟩), .int .i64 root, .int .i64 0] wc fun x w' => x = .returned (.bool (tbB N M root 0)) ∧ Below wc.heap.size wc w') := fun wc hc => isTable_any p b N root 0 M wc hc
  clear h
  have hno : ∀ E, lfE N M root page = E → E ≠ 0 → raE N M root page = E ∧ raO N M root page = false ∧ raF N M root page = 0 ∧ raR N M root page = 0 ∧ raT N M root page = 0 ∧ fiP N M root page p = none ∧ lfF N M root page = 0 ∧ fiA N M root page = 0 := fun E e hE => by
    subst e
    simp [raE, raO, raF, raR, raT, fiP, lfF, fiA, hE]
  by_cases hg : okG page = true
  case neg =>
    have e0 : lfE N M root page = 1 := by simp [lfE, hg]
    obtain ⟨f0, f1, f2, f3, f4, f5, f6, f7⟩ := hno 1 e0 (by decide)
    rw [f0, f1, f2, f3, f4, f5, f6, f7]
    have c1 : cuH page = 0 := by simp [cuH, hg]
    have c2 : cuL page = 0 := by simp [cuL, hg]
    have c3 : cuE page = 1 := by simp [cuE, hg]
    rw [c1, c2, c3] at HC
    clear hno e0 f0 f1 f2 f3 f4 f5 f6 f7 c1 c2 c3 hg HT
    go_enter Tryz.func34, Tryz.ntmps34
    go_wp2_with (first
      | (go_at_call 53; refine (HC.out _ HE.out.mx).mono ?_; rintro e1 w1 ⟨rfl, hb⟩; have H1 := hide (HE.out.on hb); clear hb HE; have x0 := H1.out.res.c0; have x1 := H1.out.res.c1; have x2 := H1.out.res.c2; have x3 := H1.out.res.c3; have x4 := H1.out.res.c4; have x5 := H1.out.res.c5; have x6 := H1.out.res.c6; have z0 := H1.out.res.fz; have xl := H1.out.res.lt)
      | fail)
    refine bodyPost_ret (v := .tuple #[.agg #[.pointer none, .int .i64 0, .int .i64 0, .bool false, .int .i64 0, .int .i64 0, .int .i64 0], .int .i64 1]) (by simp [results, Tryz.results34, go_sem, x0, x1, x2, x3, x4, x5, x6]) rfl ⟨rfl, ?_⟩
    exact res7 H1.out.below _ _ _ _ _ _ _
  have hp := (okG_iff page).1 hg
  have c1 : cuH page = page / 32 := by simp [cuH, hg]
  have c2 : cuL page = page % 32 := by simp [cuL, hg]
  have c3 : cuE page = 0 := by simp [cuE, hg]
  rw [c1, c2, c3] at HC
  clear c1 c2 c3
  by_cases h2 : tbB N M root 0 = true
  case neg =>
    have e0 : lfE N M root page = 4 := by simp [lfE, hg, h2]
    obtain ⟨f0, f1, f2, f3, f4, f5, f6, f7⟩ := hno 4 e0 (by decide)
    rw [f0, f1, f2, f3, f4, f5, f6, f7]
    rw [show tbB N M root 0 = false by simpa using h2] at HT
    clear hno e0 f0 f1 f2 f3 f4 f5 f6 f7 hg h2 hp
    generalize page / 32 = X at HC
    generalize page % 32 = Y at HC
    go_enter Tryz.func34, Tryz.ntmps34
    go_wp2_with (first
      | (go_at_call 53; refine (HC.out _ HE.out.mx).mono ?_; rintro e1 w1 ⟨rfl, hb⟩; have H1 := hide (HE.out.on hb); clear hb HE)
      | (go_at_call 49; refine (HT.out _ H1.out.mx).mono ?_; rintro e2 w2 ⟨rfl, hb⟩; have H2 := hide (H1.out.on hb); clear hb H1; have x0 := H2.out.res.c0; have x1 := H2.out.res.c1; have x2 := H2.out.res.c2; have x3 := H2.out.res.c3; have x4 := H2.out.res.c4; have x5 := H2.out.res.c5; have x6 := H2.out.res.c6; have z0 := H2.out.res.fz; have xl := H2.out.res.lt)
      | fail)
    refine bodyPost_ret (v := .tuple #[.agg #[.pointer none, .int .i64 0, .int .i64 0, .bool false, .int .i64 0, .int .i64 0, .int .i64 0], .int .i64 4]) (by simp [results, Tryz.results34, go_sem, x0, x1, x2, x3, x4, x5, x6]) rfl ⟨rfl, ?_⟩
    exact res7 H2.out.below _ _ _ _ _ _ _
  have hx : 0 ≤ page / 32 ∧ page / 32 < 32 := by omega
  have hy : 0 ≤ page % 32 ∧ page % 32 < 32 := by omega
  have HR : Hid (∀ wc, Mx wc p b N M → Calls Tryz.prog 50 #[.pointer (some ⟨p, 0, none⟩), .int .i64 root, .int .i64 (page / 32)] wc fun x w' => x = .returned (.tuple #[.agg #[.pointer (some ⟨p, 0, none⟩), .int .i64 root, .int .i64 (4 + page / 32), .bool (enO N M root (page / 32)), .int .i64 (enF N M root (page / 32)), .int .i64 (enR N M root (page / 32)), .int .i64 (enT N M root (page / 32))], .int .i64 (enE N M root (page / 32))]) ∧ Below wc.heap.size wc w') := fun wc hc => read_any p b N root (page / 32) M wc hc hx
  rw [h2] at HT
  have eL : lfE N M root page = if enE N M root (page / 32) = 0 ∧ enO N M root (page / 32) = true then if tbB N M (enF N M root (page / 32)) 1 = true then 0 else 4 else 9 := by simp only [lfE, hg, h2, if_true]
  by_cases h3 : enE N M root (page / 32) = 0 ∧ enO N M root (page / 32) = true
  case neg =>
    have e0 : lfE N M root page = 9 := by rw [eL, if_neg h3]
    obtain ⟨f0, f1, f2, f3, f4, f5, f6, f7⟩ := hno 9 e0 (by decide)
    rw [f0, f1, f2, f3, f4, f5, f6, f7]
    clear hno e0 f0 f1 f2 f3 f4 f5 f6 f7 hg h2 hp hx hy eL
    generalize enO N M root (page / 32) = O at HR h3
    generalize enF N M root (page / 32) = F at HR
    generalize enR N M root (page / 32) = R at HR
    generalize enT N M root (page / 32) = T at HR
    generalize enE N M root (page / 32) = E at HR h3
    generalize page / 32 = X at HC HR
    generalize page % 32 = Y at HC
    have hc : (E != 0) = true ∨ (E = 0 ∧ O = false) := by
      by_cases hE : E = 0
      · exact .inr ⟨hE, by cases O; rfl; exact absurd ⟨hE, rfl⟩ h3⟩
      · exact .inl (by simp [hE])
    clear h3
    go_enter Tryz.func34, Tryz.ntmps34
    go_upto_region 7 with (first
      | (go_at_call 53; refine (HC.out _ HE.out.mx).mono ?_; rintro e1 w1 ⟨rfl, hb⟩; have H1 := hide (HE.out.on hb); clear hb HE)
      | (go_at_call 49; refine (HT.out _ H1.out.mx).mono ?_; rintro e2 w2 ⟨rfl, hb⟩; have H2 := hide (H1.out.on hb); clear hb H1)
      | (go_at_call 50; refine (HR.out _ H2.out.mx).mono ?_; rintro e3 w3 ⟨rfl, hb⟩; have H3 := (H2.out.on hb).more (some ⟨p, 0, none⟩) root (4 + X) O F R T; clear hb H2)
      | fail)
    generalize w3.alloc _ = w4 at H3 ⊢
    generalize w3.heap.size = D at H3 ⊢
    clear HR HC HT
    rcases hc with hE | ⟨rfl, rfl⟩
    all_goals
      have H4 := hide H3
      clear H3
      have x0 := H4.out.er.res.c0
      have x1 := H4.out.er.res.c1
      have x2 := H4.out.er.res.c2
      have x3 := H4.out.er.res.c3
      have x4 := H4.out.er.res.c4
      have x5 := H4.out.er.res.c5
      have x6 := H4.out.er.res.c6
      have z0 := H4.out.er.res.fz
      have xl := H4.out.er.res.lt
      have y3 := H4.out.box.c3
      have yl := H4.out.box.lt
      go_wp2
      refine bodyPost_ret (v := .tuple #[.agg #[.pointer none, .int .i64 0, .int .i64 0, .bool false, .int .i64 0, .int .i64 0, .int .i64 0], .int .i64 9]) (by simp [results, Tryz.results34, go_sem, x0, x1, x2, x3, x4, x5, x6]) rfl ⟨rfl, ?_⟩
      exact res7 H4.out.er.below _ _ _ _ _ _ _
  rw [if_pos h3] at eL
  have HU : Hid (∀ wc, Mx wc p b N M → Calls Tryz.prog 49 #[.pointer (some ⟨p, 0, none⟩), .int .i64 (enF N M root (page / 32)), .int .i64 1] wc fun x w' => x = .returned (.bool (tbB N M (enF N M root (page / 32)) 1)) ∧ Below wc.heap.size wc w') := fun wc hc => isTable_any p b N _ 1 M wc hc
  rw [h3.1, h3.2] at HR
  by_cases h4 : tbB N M (enF N M root (page / 32)) 1 = true
  case neg =>
    have e0 : lfE N M root page = 4 := by rw [eL, if_neg h4]
    obtain ⟨f0, f1, f2, f3, f4, f5, f6, f7⟩ := hno 4 e0 (by decide)
    rw [f0, f1, f2, f3, f4, f5, f6, f7]
    rw [show tbB N M (enF N M root (page / 32)) 1 = false by simpa using h4] at HU
    clear hno e0 f0 f1 f2 f3 f4 f5 f6 f7 hg h2 hp hx hy eL h3 h4
    generalize enF N M root (page / 32) = F at HR HU
    generalize enR N M root (page / 32) = R at HR
    generalize enT N M root (page / 32) = T at HR
    generalize page / 32 = X at HC HR
    generalize page % 32 = Y at HC
    have t1 : True := trivial
    go_enter Tryz.func34, Tryz.ntmps34
    go_upto_region 7 with (first
      | (go_at_call 53; refine (HC.out _ HE.out.mx).mono ?_; rintro e1 w1 ⟨rfl, hb⟩; have H1 := hide (HE.out.on hb); clear hb HE)
      | (go_at_call 49; clear t1; refine (HT.out _ H1.out.mx).mono ?_; rintro e2 w2 ⟨rfl, hb⟩; have H2 := hide (H1.out.on hb); clear hb H1)
      | (go_at_call 50; refine (HR.out _ H2.out.mx).mono ?_; rintro e3 w3 ⟨rfl, hb⟩; have H3 := (H2.out.on hb).more (some ⟨p, 0, none⟩) root (4 + X) true F R T; clear hb H2)
      | fail)
    generalize w3.alloc _ = w4 at H3 ⊢
    generalize w3.heap.size = D at H3 ⊢
    have H4 := hide H3
    clear H3 HT
    have y3 := H4.out.box.c3
    have y4 := H4.out.box.c4
    have yl := H4.out.box.lt
    go_wp2_with (first
      | (go_at_call 49; refine (HU.out _ H4.out.er.mx).mono ?_; rintro e5 w5 ⟨rfl, hb⟩; have H5 := hide (H4.out.on hb); clear hb H4 y3 y4 yl; have x0 := H5.out.er.res.c0; have x1 := H5.out.er.res.c1; have x2 := H5.out.er.res.c2; have x3 := H5.out.er.res.c3; have x4 := H5.out.er.res.c4; have x5 := H5.out.er.res.c5; have x6 := H5.out.er.res.c6; have z0 := H5.out.er.res.fz; have xl := H5.out.er.res.lt)
      | fail)
    refine bodyPost_ret (v := .tuple #[.agg #[.pointer none, .int .i64 0, .int .i64 0, .bool false, .int .i64 0, .int .i64 0, .int .i64 0], .int .i64 4]) (by simp [results, Tryz.results34, go_sem, x0, x1, x2, x3, x4, x5, x6]) rfl ⟨rfl, ?_⟩
    exact res7 H5.out.er.below _ _ _ _ _ _ _
  rw [if_pos h4] at eL
  rw [h4] at HU
  have eF : lfF N M root page = enF N M root (page / 32) := by simp [lfF, eL]
  have g0 : raE N M root page = enE N M (lfF N M root page) (page % 32) := by simp [raE, eL]
  have g1 : raO N M root page = enO N M (lfF N M root page) (page % 32) := by simp [raO, eL]
  have g2 : raF N M root page = enF N M (lfF N M root page) (page % 32) := by simp [raF, eL]
  have g3 : raR N M root page = enR N M (lfF N M root page) (page % 32) := by simp [raR, eL]
  have g4 : raT N M root page = enT N M (lfF N M root page) (page % 32) := by simp [raT, eL]
  have g5 : fiP N M root page p = some ⟨p, 0, none⟩ := by simp [fiP, eL]
  have g6 : fiA N M root page = 4 + page % 32 := by simp [fiA, eL]
  rw [g0, g1, g2, g3, g4, g5, g6, eF]
  clear g0 g1 g2 g3 g4 g5 g6 eF eL h4 h3 h2 hg hno hp hx
  generalize enF N M root (page / 32) = F at HR HU ⊢
  generalize enR N M root (page / 32) = R at HR
  generalize enT N M root (page / 32) = T at HR
  generalize page / 32 = X at HC HR
  generalize page % 32 = Y at HC hy ⊢
  have HV : Hid (∀ wc, Mx wc p b N M → Calls Tryz.prog 50 #[.pointer (some ⟨p, 0, none⟩), .int .i64 F, .int .i64 Y] wc fun x w' => x = .returned (.tuple #[.agg #[.pointer (some ⟨p, 0, none⟩), .int .i64 F, .int .i64 (4 + Y), .bool (enO N M F Y), .int .i64 (enF N M F Y), .int .i64 (enR N M F Y), .int .i64 (enT N M F Y)], .int .i64 (enE N M F Y)]) ∧ Below wc.heap.size wc w') := fun wc hc => read_any p b N F Y M wc hc hy
  clear hy
  generalize enO N M F Y = O2 at HV ⊢
  generalize enF N M F Y = F2 at HV ⊢
  generalize enR N M F Y = R2 at HV ⊢
  generalize enT N M F Y = T2 at HV ⊢
  generalize enE N M F Y = E2 at HV ⊢
  have t1 : True := trivial
  go_enter Tryz.func34, Tryz.ntmps34
  go_upto_region 7 with (first
    | (go_at_call 53; refine (HC.out _ HE.out.mx).mono ?_; rintro e1 w1 ⟨rfl, hb⟩; have H1 := hide (HE.out.on hb); clear hb HE)
    | (go_at_call 49; clear t1; refine (HT.out _ H1.out.mx).mono ?_; rintro e2 w2 ⟨rfl, hb⟩; have H2 := hide (H1.out.on hb); clear hb H1)
    | (go_at_call 50; refine (HR.out _ H2.out.mx).mono ?_; rintro e3 w3 ⟨rfl, hb⟩; have H3 := (H2.out.on hb).more (some ⟨p, 0, none⟩) root (4 + X) true F R T; clear hb H2)
    | fail)
  generalize w3.alloc _ = w4 at H3 ⊢
  generalize w3.heap.size = D at H3 ⊢
  have H4 := hide H3
  clear H3 HT HR
  have y3 := H4.out.box.c3
  have y4 := H4.out.box.c4
  have yl := H4.out.box.lt
  go_wp2_with (first
    | (go_at_call 49; refine (HU.out _ H4.out.er.mx).mono ?_; rintro e5 w5 ⟨rfl, hb⟩; have H5 := hide (H4.out.on hb); clear hb H4 y3 y4 yl; have y3 := H5.out.box.c3; have y4 := H5.out.box.c4; have yl := H5.out.box.lt)
    | (go_at_call 50; refine (HV.out _ H5.out.er.mx).mono ?_; rintro e6 w6 ⟨rfl, hb⟩; have H6 := hide (H5.out.on hb); clear hb H5 y3 y4 yl; have x0 := H6.out.er.res.c0; have x1 := H6.out.er.res.c1; have x2 := H6.out.er.res.c2; have x3 := H6.out.er.res.c3; have x4 := H6.out.er.res.c4; have x5 := H6.out.er.res.c5; have x6 := H6.out.er.res.c6; have z0 := H6.out.er.res.fz; have xl := H6.out.er.res.lt)
    | fail)
  refine bodyPost_ret (v := .tuple #[.agg #[.pointer (some ⟨p, 0, none⟩), .int .i64 F, .int .i64 (4 + Y), .bool O2, .int .i64 F2, .int .i64 R2, .int .i64 T2], .int .i64 E2]) (by simp [results, Tryz.results34, go_sem, x0, x1, x2, x3, x4, x5, x6]) rfl ⟨rfl, ?_⟩
  exact res7 H6.out.er.below _ _ _ _ _ _ _
/-! ### walk -/
def waP (N : Nat) (M : Nat → Nat → Int) (root page : Int) (p : Nat) : Option Addr := if wkE N M root page = 0 then some ⟨p, 0, none⟩ else none
def waF (N : Nat) (M : Nat → Nat → Int) (root page : Int) : Int := if wkE N M root page = 0 then lfF N M root page else 0
def waA (N : Nat) (M : Nat → Nat → Int) (root page : Int) : Int := if wkE N M root page = 0 then 4 + page % 32 else 0
theorem wk_ra {N : Nat} {M : Nat → Nat → Int} {root page : Int} (h : wkE N M root page = 0) : raE N M root page = 0 ∧ lfE N M root page = 0 ∧ raO N M root page = true := by
  have h2 : raE N M root page = 0 := by
    unfold wkE at h
    by_cases k : raE N M root page = 0
    · exact k
    · rw [if_neg k] at h; exact h
  have h3 : lfE N M root page = 0 := by
    unfold raE at h2
    by_cases k : lfE N M root page = 0
    · exact k
    · rw [if_neg k] at h2; exact h2
  refine ⟨h2, h3, ?_⟩
  unfold wkE at h
  rw [if_pos h2] at h
  cases hO : raO N M root page
  · rw [hO] at h; cases h
  · rfl
set_option maxRecDepth 100000 in
set_option maxHeartbeats 2000000 in
theorem walk_any (p b N : Nat) (root page : Int) (M : Nat → Nat → Int) (w : World) (h : Mx w p b N M) :
    Calls Tryz.prog 33 #[.pointer (some ⟨p, 0, none⟩), .int .i64 root, .int .i64 page] w fun x w' => x = .returned (.tuple #[.agg #[.pointer (waP N M root page p), .int .i64 (waF N M root page), .int .i64 (waA N M root page), .bool (wkO N M root page), .int .i64 (wkF N M root page), .int .i64 (wkR N M root page), .int .i64 (wkT N M root page)], .int .i64 (wkE N M root page)]) ∧ Below w.heap.size w w' := by
  have HE := hide (er_new h)
  have HF : Hid (∀ wc, Mx wc p b N M → Calls Tryz.prog 34 #[.pointer (some ⟨p, 0, none⟩), .int .i64 root, .int .i64 page] wc fun x w' => x = .returned (.tuple #[.agg #[.pointer (fiP N M root page p), .int .i64 (lfF N M root page), .int .i64 (fiA N M root page), .bool (raO N M root page), .int .i64 (raF N M root page), .int .i64 (raR N M root page), .int .i64 (raT N M root page)], .int .i64 (raE N M root page)]) ∧ Below wc.heap.size wc w') := fun wc hc => find_any p b N root page M wc hc
  clear h
  have hno : wkE N M root page ≠ 0 → wkO N M root page = false ∧ wkF N M root page = 0 ∧ wkR N M root page = 0 ∧ wkT N M root page = 0 ∧ waP N M root page p = none ∧ waF N M root page = 0 ∧ waA N M root page = 0 := fun hE => by
    simp [wkO, wkF, wkR, wkT, waP, waF, waA, hE]
  by_cases hk : wkE N M root page = 0
  case pos =>
    obtain ⟨r0, r1, r2⟩ := wk_ra hk
    have f0 : wkO N M root page = true := by simp [wkO, hk, r2]
    have f1 : wkF N M root page = raF N M root page := by simp [wkF, hk]
    have f2 : wkR N M root page = raR N M root page := by simp [wkR, hk]
    have f3 : wkT N M root page = raT N M root page := by simp [wkT, hk]
    have f4 : waP N M root page p = some ⟨p, 0, none⟩ := by simp [waP, hk]
    have f5 : waF N M root page = lfF N M root page := by simp [waF, hk]
    have f6 : waA N M root page = 4 + page % 32 := by simp [waA, hk]
    have f7 : fiP N M root page p = some ⟨p, 0, none⟩ := by simp [fiP, r1]
    have f8 : fiA N M root page = 4 + page % 32 := by simp [fiA, r1]
    rw [f0, f1, f2, f3, f4, f5, f6, hk]
    rw [f7, f8, r0, r2] at HF
    clear f0 f1 f2 f3 f4 f5 f6 f7 f8 r0 r1 r2 hk hno
    generalize raF N M root page = F at HF ⊢
    generalize raR N M root page = R at HF ⊢
    generalize raT N M root page = T at HF ⊢
    generalize lfF N M root page = L at HF ⊢
    generalize 4 + page % 32 = A at HF ⊢
    go_enter Tryz.func33, Tryz.ntmps33
    go_upto_region 2 with (first
      | (go_at_call 34; refine (HF.out _ HE.out.mx).mono ?_; rintro e1 w1 ⟨rfl, hb⟩; have H1 := (HE.out.on hb).more (some ⟨p, 0, none⟩) L A true F R T; clear hb HE)
      | fail)
    generalize w1.alloc _ = w2 at H1 ⊢
    generalize w1.heap.size = D at H1 ⊢
    have H2 := hide H1
    clear H1
    have x0 := H2.out.er.res.c0
    have x1 := H2.out.er.res.c1
    have x2 := H2.out.er.res.c2
    have x3 := H2.out.er.res.c3
    have x4 := H2.out.er.res.c4
    have x5 := H2.out.er.res.c5
    have x6 := H2.out.er.res.c6
    have z0 := H2.out.er.res.fz
    have xl := H2.out.er.res.lt
    have y0 := H2.out.box.c0
    have y1 := H2.out.box.c1
    have y2 := H2.out.box.c2
    have y3 := H2.out.box.c3
    have y4 := H2.out.box.c4
    have y5 := H2.out.box.c5
    have y6 := H2.out.box.c6
    have yl := H2.out.box.lt
    have ne1 : ¬ D = w.heap.size := Nat.ne_of_gt H2.out.ne
    have ne2 : ¬ w.heap.size = D := Nat.ne_of_lt H2.out.ne
    go_wp2
    refine bodyPost_ret (v := .tuple #[.agg #[.pointer (some ⟨p, 0, none⟩), .int .i64 L, .int .i64 A, .bool true, .int .i64 F, .int .i64 R, .int .i64 T], .int .i64 0]) (by simp [results, Tryz.results33, go_sem, x0, x1, x2, x3, x4, x5, x6]) rfl ⟨rfl, ?_⟩
    exact res7 H2.out.er.below _ _ _ _ _ _ _
  obtain ⟨f0, f1, f2, f3, f4, f5, f6⟩ := hno hk
  rw [f0, f1, f2, f3, f4, f5, f6]
  have hc : ((raE N M root page != 0) = true ∧ wkE N M root page = raE N M root page) ∨ (raE N M root page = 0 ∧ raO N M root page = false ∧ wkE N M root page = 9) := by
    by_cases hE : raE N M root page = 0
    · refine .inr ⟨hE, ?_, ?_⟩
      · cases hO : raO N M root page
        · rfl
        · exact absurd (by unfold wkE; rw [if_pos hE, if_pos hO]) hk
      · cases hO : raO N M root page
        · unfold wkE; rw [if_pos hE, hO]; rfl
        · exact absurd (by unfold wkE; rw [if_pos hE, if_pos hO]) hk
    · exact .inl ⟨by simp [hE], by unfold wkE; rw [if_neg hE]⟩
  clear f0 f1 f2 f3 f4 f5 f6 hk hno
  generalize wkE N M root page = X at hc ⊢
  generalize raE N M root page = E at HF hc
  generalize raO N M root page = O at HF hc
  generalize raF N M root page = F at HF
  generalize raR N M root page = R at HF
  generalize raT N M root page = T at HF
  generalize lfF N M root page = L at HF
  generalize fiA N M root page = A at HF
  generalize fiP N M root page p = P at HF
  go_enter Tryz.func33, Tryz.ntmps33
  go_upto_region 2 with (first
    | (go_at_call 34; refine (HF.out _ HE.out.mx).mono ?_; rintro e1 w1 ⟨rfl, hb⟩; have H1 := (HE.out.on hb).more P L A O F R T; clear hb HE)
    | fail)
  generalize w1.alloc _ = w2 at H1 ⊢
  generalize w1.heap.size = D at H1 ⊢
  clear HF
  rcases hc with ⟨hE, rfl⟩ | ⟨rfl, rfl, rfl⟩
  all_goals
    have H2 := hide H1
    clear H1
    have x0 := H2.out.er.res.c0
    have x1 := H2.out.er.res.c1
    have x2 := H2.out.er.res.c2
    have x3 := H2.out.er.res.c3
    have x4 := H2.out.er.res.c4
    have x5 := H2.out.er.res.c5
    have x6 := H2.out.er.res.c6
    have z0 := H2.out.er.res.fz
    have xl := H2.out.er.res.lt
    have y3 := H2.out.box.c3
    have yl := H2.out.box.lt
    go_wp2
  · refine bodyPost_ret (v := .tuple #[.agg #[.pointer none, .int .i64 0, .int .i64 0, .bool false, .int .i64 0, .int .i64 0, .int .i64 0], .int .i64 X]) (by simp [results, Tryz.results33, go_sem, x0, x1, x2, x3, x4, x5, x6]) rfl ⟨rfl, ?_⟩
    exact res7 H2.out.er.below _ _ _ _ _ _ _
  · refine bodyPost_ret (v := .tuple #[.agg #[.pointer none, .int .i64 0, .int .i64 0, .bool false, .int .i64 0, .int .i64 0, .int .i64 0], .int .i64 9]) (by simp [results, Tryz.results33, go_sem, x0, x1, x2, x3, x4, x5, x6]) rfl ⟨rfl, ?_⟩
    exact res7 H2.out.er.below _ _ _ _ _ _ _
end Go.Proofs.YtfmkhjbahgcgiaaGreatDoor.Ppgtbl
