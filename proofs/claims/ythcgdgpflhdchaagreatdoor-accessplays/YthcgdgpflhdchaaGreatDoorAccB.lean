/- What cut, mapping and Find of package access answer and do, for every argument. -/
import Derived.Test.YthcgdgpflhdchaaGreatDoorAccA
import Derived.BigQuiet
import Derived.BigRegion
import Derived.Deep.RegionHeld3
import Derived.Deep.CutBlock
namespace Go.Proofs.YthcgdgpflhdchaaGreatDoor.Paccess
open Go.Proofs.YthcgdgpflhdchaaGreatDoor.Pbase Go.Proofs.YthcgdgpflhdchaaGreatDoor.Pmem
open Go.RowKit
set_option linter.unusedVariables false

/-! ### cut -/
def ctA (a : Int) : Int := if Pradix.pgE a = 0 then 4 + Pradix.pgA a else 0
set_option maxRecDepth 100000 in
theorem acut_any (a : Int) (w : World) (hb : -9223372036854775808 ≤ a ∧ a ≤ 9223372036854775807) (hT : Pradix.Wp w) : Calls Tryz.prog 27 #[.int .i64 a] w fun x w' => x = .returned (.tuple #[.int .i64 (Pradix.nuA a), .int .i64 (ctA a), .int .i64 (Pradix.pgE a)]) ∧ Below w.heap.size w w' := by
  have HP := ahide (Pradix.page_wp a w hb hT)
  have HN : Hid (∀ wc, Pradix.Wp wc → Calls Tryz.prog 47 #[.int .i64 a] wc fun e w' => e = .returned (.tuple #[.int .i64 (Pradix.nuA a), .int .i64 (Pradix.pgE a)]) ∧ Below wc.heap.size wc w') := fun wc hc => Pradix.number_wp a wc hb hc
  have HT := ahide hT
  clear hT
  unfold ctA
  by_cases hc : 0 ≤ a ∧ a ≤ 32767
  · obtain ⟨e1, e2, e3, e4, e5⟩ := Pradix.pg_yes hc
    rw [e1, e2, e3, e4] at HP
    rw [e1, e5] at HN ⊢
    rw [if_pos rfl, e4]
    have hw : wrap64 (4 + a % 32) = 4 + a % 32 := by unfold wrap64; omega
    clear e1 e2 e3 e4 e5 hc hb
    generalize a / 1024 = H at HP
    generalize a / 32 % 32 = L at HP
    generalize a % 32 = A at HP hw ⊢
    generalize a / 32 = B at HN ⊢
    go_enter Tryz.func27, Tryz.ntmps27
    go_wp2_with (first
      | (go_at_call 46; refine HP.out.mono ?_; rintro e1 w1 ⟨rfl, hb⟩; have H1 : Hid (Below w.heap.size w w1) := hb; clear hb)
      | (go_at_call 47; refine (HN.out _ (HT.out.on H1.out)).mono ?_; rintro e2 w2 ⟨rfl, hb⟩; have H2 : Hid (Below w.heap.size w w2) := H1.out.trans (hb.mono H1.out.size); clear hb)
      | fail)
    go_ret3
    exact ⟨by rw [hw]; rfl, H2.out⟩
  · obtain ⟨e1, e2, e3, e4, e5⟩ := Pradix.pg_no hc
    rw [e1, e2, e3, e4] at HP
    rw [e1, e5, if_neg (by decide)]
    clear e1 e2 e3 e4 e5 hc hb HN
    go_enter Tryz.func27, Tryz.ntmps27
    go_wp2_with (first
      | (go_at_call 46; refine HP.out.mono ?_; rintro e1 w1 ⟨rfl, hb⟩; have H1 : Hid (Below w.heap.size w w1) := hb; clear hb)
      | fail)
    go_ret3
    exact ⟨rfl, H1.out⟩
/-! ### mapping -/
theorem map_cell_ne {w : World} {b : Nat} {S : List Ptlb.En} (h : Ptlb.MapIs w b S) {q j : Nat} {v : Value} (hq : w.cell? ⟨q, j, none⟩ = some v) : q ≠ b := by
  obtain ⟨es, clock, hb, _⟩ := h
  rintro rfl
  simp [World.cell?, hb] at hq
/-- A key and a result beside a memory and what is remembered. -/
structure Mg (w0 w : World) (p b N : Nat) (M : Nat → Nat → Int) (pt bt R T : Nat) (S : List Ptlb.En) (sp pg : Int) : Prop where
  ax : Ax w p b N M pt bt R T S
  below : Below w0.heap.size w0 w
  k0 : w.cell? ⟨w0.heap.size, 0, none⟩ = some (.int .i64 sp)
  k1 : w.cell? ⟨w0.heap.size, 1, none⟩ = some (.int .i64 pg)
  res : Ppte.BoxP w (w0.heap.size + 1) false 0 0 0
/-- And a mapping. -/
structure Mgp (w0 w : World) (p b N : Nat) (M : Nat → Nat → Int) (pt bt R T : Nat) (S : List Ptlb.En) (sp pg : Int) (D : Nat) (o : Bool) (f r t : Int) : Prop where
  mg : Mg w0 w p b N M pt bt R T S sp pg
  box : Ppte.BoxP w D o f r t
  ne : w0.heap.size + 1 < D
section
variable {w0 w w' : World} {p b N : Nat} {M : Nat → Nat → Int} {pt bt R T : Nat} {S : List Ptlb.En} {sp pg : Int} {D : Nat} {o : Bool} {f r t : Int}
theorem Mg.on (h : Mg w0 w p b N M pt bt R T S sp pg) (hB : Below w.heap.size w w') : Mg w0 w' p b N M pt bt R T S sp pg :=
  ⟨h.ax.on hB, h.below.trans (hB.mono h.below.size), Ptlb.keeps hB h.k0, Ptlb.keeps hB h.k1, h.res.on hB⟩
theorem mg_new (h : Ax w p b N M pt bt R T S) (sp pg : Int) : Mg w ((w.alloc (.cells #[.int .i64 sp, .int .i64 pg] 55)).alloc (.cells #[.bool false, .int .i64 0, .int .i64 0, .int .i64 0] 57)) p b N M pt bt R T S sp pg := by
  have hB := bal (bal (Below.refl w.heap.size w) (.cells #[.int .i64 sp, .int .i64 pg] 55)) (.cells #[.bool false, .int .i64 0, .int .i64 0, .int .i64 0] 57)
  have hx := Ppte.boxP_new (w.alloc (.cells #[.int .i64 sp, .int .i64 pg] 55)) false 0 0 0 57
  refine ⟨h.on hB, hB, by simp, by simp, ?_⟩
  have e : (w.alloc (.cells #[.int .i64 sp, .int .i64 pg] 55)).heap.size = w.heap.size + 1 := by simp
  rwa [e] at hx
theorem Mg.more (h : Mg w0 w p b N M pt bt R T S sp pg) (o : Bool) (f r t : Int) : Mgp w0 (w.alloc (.cells #[.bool o, .int .i64 f, .int .i64 r, .int .i64 t] 57)) p b N M pt bt R T S sp pg w.heap.size o f r t :=
  ⟨h.on (bal (Below.refl _ _) _), Ppte.boxP_new w o f r t 57, h.res.lt⟩
theorem Mgp.on (h : Mgp w0 w p b N M pt bt R T S sp pg D o f r t) (hB : Below w.heap.size w w') : Mgp w0 w' p b N M pt bt R T S sp pg D o f r t := ⟨h.mg.on hB, h.box.on hB, h.ne⟩
theorem res4b (h : Below w0.heap.size w0 w) (a b c d : Value) : Below w0.heap.size w0 ((((w.setCell ⟨w0.heap.size + 1, 0, none⟩ a).setCell ⟨w0.heap.size + 1, 1, none⟩ b).setCell ⟨w0.heap.size + 1, 2, none⟩ c).setCell ⟨w0.heap.size + 1, 3, none⟩ d) :=
  bst (bst (bst (bst h (by omega) _ _) (by omega) _ _) (by omega) _ _) (by omega) _ _
/-- What a Put leaves of the key and the mapping; and behind what is stored into the result. -/
theorem mg_but (h : Mgp w0 w p b N M pt bt R T S sp pg D o f r t) (hB : But bt w w') :
    w'.cell? ⟨D, 0, none⟩ = some (.bool o) ∧ w'.cell? ⟨D, 1, none⟩ = some (.int .i64 f) ∧ w'.cell? ⟨D, 2, none⟩ = some (.int .i64 r) ∧ w'.cell? ⟨D, 3, none⟩ = some (.int .i64 t) ∧ w'.cell? ⟨w0.heap.size, 0, none⟩ = some (.int .i64 sp) ∧ w'.cell? ⟨w0.heap.size, 1, none⟩ = some (.int .i64 pg) := by
  have hm := h.mg.ax.tl.map
  have n1 := map_cell_ne hm h.box.c0
  have n2 := map_cell_ne hm h.mg.k0
  have l2 := World.block_lt_of_cell? w _ h.mg.k0
  exact ⟨(hB.cell h.box.lt n1).trans h.box.c0, (hB.cell h.box.lt n1).trans h.box.c1, (hB.cell h.box.lt n1).trans h.box.c2, (hB.cell h.box.lt n1).trans h.box.c3, (hB.cell l2 n2).trans h.mg.k0, (hB.cell l2 n2).trans h.mg.k1⟩
theorem mg_put4 (h : Mgp w0 w p b N M pt bt R T S sp pg D o f r t) (hB : But bt w w') (x y z v : Value) :
    ((((w'.setCell ⟨w0.heap.size + 1, 0, none⟩ x).setCell ⟨w0.heap.size + 1, 1, none⟩ y).setCell ⟨w0.heap.size + 1, 2, none⟩ z).setCell ⟨w0.heap.size + 1, 3, none⟩ v).cell? ⟨D, 0, none⟩ = some (.bool o) ∧ ((((w'.setCell ⟨w0.heap.size + 1, 0, none⟩ x).setCell ⟨w0.heap.size + 1, 1, none⟩ y).setCell ⟨w0.heap.size + 1, 2, none⟩ z).setCell ⟨w0.heap.size + 1, 3, none⟩ v).cell? ⟨D, 1, none⟩ = some (.int .i64 f) ∧ ((((w'.setCell ⟨w0.heap.size + 1, 0, none⟩ x).setCell ⟨w0.heap.size + 1, 1, none⟩ y).setCell ⟨w0.heap.size + 1, 2, none⟩ z).setCell ⟨w0.heap.size + 1, 3, none⟩ v).cell? ⟨D, 2, none⟩ = some (.int .i64 r) ∧ ((((w'.setCell ⟨w0.heap.size + 1, 0, none⟩ x).setCell ⟨w0.heap.size + 1, 1, none⟩ y).setCell ⟨w0.heap.size + 1, 2, none⟩ z).setCell ⟨w0.heap.size + 1, 3, none⟩ v).cell? ⟨D, 3, none⟩ = some (.int .i64 t) ∧ ((((w'.setCell ⟨w0.heap.size + 1, 0, none⟩ x).setCell ⟨w0.heap.size + 1, 1, none⟩ y).setCell ⟨w0.heap.size + 1, 2, none⟩ z).setCell ⟨w0.heap.size + 1, 3, none⟩ v).cell? ⟨w0.heap.size, 0, none⟩ = some (.int .i64 sp) ∧ ((((w'.setCell ⟨w0.heap.size + 1, 0, none⟩ x).setCell ⟨w0.heap.size + 1, 1, none⟩ y).setCell ⟨w0.heap.size + 1, 2, none⟩ z).setCell ⟨w0.heap.size + 1, 3, none⟩ v).cell? ⟨w0.heap.size, 1, none⟩ = some (.int .i64 pg) := by
  have hd := Ppgtbl.put4_other w' (w0.heap.size + 1) x y z v D (by have := h.ne; omega)
  have hw := Ppgtbl.put4_other w' (w0.heap.size + 1) x y z v w0.heap.size (by omega)
  have hk := mg_but h hB
  generalize ((((w'.setCell ⟨w0.heap.size + 1, 0, none⟩ x).setCell ⟨w0.heap.size + 1, 1, none⟩ y).setCell ⟨w0.heap.size + 1, 2, none⟩ z).setCell ⟨w0.heap.size + 1, 3, none⟩ v) = w10 at hd hw ⊢
  have e : ∀ j, w10.cell? ⟨D, j, none⟩ = w'.cell? ⟨D, j, none⟩ := fun j => World.cell?_of_block (w := w') hd
  have g : ∀ j, w10.cell? ⟨w0.heap.size, j, none⟩ = w'.cell? ⟨w0.heap.size, j, none⟩ := fun j => World.cell?_of_block (w := w') hw
  exact ⟨(e 0).trans hk.1, (e 1).trans hk.2.1, (e 2).trans hk.2.2.1, (e 3).trans hk.2.2.2.1, (g 0).trans hk.2.2.2.2.1, (g 1).trans hk.2.2.2.2.2⟩
/-- The end of a Put: the result's block is no part of it. -/
theorem mg_end (h0 : Ax w0 p b N M pt bt R T S) {S' : List Ptlb.En} (ht : Ptlb.TlbIs w pt bt R S') (hB : But bt w0 w) (hf : Ptlb.Fine S' R (T + 1)) (x y z v : Value) :
    Ax ((((w.setCell ⟨w0.heap.size + 1, 0, none⟩ x).setCell ⟨w0.heap.size + 1, 1, none⟩ y).setCell ⟨w0.heap.size + 1, 2, none⟩ z).setCell ⟨w0.heap.size + 1, 3, none⟩ v) p b N M pt bt R (T + 1) S' ∧ But bt w0 ((((w.setCell ⟨w0.heap.size + 1, 0, none⟩ x).setCell ⟨w0.heap.size + 1, 1, none⟩ y).setCell ⟨w0.heap.size + 1, 2, none⟩ z).setCell ⟨w0.heap.size + 1, 3, none⟩ v) := by
  have ho := Ppgtbl.put4_other w (w0.heap.size + 1) x y z v
  have l1 := h0.tl.lt
  have l2 := h0.tl.map.lt
  have hb := Ppgtbl.but_on hB (((((Below.refl w0.heap.size w).setCell (p := ⟨w0.heap.size + 1, 0, none⟩) (by show w0.heap.size ≤ w0.heap.size + 1; omega) x).setCell (p := ⟨w0.heap.size + 1, 1, none⟩) (by show w0.heap.size ≤ w0.heap.size + 1; omega) y).setCell (p := ⟨w0.heap.size + 1, 2, none⟩) (by show w0.heap.size ≤ w0.heap.size + 1; omega) z).setCell (p := ⟨w0.heap.size + 1, 3, none⟩) (by show w0.heap.size ≤ w0.heap.size + 1; omega) v)
  exact ⟨h0.tlb (ht.on (ho pt (by omega)) (ho bt (by omega))) hb hf, hb⟩
end
/-- What mapping answers. -/
def mpP (N : Nat) (M : Nat → Nat → Int) (S : List Ptlb.En) (sp a : Int) : Ptlb.Pt := if acW N M S sp a = 0 then acP N M S sp a else Ptlb.pt0
set_option maxRecDepth 100000 in
set_option maxHeartbeats 4000000 in
theorem amapping_any (p b N : Nat) (M : Nat → Nat → Int) (pt bt R T : Nat) (S : List Ptlb.En) (sp a : Int) (w : World) (h : Ax w p b N M pt bt R T S) (hT : T ≤ 900) (ha : Pradix.pgE a = 0) :
    Calls Tryz.prog 28 #[.pointer (some ⟨p, 0, none⟩), .pointer (some ⟨pt, 0, none⟩), .agg #[.int .i64 sp, .int .i64 (Pradix.nuA a)]] w fun x w' => x = .returned (.tuple #[.agg #[.bool (mpP N M S sp a).1, .int .i64 (mpP N M S sp a).2.1, .int .i64 (mpP N M S sp a).2.2.1, .int .i64 (mpP N M S sp a).2.2.2], .int .i64 (acW N M S sp a)]) ∧ Ax w' p b N M pt bt R (T + 1) (acS R N M S sp a) ∧ But bt w w' := by
  have HE := ahide (mg_new h sp (Pradix.nuA a))
  have HA := ahide h
  have HG : Hid (∀ wc, Ptlb.TlbIs wc pt bt R S → Calls Tryz.prog 48 #[.pointer (some ⟨pt, 0, none⟩), .agg #[.int .i64 sp, .int .i64 (Pradix.nuA a)]] wc fun x w' => x = .returned (.tuple #[.agg #[.bool (Ptlb.ptK S (acK sp a)).1, .int .i64 (Ptlb.ptK S (acK sp a)).2.1, .int .i64 (Ptlb.ptK S (acK sp a)).2.2.1, .int .i64 (Ptlb.ptK S (acK sp a)).2.2.2], .bool (Ptlb.hasK S (acK sp a))]) ∧ Below wc.heap.size wc w') := fun wc hc => Ptlb.get_any pt bt R S (acK sp a) wc hc
  clear h
  by_cases hh : Ptlb.hasK S (acK sp a) = true
  · obtain ⟨e1, e2, _⟩ := ac_has (N := N) (M := M) ha hh R 0
    have e0 : acW N M S sp a = 0 := by unfold acW; rw [if_pos hh]
    have e3 : mpP N M S sp a = Ptlb.ptK S (acK sp a) := by unfold mpP; rw [if_pos e0, e2]
    rw [e0, e1, e3]
    rw [hh] at HG
    clear e0 e1 e2 e3 ha hh
    generalize Ptlb.ptK S (acK sp a) = q at HG ⊢
    obtain ⟨O, F, P, Z⟩ := q
    dsimp only at HG ⊢
    generalize Pradix.nuA a = pg at HG HE ⊢
    go_enter Tryz.func28, Tryz.ntmps28
    have k0 := HE.out.k0
    have k1 := HE.out.k1
    go_upto_region 2 with (first
      | (go_at_call 48; refine (HG.out _ HE.out.ax.tl).mono ?_; rintro e1 w1 ⟨rfl, hb⟩; have H1 := (HE.out.on hb).more O F P Z; clear hb HE)
      | fail)
    clear k0 k1
    generalize w1.alloc _ = w2 at H1 ⊢
    generalize w1.heap.size = D at H1 ⊢
    have H2 := ahide H1
    clear H1
    have x0 := H2.out.mg.res.c0
    have x1 := H2.out.mg.res.c1
    have x2 := H2.out.mg.res.c2
    have x3 := H2.out.mg.res.c3
    have z0 := H2.out.mg.res.fz
    have xl := H2.out.mg.res.lt
    have y0 := H2.out.box.c0
    have y1 := H2.out.box.c1
    have y2 := H2.out.box.c2
    have y3 := H2.out.box.c3
    have yl := H2.out.box.lt
    have ne1 : ¬ D = w.heap.size + 1 := Nat.ne_of_gt H2.out.ne
    have ne2 : ¬ w.heap.size + 1 = D := Nat.ne_of_lt H2.out.ne
    go_wp2
    refine bodyPost_ret (v := .tuple #[.agg #[.bool O, .int .i64 F, .int .i64 P, .int .i64 Z], .int .i64 0]) (by simp [results, Tryz.results28, go_sem, x0, x1, x2, x3]) rfl ⟨rfl, ?_⟩
    exact ⟨(HA.out.on (res4b H2.out.mg.below _ _ _ _)).mono (by omega), But.of_below bt (res4b H2.out.mg.below _ _ _ _)⟩
  have hn : Ptlb.hasK S (acK sp a) = false := by simpa using hh
  clear hh
  have HF : Hid (∀ wc, Ppgtbl.Mx wc p b N M → Calls Tryz.prog 49 #[.pointer (some ⟨p, 0, none⟩), .int .i64 sp, .int .i64 (Pradix.nuA a)] wc fun x w' => x = .returned (.tuple #[.agg #[.bool (acV N M sp a).1, .int .i64 (acV N M sp a).2.1, .int .i64 (acV N M sp a).2.2.1, .int .i64 (acV N M sp a).2.2.2], .int .i64 (Ppgtbl.wkE N M sp (Pradix.nuA a))]) ∧ Below wc.heap.size wc w') := fun wc hc => Ppgtbl.pwalk_any p b N sp (Pradix.nuA a) M wc hc
  have hq : Ptlb.ptK S (acK sp a) = Ptlb.pt0 := (Ptlb.findS_none S (acK sp a) 0 hn).2.1
  have e0 : acW N M S sp a = Ppgtbl.wkE N M sp (Pradix.nuA a) := by unfold acW; rw [if_neg (by rw [hn]; decide)]
  have eP : acP N M S sp a = acV N M sp a := by unfold acP; rw [if_neg (by rw [hn]; decide)]
  have eM : mpP N M S sp a = if Ppgtbl.wkE N M sp (Pradix.nuA a) = 0 then acV N M sp a else Ptlb.pt0 := by unfold mpP; rw [e0, eP]
  rw [hn, hq] at HG
  simp only [Ptlb.pt0] at HG
  by_cases hE : Ppgtbl.wkE N M sp (Pradix.nuA a) = 0
  case neg =>
    obtain ⟨e1, _⟩ := ac_none (N := N) (M := M) ha hn hE R 0
    rw [eM, if_neg hE, e0, e1]
    simp only [Ptlb.pt0]
    clear eM e0 e1 eP hq hn ha
    generalize acV N M sp a = q at HF
    obtain ⟨O, F, P, Z⟩ := q
    dsimp only at HF
    generalize Ppgtbl.wkE N M sp (Pradix.nuA a) = E at HF hE ⊢
    have hE' : (E != 0) = true := by simp [hE]
    clear hE
    generalize Pradix.nuA a = pg at HG HE HF ⊢
    go_enter Tryz.func28, Tryz.ntmps28
    have k0 := HE.out.k0
    have k1 := HE.out.k1
    go_upto_region 2 with (first
      | (go_at_call 48; refine (HG.out _ HE.out.ax.tl).mono ?_; rintro e1 w1 ⟨rfl, hb⟩; have H1 := (HE.out.on hb).more false 0 0 0; clear hb HE)
      | fail)
    clear k0 k1
    generalize w1.alloc _ = w2 at H1 ⊢
    have H2 := ahide H1.mg
    clear H1
    have k0 := H2.out.k0
    have k1 := H2.out.k1
    go_upto_region 5 with (first
      | (go_at_call 49; refine (HF.out _ H2.out.ax.mx).mono ?_; rintro e3 w3 ⟨rfl, hb⟩; have H3 := (H2.out.on hb).more O F P Z; clear hb H2)
      | fail)
    clear k0 k1
    generalize w3.alloc _ = w4 at H3 ⊢
    generalize w3.heap.size = D at H3 ⊢
    have H4 := ahide H3
    clear H3
    have x0 := H4.out.mg.res.c0
    have x1 := H4.out.mg.res.c1
    have x2 := H4.out.mg.res.c2
    have x3 := H4.out.mg.res.c3
    have z0 := H4.out.mg.res.fz
    have xl := H4.out.mg.res.lt
    go_wp2
    refine bodyPost_ret (v := .tuple #[.agg #[.bool false, .int .i64 0, .int .i64 0, .int .i64 0], .int .i64 E]) (by simp [results, Tryz.results28, go_sem, x0, x1, x2, x3]) rfl ⟨rfl, ?_⟩
    exact ⟨(HA.out.on (res4b H4.out.mg.below _ _ _ _)).mono (by omega), But.of_below bt (res4b H4.out.mg.below _ _ _ _)⟩
  obtain ⟨e1, _, _⟩ := ac_new (N := N) (M := M) ha hn hE R 0
  rw [eM, if_pos hE, e0, e1, hE]
  rw [hE] at HF
  have HP : Hid (∀ wc, Ptlb.TlbIs wc pt bt R S → Calls Tryz.prog 50 #[.pointer (some ⟨pt, 0, none⟩), .agg #[.int .i64 sp, .int .i64 (Pradix.nuA a)], .agg #[.bool (acV N M sp a).1, .int .i64 (acV N M sp a).2.1, .int .i64 (acV N M sp a).2.2.1, .int .i64 (acV N M sp a).2.2.2]] wc fun x w' => x = .returned (.int .i64 0) ∧ Ptlb.TlbIs w' pt bt R (Ptlb.putS R S (acK sp a) (acV N M sp a)) ∧ But bt wc w') := fun wc hc => Ptlb.put_some' pt bt R S (acK sp a) (acV N M sp a) wc hc HA.out.fine.ok (HA.out.fine.mx (by omega)) HA.out.fine.len HA.out.r8
  have HN : Hid (Ptlb.Fine (Ptlb.putS R S (acK sp a) (acV N M sp a)) R (T + 1)) := HA.out.fine.put _ _
  generalize Ptlb.putS R S (acK sp a) (acV N M sp a) = S' at HP HN ⊢
  clear eM e0 e1 eP hq hn ha hE
  generalize acV N M sp a = q at HF HP ⊢
  obtain ⟨O, F, P, Z⟩ := q
  dsimp only at HF HP ⊢
  generalize Pradix.nuA a = pg at HG HE HF HP ⊢
  go_enter Tryz.func28, Tryz.ntmps28
  have k0 := HE.out.k0
  have k1 := HE.out.k1
  go_upto_region 2 with (first
    | (go_at_call 48; refine (HG.out _ HE.out.ax.tl).mono ?_; rintro e1 w1 ⟨rfl, hb⟩; have H1 := (HE.out.on hb).more false 0 0 0; clear hb HE)
    | fail)
  clear k0 k1
  generalize w1.alloc _ = w2 at H1 ⊢
  have H2 := ahide H1.mg
  clear H1
  have k0 := H2.out.k0
  have k1 := H2.out.k1
  go_upto_region 5 with (first
    | (go_at_call 49; refine (HF.out _ H2.out.ax.mx).mono ?_; rintro e3 w3 ⟨rfl, hb⟩; have H3 := (H2.out.on hb).more O F P Z; clear hb H2)
    | fail)
  clear k0 k1
  generalize w3.alloc _ = w4 at H3 ⊢
  generalize w3.heap.size = D at H3 ⊢
  have H4 := ahide H3
  clear H3
  go_upto_region 7 with fail
  go_region_held3 (fun w' => w'.cell? ⟨D, 0, none⟩ = some (.bool O) ∧ w'.cell? ⟨D, 1, none⟩ = some (.int .i64 F) ∧ w'.cell? ⟨D, 2, none⟩ = some (.int .i64 P) ∧ w'.cell? ⟨D, 3, none⟩ = some (.int .i64 Z) ∧ w'.cell? ⟨w.heap.size, 0, none⟩ = some (.int .i64 sp) ∧ w'.cell? ⟨w.heap.size, 1, none⟩ = some (.int .i64 pg)) (first | with_reducible exact mg_put4 H4.out HB9.out _ _ _ _ | with_reducible exact mg_but H4.out HB9.out | with_reducible exact mg_but H4.out (But.of_below bt (Below.refl _ _).drew))
  (first
    | (go_at_call 50; refine (HP.out _ (by first | exact (H4.out.on (Below.refl _ _).drew).mg.ax.tl | exact H4.out.mg.ax.tl)).mono ?_; rintro e9 w9 ⟨rfl, ht9, hb9⟩; have HB9 : Hid (But bt w4 w9) := (by first | exact hb9 | exact (But.of_below bt (Below.refl _ _).drew).trans hb9); have HT9 := ahide ht9; clear ht9 hb9; have HX : Hid (Ppte.BoxP w9 (w.heap.size + 1) false 0 0 0) := Ppgtbl.boxP_but H4.out.mg.res HB9.out (map_cell_ne H4.out.mg.ax.tl.map H4.out.mg.res.c0); have x0 := HX.out.c0; have x1 := HX.out.c1; have x2 := HX.out.c2; have x3 := HX.out.c3; have z0 := HX.out.fz)
    | fail)
  go_wp2
  refine bodyPost_ret (v := .tuple #[.agg #[.bool O, .int .i64 F, .int .i64 P, .int .i64 Z], .int .i64 0]) (by simp [results, Tryz.results28, go_sem, x0, x1, x2, x3]) rfl ⟨rfl, ?_⟩
  exact mg_end HA.out HT9.out ((But.of_below bt H4.out.mg.below).trans HB9.out) HN.out _ _ _ _
/-! ### Find -/
/-- A mapping beside a memory and what is remembered. -/
structure Fd (w0 w : World) (p b N : Nat) (M : Nat → Nat → Int) (pt bt R T : Nat) (S : List Ptlb.En) : Prop where
  ax : Ax w p b N M pt bt R T S
  but : But bt w0 w
theorem Fd.on {w0 w w' : World} {p b N : Nat} {M : Nat → Nat → Int} {pt bt R T : Nat} {S : List Ptlb.En} (h : Fd w0 w p b N M pt bt R T S) (hB : Below w.heap.size w w') : Fd w0 w' p b N M pt bt R T S := ⟨h.ax.on hB, h.but.trans (But.of_below bt hB)⟩
theorem Fd.more {w0 w : World} {p b N : Nat} {M : Nat → Nat → Int} {pt bt R T : Nat} {S : List Ptlb.En} (h : Fd w0 w p b N M pt bt R T S) (o : Bool) (f r t : Int) : Fd w0 (w.alloc (.cells #[.bool o, .int .i64 f, .int .i64 r, .int .i64 t] 57)) p b N M pt bt R T S ∧ Ppte.BoxP (w.alloc (.cells #[.bool o, .int .i64 f, .int .i64 r, .int .i64 t] 57)) w.heap.size o f r t :=
  ⟨h.on (bal (Below.refl _ _) _), Ppte.boxP_new w o f r t 57⟩
theorem ac_zero {N : Nat} {M : Nat → Nat → Int} {S : List Ptlb.En} {sp a r : Int} (h : acE N M S sp a r ≠ 0) : acF N M S sp a r = 0 ∧ acA N M S sp a r = 0 := by
  unfold acF acA
  rw [if_neg h, if_neg h]
  exact ⟨rfl, rfl⟩
set_option maxRecDepth 100000 in
set_option maxHeartbeats 4000000 in
theorem afind_any (p b N : Nat) (M : Nat → Nat → Int) (pt bt R T : Nat) (S : List Ptlb.En) (sp a r : Int) (w : World) (h : Ax w p b N M pt bt R T S) (hT : T ≤ 900) (hb : -9223372036854775808 ≤ a ∧ a ≤ 9223372036854775807) (hr : -9223372036854775808 ≤ r ∧ r ≤ 9223372036854775807) :
    Calls Tryz.prog 13 #[.pointer (some ⟨p, 0, none⟩), .pointer (some ⟨pt, 0, none⟩), .int .i64 sp, .int .i64 a, .int .i64 r] w fun x w' => x = .returned (.tuple #[.int .i64 (acF N M S sp a r), .int .i64 (acA N M S sp a r), .int .i64 (acE N M S sp a r)]) ∧ Ax w' p b N M pt bt R (T + 1) (acS R N M S sp a) ∧ But bt w w' := by
  have HA := ahide h
  have HL : Hid (Calls Tryz.prog 25 #[.pointer (some ⟨p, 0, none⟩)] w fun e w' => e = .returned (.int .i64 N) ∧ w' = w) := len_some p b N w h.mx.n64 h.mx.mem.cell
  have HD : Hid (Calls Tryz.prog 26 #[.pointer (some ⟨pt, 0, none⟩)] w fun e w' => e = .returned (.bool true) ∧ w' = w) := Ptlb.made_some pt bt w h.tl.ents
  have HC : Hid (Calls Tryz.prog 27 #[.int .i64 a] w fun x w' => x = .returned (.tuple #[.int .i64 (Pradix.nuA a), .int .i64 (ctA a), .int .i64 (Pradix.pgE a)]) ∧ Below w.heap.size w w') := acut_any a w hb h.mx.tb.tr
  have nN : ((N : Int) == 0) = false := by have := h.mx.n1; simp; omega
  clear h
  by_cases ha : Pradix.pgE a = 0
  case neg =>
    obtain ⟨e1, e2⟩ := acE_bad (N := N) (M := M) (S := S) (sp := sp) ha R r
    obtain ⟨e3, e4⟩ := ac_zero (show acE N M S sp a r ≠ 0 by rw [e2]; exact ha)
    rw [e1, e2, e3, e4]
    generalize Pradix.pgE a = E at HC ha ⊢
    generalize Pradix.nuA a = B at HC
    generalize ctA a = C at HC
    have hE' : (E != 0) = true := by simp [ha]
    clear e1 e2 e3 e4 ha hb hr
    go_enter Tryz.func13, Tryz.ntmps13
    go_wp2_with (first
      | (go_at_call 25; refine HL.out.mono ?_; rintro e1 w1 ⟨rfl, hw⟩; subst w1)
      | (go_at_call 26; refine HD.out.mono ?_; rintro e1 w1 ⟨rfl, hw⟩; subst w1)
      | (go_at_call 27; refine HC.out.mono ?_; rintro e2 w2 ⟨rfl, hb⟩; have H2 : Hid (Below w.heap.size w w2) := hb; clear hb)
      | fail)
    go_ret3
    exact ⟨rfl, (HA.out.on H2.out).mono (by omega), But.of_below bt H2.out⟩
  have HM : Hid (∀ wc, Ax wc p b N M pt bt R T S → Calls Tryz.prog 28 #[.pointer (some ⟨p, 0, none⟩), .pointer (some ⟨pt, 0, none⟩), .agg #[.int .i64 sp, .int .i64 (Pradix.nuA a)]] wc fun x w' => x = .returned (.tuple #[.agg #[.bool (mpP N M S sp a).1, .int .i64 (mpP N M S sp a).2.1, .int .i64 (mpP N M S sp a).2.2.1, .int .i64 (mpP N M S sp a).2.2.2], .int .i64 (acW N M S sp a)]) ∧ Ax w' p b N M pt bt R (T + 1) (acS R N M S sp a) ∧ But bt wc w') := fun wc hc => amapping_any p b N M pt bt R T S sp a wc hc hT ha
  have hct : ctA a = 4 + a % 32 := by
    unfold ctA
    rw [if_pos ha]
    have : 0 ≤ a ∧ a ≤ 32767 := by
      rcases Classical.em (0 ≤ a ∧ a ≤ 32767) with k | k
      · exact k
      · rw [(Pradix.pg_no k).1] at ha; exact absurd ha (by decide)
    rw [(Pradix.pg_yes this).2.2.2.1]
  rw [hct, ha] at HC
  by_cases hE : acW N M S sp a = 0
  case neg =>
    have e2 : acE N M S sp a r = acW N M S sp a := by unfold acE; rw [if_pos ha, if_neg hE]
    obtain ⟨e3, e4⟩ := ac_zero (show acE N M S sp a r ≠ 0 by rw [e2]; exact hE)
    rw [e2, e3, e4]
    generalize acS R N M S sp a = S' at HM ⊢
    generalize mpP N M S sp a = q at HM
    obtain ⟨O, F, P, Z⟩ := q
    dsimp only at HM
    generalize acW N M S sp a = E at HM hE ⊢
    have hE' : (E != 0) = true := by simp [hE]
    clear e2 e3 e4 hE hct hb hr ha
    generalize Pradix.nuA a = B at HC HM
    generalize 4 + a % 32 = C at HC
    go_enter Tryz.func13, Tryz.ntmps13
    go_upto_region 7 with (first
      | (go_at_call 25; refine HL.out.mono ?_; rintro e1 w1 ⟨rfl, hw⟩; subst w1)
      | (go_at_call 26; refine HD.out.mono ?_; rintro e1 w1 ⟨rfl, hw⟩; subst w1)
      | (go_at_call 27; refine HC.out.mono ?_; rintro e2 w2 ⟨rfl, hb⟩; have H2 : Hid (Below w.heap.size w w2) := hb; clear hb)
      | (go_at_call 28; refine (HM.out _ (HA.out.on H2.out)).mono ?_; rintro e3 w3 ⟨rfl, hm, hb⟩; have H3 := (Fd.mk (w0 := w) hm ((But.of_below bt H2.out).trans hb)).more O F P Z; clear hm hb)
      | fail)
    generalize w3.alloc _ = w4 at H3 ⊢
    have H4 := ahide H3.1
    clear H3
    go_wp2
    go_ret3
    exact ⟨rfl, H4.out.ax, H4.out.but⟩
  have eQ : mpP N M S sp a = acP N M S sp a := by unfold mpP; rw [if_pos hE]
  have eB : acB N M S sp a r = Ppte.alB (mpP N M S sp a).1 (mpP N M S sp a).2.1 (mpP N M S sp a).2.2.1 (mpP N M S sp a).2.2.2 r := acB_of eQ.symm
  have eE : acE N M S sp a r = if acB N M S sp a r = true then 0 else 5 := by unfold acE; rw [if_pos ha, if_pos hE]
  have HW : Hid (∀ wc, Calls Tryz.prog 29 #[.agg #[.bool (mpP N M S sp a).1, .int .i64 (mpP N M S sp a).2.1, .int .i64 (mpP N M S sp a).2.2.1, .int .i64 (mpP N M S sp a).2.2.2], .int .i64 r] wc fun e w' => e = .returned (.bool (acB N M S sp a r)) ∧ Below wc.heap.size wc w') := fun wc => by rw [eB]; exact Ppte.allows_any _ _ _ _ r wc hr
  rw [hE] at HM
  by_cases hB : acB N M S sp a r = true
  · have e0 : acE N M S sp a r = 0 := by rw [eE, if_pos hB]
    have e3 : acF N M S sp a r = (mpP N M S sp a).2.1 := by unfold acF; rw [if_pos e0, eQ]
    have e4 : acA N M S sp a r = 4 + a % 32 := by unfold acA; rw [if_pos e0]
    rw [e0, e3, e4]
    rw [hB] at HW
    clear e0 e3 e4 hB eE eB eQ hE hct hb hr ha
    generalize acS R N M S sp a = S' at HM ⊢
    generalize mpP N M S sp a = q at HM HW ⊢
    obtain ⟨O, F, P, Z⟩ := q
    dsimp only at HM HW ⊢
    generalize Pradix.nuA a = B at HC HM
    generalize 4 + a % 32 = C at HC ⊢
    go_enter Tryz.func13, Tryz.ntmps13
    go_upto_region 7 with (first
      | (go_at_call 25; refine HL.out.mono ?_; rintro e1 w1 ⟨rfl, hw⟩; subst w1)
      | (go_at_call 26; refine HD.out.mono ?_; rintro e1 w1 ⟨rfl, hw⟩; subst w1)
      | (go_at_call 27; refine HC.out.mono ?_; rintro e2 w2 ⟨rfl, hb⟩; have H2 : Hid (Below w.heap.size w w2) := hb; clear hb)
      | (go_at_call 28; refine (HM.out _ (HA.out.on H2.out)).mono ?_; rintro e3 w3 ⟨rfl, hm, hb⟩; have H3 := (Fd.mk (w0 := w) hm ((But.of_below bt H2.out).trans hb)).more O F P Z; clear hm hb)
      | fail)
    generalize w3.alloc _ = w4 at H3 ⊢
    generalize w3.heap.size = D at H3 ⊢
    have H4 := ahide H3.1
    have HX := ahide H3.2
    clear H3
    have y0 := HX.out.c0
    have y1 := HX.out.c1
    have y2 := HX.out.c2
    have y3 := HX.out.c3
    go_wp2_with (first
      | (go_at_call 29; refine (HW.out _).mono ?_; rintro e5 w5 ⟨rfl, hb⟩; clear y0 y1 y2 y3; have H5 := ahide (H4.out.on hb); have y1 := (HX.out.on hb).c1; clear hb H4)
      | fail)
    go_ret3
    exact ⟨rfl, H5.out.ax, H5.out.but⟩
  · have e0 : acE N M S sp a r = 5 := by rw [eE, if_neg hB]
    obtain ⟨e3, e4⟩ := ac_zero (show acE N M S sp a r ≠ 0 by rw [e0]; decide)
    rw [e0, e3, e4]
    rw [show acB N M S sp a r = false by simpa using hB] at HW
    clear e0 e3 e4 hB eE eB eQ hE hct hb hr ha
    generalize acS R N M S sp a = S' at HM ⊢
    generalize mpP N M S sp a = q at HM HW
    obtain ⟨O, F, P, Z⟩ := q
    dsimp only at HM HW
    generalize Pradix.nuA a = B at HC HM
    generalize 4 + a % 32 = C at HC
    go_enter Tryz.func13, Tryz.ntmps13
    go_upto_region 7 with (first
      | (go_at_call 25; refine HL.out.mono ?_; rintro e1 w1 ⟨rfl, hw⟩; subst w1)
      | (go_at_call 26; refine HD.out.mono ?_; rintro e1 w1 ⟨rfl, hw⟩; subst w1)
      | (go_at_call 27; refine HC.out.mono ?_; rintro e2 w2 ⟨rfl, hb⟩; have H2 : Hid (Below w.heap.size w w2) := hb; clear hb)
      | (go_at_call 28; refine (HM.out _ (HA.out.on H2.out)).mono ?_; rintro e3 w3 ⟨rfl, hm, hb⟩; have H3 := (Fd.mk (w0 := w) hm ((But.of_below bt H2.out).trans hb)).more O F P Z; clear hm hb)
      | fail)
    generalize w3.alloc _ = w4 at H3 ⊢
    generalize w3.heap.size = D at H3 ⊢
    have H4 := ahide H3.1
    have HX := ahide H3.2
    clear H3
    have y0 := HX.out.c0
    have y1 := HX.out.c1
    have y2 := HX.out.c2
    have y3 := HX.out.c3
    go_wp2_with (first
      | (go_at_call 29; refine (HW.out _).mono ?_; rintro e5 w5 ⟨rfl, hb⟩; clear y0 y1 y2 y3; have H5 := ahide (H4.out.on hb); clear hb H4)
      | fail)
    go_ret3
    exact ⟨rfl, H5.out.ax, H5.out.but⟩
end Go.Proofs.YthcgdgpflhdchaaGreatDoor.Paccess
