/- What Cons, Unmap and Decons of package pgtbl answer and do, for every argument. -/
import Derived.Test.YtfmkhjbahgcgiaaGreatDoorPgtC
namespace Go.Proofs.YtfmkhjbahgcgiaaGreatDoor.Ppgtbl
open Go.Proofs.YtfmkhjbahgcgiaaGreatDoor.Pbase Go.Proofs.YtfmkhjbahgcgiaaGreatDoor.Pmem Go.Proofs.YtfmkhjbahgcgiaaGreatDoor.Pradix
open Go.RowKit
set_option linter.unusedVariables false

/-! ### Cons -/
theorem fl_cons {N : Nat} {M : Nat → Nat → Int} {root high f floor : Int} (hN : N ≤ 64) (hi : okI high = true) (h1 : tbB N M root 0 = true) (h2 : tbB N M f 1 = true) (hE : enE N M root high = 0) :
    flE N root high (enO N M root high) (enF N M root high) (enR N M root high) (enT N M root high) true f 3 0 floor = coE N M root high f floor ∧ flM N M root high (enO N M root high) (enF N M root high) (enR N M root high) (enT N M root high) true f 3 0 floor = coM N M root high f floor := by
  have hf := okF_yes (tb_okF h2)
  have hr := rt_leaf hf.1 (show f < 64 by omega)
  have e1 : coE N M root high f floor = if enO N M root high = true then 10 else if enQ N M root high floor = true then 0 else 6 := by unfold coE; rw [if_pos hi, if_pos ⟨h1, h2⟩, if_pos hE]
  constructor
  · unfold flE
    rw [e1, seE_yes hr (en_ok hE)]
    rfl
  · unfold flM coM
    rw [e1]
    show (if enO N M root high = true then M else if enQ N M root high floor = true then seM N M root high true f 3 0 else M) = _
    cases enO N M root high
    · cases enQ N M root high floor <;> simp
    · simp
/-- An entry beside a memory and the tables. -/
structure En (w0 w : World) (p b N : Nat) (M : Nat → Nat → Int) (D : Nat) (q : Option Addr) (f a : Int) (o : Bool) (g r t : Int) : Prop where
  mx : Mx w p b N M
  below : Below w0.heap.size w0 w
  ent : Box7 w D q f a o g r t
theorem En.on {w0 w w' : World} {p b N : Nat} {M : Nat → Nat → Int} {D : Nat} {q : Option Addr} {f a : Int} {o : Bool} {g r t : Int} (h : En w0 w p b N M D q f a o g r t) (hB : Below w.heap.size w w') : En w0 w' p b N M D q f a o g r t := ⟨h.mx.on hB, h.below.trans (hB.mono h.below.size), h.ent.on hB⟩
theorem en_new {w0 w : World} {p b N : Nat} {M : Nat → Nat → Int} (h : Mx w p b N M) (hb : Below w0.heap.size w0 w) (q : Option Addr) (f a : Int) (o : Bool) (g r t : Int) : En w0 (w.alloc (.cells #[.pointer q, .int .i64 f, .int .i64 a, .bool o, .int .i64 g, .int .i64 r, .int .i64 t] 76)) p b N M w.heap.size q f a o g r t :=
  ⟨h.on (bal (Below.refl _ _) _), bal hb _, box7_new w q f a o g r t 76⟩
/-- A memory and the tables, grown. -/
structure Gw (w0 w : World) (p b N : Nat) (M : Nat → Nat → Int) : Prop where
  mx : Mx w p b N M
  below : Below w0.heap.size w0 w
theorem Gw.on {w0 w w' : World} {p b N : Nat} {M : Nat → Nat → Int} (h : Gw w0 w p b N M) (hB : Below w.heap.size w w') : Gw w0 w' p b N M := ⟨h.mx.on hB, h.below.trans (hB.mono h.below.size)⟩
theorem gw_new {w : World} {p b N : Nat} {M : Nat → Nat → Int} (h : Mx w p b N M) : Gw w w p b N M := ⟨h, Below.refl _ _⟩
theorem Gw.same {w0 w : World} {p b N : Nat} {M : Nat → Nat → Int} (h : Gw w0 w p b N M) : Mx w p b N M ∧ But b w0 w := ⟨h.mx, But.of_below b h.below⟩
set_option maxRecDepth 100000 in
set_option maxHeartbeats 2000000 in
theorem cons_any (p b N : Nat) (root high f floor : Int) (M : Nat → Nat → Int) (w : World) (h : Mx w p b N M) :
    Calls Tryz.prog 24 #[.pointer (some ⟨p, 0, none⟩), .int .i64 root, .int .i64 high, .int .i64 f, .int .i64 floor] w fun x w' => x = .returned (.int .i64 (coE N M root high f floor)) ∧ Mx w' p b N (coM N M root high f floor) ∧ But b w w' := by
  have H0 := hide (gw_new h)
  have HN := hide h.n64
  clear h
  have HI := hide (fun wc => isEntry_any high wc)
  have eM : coM N M root high f floor = if coE N M root high f floor = 0 then seM N M root high true f 3 0 else M := rfl
  by_cases hi : okI high = true
  case neg =>
    have e0 : coE N M root high f floor = 1 := by simp [coE, hi]
    rw [eM, e0, if_neg (by decide)]
    rw [show okI high = false by simpa using hi] at HI
    clear eM e0 hi
    go_enter Tryz.func24, Tryz.ntmps24
    go_wp2_with (first
      | (go_at_call 48; refine (HI.out _).mono ?_; rintro e1 w1 ⟨rfl, hw⟩; subst hw)
      | fail)
    go_ret
    exact ⟨rfl, H0.out.same⟩
  have hI := (okI_iff high).1 hi
  rw [hi] at HI
  have HT : Hid (∀ wc, Mx wc p b N M → Calls Tryz.prog 49 #[.pointer (some ⟨p, 0, none⟩), .int .i64 root, .int .i64 0] wc fun x w' => x = .returned (.bool (tbB N M root 0)) ∧ Below wc.heap.size wc w') := fun wc hc => isTable_any p b N root 0 M wc hc
  have HU : Hid (∀ wc, Mx wc p b N M → Calls Tryz.prog 49 #[.pointer (some ⟨p, 0, none⟩), .int .i64 f, .int .i64 1] wc fun x w' => x = .returned (.bool (tbB N M f 1)) ∧ Below wc.heap.size wc w') := fun wc hc => isTable_any p b N f 1 M wc hc
  have HR : Hid (∀ wc, Mx wc p b N M → Calls Tryz.prog 50 #[.pointer (some ⟨p, 0, none⟩), .int .i64 root, .int .i64 high] wc fun x w' => x = .returned (.tuple #[.agg #[.pointer (some ⟨p, 0, none⟩), .int .i64 root, .int .i64 (4 + high), .bool (enO N M root high), .int .i64 (enF N M root high), .int .i64 (enR N M root high), .int .i64 (enT N M root high)], .int .i64 (enE N M root high)]) ∧ Below wc.heap.size wc w') := fun wc hc => read_any p b N root high M wc hc hI
  clear hI
  by_cases h1 : tbB N M root 0 = true
  case neg =>
    have e0 : coE N M root high f floor = 4 := by simp [coE, hi, h1]
    rw [eM, e0, if_neg (by decide)]
    rw [show tbB N M root 0 = false by simpa using h1] at HT
    clear eM e0 hi h1 HU HR
    go_enter Tryz.func24, Tryz.ntmps24
    go_wp2_with (first
      | (go_at_call 48; refine (HI.out _).mono ?_; rintro e1 w1 ⟨rfl, hw⟩; subst hw)
      | (go_at_call 49; refine (HT.out _ H0.out.mx).mono ?_; rintro e2 w2 ⟨rfl, hb⟩; have H2 := hide (H0.out.on hb); clear hb)
      | fail)
    go_ret
    exact ⟨rfl, H2.out.same⟩
  rw [h1] at HT
  by_cases h2 : tbB N M f 1 = true
  case neg =>
    have e0 : coE N M root high f floor = 4 := by simp [coE, hi, h2]
    rw [eM, e0, if_neg (by decide)]
    rw [show tbB N M f 1 = false by simpa using h2] at HU
    clear eM e0 hi h1 h2 HR
    go_enter Tryz.func24, Tryz.ntmps24
    go_wp2_with (first
      | (go_at_call 48; refine (HI.out _).mono ?_; rintro e1 w1 ⟨rfl, hw⟩; subst hw)
      | (go_at_call 49; with_reducible refine (HT.out _ H0.out.mx).mono ?_; rintro e2 w2 ⟨rfl, hb⟩; have H2 := hide (H0.out.on hb); clear hb H0)
      | (go_at_call 49; with_reducible refine (HU.out _ H2.out.mx).mono ?_; rintro e3 w3 ⟨rfl, hb⟩; have H3 := hide (H2.out.on hb); clear hb)
      | fail)
    go_ret
    exact ⟨rfl, H3.out.same⟩
  rw [h2] at HU
  by_cases hE : enE N M root high = 0
  case neg =>
    have e0 : coE N M root high f floor = enE N M root high := by simp [coE, hi, h1, h2, hE]
    rw [eM, e0, if_neg hE]
    generalize enE N M root high = E at HR hE ⊢
    generalize enO N M root high = O at HR
    generalize enF N M root high = F at HR
    generalize enR N M root high = R at HR
    generalize enT N M root high = T at HR
    generalize 4 + high = A at HR
    have hE' : (E != 0) = true := by simp [hE]
    clear eM e0 hi h1 h2 hE
    go_enter Tryz.func24, Tryz.ntmps24
    go_upto_region 6 with (first
      | (go_at_call 48; refine (HI.out _).mono ?_; rintro e1 w1 ⟨rfl, hw⟩; subst hw)
      | (go_at_call 49; with_reducible refine (HT.out _ H0.out.mx).mono ?_; rintro e2 w2 ⟨rfl, hb⟩; have H2 := hide (H0.out.on hb); clear hb H0)
      | (go_at_call 49; with_reducible refine (HU.out _ H2.out.mx).mono ?_; rintro e3 w3 ⟨rfl, hb⟩; have H3 := hide (H2.out.on hb); clear hb)
      | (go_at_call 50; refine (HR.out _ H3.out.mx).mono ?_; rintro e4 w4 ⟨rfl, hb⟩; have H4 := (H3.out.on hb).on (bal (Below.refl _ _) (.cells #[.pointer (some ⟨p, 0, none⟩), .int .i64 root, .int .i64 A, .bool O, .int .i64 F, .int .i64 R, .int .i64 T] 76)); clear hb)
      | fail)
    generalize w4.alloc _ = w5 at H4 ⊢
    have H5 := hide H4
    clear H4
    go_wp2
    go_ret
    exact ⟨rfl, H5.out.same⟩
  obtain ⟨q1, q2⟩ := fl_cons (floor := floor) HN.out hi h1 h2 hE
  rw [← q1, ← q2]
  rw [hE] at HR
  clear eM q1 q2 hi h1 h2 hE
  have HP : Hid (∀ wc, Mx wc p b N M → Calls Tryz.prog 43 #[.agg #[.pointer (some ⟨p, 0, none⟩), .int .i64 root, .int .i64 (4 + high), .bool (enO N M root high), .int .i64 (enF N M root high), .int .i64 (enR N M root high), .int .i64 (enT N M root high)], .agg #[.bool true, .int .i64 f, .int .i64 3, .int .i64 0], .int .i64 floor] wc fun x w' => x = .returned (.int .i64 (flE N root high (enO N M root high) (enF N M root high) (enR N M root high) (enT N M root high) true f 3 0 floor)) ∧ Mx w' p b N (flM N M root high (enO N M root high) (enF N M root high) (enR N M root high) (enT N M root high) true f 3 0 floor) ∧ But b wc w') := fun wc hc => fill_any p b N root high _ _ _ _ true f 3 0 floor M wc hc
  generalize flE N root high (enO N M root high) (enF N M root high) (enR N M root high) (enT N M root high) true f 3 0 floor = E at HP ⊢
  generalize flM N M root high (enO N M root high) (enF N M root high) (enR N M root high) (enT N M root high) true f 3 0 floor = M' at HP ⊢
  generalize enO N M root high = O at HR HP
  generalize enF N M root high = F at HR HP
  generalize enR N M root high = R at HR HP
  generalize enT N M root high = T at HR HP
  generalize 4 + high = A at HR HP
  go_enter Tryz.func24, Tryz.ntmps24
  go_upto_region 6 with (first
    | (go_at_call 48; refine (HI.out _).mono ?_; rintro e1 w1 ⟨rfl, hw⟩; subst hw)
    | (go_at_call 49; with_reducible refine (HT.out _ H0.out.mx).mono ?_; rintro e2 w2 ⟨rfl, hb⟩; have H2 := hide (H0.out.on hb); clear hb H0)
    | (go_at_call 49; with_reducible refine (HU.out _ H2.out.mx).mono ?_; rintro e3 w3 ⟨rfl, hb⟩; have H3 := hide (H2.out.on hb); clear hb)
    | (go_at_call 50; refine (HR.out _ H3.out.mx).mono ?_; rintro e4 w4 ⟨rfl, hb⟩; have H4 := en_new (H3.out.on hb).mx (H3.out.on hb).below (some ⟨p, 0, none⟩) root A O F R T; clear hb)
    | fail)
  generalize w4.alloc _ = w5 at H4 ⊢
  generalize w4.heap.size = D at H4 ⊢
  have H5 := hide H4
  clear H4
  have x0 := H5.out.ent.c0
  have x1 := H5.out.ent.c1
  have x2 := H5.out.ent.c2
  have x3 := H5.out.ent.c3
  have x4 := H5.out.ent.c4
  have x5 := H5.out.ent.c5
  have x6 := H5.out.ent.c6
  go_wp2_with (first
    | (go_at_call 43; refine (HP.out _ H5.out.mx).mono ?_; rintro e6 w6 ⟨rfl, hm, hb⟩; have H6 := hide (And.intro hm ((But.of_below b H5.out.below).trans hb)); clear hm hb)
    | fail)
  go_ret
  exact ⟨rfl, H6.out⟩
/-! ### Unmap -/
/-- What a put leaves of the entry's block; and behind what is stored into the result. -/
theorem ent_but {w w' : World} {b D : Nat} {q : Option Addr} {f a : Int} {o : Bool} {g r t : Int} (h : Box7 w D q f a o g r t) (hB : But b w w') (hn : D ≠ b) :
    w'.cell? ⟨D, 0, none⟩ = some (.pointer q) ∧ w'.cell? ⟨D, 1, none⟩ = some (.int .i64 f) ∧ w'.cell? ⟨D, 2, none⟩ = some (.int .i64 a) ∧ w'.cell? ⟨D, 3, none⟩ = some (.bool o) ∧ w'.cell? ⟨D, 4, none⟩ = some (.int .i64 g) ∧ w'.cell? ⟨D, 5, none⟩ = some (.int .i64 r) ∧ w'.cell? ⟨D, 6, none⟩ = some (.int .i64 t) :=
  ⟨(h.but hB hn).c0, (h.but hB hn).c1, (h.but hB hn).c2, (h.but hB hn).c3, (h.but hB hn).c4, (h.but hB hn).c5, (h.but hB hn).c6⟩
theorem put4_other (w : World) (B : Nat) (x y z v : Value) (k : Nat) (hk : k ≠ B) : ((((w.setCell ⟨B, 0, none⟩ x).setCell ⟨B, 1, none⟩ y).setCell ⟨B, 2, none⟩ z).setCell ⟨B, 3, none⟩ v).heap[k]? = w.heap[k]? := by
  rw [heap_setCell_other _ _ _ _ hk, heap_setCell_other _ _ _ _ hk, heap_setCell_other _ _ _ _ hk, heap_setCell_other _ _ _ _ hk]
theorem put4_but {w0 w : World} {b : Nat} (h : But b w0 w) (x y z v : Value) : But b w0 ((((w.setCell ⟨w0.heap.size, 0, none⟩ x).setCell ⟨w0.heap.size, 1, none⟩ y).setCell ⟨w0.heap.size, 2, none⟩ z).setCell ⟨w0.heap.size, 3, none⟩ v) :=
  but_on h (((((Below.refl w0.heap.size w).setCell (p := ⟨w0.heap.size, 0, none⟩) (Nat.le_refl _) x).setCell (p := ⟨w0.heap.size, 1, none⟩) (Nat.le_refl _) y).setCell (p := ⟨w0.heap.size, 2, none⟩) (Nat.le_refl _) z).setCell (p := ⟨w0.heap.size, 3, none⟩) (Nat.le_refl _) v)
theorem ent_put4 {w w' : World} {b D B : Nat} {q : Option Addr} {f a : Int} {o : Bool} {g r t : Int} (h : Box7 w D q f a o g r t) (hB : But b w w') (hn : D ≠ b) (hD : D ≠ B) (x y z v : Value) :
    ((((w'.setCell ⟨B, 0, none⟩ x).setCell ⟨B, 1, none⟩ y).setCell ⟨B, 2, none⟩ z).setCell ⟨B, 3, none⟩ v).cell? ⟨D, 0, none⟩ = some (.pointer q) ∧ ((((w'.setCell ⟨B, 0, none⟩ x).setCell ⟨B, 1, none⟩ y).setCell ⟨B, 2, none⟩ z).setCell ⟨B, 3, none⟩ v).cell? ⟨D, 1, none⟩ = some (.int .i64 f) ∧ ((((w'.setCell ⟨B, 0, none⟩ x).setCell ⟨B, 1, none⟩ y).setCell ⟨B, 2, none⟩ z).setCell ⟨B, 3, none⟩ v).cell? ⟨D, 2, none⟩ = some (.int .i64 a) ∧ ((((w'.setCell ⟨B, 0, none⟩ x).setCell ⟨B, 1, none⟩ y).setCell ⟨B, 2, none⟩ z).setCell ⟨B, 3, none⟩ v).cell? ⟨D, 3, none⟩ = some (.bool o) ∧ ((((w'.setCell ⟨B, 0, none⟩ x).setCell ⟨B, 1, none⟩ y).setCell ⟨B, 2, none⟩ z).setCell ⟨B, 3, none⟩ v).cell? ⟨D, 4, none⟩ = some (.int .i64 g) ∧ ((((w'.setCell ⟨B, 0, none⟩ x).setCell ⟨B, 1, none⟩ y).setCell ⟨B, 2, none⟩ z).setCell ⟨B, 3, none⟩ v).cell? ⟨D, 5, none⟩ = some (.int .i64 r) ∧ ((((w'.setCell ⟨B, 0, none⟩ x).setCell ⟨B, 1, none⟩ y).setCell ⟨B, 2, none⟩ z).setCell ⟨B, 3, none⟩ v).cell? ⟨D, 6, none⟩ = some (.int .i64 t) := by
  have hb := put4_other w' B x y z v D hD
  have hk := ent_but h hB hn
  generalize ((((w'.setCell ⟨B, 0, none⟩ x).setCell ⟨B, 1, none⟩ y).setCell ⟨B, 2, none⟩ z).setCell ⟨B, 3, none⟩ v) = w10 at hb ⊢
  have e : ∀ j, w10.cell? ⟨D, j, none⟩ = w'.cell? ⟨D, j, none⟩ := fun j => World.cell?_of_block (w := w') hb
  exact ⟨(e 0).trans hk.1, (e 1).trans hk.2.1, (e 2).trans hk.2.2.1, (e 3).trans hk.2.2.2.1, (e 4).trans hk.2.2.2.2.1, (e 5).trans hk.2.2.2.2.2.1, (e 6).trans hk.2.2.2.2.2.2⟩
/-- A memory of which the result's block is no part. -/
theorem mx_put4 {w0 w : World} {p b N : Nat} {M : Nat → Nat → Int} (h : Mx w p b N M) (hp : p < w0.heap.size) (hb : b < w0.heap.size) (hB : But b w0 w) (hn : ∀ w', But b w0 w' → Tb w') (x y z v : Value) : Mx ((((w.setCell ⟨w0.heap.size, 0, none⟩ x).setCell ⟨w0.heap.size, 1, none⟩ y).setCell ⟨w0.heap.size, 2, none⟩ z).setCell ⟨w0.heap.size, 3, none⟩ v) p b N M := by
  have ho := put4_other w w0.heap.size x y z v
  exact ⟨h.mem.on (ho p (by omega)) (ho b (by omega)), hn _ (put4_but hB x y z v), h.fit, h.n1, h.n64⟩
theorem tb_but {w0 : World} {p b N : Nat} {M : Nat → Nat → Int} (h : Mx w0 p b N M) : ∀ w', But b w0 w' → Tb w' := fun w' hB =>
  ⟨h.tb.th.but hB (Phead.tab_ne h.mem h.tb.th), pt_but h.tb.tp hB (pt_ne h.mem h.tb.tp), wp_but h.tb.tr hB (wp_ne h.mem h.tb.tr)⟩
set_option maxRecDepth 100000 in
set_option maxHeartbeats 4000000 in
theorem unmap_any (p b N : Nat) (root page now : Int) (M : Nat → Nat → Int) (w : World) (h : Mx w p b N M) :
    Calls Tryz.prog 22 #[.pointer (some ⟨p, 0, none⟩), .int .i64 root, .int .i64 page, .int .i64 now] w fun x w' => x = .returned (.tuple #[.agg #[.bool (unO N M root page now), .int .i64 (unF N M root page now), .int .i64 (unR N M root page now), .int .i64 (unT N M root page now)], .int .i64 (unE N M root page now)]) ∧ Mx w' p b N (unM N M root page now) ∧ But b w w' := by
  have HE := hide (pr_new h)
  have HM := hide h
  have HT := hide (fun wc => isTime_any now wc)
  have HF : Hid (∀ wc, Mx wc p b N M → Calls Tryz.prog 33 #[.pointer (some ⟨p, 0, none⟩), .int .i64 root, .int .i64 page] wc fun x w' => x = .returned (.tuple #[.agg #[.pointer (waP N M root page p), .int .i64 (waF N M root page), .int .i64 (waA N M root page), .bool (wkO N M root page), .int .i64 (wkF N M root page), .int .i64 (wkR N M root page), .int .i64 (wkT N M root page)], .int .i64 (wkE N M root page)]) ∧ Below wc.heap.size wc w') := fun wc hc => walk_any p b N root page M wc hc
  clear h
  have eM : unM N M root page now = if unE N M root page now = 0 then seM N M (lfF N M root page) (page % 32) false 0 0 now else M := rfl
  by_cases ht : tiB now = true
  case neg =>
    have e0 : unE N M root page now = 1 := by simp [unE, ht]
    have e1 : unO N M root page now = false := by simp [unO, ht]
    have e2 : unF N M root page now = 0 := by simp [unF, ht]
    have e3 : unR N M root page now = 0 := by simp [unR, ht]
    have e4 : unT N M root page now = 0 := by simp [unT, ht]
    rw [eM, e0, e1, e2, e3, e4, if_neg (by decide)]
    rw [show tiB now = false by simpa using ht] at HT
    clear eM e0 e1 e2 e3 e4 ht HF
    go_enter Tryz.func22, Tryz.ntmps22
    go_wp2_with (first
      | (go_at_call 46; refine (HT.out _).mono ?_; rintro e1 w1 ⟨rfl, hw⟩; subst w1)
      | fail)
    refine bodyPost_ret (v := .tuple #[.agg #[.bool false, .int .i64 0, .int .i64 0, .int .i64 0], .int .i64 1]) (by simp [results, Tryz.results22, go_sem]) rfl ⟨rfl, ?_⟩
    first
      | exact ⟨HE.out.mx, But.of_below b HE.out.below⟩
      | exact ⟨HM.out.on (res4 HE.out.below _ _ _ _), But.of_below b (res4 HE.out.below _ _ _ _)⟩
  rw [ht] at HT
  have e0 : unE N M root page now = wkE N M root page := by simp [unE, ht]
  have e1 : unO N M root page now = wkO N M root page := by simp [unO, ht]
  have e2 : unF N M root page now = wkF N M root page := by simp [unF, ht]
  have e3 : unR N M root page now = wkR N M root page := by simp [unR, ht]
  have e4 : unT N M root page now = wkT N M root page := by simp [unT, ht]
  rw [eM, e0, e1, e2, e3, e4]
  by_cases hE : wkE N M root page = 0
  case neg =>
    have f1 : wkO N M root page = false := by simp [wkO, hE]
    have f2 : wkF N M root page = 0 := by simp [wkF, hE]
    have f3 : wkR N M root page = 0 := by simp [wkR, hE]
    have f4 : wkT N M root page = 0 := by simp [wkT, hE]
    rw [if_neg hE, f1, f2, f3, f4]
    rw [f1, f2, f3, f4] at HF
    generalize wkE N M root page = E at HF hE ⊢
    generalize waF N M root page = L at HF
    generalize waA N M root page = A at HF
    generalize waP N M root page p = P at HF
    have hE' : (E != 0) = true := by simp [hE]
    clear eM e0 e1 e2 e3 e4 f1 f2 f3 f4 hE ht
    go_enter Tryz.func22, Tryz.ntmps22
    go_upto_region 4 with (first
      | (go_at_call 46; refine (HT.out _).mono ?_; rintro e1 w1 ⟨rfl, hw⟩; subst w1)
      | (go_at_call 33; refine (HF.out _ HE.out.mx).mono ?_; rintro e2 w2 ⟨rfl, hb⟩; have H1 := (HE.out.on hb).more P L A false 0 0 0; clear hb HE)
      | fail)
    generalize w2.alloc _ = w3 at H1 ⊢
    generalize w2.heap.size = D at H1 ⊢
    have H2 := hide H1
    clear H1
    have x0 := H2.out.pr.res.c0
    have x1 := H2.out.pr.res.c1
    have x2 := H2.out.pr.res.c2
    have x3 := H2.out.pr.res.c3
    have z0 := H2.out.pr.res.fz
    have xl := H2.out.pr.res.lt
    go_wp2
    refine bodyPost_ret (v := .tuple #[.agg #[.bool false, .int .i64 0, .int .i64 0, .int .i64 0], .int .i64 E]) (by simp [results, Tryz.results22, go_sem, x0, x1, x2, x3]) rfl ⟨rfl, ?_⟩
    exact ⟨HM.out.on (res4 H2.out.pr.below _ _ _ _), But.of_below b (res4 H2.out.pr.below _ _ _ _)⟩
  have hs := un_set (now := now) (show unE N M root page now = 0 by rw [e0]; exact hE)
  have g1 : waP N M root page p = some ⟨p, 0, none⟩ := by simp [waP, hE]
  have g2 : waF N M root page = lfF N M root page := by simp [waF, hE]
  have g3 : waA N M root page = 4 + page % 32 := by simp [waA, hE]
  rw [g1, g2, g3, hE] at HF
  rw [if_pos hE, hE]
  have HP : Hid (∀ wc, Mx wc p b N M → Calls Tryz.prog 47 #[.agg #[.pointer (some ⟨p, 0, none⟩), .int .i64 (lfF N M root page), .int .i64 (4 + page % 32), .bool (wkO N M root page), .int .i64 (wkF N M root page), .int .i64 (wkR N M root page), .int .i64 (wkT N M root page)], .agg #[.bool false, .int .i64 0, .int .i64 0, .int .i64 now]] wc fun x w' => x = .returned (.int .i64 0) ∧ Mx w' p b N (seM N M (lfF N M root page) (page % 32) false 0 0 now) ∧ But b wc w') := fun wc hc => by
    have := put_any p b N (lfF N M root page) (page % 32) (wkO N M root page) (wkF N M root page) (wkR N M root page) (wkT N M root page) false 0 0 now M wc hc
    rwa [hs.2.2.2.2.2] at this
  clear eM e0 e1 e2 e3 e4 hE ht hs g1 g2 g3
  generalize seM N M (lfF N M root page) (page % 32) false 0 0 now = M' at HP ⊢
  generalize wkO N M root page = O at HF HP ⊢
  generalize wkF N M root page = F at HF HP ⊢
  generalize wkR N M root page = R at HF HP ⊢
  generalize wkT N M root page = T at HF HP ⊢
  generalize lfF N M root page = L at HF HP
  generalize 4 + page % 32 = A at HF HP
  have HPL := hide HM.out.mem.lt
  go_enter Tryz.func22, Tryz.ntmps22
  go_upto_region 4 with (first
    | (go_at_call 46; refine (HT.out _).mono ?_; rintro e1 w1 ⟨rfl, hw⟩; subst w1)
    | (go_at_call 33; refine (HF.out _ HE.out.mx).mono ?_; rintro e2 w2 ⟨rfl, hb⟩; have H1 := (HE.out.on hb).more (some ⟨p, 0, none⟩) L A O F R T; clear hb HE)
    | fail)
  generalize w2.alloc _ = w3 at H1 ⊢
  generalize w2.heap.size = D at H1 ⊢
  have H2 := hide H1
  clear H1
  have HDb : Hid (D ≠ b) := (by have := HPL.out.2; have := H2.out.ne; omega : D ≠ b)
  have HDn : Hid (D ≠ w.heap.size) := Nat.ne_of_gt H2.out.ne
  go_upto_region 6 with fail
  go_region_held3 (fun w' => w'.cell? ⟨D, 0, none⟩ = some (.pointer (some ⟨p, 0, none⟩)) ∧ w'.cell? ⟨D, 1, none⟩ = some (.int .i64 L) ∧ w'.cell? ⟨D, 2, none⟩ = some (.int .i64 A) ∧ w'.cell? ⟨D, 3, none⟩ = some (.bool O) ∧ w'.cell? ⟨D, 4, none⟩ = some (.int .i64 F) ∧ w'.cell? ⟨D, 5, none⟩ = some (.int .i64 R) ∧ w'.cell? ⟨D, 6, none⟩ = some (.int .i64 T)) (first | with_reducible exact ent_put4 H2.out.box HB9.out HDb.out HDn.out _ _ _ _ | with_reducible exact ent_but H2.out.box HB9.out HDb.out | with_reducible exact ent_but H2.out.box (But.of_below b (Below.refl _ _).drew) HDb.out)
  (first
    | (go_at_call 47; refine (HP.out _ (by first | exact (H2.out.on (Below.refl _ _).drew).pr.mx | exact H2.out.pr.mx)).mono ?_; rintro e9 w9 ⟨rfl, hm9, hb9⟩; have HB9 : Hid (But b w3 w9) := (by first | exact hb9 | exact (But.of_below b (Below.refl _ _).drew).trans hb9); have HM9 := hide hm9; clear hm9 hb9; have HX : Hid (Ppte.BoxP w9 w.heap.size false 0 0 0) := ⟨Nat.lt_of_lt_of_le H2.out.pr.res.lt HB9.out.size, (HB9.out.cell H2.out.pr.res.lt (Nat.ne_of_gt HPL.out.2)).trans H2.out.pr.res.c0, (HB9.out.cell H2.out.pr.res.lt (Nat.ne_of_gt HPL.out.2)).trans H2.out.pr.res.c1, (HB9.out.cell H2.out.pr.res.lt (Nat.ne_of_gt HPL.out.2)).trans H2.out.pr.res.c2, (HB9.out.cell H2.out.pr.res.lt (Nat.ne_of_gt HPL.out.2)).trans H2.out.pr.res.c3, fun j => (HB9.out.frozen H2.out.pr.res.lt (Nat.ne_of_gt HPL.out.2)).trans (H2.out.pr.res.fz j)⟩; have x0 := HX.out.c0; have x1 := HX.out.c1; have x2 := HX.out.c2; have x3 := HX.out.c3; have z0 := HX.out.fz)
    | fail)
  go_wp2
  refine bodyPost_ret (v := .tuple #[.agg #[.bool O, .int .i64 F, .int .i64 R, .int .i64 T], .int .i64 0]) (by simp [results, Tryz.results22, go_sem, x0, x1, x2, x3]) rfl ⟨rfl, ?_⟩
  have hb : But b w w9 := (But.of_below b H2.out.pr.below).trans HB9.out
  exact ⟨mx_put4 HM9.out HPL.out.1 HPL.out.2 hb (tb_but HM.out) _ _ _ _, put4_but hb _ _ _ _⟩
end Go.Proofs.YtfmkhjbahgcgiaaGreatDoor.Ppgtbl
