/- What the document's Put and Make of layer 10 answer and do, over its own memory. -/
import Derived.Test.YtlpnnpapeoahkaaDoorHdL
namespace Go.Proofs.YtlpnnpapeoahkaaDoor
open Go.RowKit M
set_option linter.unusedVariables false

theorem RefIs.grown {w w' : World} {base p N : Nat} {M : Nat → Nat → Int} (h : RefIs w base p N M) (hB : Below w.heap.size w w') : RefIs w' base p N M := h.on fun k _ hk => hB.block k hk
/-- A head in a block that is none of the document's memory's. -/
structure OwnH (w : World) (B : Nat) (k l : Int) (z : Bool) (t : Int) : Prop where
  row : w.heap[B]? = some (.cells #[.int .i64 k, .int .i64 l, .bool z, .int .i64 t] 33 (0, 0))
theorem OwnH.is {w : World} {B : Nat} {k l t : Int} {z : Bool} (h : OwnH w B k l z t) : Box4 w B k l z t :=
  ⟨(Array.getElem?_eq_some_iff.1 h.row).1, (cell_of_row _ _ _ _ _ _ h.row).trans rfl, (cell_of_row _ _ _ _ _ _ h.row).trans rfl, (cell_of_row _ _ _ _ _ _ h.row).trans rfl, (cell_of_row _ _ _ _ _ _ h.row).trans rfl, fun j => frozen_of_row _ _ _ _ _ h.row⟩
/-- Blocks of heads stay as they were. -/
def KeepH (w w' : World) : Prop := ∀ (B : Nat) (cs : Array Value), w.heap[B]? = some (.cells cs 33 (0, 0)) → w'.heap[B]? = some (.cells cs 33 (0, 0))
theorem KeepH.refl (w : World) : KeepH w w := fun _ _ h => h
theorem KeepH.trans {a b c : World} (h : KeepH a b) (k : KeepH b c) : KeepH a c := fun B cs e => k B cs (h B cs e)
theorem KeepH.below {w w' : World} (h : Below w.heap.size w w') : KeepH w w' := fun B cs e => (h.block B (Array.getElem?_eq_some_iff.1 e).1).trans e
theorem KeepH.set {a w : World} (h : KeepH a w) {x : Nat} {cur : Array Value} (hx : w.heap[x]? = some (.cells cur 48 (0, 0))) (j : Nat) (v : Value) : KeepH a (w.setCell ⟨x, j, none⟩ v) := by
  intro B cs e
  have e' := h B cs e
  have hne : B ≠ x := by rintro rfl; rw [hx] at e'; simp at e'
  exact (Below.heap_setCell _ _ _ _ hne).trans e'
theorem OwnH.keep {w w' : World} {B : Nat} {k l t : Int} {z : Bool} (h : OwnH w B k l z t) (hk : KeepH w w') : OwnH w' B k l z t := ⟨hk _ _ h.row⟩
/-- The document's memory and a head in a block of the call's own. -/
structure Rf (w0 w : World) (base q N : Nat) (M : Nat → Nat → Int) (k l : Int) (z : Bool) (t : Int) : Prop where
  ref : RefIs w base q N M
  below : Below base w0 w
  box : OwnH w w0.heap.size k l z t
theorem RefIs.lt {w : World} {base q N : Nat} {M : Nat → Nat → Int} (h : RefIs w base q N M) : q < w.heap.size := by
  obtain ⟨hq, v, hv, _⟩ := h
  exact (Array.getElem?_eq_some_iff.1 hv).1
theorem Rf.on {w0 w w' : World} {base q N : Nat} {M : Nat → Nat → Int} {k l t : Int} {z : Bool} (h : Rf w0 w base q N M k l z t) (hB : Below w.heap.size w w') : Rf w0 w' base q N M k l z t :=
  ⟨h.ref.grown hB, h.below.trans (hB.mono (Nat.le_trans h.ref.ge (Nat.le_of_lt h.ref.lt))), h.box.keep (KeepH.below hB)⟩
theorem Rf.turn {w0 w w' : World} {base q N : Nat} {M M' : Nat → Nat → Int} {k l t : Int} {z : Bool} (h : Rf w0 w base q N M k l z t) (hR : RefIs w' base q N M') (hB : Below base w w') (hk : KeepH w w') : Rf w0 w' base q N M' k l z t :=
  ⟨hR, h.below.trans hB, h.box.keep hk⟩
theorem rf_new {w : World} {base q N : Nat} {M : Nat → Nat → Int} (h : RefIs w base q N M) (k l : Int) (z : Bool) (t : Int) : Rf w (w.alloc (.cells #[.int .i64 k, .int .i64 l, .bool z, .int .i64 t] 33)) base q N M k l z t :=
  ⟨h.alloc _, (Below.refl _ _).alloc (Nat.le_trans h.ge (Nat.le_of_lt h.lt)) _, ⟨heap_alloc_new w _⟩⟩
/-- As a walk asks the document's memory, and of which kind its rows' blocks are. -/
theorem RefIs.rows {w : World} {base p N : Nat} {M : Nat → Nat → Int} (h : RefIs w base p N M) (hN : 1 ≤ N) : ∃ g cap, ∃ r c : Nat → Nat, w.cell? ⟨p, 0, none⟩ = some (.slice (some ⟨g, 0, none⟩) N cap) ∧
    (∀ f, f < N → w.cell? ⟨g, f, none⟩ = some (.slice (some ⟨r f, 0, none⟩) 36 (c f))) ∧ (∀ f a, f < N → a < 36 → w.cell? ⟨r f, a, none⟩ = some (.int .u64 (M f a)) ∧ w.frozen? ⟨r f, a, none⟩ = false) ∧ ∀ f, f < N → ∃ cur, w.heap[r f]? = some (.cells cur 48 (0, 0)) := by
  obtain ⟨hp, v, hv, r, c, h1, h2, h3⟩ := h
  rcases h1.2 with ⟨_, e⟩ | ⟨g, cap, cur, rfl, hg, hh, _⟩
  · omega
  · refine ⟨g, cap, r, c, by rw [cell_of_row w p 0 _ _ _ hv]; rfl, fun f hf => ?_, fun f a hf ha => ?_, fun f hf => ?_⟩
    · rw [h1.cellAt (g := g) f (by omega)]
      simp [hf]
    · obtain ⟨_, cu, hc, hw⟩ := h2 f hf
      exact ⟨by rw [cell_of_row w _ a _ _ _ hc]; exact hw a ha, frozen_of_row w _ a _ _ hc⟩
    · obtain ⟨_, cu, hc, _⟩ := h2 f hf
      exact ⟨cu, hc⟩
theorem rstore_keep (base p N f a : Nat) (v : Int) (M : Nat → Nat → Int) (w : World) (hf : f < N) (ha : a < 36) (hN : N ≤ 64) (hR : RefIs w base p N M) :
    Calls Tryd.prog 23 #[.pointer (some ⟨p, 0, none⟩), .int .i64 f, .int .i64 a, .int .u64 v] w fun e w' => e = .returned (.int .i64 0) ∧ RefIs w' base p N (stM N M f a v) ∧ Below base w w' ∧ KeepH w w' := by
  obtain ⟨g, cap, r, c, hp, hg0, hw0, ht0⟩ := hR.rows (by omega)
  have hg := hg0 f hf
  obtain ⟨hw, hz⟩ := hw0 f a hf ha
  obtain ⟨cur, ht⟩ := ht0 f hf
  have hok := okF_nat hf
  have hfi : (f : Int) < (N : Int) := by omega
  have hai : (a : Int) < 36 := by omega
  have hst : stM N M f a v = fun h b => if h = f ∧ b = a then v else M h b := by
    have : okW N (f : Int) (a : Int) = true := by simp [okW, hok]; omega
    simp only [stM, this, if_true, Int.toNat_natCast]
  have S := hR.store hf ha hp hg v
  have HS : Hid (RefIs (w.setCell ⟨r f, a, none⟩ (.int .u64 v)) base p N (stM N M f a v) ∧ Below base w (w.setCell ⟨r f, a, none⟩ (.int .u64 v)) ∧ KeepH w (w.setCell ⟨r f, a, none⟩ (.int .u64 v))) := by
    rw [hst]
    exact ⟨S.1, (Below.refl _ _).setCell S.2 _, (KeepH.refl w).set ht _ _⟩
  generalize r f = x at hg hw hz HS
  generalize c f = y at hg
  generalize M f a = m at hw
  clear hg0 hw0 hR S ht0 ht hst
  go_enter Tryd.func23, Tryd.ntmps23
  go_wp2_with (go_at_call 28; refine (is_any p g cap N f _ hN hp).mono ?_; rintro e w' ⟨rfl, rfl⟩)
  go_ret
  exact ⟨rfl, HS.out⟩
theorem rclear_keep (base p N f : Nat) (M : Nat → Nat → Int) (w : World) (hf : f < N) (hN : N ≤ 64) (hR : RefIs w base p N M) :
    Calls Tryd.prog 31 #[.pointer (some ⟨p, 0, none⟩), .int .i64 f] w fun e w' => e = .returned (.int .i64 0) ∧ RefIs w' base p N (clM N M f) ∧ Below base w w' ∧ KeepH w w' := by
  obtain ⟨g, cap, r, c, hp, _, _, _⟩ := hR.rows (by omega)
  have hok := okF_nat hf
  have hfi : (f : Int) < (N : Int) := by omega
  have hcl : clM N M f = fun h b => if h = f then 0 else M h b := by simp only [clM, hok, if_true, Int.toNat_natCast]
  have HR : Hid (RefIs w base p N M) := hR
  rw [hcl]
  clear hR hcl
  go_enter Tryd.func31, Tryd.ntmps31
  go_wp2_with (go_at_call 28; refine (is_any p g cap N f _ hN hp).mono ?_; rintro e w' ⟨rfl, hw'⟩; subst hw')
  go_loopw [5] (fun i wr => ∃ k : Nat, k ≤ 36 ∧ i = .int .i64 k ∧ RefIs wr base p N (fun h b => if h = f ∧ b < k then 0 else M h b) ∧ Below base w' wr ∧ KeepH w' wr) (fun i _ => 36 - (intOf i).toNat)
  case atStart => exact ⟨0, by omega, rfl, HR.out.congr (by intros; simp), Below.refl _ _, KeepH.refl _⟩
  case round =>
    obtain ⟨k, hk, rfl, hR, hB, hK⟩ := hrel
    clear hp HR
    have HB : Hid (Below base w' wr ∧ KeepH w' wr) := ⟨hB, hK⟩
    by_cases hlt : k < 36
    · obtain ⟨g1, cap1, r1, c1, hp, hg0, hw0, ht0⟩ := hR.rows (by omega)
      have hg := hg0 f hf
      obtain ⟨hw, hz⟩ := hw0 f k hf hlt
      obtain ⟨cur, ht⟩ := ht0 f hf
      have S := hR.store hf hlt hp hg 0
      have HS : Hid (RefIs (wr.setCell ⟨r1 f, k, none⟩ (.int .u64 0)) base p N (fun h b => if h = f ∧ b < k + 1 then 0 else M h b) ∧ Below base w' (wr.setCell ⟨r1 f, k, none⟩ (.int .u64 0)) ∧ KeepH w' (wr.setCell ⟨r1 f, k, none⟩ (.int .u64 0))) :=
        ⟨S.1.congr (fun h b _ _ => by by_cases e1 : h = f <;> by_cases e2 : b = k <;> by_cases e3 : b < k <;> simp [e1, e2, e3] <;> omega), hB.setCell S.2 _, hK.set ht _ _⟩
      generalize r1 f = x at hg hw hz HS
      generalize c1 f = y at hg
      obtain ⟨m, hm⟩ : ∃ m, m = (if f = f ∧ k < k then 0 else M f k) := ⟨_, rfl⟩
      rw [← hm] at hw
      have hki : (k : Int) < 36 := by omega
      clear hg0 hw0 hR hm S hB hK ht0 ht
      go_wp2
      go_roundw
      case rel => exact ⟨k + 1, by omega, by go_num, HS.out.1, HS.out.2.1, HS.out.2.2⟩
      case measure => simp [intOf]; omega
    · obtain rfl : k = 36 := by omega
      have HE : Hid (RefIs wr base p N (fun h b => if h = f then 0 else M h b)) := hR.congr (fun h b _ hb => by by_cases e1 : h = f <;> simp [e1] <;> omega)
      clear hR hB hK
      go_wp2
      go_ret
      exact ⟨rfl, HE.out, HB.out.1, HB.out.2⟩
/-- Packing behind the building of the widths and of the parts. -/
theorem rpack_three {k l t : Int} {z : Bool} (hp : Rt k l z t) (w1 : World) :
    Calls Tryd.prog 29 #[.slice (some ⟨w1.heap.size, 0, none⟩) 3 3, .slice (some ⟨w1.heap.size + 1, 0, none⟩) 3 3] ((w1.alloc (.cells #[.int .i64 4, .int .i64 1, .int .i64 1] 3)).alloc (.cells #[.int .u64 k, .int .u64 l, .int .u64 (bz z)] 48)) fun e' W' => e' = .returned (.tuple #[.int .u64 (wd0 k l z), .int .i64 0]) ∧ Below w1.heap.size w1 W' := by
  refine (rpack_ok (some ⟨w1.heap.size, 0, none⟩) (some ⟨w1.heap.size + 1, 0, none⟩) 3 3 ws [k, l, bz z] _ (by decide) rfl (put_can hp).1 ?_ ?_ (put_can hp).2).mono fun e' W' ⟨h1, h2⟩ => ⟨h1, (bal (bal (Below.refl _ _) _) _).trans (h2.mono (by simp; omega))⟩
  · refine .inr ⟨w1.heap.size, 0, 3, rfl, by simp; omega, fun j hj => ?_⟩
    have e := (Below.heap_alloc (w1.alloc (.cells #[.int .i64 4, .int .i64 1, .int .i64 1] 3)) (.cells #[.int .u64 k, .int .u64 l, .int .u64 (bz z)] 48) w1.heap.size (by simp)).trans (heap_alloc_new w1 _)
    rw [Nat.zero_add, cell_of_row _ _ j _ _ _ e]
    match j, hj with
    | 0, _ | 1, _ | 2, _ => rfl
  · refine .inr ⟨w1.heap.size + 1, 0, 3, rfl, by simp, fun j hj => ?_⟩
    have e := heap_alloc_new (w1.alloc (.cells #[.int .i64 4, .int .i64 1, .int .i64 1] 3)) (.cells #[.int .u64 k, .int .u64 l, .int .u64 (bz z)] 48)
    rw [World.size_alloc] at e
    rw [Nat.zero_add, cell_of_row _ _ j _ _ _ e]
    match j, hj with
    | 0, _ | 1, _ | 2, _ => rfl

/-! ### Put, Make -/
theorem Rf.cell {w0 w : World} {base q N : Nat} {M : Nat → Nat → Int} {k l t : Int} {z : Bool} (h : Rf w0 w base q N M k l z t) (hN : 1 ≤ N) : ∃ g cap, w.cell? ⟨q, 0, none⟩ = some (.slice (some ⟨g, 0, none⟩) N cap) := by
  obtain ⟨g, cap, _, _, hp, _⟩ := h.ref.rows hN
  exact ⟨g, cap, hp⟩
set_option maxRecDepth 100000 in
set_option maxHeartbeats 2000000 in
theorem hrput_bad (base q N : Nat) (f k l : Int) (z : Bool) (t : Int) (M : Nat → Nat → Int) (w : World) (hN1 : 1 ≤ N) (hN : N ≤ 64) (hR : RefIs w base q N M) (hb : ¬ (Rt k l z t ∧ okF N f = true)) :
    Calls Tryd.prog 8 #[.pointer (some ⟨q, 0, none⟩), .int .i64 f, .agg #[.int .i64 k, .int .i64 l, .bool z, .int .i64 t]] w fun e w' => e = .returned (.int .i64 1) ∧ RefIs w' base q N M ∧ Below base w w' := by
  have HI : Hid (Rf w (w.alloc (.cells #[.int .i64 k, .int .i64 l, .bool z, .int .i64 t] 33)) base q N M k l z t) := rf_new hR k l z t
  have hr : rtB k l z t = false ∨ (rtB k l z t = true ∧ okF N f = false) := by
    by_cases hp : Rt k l z t
    · exact .inr ⟨rtB_yes hp, by simpa [hp] using hb⟩
    · exact .inl (rtB_no hp)
  have HR : Hid (∀ w1, Calls Tryd.prog 27 #[.agg #[.int .i64 k, .int .i64 l, .bool z, .int .i64 t]] w1 fun e w' => e = .returned (.bool (rtB k l z t)) ∧ Below w1.heap.size w1 w') := fun w1 => right_any k l z t w1
  generalize rtB k l z t = r at HR hr
  clear hR hb
  rcases hr with rfl | ⟨rfl, hok⟩
  · go_enter Tryd.func8, Tryd.ntmps8
    go_wp2_with (first
      | (go_at_call 27; refine (HR.out _).mono ?_; rintro e1 w1 ⟨rfl, hb1⟩; have H1 : Hid (Rf w w1 base q N M k l z t) := HI.out.on hb1; clear hb1)
      | fail)
    go_ret
    exact ⟨rfl, H1.out.ref, H1.out.below⟩
  · go_enter Tryd.func8, Tryd.ntmps8
    go_wp2_with (first
      | (go_at_call 27; refine (HR.out _).mono ?_; rintro e1 w1 ⟨rfl, hb1⟩; have H1 : Hid (Rf w w1 base q N M k l z t) := HI.out.on hb1; clear hb1; obtain ⟨g, cap, hq⟩ := H1.out.cell hN1)
      | (go_at_call 28; refine (is_any q g cap N f _ hN hq).mono ?_; rintro e2 w2 ⟨rfl, hw2⟩; subst hw2; rw [hok])
      | fail)
    go_ret
    exact ⟨rfl, H1.out.ref, H1.out.below⟩
set_option maxRecDepth 100000 in
set_option maxHeartbeats 2000000 in
theorem hrput_ok (base q N f : Nat) (k l : Int) (z : Bool) (t : Int) (M : Nat → Nat → Int) (w : World) (hN : N ≤ 64) (hR : RefIs w base q N M) (hp : Rt k l z t) (hf : f < N) :
    Calls Tryd.prog 8 #[.pointer (some ⟨q, 0, none⟩), .int .i64 f, .agg #[.int .i64 k, .int .i64 l, .bool z, .int .i64 t]] w fun e w' => e = .returned (.int .i64 0) ∧ RefIs w' base q N (st4 N M f (wd0 k l z) t 0 0) ∧ Below base w w' := by
  have HI : Hid (Rf w (w.alloc (.cells #[.int .i64 k, .int .i64 l, .bool z, .int .i64 t] 33)) base q N M k l z t) := rf_new hR k l z t
  have hc : rtB k l z t = true := rtB_yes hp
  have hok := okF_nat hf
  have HP : Hid (Rt k l z t) := hp
  have HF : Hid (f < N) := hf
  have HN : Hid (1 ≤ N) := by show 1 ≤ N; omega
  unfold Rt at hp
  have d0 : IntKind.u64.wrap k = k := wrapu_small (by omega) (by omega)
  have d1 : IntKind.u64.wrap l = l := wrapu_small (by omega) (by omega)
  have d3 : IntKind.u64.wrap t = t := wrapu_small (by omega) (by omega)
  clear hp hR hf
  cases z
  · have HK : Hid (∀ w1, _) := fun w1 => rpack_three HP.out w1
    rw [show bz false = 0 from rfl] at HK
    generalize wd0 k l false = x at HK ⊢
    go_enter Tryd.func8, Tryd.ntmps8
    go_wp2_with (first
      | (go_at_call 27; refine (right_any k l false t _).mono ?_; rintro e1 w1 ⟨rfl, hb1⟩; rw [hc]; have H1 : Hid (Rf w w1 base q N M k l false t) := HI.out.on hb1; clear hb1 HI; obtain ⟨g, cap, hq⟩ := H1.out.cell HN.out; have x0 := H1.out.box.is.c0; have x1 := H1.out.box.is.c1; have x2 := H1.out.box.is.c2; have x3 := H1.out.box.is.c3; have xl := H1.out.box.is.lt)
      | (go_at_call 28; refine (is_any q g cap N f _ hN hq).mono ?_; rintro e2 w2 ⟨rfl, hw2⟩; rw [hok]; subst hw2; clear hq)
      | (go_at_call 29; refine (HK.out _).mono ?_; rintro e3 w3 ⟨rfl, hb3⟩; have H3 : Hid (Rf w w3 base q N M k l false t) := H1.out.on hb3; clear hb3 HK x0 x1 x2 x3 xl)
      | (go_at_call 23; refine (rstore_keep base q N f 0 x M _ HF.out (by omega) hN H3.out.ref).mono ?_; rintro e4 w4 ⟨rfl, hR4, hB4, hK4⟩; have H4 : Hid (Rf w w4 base q N (stM N M f 0 x) k l false t) := H3.out.turn hR4 hB4 hK4; clear hR4 hB4 hK4 H3; have x3 := H4.out.box.is.c3)
      | (go_at_call 23; refine (rstore_keep base q N f 1 t _ _ HF.out (by omega) hN H4.out.ref).mono ?_; rintro e5 w5 ⟨rfl, hR5, hB5, hK5⟩; have H5 : Hid (Rf w w5 base q N (stM N (stM N M f 0 x) f 1 t) k l false t) := H4.out.turn hR5 hB5 hK5; clear hR5 hB5 hK5 H4 x3)
      | (go_at_call 23; refine (rstore_keep base q N f 2 0 _ _ HF.out (by omega) hN H5.out.ref).mono ?_; rintro e6 w6 ⟨rfl, hR6, hB6, hK6⟩; have H6 : Hid (Rf w w6 base q N (stM N (stM N (stM N M f 0 x) f 1 t) f 2 0) k l false t) := H5.out.turn hR6 hB6 hK6; clear hR6 hB6 hK6 H5)
      | (go_at_call 23; refine (rstore_keep base q N f 3 0 _ _ HF.out (by omega) hN H6.out.ref).mono ?_; rintro e7 w7 ⟨rfl, hR7, hB7, hK7⟩; have H7 : Hid (Rf w w7 base q N (st4 N M f x t 0 0) k l false t) := H6.out.turn hR7 hB7 hK7; clear hR7 hB7 hK7 H6)
      | fail)
    go_ret
    exact ⟨rfl, H7.out.ref, H7.out.below⟩
  · have HK : Hid (∀ w1, _) := fun w1 => rpack_three HP.out w1
    rw [show bz true = 1 from rfl] at HK
    generalize wd0 k l true = x at HK ⊢
    go_enter Tryd.func8, Tryd.ntmps8
    go_wp2_with (first
      | (go_at_call 27; refine (right_any k l true t _).mono ?_; rintro e1 w1 ⟨rfl, hb1⟩; rw [hc]; have H1 : Hid (Rf w w1 base q N M k l true t) := HI.out.on hb1; clear hb1 HI; obtain ⟨g, cap, hq⟩ := H1.out.cell HN.out; have x0 := H1.out.box.is.c0; have x1 := H1.out.box.is.c1; have x2 := H1.out.box.is.c2; have x3 := H1.out.box.is.c3; have xl := H1.out.box.is.lt)
      | (go_at_call 28; refine (is_any q g cap N f _ hN hq).mono ?_; rintro e2 w2 ⟨rfl, hw2⟩; rw [hok]; subst hw2; clear hq)
      | (go_at_call 29; refine (HK.out _).mono ?_; rintro e3 w3 ⟨rfl, hb3⟩; have H3 : Hid (Rf w w3 base q N M k l true t) := H1.out.on hb3; clear hb3 HK x0 x1 x2 x3 xl)
      | (go_at_call 23; refine (rstore_keep base q N f 0 x M _ HF.out (by omega) hN H3.out.ref).mono ?_; rintro e4 w4 ⟨rfl, hR4, hB4, hK4⟩; have H4 : Hid (Rf w w4 base q N (stM N M f 0 x) k l true t) := H3.out.turn hR4 hB4 hK4; clear hR4 hB4 hK4 H3; have x3 := H4.out.box.is.c3)
      | (go_at_call 23; refine (rstore_keep base q N f 1 t _ _ HF.out (by omega) hN H4.out.ref).mono ?_; rintro e5 w5 ⟨rfl, hR5, hB5, hK5⟩; have H5 : Hid (Rf w w5 base q N (stM N (stM N M f 0 x) f 1 t) k l true t) := H4.out.turn hR5 hB5 hK5; clear hR5 hB5 hK5 H4 x3)
      | (go_at_call 23; refine (rstore_keep base q N f 2 0 _ _ HF.out (by omega) hN H5.out.ref).mono ?_; rintro e6 w6 ⟨rfl, hR6, hB6, hK6⟩; have H6 : Hid (Rf w w6 base q N (stM N (stM N (stM N M f 0 x) f 1 t) f 2 0) k l true t) := H5.out.turn hR6 hB6 hK6; clear hR6 hB6 hK6 H5)
      | (go_at_call 23; refine (rstore_keep base q N f 3 0 _ _ HF.out (by omega) hN H6.out.ref).mono ?_; rintro e7 w7 ⟨rfl, hR7, hB7, hK7⟩; have H7 : Hid (Rf w w7 base q N (st4 N M f x t 0 0) k l true t) := H6.out.turn hR7 hB7 hK7; clear hR7 hB7 hK7 H6)
      | fail)
    go_ret
    exact ⟨rfl, H7.out.ref, H7.out.below⟩
theorem hrput_any (base q N : Nat) (f k l : Int) (z : Bool) (t : Int) (M : Nat → Nat → Int) (w : World) (hN1 : 1 ≤ N) (hN : N ≤ 64) (hR : RefIs w base q N M) :
    Calls Tryd.prog 8 #[.pointer (some ⟨q, 0, none⟩), .int .i64 f, .agg #[.int .i64 k, .int .i64 l, .bool z, .int .i64 t]] w fun e w' => e = .returned (.int .i64 (errP N f k l z t)) ∧ RefIs w' base q N (putM N M f k l z t) ∧ Below base w w' := by
  by_cases hp : Rt k l z t
  · cases hf : okF N f
    · rw [show errP N f k l z t = 1 by simp [errP, rtB_yes hp, errF, hf], show putM N M f k l z t = M by simp [putM, rtB_yes hp, st4_bad hf]]
      exact hrput_bad base q N f k l z t M w hN1 hN hR (by simp [hf])
    · obtain ⟨g, rfl, hg⟩ := okF_split hf
      rw [show errP N g k l z t = 0 by simp [errP, rtB_yes hp, errF, hf], show putM N M g k l z t = st4 N M g (wd0 k l z) t 0 0 by simp [putM, rtB_yes hp]]
      exact hrput_ok base q N g k l z t M w hN hR hp hg
  · rw [show errP N f k l z t = 1 by simp [errP, rtB_no hp], show putM N M f k l z t = M by simp [putM, rtB_no hp]]
    exact hrput_bad base q N f k l z t M w hN1 hN hR (fun h => hp h.1)
end Go.Proofs.YtlpnnpapeoahkaaDoor
