/- The document's memory: its Store once more; its Lay and Read: numbers behind a frame's head (stages 17 to 22). -/
import Derived.Test.YtikhbohkmogffaaDoorCmpG
import Derived.Test.YtikhbohkmogffaaDoorBunMem
import Derived.Test.YtikhbohkmogffaaDoorBunField
import Derived.OwnWalk
import Derived.BigRegion
import Derived.Deep.RegionHeld3
namespace Go.Proofs.YtikhbohkmogffaaDoor.Pcomp
open Go.Proofs.YtikhbohkmogffaaDoor.Pbase Go.Proofs.YtikhbohkmogffaaDoor.Pfield Go.Proofs.YtikhbohkmogffaaDoor.Pmem
open Go.RowKit
set_option linter.unusedVariables false

/-! ### the document's memory -/
structure Rx (w : World) (base q N : Nat) (M : Nat → Nat → Int) : Prop where
  ref : RefIs w base q N M
  fit : Fit M
  n1 : 1 ≤ N
  n64 : N ≤ 64
theorem Rx.grown {w w' : World} {base q N : Nat} {M : Nat → Nat → Int} (h : Rx w base q N M) (hB : Below w.heap.size w w') : Rx w' base q N M := ⟨h.ref.grown hB, h.fit, h.n1, h.n64⟩
theorem Rx.turn {w w' : World} {base q N : Nat} {M M' : Nat → Nat → Int} (h : Rx w base q N M) (hR : RefIs w' base q N M') (hF : Fit M') : Rx w' base q N M' := ⟨hR, hF, h.n1, h.n64⟩
theorem Rx.le {w : World} {base q N : Nat} {M : Nat → Nat → Int} (h : Rx w base q N M) : base ≤ w.heap.size := Nat.le_trans h.ref.ge (Nat.le_of_lt h.ref.lt)
/-- Blocks that begin with anything but a word stay. -/
def Stay (w w' : World) : Prop := w.heap.size ≤ w'.heap.size ∧ ∀ (B : Nat) (v : Value), w.cell? ⟨B, 0, none⟩ = some v → (∀ z, v ≠ .int .u64 z) → w'.heap[B]? = w.heap[B]?
theorem Stay.refl (w : World) : Stay w w := ⟨Nat.le_refl _, fun _ _ _ _ => rfl⟩
theorem Stay.trans {a b c : World} (h : Stay a b) (k : Stay b c) : Stay a c := ⟨Nat.le_trans h.1 k.1, fun B z hB hz => (k.2 B z ((World.cell?_of_block (w := a) (h.2 B z hB hz)).trans hB) hz).trans (h.2 B z hB hz)⟩
theorem Stay.of_below {w w' : World} (h : Below w.heap.size w w') : Stay w w' := ⟨h.size, fun B z hB _ => h.block B (World.block_lt_of_cell? w _ hB)⟩
theorem Stay.cell {w w' : World} (h : Stay w w') {B : Nat} {v : Value} (hB : w.cell? ⟨B, 0, none⟩ = some v) (hz : ∀ z, v ≠ .int .u64 z) (j : Nat) : w'.cell? ⟨B, j, none⟩ = w.cell? ⟨B, j, none⟩ := World.cell?_of_block (w := w) (h.2 B v hB hz)
theorem stay_store {w : World} {x j : Nat} {m : Int} (hm : w.cell? ⟨x, 0, none⟩ = some (.int .u64 m)) (v : Value) : Stay w (w.setCell ⟨x, j, none⟩ v) :=
  ⟨by rw [World.size_setCell]; exact Nat.le_refl _, fun B z hB hz => heap_setCell_other _ _ _ _ fun e => by rw [e, hm] at hB; cases hB; exact hz _ rfl⟩
theorem ystore_ok (base p N f a : Nat) (v : Int) (M : Nat → Nat → Int) (w : World) (hf : f < N) (ha : a < 36) (hN : N ≤ 64) (hR : RefIs w base p N M) :
    Calls Tryd.prog 23 #[.pointer (some ⟨p, 0, none⟩), .int .i64 f, .int .i64 a, .int .u64 v] w fun e w' => e = .returned (.int .i64 0) ∧ RefIs w' base p N (fun h b => if h = f ∧ b = a then v else M h b) ∧ Below base w w' ∧ Stay w w' := by
  obtain ⟨g, cap, r, c, hp, hg0, hw0, _, _⟩ := hR.parts (by omega)
  have hg := hg0 f hf
  obtain ⟨hw, hz⟩ := hw0 f a hf ha
  have hok := okF_nat hf
  have hfi : (f : Int) < (N : Int) := by omega
  have hai : (a : Int) < 36 := by omega
  have S := hR.store hf ha hp hg v
  have HS : Hid (RefIs (w.setCell ⟨r f, a, none⟩ (.int .u64 v)) base p N (fun h b => if h = f ∧ b = a then v else M h b) ∧ Below base w (w.setCell ⟨r f, a, none⟩ (.int .u64 v)) ∧ Stay w (w.setCell ⟨r f, a, none⟩ (.int .u64 v))) := ⟨S.1, (Below.refl _ _).setCell S.2 _, stay_store (hw0 f 0 hf (by omega)).1 _⟩
  obtain ⟨x, hx⟩ : ∃ x, x = r f := ⟨_, rfl⟩
  obtain ⟨y, hy⟩ : ∃ y, y = c f := ⟨_, rfl⟩
  rw [← hx] at hg hw hz HS
  rw [← hy] at hg
  obtain ⟨m, hm⟩ : ∃ m, m = M f a := ⟨_, rfl⟩
  rw [← hm] at hw
  clear hg0 hw0 hR hm S hx hy
  go_enter Tryd.func23, Tryd.ntmps23
  go_wp2_with (go_at_call 40; refine (is_any p g cap N f _ hN hp).mono ?_; rintro e w' ⟨rfl, rfl⟩)
  go_ret
  exact ⟨rfl, HS.out⟩
theorem ystore_any (base p N : Nat) (f a v : Int) (M : Nat → Nat → Int) (w : World) (hN1 : 1 ≤ N) (hN : N ≤ 64) (hR : RefIs w base p N M) :
    Calls Tryd.prog 23 #[.pointer (some ⟨p, 0, none⟩), .int .i64 f, .int .i64 a, .int .u64 v] w fun e w' => e = .returned (.int .i64 (errW N f a)) ∧ RefIs w' base p N (stW N M f a v) ∧ Below base w w' ∧ Stay w w' := by
  cases h : okF N f
  · simp only [stW, errW, okW, h, Bool.false_and, Bool.false_eq_true, if_false]
    exact (rstore_badF base p N f a v M w h hN1 hN hR).mono fun _ _ ⟨h1, h2⟩ => ⟨h1, by rw [h2]; exact hR, by rw [h2]; exact ⟨Below.refl _ _, Stay.refl _⟩⟩
  · obtain ⟨c, rfl, hc⟩ := okF_split h
    by_cases ha : 0 ≤ a ∧ a < 36
    · obtain ⟨d, rfl⟩ := Int.eq_ofNat_of_zero_le ha.1
      have : okW N (c : Int) (d : Int) = true := by simp [okW, h]; omega
      simp only [stW, errW, this, if_true, Int.toNat_natCast]
      exact ystore_ok base p N c d v M w hc (by omega) hN hR
    · have : okW N (c : Int) a = false := by simp [okW, h]; omega
      simp only [stW, errW, this, Bool.false_eq_true, if_false]
      exact (rstore_badA base p N c a v M w hc ha hN hR).mono fun _ _ ⟨h1, h2⟩ => ⟨h1, by rw [h2]; exact hR, by rw [h2]; exact ⟨Below.refl _ _, Stay.refl _⟩⟩

/-! ### Lay -/
/-- These numbers lie in block D from its beginning on. -/
def Lst (w : World) (D : Nat) (l : List Int) : Prop := ∀ j, j < l.length → w.cell? ⟨D, j, none⟩ = some (.int .i64 (l[j]?.getD 0))
theorem Lst.stay {w w' : World} {D : Nat} {l : List Int} (h : Lst w D l) (k : Stay w w') : Lst w' D l := fun j hj => by
  rw [k.cell (h 0 (by omega)) (fun z e => by cases e) j]
  exact h j hj
theorem Lst.on {w w' : World} {D : Nat} {l : List Int} (h : Lst w D l) (hB : Below w.heap.size w w') : Lst w' D l := h.stay (.of_below hB)
structure LyI (w wr : World) (base q N D : Nat) (M : Nat → Nat → Int) (l : List Int) : Prop where
  rx : Rx wr base q N M
  below : Below base w wr
  stay : Stay w wr
  lst : Lst wr D l
theorem LyI.turn {w wr w' : World} {base q N D : Nat} {M M' : Nat → Nat → Int} {l : List Int} (h : LyI w wr base q N D M l) (hR : RefIs w' base q N M') (hB : Below base wr w') (hS : Stay wr w') (hF : Fit M') : LyI w w' base q N D M' l :=
  ⟨h.rx.turn hR hF, h.below.trans hB, h.stay.trans hS, h.lst.stay hS⟩
theorem take_snoc {l : List Int} {k : Nat} (hk : k < l.length) : l.take (k + 1) = l.take k ++ [l[k]?.getD 0] := by
  rw [List.take_add_one, List.getElem?_eq_getElem hk]
  rfl
set_option maxRecDepth 100000 in
set_option maxHeartbeats 1000000 in
theorem rlay_any (base q N D cap : Nat) (f : Int) (l : List Int) (M : Nat → Nat → Int) (w : World) (h : Rx w base q N M) (hL : Lst w D l) (hl : l.length ≤ 32) (hv : ∀ x ∈ l, 0 ≤ x ∧ x ≤ 9223372036854775807) :
    Calls Tryd.prog 28 #[.pointer (some ⟨q, 0, none⟩), .int .i64 f, .slice (some ⟨D, 0, none⟩) l.length cap] w fun x w' => x = .returned (.tuple #[]) ∧ Rx w' base q N (layF N M f l) ∧ Below base w w' ∧ Stay w w' := by
  have HI0 : Hid (LyI w w base q N D M l) := ⟨h, Below.refl _ _, Stay.refl _, hL⟩
  clear h hL
  go_enter Tryd.func28, Tryd.ntmps28
  go_wp2
  go_loopw [6] (fun i wr => ∃ k : Nat, k ≤ l.length ∧ i = .int .i64 k ∧ LyI w wr base q N D (layF N M f (l.take k)) l) (fun i _ => l.length - (intOf i).toNat)
  case atStart => exact ⟨0, by omega, rfl, by rw [List.take_zero, lay_nil]; exact HI0.out⟩
  case round =>
    obtain ⟨k, hk, rfl, hI⟩ := hrel
    clear HI0
    by_cases hlt : k < l.length
    · have hki : (k : Int) < (l.length : Int) := by omega
      have hc := hI.lst k hlt
      have hx := hv (l[k]?.getD 0) (by rw [List.getElem?_eq_getElem hlt]; exact List.getElem_mem hlt)
      have HS := rhide (take_snoc hlt)
      generalize l[k]?.getD 0 = x at hc hx HS
      have hu : IntKind.u64.wrap x = x := wrapu_small (by omega) (by omega)
      have hw : wrap64 (4 + (k : Int)) = 4 + (k : Int) := by simp only [wrap64]; omega
      have HX : Hid (0 ≤ x ∧ x ≤ 18446744073709551615) := (show 0 ≤ x ∧ x ≤ 18446744073709551615 by omega)
      have HI := rhide hI
      clear hI hx
      go_wp2_with (first
        | (go_at_call 23; refine (ystore_any base q N f (4 + (k : Int)) x _ _ HI.out.rx.n1 HI.out.rx.n64 HI.out.rx.ref).mono ?_; rintro e w1 ⟨rfl, hR, hB, hS⟩; have H1 := rhide (HI.out.turn hR hB hS (HI.out.rx.fit.st N f _ x HX.out)); clear hR hB hS HI)
        | fail)
      go_roundw
      case rel =>
        refine ⟨k + 1, by omega, by go_num, ?_⟩
        have e := lay_step (N := N) (M := M) (f := f) (l := l.take k) (by rw [List.length_take]; omega) x
        rw [List.length_take, Nat.min_eq_left (by omega)] at e
        rw [HS.out, ← e]
        exact H1.out
      case measure => simp [intOf]; omega
    · obtain rfl : k = l.length := by omega
      rw [List.take_length] at hI
      have HI := rhide hI
      clear hI
      go_wp2
      go_end0
      exact ⟨rfl, HI.out.rx, HI.out.below, HI.out.stay⟩
/-! ### Read -/
/-- The words read, and whether they all are numbers of a time. -/
def rdL (N : Nat) (M : Nat → Nat → Int) (f : Int) (k : Nat) : List Int := (List.range k).map fun i => ldM N M f (4 + (i : Nat))
def rdB (N : Nat) (M : Nat → Nat → Int) (f : Int) (k : Nat) : Bool := decide (∀ i, i < k → ldM N M f (4 + (i : Nat)) ≤ 1073741824)
theorem rdL_succ (N : Nat) (M : Nat → Nat → Int) (f : Int) (k : Nat) : rdL N M f (k + 1) = rdL N M f k ++ [ldM N M f (4 + (k : Nat))] := by simp [rdL, List.range_succ]
theorem rdL_len (N : Nat) (M : Nat → Nat → Int) (f : Int) (k : Nat) : (rdL N M f k).length = k := by simp [rdL]
theorem rdL_at (N : Nat) (M : Nat → Nat → Int) (f : Int) {k j : Nat} (h : j < k) : (rdL N M f k)[j]?.getD 0 = ldM N M f (4 + (j : Nat)) := by simp [rdL, h]
def rdV (N : Nat) (M : Nat → Nat → Int) (f : Int) (k : Nat) : List Value := (rdL N M f k).map (.int .i64)
theorem ld_fit {N : Nat} {M : Nat → Nat → Int} (h : Fit M) (f a : Int) : 0 ≤ ldM N M f a ∧ ldM N M f a ≤ 18446744073709551615 := by
  unfold ldM
  split
  · exact h _ _
  · omega
theorem infoIntC : (Tryd.prog.info? 3).map (fun i => (i.zero, i.size, i.bytes)) = some (some (.int .i64 0), 1, 8) := by kernel_rfl
structure RdI (w wr : World) (N : Nat) (M : Nat → Nat → Int) (f : Int) (k : Nat) (v : Value) : Prop where
  below : Below w.heap.size w wr
  row : wr.ownsRow w.heap.size 3 1 v k (rdV N M f k)
  ok : ∀ i, i < k → ldM N M f (4 + (i : Nat)) ≤ 1073741824
theorem owns_lst {w : World} {base : Nat} {v : Value} {l : List Int} (h : w.ownsRow base 3 1 v l.length (l.map (.int .i64))) (h0 : 0 < l.length) : ∃ g cap, v = .slice (some ⟨g, 0, none⟩) l.length cap ∧ base ≤ g ∧ g < w.heap.size ∧ Lst w g l := by
  rcases h.2 with ⟨e, _⟩ | ⟨g, cap, cur, e, hg, hh, _, _, _, ht⟩
  · omega
  · refine ⟨g, cap, e, hg, (Array.getElem?_eq_some_iff.1 hh).1, fun j hj => ?_⟩
    have := congrArg (fun l => l[j]?) ht
    simp only [Nat.mul_one, List.getElem?_take, hj, if_true, Array.getElem?_toList, List.getElem?_map, List.getElem?_eq_getElem hj, Option.map_some] at this
    rw [cell_of_row w g j _ _ _ hh, this, List.getElem?_eq_getElem hj]
    rfl
set_option maxRecDepth 100000 in
set_option maxHeartbeats 1000000 in
theorem rread_any (base q N k0 : Nat) (f : Int) (M : Nat → Nat → Int) (w : World) (h : Rx w base q N M) (h0 : 0 < k0) (h32 : k0 ≤ 32) :
    Calls Tryd.prog 35 #[.pointer (some ⟨q, 0, none⟩), .int .i64 f, .int .i64 k0] w fun x w' => ((rdB N M f k0 = false ∧ x = .returned (.tuple #[.slice none 0 0, .bool false])) ∨ (rdB N M f k0 = true ∧ ∃ g cap, x = .returned (.tuple #[.slice (some ⟨g, 0, none⟩) k0 cap, .bool true]) ∧ w.heap.size ≤ g ∧ g < w'.heap.size ∧ Lst w' g (rdL N M f k0))) ∧ Below w.heap.size w w' := by
  obtain ⟨it, hi, hz0, hz1, hz2⟩ := info_parts infoIntC
  have H0 := rhide h
  clear h
  go_enter Tryd.func35, Tryd.ntmps35
  go_wp2
  go_loopw [8, 9] (fun s i wr => ∃ (k : Nat) (v : Value), k ≤ k0 ∧ i = .int .i64 k ∧ s = v ∧ RdI w wr N M f k v) (fun _ i _ => k0 - (intOf i).toNat)
  case atStart => exact ⟨0, _, by omega, rfl, rfl, Below.refl _ _, World.ownsRow_nil _ _ _ _, fun i hi => by omega⟩
  case round =>
    obtain ⟨k, v, hk, rfl, hv, hI⟩ := hrel
    obtain ⟨av, cv, hvs⟩ := ownsRow_slice hI.row
    subst hv
    subst hvs
    by_cases hlt : k < k0
    · have hki : (k : Int) < (k0 : Int) := by omega
      have hw : wrap64 (4 + (k : Int)) = 4 + (k : Int) := by simp only [wrap64]; omega
      have hrx := H0.out.grown hI.below
      have hfit := ld_fit (N := N) hrx.fit f (4 + (k : Int))
      have HL : Hid (Calls Tryd.prog 51 #[.pointer (some ⟨q, 0, none⟩), .int .i64 f, .int .i64 (4 + (k : Int))] wr fun x w' => x = .returned (.tuple #[.int .u64 (ldM N M f (4 + (k : Int))), .int .i64 (errW N f (4 + (k : Int)))]) ∧ w' = wr) := rload_any base q N f _ M wr hrx.n1 hrx.n64 hrx.ref
      obtain ⟨x, hx⟩ : ∃ x, ldM N M f (4 + (k : Int)) = x := ⟨_, rfl⟩
      rw [hx] at HL hfit
      have HX := rhide hx
      have hrow := hI.row
      have hsz : w.heap.size ≤ wr.heap.size := hI.below.size
      have HI := rhide hI
      clear hx hI hrx
      by_cases hm : x ≤ 1073741824
      · have hu : IntKind.i64.wrap x = x := wrapi_small (by omega) (by omega)
        have hng : ¬ 1073741824 < x := by omega
        have HR : Hid (∀ g, (Value.slice av k cv).ownBlock = some g → w.heap.size ≤ g) := fun g e => (hrow.lt g e).1
        go_wp2_with (first
          | (go_at_call 51; refine HL.out.mono ?_; rintro e w' ⟨rfl, hw'⟩; subst w'; clear HL)
          | (at_builtin; refine wpList_append_own _ rfl _ _ 24 rfl w.heap.size 3 it (.int .i64 0) 1 8 Tryd.underlying24 hi hz0 hz1 hz2 rfl (by decide) _ _ _ rfl (hrow.alloc _) ⟨wr.heap.size, 0, none⟩ 1 1 [.int .i64 x] rfl rfl (cell_one_new wr _ _) (by simp [Value.oneCell']) (by unfold maxLen; omega) (by omega) (by simp; omega) ?_; intro v' w1 hown' hgrow _; obtain ⟨g', cap', rfl⟩ := ownsRow_succ hown'; have HB1 : Hid (Below w.heap.size wr w1) := ((Below.refl _ _).alloc (by omega) _).grown hgrow (by simp; omega) (fun k e => HR.out k e); have HG1 := rhide hgrow; have HO1 := rhide hown'; clear hgrow hown'))
        go_roundw
        case rel =>
          refine ⟨k + 1, _, by omega, by go_num, rfl, HI.out.below.trans HB1.out, ?_, fun j hj => ?_⟩
          · have e : rdV N M f (k + 1) = rdV N M f k ++ [.int .i64 x] := by unfold rdV; rw [rdL_succ, List.map_append, HX.out]; rfl
            rw [e]
            exact HO1.out
          · by_cases e : j = k
            · subst e; rw [HX.out]; exact hm
            · exact HI.out.ok j (by omega)
        case measure => simp [intOf]; omega
      · have hng : 1073741824 < x := by omega
        go_wp2_with (first
          | (go_at_call 51; refine HL.out.mono ?_; rintro e w' ⟨rfl, hw'⟩; subst w'; clear HL)
          | fail)
        go_ret2
        refine ⟨.inl ⟨?_, rfl⟩, HI.out.below⟩
        unfold rdB
        rw [decide_eq_false_iff_not]
        intro hall
        have := hall k hlt
        rw [HX.out] at this
        omega
    · obtain rfl : k = k0 := by omega
      have HI := rhide hI
      clear hI
      go_wp2
      go_ret2
      refine ⟨.inr ⟨by unfold rdB; rw [decide_eq_true_eq]; exact HI.out.ok, ?_⟩, HI.out.below⟩
      have e := owns_lst (l := rdL N M f k) (by rw [rdL_len]; exact HI.out.row) (by rw [rdL_len]; exact h0)
      rw [rdL_len] at e
      obtain ⟨g, cap, e1, e2, e3, e4⟩ := e
      exact ⟨g, cap, by rw [e1]; rfl, e2, e3, e4⟩
end Go.Proofs.YtikhbohkmogffaaDoor.Pcomp
