/- What read and last of package stack answer. -/
import Derived.Test.YtoipfcmjphlmfaaDoorStkA
import Derived.Test.YtoipfcmjphlmfaaDoorStkP
namespace Go.Proofs.YtoipfcmjphlmfaaDoor.Pstack
open Go.Proofs.YtoipfcmjphlmfaaDoor.Pbase Go.Proofs.YtoipfcmjphlmfaaDoor.Pfield Go.Proofs.YtoipfcmjphlmfaaDoor.Play Go.Proofs.YtoipfcmjphlmfaaDoor.Pmem Go.Proofs.YtoipfcmjphlmfaaDoor.Pthd
open Go.RowKit M
set_option linter.unusedVariables false

/-! ### a record that is answered -/
def pz (E : Int) (p : Nat) : Option Addr := if E = 0 then some ⟨p, 0, none⟩ else none
def iz (E v : Int) : Int := if E = 0 then v else 0
theorem pz_yes (p : Nat) : pz 0 p = some ⟨p, 0, none⟩ := rfl
theorem iz_yes (v : Int) : iz 0 v = v := rfl
theorem pz_no {E : Int} (h : E ≠ 0) (p : Nat) : pz E p = none := if_neg h
theorem iz_no {E : Int} (h : E ≠ 0) (v : Int) : iz E v = 0 := if_neg h
def z9 : List Value := [.pointer none, .int .i64 0, .int .i64 0, .int .i64 0, .int .i64 0, .int .i64 0, .int .i64 0, .int .i64 0, .int .i64 0]
def r9 (p : Nat) (f i : Int) (x : Rc) : List Value := [.pointer (some ⟨p, 0, none⟩), .int .i64 f, .int .i64 i, .int .i64 x.co, .int .i64 x.tb, .int .i64 x.pg, .int .i64 x.l, .int .i64 x.e, .int .i64 x.ip]
theorem RowV.but {w w' : World} {B b : Nat} {vs : List Value} (h : RowV w B vs) (hB : But b w w') (hn : B ≠ b) : RowV w' B vs := by
  obtain ⟨t, hr⟩ := h
  exact ⟨t, (hB.block B (Array.getElem?_eq_some_iff.1 hr).1 hn).trans hr⟩
/-! ### read -/
def haL (a c : Int) : Nat → List Value
  | 0 => [.int .u64 0, .int .u64 0]
  | 1 => [.int .u64 a, .int .u64 0]
  | _ => [.int .u64 a, .int .u64 c]
structure Rd (w W : World) (p b N : Nat) (f i : Int) (M : Nat → Nat → Int) (a c : Int) (k : Nat) : Prop where
  sx : Sx W p b N M
  res : RowV W (w.heap.size + 1) z9
  rr : RowV W (w.heap.size + 1 + 1) (r9 p f i rc0)
  hv : RowV W (w.heap.size + 1 + 1 + 1) (haL a c k)
  below : Below w.heap.size w W
theorem rd_new {w : World} {p b N : Nat} {M : Nat → Nat → Int} (h : Sx w p b N M) (f i a c : Int) : Rd w ((((w.alloc (.cells #[.pointer (some ⟨p, 0, none⟩), .int .i64 f, .int .i64 i] 53)).alloc (.cells z9.toArray 55)).alloc (.cells (r9 p f i rc0).toArray 55)).alloc (.cells (haL a c 0).toArray 112)) p b N f i M a c 0 := by
  have b1 := rowV_new (w.alloc (.cells #[.pointer (some ⟨p, 0, none⟩), .int .i64 f, .int .i64 i] 53)) z9 55
  have b2 := rowV_new ((w.alloc (.cells #[.pointer (some ⟨p, 0, none⟩), .int .i64 f, .int .i64 i] 53)).alloc (.cells z9.toArray 55)) (r9 p f i rc0) 55
  have b3 := rowV_new (((w.alloc (.cells #[.pointer (some ⟨p, 0, none⟩), .int .i64 f, .int .i64 i] 53)).alloc (.cells z9.toArray 55)).alloc (.cells (r9 p f i rc0).toArray 55)) (haL a c 0) 112
  simp only [World.size_alloc] at b1 b2 b3
  have hb := bal (bal (bal (bal (Below.refl w.heap.size w) (.cells #[.pointer (some ⟨p, 0, none⟩), .int .i64 f, .int .i64 i] 53)) (.cells z9.toArray 55)) (.cells (r9 p f i rc0).toArray 55)) (.cells (haL a c 0).toArray 112)
  exact ⟨h.on hb, (b1.on (bal (Below.refl _ _) _)).on (bal (Below.refl _ _) _), b2.on (bal (Below.refl _ _) _), b3, hb⟩
theorem Rd.on {w W W' : World} {p b N : Nat} {f i : Int} {M : Nat → Nat → Int} {a c : Int} {k : Nat} (h : Rd w W p b N f i M a c k) (hB : Below W.heap.size W W') : Rd w W' p b N f i M a c k :=
  ⟨h.sx.on hB, h.res.on hB, h.rr.on hB, h.hv.on hB, h.below.trans (hB.mono h.below.size)⟩
theorem Sx.own {w W : World} {p b N : Nat} {M : Nat → Nat → Int} (h : Sx W p b N M) (h0 : Sx w p b N M) (q : Nat) (hq : w.heap.size ≤ q) (j : Nat) (v : Value) : Sx (W.setCell ⟨q, j, none⟩ v) p b N M := by
  have hp := h0.mx.mem.lt
  have ho : ∀ k, k ≠ q → (W.setCell ⟨q, j, none⟩ v).heap[k]? = W.heap[k]? := fun k hk => heap_setCell_other _ _ _ _ hk
  refine ⟨⟨h.mx.mem.on (ho p (by omega)) (ho b (by omega)), ?_, h.mx.fit, h.mx.n1, h.mx.n64⟩, ?_⟩
  · obtain ⟨t, fr, hr⟩ := h.mx.tb.row
    have := h0.mx.tb.lt
    exact ⟨by rw [World.size_setCell]; exact h.mx.tb.lt, t, fr, (ho _ (by omega)).trans hr⟩
  · obtain ⟨t, fr, hr⟩ := h.tb.row
    have := h0.tb.lt
    exact ⟨by rw [World.size_setCell]; exact h.tb.lt, t, fr, (ho _ (by omega)).trans hr⟩
theorem Rd.step {w W : World} {p b N : Nat} {f i : Int} {M : Nat → Nat → Int} {a c : Int} {k l : Nat} (h : Rd w W p b N f i M a c k) (h0 : Sx w p b N M) (j : Nat) (v : Value) (hv : (haL a c k).set j v = haL a c l) : Rd w (W.setCell ⟨w.heap.size + 1 + 1 + 1, j, none⟩ v) p b N f i M a c l :=
  ⟨h.sx.own h0 _ (by omega) _ _, h.res.other (by omega) _ _, h.rr.other (by omega) _ _, by rw [← hv]; exact h.hv.set j v, bst h.below (by omega) _ _⟩
/-- The rows of read, and the parts of the first word. -/
theorem fiv_nr {w : World} {b o B : Nat} {a : Int} {vs : List Value} (h : Fiv w b o a) (k : RowV w B vs) (hv : ∀ u ∈ vs, ∀ z, u ≠ .int .u64 z) : b ≠ B := by
  rintro rfl
  have hc := h.c0
  rw [k.cell] at hc
  exact hv _ (List.mem_of_getElem? hc) _ rfl
theorem six_other {w : World} {B q j : Nat} (hn : q ≠ B) (u0 u1 u2 u3 u4 u5 : Value) : (w.setCell ⟨B, 3, none⟩ u0 |>.setCell ⟨B, 4, none⟩ u1 |>.setCell ⟨B, 5, none⟩ u2 |>.setCell ⟨B, 6, none⟩ u3 |>.setCell ⟨B, 7, none⟩ u4 |>.setCell ⟨B, 8, none⟩ u5).cell? ⟨q, j, none⟩ = w.cell? ⟨q, j, none⟩ := by
  refine World.cell?_of_block ?_
  rw [heap_setCell_other _ _ _ _ hn, heap_setCell_other _ _ _ _ hn, heap_setCell_other _ _ _ _ hn, heap_setCell_other _ _ _ _ hn, heap_setCell_other _ _ _ _ hn, heap_setCell_other _ _ _ _ hn]
theorem unpack_five (a0 : Option Addr) (x : Int) (w : World) (hx : 0 ≤ x ∧ x ≤ 18446744073709551615) (hI : Ints .i64 w.heap.size w (.slice a0 5 5) rws) (hA : canU x rws) :
    Calls Tryd.prog 52 #[.slice a0 5 5, .int .u64 x] w fun e' W' => ∃ b o c, e' = .returned (.tuple #[.slice (some ⟨b, o, none⟩) 5 c, .int .i64 0]) ∧ Fiv W' b o x ∧ Below w.heap.size w W' :=
  (unpack_ok a0 5 rws x w (by decide) hx hI hA).mono fun e' W' ⟨a, c, he, hi, hB⟩ => by
    obtain ⟨b, o, rfl, h5⟩ := fiv_of hi
    exact ⟨b, o, c, he, h5, hB⟩
/-- What region 15 loads. -/
abbrev Ld (W : World) (bb oo B : Nat) (a c : Int) : Prop := W.cell? ⟨bb, oo, none⟩ = some (.int .u64 (rgN a 0)) ∧ W.cell? ⟨bb, oo + 1, none⟩ = some (.int .u64 (rgN a 1)) ∧ W.cell? ⟨bb, oo + 2, none⟩ = some (.int .u64 (rgN a 2)) ∧ W.cell? ⟨bb, oo + 3, none⟩ = some (.int .u64 (rgN a 3)) ∧ W.cell? ⟨bb, oo + 4, none⟩ = some (.int .u64 (rgN a 4)) ∧ W.cell? ⟨B, 1, none⟩ = some (.int .u64 c)
theorem ld_put {w : World} {bb oo B Q : Nat} {a c : Int} (h : Ld w bb oo B a c) (h1 : bb ≠ Q) (h2 : B ≠ Q) (u0 u1 u2 u3 u4 u5 : Value) : Ld (w.setCell ⟨Q, 3, none⟩ u0 |>.setCell ⟨Q, 4, none⟩ u1 |>.setCell ⟨Q, 5, none⟩ u2 |>.setCell ⟨Q, 6, none⟩ u3 |>.setCell ⟨Q, 7, none⟩ u4 |>.setCell ⟨Q, 8, none⟩ u5) bb oo B a c := by
  obtain ⟨c0, c1, c2, c3, c4, c5⟩ := h
  exact ⟨(six_other h1 _ _ _ _ _ _).trans c0, (six_other h1 _ _ _ _ _ _).trans c1, (six_other h1 _ _ _ _ _ _).trans c2, (six_other h1 _ _ _ _ _ _).trans c3, (six_other h1 _ _ _ _ _ _).trans c4, (six_other h2 _ _ _ _ _ _).trans c5⟩
/-- What read has laid in the end. -/
structure Re (w W : World) (p : Nat) (f i : Int) (x : Rc) : Prop where
  res : RowV W (w.heap.size + 1) z9
  rr : RowV W (w.heap.size + 1 + 1) (r9 p f i x)
  below : Below w.heap.size w W
theorem rd_fill {w W : World} {p b N : Nat} {f i : Int} {M : Nat → Nat → Int} {a c : Int} {k : Nat} (h : Rd w W p b N f i M a c k) (x : Rc) : Re w ((((((W.setCell ⟨w.heap.size + 1 + 1, 3, none⟩ (.int .i64 x.co)).setCell ⟨w.heap.size + 1 + 1, 4, none⟩ (.int .i64 x.tb)).setCell ⟨w.heap.size + 1 + 1, 5, none⟩ (.int .i64 x.pg)).setCell ⟨w.heap.size + 1 + 1, 6, none⟩ (.int .i64 x.l)).setCell ⟨w.heap.size + 1 + 1, 7, none⟩ (.int .i64 x.e)).setCell ⟨w.heap.size + 1 + 1, 8, none⟩ (.int .i64 x.ip)).drew p f i x := by
  have r1 := (((((h.res.other (q := w.heap.size + 1 + 1) (by omega) 3 (.int .i64 x.co)).other (q := w.heap.size + 1 + 1) (by omega) 4 (.int .i64 x.tb)).other (q := w.heap.size + 1 + 1) (by omega) 5 (.int .i64 x.pg)).other (q := w.heap.size + 1 + 1) (by omega) 6 (.int .i64 x.l)).other (q := w.heap.size + 1 + 1) (by omega) 7 (.int .i64 x.e)).other (q := w.heap.size + 1 + 1) (by omega) 8 (.int .i64 x.ip)
  have r2 := (((((h.rr.set 3 (.int .i64 x.co)).set 4 (.int .i64 x.tb)).set 5 (.int .i64 x.pg)).set 6 (.int .i64 x.l)).set 7 (.int .i64 x.e)).set 8 (.int .i64 x.ip)
  have r3 : Below w.heap.size w ((((((W.setCell ⟨w.heap.size + 1 + 1, 3, none⟩ (.int .i64 x.co)).setCell ⟨w.heap.size + 1 + 1, 4, none⟩ (.int .i64 x.tb)).setCell ⟨w.heap.size + 1 + 1, 5, none⟩ (.int .i64 x.pg)).setCell ⟨w.heap.size + 1 + 1, 6, none⟩ (.int .i64 x.l)).setCell ⟨w.heap.size + 1 + 1, 7, none⟩ (.int .i64 x.e)).setCell ⟨w.heap.size + 1 + 1, 8, none⟩ (.int .i64 x.ip)) := bst (bst (bst (bst (bst (bst h.below (by omega) _ _) (by omega) _ _) (by omega) _ _) (by omega) _ _) (by omega) _ _) (by omega) _ _
  generalize ((((((W.setCell ⟨w.heap.size + 1 + 1, 3, none⟩ (.int .i64 x.co)).setCell ⟨w.heap.size + 1 + 1, 4, none⟩ (.int .i64 x.tb)).setCell ⟨w.heap.size + 1 + 1, 5, none⟩ (.int .i64 x.pg)).setCell ⟨w.heap.size + 1 + 1, 6, none⟩ (.int .i64 x.l)).setCell ⟨w.heap.size + 1 + 1, 7, none⟩ (.int .i64 x.e)).setCell ⟨w.heap.size + 1 + 1, 8, none⟩ (.int .i64 x.ip)) = V at r1 r2 r3 ⊢
  exact ⟨r1.on (Below.refl _ _).drew, r2.on (Below.refl _ _).drew, r3.drew⟩
set_option maxRecDepth 100000 in
set_option maxHeartbeats 4000000 in
theorem read_any (p b N : Nat) (f : Int) (i : Nat) (M : Nat → Nat → Int) (w : World) (hM : Sx w p b N M) (hf : okF N f = true) (hi : i < 6) :
    Calls Tryd.prog 36 #[.agg #[.pointer (some ⟨p, 0, none⟩), .int .i64 f, .int .i64 (i : Int)]] w fun e w' => e = .returned (.tuple #[.agg #[.pointer (pz (rcE M f i) p), .int .i64 (iz (rcE M f i) f), .int .i64 (iz (rcE M f i) (i : Int)), .int .i64 (rcX M f i).co, .int .i64 (rcX M f i).tb, .int .i64 (rcX M f i).pg, .int .i64 (rcX M f i).l, .int .i64 (rcX M f i).e, .int .i64 (rcX M f i).ip], .int .i64 (rcE M f i)]) ∧ Below w.heap.size w w' := by
  have HS0 := rhide hM
  have HA : Hid (0 ≤ M f.toNat (17 + 2 * i) ∧ M f.toNat (17 + 2 * i) ≤ 18446744073709551615) := hM.mx.fit _ _
  have HB : Hid (0 ≤ M f.toNat (18 + 2 * i) ∧ M f.toNat (18 + 2 * i) ≤ 18446744073709551615) := hM.mx.fit _ _
  have HL0 : Hid (∀ wc, Sx wc p b N M → Calls Tryd.prog 51 #[.agg #[.pointer (some ⟨p, 0, none⟩), .int .i64 f, .int .i64 (i : Int)], .int .i64 0] wc fun e w' => e = .returned (.tuple #[.int .u64 (M f.toNat (17 + 2 * i)), .int .i64 0]) ∧ Below wc.heap.size wc w') := fun wc h => pload_any p b N f i 0 M wc h hf hi (by omega)
  have HL1 : Hid (∀ wc, Sx wc p b N M → Calls Tryd.prog 51 #[.agg #[.pointer (some ⟨p, 0, none⟩), .int .i64 f, .int .i64 (i : Int)], .int .i64 1] wc fun e w' => e = .returned (.tuple #[.int .u64 (M f.toNat (18 + 2 * i)), .int .i64 0]) ∧ Below wc.heap.size wc w') := fun wc h => by
    have := pload_any p b N f i 1 M wc h hf hi (by omega)
    rwa [show 17 + 2 * i + 1 = 18 + 2 * i by omega] at this
  have e0 : rcE M f i = rdE (M f.toNat (17 + 2 * i)) (M f.toNat (18 + 2 * i)) := rfl
  have e1 : rcX M f i = rdX (M f.toNat (17 + 2 * i)) (M f.toNat (18 + 2 * i)) := rfl
  rw [e0, e1]
  generalize M f.toNat (17 + 2 * i) = a at HA HL0 ⊢
  generalize M f.toNat (18 + 2 * i) = c at HB HL1 ⊢
  have H0 := rhide (rd_new hM f (i : Int) a c)
  clear hM e0 e1
  generalize (i : Int) = i' at H0 HL0 HL1 ⊢
  have HRet : Hid ((canU a rws ∧ c ≤ 1073741824 ∧ rdE a c = 0 ∧ rdX a c = rdR a c) ∨ (¬ canU a rws ∧ rdE a c = 12 ∧ rdX a c = rc0) ∨ (canU a rws ∧ ¬ c ≤ 1073741824 ∧ rdE a c = 12 ∧ rdX a c = rc0)) := by
    by_cases h1 : canU a rws
    · by_cases h2 : c ≤ 1073741824
      · have hb : rdB a c = true := (rdB_iff a c).2 ⟨h1, h2⟩
        exact .inl ⟨h1, h2, by unfold rdE; rw [if_pos hb], by unfold rdX; rw [if_pos hb]⟩
      · have hb : ¬ rdB a c = true := fun h => h2 ((rdB_iff a c).1 h).2
        exact .inr (.inr ⟨h1, h2, by unfold rdE; rw [if_neg hb], by unfold rdX; rw [if_neg hb]⟩)
    · have hb : ¬ rdB a c = true := fun h => h1 ((rdB_iff a c).1 h).1
      exact .inr (.inl ⟨h1, by unfold rdE; rw [if_neg hb], by unfold rdX; rw [if_neg hb]⟩)
  generalize rdE a c = E at HRet ⊢
  generalize rdX a c = X at HRet ⊢
  go_enter Tryd.func36, Tryd.ntmps36
  go_wp2
  have H0' : Hid (Rd w ((((w.alloc (.cells #[.pointer (some ⟨p, 0, none⟩), .int .i64 f, .int .i64 i'] 53)).alloc (.cells #[.pointer none, .int .i64 0, .int .i64 0, .int .i64 0, .int .i64 0, .int .i64 0, .int .i64 0, .int .i64 0, .int .i64 0] 55)).alloc (.cells #[.pointer (some ⟨p, 0, none⟩), .int .i64 f, .int .i64 i', .int .i64 0, .int .i64 0, .int .i64 0, .int .i64 0, .int .i64 0, .int .i64 0] 55)).alloc (.cells #[.int .u64 0, .int .u64 0] 112)) p b N f i' M a c 0) := H0
  clear H0
  generalize (((w.alloc _).alloc _).alloc _).alloc _ = w1 at H0' ⊢
  go_loopw [14] (fun j wr => ∃ k : Nat, k ≤ 2 ∧ j = .int .i64 k ∧ Rd w wr p b N f i' M a c k) (fun j _ => 2 - (intOf j).toNat)
  case atStart => exact ⟨0, by omega, rfl, H0'.out⟩
  case round =>
    obtain ⟨k, hk, rfl, hI⟩ := hrel
    have HI := rhide hI
    clear hI H0'
    rcases (show k = 0 ∨ k = 1 ∨ k = 2 by omega) with rfl | rfl | rfl
    · have x0 : wr.cell? ⟨w.heap.size + 1 + 1, 0, none⟩ = some (.pointer (some ⟨p, 0, none⟩)) := HI.out.rr.cell 0
      have x1 : wr.cell? ⟨w.heap.size + 1 + 1, 1, none⟩ = some (.int .i64 f) := HI.out.rr.cell 1
      have x2 : wr.cell? ⟨w.heap.size + 1 + 1, 2, none⟩ = some (.int .i64 i') := HI.out.rr.cell 2
      go_wp2_with (first
        | (go_at_call 51; refine (HL0.out _ HI.out.sx).mono ?_; rintro e2 w2 ⟨rfl, hb⟩; have H2 := rhide (HI.out.on hb); clear hb HI x0 x1 x2; have y : w2.cell? ⟨w.heap.size + 1 + 1 + 1, 0, none⟩ = some (.int .u64 0) := H2.out.hv.cell 0; have z := H2.out.hv.fz 0)
        | fail)
      go_roundw
      case rel => exact ⟨0 + 1, by omega, rfl, H2.out.step (l := 0 + 1) HS0.out 0 _ rfl⟩
      case measure => simp [intOf]
    · have x0 : wr.cell? ⟨w.heap.size + 1 + 1, 0, none⟩ = some (.pointer (some ⟨p, 0, none⟩)) := HI.out.rr.cell 0
      have x1 : wr.cell? ⟨w.heap.size + 1 + 1, 1, none⟩ = some (.int .i64 f) := HI.out.rr.cell 1
      have x2 : wr.cell? ⟨w.heap.size + 1 + 1, 2, none⟩ = some (.int .i64 i') := HI.out.rr.cell 2
      go_wp2_with (first
        | (go_at_call 51; refine (HL1.out _ HI.out.sx).mono ?_; rintro e2 w2 ⟨rfl, hb⟩; have H2 := rhide (HI.out.on hb); clear hb HI x0 x1 x2; have y : w2.cell? ⟨w.heap.size + 1 + 1 + 1, 1, none⟩ = some (.int .u64 0) := H2.out.hv.cell 1; have z := H2.out.hv.fz 1)
        | fail)
      go_roundw
      case rel => exact ⟨1 + 1, by omega, rfl, H2.out.step (l := 1 + 1) HS0.out 1 _ rfl⟩
      case measure => simp [intOf]
    · clear HL0 HL1
      obtain ⟨g0, g1, g2, g3, g4⟩ := HI.out.sx.tb.cells
      have gl := HI.out.sx.tb.lt
      have HJ : Hid (Ints .i64 _ _ (.slice (some ⟨wr.heap.size, 0, none⟩) 5 5) rws) := ints_rws wr 76
      have H1 := rhide (HI.out.on (bal (Below.refl wr.heap.size wr) (.cells #[.int .i64 6, .int .i64 6, .int .i64 6, .int .i64 6, .int .i64 16] 76)))
      clear HI
      go_upto_region 12 with fail
      clear g0 g1 g2 g3 g4 gl
      generalize wr.alloc _ = v1 at HJ H1 ⊢
      generalize wr.heap.size = D at HJ ⊢
      have y0 : v1.cell? ⟨w.heap.size + 1 + 1 + 1, 0, none⟩ = some (.int .u64 a) := H1.out.hv.cell 0
      rcases HRet.out with ⟨hc, hcb, rfl, rfl⟩ | ⟨hc, rfl, rfl⟩ | ⟨hc, hcb, rfl, rfl⟩
      · have HN := rhide hc
        obtain ⟨g0, g1, g2, g3, g4⟩ := rgN_bd HA.out hc
        have d0 : IntKind.i64.wrap (rgN a 0) = rgN a 0 := wrapi_small (by omega) (by omega)
        have d1 : IntKind.i64.wrap (rgN a 1) = rgN a 1 := wrapi_small (by omega) (by omega)
        have d2 : IntKind.i64.wrap (rgN a 2) = rgN a 2 := wrapi_small (by omega) (by omega)
        have d3 : IntKind.i64.wrap (rgN a 3) = rgN a 3 := wrapi_small (by omega) (by omega)
        have d4 : IntKind.i64.wrap (rgN a 4) = rgN a 4 := wrapi_small (by omega) (by omega)
        have hB0 := HB.out
        have d5 : IntKind.i64.wrap c = c := wrapi_small (by omega) (by omega)
        have hgt : ¬ 1073741824 < c := by omega
        clear hc hcb HRet g0 g1 g2 g3 g4 hB0
        go_region_held3 (fun w' => w'.cell? ⟨w.heap.size + 1 + 1 + 1, 0, none⟩ = some (.int .u64 a)) (first | assumption | go_keep)
        (first
          | (go_at_call 52; refine (unpack_five (some ⟨D, 0, none⟩) a _ HA.out (by first | exact HJ.out | exact HJ.out.on (Below.refl _ _).drew) HN.out).mono ?_; rintro e2 w2 ⟨bb, oo, cc, rfl, h5, hb⟩; have H2 := rhide (H1.out.on (by first | exact hb | exact (Below.refl _ _).drew.trans hb)); have H5 := rhide h5; clear hb h5 H1 HJ y0; have y0 : w2.cell? ⟨w.heap.size + 1 + 1 + 1, 0, none⟩ = some (.int .u64 a) := H2.out.hv.cell 0)
          | fail)
        all_goals
          have y1 : w2.cell? ⟨w.heap.size + 1 + 1 + 1, 1, none⟩ = some (.int .u64 c) := H2.out.hv.cell 1
          clear y0
          go_upto_region 15 with fail
          have hne := fiv_nr H5.out H2.out.rr (by intro u hu z; simp only [r9, List.mem_cons, List.not_mem_nil, or_false] at hu; rcases hu with rfl | rfl | rfl | rfl | rfl | rfl | rfl | rfl | rfl <;> simp)
          have f0 := H5.out.c0
          have f1 := H5.out.c1
          have f2 := H5.out.c2
          have f3 := H5.out.c3
          have f4 := H5.out.c4
          have HLd : Hid (Ld w2 bb oo (w.heap.size + 1 + 1 + 1) a c) := ⟨f0, f1, f2, f3, f4, y1⟩
          have q0 : w2.cell? ⟨w.heap.size + 1 + 1, 0, none⟩ = some (.pointer (some ⟨p, 0, none⟩)) := H2.out.rr.cell 0
          have q1 : w2.cell? ⟨w.heap.size + 1 + 1, 1, none⟩ = some (.int .i64 f) := H2.out.rr.cell 1
          have q2 : w2.cell? ⟨w.heap.size + 1 + 1, 2, none⟩ = some (.int .i64 i') := H2.out.rr.cell 2
          have q3 : w2.cell? ⟨w.heap.size + 1 + 1, 3, none⟩ = some (.int .i64 0) := H2.out.rr.cell 3
          have q4 : w2.cell? ⟨w.heap.size + 1 + 1, 4, none⟩ = some (.int .i64 0) := H2.out.rr.cell 4
          have q5 : w2.cell? ⟨w.heap.size + 1 + 1, 5, none⟩ = some (.int .i64 0) := H2.out.rr.cell 5
          have q6 : w2.cell? ⟨w.heap.size + 1 + 1, 6, none⟩ = some (.int .i64 0) := H2.out.rr.cell 6
          have q7 : w2.cell? ⟨w.heap.size + 1 + 1, 7, none⟩ = some (.int .i64 0) := H2.out.rr.cell 7
          have q8 : w2.cell? ⟨w.heap.size + 1 + 1, 8, none⟩ = some (.int .i64 0) := H2.out.rr.cell 8
          have zq := H2.out.rr.fz
          go_region
          have H3 := rhide (rd_fill H2.out ⟨rgN a 0, rgN a 1, rgN a 2, rgN a 3, rgN a 4, c⟩)
          dsimp only at H3
          clear f0 f1 f2 f3 f4 y1 HLd hne q0 q1 q2 q3 q4 q5 q6 q7 q8 zq H5 d0 d1 d2 d3 d4 d5 H2
          generalize World.drew _ = v3 at H3 ⊢
          have q0 : v3.cell? ⟨w.heap.size + 1 + 1, 0, none⟩ = some (.pointer (some ⟨p, 0, none⟩)) := H3.out.rr.cell 0
          have q1 : v3.cell? ⟨w.heap.size + 1 + 1, 1, none⟩ = some (.int .i64 f) := H3.out.rr.cell 1
          have q2 : v3.cell? ⟨w.heap.size + 1 + 1, 2, none⟩ = some (.int .i64 i') := H3.out.rr.cell 2
          have q3 : v3.cell? ⟨w.heap.size + 1 + 1, 3, none⟩ = some (.int .i64 (rgN a 0)) := H3.out.rr.cell 3
          have q4 : v3.cell? ⟨w.heap.size + 1 + 1, 4, none⟩ = some (.int .i64 (rgN a 1)) := H3.out.rr.cell 4
          have q5 : v3.cell? ⟨w.heap.size + 1 + 1, 5, none⟩ = some (.int .i64 (rgN a 2)) := H3.out.rr.cell 5
          have q6 : v3.cell? ⟨w.heap.size + 1 + 1, 6, none⟩ = some (.int .i64 (rgN a 3)) := H3.out.rr.cell 6
          have q7 : v3.cell? ⟨w.heap.size + 1 + 1, 7, none⟩ = some (.int .i64 (rgN a 4)) := H3.out.rr.cell 7
          have q8 : v3.cell? ⟨w.heap.size + 1 + 1, 8, none⟩ = some (.int .i64 c) := H3.out.rr.cell 8
          have x0 : v3.cell? ⟨w.heap.size + 1, 0, none⟩ = some (.pointer none) := H3.out.res.cell 0
          have x1 : v3.cell? ⟨w.heap.size + 1, 1, none⟩ = some (.int .i64 0) := H3.out.res.cell 1
          have x2 : v3.cell? ⟨w.heap.size + 1, 2, none⟩ = some (.int .i64 0) := H3.out.res.cell 2
          have x3 : v3.cell? ⟨w.heap.size + 1, 3, none⟩ = some (.int .i64 0) := H3.out.res.cell 3
          have x4 : v3.cell? ⟨w.heap.size + 1, 4, none⟩ = some (.int .i64 0) := H3.out.res.cell 4
          have x5 : v3.cell? ⟨w.heap.size + 1, 5, none⟩ = some (.int .i64 0) := H3.out.res.cell 5
          have x6 : v3.cell? ⟨w.heap.size + 1, 6, none⟩ = some (.int .i64 0) := H3.out.res.cell 6
          have x7 : v3.cell? ⟨w.heap.size + 1, 7, none⟩ = some (.int .i64 0) := H3.out.res.cell 7
          have x8 : v3.cell? ⟨w.heap.size + 1, 8, none⟩ = some (.int .i64 0) := H3.out.res.cell 8
          have z := H3.out.res.fz
          go_wp2
          refine bodyPost_ret (v := .tuple #[.agg #[.pointer (some ⟨p, 0, none⟩), .int .i64 f, .int .i64 i', .int .i64 (rgN a 0), .int .i64 (rgN a 1), .int .i64 (rgN a 2), .int .i64 (rgN a 3), .int .i64 (rgN a 4), .int .i64 c], .int .i64 0]) (by simp [results, Tryd.results36, go_sem, x0, x1, x2, x3, x4, x5, x6, x7, x8]) rfl ⟨rfl, ?_⟩
          exact bst (bst (bst (bst (bst (bst (bst (bst (bst H3.out.below (by omega) _ _) (by omega) _ _) (by omega) _ _) (by omega) _ _) (by omega) _ _) (by omega) _ _) (by omega) _ _) (by omega) _ _) (by omega) _ _
      · have HN := rhide hc
        clear hc HRet
        go_region_held3 (fun w' => w'.cell? ⟨w.heap.size + 1 + 1 + 1, 0, none⟩ = some (.int .u64 a)) (first | assumption | go_keep)
        (first
          | (go_at_call 52; refine (unpack_bad (some ⟨D, 0, none⟩) 5 rws a _ (by decide) HA.out (by first | exact HJ.out | exact HJ.out.on (Below.refl _ _).drew) HN.out).mono ?_; rintro e2 w2 ⟨rfl, hb⟩; have H2 := rhide (H1.out.on (by first | exact hb | exact (Below.refl _ _).drew.trans hb)); clear hb H1 HJ y0; have y0 : w2.cell? ⟨w.heap.size + 1 + 1 + 1, 0, none⟩ = some (.int .u64 a) := H2.out.hv.cell 0)
          | fail)
        all_goals
          clear y0
          have x0 : w2.cell? ⟨w.heap.size + 1, 0, none⟩ = some (.pointer none) := H2.out.res.cell 0
          have x1 : w2.cell? ⟨w.heap.size + 1, 1, none⟩ = some (.int .i64 0) := H2.out.res.cell 1
          have x2 : w2.cell? ⟨w.heap.size + 1, 2, none⟩ = some (.int .i64 0) := H2.out.res.cell 2
          have x3 : w2.cell? ⟨w.heap.size + 1, 3, none⟩ = some (.int .i64 0) := H2.out.res.cell 3
          have x4 : w2.cell? ⟨w.heap.size + 1, 4, none⟩ = some (.int .i64 0) := H2.out.res.cell 4
          have x5 : w2.cell? ⟨w.heap.size + 1, 5, none⟩ = some (.int .i64 0) := H2.out.res.cell 5
          have x6 : w2.cell? ⟨w.heap.size + 1, 6, none⟩ = some (.int .i64 0) := H2.out.res.cell 6
          have x7 : w2.cell? ⟨w.heap.size + 1, 7, none⟩ = some (.int .i64 0) := H2.out.res.cell 7
          have x8 : w2.cell? ⟨w.heap.size + 1, 8, none⟩ = some (.int .i64 0) := H2.out.res.cell 8
          have z := H2.out.res.fz
          go_wp2
          refine bodyPost_ret (v := .tuple #[.agg #[.pointer none, .int .i64 0, .int .i64 0, .int .i64 0, .int .i64 0, .int .i64 0, .int .i64 0, .int .i64 0, .int .i64 0], .int .i64 12]) (by simp [results, Tryd.results36, go_sem, x0, x1, x2, x3, x4, x5, x6, x7, x8]) rfl ⟨rfl, ?_⟩
          first
            | exact bst (bst (bst (bst (bst (bst (bst (bst (bst H2.out.below (by omega) _ _) (by omega) _ _) (by omega) _ _) (by omega) _ _) (by omega) _ _) (by omega) _ _) (by omega) _ _) (by omega) _ _) (by omega) _ _
            | exact bst (bst (bst (bst (bst (bst (bst (bst (bst (H2.out.on (Below.refl _ _).drew).below (by omega) _ _) (by omega) _ _) (by omega) _ _) (by omega) _ _) (by omega) _ _) (by omega) _ _) (by omega) _ _) (by omega) _ _) (by omega) _ _
      · have HN := rhide hc
        have hgt : 1073741824 < c := by omega
        clear hc hcb HRet
        go_region_held3 (fun w' => w'.cell? ⟨w.heap.size + 1 + 1 + 1, 0, none⟩ = some (.int .u64 a)) (first | assumption | go_keep)
        (first
          | (go_at_call 52; refine (unpack_five (some ⟨D, 0, none⟩) a _ HA.out (by first | exact HJ.out | exact HJ.out.on (Below.refl _ _).drew) HN.out).mono ?_; rintro e2 w2 ⟨bb, oo, cc, rfl, h5, hb⟩; have H2 := rhide (H1.out.on (by first | exact hb | exact (Below.refl _ _).drew.trans hb)); have H5 := rhide h5; clear hb h5 H1 HJ y0; have y0 : w2.cell? ⟨w.heap.size + 1 + 1 + 1, 0, none⟩ = some (.int .u64 a) := H2.out.hv.cell 0)
          | fail)
        all_goals
          have y1 : w2.cell? ⟨w.heap.size + 1 + 1 + 1, 1, none⟩ = some (.int .u64 c) := H2.out.hv.cell 1
          clear y0
          have x0 : w2.cell? ⟨w.heap.size + 1, 0, none⟩ = some (.pointer none) := H2.out.res.cell 0
          have x1 : w2.cell? ⟨w.heap.size + 1, 1, none⟩ = some (.int .i64 0) := H2.out.res.cell 1
          have x2 : w2.cell? ⟨w.heap.size + 1, 2, none⟩ = some (.int .i64 0) := H2.out.res.cell 2
          have x3 : w2.cell? ⟨w.heap.size + 1, 3, none⟩ = some (.int .i64 0) := H2.out.res.cell 3
          have x4 : w2.cell? ⟨w.heap.size + 1, 4, none⟩ = some (.int .i64 0) := H2.out.res.cell 4
          have x5 : w2.cell? ⟨w.heap.size + 1, 5, none⟩ = some (.int .i64 0) := H2.out.res.cell 5
          have x6 : w2.cell? ⟨w.heap.size + 1, 6, none⟩ = some (.int .i64 0) := H2.out.res.cell 6
          have x7 : w2.cell? ⟨w.heap.size + 1, 7, none⟩ = some (.int .i64 0) := H2.out.res.cell 7
          have x8 : w2.cell? ⟨w.heap.size + 1, 8, none⟩ = some (.int .i64 0) := H2.out.res.cell 8
          have z := H2.out.res.fz
          go_wp2
          refine bodyPost_ret (v := .tuple #[.agg #[.pointer none, .int .i64 0, .int .i64 0, .int .i64 0, .int .i64 0, .int .i64 0, .int .i64 0, .int .i64 0, .int .i64 0], .int .i64 12]) (by simp [results, Tryd.results36, go_sem, x0, x1, x2, x3, x4, x5, x6, x7, x8]) rfl ⟨rfl, ?_⟩
          first
            | exact bst (bst (bst (bst (bst (bst (bst (bst (bst H2.out.below (by omega) _ _) (by omega) _ _) (by omega) _ _) (by omega) _ _) (by omega) _ _) (by omega) _ _) (by omega) _ _) (by omega) _ _) (by omega) _ _
            | exact bst (bst (bst (bst (bst (bst (bst (bst (bst (H2.out.on (Below.refl _ _).drew).below (by omega) _ _) (by omega) _ _) (by omega) _ _) (by omega) _ _) (by omega) _ _) (by omega) _ _) (by omega) _ _) (by omega) _ _) (by omega) _ _
end Go.Proofs.YtoipfcmjphlmfaaDoor.Pstack
