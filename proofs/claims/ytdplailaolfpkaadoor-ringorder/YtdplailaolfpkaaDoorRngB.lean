/- What isEndpoint, place, load, store, reach, find, Clear and Put of package ring answer and do. -/
import Derived.Test.YtdplailaolfpkaaDoorRngA
import Derived.Test.YtdplailaolfpkaaDoorRngE
import Derived.Deep.RegionHeld3
namespace Go.Proofs.YtdplailaolfpkaaDoor.Pring
open Go.Proofs.YtdplailaolfpkaaDoor.Pbase Go.Proofs.YtdplailaolfpkaaDoor.Pfield Go.Proofs.YtdplailaolfpkaaDoor.Play Go.Proofs.YtdplailaolfpkaaDoor.Pmem
open Go.RowKit M
set_option linter.unusedVariables false

theorem wmod8 {a : Int} (h : 0 ≤ a) : a.tmod 8 = a % 8 := Int.tmod_eq_emod_of_nonneg h
/-! ### isEndpoint -/
set_option maxRecDepth 100000 in
theorem isEnd_any (p b N : Nat) (f : Int) (M : Nat → Nat → Int) (w : World) (hM : Mx w p b N M) : Calls Tryd.prog 31 #[.pointer (some ⟨p, 0, none⟩), .int .i64 f] w fun e w' => e = .returned (.bool (Phead.isE N M f 6 == 0)) ∧ Below w.heap.size w w' := by
  have HI : Hid (Calls Tryd.prog 60 #[.pointer (some ⟨p, 0, none⟩), .int .i64 f, .int .i64 6] w fun e w' => e = .returned (.int .i64 (Phead.isE N M f 6)) ∧ Below w.heap.size w w') := Phead.his_any p b N f 6 M w hM.n1 hM.n64 hM.mem hM.hd hM.fit
  clear hM
  generalize Phead.isE N M f 6 = E at HI ⊢
  go_enter Tryd.func31, Tryd.ntmps31
  go_wp2_with (first
    | (go_at_call 60; refine HI.out.mono ?_; rintro e1 w1 ⟨rfl, hb⟩; have H1 := rhide hb; clear hb HI)
    | fail)
  go_ret
  exact ⟨rfl, H1.out⟩
/-! ### place -/
set_option maxRecDepth 100000 in
theorem plU_any (a n : Int) (ha : 0 ≤ a ∧ a < 8) (hn : 0 ≤ n ∧ n ≤ 8) (w : World) : Calls Tryd.prog 36 #[.int .u64 a, .int .u64 n] w fun e w' => e = .returned (.int .i64 ((a + n) % 8)) ∧ w' = w := by
  have d1 : IntKind.u64.wrap (a + n) = a + n := wrapu_small (by omega) (by omega)
  have d2 : (a + n).tmod 8 = (a + n) % 8 := wmod8 (by omega)
  have d3 : IntKind.i64.wrap ((a + n) % 8) = (a + n) % 8 := wrapi_small (by omega) (by omega)
  go_enter Tryd.func36, Tryd.ntmps36
  go_wp2
  go_ret
  exact ⟨rfl, rfl⟩
set_option maxRecDepth 100000 in
theorem plI_any (a n : Int) (ha : 0 ≤ a ∧ a < 8) (hn : 0 ≤ n ∧ n ≤ 8) (w : World) : Calls Tryd.prog 40 #[.int .u64 a, .int .i64 n] w fun e w' => e = .returned (.int .i64 ((a + n) % 8)) ∧ w' = w := by
  have d0 : IntKind.u64.wrap n = n := wrapu_small (by omega) (by omega)
  have d1 : IntKind.u64.wrap (a + n) = a + n := wrapu_small (by omega) (by omega)
  have d2 : (a + n).tmod 8 = (a + n) % 8 := wmod8 (by omega)
  have d3 : IntKind.i64.wrap ((a + n) % 8) = (a + n) % 8 := wrapi_small (by omega) (by omega)
  go_enter Tryd.func40, Tryd.ntmps40
  go_wp2
  go_ret
  exact ⟨rfl, rfl⟩
/-! ### load, store -/
set_option maxRecDepth 100000 in
theorem ld_any (p b N : Nat) (f a n i : Int) (M : Nat → Nat → Int) (w : World) (hM : Mx w p b N M) (hf : okF N f = true) (hi : 0 ≤ i ∧ i < 24) : Calls Tryd.prog 62 #[.agg #[.pointer (some ⟨p, 0, none⟩), .int .i64 f, .int .u64 a, .int .u64 n], .int .i64 i] w fun e w' => e = .returned (.tuple #[.int .u64 (M f.toNat (12 + i).toNat), .int .i64 0]) ∧ Below w.heap.size w w' := by
  have o := okW_ring hf (i := 12 + i) (by omega) (by omega)
  have HL : Hid (∀ wc, Mx wc p b N M → Calls Tryd.prog 79 #[.pointer (some ⟨p, 0, none⟩), .int .i64 f, .int .i64 (12 + i)] wc fun e w' => e = .returned (.tuple #[.int .u64 (M f.toNat (12 + i).toNat), .int .i64 0]) ∧ w' = wc) := fun wc h => by
    have := Pmem.load_any p b N f (12 + i) M wc h.n1 h.n64 h.mem
    rwa [show errW N f (12 + i) = 0 by unfold errW; rw [o]; rfl, show ldM N M f (12 + i) = M f.toNat (12 + i).toNat by unfold ldM; rw [o]; rfl] at this
  have HM : Hid (Mx (w.alloc (.cells #[.pointer (some ⟨p, 0, none⟩), .int .i64 f, .int .u64 a, .int .u64 n] 77)) p b N M) := hM.on (bal (Below.refl _ _) _)
  have d : wrap64 (12 + i) = 12 + i := by unfold wrap64; omega
  generalize M f.toNat (12 + i).toNat = v at HL ⊢
  clear o hM hf hi
  go_enter Tryd.func62, Tryd.ntmps62
  go_wp2_with (first
    | (go_at_call 79; refine (HL.out _ HM.out).mono ?_; rintro e1 w1 ⟨rfl, hw⟩; subst w1; clear HL)
    | fail)
  go_ret2
  exact ⟨rfl, bal (Below.refl _ _) _⟩
set_option maxRecDepth 100000 in
theorem st_any (p b N : Nat) (f a n i v : Int) (M : Nat → Nat → Int) (w : World) (hM : Mx w p b N M) (hf : okF N f = true) (hi : 0 ≤ i ∧ i < 24) (hv : 0 ≤ v ∧ v ≤ 18446744073709551615) : Calls Tryd.prog 35 #[.agg #[.pointer (some ⟨p, 0, none⟩), .int .i64 f, .int .u64 a, .int .u64 n], .int .i64 i, .int .u64 v] w fun e w' => e = .returned (.int .i64 0) ∧ Mx w' p b N (stW N M f (12 + i) v) ∧ But b w w' := by
  have o := okW_ring hf (i := 12 + i) (by omega) (by omega)
  have HM : Hid (Mx (w.alloc (.cells #[.pointer (some ⟨p, 0, none⟩), .int .i64 f, .int .u64 a, .int .u64 n] 77)) p b N M) := hM.on (bal (Below.refl _ _) _)
  have HB : Hid (But b w (w.alloc (.cells #[.pointer (some ⟨p, 0, none⟩), .int .i64 f, .int .u64 a, .int .u64 n] 77))) := But.of_below b (bal (Below.refl _ _) _)
  have HL : Hid (∀ wc, Mx wc p b N M → Calls Tryd.prog 27 #[.pointer (some ⟨p, 0, none⟩), .int .i64 f, .int .i64 (12 + i), .int .u64 v] wc fun e w' => e = .returned (.int .i64 0) ∧ Mx w' p b N (stW N M f (12 + i) v) ∧ But b wc w') := fun wc h => by
    have := store_any p b N f (12 + i) v M wc h.n1 h.n64 h.mem
    rw [show errW N f (12 + i) = 0 by unfold errW; rw [o]; rfl] at this
    exact this.mono fun e w' ⟨q1, q2⟩ => ⟨q1, by rw [q2]; exact h.but (h.mem.set _) (h.fit.st N f _ v hv) ((But.refl b wc).setRow _), by rw [q2]; exact (But.refl b wc).setRow _⟩
  have d : wrap64 (12 + i) = 12 + i := by unfold wrap64; omega
  generalize stW N M f (12 + i) v = M1 at HL ⊢
  clear o hM hf hi
  go_enter Tryd.func35, Tryd.ntmps35
  go_wp2_with (first
    | (go_at_call 27; refine (HL.out _ HM.out).mono ?_; rintro e1 w1 ⟨rfl, hm, hb⟩; have H1 := rhide (And.intro hm (HB.out.trans hb)); clear hm hb HL)
    | fail)
  go_ret
  exact ⟨rfl, H1.out.1, H1.out.2⟩
/-! ### reach -/
/-- A memory and a ring that was handed in. -/
structure Rr (w W : World) (p b N : Nat) (M : Nat → Nat → Int) (E : Nat) (f a n : Int) : Prop where
  mx : Mx W p b N M
  rc : RowN W E p f a n
  el : w.heap.size ≤ E
  but : But b w W
section
variable {w W W' : World} {p b N : Nat} {M M' : Nat → Nat → Int} {E : Nat} {f a n : Int}
theorem Rr.on (h : Rr w W p b N M E f a n) (hB : Below W.heap.size W W') : Rr w W' p b N M E f a n := ⟨h.mx.on hB, h.rc.on hB, h.el, h.but.trans (But.of_below b hB)⟩
theorem Rr.turn (h : Rr w W p b N M E f a n) (hl : b < w.heap.size) (hX : Mx W' p b N M') (hB : But b W W') : Rr w W' p b N M' E f a n := ⟨hX, h.rc.but hB (by have := h.el; omega), h.el, h.but.trans hB⟩
theorem rr_new (h : Mx W p b N M) (hB : Below w.heap.size w W) (f a n : Int) : Rr w (W.alloc (.cells #[.pointer (some ⟨p, 0, none⟩), .int .i64 f, .int .u64 a, .int .u64 n] 77)) p b N M W.heap.size f a n := ⟨h.on (bal (Below.refl _ _) _), rowN_new W p f a n, hB.size, But.of_below b (bal hB _)⟩
end
set_option maxRecDepth 100000 in
set_option maxHeartbeats 1000000 in
theorem reach_any (p b N : Nat) (f a n u v : Int) (M : Nat → Nat → Int) (w : World) (hM : Mx w p b N M) (hf : okF N f = true) (hu : 0 ≤ u ∧ u ≤ 18446744073709551615) (hv : 0 ≤ v ∧ v ≤ 18446744073709551615) : Calls Tryd.prog 32 #[.agg #[.pointer (some ⟨p, 0, none⟩), .int .i64 f, .int .u64 a, .int .u64 n], .int .u64 u, .int .u64 v] w fun e w' => e = .returned (.int .i64 0) ∧ Mx w' p b N (stW N (stW N M f 12 u) f 13 v) ∧ But b w w' := by
  have hlb := hM.ltb
  have H0 := rhide (rr_new hM (Below.refl _ _) f a n)
  have HS0 : Hid (∀ wc, Rr w wc p b N M w.heap.size f a n → Calls Tryd.prog 35 #[.agg #[.pointer (some ⟨p, 0, none⟩), .int .i64 f, .int .u64 a, .int .u64 n], .int .i64 0, .int .u64 u] wc fun e w' => e = .returned (.int .i64 0) ∧ Rr w w' p b N (stW N M f 12 u) w.heap.size f a n) := fun wc h => (st_any p b N f a n 0 u M wc h.mx hf (by omega) hu).mono fun e w' ⟨q1, q2, q3⟩ => ⟨q1, h.turn hlb q2 q3⟩
  have HS1 : Hid (∀ wc, Rr w wc p b N (stW N M f 12 u) w.heap.size f a n → Calls Tryd.prog 35 #[.agg #[.pointer (some ⟨p, 0, none⟩), .int .i64 f, .int .u64 a, .int .u64 n], .int .i64 1, .int .u64 v] wc fun e w' => e = .returned (.int .i64 0) ∧ Rr w w' p b N (stW N (stW N M f 12 u) f 13 v) w.heap.size f a n) := fun wc h => (st_any p b N f a n 1 v _ wc h.mx hf (by omega) hv).mono fun e w' ⟨q1, q2, q3⟩ => ⟨q1, h.turn hlb q2 q3⟩
  generalize stW N (stW N M f 12 u) f 13 v = M2 at HS1 ⊢
  generalize stW N M f 12 u = M1 at HS0 HS1
  clear hM hf hu hv hlb
  go_enter Tryd.func32, Tryd.ntmps32
  go_wp2_with (first
    | (go_at_call 35; refine (HS0.out _ H0.out).mono ?_; rintro e1 w1 ⟨rfl, hw⟩; have H1 := rhide hw; clear hw HS0 H0; have x0 := H1.out.rc.c0; have x1 := H1.out.rc.c1; have x2 := H1.out.rc.c2; have x3 := H1.out.rc.c3)
    | (go_at_call 35; refine (HS1.out _ H1.out).mono ?_; rintro e2 w2 ⟨rfl, hw⟩; have H2 := rhide hw; clear hw HS1 H1)
    | fail)
  go_ret
  exact ⟨rfl, H2.out.mx, H2.out.but⟩
/-! ### find -/
def pzr (E : Int) (p : Nat) : Option Addr := if E = 0 then some ⟨p, 0, none⟩ else none
theorem pzr_yes (p : Nat) : pzr 0 p = some ⟨p, 0, none⟩ := rfl
theorem pzr_no {E : Int} (h : E ≠ 0) (p : Nat) : pzr E p = none := by unfold pzr; rw [if_neg h]
/-- The zero ring; a ring. -/
def z4 : List Value := [.pointer none, .int .i64 0, .int .u64 0, .int .u64 0]
def r4 (p : Nat) (f a n : Int) : List Value := [.pointer (some ⟨p, 0, none⟩), .int .i64 f, .int .u64 a, .int .u64 n]
structure Fi (w W : World) (p b N : Nat) (M : Nat → Nat → Int) : Prop where
  m0 : Mx w p b N M
  res : RowV W w.heap.size z4
  below : Below w.heap.size w W
structure Fj (w W : World) (p b N : Nat) (M : Nat → Nat → Int) (D : Nat) (f a n : Int) : Prop where
  fi : Fi w W p b N M
  r : RowV W D (r4 p f a n)
  ne : w.heap.size < D
section
variable {w W W' : World} {p b N : Nat} {M : Nat → Nat → Int} {D : Nat} {f a n : Int}
theorem fi_new (h : Mx w p b N M) : Fi w (w.alloc (.cells #[.pointer none, .int .i64 0, .int .u64 0, .int .u64 0] 77)) p b N M := ⟨h, rowV_new w z4 77, bal (Below.refl _ _) _⟩
theorem Fi.on (h : Fi w W p b N M) (hB : Below W.heap.size W W') : Fi w W' p b N M := ⟨h.m0, h.res.on hB, h.below.trans (hB.mono h.below.size)⟩
theorem Fi.mx (h : Fi w W p b N M) : Mx W p b N M := h.m0.on h.below
theorem Fi.more (h : Fi w W p b N M) (f : Int) : Fj w (W.alloc (.cells #[.pointer (some ⟨p, 0, none⟩), .int .i64 f, .int .u64 0, .int .u64 0] 77)) p b N M W.heap.size f 0 0 := ⟨h.on (bal (Below.refl _ _) _), rowV_new W (r4 p f 0 0) 77, h.res.lt⟩
theorem Fj.on (h : Fj w W p b N M D f a n) (hB : Below W.heap.size W W') : Fj w W' p b N M D f a n := ⟨h.fi.on hB, h.r.on hB, h.ne⟩
theorem Fj.seta (h : Fj w W p b N M D f a n) (u : Int) : Fj w (W.setCell ⟨D, 2, none⟩ (.int .u64 u)) p b N M D f u n := ⟨⟨h.fi.m0, h.fi.res.other (Nat.ne_of_lt h.ne) _ _, bst h.fi.below (Nat.le_of_lt h.ne) _ _⟩, h.r.set 2 (.int .u64 u), h.ne⟩
theorem Fj.setn (h : Fj w W p b N M D f a n) (u : Int) : Fj w (W.setCell ⟨D, 3, none⟩ (.int .u64 u)) p b N M D f a u := ⟨⟨h.fi.m0, h.fi.res.other (Nat.ne_of_lt h.ne) _ _, bst h.fi.below (Nat.le_of_lt h.ne) _ _⟩, h.r.set 3 (.int .u64 u), h.ne⟩
theorem z4_cells (h : RowV W D z4) : W.cell? ⟨D, 0, none⟩ = some (.pointer none) ∧ W.cell? ⟨D, 1, none⟩ = some (.int .i64 0) ∧ W.cell? ⟨D, 2, none⟩ = some (.int .u64 0) ∧ W.cell? ⟨D, 3, none⟩ = some (.int .u64 0) := ⟨h.cell 0, h.cell 1, h.cell 2, h.cell 3⟩
theorem r4_cells (h : RowV W D (r4 p f a n)) : W.cell? ⟨D, 0, none⟩ = some (.pointer (some ⟨p, 0, none⟩)) ∧ W.cell? ⟨D, 1, none⟩ = some (.int .i64 f) ∧ W.cell? ⟨D, 2, none⟩ = some (.int .u64 a) ∧ W.cell? ⟨D, 3, none⟩ = some (.int .u64 n) := ⟨h.cell 0, h.cell 1, h.cell 2, h.cell 3⟩
theorem four_below (h : Below w.heap.size w W) (s t u v : Value) : Below w.heap.size w ((((W.setCell ⟨w.heap.size, 0, none⟩ s).setCell ⟨w.heap.size, 1, none⟩ t).setCell ⟨w.heap.size, 2, none⟩ u).setCell ⟨w.heap.size, 3, none⟩ v) := bst (bst (bst (bst h (Nat.le_refl _) _ _) (Nat.le_refl _) _ _) (Nat.le_refl _) _ _) (Nat.le_refl _) _ _
end
set_option maxRecDepth 100000 in
set_option maxHeartbeats 1000000 in
theorem find_type (p b N : Nat) (f : Int) (M : Nat → Nat → Int) (w : World) (hM : Mx w p b N M) (hi : Phead.isE N M f 6 ≠ 0) : Calls Tryd.prog 34 #[.pointer (some ⟨p, 0, none⟩), .int .i64 f] w fun e w' => e = .returned (.tuple #[.agg #[.pointer none, .int .i64 0, .int .u64 0, .int .u64 0], .int .i64 4]) ∧ Below w.heap.size w w' := by
  have H0 := rhide (fi_new hM)
  have HI : Hid (∀ wc, Fi w wc p b N M → Calls Tryd.prog 31 #[.pointer (some ⟨p, 0, none⟩), .int .i64 f] wc fun e w' => e = .returned (.bool false) ∧ Below wc.heap.size wc w') := fun wc h => by
    have := isEnd_any p b N f M wc h.mx
    rwa [show (Phead.isE N M f 6 == 0) = false by simp [hi]] at this
  clear hM hi
  go_enter Tryd.func34, Tryd.ntmps34
  go_wp2_with (first
    | (go_at_call 31; refine (HI.out _ H0.out).mono ?_; rintro e1 w1 ⟨rfl, hb⟩; have H1 := rhide (H0.out.on hb); clear hb HI H0; obtain ⟨x0, x1, x2, x3⟩ := z4_cells H1.out.res; have z := H1.out.res.fz)
    | fail)
  refine bodyPost_ret (v := .tuple #[.agg #[.pointer none, .int .i64 0, .int .u64 0, .int .u64 0], .int .i64 4]) (by simp [results, Tryd.results34, go_sem, x0, x1, x2, x3]) rfl ⟨rfl, ?_⟩
  exact four_below H1.out.below _ _ _ _
set_option maxRecDepth 100000 in
set_option maxHeartbeats 2000000 in
theorem find_in (p b N : Nat) (f : Int) (M : Nat → Nat → Int) (w : World) (hM : Mx w p b N M) (hi : Phead.isE N M f 6 = 0) : Calls Tryd.prog 34 #[.pointer (some ⟨p, 0, none⟩), .int .i64 f] w fun e w' => e = .returned (.tuple #[.agg #[.pointer (pzr (plE N M f) p), .int .i64 (zif (plE N M f) f), .int .u64 (zif (plE N M f) (bgI M f)), .int .u64 (zif (plE N M f) (cnI M f))], .int .i64 (plE N M f)]) ∧ Below w.heap.size w w' := by
  have H0 := rhide (fi_new hM)
  have hf := isE_ok hi
  have HI : Hid (∀ wc, Fi w wc p b N M → Calls Tryd.prog 31 #[.pointer (some ⟨p, 0, none⟩), .int .i64 f] wc fun e w' => e = .returned (.bool true) ∧ Below wc.heap.size wc w') := fun wc h => by
    have := isEnd_any p b N f M wc h.mx
    rwa [show (Phead.isE N M f 6 == 0) = true by simp [hi]] at this
  have HL0 : Hid (∀ D wc, Fj w wc p b N M D f 0 0 → Calls Tryd.prog 62 #[.agg #[.pointer (some ⟨p, 0, none⟩), .int .i64 f, .int .u64 0, .int .u64 0], .int .i64 0] wc fun e w' => e = .returned (.tuple #[.int .u64 (bgI M f), .int .i64 0]) ∧ Below wc.heap.size wc w') := fun D wc h => ld_any p b N f 0 0 0 M wc h.fi.mx hf (by omega)
  have HL1 : Hid (∀ D wc, Fj w wc p b N M D f (bgI M f) 0 → Calls Tryd.prog 62 #[.agg #[.pointer (some ⟨p, 0, none⟩), .int .i64 f, .int .u64 (bgI M f), .int .u64 0], .int .i64 1] wc fun e w' => e = .returned (.tuple #[.int .u64 (cnI M f), .int .i64 0]) ∧ Below wc.heap.size wc w') := fun D wc h => ld_any p b N f (bgI M f) 0 1 M wc h.fi.mx hf (by omega)
  by_cases hp : bgI M f < 8 ∧ cnI M f ≤ 8
  · have e : plE N M f = 0 := by unfold plE; rw [if_pos hi, if_pos hp]
    rw [e, zif_yes, zif_yes, zif_yes, pzr_yes]
    generalize bgI M f = a at HL0 HL1 hp ⊢
    generalize cnI M f = n at HL1 hp ⊢
    have g1 : ¬ 8 ≤ a := by omega
    have g2 : ¬ 8 < n := by omega
    clear e hp hi hf hM
    go_enter Tryd.func34, Tryd.ntmps34
    go_upto_region 5 with (first
      | (go_at_call 31; refine (HI.out _ H0.out).mono ?_; rintro e1 w1 ⟨rfl, hb⟩; have H1 := rhide ((H0.out.on hb).more f); clear hb HI H0)
      | fail)
    generalize w1.alloc _ = v1 at H1 ⊢
    generalize w1.heap.size = D at H1 ⊢
    obtain ⟨x0, x1, x2, x3⟩ := r4_cells H1.out.r
    go_upto_region 6 with (first
      | (go_at_call 62; refine (HL0.out _ _ H1.out).mono ?_; rintro e2 w2 ⟨rfl, hb⟩; have H2 := rhide (H1.out.on hb); clear hb HL0 H1 x0 x1 x2 x3; obtain ⟨x0, x1, x2, x3⟩ := r4_cells H2.out.r; have z2 := H2.out.r.fz 2)
      | fail)
    have H3 := rhide (H2.out.seta a)
    clear H2 x0 x1 x2 x3 z2
    generalize w2.setCell _ _ = v2 at H3 ⊢
    obtain ⟨x0, x1, x2, x3⟩ := r4_cells H3.out.r
    go_upto_region 9 with (first
      | (go_at_call 62; refine (HL1.out _ _ H3.out).mono ?_; rintro e4 w4 ⟨rfl, hb⟩; have H4 := rhide (H3.out.on hb); clear hb HL1 H3 x0 x1 x2 x3; obtain ⟨x0, x1, x2, x3⟩ := r4_cells H4.out.r; have z3 := H4.out.r.fz 3)
      | fail)
    have H5 := rhide (H4.out.setn n)
    clear H4 x0 x1 x2 x3 z3
    generalize w4.setCell _ _ = v4 at H5 ⊢
    obtain ⟨x0, x1, x2, x3⟩ := r4_cells H5.out.r
    obtain ⟨y0, y1, y2, y3⟩ := z4_cells H5.out.fi.res
    have z := H5.out.fi.res.fz
    go_wp2
    refine bodyPost_ret (v := .tuple #[.agg #[.pointer (some ⟨p, 0, none⟩), .int .i64 f, .int .u64 a, .int .u64 n], .int .i64 0]) (by simp [results, Tryd.results34, go_sem, y0, y1, y2, y3]) rfl ⟨rfl, ?_⟩
    exact four_below H5.out.fi.below _ _ _ _
  · have e : plE N M f = 12 := by unfold plE; rw [if_pos hi, if_neg hp]
    rw [e, zif_no (by decide), zif_no (by decide), zif_no (by decide), pzr_no (by decide)]
    generalize bgI M f = a at HL0 HL1 hp
    generalize cnI M f = n at HL1 hp
    have g : 8 ≤ a ∨ (¬ 8 ≤ a ∧ 8 < n) := by omega
    clear e hp hi hf hM
    go_enter Tryd.func34, Tryd.ntmps34
    go_upto_region 5 with (first
      | (go_at_call 31; refine (HI.out _ H0.out).mono ?_; rintro e1 w1 ⟨rfl, hb⟩; have H1 := rhide ((H0.out.on hb).more f); clear hb HI H0)
      | fail)
    generalize w1.alloc _ = v1 at H1 ⊢
    generalize w1.heap.size = D at H1 ⊢
    obtain ⟨x0, x1, x2, x3⟩ := r4_cells H1.out.r
    go_upto_region 6 with (first
      | (go_at_call 62; refine (HL0.out _ _ H1.out).mono ?_; rintro e2 w2 ⟨rfl, hb⟩; have H2 := rhide (H1.out.on hb); clear hb HL0 H1 x0 x1 x2 x3; obtain ⟨x0, x1, x2, x3⟩ := r4_cells H2.out.r; have z2 := H2.out.r.fz 2)
      | fail)
    have H3 := rhide (H2.out.seta a)
    clear H2 x0 x1 x2 x3 z2
    generalize w2.setCell _ _ = v2 at H3 ⊢
    obtain ⟨x0, x1, x2, x3⟩ := r4_cells H3.out.r
    go_upto_region 9 with (first
      | (go_at_call 62; refine (HL1.out _ _ H3.out).mono ?_; rintro e4 w4 ⟨rfl, hb⟩; have H4 := rhide (H3.out.on hb); clear hb HL1 H3 x0 x1 x2 x3; obtain ⟨x0, x1, x2, x3⟩ := r4_cells H4.out.r; have z3 := H4.out.r.fz 3)
      | fail)
    have H5 := rhide (H4.out.setn n)
    clear H4 x0 x1 x2 x3 z3
    generalize w4.setCell _ _ = v4 at H5 ⊢
    obtain ⟨x0, x1, x2, x3⟩ := r4_cells H5.out.r
    obtain ⟨y0, y1, y2, y3⟩ := z4_cells H5.out.fi.res
    have z := H5.out.fi.res.fz
    rcases g with g | ⟨g, g'⟩
    all_goals
      go_wp2
      refine bodyPost_ret (v := .tuple #[.agg #[.pointer none, .int .i64 0, .int .u64 0, .int .u64 0], .int .i64 12]) (by simp [results, Tryd.results34, go_sem, y0, y1, y2, y3]) rfl ⟨rfl, ?_⟩
      exact four_below H5.out.fi.below _ _ _ _
theorem find_any (p b N : Nat) (f : Int) (M : Nat → Nat → Int) (w : World) (hM : Mx w p b N M) : Calls Tryd.prog 34 #[.pointer (some ⟨p, 0, none⟩), .int .i64 f] w fun e w' => e = .returned (.tuple #[.agg #[.pointer (pzr (plE N M f) p), .int .i64 (zif (plE N M f) f), .int .u64 (zif (plE N M f) (bgI M f)), .int .u64 (zif (plE N M f) (cnI M f))], .int .i64 (plE N M f)]) ∧ Below w.heap.size w w' := by
  by_cases hi : Phead.isE N M f 6 = 0
  · exact find_in p b N f M w hM hi
  · have e : plE N M f = 4 := by unfold plE; rw [if_neg hi]
    rw [e, zif_no (by decide), zif_no (by decide), zif_no (by decide), pzr_no (by decide)]
    exact find_type p b N f M w hM hi
theorem find_yes (p b N : Nat) (f : Int) (M : Nat → Nat → Int) (w : World) (hM : Mx w p b N M) (hp : plE N M f = 0) : Calls Tryd.prog 34 #[.pointer (some ⟨p, 0, none⟩), .int .i64 f] w fun e w' => e = .returned (.tuple #[.agg #[.pointer (some ⟨p, 0, none⟩), .int .i64 f, .int .u64 (bgI M f), .int .u64 (cnI M f)], .int .i64 0]) ∧ Below w.heap.size w w' := by
  have := find_any p b N f M w hM
  rwa [hp, pzr_yes, zif_yes, zif_yes, zif_yes] at this
theorem find_no (p b N : Nat) (f : Int) (M : Nat → Nat → Int) (w : World) (hM : Mx w p b N M) (hp : plE N M f ≠ 0) : Calls Tryd.prog 34 #[.pointer (some ⟨p, 0, none⟩), .int .i64 f] w fun e w' => e = .returned (.tuple #[.agg #[.pointer none, .int .i64 0, .int .u64 0, .int .u64 0], .int .i64 (plE N M f)]) ∧ Below w.heap.size w w' := by
  have := find_any p b N f M w hM
  rwa [pzr_no hp, zif_no hp, zif_no hp, zif_no hp] at this
/-! ### Clear -/
set_option maxRecDepth 100000 in
theorem clear_any (p b N : Nat) (f : Int) (M : Nat → Nat → Int) (w : World) (hM : Mx w p b N M) : Calls Tryd.prog 9 #[.pointer (some ⟨p, 0, none⟩), .int .i64 f] w fun e w' => e = .returned (.int .i64 (crE N M f)) ∧ Mx w' p b N (crM N M f) ∧ But b w w' := by
  have HM := rhide hM
  have HI : Hid (Calls Tryd.prog 31 #[.pointer (some ⟨p, 0, none⟩), .int .i64 f] w fun e w' => e = .returned (.bool (Phead.isE N M f 6 == 0)) ∧ Below w.heap.size w w') := isEnd_any p b N f M w hM
  clear hM
  by_cases hi : Phead.isE N M f 6 = 0
  · have hf := isE_ok hi
    have e1 : crE N M f = 0 := by unfold crE; rw [if_pos hi]
    have e2 : crM N M f = stW N (stW N M f 12 0) f 13 0 := by unfold crM; rw [if_pos e1]
    rw [e1, e2]
    rw [show (Phead.isE N M f 6 == 0) = true by simp [hi]] at HI
    have HR : Hid (∀ wc, Mx wc p b N M → Calls Tryd.prog 32 #[.agg #[.pointer (some ⟨p, 0, none⟩), .int .i64 f, .int .u64 0, .int .u64 0], .int .u64 0, .int .u64 0] wc fun e w' => e = .returned (.int .i64 0) ∧ Mx w' p b N (stW N (stW N M f 12 0) f 13 0) ∧ But b wc w') := fun wc h => reach_any p b N f 0 0 0 0 M wc h hf (by omega) (by omega)
    generalize stW N (stW N M f 12 0) f 13 0 = M2 at HR ⊢
    clear e1 e2 hi hf
    go_enter Tryd.func9, Tryd.ntmps9
    go_wp2_with (first
      | (go_at_call 31; refine HI.out.mono ?_; rintro e1 w1 ⟨rfl, hb⟩; have HB := rhide hb; clear hb HI)
      | (go_at_call 32; refine (HR.out _ (HM.out.on HB.out)).mono ?_; rintro e2 w2 ⟨rfl, hm, hb⟩; have H2 := rhide (And.intro hm ((But.of_below b HB.out).trans hb)); clear hm hb HR)
      | fail)
    go_ret
    exact ⟨rfl, H2.out.1, H2.out.2⟩
  · have e1 : crE N M f = 4 := by unfold crE; rw [if_neg hi]
    have e2 : crM N M f = M := by unfold crM; rw [if_neg (by rw [e1]; decide)]
    rw [e1, e2]
    rw [show (Phead.isE N M f 6 == 0) = false by simp [hi]] at HI
    clear e1 e2 hi
    go_enter Tryd.func9, Tryd.ntmps9
    go_wp2_with (first
      | (go_at_call 31; refine HI.out.mono ?_; rintro e1 w1 ⟨rfl, hb⟩; have HB := rhide hb; clear hb HI)
      | fail)
    go_ret
    exact ⟨rfl, HM.out.on HB.out, But.of_below b HB.out⟩
/-! ### Put -/
set_option maxRecDepth 100000 in
set_option maxHeartbeats 2000000 in
theorem put_any (p b N : Nat) (f : Int) (x : Ev) (M : Nat → Nat → Int) (w : World) (hM : Mx w p b N M) : Calls Tryd.prog 11 #[.pointer (some ⟨p, 0, none⟩), .int .i64 f, .agg #[.int .i64 x.k, .int .i64 x.t]] w fun e w' => e = .returned (.int .i64 (puE N M f x)) ∧ Mx w' p b N (puM N M f x) ∧ But b w w' := by
  have hlb := hM.ltb
  have H0 : Hid (Mx (w.alloc (.cells #[.int .i64 x.k, .int .i64 x.t] 32)) p b N M ∧ Below w.heap.size w (w.alloc (.cells #[.int .i64 x.k, .int .i64 x.t] 32))) := ⟨hM.on (bal (Below.refl _ _) _), bal (Below.refl _ _) _⟩
  have HW : Hid (∀ wc, Mx wc p b N M → Calls Tryd.prog 19 #[.agg #[.int .i64 x.k, .int .i64 x.t]] wc fun e w' => e = .returned (.tuple #[.int .u64 (wdW x), .int .i64 (ckE x)]) ∧ Below wc.heap.size wc w') := fun wc h => word_any x wc h.wd
  have hF := hM.fit
  clear hM
  by_cases hx : Eo x
  case neg =>
    obtain ⟨e1, e2⟩ := pu_arg N M f hx
    rw [e1, e2]
    rw [wd_no hx, ck_no hx] at HW
    clear e1 e2 hx hF hlb
    go_enter Tryd.func11, Tryd.ntmps11
    go_wp2_with (first
      | (go_at_call 19; refine (HW.out _ H0.out.1).mono ?_; rintro e1 w1 ⟨rfl, hb⟩; have H1 : Hid (Mx w1 p b N M ∧ Below w.heap.size w w1) := ⟨H0.out.1.on hb, H0.out.2.trans (hb.mono H0.out.2.size)⟩; clear hb HW H0)
      | fail)
    go_ret
    exact ⟨rfl, H1.out.1, But.of_below b H1.out.2⟩
  case pos =>
  rw [wd_yes hx, ck_yes hx] at HW
  by_cases hp : plE N M f = 0
  case neg =>
    obtain ⟨e1, e2⟩ := pu_pl hx hp
    rw [e1, e2]
    have HP : Hid (∀ wc, Mx wc p b N M → Calls Tryd.prog 34 #[.pointer (some ⟨p, 0, none⟩), .int .i64 f] wc fun e w' => e = .returned (.tuple #[.agg #[.pointer none, .int .i64 0, .int .u64 0, .int .u64 0], .int .i64 (plE N M f)]) ∧ Below wc.heap.size wc w') := fun wc h => find_no p b N f M wc h hp
    generalize plE N M f = E at HP hp ⊢
    generalize ewd x = z at HW
    have hE : (E != 0) = true := by simp [hp]
    clear e1 e2 hx hF hp hlb
    go_enter Tryd.func11, Tryd.ntmps11
    go_wp2_with (first
      | (go_at_call 19; refine (HW.out _ H0.out.1).mono ?_; rintro e1 w1 ⟨rfl, hb⟩; have H1 : Hid (Mx w1 p b N M ∧ Below w.heap.size w w1) := ⟨H0.out.1.on hb, H0.out.2.trans (hb.mono H0.out.2.size)⟩; clear hb HW H0)
      | (go_at_call 34; refine (HP.out _ H1.out.1).mono ?_; rintro e2 w2 ⟨rfl, hb⟩; have H2 : Hid (Mx (w2.alloc (.cells #[.pointer none, .int .i64 0, .int .u64 0, .int .u64 0] 77)) p b N M ∧ Below w.heap.size w (w2.alloc (.cells #[.pointer none, .int .i64 0, .int .u64 0, .int .u64 0] 77))) := ⟨(H1.out.1.on hb).on (bal (Below.refl _ _) _), bal (H1.out.2.trans (hb.mono H1.out.2.size)) _⟩; clear hb HP H1)
      | fail)
    go_ret
    exact ⟨rfl, H2.out.1, But.of_below b H2.out.2⟩
  case pos =>
  obtain ⟨_, hf, ha, hn⟩ := pl_yes hF hp
  have HP : Hid (∀ wc, Mx wc p b N M → Calls Tryd.prog 34 #[.pointer (some ⟨p, 0, none⟩), .int .i64 f] wc fun e w' => e = .returned (.tuple #[.agg #[.pointer (some ⟨p, 0, none⟩), .int .i64 f, .int .u64 (bgI M f), .int .u64 (cnI M f)], .int .i64 0]) ∧ Below wc.heap.size wc w') := fun wc h => find_yes p b N f M wc h hp
  by_cases hc : cnI M f = 8
  · obtain ⟨e1, e2⟩ := pu_full hx hp hc
    rw [e1, e2]
    rw [hc] at HP
    generalize bgI M f = a at HP
    generalize ewd x = z at HW
    clear e1 e2 hx hF hp hc ha hn hf hlb
    go_enter Tryd.func11, Tryd.ntmps11
    go_wp2_with (first
      | (go_at_call 19; refine (HW.out _ H0.out.1).mono ?_; rintro e1 w1 ⟨rfl, hb⟩; have H1 : Hid (Mx w1 p b N M ∧ Below w.heap.size w w1) := ⟨H0.out.1.on hb, H0.out.2.trans (hb.mono H0.out.2.size)⟩; clear hb HW H0)
      | (go_at_call 34; refine (HP.out _ H1.out.1).mono ?_; rintro e2 w2 ⟨rfl, hb⟩; have H2 := rhide (rr_new (w := w) (H1.out.1.on hb) (H1.out.2.trans (hb.mono H1.out.2.size)) f a 8); clear hb HP H1)
      | fail)
    go_ret
    exact ⟨rfl, H2.out.mx, H2.out.but⟩
  · obtain ⟨e1, e2⟩ := pu_ok hx hp hc
    rw [e1, e2]
    have HPl : Hid (∀ wc, Calls Tryd.prog 36 #[.int .u64 (bgI M f), .int .u64 (cnI M f)] wc fun e w' => e = .returned (.int .i64 ((bgI M f + cnI M f) % 8)) ∧ w' = wc) := fun wc => plU_any _ _ ha hn wc
    have HS : Hid (∀ E wc, Rr w wc p b N M E f (bgI M f) (cnI M f) → Calls Tryd.prog 35 #[.agg #[.pointer (some ⟨p, 0, none⟩), .int .i64 f, .int .u64 (bgI M f), .int .u64 (cnI M f)], .int .i64 (2 + (bgI M f + cnI M f) % 8), .int .u64 (ewd x)] wc fun e w' => e = .returned (.int .i64 0) ∧ Rr w w' p b N (stW N M f (14 + (bgI M f + cnI M f) % 8) (ewd x)) E f (bgI M f) (cnI M f)) := fun E wc h => by
      have := st_any p b N f (bgI M f) (cnI M f) (2 + (bgI M f + cnI M f) % 8) (ewd x) M wc h.mx hf (by omega) (ewd_bd hx)
      rw [show 12 + (2 + (bgI M f + cnI M f) % 8) = 14 + (bgI M f + cnI M f) % 8 by omega] at this
      exact this.mono fun e w' ⟨q1, q2, q3⟩ => ⟨q1, h.turn hlb q2 q3⟩
    have hkeep : stW N (stW N (stW N M f (14 + (bgI M f + cnI M f) % 8) (ewd x)) f 12 (bgI M f)) f 13 (cnI M f + 1) = stW N (stW N M f (14 + (bgI M f + cnI M f) % 8) (ewd x)) f 13 (cnI M f + 1) := by
      congr 1
      have hk := okW_ring hf (i := 12) (by omega) (by omega)
      have hk2 := okW_ring hf (i := 14 + (bgI M f + cnI M f) % 8) (by omega) (by omega)
      funext g c
      unfold stW
      rw [if_pos hk, if_pos hk2]
      split
      · rename_i h12
        rw [h12.1, h12.2, if_neg (by rintro ⟨_, h⟩; omega)]
        rfl
      · rfl
    have HR : Hid (∀ E wc, Rr w wc p b N (stW N M f (14 + (bgI M f + cnI M f) % 8) (ewd x)) E f (bgI M f) (cnI M f) → Calls Tryd.prog 32 #[.agg #[.pointer (some ⟨p, 0, none⟩), .int .i64 f, .int .u64 (bgI M f), .int .u64 (cnI M f)], .int .u64 (bgI M f), .int .u64 (cnI M f + 1)] wc fun e w' => e = .returned (.int .i64 0) ∧ Mx w' p b N (stW N (stW N M f (14 + (bgI M f + cnI M f) % 8) (ewd x)) f 13 (cnI M f + 1)) ∧ But b w w') := fun E wc h => by
      have := reach_any p b N f (bgI M f) (cnI M f) (bgI M f) (cnI M f + 1) _ wc h.mx hf (by omega) (by omega)
      rw [hkeep] at this
      exact this.mono fun e w' ⟨q1, q2, q3⟩ => ⟨q1, q2, h.but.trans q3⟩
    generalize stW N (stW N M f (14 + (bgI M f + cnI M f) % 8) (ewd x)) f 13 (cnI M f + 1) = M2 at HR ⊢
    generalize stW N M f (14 + (bgI M f + cnI M f) % 8) (ewd x) = M1 at HS HR
    generalize ewd x = z at HW HS
    clear hkeep
    generalize bgI M f = a at HP HPl HS HR ha
    generalize cnI M f = n at HP HPl HS HR hn hc
    have d1 : IntKind.i64.wrap (2 + (a + n) % 8) = 2 + (a + n) % 8 := wrapi_small (by omega) (by omega)
    have d1' : wrap64 (2 + (a + n) % 8) = 2 + (a + n) % 8 := by unfold wrap64; omega
    have d2 : IntKind.u64.wrap (n + 1) = n + 1 := wrapu_small (by omega) (by omega)
    have h8 : (n == 8) = false := by simp [hc]
    clear e1 e2 hx hF hp hc ha hn hf hlb
    go_enter Tryd.func11, Tryd.ntmps11
    go_upto_region 5 with (first
      | (go_at_call 19; refine (HW.out _ H0.out.1).mono ?_; rintro e1 w1 ⟨rfl, hb⟩; have H1 : Hid (Mx w1 p b N M ∧ Below w.heap.size w w1) := ⟨H0.out.1.on hb, H0.out.2.trans (hb.mono H0.out.2.size)⟩; clear hb HW H0)
      | (go_at_call 34; refine (HP.out _ H1.out.1).mono ?_; rintro e2 w2 ⟨rfl, hb⟩; have H2 := rhide (rr_new (w := w) (H1.out.1.on hb) (H1.out.2.trans (hb.mono H1.out.2.size)) f a n); clear hb HP H1)
      | fail)
    generalize w2.alloc _ = v2 at H2 ⊢
    generalize w2.heap.size = D at H2 ⊢
    have x0 := H2.out.rc.c0
    have x1 := H2.out.rc.c1
    have x2 := H2.out.rc.c2
    have x3 := H2.out.rc.c3
    go_upto_region 9 with fail
    go_region_held3 (fun w' => w'.cell? ⟨D, 0, none⟩ = some (.pointer (some ⟨p, 0, none⟩)) ∧ w'.cell? ⟨D, 1, none⟩ = some (.int .i64 f) ∧ w'.cell? ⟨D, 2, none⟩ = some (.int .u64 a) ∧ w'.cell? ⟨D, 3, none⟩ = some (.int .u64 n)) (first | (refine ⟨?_, ?_, ?_, ?_⟩ <;> with_reducible assumption) | go_keep)
    (first
      | (go_at_call 36; refine (HPl.out _).mono ?_; rintro e3 w3 ⟨rfl, hw⟩; subst w3)
      | (go_at_call 35; refine (HS.out _ _ (by first | exact H2.out | exact H2.out.on (Below.refl _ _).drew)).mono ?_; rintro e4 w4 ⟨rfl, hw⟩; have H4 := rhide hw; clear hw HS H2 x0 x1 x2 x3; have x0 := H4.out.rc.c0; have x1 := H4.out.rc.c1; have x2 := H4.out.rc.c2; have x3 := H4.out.rc.c3)
      | fail)
    all_goals
      go_wp2_with (first
        | (go_at_call 32; refine (HR.out _ _ (by first | exact H4.out | exact H4.out.on (Below.refl _ _).drew)).mono ?_; rintro e5 w5 ⟨rfl, hw⟩; have H5 := rhide hw; clear hw HR H4)
        | fail)
      go_ret
      exact ⟨rfl, H5.out.1, H5.out.2⟩
end Go.Proofs.YtdplailaolfpkaaDoor.Pring
