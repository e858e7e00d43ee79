/- What counted, the four closures and change (with each of them) of package rcv answer and do (written by mk_change.py). -/
import Derived.Test.YtcoggdnpjpiacaaGreatDoorRcvC
import Derived.Test.YtcoggdnpjpiacaaGreatDoorBunLay
import Derived.Test.YtcoggdnpjpiacaaGreatDoorBunRing
import Derived.Deep.RegionHeld3
import Derived.BigRegion
namespace Go.Proofs.YtcoggdnpjpiacaaGreatDoor.Prcv
open Go.Proofs.YtcoggdnpjpiacaaGreatDoor.Pbase Go.Proofs.YtcoggdnpjpiacaaGreatDoor.Pfield Go.Proofs.YtcoggdnpjpiacaaGreatDoor.Play Go.Proofs.YtcoggdnpjpiacaaGreatDoor.Pmem Go.Proofs.YtcoggdnpjpiacaaGreatDoor.Pring
open Go.RowKit M
set_option linter.unusedVariables false

/-! ### counted -/
def cntI (n : Int) : Int := if n < 0 then 0 else if 255 < n then 255 else n
set_option maxRecDepth 100000 in
theorem sat_any (n : Int) (w : World) : Calls Tryz.prog 71 #[.int .i64 n, .int .i64 0, .int .i64 255] w fun e w' => e = .returned (.int .i64 (cntI n)) ∧ w' = w := by
  by_cases h1 : n < 0
  · have e : cntI n = 0 := by unfold cntI; rw [if_pos h1]
    rw [e]
    go_enter Tryz.func71, Tryz.ntmps71
    go_wp2
    all_goals (go_ret; exact ⟨rfl, rfl⟩)
  · by_cases h2 : 255 < n
    · have e : cntI n = 255 := by unfold cntI; rw [if_neg h1, if_pos h2]
      rw [e]
      go_enter Tryz.func71, Tryz.ntmps71
      go_wp2
      all_goals (go_ret; exact ⟨rfl, rfl⟩)
    · have e : cntI n = n := by unfold cntI; rw [if_neg h1, if_neg h2]
      rw [e]
      go_enter Tryz.func71, Tryz.ntmps71
      go_wp2
      all_goals (go_ret; exact ⟨rfl, rfl⟩)
set_option maxRecDepth 100000 in
theorem cnt_any (n : Int) (w : World) : Calls Tryz.prog 48 #[.int .i64 n] w fun e w' => e = .returned (.int .i64 (cntI n)) ∧ w' = w := by
  have HS : Hid (Calls Tryz.prog 71 #[.int .i64 n, .int .i64 0, .int .i64 255] w fun e w' => e = .returned (.int .i64 (cntI n)) ∧ w' = w) := sat_any n w
  generalize cntI n = r at HS ⊢
  go_enter Tryz.func48, Tryz.ntmps48
  go_wp2_with (first
    | (go_at_call 71; refine HS.out.mono ?_; rintro e1 w1 ⟨rfl, hw⟩; subst w1; clear HS)
    | fail)
  go_ret
  exact ⟨rfl, rfl⟩
theorem cnt_sat {a : Int} (h : 0 ≤ a) : cntI (a + 1) = satI a := by
  unfold cntI satI
  rw [if_neg (by omega)]
/-- One less, as far as it goes. -/
def lessY (x : Rv) : Rv := if x.co = 0 then x else lessX x
theorem cnt_less {x : Rv} (h : 0 ≤ x.co ∧ x.co ≤ 255) : (⟨x.th, x.pa, cntI (x.co - 1), x.wa, x.lo⟩ : Rv) = lessY x := by
  unfold lessY cntI lessX
  by_cases h0 : x.co = 0
  · rw [if_pos h0, if_pos (by omega)]
    obtain ⟨a, b, c, d, e⟩ := x
    dsimp only at h0
    subst h0
    rfl
  · rw [if_neg h0, if_neg (by omega), if_neg (by omega)]
/-! ### the closures -/
set_option maxRecDepth 100000 in
set_option maxHeartbeats 1000000 in
theorem tell1_any (B : Nat) (x : Rv) (hx : 0 ≤ x.lo ∧ x.lo ≤ 255) (w : World) (hB : RowW w B x) : Calls Tryz.prog 47 #[.pointer (some ⟨B, 0, none⟩)] w fun e w' => e = .returned (.tuple #[]) ∧ RowW w' B (lostX x) ∧ But B w w' := by
  have HC : Hid (∀ wc, Calls Tryz.prog 48 #[.int .i64 (x.lo + 1)] wc fun e w' => e = .returned (.int .i64 (satI x.lo)) ∧ w' = wc) := fun wc => by
    have := cnt_any (x.lo + 1) wc
    rwa [cnt_sat hx.1] at this
  have u : IntKind.i64.wrap (x.lo + 1) = x.lo + 1 := wrapi_small (by omega) (by omega)
  have u' : wrap64 (x.lo + 1) = x.lo + 1 := by unfold wrap64; omega
  have c4 := hB.c4
  have z := hB.fz 4
  have HB := rhide hB
  clear hB hx
  have e : lostX x = ⟨x.th, x.pa, x.co, x.wa, satI x.lo⟩ := rfl
  rw [e]
  generalize satI x.lo = s at HC ⊢
  go_enter Tryz.func47, Tryz.ntmps47
  go_wp2_with (first
    | (go_at_call 48; refine (HC.out _).mono ?_; rintro e1 w1 ⟨rfl, hw⟩; subst w1; clear HC)
    | fail)
  go_end0
  exact ⟨rfl, HB.out.set4 s, but_set _ _ _⟩
set_option maxRecDepth 100000 in
set_option maxHeartbeats 1000000 in
theorem more1_any (B D : Nat) (x : Rv) (v : Bool) (hx : 0 ≤ x.co ∧ x.co ≤ 255) (w : World) (hB : RowW w B x) (hD : RowV w D [.bool v]) (hd : D < B) : Calls Tryz.prog 51 #[.pointer (some ⟨B, 0, none⟩), .pointer (some ⟨D, 0, none⟩)] w fun e w' => e = .returned (.tuple #[]) ∧ RowW w' B (moreX x) ∧ RowV w' D [.bool x.wa] ∧ Below D w w' := by
  have HC : Hid (∀ wc, Calls Tryz.prog 48 #[.int .i64 (x.co + 1)] wc fun e w' => e = .returned (.int .i64 (satI x.co)) ∧ w' = wc) := fun wc => by
    have := cnt_any (x.co + 1) wc
    rwa [cnt_sat hx.1] at this
  have u : IntKind.i64.wrap (x.co + 1) = x.co + 1 := wrapi_small (by omega) (by omega)
  have u' : wrap64 (x.co + 1) = x.co + 1 := by unfold wrap64; omega
  have c3 := hB.c3
  have d0 : w.cell? ⟨D, 0, none⟩ = some (.bool v) := hD.cell 0
  have zd := hD.fz 0
  have HB := rhide hB
  have HD := rhide hD
  clear hB hx hD
  have e : moreX x = ⟨x.th, x.pa, satI x.co, x.wa, x.lo⟩ := rfl
  rw [e]
  generalize satI x.co = s at HC ⊢
  go_enter Tryz.func51, Tryz.ntmps51
  go_upto_region 1 with fail
  have H1 : Hid (RowW (w.setCell ⟨D, 0, none⟩ (.bool x.wa)) B x) := HB.out.but (but_set _ _ _) (Nat.ne_of_gt hd)
  have H2 : Hid (RowV (w.setCell ⟨D, 0, none⟩ (.bool x.wa)) D [.bool x.wa]) := HD.out.set 0 (.bool x.wa)
  have H3 : Hid (Below D w (w.setCell ⟨D, 0, none⟩ (.bool x.wa))) := (Below.refl D w).setCell (p := ⟨D, 0, none⟩) (Nat.le_refl _) _
  generalize w.setCell ⟨D, 0, none⟩ (.bool x.wa) = w1 at H1 H2 H3 ⊢
  clear c3 d0 zd HB HD
  have c2 := H1.out.c2
  have z := H1.out.fz 2
  go_wp2_with (first
    | (go_at_call 48; refine (HC.out _).mono ?_; rintro e1 w1 ⟨rfl, hw⟩; subst w1; clear HC)
    | fail)
  go_end0
  exact ⟨rfl, H1.out.set2 s, H2.out.other (Nat.ne_of_lt hd) _ _, H3.out.setCell (p := ⟨B, 2, none⟩) (Nat.le_of_lt hd) _⟩
set_option maxRecDepth 100000 in
set_option maxHeartbeats 1000000 in
theorem less1_any (B D : Nat) (x : Rv) (v : Bool) (hx : 0 ≤ x.co ∧ x.co ≤ 255) (w : World) (hB : RowW w B x) (hD : RowV w D [.bool v]) (hd : D < B) : Calls Tryz.prog 52 #[.pointer (some ⟨B, 0, none⟩), .pointer (some ⟨D, 0, none⟩)] w fun e w' => e = .returned (.tuple #[]) ∧ RowW w' B (lessY x) ∧ RowV w' D [.bool (decide (0 < x.co))] ∧ Below D w w' := by
  have HC : Hid (∀ wc, Calls Tryz.prog 48 #[.int .i64 (x.co - 1)] wc fun e w' => e = .returned (.int .i64 (cntI (x.co - 1))) ∧ w' = wc) := fun wc => cnt_any (x.co - 1) wc
  have u : IntKind.i64.wrap (x.co - 1) = x.co - 1 := by rw [IntKind.wrap_i64]; omega
  have u' : wrap64 (x.co - 1) = x.co - 1 := by unfold wrap64; omega
  have c2 := hB.c2
  have d0 : w.cell? ⟨D, 0, none⟩ = some (.bool v) := hD.cell 0
  have zd := hD.fz 0
  have HB := rhide hB
  have HD := rhide hD
  rw [← cnt_less hx]
  clear hB hx hD
  generalize cntI (x.co - 1) = s at HC ⊢
  go_enter Tryz.func52, Tryz.ntmps52
  go_upto_region 1 with fail
  have H1 : Hid (RowW (w.setCell ⟨D, 0, none⟩ (.bool (decide (0 < x.co)))) B x) := HB.out.but (but_set _ _ _) (Nat.ne_of_gt hd)
  have H2 : Hid (RowV (w.setCell ⟨D, 0, none⟩ (.bool (decide (0 < x.co)))) D [.bool (decide (0 < x.co))]) := HD.out.set 0 (.bool (decide (0 < x.co)))
  have H3 : Hid (Below D w (w.setCell ⟨D, 0, none⟩ (.bool (decide (0 < x.co))))) := (Below.refl D w).setCell (p := ⟨D, 0, none⟩) (Nat.le_refl _) _
  generalize w.setCell ⟨D, 0, none⟩ (.bool (decide (0 < x.co))) = w1 at H1 H2 H3 ⊢
  clear c2 d0 zd HB HD
  have c2 := H1.out.c2
  have z := H1.out.fz 2
  go_wp2_with (first
    | (go_at_call 48; refine (HC.out _).mono ?_; rintro e1 w1 ⟨rfl, hw⟩; subst w1; clear HC)
    | fail)
  go_end0
  exact ⟨rfl, H1.out.set2 s, H2.out.other (Nat.ne_of_lt hd) _ _, H3.out.setCell (p := ⟨B, 2, none⟩) (Nat.le_of_lt hd) _⟩
set_option maxRecDepth 100000 in
set_option maxHeartbeats 1000000 in
theorem wait1_any (B D : Nat) (x : Rv) (v : Bool) (w : World) (hB : RowW w B x) (hD : RowV w D [.bool v]) : Calls Tryz.prog 53 #[.pointer (some ⟨B, 0, none⟩), .pointer (some ⟨D, 0, none⟩)] w fun e w' => e = .returned (.tuple #[]) ∧ RowW w' B (waitX x v) ∧ But B w w' := by
  have c0 : w.cell? ⟨D, 0, none⟩ = some (.bool v) := hD.cell 0
  have c3 := hB.c3
  have z := hB.fz 3
  have HB := rhide hB
  clear hB hD
  go_enter Tryz.func53, Tryz.ntmps53
  go_wp2
  go_end0
  exact ⟨rfl, HB.out.set3 v, but_set _ _ _⟩
/-! ### change -/
theorem but_on {b : Nat} {w W W' : World} (h : But b w W) (k : Below w.heap.size W W') : But b w W' :=
  ⟨k.os.trans h.os, k.tape.trans h.tape, k.output.trans h.output, Nat.le_trans h.size k.size, fun i hi hn => (k.block i hi).trans (h.block i hi hn)⟩
/-- A memory behind some calls, and the first block that lies behind where it began. -/
structure Cg (w0 W : World) (p b N : Nat) (M0 M : Nat → Nat → Int) (vs : List Value) : Prop where
  m0 : Mv w0 p b N M0
  mem : MemIs W p b N M
  fit : Fit M
  but : But b w0 W
  var : RowV W w0.heap.size vs
/-- The same, and an endpoint in a later block. -/
structure Cb (w0 W : World) (p b N : Nat) (M0 M : Nat → Nat → Int) (vs : List Value) (B : Nat) (x : Rv) : Prop where
  cg : Cg w0 W p b N M0 M vs
  box : RowW W B x
  ne : w0.heap.size < B
section
variable {w0 W W' : World} {p b N B : Nat} {M0 M M' : Nat → Nat → Int} {vs vs' : List Value} {x y : Rv}
theorem Cg.mx (h : Cg w0 W p b N M0 M vs) : Mv W p b N M := h.m0.but h.mem h.fit h.but
theorem Cg.on (h : Cg w0 W p b N M0 M vs) (hB : Below W.heap.size W W') : Cg w0 W' p b N M0 M vs := ⟨h.m0, h.mem.grown hB, h.fit, h.but.trans (But.of_below b hB), h.var.on hB⟩
theorem Cg.turn (h : Cg w0 W p b N M0 M vs) (hM : Mv W' p b N M') (hB : But b W W') : Cg w0 W' p b N M0 M' vs := ⟨h.m0, hM.mx.mem, hM.mx.fit, h.but.trans hB, h.var.but hB (Nat.ne_of_gt h.m0.mx.mem.lt.2)⟩
theorem Cg.more (h : Cg w0 W p b N M0 M vs) (x : Rv) : Cb w0 (W.alloc (.cells #[.int .i64 x.th, .int .i64 x.pa, .int .i64 x.co, .bool x.wa, .int .i64 x.lo] 33)) p b N M0 M vs W.heap.size x := ⟨h.on (bal (Below.refl _ _) _), rowW_new W x, h.var.lt⟩
theorem Cb.turn (h : Cb w0 W p b N M0 M vs B x) (hx : RowW W' B y) (hv : RowV W' w0.heap.size vs') (hb : Below w0.heap.size W W') : Cb w0 W' p b N M0 M vs' B y :=
  ⟨⟨h.cg.m0, h.cg.mem.on (hb.block p h.cg.m0.mx.mem.lt.1) (hb.block b h.cg.m0.mx.mem.lt.2), h.cg.fit, but_on h.cg.but hb, hv⟩, hx, h.ne⟩
theorem cg_new (h : Mv W p b N M) (vs : List Value) (t : TypeId) : Cg W (W.alloc (.cells vs.toArray t)) p b N M M vs :=
  ⟨h, h.mx.mem.grown (bal (Below.refl _ _) _), h.mx.fit, But.of_below b (bal (Below.refl _ _) _), rowV_new W vs t⟩
end
set_option maxRecDepth 100000 in
set_option maxHeartbeats 1000000 in
theorem change_no (p b N : Nat) (f : Int) (v : Value) (M : Nat → Nat → Int) (w : World) (hM : Mv w p b N M) (hg : vgE N M f ≠ 0) :
    Calls Tryz.prog 46 #[.pointer (some ⟨p, 0, none⟩), .int .i64 f, v] w fun e w' => e = .returned (.int .i64 (vgE N M f)) ∧ Below w.heap.size w w' := by
  have HG : Hid (Calls Tryz.prog 6 #[.pointer (some ⟨p, 0, none⟩), .int .i64 f] w fun e w' => e = .returned (.tuple #[.agg #[.int .i64 (vgX N M f).th, .int .i64 (vgX N M f).pa, .int .i64 (vgX N M f).co, .bool (vgX N M f).wa, .int .i64 (vgX N M f).lo], .int .i64 (vgE N M f)]) ∧ Below w.heap.size w w') := get_any p b N f M w hM
  clear hM
  generalize vgE N M f = E at HG hg ⊢
  generalize vgX N M f = y at HG
  have hE : (E != 0) = true := by simp [hg]
  clear hg
  go_enter Tryz.func46, Tryz.ntmps46
  go_wp2_with (first
    | (go_at_call 6; refine HG.out.mono ?_; rintro e1 w1 ⟨rfl, hb⟩; have H1 := rhide hb; clear hb HG)
    | fail)
  go_ret
  exact ⟨rfl, bal H1.out _⟩
theorem lessY_vo {x : Rv} (h : Vo x) : Vo (lessY x) := by
  unfold lessY
  split
  · exact h
  · rename_i h0
    exact less_vo h h0
set_option maxRecDepth 100000 in
set_option maxHeartbeats 2000000 in
theorem change_tell (p b N : Nat) (f : Int) (M0 M : Nat → Nat → Int) (vs : List Value) (w0 w : World) (h0 : Cg w0 w p b N M0 M vs) (hg : vgE N M f = 0) :
    Calls Tryz.prog 46 #[.pointer (some ⟨p, 0, none⟩), .int .i64 f, .func (.func 47) #[] #[]] w fun e w' => e = .returned (.int .i64 0) ∧ Cg w0 w' p b N M0 (layF N M f (lostX (rvOf M f)).ws) vs := by
  obtain ⟨g1, _, hbo, g2⟩ := vg_yes hg
  have HG : Hid (∀ wc, Cg w0 wc p b N M0 M vs → Calls Tryz.prog 6 #[.pointer (some ⟨p, 0, none⟩), .int .i64 f] wc fun e w' => e = .returned (.tuple #[.agg #[.int .i64 (rvOf M f).th, .int .i64 (rvOf M f).pa, .int .i64 (rvOf M f).co, .bool (rvOf M f).wa, .int .i64 (rvOf M f).lo], .int .i64 0]) ∧ Cg w0 w' p b N M0 M vs) := fun wc h => by
    have := get_any p b N f M wc h.mx
    rw [g2, hg] at this
    refine this.mono ?_
    rintro e w' ⟨rfl, hb⟩
    exact ⟨rfl, h.on hb⟩
  have HY : Hid (∀ wc B, Cb w0 wc p b N M0 M vs B (rvOf M f) → Calls Tryz.prog 47 #[.pointer (some ⟨B, 0, none⟩)] wc fun e w' => e = .returned (.tuple #[]) ∧ Cb w0 w' p b N M0 M vs B (lostX (rvOf M f))) := fun wc B h => by
    refine (tell1_any B _ hbo.2.2.2 wc h.box).mono ?_
    rintro e w' ⟨rfl, q1, q2⟩
    exact ⟨rfl, h.turn q1 (h.cg.var.but q2 (Nat.ne_of_lt h.ne)) (q2.below (Nat.le_of_lt h.ne) h.cg.but.size)⟩
  have HW : Hid (∀ wc, Cg w0 wc p b N M0 M vs → Calls Tryz.prog 40 #[.pointer (some ⟨p, 0, none⟩), .int .i64 f, .agg #[.int .i64 (lostX (rvOf M f)).th, .int .i64 (lostX (rvOf M f)).pa, .int .i64 (lostX (rvOf M f)).co, .bool (lostX (rvOf M f)).wa, .int .i64 (lostX (rvOf M f)).lo]] wc fun e w' => e = .returned (.int .i64 0) ∧ Cg w0 w' p b N M0 (layF N M f (lostX (rvOf M f)).ws) vs) := fun wc h => by
    refine (write_any p b N f (lostX (rvOf M f)) M wc h.mx (lost_vo hbo) (isE_ok g1)).mono ?_
    rintro e w' ⟨rfl, hm, hb⟩
    exact ⟨rfl, h.turn hm hb⟩
  have H0 := rhide h0
  clear h0 hg g1 g2 hbo
  generalize layF N M f (lostX (rvOf M f)).ws = M1 at HW ⊢
  generalize lostX (rvOf M f) = y at HY HW ⊢
  generalize rvOf M f = x at HG HY
  go_enter Tryz.func46, Tryz.ntmps46
  go_upto_region 4 with (first
    | (go_at_call 6; refine (HG.out _ H0.out).mono ?_; rintro e1 w1 ⟨rfl, hb⟩; have H1 := hb.more x; clear hb HG H0)
    | fail)
  generalize w1.alloc _ = w2 at H1 ⊢
  generalize w1.heap.size = B at H1 ⊢
  have H2 := rhide H1
  clear H1
  go_wp2_with (first
    | (go_at_call 47; refine (HY.out _ _ H2.out).mono ?_; rintro e3 w3 ⟨rfl, hb⟩; have H3 := rhide hb; clear hb HY H2; have x0 := H3.out.box.c0; have x1 := H3.out.box.c1; have x2 := H3.out.box.c2; have x3 := H3.out.box.c3; have x4 := H3.out.box.c4)
    | (go_at_call 40; refine (HW.out _ H3.out.cg).mono ?_; rintro e4 w4 ⟨rfl, hb⟩; have H4 := rhide hb; clear hb HW H3)
    | fail)
  go_ret
  exact ⟨rfl, H4.out⟩
set_option maxRecDepth 100000 in
set_option maxHeartbeats 2000000 in
theorem change_more (p b N : Nat) (f : Int) (M0 M : Nat → Nat → Int) (v : Bool) (w0 w : World) (h0 : Cg w0 w p b N M0 M [.bool v]) (hg : vgE N M f = 0) :
    Calls Tryz.prog 46 #[.pointer (some ⟨p, 0, none⟩), .int .i64 f, .func (.func 51) #[] #[.pointer (some ⟨w0.heap.size, 0, none⟩)]] w fun e w' => e = .returned (.int .i64 0) ∧ Cg w0 w' p b N M0 (layF N M f (moreX (rvOf M f)).ws) [.bool (rvOf M f).wa] := by
  obtain ⟨g1, _, hbo, g2⟩ := vg_yes hg
  have HG : Hid (∀ wc, Cg w0 wc p b N M0 M [.bool v] → Calls Tryz.prog 6 #[.pointer (some ⟨p, 0, none⟩), .int .i64 f] wc fun e w' => e = .returned (.tuple #[.agg #[.int .i64 (rvOf M f).th, .int .i64 (rvOf M f).pa, .int .i64 (rvOf M f).co, .bool (rvOf M f).wa, .int .i64 (rvOf M f).lo], .int .i64 0]) ∧ Cg w0 w' p b N M0 M [.bool v]) := fun wc h => by
    have := get_any p b N f M wc h.mx
    rw [g2, hg] at this
    refine this.mono ?_
    rintro e w' ⟨rfl, hb⟩
    exact ⟨rfl, h.on hb⟩
  have HY : Hid (∀ wc B, Cb w0 wc p b N M0 M [.bool v] B (rvOf M f) → Calls Tryz.prog 51 #[.pointer (some ⟨B, 0, none⟩), .pointer (some ⟨w0.heap.size, 0, none⟩)] wc fun e w' => e = .returned (.tuple #[]) ∧ Cb w0 w' p b N M0 M [.bool (rvOf M f).wa] B (moreX (rvOf M f))) := fun wc B h => by
    refine (more1_any B w0.heap.size _ v hbo.2.2.1 wc h.box h.cg.var h.ne).mono ?_
    rintro e w' ⟨rfl, q1, q2, q3⟩
    exact ⟨rfl, h.turn q1 q2 q3⟩
  have HW : Hid (∀ wc, Cg w0 wc p b N M0 M [.bool (rvOf M f).wa] → Calls Tryz.prog 40 #[.pointer (some ⟨p, 0, none⟩), .int .i64 f, .agg #[.int .i64 (moreX (rvOf M f)).th, .int .i64 (moreX (rvOf M f)).pa, .int .i64 (moreX (rvOf M f)).co, .bool (moreX (rvOf M f)).wa, .int .i64 (moreX (rvOf M f)).lo]] wc fun e w' => e = .returned (.int .i64 0) ∧ Cg w0 w' p b N M0 (layF N M f (moreX (rvOf M f)).ws) [.bool (rvOf M f).wa]) := fun wc h => by
    refine (write_any p b N f (moreX (rvOf M f)) M wc h.mx (more_vo hbo) (isE_ok g1)).mono ?_
    rintro e w' ⟨rfl, hm, hb⟩
    exact ⟨rfl, h.turn hm hb⟩
  have H0 := rhide h0
  clear h0 hg g1 g2 hbo
  generalize layF N M f (moreX (rvOf M f)).ws = M1 at HW ⊢
  generalize moreX (rvOf M f) = y at HY HW ⊢
  generalize ([.bool (rvOf M f).wa] : List Value) = vs2 at HY HW ⊢
  generalize rvOf M f = x at HG HY
  go_enter Tryz.func46, Tryz.ntmps46
  go_upto_region 4 with (first
    | (go_at_call 6; refine (HG.out _ H0.out).mono ?_; rintro e1 w1 ⟨rfl, hb⟩; have H1 := hb.more x; clear hb HG H0)
    | fail)
  generalize w1.alloc _ = w2 at H1 ⊢
  generalize w1.heap.size = B at H1 ⊢
  have H2 := rhide H1
  clear H1
  go_wp2_with (first
    | (go_at_call 51; refine (HY.out _ _ H2.out).mono ?_; rintro e3 w3 ⟨rfl, hb⟩; have H3 := rhide hb; clear hb HY H2; have x0 := H3.out.box.c0; have x1 := H3.out.box.c1; have x2 := H3.out.box.c2; have x3 := H3.out.box.c3; have x4 := H3.out.box.c4)
    | (go_at_call 40; refine (HW.out _ H3.out.cg).mono ?_; rintro e4 w4 ⟨rfl, hb⟩; have H4 := rhide hb; clear hb HW H3)
    | fail)
  go_ret
  exact ⟨rfl, H4.out⟩
set_option maxRecDepth 100000 in
set_option maxHeartbeats 2000000 in
theorem change_less (p b N : Nat) (f : Int) (M0 M : Nat → Nat → Int) (v : Bool) (w0 w : World) (h0 : Cg w0 w p b N M0 M [.bool v]) (hg : vgE N M f = 0) :
    Calls Tryz.prog 46 #[.pointer (some ⟨p, 0, none⟩), .int .i64 f, .func (.func 52) #[] #[.pointer (some ⟨w0.heap.size, 0, none⟩)]] w fun e w' => e = .returned (.int .i64 0) ∧ Cg w0 w' p b N M0 (layF N M f (lessY (rvOf M f)).ws) [.bool (decide (0 < (rvOf M f).co))] := by
  obtain ⟨g1, _, hbo, g2⟩ := vg_yes hg
  have HG : Hid (∀ wc, Cg w0 wc p b N M0 M [.bool v] → Calls Tryz.prog 6 #[.pointer (some ⟨p, 0, none⟩), .int .i64 f] wc fun e w' => e = .returned (.tuple #[.agg #[.int .i64 (rvOf M f).th, .int .i64 (rvOf M f).pa, .int .i64 (rvOf M f).co, .bool (rvOf M f).wa, .int .i64 (rvOf M f).lo], .int .i64 0]) ∧ Cg w0 w' p b N M0 M [.bool v]) := fun wc h => by
    have := get_any p b N f M wc h.mx
    rw [g2, hg] at this
    refine this.mono ?_
    rintro e w' ⟨rfl, hb⟩
    exact ⟨rfl, h.on hb⟩
  have HY : Hid (∀ wc B, Cb w0 wc p b N M0 M [.bool v] B (rvOf M f) → Calls Tryz.prog 52 #[.pointer (some ⟨B, 0, none⟩), .pointer (some ⟨w0.heap.size, 0, none⟩)] wc fun e w' => e = .returned (.tuple #[]) ∧ Cb w0 w' p b N M0 M [.bool (decide (0 < (rvOf M f).co))] B (lessY (rvOf M f))) := fun wc B h => by
    refine (less1_any B w0.heap.size _ v hbo.2.2.1 wc h.box h.cg.var h.ne).mono ?_
    rintro e w' ⟨rfl, q1, q2, q3⟩
    exact ⟨rfl, h.turn q1 q2 q3⟩
  have HW : Hid (∀ wc, Cg w0 wc p b N M0 M [.bool (decide (0 < (rvOf M f).co))] → Calls Tryz.prog 40 #[.pointer (some ⟨p, 0, none⟩), .int .i64 f, .agg #[.int .i64 (lessY (rvOf M f)).th, .int .i64 (lessY (rvOf M f)).pa, .int .i64 (lessY (rvOf M f)).co, .bool (lessY (rvOf M f)).wa, .int .i64 (lessY (rvOf M f)).lo]] wc fun e w' => e = .returned (.int .i64 0) ∧ Cg w0 w' p b N M0 (layF N M f (lessY (rvOf M f)).ws) [.bool (decide (0 < (rvOf M f).co))]) := fun wc h => by
    refine (write_any p b N f (lessY (rvOf M f)) M wc h.mx (lessY_vo hbo) (isE_ok g1)).mono ?_
    rintro e w' ⟨rfl, hm, hb⟩
    exact ⟨rfl, h.turn hm hb⟩
  have H0 := rhide h0
  clear h0 hg g1 g2 hbo
  generalize layF N M f (lessY (rvOf M f)).ws = M1 at HW ⊢
  generalize lessY (rvOf M f) = y at HY HW ⊢
  generalize ([.bool (decide (0 < (rvOf M f).co))] : List Value) = vs2 at HY HW ⊢
  generalize rvOf M f = x at HG HY
  go_enter Tryz.func46, Tryz.ntmps46
  go_upto_region 4 with (first
    | (go_at_call 6; refine (HG.out _ H0.out).mono ?_; rintro e1 w1 ⟨rfl, hb⟩; have H1 := hb.more x; clear hb HG H0)
    | fail)
  generalize w1.alloc _ = w2 at H1 ⊢
  generalize w1.heap.size = B at H1 ⊢
  have H2 := rhide H1
  clear H1
  go_wp2_with (first
    | (go_at_call 52; refine (HY.out _ _ H2.out).mono ?_; rintro e3 w3 ⟨rfl, hb⟩; have H3 := rhide hb; clear hb HY H2; have x0 := H3.out.box.c0; have x1 := H3.out.box.c1; have x2 := H3.out.box.c2; have x3 := H3.out.box.c3; have x4 := H3.out.box.c4)
    | (go_at_call 40; refine (HW.out _ H3.out.cg).mono ?_; rintro e4 w4 ⟨rfl, hb⟩; have H4 := rhide hb; clear hb HW H3)
    | fail)
  go_ret
  exact ⟨rfl, H4.out⟩
set_option maxRecDepth 100000 in
set_option maxHeartbeats 2000000 in
theorem change_wait (p b N : Nat) (f : Int) (M0 M : Nat → Nat → Int) (v : Bool) (w0 w : World) (h0 : Cg w0 w p b N M0 M [.bool v]) (hg : vgE N M f = 0) :
    Calls Tryz.prog 46 #[.pointer (some ⟨p, 0, none⟩), .int .i64 f, .func (.func 53) #[] #[.pointer (some ⟨w0.heap.size, 0, none⟩)]] w fun e w' => e = .returned (.int .i64 0) ∧ Cg w0 w' p b N M0 (layF N M f (waitX (rvOf M f) v).ws) [.bool v] := by
  obtain ⟨g1, _, hbo, g2⟩ := vg_yes hg
  have HG : Hid (∀ wc, Cg w0 wc p b N M0 M [.bool v] → Calls Tryz.prog 6 #[.pointer (some ⟨p, 0, none⟩), .int .i64 f] wc fun e w' => e = .returned (.tuple #[.agg #[.int .i64 (rvOf M f).th, .int .i64 (rvOf M f).pa, .int .i64 (rvOf M f).co, .bool (rvOf M f).wa, .int .i64 (rvOf M f).lo], .int .i64 0]) ∧ Cg w0 w' p b N M0 M [.bool v]) := fun wc h => by
    have := get_any p b N f M wc h.mx
    rw [g2, hg] at this
    refine this.mono ?_
    rintro e w' ⟨rfl, hb⟩
    exact ⟨rfl, h.on hb⟩
  have HY : Hid (∀ wc B, Cb w0 wc p b N M0 M [.bool v] B (rvOf M f) → Calls Tryz.prog 53 #[.pointer (some ⟨B, 0, none⟩), .pointer (some ⟨w0.heap.size, 0, none⟩)] wc fun e w' => e = .returned (.tuple #[]) ∧ Cb w0 w' p b N M0 M [.bool v] B (waitX (rvOf M f) v)) := fun wc B h => by
    refine (wait1_any B w0.heap.size _ v wc h.box h.cg.var).mono ?_
    rintro e w' ⟨rfl, q1, q2⟩
    exact ⟨rfl, h.turn q1 (h.cg.var.but q2 (Nat.ne_of_lt h.ne)) (q2.below (Nat.le_of_lt h.ne) h.cg.but.size)⟩
  have HW : Hid (∀ wc, Cg w0 wc p b N M0 M [.bool v] → Calls Tryz.prog 40 #[.pointer (some ⟨p, 0, none⟩), .int .i64 f, .agg #[.int .i64 (waitX (rvOf M f) v).th, .int .i64 (waitX (rvOf M f) v).pa, .int .i64 (waitX (rvOf M f) v).co, .bool (waitX (rvOf M f) v).wa, .int .i64 (waitX (rvOf M f) v).lo]] wc fun e w' => e = .returned (.int .i64 0) ∧ Cg w0 w' p b N M0 (layF N M f (waitX (rvOf M f) v).ws) [.bool v]) := fun wc h => by
    refine (write_any p b N f (waitX (rvOf M f) v) M wc h.mx (wait_vo hbo v) (isE_ok g1)).mono ?_
    rintro e w' ⟨rfl, hm, hb⟩
    exact ⟨rfl, h.turn hm hb⟩
  have H0 := rhide h0
  clear h0 hg g1 g2 hbo
  generalize layF N M f (waitX (rvOf M f) v).ws = M1 at HW ⊢
  generalize waitX (rvOf M f) v = y at HY HW ⊢
  generalize rvOf M f = x at HG HY
  go_enter Tryz.func46, Tryz.ntmps46
  go_upto_region 4 with (first
    | (go_at_call 6; refine (HG.out _ H0.out).mono ?_; rintro e1 w1 ⟨rfl, hb⟩; have H1 := hb.more x; clear hb HG H0)
    | fail)
  generalize w1.alloc _ = w2 at H1 ⊢
  generalize w1.heap.size = B at H1 ⊢
  have H2 := rhide H1
  clear H1
  go_wp2_with (first
    | (go_at_call 53; refine (HY.out _ _ H2.out).mono ?_; rintro e3 w3 ⟨rfl, hb⟩; have H3 := rhide hb; clear hb HY H2; have x0 := H3.out.box.c0; have x1 := H3.out.box.c1; have x2 := H3.out.box.c2; have x3 := H3.out.box.c3; have x4 := H3.out.box.c4)
    | (go_at_call 40; refine (HW.out _ H3.out.cg).mono ?_; rintro e4 w4 ⟨rfl, hb⟩; have H4 := rhide hb; clear hb HW H3)
    | fail)
  go_ret
  exact ⟨rfl, H4.out⟩
end Go.Proofs.YtcoggdnpjpiacaaGreatDoor.Prcv
