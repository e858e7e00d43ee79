/- An endpoint in a memory of one frame beside an endpoint that was read; RcvBack where none is made (written by mk_back.py). -/
import Derived.Test.YtcoggdnpjpiacaaDoorRcvK
import Derived.Test.YtcoggdnpjpiacaaDoorRcvF
import Derived.Test.YtcoggdnpjpiacaaDoorRcvI
import Derived.Test.YtcoggdnpjpiacaaDoorBunRing
import Derived.Deep.RegionHeld3
import Derived.BigRegion
import Derived.Deep.DeepCutAuto
namespace Go.Proofs.YtcoggdnpjpiacaaDoor.Prcv
open Go.Proofs.YtcoggdnpjpiacaaDoor.Pbase Go.Proofs.YtcoggdnpjpiacaaDoor.Pfield Go.Proofs.YtcoggdnpjpiacaaDoor.Play Go.Proofs.YtcoggdnpjpiacaaDoor.Pmem Go.Proofs.YtcoggdnpjpiacaaDoor.Pring
open Go.RowKit M
set_option linter.unusedVariables false

theorem at_of_drop {ops : Array Oper} {i : Nat} {oi : Oper} {tl : List Oper} (h : ops.toList.drop i = oi :: tl) : ops[i]? = some oi := by
  have h1 : (ops.toList.drop i)[0]? = some oi := by rw [h]; rfl
  rw [List.getElem?_drop] at h1
  simpa using h1
/-- Operation i is wanted and yields its value in every world that meets S: it is taken first. -/
theorem takeV {P : Program} {ops : Array Oper} {Q : Exit → Act → World → Prop} {md : Region.Mode} {S : World → Prop} {i : Nat} {oi : Oper} {tl : List Oper} {v : Value} {fuel : Nat} {listed : Array Bool} {a : Act} {w : World}
    (hi : ops.toList.drop i = oi :: tl) (hs : Region.noSelect ops = true) (hf : Region.free md ops listed i = true) (hr : (Region.ready md ops listed).contains i = true)
    (hQ : ∀ c a w, Q (.panic c) (a.put oi.dst v) w → Q (.panic c) a w) (hw : Region.wanted oi (yielded ops a.tmps) = true) (hS : S w)
    (hy : ∀ w, S w → (execOp a.eval oi).run P w = .ok (.value v) w)
    (h : wpAnyH P md ops Q S fuel (listed.setIfInBounds i true) (a.put oi.dst v) w) : wpAnyH P md ops Q S (fuel + 1) listed a w :=
  wpAnyH_take (at_of_drop hi) hs hf hr hQ (Or.inl ⟨hw, hy⟩) hS h
/-- Operation i is not wanted. -/
theorem takeU {P : Program} {ops : Array Oper} {Q : Exit → Act → World → Prop} {md : Region.Mode} {S : World → Prop} {i : Nat} {oi : Oper} {tl : List Oper} {fuel : Nat} {listed : Array Bool} {a : Act} {w : World}
    (hi : ops.toList.drop i = oi :: tl) (hs : Region.noSelect ops = true) (hf : Region.free md ops listed i = true) (hr : (Region.ready md ops listed).contains i = true)
    (hQ : ∀ c a w, Q (.panic c) (a.put oi.dst undef) w → Q (.panic c) a w) (hw : Region.wanted oi (yielded ops a.tmps) = false) (hS : S w)
    (h : wpAnyH P md ops Q S fuel (listed.setIfInBounds i true) (a.put oi.dst undef) w) : wpAnyH P md ops Q S (fuel + 1) listed a w :=
  wpAnyH_take (at_of_drop hi) hs hf hr hQ (Or.inr ⟨hw, rfl⟩) hS h
/-- Operation i alone may come up. -/
theorem stepOne {P : Program} {ops : Array Oper} {Q : Exit → Act → World → Prop} {md : Region.Mode} {S : World → Prop} {i : Nat} {oi : Oper} {tl : List Oper} {fuel : Nat} {listed : Array Bool} {a : Act} {w : World}
    (hi : ops.toList.drop i = oi :: tl) (hr : Region.ready md ops listed = [i])
    (h : ∀ K' : Act → World → Prop, Shut (∀ a w, S w → (S w → wpAnyH P md ops Q S fuel (listed.setIfInBounds i true) a w) → K' a w) → if Region.wanted oi (yielded ops a.tmps) = true then Oper.wp P oi a w K' Q else K' (a.put oi.dst undef) w) :
    wpAnyH P md ops Q S (fuel + 1) listed a w :=
  wpAnyH_ready hr (by simp) (AllReadyH.cons (at_of_drop hi) h AllReadyH.nil)
section
variable {w wc : World} {L : List Ev} {r s : Rv} {e : Ev}
theorem bk_tell (HP : Prd 1 w) (h : Ek w wc r L) (hf : Fe e) (he : Eo e) (hl : L.length < 8) : Calls Tryd.prog 7 #[.pointer (some ⟨w.heap.size + 1, 0, none⟩), .int .i64 0, .agg #[.int .i64 e.k, .int .i64 e.t]] wc fun x w' => x = .returned (.int .i64 0) ∧ Ek w w' r (L ++ [e]) ∧ But w.heap.size wc w' := by
  obtain ⟨M, h1, h2⟩ := h.ex
  have hc := HP.tell wc M 0 e hf h1 h2.rg.fit h.below
  obtain ⟨e1, e2⟩ := ep_tell h2 he hl
  rw [e1] at hc
  exact hc.mono fun x w' ⟨q1, q2, q3⟩ => ⟨q1, ⟨⟨_, q2, e2⟩, h.below.trans (q3.below (Nat.le_refl _) h.below.size)⟩, q3⟩
theorem bk_tell_no (HP : Prd 1 w) (h : Ek w wc r L) (hf : Fe e) (he : ¬ Eo e) : Calls Tryd.prog 7 #[.pointer (some ⟨w.heap.size + 1, 0, none⟩), .int .i64 0, .agg #[.int .i64 e.k, .int .i64 e.t]] wc fun x w' => x = .returned (.int .i64 1) ∧ Ek w w' r L ∧ But w.heap.size wc w' := by
  obtain ⟨M, h1, h2⟩ := h.ex
  have hc := HP.tell wc M 0 e hf h1 h2.rg.fit h.below
  obtain ⟨e1, e2⟩ := tl_arg 1 M 0 he
  rw [e1, e2] at hc
  exact hc.mono fun x w' ⟨q1, q2, q3⟩ => ⟨q1, h.turn q2 h2 q3, q3⟩
theorem bk_put (HP : Prd 1 w) (h : Ek w wc r L) (hs : Vo s) : Calls Tryd.prog 15 #[.pointer (some ⟨w.heap.size + 1, 0, none⟩), .int .i64 0, .agg #[.int .i64 s.th, .int .i64 s.pa, .int .i64 s.co, .bool s.wa, .int .i64 s.lo]] wc fun x w' => x = .returned (.int .i64 0) ∧ Ek w w' s L ∧ But w.heap.size wc w' := by
  obtain ⟨M, h1, h2⟩ := h.ex
  have hc := HP.put wc M 0 s (vo_fv hs) h1 h2.rg.fit h.below
  obtain ⟨e1, e2⟩ := ep_put h2 hs
  rw [e1] at hc
  exact hc.mono fun x w' ⟨q1, q2, q3⟩ => ⟨q1, h.turn q2 e2 q3, q3⟩
theorem bk_put_no (HP : Prd 1 w) (h : Ek w wc r L) (hf : Fv s) (hs : ¬ Vo s) : Calls Tryd.prog 15 #[.pointer (some ⟨w.heap.size + 1, 0, none⟩), .int .i64 0, .agg #[.int .i64 s.th, .int .i64 s.pa, .int .i64 s.co, .bool s.wa, .int .i64 s.lo]] wc fun x w' => x = .returned (.int .i64 1) ∧ Ek w w' r L ∧ But w.heap.size wc w' := by
  obtain ⟨M, h1, h2⟩ := h.ex
  have hc := HP.put wc M 0 s hf h1 h2.rg.fit h.below
  obtain ⟨e1, e2⟩ := vp_arg 1 M 0 hs
  rw [e1, e2] at hc
  exact hc.mono fun x w' ⟨q1, q2, q3⟩ => ⟨q1, h.turn q2 h2 q3, q3⟩
end
/-- What the walk stands on, behind the three boxes. -/
structure Bs (w w1 : World) (r s : Rv) (e : Ev) : Prop where
  below : Below w.heap.size w w1
  r : RowW w1 w.heap.size r
  s : RowW w1 (w.heap.size + 1) s
  e : RowE w1 (w.heap.size + 2) e
  pr : Prd 1 w1
  ts : Ts w1
theorem bs_new {w : World} (hT : Ts w) (HP : ∀ w1, Below w.heap.size w w1 → Prd 1 w1) (r s : Rv) (e : Ev) : Bs w (((w.alloc (.cells #[.int .i64 r.th, .int .i64 r.pa, .int .i64 r.co, .bool r.wa, .int .i64 r.lo] 31)).alloc (.cells #[.int .i64 s.th, .int .i64 s.pa, .int .i64 s.co, .bool s.wa, .int .i64 s.lo] 31)).alloc (.cells #[.int .i64 e.k, .int .i64 e.t] 24)) r s e := by
  have b1 := bal (Below.refl w.heap.size w) (.cells #[.int .i64 r.th, .int .i64 r.pa, .int .i64 r.co, .bool r.wa, .int .i64 r.lo] 31)
  have b2 := bal (Below.refl (w.alloc (.cells #[.int .i64 r.th, .int .i64 r.pa, .int .i64 r.co, .bool r.wa, .int .i64 r.lo] 31)).heap.size (w.alloc (.cells #[.int .i64 r.th, .int .i64 r.pa, .int .i64 r.co, .bool r.wa, .int .i64 r.lo] 31))) (.cells #[.int .i64 s.th, .int .i64 s.pa, .int .i64 s.co, .bool s.wa, .int .i64 s.lo] 31)
  have r1 := rowW_new w r
  have r2 := rowW_new (w.alloc (.cells #[.int .i64 r.th, .int .i64 r.pa, .int .i64 r.co, .bool r.wa, .int .i64 r.lo] 31)) s
  have z1 : (w.alloc (.cells #[.int .i64 r.th, .int .i64 r.pa, .int .i64 r.co, .bool r.wa, .int .i64 r.lo] 31)).heap.size = w.heap.size + 1 := World.size_alloc _ _
  generalize w.alloc (.cells #[.int .i64 r.th, .int .i64 r.pa, .int .i64 r.co, .bool r.wa, .int .i64 r.lo] 31) = v1 at b1 b2 r1 r2 z1 ⊢
  have b3 := bal (Below.refl (v1.alloc (.cells #[.int .i64 s.th, .int .i64 s.pa, .int .i64 s.co, .bool s.wa, .int .i64 s.lo] 31)).heap.size (v1.alloc (.cells #[.int .i64 s.th, .int .i64 s.pa, .int .i64 s.co, .bool s.wa, .int .i64 s.lo] 31))) (.cells #[.int .i64 e.k, .int .i64 e.t] 24)
  have r3 := rowE_new (v1.alloc (.cells #[.int .i64 s.th, .int .i64 s.pa, .int .i64 s.co, .bool s.wa, .int .i64 s.lo] 31)) e
  have z2 : (v1.alloc (.cells #[.int .i64 s.th, .int .i64 s.pa, .int .i64 s.co, .bool s.wa, .int .i64 s.lo] 31)).heap.size = w.heap.size + 2 := by rw [World.size_alloc, z1]
  have r1' := r1.on b2
  generalize v1.alloc (.cells #[.int .i64 s.th, .int .i64 s.pa, .int .i64 s.co, .bool s.wa, .int .i64 s.lo] 31) = v2 at b2 r2 b3 r3 z2 r1' ⊢
  rw [z1] at r2
  rw [z2] at r3
  have r1'' := r1'.on b3
  have r2' := r2.on b3
  generalize v2.alloc _ = v3 at b3 r3 r1'' r2' ⊢
  have hb : Below w.heap.size w v3 := (b1.trans (b2.mono (by omega))).trans (b3.mono (by omega))
  exact ⟨hb, r1'', r2', r3, HP _ hb, hT.on hb⟩
/-- The endpoint, and one that was read. -/
structure Bk (w W : World) (y : Rv) (L : List Ev) (D : Nat) (x : Rv) : Prop where
  ek : Ek w W y L
  x : RowW W D x
  nd : w.heap.size < D
section
variable {w W W' : World} {y y' x z : Rv} {L L' : List Ev} {D F : Nat}
theorem Bk.on (h : Bk w W y L D x) (hB : Below W.heap.size W W') : Bk w W' y L D x := ⟨h.ek.on hB, h.x.on hB, h.nd⟩
theorem Bk.turn (h : Bk w W y L D x) (he : Ek w W' y' L') (hB : But w.heap.size W W') : Bk w W' y' L' D x := ⟨he, h.x.but hB (Nat.ne_of_gt h.nd), h.nd⟩
theorem bk_new (h : Ek w W y L) (x : Rv) : Bk w (W.alloc (.cells #[.int .i64 x.th, .int .i64 x.pa, .int .i64 x.co, .bool x.wa, .int .i64 x.lo] 31)) y L W.heap.size x := by
  obtain ⟨M, h1, _⟩ := h.ex
  exact ⟨h.on (bal (Below.refl _ _) _), rowW_new W x, by have := h1.lt.1; omega⟩
/-- And another. -/
structure Bl (w W : World) (y : Rv) (L : List Ev) (D : Nat) (x : Rv) (F : Nat) (z : Rv) : Prop where
  bk : Bk w W y L D x
  z : RowW W F z
theorem Bl.on (h : Bl w W y L D x F z) (hB : Below W.heap.size W W') : Bl w W' y L D x F z := ⟨h.bk.on hB, h.z.on hB⟩
theorem bl_new (h : Bk w W y L D x) (z : Rv) : Bl w (W.alloc (.cells #[.int .i64 z.th, .int .i64 z.pa, .int .i64 z.co, .bool z.wa, .int .i64 z.lo] 31)) y L D x W.heap.size z := ⟨h.on (bal (Below.refl _ _) _), rowW_new W z⟩
end
theorem Bs.end {w w1 w3 : World} {r s : Rv} {e : Ev} (h : Bs w w1 r s e) (hk : Below w1.heap.size w1 w3) : Below w.heap.size w w3 := h.below.trans (hk.mono h.below.size)
set_option maxRecDepth 100000 in
set_option maxHeartbeats 4000000 in
theorem back_none (r s : Rv) (e : Ev) (hr : Fv r) (hno : ¬ Vo r) (w : World) (hT : Ts w) (HP : ∀ w1, Below w.heap.size w w1 → Prd 1 w1) :
    Calls Tryd.prog 4 #[.agg #[.int .i64 r.th, .int .i64 r.pa, .int .i64 r.co, .bool r.wa, .int .i64 r.lo], .agg #[.int .i64 s.th, .int .i64 s.pa, .int .i64 s.co, .bool s.wa, .int .i64 s.lo], .agg #[.int .i64 e.k, .int .i64 e.t]] w fun x w' => x = .returned (.bool true) ∧ Below w.heap.size w w' := by
  have H0 := rhide (bs_new hT HP r s e)
  clear hT HP
  go_enter Tryd.func4, Tryd.ntmps4
  go_upto_region 1 with fail
  generalize ((w.alloc _).alloc _).alloc _ = w1 at H0 ⊢
  have HM := rhide (ek_make_no H0.out.pr hr hno)
  have HC : Hid (∀ wc, Below w1.heap.size w1 wc → Calls Tryd.prog 14 #[.agg #[.int .i64 r.th, .int .i64 r.pa, .int .i64 r.co, .bool r.wa, .int .i64 r.lo]] wc fun x w' => x = .returned (.int .i64 1) ∧ Below wc.heap.size wc w') := fun wc h => by
    have := H0.out.pr.check wc r hr h
    rwa [vk_no hno] at this
  clear hr hno
  go_wp2_with (first
    | (go_at_call 5; refine (new_ok 1 _ (by omega) (by omega)).mono ?_; rintro r1 w2 ⟨rfl, hw⟩; have H2 : Hid (Below w1.heap.size w1 w2) := (by rw [hw]; exact newW_below w1 1); rw [← hw] at HM; clear hw; have c0 := (H0.out.r.on H2.out).c0; have c1 := (H0.out.r.on H2.out).c1; have c2 := (H0.out.r.on H2.out).c2; have c3 := (H0.out.r.on H2.out).c3; have c4 := (H0.out.r.on H2.out).c4)
    | (go_at_call 6; refine HM.out.mono ?_; rintro r2 w3 ⟨rfl, hw⟩; have H3 := rhide hw; clear hw HM H2 c0 c1 c2 c3 c4; have c0 := (H0.out.r.on H3.out).c0; have c1 := (H0.out.r.on H3.out).c1; have c2 := (H0.out.r.on H3.out).c2; have c3 := (H0.out.r.on H3.out).c3; have c4 := (H0.out.r.on H3.out).c4)
    | (go_at_call 14; refine (HC.out _ H3.out).mono ?_; rintro r3 w4 ⟨rfl, hw⟩; have H4 := rhide (H3.out.trans (hw.mono H3.out.size)); clear hw HC H3 c0 c1 c2 c3 c4)
    | (go_at_call 11; refine (H0.out.pr.awake _ H4.out).mono ?_; rintro r4 w5 ⟨rfl, hw⟩; have H5 := rhide (H0.out.end (H4.out.trans (hw.mono H4.out.size))); clear hw)
    | fail)
  go_ret
  exact ⟨rfl, H5.out⟩
end Go.Proofs.YtcoggdnpjpiacaaDoor.Prcv
