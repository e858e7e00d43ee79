/- What Tell, More, Less and Wait of package rcv answer and do, for all arguments; the program computes at all. -/
import Derived.Test.YtcoggdnpjpiacaaGreatDoorRcvD
namespace Go.Proofs.YtcoggdnpjpiacaaGreatDoor.Prcv
open Go.Proofs.YtcoggdnpjpiacaaGreatDoor.Pbase Go.Proofs.YtcoggdnpjpiacaaGreatDoor.Pfield Go.Proofs.YtcoggdnpjpiacaaGreatDoor.Play Go.Proofs.YtcoggdnpjpiacaaGreatDoor.Pmem Go.Proofs.YtcoggdnpjpiacaaGreatDoor.Pring
open Go.RowKit M
set_option linter.unusedVariables false

/-! ### an endpoint's own words -/
theorem lay_self {N : Nat} {M : Nat → Nat → Int} {f : Int} (hF : Fit M) (hg : vgE N M f = 0) : layF N M f (rvOf M f).ws = M := by
  obtain ⟨h1, ⟨a1, a2, a3, a4⟩, _, _⟩ := vg_yes hg
  have h0 := (hF f.toNat 7).1
  unfold layF
  rw [if_pos (isE_ok h1)]
  funext g b
  by_cases hb : g = f.toNat ∧ 4 ≤ b ∧ b < 4 + (rvOf M f).ws.length
  · rw [if_pos hb]
    obtain ⟨rfl, hb1, hb2⟩ := hb
    rw [vs_len] at hb2
    rcases (show b = 4 ∨ b = 5 ∨ b = 6 ∨ b = 7 ∨ b = 8 ∨ b = 9 ∨ b = 10 ∨ b = 11 by omega) with rfl | rfl | rfl | rfl | rfl | rfl | rfl | rfl
    · rfl
    · rfl
    · rfl
    · show vz (decide (M f.toNat 7 = 1)) = M f.toNat 7
      rcases (show M f.toNat 7 = 0 ∨ M f.toNat 7 = 1 by omega) with e | e <;> rw [e] <;> rfl
    · rfl
    · exact a2.symm
    · exact a3.symm
    · exact a4.symm
  · rw [if_neg hb]
theorem less_lay {N : Nat} {M : Nat → Nat → Int} {f : Int} (hF : Fit M) (hg : vgE N M f = 0) : layF N M f (lessY (rvOf M f)).ws = leM N M f ∧ decide (0 < (rvOf M f).co) = leB N M f := by
  have hv := (vg_yes hg).2.2.1.2.2.1
  unfold leM leB lessY
  by_cases h0 : (rvOf M f).co = 0
  · rw [if_pos h0, lay_self hF hg]
    simp [h0, hg]
  · have e : (decide (vgE N M f = 0) && decide ((rvOf M f).co ≠ 0)) = true := by simp [hg, h0]
    rw [if_neg h0, e]
    exact ⟨by rw [if_pos rfl], decide_eq_true (by omega)⟩
/-! ### Tell -/
theorem tell_box (w : World) (e : Ev) : RowV (w.alloc (.cells #[.int .i64 e.k, .int .i64 e.t] 35)) w.heap.size [.int .i64 e.k, .int .i64 e.t] := rowV_new w _ _
theorem Mv.go {w w' : World} {p b N : Nat} {M : Nat → Nat → Int} {vs : List Value} {w0 : World} {M0 : Nat → Nat → Int} (h : Cg w0 w p b N M0 M vs) (hB : Below w.heap.size w w') (o : Obj) : Cg w0 (w'.alloc o) p b N M0 M vs := (h.on hB).on (bal (Below.refl _ _) _)
section
variable (p b N : Nat) (f : Int) (e : Ev) (M : Nat → Nat → Int) (w : World)
set_option maxRecDepth 100000 in
set_option maxHeartbeats 1000000 in
theorem tell_arg (hM : Mv w p b N M) (he : ¬ Eo e) :
    Calls Tryz.prog 20 #[.pointer (some ⟨p, 0, none⟩), .int .i64 f, .agg #[.int .i64 e.k, .int .i64 e.t]] w fun r w' => r = .returned (.int .i64 1) ∧ Cg w w' p b N M M [.int .i64 e.k, .int .i64 e.t] := by
  have HC : Hid (∀ wc, Calls Tryz.prog 44 #[.agg #[.int .i64 e.k, .int .i64 e.t]] wc fun r w' => r = .returned (.int .i64 1) ∧ Below wc.heap.size wc w') := fun wc => by
    have := Pring.check_any e wc
    rwa [show Pring.ckE e = 1 by unfold Pring.ckE; rw [eoB_no he]; rfl] at this
  have H0 : Hid (Cg w (w.alloc (.cells #[.int .i64 e.k, .int .i64 e.t] 35)) p b N M M [.int .i64 e.k, .int .i64 e.t]) := cg_new hM _ _
  have z0 := H0.out.var.cell 0
  have z1 := H0.out.var.cell 1
  clear hM he
  go_enter Tryz.func20, Tryz.ntmps20
  go_wp2_with (first
    | (go_at_call 44; refine (HC.out _).mono ?_; rintro e1 w1 ⟨rfl, hb⟩; have H1 := rhide (H0.out.on hb); clear hb HC H0)
    | fail)
  go_ret
  exact ⟨rfl, H1.out⟩
set_option maxRecDepth 100000 in
set_option maxHeartbeats 1000000 in
theorem tell_get (hM : Mv w p b N M) (he : Eo e) (hg : vgE N M f ≠ 0) :
    Calls Tryz.prog 20 #[.pointer (some ⟨p, 0, none⟩), .int .i64 f, .agg #[.int .i64 e.k, .int .i64 e.t]] w fun r w' => r = .returned (.int .i64 (vgE N M f)) ∧ Cg w w' p b N M M [.int .i64 e.k, .int .i64 e.t] := by
  have HC : Hid (∀ wc, Calls Tryz.prog 44 #[.agg #[.int .i64 e.k, .int .i64 e.t]] wc fun r w' => r = .returned (.int .i64 0) ∧ Below wc.heap.size wc w') := fun wc => by
    have := Pring.check_any e wc
    rwa [show Pring.ckE e = 0 by unfold Pring.ckE; rw [eoB_yes he]; rfl] at this
  have HG : Hid (∀ wc, Mv wc p b N M → Calls Tryz.prog 6 #[.pointer (some ⟨p, 0, none⟩), .int .i64 f] wc fun r w' => r = .returned (.tuple #[.agg #[.int .i64 (vgX N M f).th, .int .i64 (vgX N M f).pa, .int .i64 (vgX N M f).co, .bool (vgX N M f).wa, .int .i64 (vgX N M f).lo], .int .i64 (vgE N M f)]) ∧ Below wc.heap.size wc w') := fun wc h => get_any p b N f M wc h
  have H0 : Hid (Cg w (w.alloc (.cells #[.int .i64 e.k, .int .i64 e.t] 35)) p b N M M [.int .i64 e.k, .int .i64 e.t]) := cg_new hM _ _
  have z0 := H0.out.var.cell 0
  have z1 := H0.out.var.cell 1
  clear hM he
  generalize vgE N M f = E at HG hg ⊢
  generalize vgX N M f = y at HG
  have hE : (E != 0) = true := by simp [hg]
  clear hg
  go_enter Tryz.func20, Tryz.ntmps20
  go_wp2_with (first
    | (go_at_call 44; refine (HC.out _).mono ?_; rintro e1 w1 ⟨rfl, hb⟩; have H1 := rhide (H0.out.on hb); clear hb HC H0)
    | (go_at_call 6; refine (HG.out _ H1.out.mx).mono ?_; rintro e2 w2 ⟨rfl, hb⟩; have H2 := rhide (Mv.go H1.out hb (.cells #[.int .i64 y.th, .int .i64 y.pa, .int .i64 y.co, .bool y.wa, .int .i64 y.lo] 33)); clear hb HG H1)
    | fail)
  go_ret
  exact ⟨rfl, H2.out⟩
set_option maxRecDepth 100000 in
set_option maxHeartbeats 1000000 in
theorem tell_put (hM : Mv w p b N M) (he : Eo e) (hg : vgE N M f = 0) (hp : Pring.puE N M f e ≠ 2) :
    Calls Tryz.prog 20 #[.pointer (some ⟨p, 0, none⟩), .int .i64 f, .agg #[.int .i64 e.k, .int .i64 e.t]] w fun r w' => r = .returned (.int .i64 (Pring.puE N M f e)) ∧ Cg w w' p b N M (Pring.puM N M f e) [.int .i64 e.k, .int .i64 e.t] := by
  have HC : Hid (∀ wc, Calls Tryz.prog 44 #[.agg #[.int .i64 e.k, .int .i64 e.t]] wc fun r w' => r = .returned (.int .i64 0) ∧ Below wc.heap.size wc w') := fun wc => by
    have := Pring.check_any e wc
    rwa [show Pring.ckE e = 0 by unfold Pring.ckE; rw [eoB_yes he]; rfl] at this
  have HG : Hid (∀ wc, Mv wc p b N M → Calls Tryz.prog 6 #[.pointer (some ⟨p, 0, none⟩), .int .i64 f] wc fun r w' => r = .returned (.tuple #[.agg #[.int .i64 (rvOf M f).th, .int .i64 (rvOf M f).pa, .int .i64 (rvOf M f).co, .bool (rvOf M f).wa, .int .i64 (rvOf M f).lo], .int .i64 0]) ∧ Below wc.heap.size wc w') := fun wc h => by
    have := get_any p b N f M wc h
    rwa [(vg_yes hg).2.2.2, hg] at this
  have HP : Hid (∀ wc, Cg w wc p b N M M [.int .i64 e.k, .int .i64 e.t] → Calls Tryz.prog 45 #[.pointer (some ⟨p, 0, none⟩), .int .i64 f, .agg #[.int .i64 e.k, .int .i64 e.t]] wc fun r w' => r = .returned (.int .i64 (Pring.puE N M f e)) ∧ Cg w w' p b N M (Pring.puM N M f e) [.int .i64 e.k, .int .i64 e.t]) := fun wc h => by
    refine (Pring.put_any p b N f e M wc h.mx.mx).mono ?_
    rintro r w' ⟨rfl, q1, q2⟩
    exact ⟨rfl, h.turn (h.mx.butx q1 q2) q2⟩
  have H0 : Hid (Cg w (w.alloc (.cells #[.int .i64 e.k, .int .i64 e.t] 35)) p b N M M [.int .i64 e.k, .int .i64 e.t]) := cg_new hM _ _
  have z0 := H0.out.var.cell 0
  have z1 := H0.out.var.cell 1
  clear hM he hg
  generalize Pring.puE N M f e = E at HP hp ⊢
  generalize Pring.puM N M f e = M1 at HP ⊢
  generalize rvOf M f = y at HG
  have hE : (E == 2) = false := by simp [hp]
  clear hp
  go_enter Tryz.func20, Tryz.ntmps20
  go_wp2_with (first
    | (go_at_call 44; refine (HC.out _).mono ?_; rintro e1 w1 ⟨rfl, hb⟩; have H1 := rhide (H0.out.on hb); clear hb HC H0)
    | (go_at_call 6; refine (HG.out _ H1.out.mx).mono ?_; rintro e2 w2 ⟨rfl, hb⟩; have H2 := rhide (Mv.go H1.out hb (.cells #[.int .i64 y.th, .int .i64 y.pa, .int .i64 y.co, .bool y.wa, .int .i64 y.lo] 33)); clear hb HG H1; have y0 := H2.out.var.cell 0; have y1 := H2.out.var.cell 1)
    | (go_at_call 45; refine (HP.out _ H2.out).mono ?_; rintro e3 w3 ⟨rfl, hb⟩; have H3 := rhide hb; clear hb HP H2)
    | fail)
  go_ret
  exact ⟨rfl, H3.out⟩
set_option maxRecDepth 100000 in
set_option maxHeartbeats 1000000 in
theorem tell_full (hM : Mv w p b N M) (he : Eo e) (hg : vgE N M f = 0) (hp : Pring.puE N M f e = 2) :
    Calls Tryz.prog 20 #[.pointer (some ⟨p, 0, none⟩), .int .i64 f, .agg #[.int .i64 e.k, .int .i64 e.t]] w fun r w' => r = .returned (.int .i64 0) ∧ Cg w w' p b N M (layF N M f (lostX (rvOf M f)).ws) [.int .i64 e.k, .int .i64 e.t] := by
  have HC : Hid (∀ wc, Calls Tryz.prog 44 #[.agg #[.int .i64 e.k, .int .i64 e.t]] wc fun r w' => r = .returned (.int .i64 0) ∧ Below wc.heap.size wc w') := fun wc => by
    have := Pring.check_any e wc
    rwa [show Pring.ckE e = 0 by unfold Pring.ckE; rw [eoB_yes he]; rfl] at this
  have HG : Hid (∀ wc, Mv wc p b N M → Calls Tryz.prog 6 #[.pointer (some ⟨p, 0, none⟩), .int .i64 f] wc fun r w' => r = .returned (.tuple #[.agg #[.int .i64 (rvOf M f).th, .int .i64 (rvOf M f).pa, .int .i64 (rvOf M f).co, .bool (rvOf M f).wa, .int .i64 (rvOf M f).lo], .int .i64 0]) ∧ Below wc.heap.size wc w') := fun wc h => by
    have := get_any p b N f M wc h
    rwa [(vg_yes hg).2.2.2, hg] at this
  have HP : Hid (∀ wc, Cg w wc p b N M M [.int .i64 e.k, .int .i64 e.t] → Calls Tryz.prog 45 #[.pointer (some ⟨p, 0, none⟩), .int .i64 f, .agg #[.int .i64 e.k, .int .i64 e.t]] wc fun r w' => r = .returned (.int .i64 2) ∧ Cg w w' p b N M M [.int .i64 e.k, .int .i64 e.t]) := fun wc h => by
    have := Pring.put_any p b N f e M wc h.mx.mx
    rw [hp, show Pring.puM N M f e = M by unfold Pring.puM; rw [if_neg (by rw [hp]; decide)]] at this
    refine this.mono ?_
    rintro r w' ⟨rfl, q1, q2⟩
    exact ⟨rfl, h.turn (h.mx.butx q1 q2) q2⟩
  have HX : Hid (∀ wc, Cg w wc p b N M M [.int .i64 e.k, .int .i64 e.t] → Calls Tryz.prog 46 #[.pointer (some ⟨p, 0, none⟩), .int .i64 f, .func (.func 47) #[] #[]] wc fun r w' => r = .returned (.int .i64 0) ∧ Cg w w' p b N M (layF N M f (lostX (rvOf M f)).ws) [.int .i64 e.k, .int .i64 e.t]) := fun wc h => change_tell p b N f M M _ w wc h hg
  have H0 : Hid (Cg w (w.alloc (.cells #[.int .i64 e.k, .int .i64 e.t] 35)) p b N M M [.int .i64 e.k, .int .i64 e.t]) := cg_new hM _ _
  have z0 := H0.out.var.cell 0
  have z1 := H0.out.var.cell 1
  clear hM he hg hp
  generalize layF N M f (lostX (rvOf M f)).ws = M1 at HX ⊢
  generalize rvOf M f = y at HG
  go_enter Tryz.func20, Tryz.ntmps20
  go_wp2_with (first
    | (go_at_call 44; refine (HC.out _).mono ?_; rintro e1 w1 ⟨rfl, hb⟩; have H1 := rhide (H0.out.on hb); clear hb HC H0)
    | (go_at_call 6; refine (HG.out _ H1.out.mx).mono ?_; rintro e2 w2 ⟨rfl, hb⟩; have H2 := rhide (Mv.go H1.out hb (.cells #[.int .i64 y.th, .int .i64 y.pa, .int .i64 y.co, .bool y.wa, .int .i64 y.lo] 33)); clear hb HG H1; have y0 := H2.out.var.cell 0; have y1 := H2.out.var.cell 1)
    | (go_at_call 45; refine (HP.out _ H2.out).mono ?_; rintro e3 w3 ⟨rfl, hb⟩; have H3 := rhide hb; clear hb HP H2)
    | (go_at_call 46; refine (HX.out _ H3.out).mono ?_; rintro e4 w4 ⟨rfl, hb⟩; have H4 := rhide hb; clear hb HX H3)
    | fail)
  go_ret
  exact ⟨rfl, H4.out⟩
theorem tell_any (hM : Mv w p b N M) :
    Calls Tryz.prog 20 #[.pointer (some ⟨p, 0, none⟩), .int .i64 f, .agg #[.int .i64 e.k, .int .i64 e.t]] w fun r w' => r = .returned (.int .i64 (tlE N M f e)) ∧ Mv w' p b N (tlM N M f e) ∧ But b w w' := by
  by_cases he : Eo e
  · by_cases hg : vgE N M f = 0
    · by_cases hp : Pring.puE N M f e = 2
      · rw [(tl_full he hg hp).1, (tl_full he hg hp).2]
        exact (tell_full p b N f e M w hM he hg hp).mono fun r w' ⟨h1, h2⟩ => ⟨h1, h2.mx, h2.but⟩
      · rw [(tl_put he hg hp).1, (tl_put he hg hp).2]
        exact (tell_put p b N f e M w hM he hg hp).mono fun r w' ⟨h1, h2⟩ => ⟨h1, h2.mx, h2.but⟩
    · rw [(tl_get he hg).1, (tl_get he hg).2]
      exact (tell_get p b N f e M w hM he hg).mono fun r w' ⟨h1, h2⟩ => ⟨h1, h2.mx, h2.but⟩
  · rw [(tl_arg N M f he).1, (tl_arg N M f he).2]
    exact (tell_arg p b N f e M w hM he).mono fun r w' ⟨h1, h2⟩ => ⟨h1, h2.mx, h2.but⟩
/-! ### More, Less, Wait -/
set_option maxRecDepth 100000 in
set_option maxHeartbeats 1000000 in
theorem more_any (hM : Mv w p b N M) :
    Calls Tryz.prog 22 #[.pointer (some ⟨p, 0, none⟩), .int .i64 f] w fun e w' => e = .returned (.tuple #[.bool (moB N M f), .int .i64 (vgE N M f)]) ∧ Mv w' p b N (moM N M f) ∧ But b w w' := by
  have hmf : ∀ (fn : Fn) (first cap : Array Value) (w : World), (Instr.makeFunc fn first cap).run Tryz.prog w = .ok (.func fn first cap) w := fun _ _ _ _ => rfl
  have H0 : Hid (Cg w (w.alloc (.cells #[.bool false] 4)) p b N M M [.bool false]) := cg_new hM _ _
  by_cases hg : vgE N M f = 0
  · have e1 : moB N M f = (rvOf M f).wa := by unfold moB; rw [if_pos hg]
    have e2 : moM N M f = layF N M f (moreX (rvOf M f)).ws := by unfold moM; rw [if_pos hg]
    have HX : Hid (∀ wc, Cg w wc p b N M M [.bool false] → Calls Tryz.prog 46 #[.pointer (some ⟨p, 0, none⟩), .int .i64 f, .func (.func 51) #[] #[.pointer (some ⟨w.heap.size, 0, none⟩)]] wc fun r w' => r = .returned (.int .i64 0) ∧ Cg w w' p b N M (layF N M f (moreX (rvOf M f)).ws) [.bool (rvOf M f).wa]) := fun wc h => change_more p b N f M M _ w wc h hg
    rw [e1, e2, hg]
    clear hM hg e1 e2
    generalize layF N M f (moreX (rvOf M f)).ws = M1 at HX ⊢
    generalize (rvOf M f).wa = v at HX ⊢
    go_enter Tryz.func22, Tryz.ntmps22
    go_wp2_with (first
      | (go_at_call 46; refine (HX.out _ H0.out).mono ?_; rintro e1 w1 ⟨rfl, hb⟩; have H1 := rhide hb; clear hb HX H0; have y0 := H1.out.var.cell 0)
      | fail)
    refine bodyPost_ret (v := .tuple #[.bool v, .int .i64 0]) (by simp [results, Tryz.results22, go_sem]) rfl ?_
    exact ⟨rfl, H1.out.mx, H1.out.but⟩
  · have e1 : moB N M f = false := by unfold moB; rw [if_neg hg]
    have e2 : moM N M f = M := by unfold moM; rw [if_neg hg]
    have HX : Hid (∀ wc, Cg w wc p b N M M [.bool false] → Calls Tryz.prog 46 #[.pointer (some ⟨p, 0, none⟩), .int .i64 f, .func (.func 51) #[] #[.pointer (some ⟨w.heap.size, 0, none⟩)]] wc fun r w' => r = .returned (.int .i64 (vgE N M f)) ∧ Cg w w' p b N M M [.bool false]) := fun wc h => (change_no p b N f _ M wc h.mx hg).mono fun r w' ⟨h1, h2⟩ => ⟨h1, h.on h2⟩
    rw [e1, e2]
    clear hM hg e1 e2
    generalize vgE N M f = E at HX ⊢
    go_enter Tryz.func22, Tryz.ntmps22
    go_wp2_with (first
      | (go_at_call 46; refine (HX.out _ H0.out).mono ?_; rintro e1 w1 ⟨rfl, hb⟩; have H1 := rhide hb; clear hb HX H0; have y0 := H1.out.var.cell 0)
      | fail)
    refine bodyPost_ret (v := .tuple #[.bool false, .int .i64 E]) (by simp [results, Tryz.results22, go_sem]) rfl ?_
    exact ⟨rfl, H1.out.mx, H1.out.but⟩
set_option maxRecDepth 100000 in
set_option maxHeartbeats 1000000 in
theorem less_any (hM : Mv w p b N M) :
    Calls Tryz.prog 24 #[.pointer (some ⟨p, 0, none⟩), .int .i64 f] w fun e w' => e = .returned (.tuple #[.bool (leB N M f), .int .i64 (vgE N M f)]) ∧ Mv w' p b N (leM N M f) ∧ But b w w' := by
  have hmf : ∀ (fn : Fn) (first cap : Array Value) (w : World), (Instr.makeFunc fn first cap).run Tryz.prog w = .ok (.func fn first cap) w := fun _ _ _ _ => rfl
  have H0 : Hid (Cg w (w.alloc (.cells #[.bool false] 4)) p b N M M [.bool false]) := cg_new hM _ _
  by_cases hg : vgE N M f = 0
  · obtain ⟨e2, e1⟩ := less_lay hM.mx.fit hg
    have HX : Hid (∀ wc, Cg w wc p b N M M [.bool false] → Calls Tryz.prog 46 #[.pointer (some ⟨p, 0, none⟩), .int .i64 f, .func (.func 52) #[] #[.pointer (some ⟨w.heap.size, 0, none⟩)]] wc fun r w' => r = .returned (.int .i64 0) ∧ Cg w w' p b N M (leM N M f) [.bool (leB N M f)]) := fun wc h => by
      have := change_less p b N f M M _ w wc h hg
      rwa [e2, e1] at this
    rw [hg]
    clear hM hg e1 e2
    generalize leM N M f = M1 at HX ⊢
    generalize leB N M f = v at HX ⊢
    go_enter Tryz.func24, Tryz.ntmps24
    go_wp2_with (first
      | (go_at_call 46; refine (HX.out _ H0.out).mono ?_; rintro e1 w1 ⟨rfl, hb⟩; have H1 := rhide hb; clear hb HX H0; have y0 := H1.out.var.cell 0)
      | fail)
    refine bodyPost_ret (v := .tuple #[.bool v, .int .i64 0]) (by simp [results, Tryz.results24, go_sem]) rfl ?_
    exact ⟨rfl, H1.out.mx, H1.out.but⟩
  · have e1 : leB N M f = false := by unfold leB; simp [hg]
    have e2 : leM N M f = M := by unfold leM; rw [if_neg (by rw [e1]; decide)]
    have HX : Hid (∀ wc, Cg w wc p b N M M [.bool false] → Calls Tryz.prog 46 #[.pointer (some ⟨p, 0, none⟩), .int .i64 f, .func (.func 52) #[] #[.pointer (some ⟨w.heap.size, 0, none⟩)]] wc fun r w' => r = .returned (.int .i64 (vgE N M f)) ∧ Cg w w' p b N M M [.bool false]) := fun wc h => (change_no p b N f _ M wc h.mx hg).mono fun r w' ⟨h1, h2⟩ => ⟨h1, h.on h2⟩
    rw [e1, e2]
    clear hM hg e1 e2
    generalize vgE N M f = E at HX ⊢
    go_enter Tryz.func24, Tryz.ntmps24
    go_wp2_with (first
      | (go_at_call 46; refine (HX.out _ H0.out).mono ?_; rintro e1 w1 ⟨rfl, hb⟩; have H1 := rhide hb; clear hb HX H0; have y0 := H1.out.var.cell 0)
      | fail)
    refine bodyPost_ret (v := .tuple #[.bool false, .int .i64 E]) (by simp [results, Tryz.results24, go_sem]) rfl ?_
    exact ⟨rfl, H1.out.mx, H1.out.but⟩
set_option maxRecDepth 100000 in
set_option maxHeartbeats 1000000 in
theorem wait_any (v : Bool) (hM : Mv w p b N M) :
    Calls Tryz.prog 26 #[.pointer (some ⟨p, 0, none⟩), .int .i64 f, .bool v] w fun e w' => e = .returned (.int .i64 (vgE N M f)) ∧ Mv w' p b N (waM N M f v) ∧ But b w w' := by
  have hmf : ∀ (fn : Fn) (first cap : Array Value) (w : World), (Instr.makeFunc fn first cap).run Tryz.prog w = .ok (.func fn first cap) w := fun _ _ _ _ => rfl
  have H0 : Hid (Cg w (w.alloc (.cells #[.bool v] 4)) p b N M M [.bool v]) := cg_new hM _ _
  have HX : Hid (∀ wc, Cg w wc p b N M M [.bool v] → Calls Tryz.prog 46 #[.pointer (some ⟨p, 0, none⟩), .int .i64 f, .func (.func 53) #[] #[.pointer (some ⟨w.heap.size, 0, none⟩)]] wc fun r w' => r = .returned (.int .i64 (vgE N M f)) ∧ Cg w w' p b N M (waM N M f v) [.bool v]) := fun wc h => by
    by_cases hg : vgE N M f = 0
    · have e2 : waM N M f v = layF N M f (waitX (rvOf M f) v).ws := by unfold waM; rw [if_pos hg]
      rw [e2, hg]
      exact change_wait p b N f M M _ w wc h hg
    · have e2 : waM N M f v = M := by unfold waM; rw [if_neg hg]
      rw [e2]
      exact (change_no p b N f _ M wc h.mx hg).mono fun r w' ⟨h1, h2⟩ => ⟨h1, h.on h2⟩
  clear hM
  generalize waM N M f v = M1 at HX ⊢
  generalize vgE N M f = E at HX ⊢
  go_enter Tryz.func26, Tryz.ntmps26
  go_wp2_with (first
    | (go_at_call 46; refine (HX.out _ H0.out).mono ?_; rintro e1 w1 ⟨rfl, hb⟩; have H1 := rhide hb; clear hb HX H0)
    | fail)
  go_ret
  exact ⟨rfl, H1.out.mx, H1.out.but⟩
end
/-! ### awake -/
set_option maxRecDepth 100000 in
theorem awake_any (w : World) (hT : TabV w) : Calls Tryz.prog 11 #[] w fun e w' => e = .returned (.bool true) ∧ Below w.heap.size w w' := by
  have h1 : Calls Tryz.prog 8 #[.agg #[.int .i64 0, .int .i64 0, .int .i64 256, .bool false, .int .i64 0]] w fun e w' => e = .returned (.int .i64 1) ∧ Below w.heap.size w w' := check_any ⟨0, 0, 256, false, 0⟩ (by unfold Fv In64; dsimp only; omega) w hT
  have h2 : ∀ wc, TabV wc → Calls Tryz.prog 8 #[.agg #[.int .i64 0, .int .i64 0, .int .i64 0, .bool false, .int .i64 0]] wc fun e w' => e = .returned (.int .i64 0) ∧ Below wc.heap.size wc w' := fun wc h => check_any ⟨0, 0, 0, false, 0⟩ (by unfold Fv In64; dsimp only; omega) wc h
  have HA := rhide h1
  have HB := rhide h2
  have HT := rhide hT
  clear h1 h2 hT
  go_enter Tryz.func11, Tryz.ntmps11
  go_wp2_with (first
    | (go_at_call 8; refine HA.out.mono ?_; rintro e1 w1 ⟨rfl, hb⟩; have H1 := rhide hb; have HT1 := rhide (HT.out.on hb); clear hb HA HT)
    | (go_at_call 8; refine (HB.out _ HT1.out).mono ?_; rintro e2 w2 ⟨rfl, hb⟩; have H2 := rhide (H1.out.trans (hb.mono H1.out.size)); clear hb HB H1)
    | fail)
  go_ret
  exact ⟨rfl, H2.out⟩
end Go.Proofs.YtcoggdnpjpiacaaGreatDoor.Prcv
