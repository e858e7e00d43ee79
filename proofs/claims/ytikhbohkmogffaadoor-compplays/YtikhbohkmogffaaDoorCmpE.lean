/- What the calls of package comp answer and do, for all arguments: Check, isComp, Get, Make, Put, Hand. -/
import Derived.Test.YtikhbohkmogffaaDoorCmpD
namespace Go.Proofs.YtikhbohkmogffaaDoor.Pcomp
open Go.Proofs.YtikhbohkmogffaaDoor.Pbase Go.Proofs.YtikhbohkmogffaaDoor.Pfield Go.Proofs.YtikhbohkmogffaaDoor.Pmem
open Go.RowKit Go.Shelf M
attribute [local go_sem] Oper.semAt_some
set_option linter.unusedVariables false

/-- What compOf answers of the words x. -/
def coX (x : Cp) : Cp := if coB x = true then x else cp0
theorem coX_no {x : Cp} (h : coB x = false) : coX x = cp0 := by unfold coX; rw [h]; rfl
theorem coX_yes {x : Cp} (h : coB x = true) : coX x = x := by unfold coX; rw [if_pos h]
theorem comp_any (x : Cp) (hx : ∀ k, k < 6 → 0 ≤ wd x k) (gf : Nat) (lb : Array Value) (K : World → Prop) (w : World) (hT : TabC w)
    (hK : ∀ X Y, Below w.heap.size X Y → K X → K Y) (hen : ∀ args v, (callFunc gf args).run Tryd.prog v = .ok (.enter gf args) v)
    (hseq : SeqStopsK Fence.wide 8 Tryd.prog gf lb (encW x) (fun X Y => K X → K Y) (fun ys => ys = upto 6 6) (fun pre => ∃ k, k ≤ 6 ∧ pre = upto 6 k) 6 w) :
    Calls Tryd.prog 33 #[.func (.func gf) #[] lb] w fun e W' => e = .returned (.tuple #[.agg #[.int .i64 (coX x).tb, .int .i64 (coX x).pg, .int .i64 (coX x).l, .int .i64 (coX x).e, .int .i64 (coX x).fa, .int .i64 (coX x).wh], .bool (coB x)]) ∧ Below w.heap.size w W' := by
  refine (compOf_in x hx gf lb K w hT hK hen hseq).mono ?_
  rintro e W' ⟨⟨h1, rfl⟩ | ⟨h1, rfl⟩, hB⟩
  · rw [coX_yes h1, h1]
    exact ⟨rfl, hB⟩
  · rw [coX_no h1, h1]
    exact ⟨rfl, hB⟩
theorem wd_w {c : Cp} (h : Fi c) : ∀ k, k < 6 → 0 ≤ wd c.w k := by
  obtain ⟨f0, f1, f2, f3, f4, f5⟩ := h
  intro k hk
  rcases (show k = 0 ∨ k = 1 ∨ k = 2 ∨ k = 3 ∨ k = 4 ∨ k = 5 by omega) with rfl | rfl | rfl | rfl | rfl | rfl
  · exact (asW_fit f0).1
  · exact (asW_fit f1).1
  · exact (asW_fit f2).1
  · exact (asW_fit f3).1
  · exact (asW_fit f4).1
  · exact (asW_fit f5).1
/-! ### Check -/
set_option maxRecDepth 100000 in
set_option maxHeartbeats 1000000 in
theorem check_any (c : Cp) (hc : Fi c) (w : World) (hT : Tc w) : Calls Tryd.prog 15 #[.agg #[.int .i64 c.tb, .int .i64 c.pg, .int .i64 c.l, .int .i64 c.e, .int .i64 c.fa, .int .i64 c.wh]] w fun e w' => e = .returned (.int .i64 (ckE c)) ∧ Below w.heap.size w w' := by
  have HO : Hid (∀ wc, Calls Tryd.prog 36 #[.agg #[.int .i64 c.tb, .int .i64 c.pg, .int .i64 c.l, .int .i64 c.e, .int .i64 c.fa, .int .i64 c.wh]] wc fun e w' => e = .returned (.func (.func 52) #[] #[.pointer (some ⟨wc.heap.size + 1, 0, none⟩)]) ∧ RowW w' (wc.heap.size + 1) c.w ∧ Below wc.heap.size wc w' ∧ w'.heap.size = wc.heap.size + 2) := fun wc => (callsIn_wide (n := 9)).1 (of_in 9 c hc wc)
  have HC : Hid (∀ wc A, TabC wc → RowW wc A c.w → Calls Tryd.prog 33 #[.func (.func 52) #[] #[.pointer (some ⟨A, 0, none⟩)]] wc fun e W' => e = .returned (.tuple #[.agg #[.int .i64 (coX c.w).tb, .int .i64 (coX c.w).pg, .int .i64 (coX c.w).l, .int .i64 (coX c.w).e, .int .i64 (coX c.w).fa, .int .i64 (coX c.w).wh], .bool (coB c)]) ∧ Below wc.heap.size wc W') := fun wc A hT hR => by
    have := comp_any c.w (wd_w hc) 52 #[.pointer (some ⟨A, 0, none⟩)] (fun W => RowW W A c.w) wc hT (fun X Y hB h => h.on hB hR.lt) (enters_of Tryd.func52 (by kernel_rfl) rfl) (of_stops 8 (by omega) A c.w wc hR)
    rwa [coB_w hc] at this
  have HT := rhide hT
  clear hT hc
  generalize coX c.w = y at HC
  have e : ckE c = if coB c = true then 0 else 1 := rfl
  rw [e]
  generalize coB c = R at HC
  have Hw : Hid (Below w.heap.size w (w.alloc (.cells #[.int .i64 c.tb, .int .i64 c.pg, .int .i64 c.l, .int .i64 c.e, .int .i64 c.fa, .int .i64 c.wh] 33))) := bal (Below.refl _ _) _
  cases R
  all_goals
    go_enter Tryd.func15, Tryd.ntmps15
    go_wp2_with (first
      | (go_at_call 36; refine (HO.out _).mono ?_; rintro e1 w1 ⟨rfl, hr, hb, hs⟩; have H1 : Hid (Below w.heap.size w w1) := Hw.out.trans (hb.mono Hw.out.size); rw [World.size_alloc] at hr; have HR := rhide hr; clear hr hb hs HO Hw)
      | (go_at_call 33; refine (HC.out _ _ (HT.out.on H1.out).tc HR.out).mono ?_; rintro e2 w2 ⟨rfl, hb⟩; have H2 : Hid (Below w.heap.size w w2) := H1.out.trans (hb.mono H1.out.size); clear hb HC HR H1)
      | fail)
    go_ret
    exact ⟨rfl, bal H2.out _⟩
/-! ### isComp -/
set_option maxRecDepth 100000 in
theorem isC_any (p b N : Nat) (f : Int) (M : Nat → Nat → Int) (w : World) (hM : Mx w p b N M) : Calls Tryd.prog 30 #[.pointer (some ⟨p, 0, none⟩), .int .i64 f] w fun e w' => e = .returned (.bool (Phead.isE N M f 3 == 0)) ∧ Below w.heap.size w w' := by
  have HI : Hid (Calls Tryd.prog 47 #[.pointer (some ⟨p, 0, none⟩), .int .i64 f, .int .i64 3] w fun e w' => e = .returned (.int .i64 (Phead.isE N M f 3)) ∧ Below w.heap.size w w') := Phead.his_any p b N f 3 M w hM.n1 hM.n64 hM.mem hM.tb.th hM.fit
  clear hM
  generalize Phead.isE N M f 3 = E at HI ⊢
  go_enter Tryd.func30, Tryd.ntmps30
  go_wp2_with (first
    | (go_at_call 47; refine HI.out.mono ?_; rintro e1 w1 ⟨rfl, hb⟩; have H1 := rhide hb; clear hb HI)
    | fail)
  go_ret
  exact ⟨rfl, H1.out⟩
end Go.Proofs.YtikhbohkmogffaaDoor.Pcomp
