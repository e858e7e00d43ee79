/- What Freeze, Cons and Decons of package captbl answer and do, for every argument, over a memory that New made. -/
import Derived.Test.YtgcaodfcodalfaaGreatDoorCtbE
namespace Go.Proofs.YtgcaodfcodalfaaGreatDoor.Pcaptbl
open Go.Proofs.YtgcaodfcodalfaaGreatDoor.Pbase Go.Proofs.YtgcaodfcodalfaaGreatDoor.Pmem Go.Proofs.YtgcaodfcodalfaaGreatDoor.Pradix Go.Proofs.YtgcaodfcodalfaaGreatDoor.Pslot
open Go.RowKit
set_option linter.unusedVariables false

/-! ### Freeze -/
theorem frozen_put {N : Nat} {M : Nat → Nat → Int} {f now : Int} (he : Phead.ghE N M f = 0) (hk : Phead.ghK N M f = 1) (ht : tiB now = true) : Phead.errP N f 1 (Phead.ghL N M f) true now = 0 := by
  have ho := ok_of_gh he
  have hr : Phead.Rt 1 (Phead.ghL N M f) true now := by
    simp only [tiB, Bool.and_eq_true, decide_eq_true_eq] at ht
    unfold Phead.ghE at he
    rw [if_pos ho] at he
    unfold Phead.ghL
    rw [if_pos ho]
    by_cases hg : Phead.Got (M f.toNat 0) (M f.toNat 1) (M f.toNat 2) (M f.toNat 3)
    · obtain ⟨_, e1, _, _, _⟩ := Phead.hget_yes hg
      rw [e1]
      have := hg.2.2.2.2
      unfold Phead.Rt at this ⊢
      simp
      omega
    · obtain ⟨_, _, _, _, e4⟩ := Phead.hget_no hg
      rw [e4] at he
      cases he
  simp [Phead.errP, Phead.rtB_yes hr, errF, ho]
theorem fr_laid {w w1 : World} {p b N : Nat} {M : Nat → Nat → Int} (h : Mx w p b N M) (hb : Below w.heap.size w w1) (k l : Int) (z : Bool) (t : Int) : Mx (w1.alloc (.cells #[.int .i64 k, .int .i64 l, .bool z, .int .i64 t] 78)) p b N M ∧ Below w.heap.size w (w1.alloc (.cells #[.int .i64 k, .int .i64 l, .bool z, .int .i64 t] 78)) :=
  ⟨h.on (bal hb _), bal hb _⟩
set_option maxRecDepth 100000 in
set_option maxHeartbeats 1000000 in
theorem freeze_any (p b N : Nat) (f now : Int) (M : Nat → Nat → Int) (w : World) (h : Mx w p b N M) : Calls Tryz.prog 26 #[.pointer (some ⟨p, 0, none⟩), .int .i64 f, .int .i64 now] w fun x w' => x = .returned (.int .i64 (frE N M f now)) ∧ Mx w' p b N (frM N M f now) ∧ But b w w' := by
  have HM : Hid (Mx w p b N M) := h
  cases ht : tiB now
  case false =>
    have e1 : frE N M f now = 1 := by simp [frE, ht]
    have e2 : frM N M f now = M := by simp [frM, e1]
    rw [e1, e2]
    clear h e1 e2
    go_enter Tryz.func26, Tryz.ntmps26
    go_wp2_with (first
      | (go_at_call 44; refine (isTime_any now _).mono ?_; rintro e1 w1 ⟨rfl, hw⟩; subst w1; rw [ht])
      | fail)
    go_ret
    exact ⟨rfl, HM.out, But.refl _ _⟩
  have HG : Hid (Calls Tryz.prog 59 #[.pointer (some ⟨p, 0, none⟩), .int .i64 f] w fun x w' => x = .returned (.tuple #[.agg #[.int .i64 (Phead.ghK N M f), .int .i64 (Phead.ghL N M f), .bool (Phead.ghZ N M f), .int .i64 (Phead.ghT N M f)], .int .i64 (Phead.ghE N M f)]) ∧ Below w.heap.size w w') := Phead.hget_any p b N f M w h.mt.n1 h.mt.n64 h.mt.mem h.th h.mt.fit
  have hfz : Phead.ghE N M f = 0 → Phead.ghK N M f = 1 → Phead.errP N f 1 (Phead.ghL N M f) true now = 0 := fun h1 h2 => frozen_put h1 h2 ht
  have e1 : frE N M f now = if Phead.ghE N M f = 0 ∧ Phead.ghK N M f = 1 then (if Phead.ghZ N M f = true then 10 else 0) else 4 := by simp [frE, ht]
  have e2 : frM N M f now = if frE N M f now = 0 then Phead.putM N M f 1 (Phead.ghL N M f) true now else M := rfl
  rw [e2, e1]
  clear e1 e2 h
  generalize Phead.ghK N M f = K at HG hfz ⊢
  generalize Phead.ghL N M f = L at HG hfz ⊢
  generalize Phead.ghZ N M f = Z at HG ⊢
  generalize Phead.ghT N M f = T at HG ⊢
  generalize Phead.ghE N M f = E at HG hfz ⊢
  by_cases hE : E = 0
  case neg =>
    rw [if_neg (fun h => hE h.1), if_neg (by decide)]
    have hE' : (E != 0) = true := by simp [hE]
    clear hfz
    go_enter Tryz.func26, Tryz.ntmps26
    go_wp2_with (first
      | (go_at_call 44; refine (isTime_any now _).mono ?_; rintro e1 w1 ⟨rfl, hw⟩; subst w1; rw [ht])
      | (go_at_call 59; refine HG.out.mono ?_; rintro e2 w2 ⟨rfl, hb⟩; have H2 : Hid (Below w.heap.size w w2) := hb; clear hb)
      | fail)
    go_ret
    exact ⟨rfl, HM.out.on (bal H2.out _), But.of_below b (bal H2.out _)⟩
  subst hE
  by_cases hK : K = 1
  case neg =>
    rw [if_neg (fun h => hK h.2), if_neg (by decide)]
    have hK' : (K != 1) = true := by simp [hK]
    clear hfz
    go_enter Tryz.func26, Tryz.ntmps26
    go_wp2_with (first
      | (go_at_call 44; refine (isTime_any now _).mono ?_; rintro e1 w1 ⟨rfl, hw⟩; subst w1; rw [ht])
      | (go_at_call 59; refine HG.out.mono ?_; rintro e2 w2 ⟨rfl, hb⟩; have H2 : Hid (Below w.heap.size w w2) := hb; clear hb)
      | fail)
    go_ret
    exact ⟨rfl, HM.out.on (bal H2.out _), But.of_below b (bal H2.out _)⟩
  subst hK
  cases Z
  case true =>
    simp only [and_self, if_true]
    rw [if_neg (by decide)]
    clear hfz
    go_enter Tryz.func26, Tryz.ntmps26
    go_wp2_with (first
      | (go_at_call 44; refine (isTime_any now _).mono ?_; rintro e1 w1 ⟨rfl, hw⟩; subst w1; rw [ht])
      | (go_at_call 59; refine HG.out.mono ?_; rintro e2 w2 ⟨rfl, hb⟩; have H2 : Hid (Below w.heap.size w w2) := hb; clear hb)
      | fail)
    go_ret
    exact ⟨rfl, HM.out.on (bal H2.out _), But.of_below b (bal H2.out _)⟩
  simp only [and_self, if_true, Bool.false_eq_true, if_false]
  have HZ : Hid (Phead.errP N f 1 L true now = 0) := hfz rfl rfl
  clear hfz
  go_enter Tryz.func26, Tryz.ntmps26
  go_wp2_with (first
    | (go_at_call 44; refine (isTime_any now _).mono ?_; rintro e1 w1 ⟨rfl, hw⟩; subst w1; rw [ht])
    | (go_at_call 59; refine HG.out.mono ?_; rintro e2 w2 ⟨rfl, hb⟩; have H2 : Hid (Below w.heap.size w w2) := hb; clear hb)
    | (go_at_call 60; refine (Phead.hput_any p b N f 1 L true now M _ HM.out.mt.n1 HM.out.mt.n64 (HM.out.on (bal H2.out _)).mt.mem (HM.out.on (bal H2.out _)).th).mono ?_; rintro e3 w3 ⟨rfl, hm, hb⟩; rw [HZ.out]; have HB3 : Hid (But b w w3) := (But.of_below b (bal H2.out _)).trans hb; have H3 : Hid (Mx w3 p b N (Phead.putM N M f 1 L true now)) := HM.out.but hm (Phead.fit_put HM.out.mt.fit N f 1 L true now) HB3.out; clear hm hb)
    | fail)
  go_ret
  exact ⟨rfl, H3.out, HB3.out⟩

/-! ### Cons: two walks -/
/-- Two walks of one call. -/
def Two (w0 : World) (p b N : Nat) (M : Nat → Nat → Int) (B C : Nat) (s : Wk × Wk) (w : World) : Prop := Wi w0 w p b N M B s.1 ∧ Wi w0 w p b N M C s.2 ∧ B ≠ C
def onL (st : Wk → Wk × Int) (s : Wk × Wk) : (Wk × Wk) × Int := (((st s.1).1, s.2), (st s.1).2)
def onR (st : Wk → Wk × Int) (s : Wk × Wk) : (Wk × Wk) × Int := ((s.1, (st s.2).1), (st s.2).2)
section
variable {w0 w : World} {p b N : Nat} {M : Nat → Nat → Int} {B C D : Nat}
theorem good_l {f : Nat} {st : Wk → Wk × Int} (hD : D ≠ B) (he : ∀ (ar : Array Value) (w : World), (callFunc f ar).run Tryz.prog w = .ok (.enter f ar) w)
    (hs : ∀ (u : Wk) (w : World), Wi w0 w p b N M B u → Calls Tryz.prog f #[.pointer (some ⟨B, 0, none⟩)] w fun x w' => x = .returned (.int .i64 (st u).2) ∧ Wi w0 w' p b N M B (st u).1 ∧ But B w w') :
    Good (Two w0 p b N M B C) D (f, .pointer (some ⟨B, 0, none⟩), onL st) := by
  refine ⟨he, fun s w' hJ hlt => (hs s.1 w' hJ.1).mono ?_⟩
  rintro x w'' ⟨rfl, h1, h2⟩
  exact ⟨rfl, ⟨h1, hJ.2.1.but h2 hJ.1.lo (Ne.symm hJ.2.2), hJ.2.2⟩, h2.block _ hlt hD⟩
theorem good_r {f : Nat} {st : Wk → Wk × Int} (hD : D ≠ C) (he : ∀ (ar : Array Value) (w : World), (callFunc f ar).run Tryz.prog w = .ok (.enter f ar) w)
    (hs : ∀ (u : Wk) (w : World), Wi w0 w p b N M C u → Calls Tryz.prog f #[.pointer (some ⟨C, 0, none⟩)] w fun x w' => x = .returned (.int .i64 (st u).2) ∧ Wi w0 w' p b N M C (st u).1 ∧ But C w w') :
    Good (Two w0 p b N M B C) D (f, .pointer (some ⟨C, 0, none⟩), onR st) := by
  refine ⟨he, fun s w' hJ hlt => (hs s.2 w' hJ.2.1).mono ?_⟩
  rintro x w'' ⟨rfl, h1, h2⟩
  exact ⟨rfl, ⟨hJ.1.but h2 hJ.2.1.lo hJ.2.2, h1, hJ.2.2⟩, h2.block _ hlt hD⟩
end
def stCons (N : Nat) (M : Nat → Nat → Int) (s : Wk × Wk) : (Wk × Wk) × Int := chain [(0, undef, onL (stIn N M 0)), (0, undef, onR (stIn N M 1)), (0, undef, onL stThaw), (0, undef, onR stThaw), (0, undef, onL (stRead N M)), (0, undef, onL stFree)] s
theorem cons_run (N : Nat) (M : Nat → Nat → Int) (root high f floor : Int) (hs : okS high = true) : (stCons N M (wk 0 floor root high, wk 0 0 f 0)).2 = coE N M root high f floor ∧ (coE N M root high f floor = 0 → (stCons N M (wk 0 floor root high, wk 0 0 f 0)).1.1.fr = root ∧ (stCons N M (wk 0 floor root high, wk 0 0 f 0)).1.1.at_ = high) := by
  by_cases h1 : tbB N M root 0 = true
  case neg => simp [stCons, chain, onL, stIn, wk, coE, hs, h1]
  by_cases h2 : tbB N M f 1 = true
  case neg => simp [stCons, chain, onL, onR, stIn, wk, coE, hs, h1, h2]
  by_cases h3 : Phead.ghZ N M root = true
  case pos => simp [stCons, chain, onL, onR, stIn, stThaw, wk, coE, hs, h1, h2, h3]
  by_cases h4 : Phead.ghZ N M f = true
  case pos => simp [stCons, chain, onL, onR, stIn, stThaw, wk, coE, hs, h1, h2, h3, h4]
  by_cases h5 : sE N M root high = 0
  case neg => simp [stCons, chain, onL, onR, stIn, stThaw, stRead, wk, coE, hs, h1, h2, h3, h4, h5]
  have hk0 := sC_low (N := N) (M := M) (f := root) (i := high)
  by_cases h6 : sC N M root high 0 = 1
  · by_cases h8 : floor ≤ sC N M root high 5
    · simp [stCons, chain, onL, onR, stIn, stThaw, stRead, stSee, stFree, wk, coE, quB, hs, h1, h2, h3, h4, h5, h6, h8]
    · simp [stCons, chain, onL, onR, stIn, stThaw, stRead, stSee, stFree, wk, coE, quB, hs, h1, h2, h3, h4, h5, h6, h8]
  · by_cases h9 : sC N M root high 0 = 0
    · simp [stCons, chain, onL, onR, stIn, stThaw, stRead, stSee, stFree, wk, coE, quB, hs, h1, h2, h3, h4, h5, h9]
    · have h10 : 1 < sC N M root high 0 := by omega
      simp [stCons, chain, onL, onR, stIn, stThaw, stRead, stSee, stFree, wk, coE, hs, h1, h2, h3, h4, h5, h6, h9, h10]
/-- Where Cons has none to refuse, the slot's Put has none either. -/
theorem co_put {N : Nat} {M : Nat → Nat → Int} {root high f floor : Int} (hN : N ≤ 64) (h : coE N M root high f floor = 0) : pE N root high 3 31 f 0 0 0 = 0 := by
  unfold coE at h
  by_cases h1 : okS high = true
  · rw [if_pos h1] at h
    by_cases h2 : tbB N M root 0 = true ∧ tbB N M f 1 = true
    · rw [if_pos h2] at h
      have a := h2.1
      have c := h2.2
      simp only [tbB, Bool.and_eq_true, decide_eq_true_eq] at a c
      have hf := okF_yes (ok_of_gh c.1.1)
      exact pE_yes h1 (rt_table (by omega) (by omega)) (ok_of_gh a.1.1)
    · rw [if_neg h2] at h; cases h
  · rw [if_neg h1] at h; cases h
theorem cons_laid {w : World} {p b N : Nat} {M : Nat → Nat → Int} (h : Mx w p b N M) (root high f floor : Int) (hs : okS high = true) : ∃ u : Wk × Wk,
    (∀ ty, Calls Tryz.prog 45 #[.slice (some ⟨w.heap.size + 2, 0, none⟩) 6 6] (((w.alloc (.cells #[.pointer (some ⟨p, 0, none⟩), .int .i64 0, .int .i64 floor, .int .i64 root, .int .i64 high, .int .i64 0, .int .i64 0, .int .i64 0, .bool false, .int .i64 0, .int .i64 0, .int .i64 0, .int .i64 0, .int .i64 0, .int .i64 0, .int .i64 0] 84)).alloc (.cells #[.pointer (some ⟨p, 0, none⟩), .int .i64 0, .int .i64 0, .int .i64 f, .int .i64 0, .int .i64 0, .int .i64 0, .int .i64 0, .bool false, .int .i64 0, .int .i64 0, .int .i64 0, .int .i64 0, .int .i64 0, .int .i64 0, .int .i64 0] 84)).alloc (.cells #[.func (.func 51) #[.pointer (some ⟨w.heap.size, 0, none⟩)] #[], .func (.func 52) #[.pointer (some ⟨w.heap.size + 1, 0, none⟩)] #[], .func (.func 47) #[.pointer (some ⟨w.heap.size, 0, none⟩)] #[], .func (.func 47) #[.pointer (some ⟨w.heap.size + 1, 0, none⟩)] #[], .func (.func 53) #[.pointer (some ⟨w.heap.size, 0, none⟩)] #[], .func (.func 54) #[.pointer (some ⟨w.heap.size, 0, none⟩)] #[]] ty)) fun x w' => x = .returned (.int .i64 (coE N M root high f floor)) ∧ Wi w w' p b N M w.heap.size u.1) ∧
    (coE N M root high f floor = 0 → u.1.fr = root ∧ u.1.at_ = high) := by
  obtain ⟨he, hok⟩ := cons_run N M root high f floor hs
  refine ⟨(stCons N M (wk 0 floor root high, wk 0 0 f 0)).1, fun ty => ?_, hok⟩
  have h1 : Wi w (w.alloc (.cells #[.pointer (some ⟨p, 0, none⟩), .int .i64 0, .int .i64 floor, .int .i64 root, .int .i64 high, .int .i64 0, .int .i64 0, .int .i64 0, .bool false, .int .i64 0, .int .i64 0, .int .i64 0, .int .i64 0, .int .i64 0, .int .i64 0, .int .i64 0] 84)) p b N M w.heap.size (wk 0 floor root high) := wi_new h 0 floor root high (by omega)
  have h2 : Wi w ((w.alloc (.cells #[.pointer (some ⟨p, 0, none⟩), .int .i64 0, .int .i64 floor, .int .i64 root, .int .i64 high, .int .i64 0, .int .i64 0, .int .i64 0, .bool false, .int .i64 0, .int .i64 0, .int .i64 0, .int .i64 0, .int .i64 0, .int .i64 0, .int .i64 0] 84)).alloc (.cells #[.pointer (some ⟨p, 0, none⟩), .int .i64 0, .int .i64 0, .int .i64 f, .int .i64 0, .int .i64 0, .int .i64 0, .int .i64 0, .bool false, .int .i64 0, .int .i64 0, .int .i64 0, .int .i64 0, .int .i64 0, .int .i64 0, .int .i64 0] 84)) p b N M (w.heap.size + 1) (wk 0 0 f 0) :=
    ⟨h, bal (bal (Below.refl _ _) _) _, Nat.le_succ _, by have := heap_alloc_new (w.alloc (.cells #[.pointer (some ⟨p, 0, none⟩), .int .i64 0, .int .i64 floor, .int .i64 root, .int .i64 high, .int .i64 0, .int .i64 0, .int .i64 0, .bool false, .int .i64 0, .int .i64 0, .int .i64 0, .int .i64 0, .int .i64 0, .int .i64 0, .int .i64 0] 84)) (.cells #[.pointer (some ⟨p, 0, none⟩), .int .i64 0, .int .i64 0, .int .i64 f, .int .i64 0, .int .i64 0, .int .i64 0, .int .i64 0, .bool false, .int .i64 0, .int .i64 0, .int .i64 0, .int .i64 0, .int .i64 0, .int .i64 0, .int .i64 0] 84); rw [World.size_alloc] at this; exact this, by show (-9223372036854775808 : Int) ≤ 0 ∧ (0 : Int) ≤ 9223372036854775807; omega⟩
  have h3 := h1.on (bal (Below.refl _ _) (.cells #[.pointer (some ⟨p, 0, none⟩), .int .i64 0, .int .i64 0, .int .i64 f, .int .i64 0, .int .i64 0, .int .i64 0, .int .i64 0, .bool false, .int .i64 0, .int .i64 0, .int .i64 0, .int .i64 0, .int .i64 0, .int .i64 0, .int .i64 0] 84))
  have hz : ((w.alloc (.cells #[.pointer (some ⟨p, 0, none⟩), .int .i64 0, .int .i64 floor, .int .i64 root, .int .i64 high, .int .i64 0, .int .i64 0, .int .i64 0, .bool false, .int .i64 0, .int .i64 0, .int .i64 0, .int .i64 0, .int .i64 0, .int .i64 0, .int .i64 0] 84)).alloc (.cells #[.pointer (some ⟨p, 0, none⟩), .int .i64 0, .int .i64 0, .int .i64 f, .int .i64 0, .int .i64 0, .int .i64 0, .int .i64 0, .bool false, .int .i64 0, .int .i64 0, .int .i64 0, .int .i64 0, .int .i64 0, .int .i64 0, .int .i64 0] 84)).heap.size = w.heap.size + 2 := by simp
  have := follow_gen (Two w p b N M w.heap.size (w.heap.size + 1)) ((w.alloc (.cells #[.pointer (some ⟨p, 0, none⟩), .int .i64 0, .int .i64 floor, .int .i64 root, .int .i64 high, .int .i64 0, .int .i64 0, .int .i64 0, .bool false, .int .i64 0, .int .i64 0, .int .i64 0, .int .i64 0, .int .i64 0, .int .i64 0, .int .i64 0] 84)).alloc (.cells #[.pointer (some ⟨p, 0, none⟩), .int .i64 0, .int .i64 0, .int .i64 f, .int .i64 0, .int .i64 0, .int .i64 0, .int .i64 0, .bool false, .int .i64 0, .int .i64 0, .int .i64 0, .int .i64 0, .int .i64 0, .int .i64 0, .int .i64 0] 84)) (wk 0 floor root high, wk 0 0 f 0)
    [(51, .pointer (some ⟨w.heap.size, 0, none⟩), onL (stIn N M 0)), (52, .pointer (some ⟨w.heap.size + 1, 0, none⟩), onR (stIn N M 1)), (47, .pointer (some ⟨w.heap.size, 0, none⟩), onL stThaw), (47, .pointer (some ⟨w.heap.size + 1, 0, none⟩), onR stThaw), (53, .pointer (some ⟨w.heap.size, 0, none⟩), onL (stRead N M)), (54, .pointer (some ⟨w.heap.size, 0, none⟩), onL stFree)] 6 ty _ rfl (by decide) rfl
    (fun o => ⟨h3.on (bal (Below.refl _ _) o), h2.on (bal (Below.refl _ _) o), by omega⟩)
    ⟨good_l (by omega) (fun _ _ => by kernel_rfl) fun _ _ hw => inRoot_any hw, good_r (by omega) (fun _ _ => by kernel_rfl) fun _ _ hw => inLeaf_any hw, good_l (by omega) (fun _ _ => by kernel_rfl) fun _ _ hw => thawed_any hw, good_r (by omega) (fun _ _ => by kernel_rfl) fun _ _ hw => thawed_any hw, good_l (by omega) (fun _ _ => by kernel_rfl) fun _ _ hw => read_any hw, good_l (by omega) (fun _ _ => by kernel_rfl) fun _ _ hw => free_any hw, trivial⟩
  rw [hz] at this
  refine this.mono ?_
  rintro x w' ⟨rfl, h4⟩
  exact ⟨by rw [← he]; rfl, h4.1⟩
set_option maxRecDepth 100000 in
set_option maxHeartbeats 1000000 in
theorem cons_any (p b N : Nat) (root high f floor : Int) (M : Nat → Nat → Int) (w : World) (h : Mx w p b N M) : Calls Tryz.prog 20 #[.pointer (some ⟨p, 0, none⟩), .int .i64 root, .int .i64 high, .int .i64 f, .int .i64 floor] w fun x w' => x = .returned (.int .i64 (coE N M root high f floor)) ∧ Mx w' p b N (coM N M root high f floor) ∧ But b w w' := by
  have HM : Hid (Mx w p b N M) := h
  have hmf : ∀ (fn : Fn) (first cap : Array Value) (w : World), (Instr.makeFunc fn first cap).run Tryz.prog w = .ok (.func fn first cap) w := fun _ _ _ _ => rfl
  cases hs : okS high
  case false =>
    have e1 : coE N M root high f floor = 1 := by simp [coE, hs]
    have e2 : coM N M root high f floor = M := by simp [coM, e1]
    rw [e1, e2]
    clear h e1 e2
    go_enter Tryz.func20, Tryz.ntmps20
    go_wp2_with (first
      | (go_at_call 50; refine (isSlot_any high _).mono ?_; rintro e1 w1 ⟨rfl, hw⟩; subst w1; rw [hs])
      | fail)
    go_ret
    exact ⟨rfl, HM.out, But.refl _ _⟩
  obtain ⟨u, hL, hok⟩ := cons_laid h root high f floor hs
  have e2 : coM N M root high f floor = if coE N M root high f floor = 0 then pM N M root high 3 31 f 0 0 0 else M := rfl
  have e3 : coE N M root high f floor = 0 → pE N root high 3 31 f 0 0 0 = 0 := fun hh => co_put h.mt.n64 hh
  rw [e2]
  clear e2 h
  by_cases hE : coE N M root high f floor = 0
  case neg =>
    rw [if_neg hE]
    have HL := hide hL
    clear hL hok e3
    generalize coE N M root high f floor = E at HL hE ⊢
    have hE' : (E != 0) = true := by simp [hE]
    go_enter Tryz.func20, Tryz.ntmps20
    go_wp2_with (first
      | (go_at_call 50; refine (isSlot_any high _).mono ?_; rintro e1 w1 ⟨rfl, hw⟩; subst w1; rw [hs])
      | (go_at_call 45; refine (HL.out _).mono ?_; rintro e2 w2 ⟨rfl, hb⟩; have H2 : Hid (Wi w w2 p b N M w.heap.size u.1) := hb; clear hb HL)
      | fail)
    go_ret
    exact ⟨rfl, H2.out.mx, But.of_below b H2.out.below⟩
  rw [if_pos hE]
  rw [hE] at hL ⊢
  have HL := hide hL
  have HU := hide (hok hE)
  have HP := hide (e3 hE)
  clear hL hok e3 hE
  go_enter Tryz.func20, Tryz.ntmps20
  go_wp2_with (first
    | (go_at_call 50; refine (isSlot_any high _).mono ?_; rintro e1 w1 ⟨rfl, hw⟩; subst w1; rw [hs])
    | (go_at_call 45; refine (HL.out _).mono ?_; rintro e2 w2 ⟨rfl, hb⟩; have H2 : Hid (Wi w w2 p b N M w.heap.size u.1) := hb; clear hb HL)
    | (go_at_call 38; refine (wput_any 3 31 f 0 0 0 H2.out).mono ?_; rintro e5 w5 ⟨rfl, hm, hb⟩; rw [HU.out.1, HU.out.2] at hm ⊢; rw [HP.out]; have H5 : Hid (Mx w5 p b N (pM N M root high 3 31 f 0 0 0) ∧ But b w2 w5) := ⟨hm, hb⟩; clear hm hb)
    | fail)
  go_ret
  exact ⟨rfl, H5.out.1, (But.of_below b H2.out.below).trans H5.out.2⟩
end Go.Proofs.YtgcaodfcodalfaaGreatDoor.Pcaptbl
