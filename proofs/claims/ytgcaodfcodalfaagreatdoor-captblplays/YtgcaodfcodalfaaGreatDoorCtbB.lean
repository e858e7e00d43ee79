/- What each step of a walk answers and does. -/
import Derived.Test.YtgcaodfcodalfaaGreatDoorCtbA
namespace Go.Proofs.YtgcaodfcodalfaaGreatDoor.Pcaptbl
open Go.Proofs.YtgcaodfcodalfaaGreatDoor.Pbase Go.Proofs.YtgcaodfcodalfaaGreatDoor.Pmem Go.Proofs.YtgcaodfcodalfaaGreatDoor.Pradix Go.Proofs.YtgcaodfcodalfaaGreatDoor.Pslot
open Go.RowKit
set_option linter.unusedVariables false

/-! ### the steps in plain words -/
def stCut (v : Wk) : Wk × Int := ({ v with at_ := slH v.a, lo := slL v.a }, slE v.a)
def stIn (N : Nat) (M : Nat → Nat → Int) (l : Int) (v : Wk) : Wk × Int :=
  if tbB N M v.fr l = true then ({ v with hk := Phead.ghK N M v.fr, hl := Phead.ghL N M v.fr, hz := Phead.ghZ N M v.fr, ht := Phead.ghT N M v.fr }, 0) else (v, 4)
def stSee (N : Nat) (M : Nat → Nat → Int) (v : Wk) : Wk := { v with k := sC N M v.fr v.at_ 0, r := sC N M v.fr v.at_ 1, t := sC N M v.fr v.at_ 2, l := sC N M v.fr v.at_ 3, e := sC N M v.fr v.at_ 4, x := sC N M v.fr v.at_ 5 }
def stRead (N : Nat) (M : Nat → Nat → Int) (v : Wk) : Wk × Int := (stSee N M v, sE N M v.fr v.at_)
def stLeaf (v : Wk) : Wk × Int := (v, if v.k = 3 then 0 else 3)
def stDesc (N : Nat) (M : Nat → Nat → Int) (v : Wk) : Wk × Int :=
  if sE N M v.fr v.at_ = 0 ∧ sC N M v.fr v.at_ 0 = 3 then ({ stSee N M v with fr := sC N M v.fr v.at_ 2, at_ := v.lo }, 0) else (stSee N M v, 3)
def stThaw (v : Wk) : Wk × Int := (v, if v.hz = true then 6 else 0)
def stTaken (v : Wk) : Wk × Int := (v, if 1 < v.k then 0 else 3)
def stFree (v : Wk) : Wk × Int := (v, if v.k = 1 then (if v.fl ≤ v.x then 6 else 0) else if v.k = 0 then 0 else 10)

section
variable {w0 w : World} {p b N : Nat} {M : Nat → Nat → Int} {B : Nat} {v : Wk}
theorem cut_any (h : Wi w0 w p b N M B v) : Calls Tryz.prog 69 #[.pointer (some ⟨B, 0, none⟩)] w fun x w' => x = .returned (.int .i64 (stCut v).2) ∧ Wi w0 w' p b N M B (stCut v).1 ∧ But B w w' := by
  have HI : Hid (Wi w0 w p b N M B v) := h
  have c1 := h.c1
  have z4 := h.fz 4
  have z5 := h.fz 5
  clear h
  go_enter Tryz.func69, Tryz.ntmps69
  go_wp2_with (first
    | (go_at_call 92; refine (slot_ws v.a _ HI.out.ba HI.out.mx.ts).mono ?_; rintro e1 w1 ⟨rfl, hb⟩; have H1 : Hid (Wi w0 w1 p b N M B v) := HI.out.on hb; have HB : Hid (But B w w1) := But.of_below B hb; clear hb c1 z4 z5; have z4 := H1.out.fz 4; have z5 := H1.out.fz 5; have c4 := H1.out.c4; have c5 := H1.out.c5)
    | fail)
  go_ret
  exact ⟨rfl, (H1.out.set { v with at_ := slH v.a } 4 _ rfl rfl).set _ 5 _ rfl rfl, but_own (but_own HB.out _ _) _ _⟩
theorem thawed_any (h : Wi w0 w p b N M B v) : Calls Tryz.prog 47 #[.pointer (some ⟨B, 0, none⟩)] w fun x w' => x = .returned (.int .i64 (stThaw v).2) ∧ Wi w0 w' p b N M B (stThaw v).1 ∧ But B w w' := by
  have HI : Hid (Wi w0 w p b N M B v) := h
  have c8 := h.c8
  clear h
  unfold stThaw
  cases hz : v.hz
  · rw [hz] at c8
    go_enter Tryz.func47, Tryz.ntmps47
    go_wp2
    go_ret
    exact ⟨rfl, HI.out, But.refl _ _⟩
  · rw [hz] at c8
    go_enter Tryz.func47, Tryz.ntmps47
    go_wp2
    go_ret
    exact ⟨rfl, HI.out, But.refl _ _⟩
theorem hasLeaf_any (h : Wi w0 w p b N M B v) : Calls Tryz.prog 56 #[.pointer (some ⟨B, 0, none⟩)] w fun x w' => x = .returned (.int .i64 (stLeaf v).2) ∧ Wi w0 w' p b N M B (stLeaf v).1 ∧ w' = w := by
  have HI : Hid (Wi w0 w p b N M B v) := h
  have c10 := h.c10
  clear h
  unfold stLeaf
  by_cases hk : v.k = 3
  · rw [if_pos hk]
    rw [hk] at c10
    go_enter Tryz.func56, Tryz.ntmps56
    go_wp2
    go_ret
    exact ⟨rfl, HI.out, rfl⟩
  · rw [if_neg hk]
    have hk' : (v.k != 3) = true := by simp [hk]
    go_enter Tryz.func56, Tryz.ntmps56
    go_wp2
    go_ret
    exact ⟨rfl, HI.out, rfl⟩
theorem above_any (k r t l e a : Int) (w : World) : Calls Tryz.prog 36 #[.agg #[.int .i64 k, .int .i64 r, .int .i64 t, .int .i64 l, .int .i64 e, .int .i64 a]] w fun x w' => x = .returned (.bool (decide (1 < k))) ∧ Below w.heap.size w w' := by
  by_cases hk : 1 < k
  · simp only [hk, decide_true]
    go_enter Tryz.func36, Tryz.ntmps36
    go_wp2
    go_ret
    exact ⟨rfl, bal (Below.refl _ _) _⟩
  · simp only [hk, decide_false]
    go_enter Tryz.func36, Tryz.ntmps36
    go_wp2
    go_ret
    exact ⟨rfl, bal (Below.refl _ _) _⟩
theorem taken_any (h : Wi w0 w p b N M B v) : Calls Tryz.prog 77 #[.pointer (some ⟨B, 0, none⟩)] w fun x w' => x = .returned (.int .i64 (stTaken v).2) ∧ Wi w0 w' p b N M B (stTaken v).1 ∧ But B w w' := by
  have HI : Hid (Wi w0 w p b N M B v) := h
  have c10 := h.c10
  have c11 := h.c11
  have c12 := h.c12
  have c13 := h.c13
  have c14 := h.c14
  have c15 := h.c15
  clear h
  unfold stTaken
  by_cases hk : 1 < v.k
  · rw [if_pos hk]
    have hd : decide (1 < v.k) = true := decide_eq_true hk
    clear hk
    go_enter Tryz.func77, Tryz.ntmps77
    go_wp2_with (first
      | (go_at_call 36; refine (above_any _ _ _ _ _ _ _).mono ?_; rintro e1 w1 ⟨rfl, hb⟩; rw [hd]; have H1 : Hid (Wi w0 w1 p b N M B v) := HI.out.on hb; have HB : Hid (But B w w1) := But.of_below B hb; clear hb c10 c11 c12 c13 c14 c15)
      | fail)
    go_ret
    exact ⟨rfl, H1.out, HB.out⟩
  · rw [if_neg hk]
    have hd : decide (1 < v.k) = false := decide_eq_false hk
    clear hk
    go_enter Tryz.func77, Tryz.ntmps77
    go_wp2_with (first
      | (go_at_call 36; refine (above_any _ _ _ _ _ _ _).mono ?_; rintro e1 w1 ⟨rfl, hb⟩; rw [hd]; have H1 : Hid (Wi w0 w1 p b N M B v) := HI.out.on hb; have HB : Hid (But B w w1) := But.of_below B hb; clear hb c10 c11 c12 c13 c14 c15)
      | fail)
    go_ret
    exact ⟨rfl, H1.out, HB.out⟩
theorem free_any (h : Wi w0 w p b N M B v) : Calls Tryz.prog 54 #[.pointer (some ⟨B, 0, none⟩)] w fun x w' => x = .returned (.int .i64 (stFree v).2) ∧ Wi w0 w' p b N M B (stFree v).1 ∧ But B w w' := by
  have HI : Hid (Wi w0 w p b N M B v) := h
  have c10 := h.c10
  have c15 := h.c15
  have c2 := h.c2
  clear h
  unfold stFree
  by_cases h1 : v.k = 1
  · rw [if_pos h1]
    rw [h1] at c10
    clear h1
    by_cases h2 : v.fl ≤ v.x
    · rw [if_pos h2]
      go_enter Tryz.func54, Tryz.ntmps54
      go_upto_region 4 with fail
      go_quiet (fail)
      go_wp2
      go_ret
      exact ⟨rfl, HI.out.on (below_drew' _ _ _), But.of_below _ (below_drew' _ _ _)⟩
    · rw [if_neg h2]
      go_enter Tryz.func54, Tryz.ntmps54
      go_upto_region 4 with fail
      go_quiet (fail)
      go_wp2
      go_ret
      exact ⟨rfl, HI.out.on (below_drew' _ _ _), But.of_below _ (below_drew' _ _ _)⟩
  · rw [if_neg h1]
    have h1' : (v.k == 1) = false := by simp [h1]
    by_cases h0 : v.k = 0
    · rw [if_pos h0]
      rw [h0] at c10
      clear h1 h1' h0
      go_enter Tryz.func54, Tryz.ntmps54
      go_wp2
      go_ret
      exact ⟨rfl, HI.out, But.refl _ _⟩
    · rw [if_neg h0]
      have h0' : (v.k == 0) = false := by simp [h0]
      go_enter Tryz.func54, Tryz.ntmps54
      go_wp2
      go_ret
      exact ⟨rfl, HI.out, But.refl _ _⟩
end
end Go.Proofs.YtgcaodfcodalfaaGreatDoor.Pcaptbl
