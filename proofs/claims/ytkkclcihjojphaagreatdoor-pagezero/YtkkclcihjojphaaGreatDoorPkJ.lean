import Derived.Test.YtkkclcihjojphaaGreatDoorPkF
import Derived.Laws.EntriesVeiled
set_option linter.unusedVariables false
set_option linter.unusedSimpArgs false
set_option maxRecDepth 100000
set_option maxHeartbeats 20000000
namespace Go.Proofs.YtkkclcihjojphaaGreatDoor
namespace Pthd
open Pbase Play Pmem Go.RowKit
structure Th where
 st : Int
 co : Int
 tc : Int
 rc : Int
 de : Int
def Th.ws (x : Th) : List Int := [x.st, x.co, x.tc, x.rc, x.de]
def th0 : Th := ⟨0, 0, 0, 0, 0⟩
def To (x : Th) : Prop := (0 <= x.st /\ x.st <= 3) /\ (0 <= x.co /\ x.co <= 3) /\ (0 <= x.tc /\ x.tc <= 63) /\ (0 <= x.rc /\ x.rc <= 64) /\ (0 <= x.de /\ x.de <= 6)
def toB (x : Th) : Bool := (decide (0 <= x.st) && decide (x.st <= 3)) && (decide (0 <= x.co) && decide (x.co <= 3)) && (decide (0 <= x.tc) && decide (x.tc <= 63)) && (decide (0 <= x.rc) && decide (x.rc <= 64)) && (decide (0 <= x.de) && decide (x.de <= 6))
theorem toB_iff (x : Th) : toB x = true ↔ To x := by
 unfold toB To
 simp
 omega
theorem toB_yes {x : Th} (h : To x) : toB x = true := (toB_iff x).2 h
theorem toB_no {x : Th} (h : ¬ To x) : toB x = false := Bool.eq_false_iff.2 fun e => h ((toB_iff x).1 e)
theorem To.fit {x : Th} (h : To x) : ∀ v ∈ x.ws, 0 <= v /\ v <= 18446744073709551615 := by
 unfold To at h
 intro v hv
 simp only [Th.ws, List.mem_cons, List.not_mem_nil, or_false] at hv
 rcases hv with rfl | rfl | rfl | rfl | rfl <;> omega
theorem ws_fit {x : Th} (h : To x) : ∀ v ∈ x.ws, 0 <= v /\ v <= 9223372036854775807 := by
 unfold To at h
 intro v hv
 simp only [Th.ws, List.mem_cons, List.not_mem_nil, or_false] at hv
 rcases hv with rfl | rfl | rfl | rfl | rfl <;> omega
theorem ws_len (x : Th) : x.ws.length = 5 := rfl
def Fi (x : Th) : Prop := In64 x.st /\ In64 x.co /\ In64 x.tc /\ In64 x.rc /\ In64 x.de
theorem To.fi {x : Th} (h : To x) : Fi x := by
 unfold To at h
 unfold Fi In64
 omega
def Th.w (x : Th) : Th := ⟨asW x.st, asW x.co, asW x.tc, asW x.rc, asW x.de⟩
theorem w_to {x : Th} (h : To x) : x.w = x := by
 unfold To at h
 unfold Th.w asW
 rw [if_pos (by omega), if_pos (by omega), if_pos (by omega), if_pos (by omega), if_pos (by omega)]
theorem to_w {x : Th} (h : Fi x) : To x.w ↔ To x := by
 constructor
 · intro h'
   obtain ⟨f0, f1, f2, f3, f4⟩ := h
   obtain ⟨g0, g1, g2, g3, g4⟩ := h'
   have e0 := asW_low f0 (by omega) g0.2
   have e1 := asW_low f1 (by omega) g1.2
   have e2 := asW_low f2 (by omega) g2.2
   have e3 := asW_low f3 (by omega) g3.2
   have e4 := asW_low f4 (by omega) g4.2
   unfold Th.w at g0 g1 g2 g3 g4
   dsimp only at g0 g1 g2 g3 g4
   rw [e0.1] at g0
   rw [e1.1] at g1
   rw [e2.1] at g2
   rw [e3.1] at g3
   rw [e4.1] at g4
   exact ⟨g0, g1, g2, g3, g4⟩
 · intro h'
   rw [w_to h']
   exact h'
theorem toB_w {x : Th} (h : Fi x) : toB x.w = toB x := by
 by_cases hc : To x
 · rw [toB_yes hc, toB_yes ((to_w h).2 hc)]
 · rw [toB_no hc, toB_no (fun e => hc ((to_w h).1 e))]
def ckE (x : Th) : Int := if toB x = true then 0 else 1
def thOf (M : Nat -> Nat -> Int) (f : Int) : Th := ⟨M f.toNat 4, M f.toNat 5, M f.toNat 6, M f.toNat 7, M f.toNat 8⟩
def gtE (N : Nat) (M : Nat -> Nat -> Int) (f : Int) : Int := if Phead.isE N M f 4 = 0 then if toB (thOf M f) = true then 0 else 12 else 4
def gtT (N : Nat) (M : Nat -> Nat -> Int) (f : Int) : Th := if gtE N M f = 0 then thOf M f else th0
def mkE (N : Nat) (f : Int) (x : Th) : Int := if toB x = true then errF N f else 1
def mkM (N : Nat) (M : Nat -> Nat -> Int) (f : Int) (x : Th) : Nat -> Nat -> Int := if toB x = true then layF N (Phead.mkM N M f 4 0 false 0) f x.ws else M
def puE (N : Nat) (M : Nat -> Nat -> Int) (f : Int) (x : Th) : Int := if toB x = true then if Phead.isE N M f 4 = 0 then 0 else 4 else 1
def puM (N : Nat) (M : Nat -> Nat -> Int) (f : Int) (x : Th) : Nat -> Nat -> Int := if puE N M f x = 0 then layF N M f x.ws else M
theorem isE_ok {N : Nat} {M : Nat -> Nat -> Int} {f : Int} {q : Int} (h : Phead.isE N M f q = 0) : okF N f = true := by
 cases hf : okF N f
 · exact absurd h (is_bad hf q)
 · rfl
def toX (x : Th) : Th := if toB x = true then x else th0
theorem toX_no {x : Th} (h : toB x = false) : toX x = th0 := by unfold toX; rw [h]; rfl
theorem toX_yes {x : Th} (h : toB x = true) : toX x = x := by unfold toX; rw [if_pos h]
theorem gt_yes {N : Nat} {M : Nat -> Nat -> Int} {f : Int} (h : gtE N M f = 0) : Phead.isE N M f 4 = 0 /\ To (thOf M f) /\ gtT N M f = thOf M f := by
 unfold gtT
 rw [if_pos h]
 unfold gtE at h
 split at h
 · rename_i h1
   split at h
   · rename_i h2
     exact ⟨h1, (toB_iff _).1 h2, rfl⟩
   · exact absurd h (by decide)
 · exact absurd h (by decide)
end Pthd
namespace Pthd
open Pbase Pfield Play Pmem Go.RowKit M
structure RowT (w : World) (B : Nat) (x : Th) : Prop where
 row : w.heap[B]? = some (.cells #[.int .i64 x.st, .int .i64 x.co, .int .i64 x.tc, .int .i64 x.rc, .int .i64 x.de] 178 (0, 0))
section
variable {w w' : World} {B : Nat} {x : Th}
theorem RowT.lt (h : RowT w B x) : B < w.heap.size := (Array.getElem?_eq_some_iff.1 h.row).1
theorem RowT.c0 (h : RowT w B x) : w.cell? ⟨B, 0, none⟩ = some (.int .i64 x.st) := (cell_of_row _ _ _ _ _ _ h.row).trans rfl
theorem RowT.c1 (h : RowT w B x) : w.cell? ⟨B, 1, none⟩ = some (.int .i64 x.co) := (cell_of_row _ _ _ _ _ _ h.row).trans rfl
theorem RowT.c2 (h : RowT w B x) : w.cell? ⟨B, 2, none⟩ = some (.int .i64 x.tc) := (cell_of_row _ _ _ _ _ _ h.row).trans rfl
theorem RowT.c3 (h : RowT w B x) : w.cell? ⟨B, 3, none⟩ = some (.int .i64 x.rc) := (cell_of_row _ _ _ _ _ _ h.row).trans rfl
theorem RowT.c4 (h : RowT w B x) : w.cell? ⟨B, 4, none⟩ = some (.int .i64 x.de) := (cell_of_row _ _ _ _ _ _ h.row).trans rfl
theorem RowT.fz (h : RowT w B x) (j : Nat) : w.frozen? ⟨B, j, none⟩ = false := frozen_of_row _ _ _ _ _ h.row
theorem RowT.on (h : RowT w B x) (hB : Below w.heap.size w w') : RowT w' B x := ⟨(hB.block B h.lt).trans h.row⟩
theorem RowT.but {b : Nat} (h : RowT w B x) (hB : But b w w') (hn : B ≠ b) : RowT w' B x := ⟨(hB.block B h.lt hn).trans h.row⟩
theorem rowT_new (w : World) (x : Th) : RowT (w.alloc (.cells #[.int .i64 x.st, .int .i64 x.co, .int .i64 x.tc, .int .i64 x.rc, .int .i64 x.de] 178)) w.heap.size x := ⟨heap_alloc_new w _⟩
end
theorem toB_in (c : Th) : toB c = (inB c.st 0 3 && inB c.co 0 3 && inB c.tc 0 63 && inB c.rc 0 64 && inB c.de 0 6) := rfl
theorem right_any (c : Th) (w : World) : Calls Tryz.prog 209 #[.agg #[.int .i64 c.st, .int .i64 c.co, .int .i64 c.tc, .int .i64 c.rc, .int .i64 c.de]] w fun e w' => e = .returned (.bool (toB c)) /\ Below w.heap.size w w' := by
 have I0 : Hid (∀ wc, Calls Tryz.prog 240 #[.int .i64 c.st, .int .i64 0, .int .i64 3] wc fun e w' => e = .returned (.bool (inB c.st 0 3)) /\ w' = wc) := fun wc => in_any c.st 0 3 wc
 have I1 : Hid (∀ wc, Calls Tryz.prog 240 #[.int .i64 c.co, .int .i64 0, .int .i64 3] wc fun e w' => e = .returned (.bool (inB c.co 0 3)) /\ w' = wc) := fun wc => in_any c.co 0 3 wc
 have I2 : Hid (∀ wc, Calls Tryz.prog 240 #[.int .i64 c.tc, .int .i64 0, .int .i64 63] wc fun e w' => e = .returned (.bool (inB c.tc 0 63)) /\ w' = wc) := fun wc => in_any c.tc 0 63 wc
 have I3 : Hid (∀ wc, Calls Tryz.prog 240 #[.int .i64 c.rc, .int .i64 0, .int .i64 64] wc fun e w' => e = .returned (.bool (inB c.rc 0 64)) /\ w' = wc) := fun wc => in_any c.rc 0 64 wc
 have I4 : Hid (∀ wc, Calls Tryz.prog 240 #[.int .i64 c.de, .int .i64 0, .int .i64 6] wc fun e w' => e = .returned (.bool (inB c.de 0 6)) /\ w' = wc) := fun wc => in_any c.de 0 6 wc
 rw [toB_in]
 generalize inB c.st 0 3 = R0 at I0 ⊢
 generalize inB c.co 0 3 = R1 at I1 ⊢
 generalize inB c.tc 0 63 = R2 at I2 ⊢
 generalize inB c.rc 0 64 = R3 at I3 ⊢
 generalize inB c.de 0 6 = R4 at I4 ⊢
 cases R0
 · simp only [Bool.false_and]
   go_enter Tryz.func209, Tryz.ntmps209
   go_wp2_with (first
    | (go_at_call 240; refine (I0.out _).mono ?_; rintro e0 w0 ⟨rfl, hw⟩; subst hw; clear I0)
    | (go_at_call 240; refine (I1.out _).mono ?_; rintro e1 w1 ⟨rfl, hw⟩; subst hw; clear I1)
    | (go_at_call 240; refine (I2.out _).mono ?_; rintro e2 w2 ⟨rfl, hw⟩; subst hw; clear I2)
    | (go_at_call 240; refine (I3.out _).mono ?_; rintro e3 w3 ⟨rfl, hw⟩; subst hw; clear I3)
    | (go_at_call 240; refine (I4.out _).mono ?_; rintro e4 w4 ⟨rfl, hw⟩; subst hw; clear I4)
    | fail)
   go_ret
   exact ⟨rfl, bal (Below.refl _ _) _⟩
 cases R1
 · simp only [Bool.and_false, Bool.false_and]
   go_enter Tryz.func209, Tryz.ntmps209
   go_wp2_with (first
    | (go_at_call 240; refine (I0.out _).mono ?_; rintro e0 w0 ⟨rfl, hw⟩; subst hw; clear I0)
    | (go_at_call 240; refine (I1.out _).mono ?_; rintro e1 w1 ⟨rfl, hw⟩; subst hw; clear I1)
    | (go_at_call 240; refine (I2.out _).mono ?_; rintro e2 w2 ⟨rfl, hw⟩; subst hw; clear I2)
    | (go_at_call 240; refine (I3.out _).mono ?_; rintro e3 w3 ⟨rfl, hw⟩; subst hw; clear I3)
    | (go_at_call 240; refine (I4.out _).mono ?_; rintro e4 w4 ⟨rfl, hw⟩; subst hw; clear I4)
    | fail)
   go_ret
   exact ⟨rfl, bal (Below.refl _ _) _⟩
 cases R2
 · simp only [Bool.and_false, Bool.false_and, Bool.true_and]
   go_enter Tryz.func209, Tryz.ntmps209
   go_wp2_with (first
    | (go_at_call 240; refine (I0.out _).mono ?_; rintro e0 w0 ⟨rfl, hw⟩; subst hw; clear I0)
    | (go_at_call 240; refine (I1.out _).mono ?_; rintro e1 w1 ⟨rfl, hw⟩; subst hw; clear I1)
    | (go_at_call 240; refine (I2.out _).mono ?_; rintro e2 w2 ⟨rfl, hw⟩; subst hw; clear I2)
    | (go_at_call 240; refine (I3.out _).mono ?_; rintro e3 w3 ⟨rfl, hw⟩; subst hw; clear I3)
    | (go_at_call 240; refine (I4.out _).mono ?_; rintro e4 w4 ⟨rfl, hw⟩; subst hw; clear I4)
    | fail)
   go_ret
   exact ⟨rfl, bal (Below.refl _ _) _⟩
 cases R3
 · simp only [Bool.and_false, Bool.false_and, Bool.true_and]
   go_enter Tryz.func209, Tryz.ntmps209
   go_wp2_with (first
    | (go_at_call 240; refine (I0.out _).mono ?_; rintro e0 w0 ⟨rfl, hw⟩; subst hw; clear I0)
    | (go_at_call 240; refine (I1.out _).mono ?_; rintro e1 w1 ⟨rfl, hw⟩; subst hw; clear I1)
    | (go_at_call 240; refine (I2.out _).mono ?_; rintro e2 w2 ⟨rfl, hw⟩; subst hw; clear I2)
    | (go_at_call 240; refine (I3.out _).mono ?_; rintro e3 w3 ⟨rfl, hw⟩; subst hw; clear I3)
    | (go_at_call 240; refine (I4.out _).mono ?_; rintro e4 w4 ⟨rfl, hw⟩; subst hw; clear I4)
    | fail)
   go_ret
   exact ⟨rfl, bal (Below.refl _ _) _⟩
 cases R4
 · simp only [Bool.and_false]
   go_enter Tryz.func209, Tryz.ntmps209
   go_wp2_with (first
    | (go_at_call 240; refine (I0.out _).mono ?_; rintro e0 w0 ⟨rfl, hw⟩; subst hw; clear I0)
    | (go_at_call 240; refine (I1.out _).mono ?_; rintro e1 w1 ⟨rfl, hw⟩; subst hw; clear I1)
    | (go_at_call 240; refine (I2.out _).mono ?_; rintro e2 w2 ⟨rfl, hw⟩; subst hw; clear I2)
    | (go_at_call 240; refine (I3.out _).mono ?_; rintro e3 w3 ⟨rfl, hw⟩; subst hw; clear I3)
    | (go_at_call 240; refine (I4.out _).mono ?_; rintro e4 w4 ⟨rfl, hw⟩; subst hw; clear I4)
    | fail)
   go_ret
   exact ⟨rfl, bal (Below.refl _ _) _⟩
 simp only [Bool.and_self]
 go_enter Tryz.func209, Tryz.ntmps209
 go_wp2_with (first
  | (go_at_call 240; refine (I0.out _).mono ?_; rintro e0 w0 ⟨rfl, hw⟩; subst hw; clear I0)
  | (go_at_call 240; refine (I1.out _).mono ?_; rintro e1 w1 ⟨rfl, hw⟩; subst hw; clear I1)
  | (go_at_call 240; refine (I2.out _).mono ?_; rintro e2 w2 ⟨rfl, hw⟩; subst hw; clear I2)
  | (go_at_call 240; refine (I3.out _).mono ?_; rintro e3 w3 ⟨rfl, hw⟩; subst hw; clear I3)
  | (go_at_call 240; refine (I4.out _).mono ?_; rintro e4 w4 ⟨rfl, hw⟩; subst hw; clear I4)
  | fail)
 go_ret
 exact ⟨rfl, bal (Below.refl _ _) _⟩
theorem rwords_any (c : Th) (w : World) : Calls Tryz.prog 210 #[.agg #[.int .i64 c.st, .int .i64 c.co, .int .i64 c.tc, .int .i64 c.rc, .int .i64 c.de]] w fun e w' => e = .returned (.slice (some ⟨w.heap.size + 1, 0, none⟩) 5 5) /\ Nums w' (w.heap.size + 1) c.ws /\ Below w.heap.size w w' := by
 go_enter Tryz.func210, Tryz.ntmps210
 go_wp2
 go_ret
 have e := heap_alloc_new (w.alloc (.cells #[.int .i64 c.st, .int .i64 c.co, .int .i64 c.tc, .int .i64 c.rc, .int .i64 c.de] 178)) (.cells #[.int .i64 c.st, .int .i64 c.co, .int .i64 c.tc, .int .i64 c.rc, .int .i64 c.de] 3)
 rw [World.size_alloc] at e
 refine ⟨rfl, ⟨_, e, fun j hj => ?_⟩, bal (bal (Below.refl _ _) _) _⟩
 rw [ws_len] at hj
 rcases (show j = 0 \/ j = 1 \/ j = 2 \/ j = 3 \/ j = 4 by omega) with rfl | rfl | rfl | rfl | rfl <;> rfl
structure Rb (w W : World) (base q N : Nat) (M : Nat -> Nat -> Int) (c : Th) : Prop where
 rx : Rx W base q N M
 box : RowT W w.heap.size c
 below : Below base w W
 kp : KeepX q w W
theorem rb_new {w : World} {base q N : Nat} {M : Nat -> Nat -> Int} (h : Rx w base q N M) (c : Th) : Rb w (w.alloc (.cells #[.int .i64 c.st, .int .i64 c.co, .int .i64 c.tc, .int .i64 c.rc, .int .i64 c.de] 178)) base q N M c :=
 ⟨h.grown (bal (Below.refl _ _) _), rowT_new w c, (bal (Below.refl _ _) _).mono h.le, KeepX.below (bal (Below.refl _ _) _)⟩
theorem Rb.on {w W W' : World} {base q N : Nat} {M : Nat -> Nat -> Int} {c : Th} (h : Rb w W base q N M c) (hB : Below W.heap.size W W') : Rb w W' base q N M c :=
 ⟨h.rx.grown hB, h.box.on hB, h.below.trans (hB.mono h.rx.le), h.kp.trans (KeepX.below hB)⟩
theorem Rb.turn {w W W' : World} {base q N : Nat} {M M' : Nat -> Nat -> Int} {c : Th} (h : Rb w W base q N M c) (hR : RefIs W' base q N M') (hF : Fit M') (hB : Below base W W') (hK : KeepX q W W') : Rb w W' base q N M' c :=
 ⟨h.rx.turn hR hF, ⟨hK.t _ _ _ (by decide) h.box.row⟩, h.below.trans hB, h.kp.trans hK⟩
theorem rmake_any (base q N : Nat) (f : Int) (c : Th) (M : Nat -> Nat -> Int) (w : World) (h : Rx w base q N M) : Calls Tryz.prog 129 #[.pointer (some ⟨q, 0, none⟩), .int .i64 f, .agg #[.int .i64 c.st, .int .i64 c.co, .int .i64 c.tc, .int .i64 c.rc, .int .i64 c.de]] w fun x w' => x = .returned (.int .i64 (mkE N f c)) /\ Rx w' base q N (mkM N M f c) /\ Below base w w' /\ KeepX q w w' := by
 have HR : Hid (∀ w1, Calls Tryz.prog 209 #[.agg #[.int .i64 c.st, .int .i64 c.co, .int .i64 c.tc, .int .i64 c.rc, .int .i64 c.de]] w1 fun e w' => e = .returned (.bool (toB c)) /\ Below w1.heap.size w1 w') := fun w1 => right_any c w1
 have H0 := rhide (rb_new h c)
 have n1 := h.n1
 have n64 := h.n64
 clear h
 by_cases hco : toB c = true
 · have e2 : mkE N f c = errF N f := by unfold mkE; rw [if_pos hco]
   have e3 : mkM N M f c = layF N (Phead.mkM N M f 4 0 false 0) f c.ws := by unfold mkM; rw [if_pos hco]
   rw [hco] at HR
   have HH : Hid (∀ wc, Rb w wc base q N M c -> Calls Tryz.prog 179 #[.pointer (some ⟨q, 0, none⟩), .int .i64 f, .agg #[.int .i64 4, .int .i64 0, .bool false, .int .i64 0]] wc fun e w' => e = .returned (.int .i64 (errF N f)) /\ Rb w w' base q N (Phead.mkM N M f 4 0 false 0) c) := fun wc h => by
    have := Phead.hrmake_k base q N f 4 0 false 0 M wc n1 n64 h.rx.ref
    rw [made_err (by omega)] at this
    refine this.mono ?_
    rintro e w' ⟨rfl, h1, h2, h3⟩
    exact ⟨rfl, h.turn h1 (Phead.fit_mk h.rx.fit N f 4 0 false 0) h2 h3⟩
   rw [e2, e3]
   clear e2 e3
   generalize Phead.mkM N M f 4 0 false 0 = M1 at HH ⊢
   cases hf : okF N f
   · have e4 : errF N f = 1 := by unfold errF; rw [hf]; rfl
     rw [e4] at HH ⊢
     rw [lay_bad hf]
     clear e4 hf hco
     go_enter Tryz.func129, Tryz.ntmps129
     go_wp2_with (first
      | (go_at_call 209; refine (HR.out _).mono ?_; rintro e1 w1 ⟨rfl, hb⟩; have H1 := rhide (H0.out.on hb); clear hb HR H0)
      | (go_at_call 179; refine (HH.out _ H1.out).mono ?_; rintro e2 w2 ⟨rfl, hb⟩; have H2 := rhide hb; clear hb HH H1)
      | fail)
     go_ret
     exact ⟨rfl, H2.out.rx, H2.out.below, H2.out.kp⟩
   · have e4 : errF N f = 0 := by unfold errF; rw [if_pos hf]
     rw [e4] at HH ⊢
     have HC : Hid (To c) := (toB_iff c).1 hco
     clear e4 hf hco
     go_enter Tryz.func129, Tryz.ntmps129
     go_wp2_with (first
      | (go_at_call 209; refine (HR.out _).mono ?_; rintro e1 w1 ⟨rfl, hb⟩; have H1 := rhide (H0.out.on hb); clear hb HR H0)
      | (go_at_call 179; refine (HH.out _ H1.out).mono ?_; rintro e2 w2 ⟨rfl, hb⟩; have H2 := rhide hb; clear hb HH H1; have x0 := H2.out.box.c0; have x1 := H2.out.box.c1; have x2 := H2.out.box.c2; have x3 := H2.out.box.c3; have x4 := H2.out.box.c4)
      | (go_at_call 210; refine (rwords_any c _).mono ?_; rintro e3 w3 ⟨rfl, hl, hb⟩; have H3 := rhide (H2.out.on hb); have HL := rhide hl; clear hl hb H2 x0 x1 x2 x3 x4)
      | (go_at_call 189; refine (rlay_any base q N _ 5 f c.ws M1 _ H3.out.rx HL.out (by rw [ws_len]; omega) (ws_fit HC.out)).mono ?_; rintro e4 w4 ⟨rfl, hx, hb, hk⟩; have H4 := rhide (And.intro hx (And.intro (H3.out.below.trans hb) (H3.out.kp.trans hk))); clear hx hb hk H3 HL)
      | fail)
     go_ret
     exact ⟨rfl, H4.out⟩
 · have e2 : mkE N f c = 1 := by unfold mkE; rw [if_neg hco]
   have e3 : mkM N M f c = M := by unfold mkM; rw [if_neg hco]
   rw [show toB c = false by simpa using hco] at HR
   rw [e2, e3]
   clear e2 e3 hco
   go_enter Tryz.func129, Tryz.ntmps129
   go_wp2_with (first
    | (go_at_call 209; refine (HR.out _).mono ?_; rintro e1 w1 ⟨rfl, hb⟩; have H1 := rhide (H0.out.on hb); clear hb HR H0)
    | fail)
   go_ret
   exact ⟨rfl, H1.out.rx, H1.out.below, H1.out.kp⟩
theorem rput_any (base q N : Nat) (f : Int) (c : Th) (M : Nat -> Nat -> Int) (w : World) (h : Rx w base q N M) : Calls Tryz.prog 214 #[.pointer (some ⟨q, 0, none⟩), .int .i64 f, .agg #[.int .i64 c.st, .int .i64 c.co, .int .i64 c.tc, .int .i64 c.rc, .int .i64 c.de]] w fun x w' => x = .returned (.int .i64 (puE N M f c)) /\ Rx w' base q N (puM N M f c) /\ Below base w w' /\ KeepX q w w' := by
 have HR : Hid (∀ w1, Calls Tryz.prog 209 #[.agg #[.int .i64 c.st, .int .i64 c.co, .int .i64 c.tc, .int .i64 c.rc, .int .i64 c.de]] w1 fun e w' => e = .returned (.bool (toB c)) /\ Below w1.heap.size w1 w') := fun w1 => right_any c w1
 have HIs : Hid (∀ wc, Rx wc base q N M -> Calls Tryz.prog 208 #[.pointer (some ⟨q, 0, none⟩), .int .i64 f, .int .i64 4] wc fun e w' => e = .returned (.int .i64 (Phead.isE N M f 4)) /\ Below wc.heap.size wc w') := fun wc h => Phead.hris_any base q N f 4 M wc h.n1 h.n64 h.ref h.fit
 have H0 := rhide (rb_new h c)
 clear h
 by_cases hco : toB c = true
 · rw [hco] at HR
   by_cases hk : Phead.isE N M f 4 = 0
   · have e2 : puE N M f c = 0 := by unfold puE; rw [if_pos hco, if_pos hk]
     have e3 : puM N M f c = layF N M f c.ws := by unfold puM; rw [if_pos e2]
     rw [e2, e3]
     rw [hk] at HIs
     have HC : Hid (To c) := (toB_iff c).1 hco
     clear e2 e3 hk hco
     go_enter Tryz.func214, Tryz.ntmps214
     go_wp2_with (first
      | (go_at_call 209; refine (HR.out _).mono ?_; rintro e1 w1 ⟨rfl, hb⟩; have H1 := rhide (H0.out.on hb); clear hb HR H0)
      | (go_at_call 208; refine (HIs.out _ H1.out.rx).mono ?_; rintro e2 w2 ⟨rfl, hb⟩; have H2 := rhide (H1.out.on hb); clear hb HIs H1; have x0 := H2.out.box.c0; have x1 := H2.out.box.c1; have x2 := H2.out.box.c2; have x3 := H2.out.box.c3; have x4 := H2.out.box.c4)
      | (go_at_call 210; refine (rwords_any c _).mono ?_; rintro e3 w3 ⟨rfl, hl, hb⟩; have H3 := rhide (H2.out.on hb); have HL := rhide hl; clear hl hb H2 x0 x1 x2 x3 x4)
      | (go_at_call 189; refine (rlay_any base q N _ 5 f c.ws M _ H3.out.rx HL.out (by rw [ws_len]; omega) (ws_fit HC.out)).mono ?_; rintro e4 w4 ⟨rfl, hx, hb, hk⟩; have H4 := rhide (And.intro hx (And.intro (H3.out.below.trans hb) (H3.out.kp.trans hk))); clear hx hb hk H3 HL)
      | fail)
     go_ret
     exact ⟨rfl, H4.out⟩
   · have e2 : puE N M f c = 4 := by unfold puE; rw [if_pos hco, if_neg hk]
     have e3 : puM N M f c = M := by unfold puM; rw [if_neg (by rw [e2]; decide)]
     rw [e2, e3]
     generalize Phead.isE N M f 4 = E at HIs hk
     have hE : (E != 0) = true := by simp [hk]
     clear e2 e3 hk hco
     go_enter Tryz.func214, Tryz.ntmps214
     go_wp2_with (first
      | (go_at_call 209; refine (HR.out _).mono ?_; rintro e1 w1 ⟨rfl, hb⟩; have H1 := rhide (H0.out.on hb); clear hb HR H0)
      | (go_at_call 208; refine (HIs.out _ H1.out.rx).mono ?_; rintro e2 w2 ⟨rfl, hb⟩; have H2 := rhide (H1.out.on hb); clear hb HIs H1)
      | fail)
     go_ret
     exact ⟨rfl, H2.out.rx, H2.out.below, H2.out.kp⟩
 · have e2 : puE N M f c = 1 := by unfold puE; rw [if_neg hco]
   have e3 : puM N M f c = M := by unfold puM; rw [if_neg (by rw [e2]; decide)]
   rw [show toB c = false by simpa using hco] at HR
   rw [e2, e3]
   clear e2 e3 HIs hco
   go_enter Tryz.func214, Tryz.ntmps214
   go_wp2_with (first
    | (go_at_call 209; refine (HR.out _).mono ?_; rintro e1 w1 ⟨rfl, hb⟩; have H1 := rhide (H0.out.on hb); clear hb HR H0)
    | fail)
   go_ret
   exact ⟨rfl, H1.out.rx, H1.out.below, H1.out.kp⟩
end Pthd
namespace Pthd
open Pbase Play Pmem Go.RowKit Go.ChangeShapes Go.WideShapes Go.Deep
section
variable {H : Type} {enc : TypeId × Value -> H} {w : World} {base : Nat} {spare : Nat -> Bool} {held : Bool}
end
end Pthd
namespace Pthd
open Pbase Pfield Play Pmem Go.RowKit
structure RowV (w : World) (B : Nat) (vs : List Value) : Prop where
 row : ∃ t, w.heap[B]? = some (.cells vs.toArray t (0, 0))
section
variable {w w' : World} {B : Nat} {vs : List Value}
theorem RowV.lt (h : RowV w B vs) : B < w.heap.size := by
 obtain ⟨t, h⟩ := h.row
 exact (Array.getElem?_eq_some_iff.1 h).1
theorem RowV.cell (h : RowV w B vs) (j : Nat) : w.cell? ⟨B, j, none⟩ = vs[j]? := by
 obtain ⟨t, h⟩ := h.row
 rw [cell_of_row _ _ _ _ _ _ h]
 simp
theorem RowV.fz (h : RowV w B vs) (j : Nat) : w.frozen? ⟨B, j, none⟩ = false := by
 obtain ⟨t, h⟩ := h.row
 exact frozen_of_row _ _ _ _ _ h
theorem RowV.on (h : RowV w B vs) (hB : Below w.heap.size w w') : RowV w' B vs := by
 have hl := h.lt
 obtain ⟨t, h⟩ := h.row
 exact ⟨t, (hB.block B hl).trans h⟩
theorem RowV.set (h : RowV w B vs) (j : Nat) (v : Value) : RowV (w.setCell ⟨B, j, none⟩ v) B (vs.set j v) := by
 obtain ⟨t, h⟩ := h.row
 refine ⟨t, ?_⟩
 rw [heap_setCell_same _ _ _ _ _ _ h]
 simp
theorem RowV.other (h : RowV w B vs) {q : Nat} (hq : B ≠ q) (j : Nat) (v : Value) : RowV (w.setCell ⟨q, j, none⟩ v) B vs := by
 obtain ⟨t, h⟩ := h.row
 exact ⟨t, (heap_setCell_other _ _ _ _ hq).trans h⟩
theorem keep2 {v : World} {D B q k : Nat} {f y u : Value} (h1 : D ≠ q) (h2 : B ≠ q) (a : v.cell? ⟨D, 0, none⟩ = some f) (b : v.cell? ⟨B, k, none⟩ = some y) : (v.setCell ⟨q, k, none⟩ u).drew.cell? ⟨D, 0, none⟩ = some f /\ (v.setCell ⟨q, k, none⟩ u).drew.cell? ⟨B, k, none⟩ = some y :=
 ⟨(World.cell?_of_block (heap_setCell_other v ⟨q, k, none⟩ D u h1)).trans a, (World.cell?_of_block (heap_setCell_other v ⟨q, k, none⟩ B u h2)).trans b⟩
theorem rowV_new (w : World) (vs : List Value) (t : TypeId) : RowV (w.alloc (.cells vs.toArray t)) w.heap.size vs := ⟨t, heap_alloc_new w _⟩
end
theorem p0_any (B : Nat) (w : World) : Calls Tryz.prog 288 #[.pointer (some ⟨B, 0, none⟩)] w fun e w' => e = .returned (.pointer (some ⟨B, 0, none⟩)) /\ w' = w := by
 go_enter Tryz.func288, Tryz.ntmps288
 go_wp2
 go_ret
 exact ⟨rfl, rfl⟩
theorem p1_any (B : Nat) (w : World) : Calls Tryz.prog 289 #[.pointer (some ⟨B, 0, none⟩)] w fun e w' => e = .returned (.pointer (some ⟨B, 1, none⟩)) /\ w' = w := by
 go_enter Tryz.func289, Tryz.ntmps289
 go_wp2
 go_ret
 exact ⟨rfl, rfl⟩
theorem p2_any (B : Nat) (w : World) : Calls Tryz.prog 290 #[.pointer (some ⟨B, 0, none⟩)] w fun e w' => e = .returned (.pointer (some ⟨B, 2, none⟩)) /\ w' = w := by
 go_enter Tryz.func290, Tryz.ntmps290
 go_wp2
 go_ret
 exact ⟨rfl, rfl⟩
theorem p3_any (B : Nat) (w : World) : Calls Tryz.prog 291 #[.pointer (some ⟨B, 0, none⟩)] w fun e w' => e = .returned (.pointer (some ⟨B, 3, none⟩)) /\ w' = w := by
 go_enter Tryz.func291, Tryz.ntmps291
 go_wp2
 go_ret
 exact ⟨rfl, rfl⟩
theorem p4_any (B : Nat) (w : World) : Calls Tryz.prog 292 #[.pointer (some ⟨B, 0, none⟩)] w fun e w' => e = .returned (.pointer (some ⟨B, 4, none⟩)) /\ w' = w := by
 go_enter Tryz.func292, Tryz.ntmps292
 go_wp2
 go_ret
 exact ⟨rfl, rfl⟩
theorem parts_any (w : World) : Calls Tryz.prog 279 #[] w fun e w' => e = .returned (.agg #[.func (.func 288) #[] #[], .int .i64 3, .func (.func 289) #[] #[], .int .i64 3, .func (.func 290) #[] #[], .int .i64 63, .func (.func 291) #[] #[], .int .i64 64, .func (.func 292) #[] #[], .int .i64 6]) /\ Below w.heap.size w w' := by
 go_enter Tryz.func279, Tryz.ntmps279
 go_wp2
 exact bodyPost_ret (v := .agg #[.func (.func 288) #[] #[], .int .i64 3, .func (.func 289) #[] #[], .int .i64 3, .func (.func 290) #[] #[], .int .i64 63, .func (.func 291) #[] #[], .int .i64 64, .func (.func 292) #[] #[], .int .i64 6]) (by simp [results, Tryz.results279, go_sem]) rfl ⟨rfl, bal (Below.refl _ _) _⟩
theorem idx0 : ∀ w : World, (Instr.index 404 (.agg #[.func (.func 288) #[] #[], .int .i64 3, .func (.func 289) #[] #[], .int .i64 3, .func (.func 290) #[] #[], .int .i64 63, .func (.func 291) #[] #[], .int .i64 64, .func (.func 292) #[] #[], .int .i64 6]) (.int .i64 0)).run Tryz.prog w = .ok (.agg #[.func (.func 288) #[] #[], .int .i64 3]) w := fun _ => by kernel_rfl
theorem idx1 : ∀ w : World, (Instr.index 404 (.agg #[.func (.func 288) #[] #[], .int .i64 3, .func (.func 289) #[] #[], .int .i64 3, .func (.func 290) #[] #[], .int .i64 63, .func (.func 291) #[] #[], .int .i64 64, .func (.func 292) #[] #[], .int .i64 6]) (.int .i64 1)).run Tryz.prog w = .ok (.agg #[.func (.func 289) #[] #[], .int .i64 3]) w := fun _ => by kernel_rfl
theorem idx2 : ∀ w : World, (Instr.index 404 (.agg #[.func (.func 288) #[] #[], .int .i64 3, .func (.func 289) #[] #[], .int .i64 3, .func (.func 290) #[] #[], .int .i64 63, .func (.func 291) #[] #[], .int .i64 64, .func (.func 292) #[] #[], .int .i64 6]) (.int .i64 2)).run Tryz.prog w = .ok (.agg #[.func (.func 290) #[] #[], .int .i64 63]) w := fun _ => by kernel_rfl
theorem idx3 : ∀ w : World, (Instr.index 404 (.agg #[.func (.func 288) #[] #[], .int .i64 3, .func (.func 289) #[] #[], .int .i64 3, .func (.func 290) #[] #[], .int .i64 63, .func (.func 291) #[] #[], .int .i64 64, .func (.func 292) #[] #[], .int .i64 6]) (.int .i64 3)).run Tryz.prog w = .ok (.agg #[.func (.func 291) #[] #[], .int .i64 64]) w := fun _ => by kernel_rfl
theorem idx4 : ∀ w : World, (Instr.index 404 (.agg #[.func (.func 288) #[] #[], .int .i64 3, .func (.func 289) #[] #[], .int .i64 3, .func (.func 290) #[] #[], .int .i64 63, .func (.func 291) #[] #[], .int .i64 64, .func (.func 292) #[] #[], .int .i64 6]) (.int .i64 4)).run Tryz.prog w = .ok (.agg #[.func (.func 292) #[] #[], .int .i64 6]) w := fun _ => by kernel_rfl
def woL (c : Th) : Nat -> List Value
 | 0 => [.int .u64 0, .int .u64 0, .int .u64 0, .int .u64 0, .int .u64 0]
 | 1 => [.int .u64 (IntKind.u64.wrap c.st), .int .u64 0, .int .u64 0, .int .u64 0, .int .u64 0]
 | 2 => [.int .u64 (IntKind.u64.wrap c.st), .int .u64 (IntKind.u64.wrap c.co), .int .u64 0, .int .u64 0, .int .u64 0]
 | 3 => [.int .u64 (IntKind.u64.wrap c.st), .int .u64 (IntKind.u64.wrap c.co), .int .u64 (IntKind.u64.wrap c.tc), .int .u64 0, .int .u64 0]
 | 4 => [.int .u64 (IntKind.u64.wrap c.st), .int .u64 (IntKind.u64.wrap c.co), .int .u64 (IntKind.u64.wrap c.tc), .int .u64 (IntKind.u64.wrap c.rc), .int .u64 0]
 | _ => [.int .u64 (IntKind.u64.wrap c.st), .int .u64 (IntKind.u64.wrap c.co), .int .u64 (IntKind.u64.wrap c.tc), .int .u64 (IntKind.u64.wrap c.rc), .int .u64 (IntKind.u64.wrap c.de)]
def thL (c : Th) : List Value := [.int .i64 c.st, .int .i64 c.co, .int .i64 c.tc, .int .i64 c.rc, .int .i64 c.de]
structure WoI (w W : World) (c : Th) (k : Nat) : Prop where
 res : RowV W (w.heap.size + 1) (woL c 0)
 all : RowV W (w.heap.size + 1 + 1) (woL c k)
 src : RowV W (w.heap.size + 1 + 1 + 1) (thL c)
 below : Below w.heap.size w W
theorem WoI.on {w W W' : World} {c : Th} {k : Nat} (h : WoI w W c k) (hB : Below W.heap.size W W') : WoI w W' c k := ⟨h.res.on hB, h.all.on hB, h.src.on hB, h.below.trans (hB.mono h.below.size)⟩
theorem WoI.step {w W : World} {c : Th} {k j : Nat} (h : WoI w W c k) (i : Nat) (v : Value) (hv : (woL c k).set i v = woL c j) : WoI w (W.setCell ⟨w.heap.size + 1 + 1, i, none⟩ v) c j :=
 ⟨h.res.other (by omega) _ _, by rw [<- hv]; exact h.all.set i v, h.src.other (by omega) _ _, bst h.below (by omega) _ _⟩
theorem wo_new (w : World) (c : Th) : WoI w ((((w.alloc (.cells #[.int .i64 c.st, .int .i64 c.co, .int .i64 c.tc, .int .i64 c.rc, .int .i64 c.de] 178)).alloc (.cells #[.int .u64 0, .int .u64 0, .int .u64 0, .int .u64 0, .int .u64 0] 375)).alloc (.cells #[.int .u64 0, .int .u64 0, .int .u64 0, .int .u64 0, .int .u64 0] 375)).alloc (.cells #[.int .i64 c.st, .int .i64 c.co, .int .i64 c.tc, .int .i64 c.rc, .int .i64 c.de] 400)) c 0 := by
 have b1 := rowV_new (w.alloc (.cells #[.int .i64 c.st, .int .i64 c.co, .int .i64 c.tc, .int .i64 c.rc, .int .i64 c.de] 178)) (woL c 0) 375
 have b2 := rowV_new ((w.alloc (.cells #[.int .i64 c.st, .int .i64 c.co, .int .i64 c.tc, .int .i64 c.rc, .int .i64 c.de] 178)).alloc (.cells #[.int .u64 0, .int .u64 0, .int .u64 0, .int .u64 0, .int .u64 0] 375)) (woL c 0) 375
 have b3 := rowV_new (((w.alloc (.cells #[.int .i64 c.st, .int .i64 c.co, .int .i64 c.tc, .int .i64 c.rc, .int .i64 c.de] 178)).alloc (.cells #[.int .u64 0, .int .u64 0, .int .u64 0, .int .u64 0, .int .u64 0] 375)).alloc (.cells #[.int .u64 0, .int .u64 0, .int .u64 0, .int .u64 0, .int .u64 0] 375)) (thL c) 400
 simp only [World.size_alloc] at b1 b2 b3
 exact ⟨(b1.on (bal (Below.refl _ _) _)).on (bal (Below.refl _ _) _), b2.on (bal (Below.refl _ _) _), b3, bal (bal (bal (bal (Below.refl _ _) _) _) _) _⟩
theorem words_any (c : Th) (w : World) : Calls Tryz.prog 248 #[.agg #[.int .i64 c.st, .int .i64 c.co, .int .i64 c.tc, .int .i64 c.rc, .int .i64 c.de]] w fun e w' => e = .returned (.agg #[.int .u64 (IntKind.u64.wrap c.st), .int .u64 (IntKind.u64.wrap c.co), .int .u64 (IntKind.u64.wrap c.tc), .int .u64 (IntKind.u64.wrap c.rc), .int .u64 (IntKind.u64.wrap c.de)]) /\ Below w.heap.size w w' := by
 have H0 : Hid (WoI w _ c 0) := wo_new w c
 have i0 := idx0
 have i1 := idx1
 have i2 := idx2
 have i3 := idx3
 have i4 := idx4
 go_enter Tryz.func248, Tryz.ntmps248
 go_wp2_with (first
  | (go_at_call 279; refine (parts_any _).mono ?_; rintro e1 w1 ⟨rfl, hb⟩; have H1 : Hid (WoI w w1 c 0) := H0.out.on hb; clear hb H0)
  | fail)
 go_loopw [9] (fun i wr => ∃ k : Nat, k <= 5 /\ i = .int .i64 k /\ WoI w wr c k) (fun i _ => 5 - (intOf i).toNat)
 case atStart => exact ⟨0, by omega, rfl, H1.out⟩
 case round =>
  obtain ⟨k, hk, rfl, hI⟩ := hrel
  have HI := rhide hI
  clear hI H1
  rcases (show k = 0 \/ k = 1 \/ k = 2 \/ k = 3 \/ k = 4 \/ k = 5 by omega) with rfl | rfl | rfl | rfl | rfl | rfl
  · go_upto_region 6 with fail
    have H2 := rhide (HI.out.on (bal (Below.refl _ _) (.cells #[.func (.func 288) #[] #[], .int .i64 3] 403)))
    have HD := rhide (rowV_new wr [.func (.func 288) #[] #[], .int .i64 3] 403)
    generalize wr.alloc _ = v at H2 HD ⊢
    generalize wr.heap.size = D at HD ⊢
    have x : v.cell? ⟨w.heap.size + 1 + 1 + 1, 0, none⟩ = some (.int .i64 c.st) := H2.out.src.cell 0
    have y : v.cell? ⟨w.heap.size + 1 + 1, 0, none⟩ = some (.int .u64 0) := H2.out.all.cell 0
    have q0 : v.cell? ⟨D, 0, none⟩ = some (.func (.func 288) #[] #[]) := HD.out.cell 0
    have z := H2.out.all.fz 0
    go_wp2_with (first
     | (go_at_call 288; refine (p0_any _ _).mono ?_; rintro e2 w2 ⟨rfl, hw⟩; subst w2)
     | fail)
    go_roundw
    case rel => exact ⟨0 + 1, by omega, rfl, H2.out.step (j := 0 + 1) 0 _ rfl⟩
    case measure => simp [intOf]
  · go_upto_region 6 with fail
    have H2 := rhide (HI.out.on (bal (Below.refl _ _) (.cells #[.func (.func 289) #[] #[], .int .i64 3] 403)))
    have HD := rhide (rowV_new wr [.func (.func 289) #[] #[], .int .i64 3] 403)
    generalize wr.alloc _ = v at H2 HD ⊢
    generalize wr.heap.size = D at HD ⊢
    have x : v.cell? ⟨w.heap.size + 1 + 1 + 1, 1, none⟩ = some (.int .i64 c.co) := H2.out.src.cell 1
    have y : v.cell? ⟨w.heap.size + 1 + 1, 1, none⟩ = some (.int .u64 0) := H2.out.all.cell 1
    have q0 : v.cell? ⟨D, 0, none⟩ = some (.func (.func 289) #[] #[]) := HD.out.cell 0
    have z := H2.out.all.fz 1
    go_wp2_with (first
     | (go_at_call 289; refine (p1_any _ _).mono ?_; rintro e2 w2 ⟨rfl, hw⟩; subst w2)
     | fail)
    go_roundw
    case rel => exact ⟨1 + 1, by omega, rfl, H2.out.step (j := 1 + 1) 1 _ rfl⟩
    case measure => simp [intOf]
  · go_upto_region 6 with fail
    have H2 := rhide (HI.out.on (bal (Below.refl _ _) (.cells #[.func (.func 290) #[] #[], .int .i64 63] 403)))
    have HD := rhide (rowV_new wr [.func (.func 290) #[] #[], .int .i64 63] 403)
    generalize wr.alloc _ = v at H2 HD ⊢
    generalize wr.heap.size = D at HD ⊢
    have x : v.cell? ⟨w.heap.size + 1 + 1 + 1, 2, none⟩ = some (.int .i64 c.tc) := H2.out.src.cell 2
    have y : v.cell? ⟨w.heap.size + 1 + 1, 2, none⟩ = some (.int .u64 0) := H2.out.all.cell 2
    have q0 : v.cell? ⟨D, 0, none⟩ = some (.func (.func 290) #[] #[]) := HD.out.cell 0
    have z := H2.out.all.fz 2
    go_wp2_with (first
     | (go_at_call 290; refine (p2_any _ _).mono ?_; rintro e2 w2 ⟨rfl, hw⟩; subst w2)
     | fail)
    go_roundw
    case rel => exact ⟨2 + 1, by omega, rfl, H2.out.step (j := 2 + 1) 2 _ rfl⟩
    case measure => simp [intOf]
  · go_upto_region 6 with fail
    have H2 := rhide (HI.out.on (bal (Below.refl _ _) (.cells #[.func (.func 291) #[] #[], .int .i64 64] 403)))
    have HD := rhide (rowV_new wr [.func (.func 291) #[] #[], .int .i64 64] 403)
    generalize wr.alloc _ = v at H2 HD ⊢
    generalize wr.heap.size = D at HD ⊢
    have x : v.cell? ⟨w.heap.size + 1 + 1 + 1, 3, none⟩ = some (.int .i64 c.rc) := H2.out.src.cell 3
    have y : v.cell? ⟨w.heap.size + 1 + 1, 3, none⟩ = some (.int .u64 0) := H2.out.all.cell 3
    have q0 : v.cell? ⟨D, 0, none⟩ = some (.func (.func 291) #[] #[]) := HD.out.cell 0
    have z := H2.out.all.fz 3
    go_wp2_with (first
     | (go_at_call 291; refine (p3_any _ _).mono ?_; rintro e2 w2 ⟨rfl, hw⟩; subst w2)
     | fail)
    go_roundw
    case rel => exact ⟨3 + 1, by omega, rfl, H2.out.step (j := 3 + 1) 3 _ rfl⟩
    case measure => simp [intOf]
  · go_upto_region 6 with fail
    have H2 := rhide (HI.out.on (bal (Below.refl _ _) (.cells #[.func (.func 292) #[] #[], .int .i64 6] 403)))
    have HD := rhide (rowV_new wr [.func (.func 292) #[] #[], .int .i64 6] 403)
    generalize wr.alloc _ = v at H2 HD ⊢
    generalize wr.heap.size = D at HD ⊢
    have x : v.cell? ⟨w.heap.size + 1 + 1 + 1, 4, none⟩ = some (.int .i64 c.de) := H2.out.src.cell 4
    have y : v.cell? ⟨w.heap.size + 1 + 1, 4, none⟩ = some (.int .u64 0) := H2.out.all.cell 4
    have q0 : v.cell? ⟨D, 0, none⟩ = some (.func (.func 292) #[] #[]) := HD.out.cell 0
    have z := H2.out.all.fz 4
    go_wp2_with (first
     | (go_at_call 292; refine (p4_any _ _).mono ?_; rintro e2 w2 ⟨rfl, hw⟩; subst w2)
     | fail)
    go_roundw
    case rel => exact ⟨4 + 1, by omega, rfl, H2.out.step (j := 4 + 1) 4 _ rfl⟩
    case measure => simp [intOf]
  · have x0 : wr.cell? ⟨w.heap.size + 1 + 1, 0, none⟩ = some (.int .u64 (IntKind.u64.wrap c.st)) := HI.out.all.cell 0
    have x1 : wr.cell? ⟨w.heap.size + 1 + 1, 1, none⟩ = some (.int .u64 (IntKind.u64.wrap c.co)) := HI.out.all.cell 1
    have x2 : wr.cell? ⟨w.heap.size + 1 + 1, 2, none⟩ = some (.int .u64 (IntKind.u64.wrap c.tc)) := HI.out.all.cell 2
    have x3 : wr.cell? ⟨w.heap.size + 1 + 1, 3, none⟩ = some (.int .u64 (IntKind.u64.wrap c.rc)) := HI.out.all.cell 3
    have x4 : wr.cell? ⟨w.heap.size + 1 + 1, 4, none⟩ = some (.int .u64 (IntKind.u64.wrap c.de)) := HI.out.all.cell 4
    have y0 : wr.cell? ⟨w.heap.size + 1, 0, none⟩ = some (.int .u64 0) := HI.out.res.cell 0
    have y1 : wr.cell? ⟨w.heap.size + 1, 1, none⟩ = some (.int .u64 0) := HI.out.res.cell 1
    have y2 : wr.cell? ⟨w.heap.size + 1, 2, none⟩ = some (.int .u64 0) := HI.out.res.cell 2
    have y3 : wr.cell? ⟨w.heap.size + 1, 3, none⟩ = some (.int .u64 0) := HI.out.res.cell 3
    have y4 : wr.cell? ⟨w.heap.size + 1, 4, none⟩ = some (.int .u64 0) := HI.out.res.cell 4
    have z := HI.out.res.fz
    go_wp2
    refine bodyPost_ret (v := .agg #[.int .u64 (IntKind.u64.wrap c.st), .int .u64 (IntKind.u64.wrap c.co), .int .u64 (IntKind.u64.wrap c.tc), .int .u64 (IntKind.u64.wrap c.rc), .int .u64 (IntKind.u64.wrap c.de)]) (by simp [results, Tryz.results248, go_sem, y0, y1, y2, y3, y4]) rfl ⟨rfl, ?_⟩
    exact bst (bst (bst (bst (bst HI.out.below (by omega) _ _) (by omega) _ _) (by omega) _ _) (by omega) _ _) (by omega) _ _
def upT (x : Th) : Nat -> Prop
 | 0 => True
 | 1 => x.st <= 3
 | 2 => x.st <= 3 /\ x.co <= 3
 | 3 => x.st <= 3 /\ x.co <= 3 /\ x.tc <= 63
 | 4 => x.st <= 3 /\ x.co <= 3 /\ x.tc <= 63 /\ x.rc <= 64
 | _ => x.st <= 3 /\ x.co <= 3 /\ x.tc <= 63 /\ x.rc <= 64 /\ x.de <= 6
def toL (x : Th) : Nat -> List Value
 | 0 => [.int .i64 0, .int .i64 0, .int .i64 0, .int .i64 0, .int .i64 0]
 | 1 => [.int .i64 x.st, .int .i64 0, .int .i64 0, .int .i64 0, .int .i64 0]
 | 2 => [.int .i64 x.st, .int .i64 x.co, .int .i64 0, .int .i64 0, .int .i64 0]
 | 3 => [.int .i64 x.st, .int .i64 x.co, .int .i64 x.tc, .int .i64 0, .int .i64 0]
 | 4 => [.int .i64 x.st, .int .i64 x.co, .int .i64 x.tc, .int .i64 x.rc, .int .i64 0]
 | _ => [.int .i64 x.st, .int .i64 x.co, .int .i64 x.tc, .int .i64 x.rc, .int .i64 x.de]
def wdL (x : Th) : List Value := [.int .u64 x.st, .int .u64 x.co, .int .u64 x.tc, .int .u64 x.rc, .int .u64 x.de]
def Wf (x : Th) : Prop := 0 <= x.st /\ 0 <= x.co /\ 0 <= x.tc /\ 0 <= x.rc /\ 0 <= x.de
structure ToI (w W : World) (x : Th) (k : Nat) : Prop where
 wds : RowV W w.heap.size (wdL x)
 res : RowV W (w.heap.size + 1) (toL x 0)
 dst : RowV W (w.heap.size + 1 + 1) (toL x k)
 below : Below w.heap.size w W
theorem ToI.on {w W W' : World} {x : Th} {k : Nat} (h : ToI w W x k) (hB : Below W.heap.size W W') : ToI w W' x k := ⟨h.wds.on hB, h.res.on hB, h.dst.on hB, h.below.trans (hB.mono h.below.size)⟩
theorem ToI.step {w W : World} {x : Th} {k j : Nat} (h : ToI w W x k) (i : Nat) (v : Value) (hv : (toL x k).set i v = toL x j) : ToI w (W.setCell ⟨w.heap.size + 1 + 1, i, none⟩ v) x j :=
 ⟨h.wds.other (by omega) _ _, h.res.other (by omega) _ _, by rw [<- hv]; exact h.dst.set i v, bst h.below (by omega) _ _⟩
theorem to_new (w : World) (x : Th) : ToI w (((w.alloc (.cells #[.int .u64 x.st, .int .u64 x.co, .int .u64 x.tc, .int .u64 x.rc, .int .u64 x.de] 375)).alloc (.cells #[.int .i64 0, .int .i64 0, .int .i64 0, .int .i64 0, .int .i64 0] 178)).alloc (.cells #[.int .i64 0, .int .i64 0, .int .i64 0, .int .i64 0, .int .i64 0] 400)) x 0 := by
 have b0 := rowV_new w (wdL x) 375
 have b1 := rowV_new (w.alloc (.cells #[.int .u64 x.st, .int .u64 x.co, .int .u64 x.tc, .int .u64 x.rc, .int .u64 x.de] 375)) (toL x 0) 178
 have b2 := rowV_new ((w.alloc (.cells #[.int .u64 x.st, .int .u64 x.co, .int .u64 x.tc, .int .u64 x.rc, .int .u64 x.de] 375)).alloc (.cells #[.int .i64 0, .int .i64 0, .int .i64 0, .int .i64 0, .int .i64 0] 178)) (toL x 0) 400
 simp only [World.size_alloc] at b0 b1 b2
 exact ⟨(b0.on (bal (Below.refl _ _) _)).on (bal (Below.refl _ _) _), b1.on (bal (Below.refl _ _) _), b2, bal (bal (bal (Below.refl _ _) _) _) _⟩
theorem thread_any (x : Th) (hx : Wf x) (w : World) : Calls Tryz.prog 247 #[.agg #[.int .u64 x.st, .int .u64 x.co, .int .u64 x.tc, .int .u64 x.rc, .int .u64 x.de]] w fun e w' => e = .returned (.tuple #[.agg #[.int .i64 (toX x).st, .int .i64 (toX x).co, .int .i64 (toX x).tc, .int .i64 (toX x).rc, .int .i64 (toX x).de], .bool (toB x)]) /\ Below w.heap.size w w' := by
 have H0 : Hid (ToI w _ x 0) := to_new w x
 obtain ⟨p0, p1, p2, p3, p4⟩ := hx
 have i0 := idx0
 have i1 := idx1
 have i2 := idx2
 have i3 := idx3
 have i4 := idx4
 obtain ⟨R, hR⟩ : ∃ R, R = toB x := ⟨_, rfl⟩
 obtain ⟨X, hX⟩ : ∃ X, X = toX x := ⟨_, rfl⟩
 rw [<- hR, <- hX]
 have HR := rhide (And.intro hR hX)
 clear hR hX
 go_enter Tryz.func247, Tryz.ntmps247
 go_wp2_with (first
  | (go_at_call 279; refine (parts_any _).mono ?_; rintro e1 w1 ⟨rfl, hb⟩; have H1 : Hid (ToI w w1 x 0) := H0.out.on hb; clear hb H0)
  | fail)
 go_loopw [8] (fun i wr => ∃ k : Nat, k <= 5 /\ i = .int .i64 k /\ upT x k /\ ToI w wr x k) (fun i _ => 5 - (intOf i).toNat)
 case atStart => exact ⟨0, by omega, rfl, trivial, H1.out⟩
 case round =>
  obtain ⟨k, hk, rfl, hU, hI⟩ := hrel
  have HI := rhide hI
  clear hI H1
  rcases (show k = 0 \/ k = 1 \/ k = 2 \/ k = 3 \/ k = 4 \/ k = 5 by omega) with rfl | rfl | rfl | rfl | rfl | rfl
  · have HU := rhide hU
    clear hU
    have x0 : wr.cell? ⟨w.heap.size, 0, none⟩ = some (.int .u64 x.st) := HI.out.wds.cell 0
    have lt := HI.out.dst.lt
    by_cases hm : x.st <= 3
    · have hm' : ¬ 3 < x.st := by omega
      have hw : wrap64 x.st = x.st := by unfold wrap64; omega
      go_upto_region 5 with fail
      have H2 := rhide (HI.out.on (bal (Below.refl _ _) (.cells #[.func (.func 288) #[] #[], .int .i64 3] 403)))
      have HD := rhide (rowV_new wr [.func (.func 288) #[] #[], .int .i64 3] 403)
      have hD : w.heap.size + 1 + 1 < wr.heap.size := lt
      generalize wr.alloc _ = v at H2 HD ⊢
      generalize wr.heap.size = D at HD hD ⊢
      have hD1 : D ≠ w.heap.size + 1 + 1 := by omega
      have hD2 : w.heap.size ≠ w.heap.size + 1 + 1 := by omega
      clear x0 lt HI hD
      have x0 : v.cell? ⟨w.heap.size, 0, none⟩ = some (.int .u64 x.st) := H2.out.wds.cell 0
      have q0 : v.cell? ⟨D, 0, none⟩ = some (.func (.func 288) #[] #[]) := HD.out.cell 0
      have q1 : v.cell? ⟨D, 1, none⟩ = some (.int .i64 3) := HD.out.cell 1
      have y : v.cell? ⟨w.heap.size + 1 + 1, 0, none⟩ = some (.int .i64 0) := H2.out.dst.cell 0
      have z := H2.out.dst.fz 0
      clear HD
      go_quiet (fail)
      have H3 : Hid (ToI w (v.drewN nq) x 0) := H2.out.on (below_drew' _ _ _)
      have q0' : (v.drewN nq).cell? ⟨D, 0, none⟩ = some (.func (.func 288) #[] #[]) := q0
      clear x0 q0 q1 y z H2
      generalize v.drewN nq = v2 at H3 q0' ⊢
      have q0 := q0'
      clear q0'
      have x0 : v2.cell? ⟨w.heap.size, 0, none⟩ = some (.int .u64 x.st) := H3.out.wds.cell 0
      have y : v2.cell? ⟨w.heap.size + 1 + 1, 0, none⟩ = some (.int .i64 0) := H3.out.dst.cell 0
      have z := H3.out.dst.fz 0
      go_wp2
      go_region_held3 (fun w' => w'.cell? ⟨D, 0, none⟩ = some (.func (.func 288) #[] #[]) /\ w'.cell? ⟨w.heap.size, 0, none⟩ = some (.int .u64 x.st)) (first | exact ⟨by assumption, by assumption⟩ | (with_reducible exact keep2 hD1 hD2 q0 x0) | (with_reducible exact keep2d hD1 hD2 q0 x0) | go_keep)
      (first
        | (go_at_call 288; refine (p0_any _ _).mono ?_; rintro e2 w2 ⟨rfl, hw⟩; subst w2)
        | fail)
      go_wp2
      go_roundw
      case rel => exact ⟨0 + 1, by omega, rfl, by have h : True := HU.out; show x.st <= 3; omega, by first | exact H3.out.step (j := 0 + 1) 0 _ rfl | exact (H3.out.step (j := 0 + 1) 0 _ rfl).on (below_drew' _ _ 1) | exact (H3.out.on (below_drew' _ _ 1)).step (j := 0 + 1) 0 _ rfl⟩
      case measure => simp [intOf]
    · have hm' : 3 < x.st := by omega
      have hno : toB x = false := toB_no (fun h => hm h.1.2)
      have hXX := HR.out
      rw [hno, toX_no hno] at hXX
      obtain ⟨rfl, rfl⟩ := hXX
      go_upto_region 5 with fail
      have H2 := rhide (HI.out.on (bal (Below.refl _ _) (.cells #[.func (.func 288) #[] #[], .int .i64 3] 403)))
      have HD := rhide (rowV_new wr [.func (.func 288) #[] #[], .int .i64 3] 403)
      generalize wr.alloc _ = v at H2 HD ⊢
      generalize wr.heap.size = D at HD ⊢
      clear x0 lt HI
      have x0 : v.cell? ⟨w.heap.size, 0, none⟩ = some (.int .u64 x.st) := H2.out.wds.cell 0
      have q1 : v.cell? ⟨D, 1, none⟩ = some (.int .i64 3) := HD.out.cell 1
      clear HD
      go_quiet (fail)
      have H3 : Hid (ToI w (v.drewN nq) x 0) := H2.out.on (below_drew' _ _ _)
      clear x0 q1 H2
      generalize v.drewN nq = v2 at H3 ⊢
      have y0 : v2.cell? ⟨w.heap.size + 1, 0, none⟩ = some (.int .i64 0) := H3.out.res.cell 0
      have y1 : v2.cell? ⟨w.heap.size + 1, 1, none⟩ = some (.int .i64 0) := H3.out.res.cell 1
      have y2 : v2.cell? ⟨w.heap.size + 1, 2, none⟩ = some (.int .i64 0) := H3.out.res.cell 2
      have y3 : v2.cell? ⟨w.heap.size + 1, 3, none⟩ = some (.int .i64 0) := H3.out.res.cell 3
      have y4 : v2.cell? ⟨w.heap.size + 1, 4, none⟩ = some (.int .i64 0) := H3.out.res.cell 4
      have z := H3.out.res.fz
      go_wp2
      refine bodyPost_ret (v := .tuple #[.agg #[.int .i64 0, .int .i64 0, .int .i64 0, .int .i64 0, .int .i64 0], .bool false]) (by simp [results, Tryz.results247, go_sem, y0, y1, y2, y3, y4]) rfl ⟨rfl, ?_⟩
      exact bst (bst (bst (bst (bst H3.out.below (by omega) _ _) (by omega) _ _) (by omega) _ _) (by omega) _ _) (by omega) _ _
  · have HU := rhide hU
    clear hU
    have x0 : wr.cell? ⟨w.heap.size, 1, none⟩ = some (.int .u64 x.co) := HI.out.wds.cell 1
    have lt := HI.out.dst.lt
    by_cases hm : x.co <= 3
    · have hm' : ¬ 3 < x.co := by omega
      have hw : wrap64 x.co = x.co := by unfold wrap64; omega
      go_upto_region 5 with fail
      have H2 := rhide (HI.out.on (bal (Below.refl _ _) (.cells #[.func (.func 289) #[] #[], .int .i64 3] 403)))
      have HD := rhide (rowV_new wr [.func (.func 289) #[] #[], .int .i64 3] 403)
      have hD : w.heap.size + 1 + 1 < wr.heap.size := lt
      generalize wr.alloc _ = v at H2 HD ⊢
      generalize wr.heap.size = D at HD hD ⊢
      have hD1 : D ≠ w.heap.size + 1 + 1 := by omega
      have hD2 : w.heap.size ≠ w.heap.size + 1 + 1 := by omega
      clear x0 lt HI hD
      have x0 : v.cell? ⟨w.heap.size, 1, none⟩ = some (.int .u64 x.co) := H2.out.wds.cell 1
      have q0 : v.cell? ⟨D, 0, none⟩ = some (.func (.func 289) #[] #[]) := HD.out.cell 0
      have q1 : v.cell? ⟨D, 1, none⟩ = some (.int .i64 3) := HD.out.cell 1
      have y : v.cell? ⟨w.heap.size + 1 + 1, 1, none⟩ = some (.int .i64 0) := H2.out.dst.cell 1
      have z := H2.out.dst.fz 1
      clear HD
      go_quiet (fail)
      have H3 : Hid (ToI w (v.drewN nq) x 1) := H2.out.on (below_drew' _ _ _)
      have q0' : (v.drewN nq).cell? ⟨D, 0, none⟩ = some (.func (.func 289) #[] #[]) := q0
      clear x0 q0 q1 y z H2
      generalize v.drewN nq = v2 at H3 q0' ⊢
      have q0 := q0'
      clear q0'
      have x0 : v2.cell? ⟨w.heap.size, 1, none⟩ = some (.int .u64 x.co) := H3.out.wds.cell 1
      have y : v2.cell? ⟨w.heap.size + 1 + 1, 1, none⟩ = some (.int .i64 0) := H3.out.dst.cell 1
      have z := H3.out.dst.fz 1
      go_wp2
      go_region_held3 (fun w' => w'.cell? ⟨D, 0, none⟩ = some (.func (.func 289) #[] #[]) /\ w'.cell? ⟨w.heap.size, 1, none⟩ = some (.int .u64 x.co)) (first | exact ⟨by assumption, by assumption⟩ | (with_reducible exact keep2 hD1 hD2 q0 x0) | (with_reducible exact keep2d hD1 hD2 q0 x0) | go_keep)
      (first
        | (go_at_call 289; refine (p1_any _ _).mono ?_; rintro e2 w2 ⟨rfl, hw⟩; subst w2)
        | fail)
      go_wp2
      go_roundw
      case rel => exact ⟨1 + 1, by omega, rfl, by have h : x.st <= 3 := HU.out; show x.st <= 3 /\ x.co <= 3; omega, by first | exact H3.out.step (j := 1 + 1) 1 _ rfl | exact (H3.out.step (j := 1 + 1) 1 _ rfl).on (below_drew' _ _ 1) | exact (H3.out.on (below_drew' _ _ 1)).step (j := 1 + 1) 1 _ rfl⟩
      case measure => simp [intOf]
    · have hm' : 3 < x.co := by omega
      have hno : toB x = false := toB_no (fun h => hm h.2.1.2)
      have hXX := HR.out
      rw [hno, toX_no hno] at hXX
      obtain ⟨rfl, rfl⟩ := hXX
      go_upto_region 5 with fail
      have H2 := rhide (HI.out.on (bal (Below.refl _ _) (.cells #[.func (.func 289) #[] #[], .int .i64 3] 403)))
      have HD := rhide (rowV_new wr [.func (.func 289) #[] #[], .int .i64 3] 403)
      generalize wr.alloc _ = v at H2 HD ⊢
      generalize wr.heap.size = D at HD ⊢
      clear x0 lt HI
      have x0 : v.cell? ⟨w.heap.size, 1, none⟩ = some (.int .u64 x.co) := H2.out.wds.cell 1
      have q1 : v.cell? ⟨D, 1, none⟩ = some (.int .i64 3) := HD.out.cell 1
      clear HD
      go_quiet (fail)
      have H3 : Hid (ToI w (v.drewN nq) x 1) := H2.out.on (below_drew' _ _ _)
      clear x0 q1 H2
      generalize v.drewN nq = v2 at H3 ⊢
      have y0 : v2.cell? ⟨w.heap.size + 1, 0, none⟩ = some (.int .i64 0) := H3.out.res.cell 0
      have y1 : v2.cell? ⟨w.heap.size + 1, 1, none⟩ = some (.int .i64 0) := H3.out.res.cell 1
      have y2 : v2.cell? ⟨w.heap.size + 1, 2, none⟩ = some (.int .i64 0) := H3.out.res.cell 2
      have y3 : v2.cell? ⟨w.heap.size + 1, 3, none⟩ = some (.int .i64 0) := H3.out.res.cell 3
      have y4 : v2.cell? ⟨w.heap.size + 1, 4, none⟩ = some (.int .i64 0) := H3.out.res.cell 4
      have z := H3.out.res.fz
      go_wp2
      refine bodyPost_ret (v := .tuple #[.agg #[.int .i64 0, .int .i64 0, .int .i64 0, .int .i64 0, .int .i64 0], .bool false]) (by simp [results, Tryz.results247, go_sem, y0, y1, y2, y3, y4]) rfl ⟨rfl, ?_⟩
      exact bst (bst (bst (bst (bst H3.out.below (by omega) _ _) (by omega) _ _) (by omega) _ _) (by omega) _ _) (by omega) _ _
  · have HU := rhide hU
    clear hU
    have x0 : wr.cell? ⟨w.heap.size, 2, none⟩ = some (.int .u64 x.tc) := HI.out.wds.cell 2
    have lt := HI.out.dst.lt
    by_cases hm : x.tc <= 63
    · have hm' : ¬ 63 < x.tc := by omega
      have hw : wrap64 x.tc = x.tc := by unfold wrap64; omega
      go_upto_region 5 with fail
      have H2 := rhide (HI.out.on (bal (Below.refl _ _) (.cells #[.func (.func 290) #[] #[], .int .i64 63] 403)))
      have HD := rhide (rowV_new wr [.func (.func 290) #[] #[], .int .i64 63] 403)
      have hD : w.heap.size + 1 + 1 < wr.heap.size := lt
      generalize wr.alloc _ = v at H2 HD ⊢
      generalize wr.heap.size = D at HD hD ⊢
      have hD1 : D ≠ w.heap.size + 1 + 1 := by omega
      have hD2 : w.heap.size ≠ w.heap.size + 1 + 1 := by omega
      clear x0 lt HI hD
      have x0 : v.cell? ⟨w.heap.size, 2, none⟩ = some (.int .u64 x.tc) := H2.out.wds.cell 2
      have q0 : v.cell? ⟨D, 0, none⟩ = some (.func (.func 290) #[] #[]) := HD.out.cell 0
      have q1 : v.cell? ⟨D, 1, none⟩ = some (.int .i64 63) := HD.out.cell 1
      have y : v.cell? ⟨w.heap.size + 1 + 1, 2, none⟩ = some (.int .i64 0) := H2.out.dst.cell 2
      have z := H2.out.dst.fz 2
      clear HD
      go_quiet (fail)
      have H3 : Hid (ToI w (v.drewN nq) x 2) := H2.out.on (below_drew' _ _ _)
      have q0' : (v.drewN nq).cell? ⟨D, 0, none⟩ = some (.func (.func 290) #[] #[]) := q0
      clear x0 q0 q1 y z H2
      generalize v.drewN nq = v2 at H3 q0' ⊢
      have q0 := q0'
      clear q0'
      have x0 : v2.cell? ⟨w.heap.size, 2, none⟩ = some (.int .u64 x.tc) := H3.out.wds.cell 2
      have y : v2.cell? ⟨w.heap.size + 1 + 1, 2, none⟩ = some (.int .i64 0) := H3.out.dst.cell 2
      have z := H3.out.dst.fz 2
      go_wp2
      go_region_held3 (fun w' => w'.cell? ⟨D, 0, none⟩ = some (.func (.func 290) #[] #[]) /\ w'.cell? ⟨w.heap.size, 2, none⟩ = some (.int .u64 x.tc)) (first | exact ⟨by assumption, by assumption⟩ | (with_reducible exact keep2 hD1 hD2 q0 x0) | (with_reducible exact keep2d hD1 hD2 q0 x0) | go_keep)
      (first
        | (go_at_call 290; refine (p2_any _ _).mono ?_; rintro e2 w2 ⟨rfl, hw⟩; subst w2)
        | fail)
      go_wp2
      go_roundw
      case rel => exact ⟨2 + 1, by omega, rfl, by have h : x.st <= 3 /\ x.co <= 3 := HU.out; show x.st <= 3 /\ x.co <= 3 /\ x.tc <= 63; omega, by first | exact H3.out.step (j := 2 + 1) 2 _ rfl | exact (H3.out.step (j := 2 + 1) 2 _ rfl).on (below_drew' _ _ 1) | exact (H3.out.on (below_drew' _ _ 1)).step (j := 2 + 1) 2 _ rfl⟩
      case measure => simp [intOf]
    · have hm' : 63 < x.tc := by omega
      have hno : toB x = false := toB_no (fun h => hm h.2.2.1.2)
      have hXX := HR.out
      rw [hno, toX_no hno] at hXX
      obtain ⟨rfl, rfl⟩ := hXX
      go_upto_region 5 with fail
      have H2 := rhide (HI.out.on (bal (Below.refl _ _) (.cells #[.func (.func 290) #[] #[], .int .i64 63] 403)))
      have HD := rhide (rowV_new wr [.func (.func 290) #[] #[], .int .i64 63] 403)
      generalize wr.alloc _ = v at H2 HD ⊢
      generalize wr.heap.size = D at HD ⊢
      clear x0 lt HI
      have x0 : v.cell? ⟨w.heap.size, 2, none⟩ = some (.int .u64 x.tc) := H2.out.wds.cell 2
      have q1 : v.cell? ⟨D, 1, none⟩ = some (.int .i64 63) := HD.out.cell 1
      clear HD
      go_quiet (fail)
      have H3 : Hid (ToI w (v.drewN nq) x 2) := H2.out.on (below_drew' _ _ _)
      clear x0 q1 H2
      generalize v.drewN nq = v2 at H3 ⊢
      have y0 : v2.cell? ⟨w.heap.size + 1, 0, none⟩ = some (.int .i64 0) := H3.out.res.cell 0
      have y1 : v2.cell? ⟨w.heap.size + 1, 1, none⟩ = some (.int .i64 0) := H3.out.res.cell 1
      have y2 : v2.cell? ⟨w.heap.size + 1, 2, none⟩ = some (.int .i64 0) := H3.out.res.cell 2
      have y3 : v2.cell? ⟨w.heap.size + 1, 3, none⟩ = some (.int .i64 0) := H3.out.res.cell 3
      have y4 : v2.cell? ⟨w.heap.size + 1, 4, none⟩ = some (.int .i64 0) := H3.out.res.cell 4
      have z := H3.out.res.fz
      go_wp2
      refine bodyPost_ret (v := .tuple #[.agg #[.int .i64 0, .int .i64 0, .int .i64 0, .int .i64 0, .int .i64 0], .bool false]) (by simp [results, Tryz.results247, go_sem, y0, y1, y2, y3, y4]) rfl ⟨rfl, ?_⟩
      exact bst (bst (bst (bst (bst H3.out.below (by omega) _ _) (by omega) _ _) (by omega) _ _) (by omega) _ _) (by omega) _ _
  · have HU := rhide hU
    clear hU
    have x0 : wr.cell? ⟨w.heap.size, 3, none⟩ = some (.int .u64 x.rc) := HI.out.wds.cell 3
    have lt := HI.out.dst.lt
    by_cases hm : x.rc <= 64
    · have hm' : ¬ 64 < x.rc := by omega
      have hw : wrap64 x.rc = x.rc := by unfold wrap64; omega
      go_upto_region 5 with fail
      have H2 := rhide (HI.out.on (bal (Below.refl _ _) (.cells #[.func (.func 291) #[] #[], .int .i64 64] 403)))
      have HD := rhide (rowV_new wr [.func (.func 291) #[] #[], .int .i64 64] 403)
      have hD : w.heap.size + 1 + 1 < wr.heap.size := lt
      generalize wr.alloc _ = v at H2 HD ⊢
      generalize wr.heap.size = D at HD hD ⊢
      have hD1 : D ≠ w.heap.size + 1 + 1 := by omega
      have hD2 : w.heap.size ≠ w.heap.size + 1 + 1 := by omega
      clear x0 lt HI hD
      have x0 : v.cell? ⟨w.heap.size, 3, none⟩ = some (.int .u64 x.rc) := H2.out.wds.cell 3
      have q0 : v.cell? ⟨D, 0, none⟩ = some (.func (.func 291) #[] #[]) := HD.out.cell 0
      have q1 : v.cell? ⟨D, 1, none⟩ = some (.int .i64 64) := HD.out.cell 1
      have y : v.cell? ⟨w.heap.size + 1 + 1, 3, none⟩ = some (.int .i64 0) := H2.out.dst.cell 3
      have z := H2.out.dst.fz 3
      clear HD
      go_quiet (fail)
      have H3 : Hid (ToI w (v.drewN nq) x 3) := H2.out.on (below_drew' _ _ _)
      have q0' : (v.drewN nq).cell? ⟨D, 0, none⟩ = some (.func (.func 291) #[] #[]) := q0
      clear x0 q0 q1 y z H2
      generalize v.drewN nq = v2 at H3 q0' ⊢
      have q0 := q0'
      clear q0'
      have x0 : v2.cell? ⟨w.heap.size, 3, none⟩ = some (.int .u64 x.rc) := H3.out.wds.cell 3
      have y : v2.cell? ⟨w.heap.size + 1 + 1, 3, none⟩ = some (.int .i64 0) := H3.out.dst.cell 3
      have z := H3.out.dst.fz 3
      go_wp2
      go_region_held3 (fun w' => w'.cell? ⟨D, 0, none⟩ = some (.func (.func 291) #[] #[]) /\ w'.cell? ⟨w.heap.size, 3, none⟩ = some (.int .u64 x.rc)) (first | exact ⟨by assumption, by assumption⟩ | (with_reducible exact keep2 hD1 hD2 q0 x0) | (with_reducible exact keep2d hD1 hD2 q0 x0) | go_keep)
      (first
        | (go_at_call 291; refine (p3_any _ _).mono ?_; rintro e2 w2 ⟨rfl, hw⟩; subst w2)
        | fail)
      go_wp2
      go_roundw
      case rel => exact ⟨3 + 1, by omega, rfl, by have h : x.st <= 3 /\ x.co <= 3 /\ x.tc <= 63 := HU.out; show x.st <= 3 /\ x.co <= 3 /\ x.tc <= 63 /\ x.rc <= 64; omega, by first | exact H3.out.step (j := 3 + 1) 3 _ rfl | exact (H3.out.step (j := 3 + 1) 3 _ rfl).on (below_drew' _ _ 1) | exact (H3.out.on (below_drew' _ _ 1)).step (j := 3 + 1) 3 _ rfl⟩
      case measure => simp [intOf]
    · have hm' : 64 < x.rc := by omega
      have hno : toB x = false := toB_no (fun h => hm h.2.2.2.1.2)
      have hXX := HR.out
      rw [hno, toX_no hno] at hXX
      obtain ⟨rfl, rfl⟩ := hXX
      go_upto_region 5 with fail
      have H2 := rhide (HI.out.on (bal (Below.refl _ _) (.cells #[.func (.func 291) #[] #[], .int .i64 64] 403)))
      have HD := rhide (rowV_new wr [.func (.func 291) #[] #[], .int .i64 64] 403)
      generalize wr.alloc _ = v at H2 HD ⊢
      generalize wr.heap.size = D at HD ⊢
      clear x0 lt HI
      have x0 : v.cell? ⟨w.heap.size, 3, none⟩ = some (.int .u64 x.rc) := H2.out.wds.cell 3
      have q1 : v.cell? ⟨D, 1, none⟩ = some (.int .i64 64) := HD.out.cell 1
      clear HD
      go_quiet (fail)
      have H3 : Hid (ToI w (v.drewN nq) x 3) := H2.out.on (below_drew' _ _ _)
      clear x0 q1 H2
      generalize v.drewN nq = v2 at H3 ⊢
      have y0 : v2.cell? ⟨w.heap.size + 1, 0, none⟩ = some (.int .i64 0) := H3.out.res.cell 0
      have y1 : v2.cell? ⟨w.heap.size + 1, 1, none⟩ = some (.int .i64 0) := H3.out.res.cell 1
      have y2 : v2.cell? ⟨w.heap.size + 1, 2, none⟩ = some (.int .i64 0) := H3.out.res.cell 2
      have y3 : v2.cell? ⟨w.heap.size + 1, 3, none⟩ = some (.int .i64 0) := H3.out.res.cell 3
      have y4 : v2.cell? ⟨w.heap.size + 1, 4, none⟩ = some (.int .i64 0) := H3.out.res.cell 4
      have z := H3.out.res.fz
      go_wp2
      refine bodyPost_ret (v := .tuple #[.agg #[.int .i64 0, .int .i64 0, .int .i64 0, .int .i64 0, .int .i64 0], .bool false]) (by simp [results, Tryz.results247, go_sem, y0, y1, y2, y3, y4]) rfl ⟨rfl, ?_⟩
      exact bst (bst (bst (bst (bst H3.out.below (by omega) _ _) (by omega) _ _) (by omega) _ _) (by omega) _ _) (by omega) _ _
  · have HU := rhide hU
    clear hU
    have x0 : wr.cell? ⟨w.heap.size, 4, none⟩ = some (.int .u64 x.de) := HI.out.wds.cell 4
    have lt := HI.out.dst.lt
    by_cases hm : x.de <= 6
    · have hm' : ¬ 6 < x.de := by omega
      have hw : wrap64 x.de = x.de := by unfold wrap64; omega
      go_upto_region 5 with fail
      have H2 := rhide (HI.out.on (bal (Below.refl _ _) (.cells #[.func (.func 292) #[] #[], .int .i64 6] 403)))
      have HD := rhide (rowV_new wr [.func (.func 292) #[] #[], .int .i64 6] 403)
      have hD : w.heap.size + 1 + 1 < wr.heap.size := lt
      generalize wr.alloc _ = v at H2 HD ⊢
      generalize wr.heap.size = D at HD hD ⊢
      have hD1 : D ≠ w.heap.size + 1 + 1 := by omega
      have hD2 : w.heap.size ≠ w.heap.size + 1 + 1 := by omega
      clear x0 lt HI hD
      have x0 : v.cell? ⟨w.heap.size, 4, none⟩ = some (.int .u64 x.de) := H2.out.wds.cell 4
      have q0 : v.cell? ⟨D, 0, none⟩ = some (.func (.func 292) #[] #[]) := HD.out.cell 0
      have q1 : v.cell? ⟨D, 1, none⟩ = some (.int .i64 6) := HD.out.cell 1
      have y : v.cell? ⟨w.heap.size + 1 + 1, 4, none⟩ = some (.int .i64 0) := H2.out.dst.cell 4
      have z := H2.out.dst.fz 4
      clear HD
      go_quiet (fail)
      have H3 : Hid (ToI w (v.drewN nq) x 4) := H2.out.on (below_drew' _ _ _)
      have q0' : (v.drewN nq).cell? ⟨D, 0, none⟩ = some (.func (.func 292) #[] #[]) := q0
      clear x0 q0 q1 y z H2
      generalize v.drewN nq = v2 at H3 q0' ⊢
      have q0 := q0'
      clear q0'
      have x0 : v2.cell? ⟨w.heap.size, 4, none⟩ = some (.int .u64 x.de) := H3.out.wds.cell 4
      have y : v2.cell? ⟨w.heap.size + 1 + 1, 4, none⟩ = some (.int .i64 0) := H3.out.dst.cell 4
      have z := H3.out.dst.fz 4
      go_wp2
      go_region_held3 (fun w' => w'.cell? ⟨D, 0, none⟩ = some (.func (.func 292) #[] #[]) /\ w'.cell? ⟨w.heap.size, 4, none⟩ = some (.int .u64 x.de)) (first | exact ⟨by assumption, by assumption⟩ | (with_reducible exact keep2 hD1 hD2 q0 x0) | (with_reducible exact keep2d hD1 hD2 q0 x0) | go_keep)
      (first
        | (go_at_call 292; refine (p4_any _ _).mono ?_; rintro e2 w2 ⟨rfl, hw⟩; subst w2)
        | fail)
      go_wp2
      go_roundw
      case rel => exact ⟨4 + 1, by omega, rfl, by have h : x.st <= 3 /\ x.co <= 3 /\ x.tc <= 63 /\ x.rc <= 64 := HU.out; show x.st <= 3 /\ x.co <= 3 /\ x.tc <= 63 /\ x.rc <= 64 /\ x.de <= 6; omega, by first | exact H3.out.step (j := 4 + 1) 4 _ rfl | exact (H3.out.step (j := 4 + 1) 4 _ rfl).on (below_drew' _ _ 1) | exact (H3.out.on (below_drew' _ _ 1)).step (j := 4 + 1) 4 _ rfl⟩
      case measure => simp [intOf]
    · have hm' : 6 < x.de := by omega
      have hno : toB x = false := toB_no (fun h => hm h.2.2.2.2.2)
      have hXX := HR.out
      rw [hno, toX_no hno] at hXX
      obtain ⟨rfl, rfl⟩ := hXX
      go_upto_region 5 with fail
      have H2 := rhide (HI.out.on (bal (Below.refl _ _) (.cells #[.func (.func 292) #[] #[], .int .i64 6] 403)))
      have HD := rhide (rowV_new wr [.func (.func 292) #[] #[], .int .i64 6] 403)
      generalize wr.alloc _ = v at H2 HD ⊢
      generalize wr.heap.size = D at HD ⊢
      clear x0 lt HI
      have x0 : v.cell? ⟨w.heap.size, 4, none⟩ = some (.int .u64 x.de) := H2.out.wds.cell 4
      have q1 : v.cell? ⟨D, 1, none⟩ = some (.int .i64 6) := HD.out.cell 1
      clear HD
      go_quiet (fail)
      have H3 : Hid (ToI w (v.drewN nq) x 4) := H2.out.on (below_drew' _ _ _)
      clear x0 q1 H2
      generalize v.drewN nq = v2 at H3 ⊢
      have y0 : v2.cell? ⟨w.heap.size + 1, 0, none⟩ = some (.int .i64 0) := H3.out.res.cell 0
      have y1 : v2.cell? ⟨w.heap.size + 1, 1, none⟩ = some (.int .i64 0) := H3.out.res.cell 1
      have y2 : v2.cell? ⟨w.heap.size + 1, 2, none⟩ = some (.int .i64 0) := H3.out.res.cell 2
      have y3 : v2.cell? ⟨w.heap.size + 1, 3, none⟩ = some (.int .i64 0) := H3.out.res.cell 3
      have y4 : v2.cell? ⟨w.heap.size + 1, 4, none⟩ = some (.int .i64 0) := H3.out.res.cell 4
      have z := H3.out.res.fz
      go_wp2
      refine bodyPost_ret (v := .tuple #[.agg #[.int .i64 0, .int .i64 0, .int .i64 0, .int .i64 0, .int .i64 0], .bool false]) (by simp [results, Tryz.results247, go_sem, y0, y1, y2, y3, y4]) rfl ⟨rfl, ?_⟩
      exact bst (bst (bst (bst (bst H3.out.below (by omega) _ _) (by omega) _ _) (by omega) _ _) (by omega) _ _) (by omega) _ _
  · have hyes : toB x = true := toB_yes (by have h : x.st <= 3 /\ x.co <= 3 /\ x.tc <= 63 /\ x.rc <= 64 /\ x.de <= 6 := hU; unfold To; omega)
    have hXX := HR.out
    rw [hyes, toX_yes hyes] at hXX
    obtain ⟨rfl, rfl⟩ := hXX
    clear hU
    have x0 : wr.cell? ⟨w.heap.size + 1 + 1, 0, none⟩ = some (.int .i64 X.st) := HI.out.dst.cell 0
    have x1 : wr.cell? ⟨w.heap.size + 1 + 1, 1, none⟩ = some (.int .i64 X.co) := HI.out.dst.cell 1
    have x2 : wr.cell? ⟨w.heap.size + 1 + 1, 2, none⟩ = some (.int .i64 X.tc) := HI.out.dst.cell 2
    have x3 : wr.cell? ⟨w.heap.size + 1 + 1, 3, none⟩ = some (.int .i64 X.rc) := HI.out.dst.cell 3
    have x4 : wr.cell? ⟨w.heap.size + 1 + 1, 4, none⟩ = some (.int .i64 X.de) := HI.out.dst.cell 4
    have y0 : wr.cell? ⟨w.heap.size + 1, 0, none⟩ = some (.int .i64 0) := HI.out.res.cell 0
    have y1 : wr.cell? ⟨w.heap.size + 1, 1, none⟩ = some (.int .i64 0) := HI.out.res.cell 1
    have y2 : wr.cell? ⟨w.heap.size + 1, 2, none⟩ = some (.int .i64 0) := HI.out.res.cell 2
    have y3 : wr.cell? ⟨w.heap.size + 1, 3, none⟩ = some (.int .i64 0) := HI.out.res.cell 3
    have y4 : wr.cell? ⟨w.heap.size + 1, 4, none⟩ = some (.int .i64 0) := HI.out.res.cell 4
    have z := HI.out.res.fz
    go_wp2
    refine bodyPost_ret (v := .tuple #[.agg #[.int .i64 X.st, .int .i64 X.co, .int .i64 X.tc, .int .i64 X.rc, .int .i64 X.de], .bool true]) (by simp [results, Tryz.results247, go_sem, y0, y1, y2, y3, y4]) rfl ⟨rfl, ?_⟩
    exact bst (bst (bst (bst (bst HI.out.below (by omega) _ _) (by omega) _ _) (by omega) _ _) (by omega) _ _) (by omega) _ _
end Pthd
namespace Pthd
open Pbase Pfield Play Pmem Go.RowKit M
structure Mx (w : World) (p b N : Nat) (M : Nat -> Nat -> Int) : Prop where
 mem : MemIs w p b N M
 tb : Phead.TabW w
 fit : Fit M
 n1 : 1 <= N
 n64 : N <= 64
theorem Mx.on {w w' : World} {p b N : Nat} {M : Nat -> Nat -> Int} (h : Mx w p b N M) (hB : Below w.heap.size w w') : Mx w' p b N M :=
 ⟨h.mem.grown hB, h.tb.on hB, h.fit, h.n1, h.n64⟩
theorem Mx.but {w w' : World} {p b N : Nat} {M M' : Nat -> Nat -> Int} (h : Mx w p b N M) (hM : MemIs w' p b N M') (hF : Fit M') (hB : But b w w') : Mx w' p b N M' :=
 ⟨hM, h.tb.but hB (Phead.tab_ne h.mem h.tb), hF, h.n1, h.n64⟩
theorem wf_w {c : Th} (h : Fi c) : Wf c.w := by
 obtain ⟨f0, f1, f2, f3, f4⟩ := h
 exact ⟨(asW_fit f0).1, (asW_fit f1).1, (asW_fit f2).1, (asW_fit f3).1, (asW_fit f4).1⟩
theorem wo_any (c : Th) (hc : Fi c) (w : World) : Calls Tryz.prog 248 #[.agg #[.int .i64 c.st, .int .i64 c.co, .int .i64 c.tc, .int .i64 c.rc, .int .i64 c.de]] w fun e w' => e = .returned (.agg #[.int .u64 c.w.st, .int .u64 c.w.co, .int .u64 c.w.tc, .int .u64 c.w.rc, .int .u64 c.w.de]) /\ Below w.heap.size w w' := by
 have := words_any c w
 rwa [asW_eq hc.1, asW_eq hc.2.1, asW_eq hc.2.2.1, asW_eq hc.2.2.2.1, asW_eq hc.2.2.2.2] at this
theorem check_any (c : Th) (hc : Fi c) (w : World) : Calls Tryz.prog 200 #[.agg #[.int .i64 c.st, .int .i64 c.co, .int .i64 c.tc, .int .i64 c.rc, .int .i64 c.de]] w fun e w' => e = .returned (.int .i64 (ckE c)) /\ Below w.heap.size w w' := by
 have HO : Hid (∀ wc, Calls Tryz.prog 248 #[.agg #[.int .i64 c.st, .int .i64 c.co, .int .i64 c.tc, .int .i64 c.rc, .int .i64 c.de]] wc fun e w' => e = .returned (.agg #[.int .u64 c.w.st, .int .u64 c.w.co, .int .u64 c.w.tc, .int .u64 c.w.rc, .int .u64 c.w.de]) /\ Below wc.heap.size wc w') := fun wc => wo_any c hc wc
 have HT : Hid (∀ wc, Calls Tryz.prog 247 #[.agg #[.int .u64 c.w.st, .int .u64 c.w.co, .int .u64 c.w.tc, .int .u64 c.w.rc, .int .u64 c.w.de]] wc fun e w' => e = .returned (.tuple #[.agg #[.int .i64 (toX c.w).st, .int .i64 (toX c.w).co, .int .i64 (toX c.w).tc, .int .i64 (toX c.w).rc, .int .i64 (toX c.w).de], .bool (toB c)]) /\ Below wc.heap.size wc w') := fun wc => by
  have := thread_any c.w (wf_w hc) wc
  rwa [toB_w hc] at this
 clear hc
 generalize toX c.w = y at HT
 generalize c.w = x at HO HT
 have e : ckE c = if toB c = true then 0 else 1 := rfl
 rw [e]
 generalize toB c = R at HT
 have Hw : Hid (Below w.heap.size w (w.alloc (.cells #[.int .i64 c.st, .int .i64 c.co, .int .i64 c.tc, .int .i64 c.rc, .int .i64 c.de] 178))) := bal (Below.refl _ _) _
 cases R
 all_goals
  go_enter Tryz.func200, Tryz.ntmps200
  go_wp2_with (first
   | (go_at_call 248; refine (HO.out _).mono ?_; rintro e1 w1 ⟨rfl, hb⟩; have H1 : Hid (Below w.heap.size w w1) := Hw.out.trans (hb.mono Hw.out.size); clear hb HO Hw)
   | (go_at_call 247; refine (HT.out _).mono ?_; rintro e2 w2 ⟨rfl, hb⟩; have H2 : Hid (Below w.heap.size w w2) := H1.out.trans (hb.mono H1.out.size); clear hb HT H1)
   | fail)
  go_ret
  exact ⟨rfl, bal H2.out _⟩
theorem isT_any (p b N : Nat) (f : Int) (M : Nat -> Nat -> Int) (w : World) (hM : Mx w p b N M) : Calls Tryz.prog 250 #[.pointer (some ⟨p, 0, none⟩), .int .i64 f] w fun e w' => e = .returned (.bool (Phead.isE N M f 4 == 0)) /\ Below w.heap.size w w' := by
 have HI : Hid (Calls Tryz.prog 176 #[.pointer (some ⟨p, 0, none⟩), .int .i64 f, .int .i64 4] w fun e w' => e = .returned (.int .i64 (Phead.isE N M f 4)) /\ Below w.heap.size w w') := Phead.his_any p b N f 4 M w hM.n1 hM.n64 hM.mem hM.tb hM.fit
 clear hM
 generalize Phead.isE N M f 4 = E at HI ⊢
 go_enter Tryz.func250, Tryz.ntmps250
 go_wp2_with (first
  | (go_at_call 176; refine HI.out.mono ?_; rintro e1 w1 ⟨rfl, hb⟩; have H1 := rhide hb; clear hb HI)
  | fail)
 go_ret
 exact ⟨rfl, H1.out⟩
def rdL (x : Th) : Nat -> List Value
 | 0 => [.int .u64 0, .int .u64 0, .int .u64 0, .int .u64 0, .int .u64 0]
 | 1 => [.int .u64 x.st, .int .u64 0, .int .u64 0, .int .u64 0, .int .u64 0]
 | 2 => [.int .u64 x.st, .int .u64 x.co, .int .u64 0, .int .u64 0, .int .u64 0]
 | 3 => [.int .u64 x.st, .int .u64 x.co, .int .u64 x.tc, .int .u64 0, .int .u64 0]
 | 4 => [.int .u64 x.st, .int .u64 x.co, .int .u64 x.tc, .int .u64 x.rc, .int .u64 0]
 | _ => [.int .u64 x.st, .int .u64 x.co, .int .u64 x.tc, .int .u64 x.rc, .int .u64 x.de]
structure RdI (w W : World) (p b N : Nat) (M : Nat -> Nat -> Int) (x : Th) (k : Nat) : Prop where
 res : RowV W w.heap.size (rdL x 0)
 all : RowV W (w.heap.size + 1) (rdL x k)
 mem : MemIs W p b N M
 below : Below w.heap.size w W
theorem rd_new {w : World} {p b N : Nat} {M : Nat -> Nat -> Int} (x : Th) (h : MemIs w p b N M) : RdI w ((w.alloc (.cells #[.int .u64 0, .int .u64 0, .int .u64 0, .int .u64 0, .int .u64 0] 375)).alloc (.cells #[.int .u64 0, .int .u64 0, .int .u64 0, .int .u64 0, .int .u64 0] 375)) p b N M x 0 := by
 have b0 := rowV_new w (rdL x 0) 375
 have b1 := rowV_new (w.alloc (.cells #[.int .u64 0, .int .u64 0, .int .u64 0, .int .u64 0, .int .u64 0] 375)) (rdL x 0) 375
 simp only [World.size_alloc] at b1
 exact ⟨b0.on (bal (Below.refl _ _) _), b1, h.grown (bal (bal (Below.refl _ _) _) _), bal (bal (Below.refl _ _) _) _⟩
theorem RdI.step {w W : World} {p b N : Nat} {M : Nat -> Nat -> Int} {x : Th} {k j : Nat} (h : RdI w W p b N M x k) (hp : p < w.heap.size) (hb : b < w.heap.size) (i : Nat) (v : Value) (hv : (rdL x k).set i v = rdL x j) : RdI w (W.setCell ⟨w.heap.size + 1, i, none⟩ v) p b N M x j :=
 ⟨h.res.other (by omega) _ _, by rw [<- hv]; exact h.all.set i v, h.mem.on (heap_setCell_other _ _ _ _ (by show p ≠ w.heap.size + 1; omega)) (heap_setCell_other _ _ _ _ (by show b ≠ w.heap.size + 1; omega)), bst h.below (by omega) _ _⟩
theorem read_any (p b N : Nat) (f : Int) (M : Nat -> Nat -> Int) (w : World) (hM : Mx w p b N M) (hf : okF N f = true) : Calls Tryz.prog 251 #[.pointer (some ⟨p, 0, none⟩), .int .i64 f] w fun e w' => e = .returned (.tuple #[.agg #[.int .u64 (thOf M f).st, .int .u64 (thOf M f).co, .int .u64 (thOf M f).tc, .int .u64 (thOf M f).rc, .int .u64 (thOf M f).de], .int .i64 0]) /\ Below w.heap.size w w' := by
 have hL : ∀ k : Nat, k < 5 -> ∀ wc, MemIs wc p b N M -> Calls Tryz.prog 55 #[.pointer (some ⟨p, 0, none⟩), .int .i64 f, .int .i64 ((4 + k : Nat) : Int)] wc fun e w' => e = .returned (.tuple #[.int .u64 (M f.toNat (4 + k)), .int .i64 0]) /\ w' = wc := fun k hk wc h => by
  have := Pmem.load_any p b N f ((4 + k : Nat) : Int) M wc hM.n1 hM.n64 h
  have ho : okW N f ((4 + k : Nat) : Int) = true := by unfold okW; rw [hf]; simp; omega
  rwa [show errW N f ((4 + k : Nat) : Int) = 0 by unfold errW; rw [ho]; rfl, show ldM N M f ((4 + k : Nat) : Int) = M f.toNat (4 + k) by unfold ldM; rw [ho]; rfl] at this
 have HL0 : Hid (∀ wc, MemIs wc p b N M -> Calls Tryz.prog 55 #[.pointer (some ⟨p, 0, none⟩), .int .i64 f, .int .i64 4] wc fun e w' => e = .returned (.tuple #[.int .u64 (thOf M f).st, .int .i64 0]) /\ w' = wc) := hL 0 (by omega)
 have HL1 : Hid (∀ wc, MemIs wc p b N M -> Calls Tryz.prog 55 #[.pointer (some ⟨p, 0, none⟩), .int .i64 f, .int .i64 5] wc fun e w' => e = .returned (.tuple #[.int .u64 (thOf M f).co, .int .i64 0]) /\ w' = wc) := hL 1 (by omega)
 have HL2 : Hid (∀ wc, MemIs wc p b N M -> Calls Tryz.prog 55 #[.pointer (some ⟨p, 0, none⟩), .int .i64 f, .int .i64 6] wc fun e w' => e = .returned (.tuple #[.int .u64 (thOf M f).tc, .int .i64 0]) /\ w' = wc) := hL 2 (by omega)
 have HL3 : Hid (∀ wc, MemIs wc p b N M -> Calls Tryz.prog 55 #[.pointer (some ⟨p, 0, none⟩), .int .i64 f, .int .i64 7] wc fun e w' => e = .returned (.tuple #[.int .u64 (thOf M f).rc, .int .i64 0]) /\ w' = wc) := hL 3 (by omega)
 have HL4 : Hid (∀ wc, MemIs wc p b N M -> Calls Tryz.prog 55 #[.pointer (some ⟨p, 0, none⟩), .int .i64 f, .int .i64 8] wc fun e w' => e = .returned (.tuple #[.int .u64 (thOf M f).de, .int .i64 0]) /\ w' = wc) := hL 4 (by omega)
 have H0 : Hid (RdI w _ p b N M (thOf M f) 0) := rd_new (thOf M f) hM.mem
 have hp := hM.mem.lt.1
 have hb := hM.mem.lt.2
 clear hL hM hf
 generalize thOf M f = x at *
 go_enter Tryz.func251, Tryz.ntmps251
 go_wp2
 generalize (w.alloc _).alloc _ = w1 at H0 ⊢
 go_loopw [10] (fun i wr => ∃ k : Nat, k <= 5 /\ i = .int .i64 k /\ RdI w wr p b N M x k) (fun i _ => 5 - (intOf i).toNat)
 case atStart => exact ⟨0, by omega, rfl, H0.out⟩
 case round =>
  obtain ⟨k, hk, rfl, hI⟩ := hrel
  have HI := rhide hI
  clear hI H0
  rcases (show k = 0 \/ k = 1 \/ k = 2 \/ k = 3 \/ k = 4 \/ k = 5 by omega) with rfl | rfl | rfl | rfl | rfl | rfl
  · have y : wr.cell? ⟨w.heap.size + 1, 0, none⟩ = some (.int .u64 0) := HI.out.all.cell 0
    have z := HI.out.all.fz 0
    go_wp2_with (first
     | (go_at_call 55; refine (HL0.out _ HI.out.mem).mono ?_; rintro e2 w2 ⟨rfl, hw⟩; subst w2)
     | fail)
    go_roundw
    case rel => exact ⟨0 + 1, by omega, rfl, HI.out.step (j := 0 + 1) hp hb 0 _ rfl⟩
    case measure => simp [intOf]
  · have y : wr.cell? ⟨w.heap.size + 1, 1, none⟩ = some (.int .u64 0) := HI.out.all.cell 1
    have z := HI.out.all.fz 1
    go_wp2_with (first
     | (go_at_call 55; refine (HL1.out _ HI.out.mem).mono ?_; rintro e2 w2 ⟨rfl, hw⟩; subst w2)
     | fail)
    go_roundw
    case rel => exact ⟨1 + 1, by omega, rfl, HI.out.step (j := 1 + 1) hp hb 1 _ rfl⟩
    case measure => simp [intOf]
  · have y : wr.cell? ⟨w.heap.size + 1, 2, none⟩ = some (.int .u64 0) := HI.out.all.cell 2
    have z := HI.out.all.fz 2
    go_wp2_with (first
     | (go_at_call 55; refine (HL2.out _ HI.out.mem).mono ?_; rintro e2 w2 ⟨rfl, hw⟩; subst w2)
     | fail)
    go_roundw
    case rel => exact ⟨2 + 1, by omega, rfl, HI.out.step (j := 2 + 1) hp hb 2 _ rfl⟩
    case measure => simp [intOf]
  · have y : wr.cell? ⟨w.heap.size + 1, 3, none⟩ = some (.int .u64 0) := HI.out.all.cell 3
    have z := HI.out.all.fz 3
    go_wp2_with (first
     | (go_at_call 55; refine (HL3.out _ HI.out.mem).mono ?_; rintro e2 w2 ⟨rfl, hw⟩; subst w2)
     | fail)
    go_roundw
    case rel => exact ⟨3 + 1, by omega, rfl, HI.out.step (j := 3 + 1) hp hb 3 _ rfl⟩
    case measure => simp [intOf]
  · have y : wr.cell? ⟨w.heap.size + 1, 4, none⟩ = some (.int .u64 0) := HI.out.all.cell 4
    have z := HI.out.all.fz 4
    go_wp2_with (first
     | (go_at_call 55; refine (HL4.out _ HI.out.mem).mono ?_; rintro e2 w2 ⟨rfl, hw⟩; subst w2)
     | fail)
    go_roundw
    case rel => exact ⟨4 + 1, by omega, rfl, HI.out.step (j := 4 + 1) hp hb 4 _ rfl⟩
    case measure => simp [intOf]
  · have x0 : wr.cell? ⟨w.heap.size + 1, 0, none⟩ = some (.int .u64 x.st) := HI.out.all.cell 0
    have x1 : wr.cell? ⟨w.heap.size + 1, 1, none⟩ = some (.int .u64 x.co) := HI.out.all.cell 1
    have x2 : wr.cell? ⟨w.heap.size + 1, 2, none⟩ = some (.int .u64 x.tc) := HI.out.all.cell 2
    have x3 : wr.cell? ⟨w.heap.size + 1, 3, none⟩ = some (.int .u64 x.rc) := HI.out.all.cell 3
    have x4 : wr.cell? ⟨w.heap.size + 1, 4, none⟩ = some (.int .u64 x.de) := HI.out.all.cell 4
    have y0 : wr.cell? ⟨w.heap.size, 0, none⟩ = some (.int .u64 0) := HI.out.res.cell 0
    have y1 : wr.cell? ⟨w.heap.size, 1, none⟩ = some (.int .u64 0) := HI.out.res.cell 1
    have y2 : wr.cell? ⟨w.heap.size, 2, none⟩ = some (.int .u64 0) := HI.out.res.cell 2
    have y3 : wr.cell? ⟨w.heap.size, 3, none⟩ = some (.int .u64 0) := HI.out.res.cell 3
    have y4 : wr.cell? ⟨w.heap.size, 4, none⟩ = some (.int .u64 0) := HI.out.res.cell 4
    have z := HI.out.res.fz
    go_wp2
    refine bodyPost_ret (v := .tuple #[.agg #[.int .u64 x.st, .int .u64 x.co, .int .u64 x.tc, .int .u64 x.rc, .int .u64 x.de], .int .i64 0]) (by simp [results, Tryz.results251, go_sem, y0, y1, y2, y3, y4]) rfl ⟨rfl, ?_⟩
    exact bst (bst (bst (bst (bst HI.out.below (by omega) _ _) (by omega) _ _) (by omega) _ _) (by omega) _ _) (by omega) _ _
theorem wix0 (x : Th) : ∀ w : World, (Instr.index 375 (.agg #[.int .u64 x.st, .int .u64 x.co, .int .u64 x.tc, .int .u64 x.rc, .int .u64 x.de]) (.int .i64 0)).run Tryz.prog w = .ok (.int .u64 x.st) w := fun _ => by kernel_rfl
theorem wix1 (x : Th) : ∀ w : World, (Instr.index 375 (.agg #[.int .u64 x.st, .int .u64 x.co, .int .u64 x.tc, .int .u64 x.rc, .int .u64 x.de]) (.int .i64 1)).run Tryz.prog w = .ok (.int .u64 x.co) w := fun _ => by kernel_rfl
theorem wix2 (x : Th) : ∀ w : World, (Instr.index 375 (.agg #[.int .u64 x.st, .int .u64 x.co, .int .u64 x.tc, .int .u64 x.rc, .int .u64 x.de]) (.int .i64 2)).run Tryz.prog w = .ok (.int .u64 x.tc) w := fun _ => by kernel_rfl
theorem wix3 (x : Th) : ∀ w : World, (Instr.index 375 (.agg #[.int .u64 x.st, .int .u64 x.co, .int .u64 x.tc, .int .u64 x.rc, .int .u64 x.de]) (.int .i64 3)).run Tryz.prog w = .ok (.int .u64 x.rc) w := fun _ => by kernel_rfl
theorem wix4 (x : Th) : ∀ w : World, (Instr.index 375 (.agg #[.int .u64 x.st, .int .u64 x.co, .int .u64 x.tc, .int .u64 x.rc, .int .u64 x.de]) (.int .i64 4)).run Tryz.prog w = .ok (.int .u64 x.de) w := fun _ => by kernel_rfl
structure WrI (w W : World) (p b N : Nat) (M : Nat -> Nat -> Int) : Prop where
 mem : MemIs W p b N M
 but : But b w W
theorem WrI.turn {w W : World} {p b N : Nat} {M M' : Nat -> Nat -> Int} (h : WrI w W p b N M) (he : M' = M') : WrI w (W.setRow b (cellsM N M')) p b N M' := ⟨h.mem.set M', h.but.setRow _⟩
def laK (N : Nat) (M : Nat -> Nat -> Int) (f : Int) (c : Th) (k : Nat) : Nat -> Nat -> Int := layF N M f (c.ws.take k)
theorem laK0 (N : Nat) (M : Nat -> Nat -> Int) (f : Int) (c : Th) : stW N (laK N M f c 0) f 4 c.st = laK N M f c 1 := lay_step (l := c.ws.take 0) (by show 0 < 32; omega) c.st
theorem laK1 (N : Nat) (M : Nat -> Nat -> Int) (f : Int) (c : Th) : stW N (laK N M f c 1) f 5 c.co = laK N M f c 2 := lay_step (l := c.ws.take 1) (by show 1 < 32; omega) c.co
theorem laK2 (N : Nat) (M : Nat -> Nat -> Int) (f : Int) (c : Th) : stW N (laK N M f c 2) f 6 c.tc = laK N M f c 3 := lay_step (l := c.ws.take 2) (by show 2 < 32; omega) c.tc
theorem laK3 (N : Nat) (M : Nat -> Nat -> Int) (f : Int) (c : Th) : stW N (laK N M f c 3) f 7 c.rc = laK N M f c 4 := lay_step (l := c.ws.take 3) (by show 3 < 32; omega) c.rc
theorem laK4 (N : Nat) (M : Nat -> Nat -> Int) (f : Int) (c : Th) : stW N (laK N M f c 4) f 8 c.de = laK N M f c 5 := lay_step (l := c.ws.take 4) (by show 4 < 32; omega) c.de
theorem write_any (p b N : Nat) (f : Int) (c : Th) (M : Nat -> Nat -> Int) (w : World) (hM : Mx w p b N M) (hc : To c) (hf : okF N f = true) :
 Calls Tryz.prog 201 #[.pointer (some ⟨p, 0, none⟩), .int .i64 f, .agg #[.int .i64 c.st, .int .i64 c.co, .int .i64 c.tc, .int .i64 c.rc, .int .i64 c.de]] w fun e w' => e = .returned (.int .i64 0) /\ Mx w' p b N (layF N M f c.ws) /\ But b w w' := by
 have HO : Hid (∀ wc, Calls Tryz.prog 248 #[.agg #[.int .i64 c.st, .int .i64 c.co, .int .i64 c.tc, .int .i64 c.rc, .int .i64 c.de]] wc fun e w' => e = .returned (.agg #[.int .u64 c.st, .int .u64 c.co, .int .u64 c.tc, .int .u64 c.rc, .int .u64 c.de]) /\ Below wc.heap.size wc w') := fun wc => by
  have := wo_any c hc.fi wc
  rwa [w_to hc] at this
 have hS : ∀ (k : Nat) (v : Int) (M1 : Nat -> Nat -> Int), k < 5 -> ∀ wc, WrI w wc p b N M1 -> Calls Tryz.prog 57 #[.pointer (some ⟨p, 0, none⟩), .int .i64 f, .int .i64 ((4 + k : Nat) : Int), .int .u64 v] wc fun e w' => e = .returned (.int .i64 0) /\ WrI w w' p b N (stW N M1 f ((4 + k : Nat) : Int) v) := fun k v M1 hk wc h => by
  have := store_any p b N f ((4 + k : Nat) : Int) v M1 wc hM.n1 hM.n64 h.mem
  have ho : okW N f ((4 + k : Nat) : Int) = true := by unfold okW; rw [hf]; simp; omega
  rw [show errW N f ((4 + k : Nat) : Int) = 0 by unfold errW; rw [ho]; rfl] at this
  exact this.mono fun e w' ⟨h1, h2⟩ => ⟨h1, by rw [h2]; exact h.turn rfl⟩
 have HS0 : Hid (∀ wc, WrI w wc p b N (laK N M f c 0) -> Calls Tryz.prog 57 #[.pointer (some ⟨p, 0, none⟩), .int .i64 f, .int .i64 4, .int .u64 c.st] wc fun e w' => e = .returned (.int .i64 0) /\ WrI w w' p b N (laK N M f c 1)) := fun wc h => by
  have := hS 0 c.st _ (by omega) wc h
  rwa [show ((4 + 0 : Nat) : Int) = 4 from rfl, laK0] at this
 have i0 := wix0 c
 have HS1 : Hid (∀ wc, WrI w wc p b N (laK N M f c 1) -> Calls Tryz.prog 57 #[.pointer (some ⟨p, 0, none⟩), .int .i64 f, .int .i64 5, .int .u64 c.co] wc fun e w' => e = .returned (.int .i64 0) /\ WrI w w' p b N (laK N M f c 2)) := fun wc h => by
  have := hS 1 c.co _ (by omega) wc h
  rwa [show ((4 + 1 : Nat) : Int) = 5 from rfl, laK1] at this
 have i1 := wix1 c
 have HS2 : Hid (∀ wc, WrI w wc p b N (laK N M f c 2) -> Calls Tryz.prog 57 #[.pointer (some ⟨p, 0, none⟩), .int .i64 f, .int .i64 6, .int .u64 c.tc] wc fun e w' => e = .returned (.int .i64 0) /\ WrI w w' p b N (laK N M f c 3)) := fun wc h => by
  have := hS 2 c.tc _ (by omega) wc h
  rwa [show ((4 + 2 : Nat) : Int) = 6 from rfl, laK2] at this
 have i2 := wix2 c
 have HS3 : Hid (∀ wc, WrI w wc p b N (laK N M f c 3) -> Calls Tryz.prog 57 #[.pointer (some ⟨p, 0, none⟩), .int .i64 f, .int .i64 7, .int .u64 c.rc] wc fun e w' => e = .returned (.int .i64 0) /\ WrI w w' p b N (laK N M f c 4)) := fun wc h => by
  have := hS 3 c.rc _ (by omega) wc h
  rwa [show ((4 + 3 : Nat) : Int) = 7 from rfl, laK3] at this
 have i3 := wix3 c
 have HS4 : Hid (∀ wc, WrI w wc p b N (laK N M f c 4) -> Calls Tryz.prog 57 #[.pointer (some ⟨p, 0, none⟩), .int .i64 f, .int .i64 8, .int .u64 c.de] wc fun e w' => e = .returned (.int .i64 0) /\ WrI w w' p b N (laK N M f c 5)) := fun wc h => by
  have := hS 4 c.de _ (by omega) wc h
  rwa [show ((4 + 4 : Nat) : Int) = 8 from rfl, laK4] at this
 have i4 := wix4 c
 have Hw : Hid (WrI w (w.alloc (.cells #[.int .i64 c.st, .int .i64 c.co, .int .i64 c.tc, .int .i64 c.rc, .int .i64 c.de] 178)) p b N (laK N M f c 0)) := by
  have e : laK N M f c 0 = M := lay_nil N M f
  rw [e]
  exact ⟨hM.mem.grown (bal (Below.refl _ _) _), But.of_below b (bal (Below.refl _ _) _)⟩
 have HE : Hid (∀ W, WrI w W p b N (laK N M f c 5) -> Mx W p b N (layF N M f c.ws) /\ But b w W) := fun W h => ⟨hM.but h.mem (fit_lay hM.fit N f hc.fit) h.but, h.but⟩
 clear hS hM hf hc
 generalize layF N M f c.ws = M5 at HE ⊢
 generalize laK N M f c = K at *
 go_enter Tryz.func201, Tryz.ntmps201
 go_wp2_with (first
  | (go_at_call 248; refine (HO.out _).mono ?_; rintro e1 w1 ⟨rfl, hb⟩; have H1 : Hid (WrI w w1 p b N (K 0)) := ⟨Hw.out.mem.grown hb, Hw.out.but.trans (But.of_below b hb)⟩; clear hb HO Hw)
  | fail)
 go_loopw [12] (fun i wr => ∃ k : Nat, k <= 5 /\ i = .int .i64 k /\ WrI w wr p b N (K k)) (fun i _ => 5 - (intOf i).toNat)
 case atStart => exact ⟨0, by omega, rfl, H1.out⟩
 case round =>
  obtain ⟨k, hk, rfl, hI⟩ := hrel
  have HI := rhide hI
  clear hI H1
  rcases (show k = 0 \/ k = 1 \/ k = 2 \/ k = 3 \/ k = 4 \/ k = 5 by omega) with rfl | rfl | rfl | rfl | rfl | rfl
  · go_wp2_with (first
     | (go_at_call 57; refine (HS0.out _ HI.out).mono ?_; rintro e2 w2 ⟨rfl, hw⟩; have H2 := rhide hw; clear hw)
     | fail)
    go_roundw
    case rel => exact ⟨0 + 1, by omega, rfl, H2.out⟩
    case measure => simp [intOf]
  · go_wp2_with (first
     | (go_at_call 57; refine (HS1.out _ HI.out).mono ?_; rintro e2 w2 ⟨rfl, hw⟩; have H2 := rhide hw; clear hw)
     | fail)
    go_roundw
    case rel => exact ⟨1 + 1, by omega, rfl, H2.out⟩
    case measure => simp [intOf]
  · go_wp2_with (first
     | (go_at_call 57; refine (HS2.out _ HI.out).mono ?_; rintro e2 w2 ⟨rfl, hw⟩; have H2 := rhide hw; clear hw)
     | fail)
    go_roundw
    case rel => exact ⟨2 + 1, by omega, rfl, H2.out⟩
    case measure => simp [intOf]
  · go_wp2_with (first
     | (go_at_call 57; refine (HS3.out _ HI.out).mono ?_; rintro e2 w2 ⟨rfl, hw⟩; have H2 := rhide hw; clear hw)
     | fail)
    go_roundw
    case rel => exact ⟨3 + 1, by omega, rfl, H2.out⟩
    case measure => simp [intOf]
  · go_wp2_with (first
     | (go_at_call 57; refine (HS4.out _ HI.out).mono ?_; rintro e2 w2 ⟨rfl, hw⟩; have H2 := rhide hw; clear hw)
     | fail)
    go_roundw
    case rel => exact ⟨4 + 1, by omega, rfl, H2.out⟩
    case measure => simp [intOf]
  · go_wp2
    go_ret
    exact ⟨rfl, HE.out _ HI.out⟩
structure GtI (w W : World) (p b N : Nat) (M : Nat -> Nat -> Int) : Prop where
 res : RowT W w.heap.size th0
 mx : Mx W p b N M
 below : Below w.heap.size w W
theorem gtI_new {w : World} {p b N : Nat} {M : Nat -> Nat -> Int} (h : Mx w p b N M) : GtI w (w.alloc (.cells #[.int .i64 0, .int .i64 0, .int .i64 0, .int .i64 0, .int .i64 0] 178)) p b N M :=
 ⟨rowT_new w th0, h.on (bal (Below.refl _ _) _), bal (Below.refl _ _) _⟩
theorem GtI.on {w W W' : World} {p b N : Nat} {M : Nat -> Nat -> Int} (h : GtI w W p b N M) (hB : Below W.heap.size W W') : GtI w W' p b N M :=
 ⟨h.res.on hB, h.mx.on hB, h.below.trans (hB.mono h.below.size)⟩
theorem get_any (p b N : Nat) (f : Int) (M : Nat -> Nat -> Int) (w : World) (hM : Mx w p b N M) :
 Calls Tryz.prog 203 #[.pointer (some ⟨p, 0, none⟩), .int .i64 f] w fun e w' => e = .returned (.tuple #[.agg #[.int .i64 (gtT N M f).st, .int .i64 (gtT N M f).co, .int .i64 (gtT N M f).tc, .int .i64 (gtT N M f).rc, .int .i64 (gtT N M f).de], .int .i64 (gtE N M f)]) /\ Below w.heap.size w w' := by
 have HIs : Hid (∀ wc, Mx wc p b N M -> Calls Tryz.prog 250 #[.pointer (some ⟨p, 0, none⟩), .int .i64 f] wc fun e w' => e = .returned (.bool (Phead.isE N M f 4 == 0)) /\ Below wc.heap.size wc w') := fun wc h => isT_any p b N f M wc h
 have H0 := rhide (gtI_new hM)
 have hfit := hM.fit
 clear hM
 by_cases hk : Phead.isE N M f 4 = 0
 case neg =>
  have e1 : gtE N M f = 4 := by unfold gtE; rw [if_neg hk]
  have e2 : gtT N M f = th0 := by unfold gtT; rw [if_neg (by rw [e1]; decide)]
  rw [e1, e2, show (Phead.isE N M f 4 == 0) = false by simp [hk]] at *
  clear hk e1 e2 hfit
  go_enter Tryz.func203, Tryz.ntmps203
  go_wp2_with (first
   | (go_at_call 250; refine (HIs.out _ H0.out.mx).mono ?_; rintro e1 w1 ⟨rfl, hb⟩; have H1 := rhide (H0.out.on hb); clear hb HIs H0; have x0 := H1.out.res.c0; have x1 := H1.out.res.c1; have x2 := H1.out.res.c2; have x3 := H1.out.res.c3; have x4 := H1.out.res.c4; have z := H1.out.res.fz)
   | fail)
  refine bodyPost_ret (v := .tuple #[.agg #[.int .i64 0, .int .i64 0, .int .i64 0, .int .i64 0, .int .i64 0], .int .i64 4]) (by simp [results, Tryz.results203, go_sem, x0, x1, x2, x3, x4]) rfl ⟨rfl, ?_⟩
  exact bst (bst (bst (bst (bst H1.out.below (Nat.le_refl _) _ _) (Nat.le_refl _) _ _) (Nat.le_refl _) _ _) (Nat.le_refl _) _ _) (Nat.le_refl _) _ _
 case pos =>
  have hf := isE_ok hk
  have HRd : Hid (∀ wc, Mx wc p b N M -> Calls Tryz.prog 251 #[.pointer (some ⟨p, 0, none⟩), .int .i64 f] wc fun e w' => e = .returned (.tuple #[.agg #[.int .u64 (thOf M f).st, .int .u64 (thOf M f).co, .int .u64 (thOf M f).tc, .int .u64 (thOf M f).rc, .int .u64 (thOf M f).de], .int .i64 0]) /\ Below wc.heap.size wc w') := fun wc h => read_any p b N f M wc h hf
  have HTo : Hid (∀ wc, Calls Tryz.prog 247 #[.agg #[.int .u64 (thOf M f).st, .int .u64 (thOf M f).co, .int .u64 (thOf M f).tc, .int .u64 (thOf M f).rc, .int .u64 (thOf M f).de]] wc fun e w' => e = .returned (.tuple #[.agg #[.int .i64 (toX (thOf M f)).st, .int .i64 (toX (thOf M f)).co, .int .i64 (toX (thOf M f)).tc, .int .i64 (toX (thOf M f)).rc, .int .i64 (toX (thOf M f)).de], .bool (toB (thOf M f))]) /\ Below wc.heap.size wc w') := fun wc => thread_any (thOf M f) ⟨(hfit _ _).1, (hfit _ _).1, (hfit _ _).1, (hfit _ _).1, (hfit _ _).1⟩ wc
  have e1 : gtE N M f = if toB (thOf M f) = true then 0 else 12 := by unfold gtE; rw [if_pos hk]
  have e2 : gtT N M f = toX (thOf M f) := by
   unfold gtT toX
   rw [e1]
   cases toB (thOf M f) <;> rfl
  rw [e1, e2, show (Phead.isE N M f 4 == 0) = true by simp [hk]] at *
  have e3 : toB (thOf M f) = false -> toX (thOf M f) = th0 := toX_no
  clear hk e1 e2 hfit hf
  generalize toX (thOf M f) = y at HTo e3 ⊢
  generalize toB (thOf M f) = R at HTo e3 ⊢
  generalize thOf M f = x at HRd HTo
  cases R
  · obtain rfl := e3 rfl
    clear e3
    go_enter Tryz.func203, Tryz.ntmps203
    go_wp2_with (first
     | (go_at_call 250; refine (HIs.out _ H0.out.mx).mono ?_; rintro e1 w1 ⟨rfl, hb⟩; have H1 := rhide (H0.out.on hb); clear hb HIs H0)
     | (go_at_call 251; refine (HRd.out _ H1.out.mx).mono ?_; rintro e2 w2 ⟨rfl, hb⟩; have H2 := rhide ((H1.out.on hb).on (bal (Below.refl _ _) (.cells #[.int .u64 x.st, .int .u64 x.co, .int .u64 x.tc, .int .u64 x.rc, .int .u64 x.de] 375))); clear hb HRd H1)
     | (go_at_call 247; refine (HTo.out _).mono ?_; rintro e3 w3 ⟨rfl, hb⟩; have H3 := rhide (H2.out.on hb); clear hb HTo H2; have H4 := rhide (H3.out.on (bal (Below.refl _ _) (.cells #[.int .i64 th0.st, .int .i64 th0.co, .int .i64 th0.tc, .int .i64 th0.rc, .int .i64 th0.de] 178))); have x0 := H4.out.res.c0; have x1 := H4.out.res.c1; have x2 := H4.out.res.c2; have x3 := H4.out.res.c3; have x4 := H4.out.res.c4; have z := H4.out.res.fz)
     | fail)
    refine bodyPost_ret (v := .tuple #[.agg #[.int .i64 0, .int .i64 0, .int .i64 0, .int .i64 0, .int .i64 0], .int .i64 12]) (by simp [results, Tryz.results203, go_sem, x0, x1, x2, x3, x4]) rfl ⟨rfl, ?_⟩
    exact bst (bst (bst (bst (bst H4.out.below (Nat.le_refl _) _ _) (Nat.le_refl _) _ _) (Nat.le_refl _) _ _) (Nat.le_refl _) _ _) (Nat.le_refl _) _ _
  · clear e3
    go_enter Tryz.func203, Tryz.ntmps203
    go_wp2_with (first
     | (go_at_call 250; refine (HIs.out _ H0.out.mx).mono ?_; rintro e1 w1 ⟨rfl, hb⟩; have H1 := rhide (H0.out.on hb); clear hb HIs H0)
     | (go_at_call 251; refine (HRd.out _ H1.out.mx).mono ?_; rintro e2 w2 ⟨rfl, hb⟩; have H2 := rhide ((H1.out.on hb).on (bal (Below.refl _ _) (.cells #[.int .u64 x.st, .int .u64 x.co, .int .u64 x.tc, .int .u64 x.rc, .int .u64 x.de] 375))); clear hb HRd H1)
     | (go_at_call 247; refine (HTo.out _).mono ?_; rintro e3 w3 ⟨rfl, hb⟩; have H3 := rhide (H2.out.on hb); clear hb HTo H2; have H4 := rhide (H3.out.on (bal (Below.refl _ _) (.cells #[.int .i64 y.st, .int .i64 y.co, .int .i64 y.tc, .int .i64 y.rc, .int .i64 y.de] 178))); have x0 := H4.out.res.c0; have x1 := H4.out.res.c1; have x2 := H4.out.res.c2; have x3 := H4.out.res.c3; have x4 := H4.out.res.c4; have z := H4.out.res.fz)
     | fail)
    refine bodyPost_ret (v := .tuple #[.agg #[.int .i64 y.st, .int .i64 y.co, .int .i64 y.tc, .int .i64 y.rc, .int .i64 y.de], .int .i64 0]) (by simp [results, Tryz.results203, go_sem, x0, x1, x2, x3, x4]) rfl ⟨rfl, ?_⟩
    exact bst (bst (bst (bst (bst H4.out.below (Nat.le_refl _) _ _) (Nat.le_refl _) _ _) (Nat.le_refl _) _ _) (Nat.le_refl _) _ _) (Nat.le_refl _) _ _
structure Bx (w W : World) (p b N : Nat) (M : Nat -> Nat -> Int) (c : Th) : Prop where
 mx : Mx W p b N M
 box : RowT W w.heap.size c
 but : But b w W
 lt : b < w.heap.size
theorem bx_new {w : World} {p b N : Nat} {M : Nat -> Nat -> Int} (h : Mx w p b N M) (c : Th) : Bx w (w.alloc (.cells #[.int .i64 c.st, .int .i64 c.co, .int .i64 c.tc, .int .i64 c.rc, .int .i64 c.de] 178)) p b N M c :=
 ⟨h.on (bal (Below.refl _ _) _), rowT_new w c, But.of_below b (bal (Below.refl _ _) _), h.mem.lt.2⟩
theorem Bx.on {w W W' : World} {p b N : Nat} {M : Nat -> Nat -> Int} {c : Th} (h : Bx w W p b N M c) (hB : Below W.heap.size W W') : Bx w W' p b N M c :=
 ⟨h.mx.on hB, h.box.on hB, h.but.trans (But.of_below b hB), h.lt⟩
theorem Bx.turn {w W W' : World} {p b N : Nat} {M M' : Nat -> Nat -> Int} {c : Th} (h : Bx w W p b N M c) (hM : Mx W' p b N M') (hB : But b W W') : Bx w W' p b N M' c :=
 ⟨hM, h.box.but hB (Nat.ne_of_gt h.lt), h.but.trans hB, h.lt⟩
theorem make_any (p b N : Nat) (f : Int) (c : Th) (M : Nat -> Nat -> Int) (w : World) (hM : Mx w p b N M) (hc : Fi c) :
 Calls Tryz.prog 124 #[.pointer (some ⟨p, 0, none⟩), .int .i64 f, .agg #[.int .i64 c.st, .int .i64 c.co, .int .i64 c.tc, .int .i64 c.rc, .int .i64 c.de]] w fun e w' => e = .returned (.int .i64 (mkE N f c)) /\ Mx w' p b N (mkM N M f c) /\ But b w w' := by
 have HC : Hid (∀ wc, Calls Tryz.prog 200 #[.agg #[.int .i64 c.st, .int .i64 c.co, .int .i64 c.tc, .int .i64 c.rc, .int .i64 c.de]] wc fun e w' => e = .returned (.int .i64 (ckE c)) /\ Below wc.heap.size wc w') := fun wc => check_any c hc wc
 have HH : Hid (∀ wc, Mx wc p b N M -> Calls Tryz.prog 177 #[.pointer (some ⟨p, 0, none⟩), .int .i64 f, .agg #[.int .i64 4, .int .i64 0, .bool false, .int .i64 0]] wc fun e w' => e = .returned (.int .i64 (errF N f)) /\ Mx w' p b N (Phead.mkM N M f 4 0 false 0) /\ But b wc w') := fun wc h => by
  have := (Phead.hmake_any p b N f 4 0 false 0 M wc h.n1 h.n64 h.mem h.tb)
  rw [made_err (by omega)] at this
  refine this.mono ?_
  rintro e w' ⟨rfl, h1, h2⟩
  exact ⟨rfl, h.but h1 (Phead.fit_mk h.fit N f 4 0 false 0) h2, h2⟩
 have H0 := rhide (bx_new hM c)
 clear hM hc
 by_cases hco : toB c = true
 · have e1 : ckE c = 0 := by unfold ckE; rw [if_pos hco]
   have e2 : mkE N f c = errF N f := by unfold mkE; rw [if_pos hco]
   have e3 : mkM N M f c = layF N (Phead.mkM N M f 4 0 false 0) f c.ws := by unfold mkM; rw [if_pos hco]
   rw [e1] at HC
   rw [e2, e3]
   clear e1 e2 e3
   generalize Phead.mkM N M f 4 0 false 0 = M1 at HH ⊢
   cases hf : okF N f
   · have e4 : errF N f = 1 := by unfold errF; rw [hf]; rfl
     rw [e4] at HH ⊢
     rw [lay_bad hf]
     clear e4 hf hco
     go_enter Tryz.func124, Tryz.ntmps124
     go_wp2_with (first
      | (go_at_call 200; refine (HC.out _).mono ?_; rintro e1 w1 ⟨rfl, hb⟩; have H1 := rhide (H0.out.on hb); clear hb HC H0; have x0 := H1.out.box.c0; have x1 := H1.out.box.c1; have x2 := H1.out.box.c2; have x3 := H1.out.box.c3; have x4 := H1.out.box.c4)
      | (go_at_call 177; refine (HH.out _ H1.out.mx).mono ?_; rintro e2 w2 ⟨rfl, hm, hb⟩; have H2 := rhide (H1.out.turn hm hb); clear hm hb HH H1)
      | fail)
     go_ret
     exact ⟨rfl, H2.out.mx, H2.out.but⟩
   · have e4 : errF N f = 0 := by unfold errF; rw [if_pos hf]
     rw [e4] at HH ⊢
     have HW : Hid (∀ wc, Mx wc p b N M1 -> Calls Tryz.prog 201 #[.pointer (some ⟨p, 0, none⟩), .int .i64 f, .agg #[.int .i64 c.st, .int .i64 c.co, .int .i64 c.tc, .int .i64 c.rc, .int .i64 c.de]] wc fun e w' => e = .returned (.int .i64 0) /\ Mx w' p b N (layF N M1 f c.ws) /\ But b wc w') := fun wc h => write_any p b N f c M1 wc h ((toB_iff c).1 hco) hf
     clear e4 hf hco
     go_enter Tryz.func124, Tryz.ntmps124
     go_wp2_with (first
      | (go_at_call 200; refine (HC.out _).mono ?_; rintro e1 w1 ⟨rfl, hb⟩; have H1 := rhide (H0.out.on hb); clear hb HC H0)
      | (go_at_call 177; refine (HH.out _ H1.out.mx).mono ?_; rintro e2 w2 ⟨rfl, hm, hb⟩; have H2 := rhide (H1.out.turn hm hb); clear hm hb HH H1; have x0 := H2.out.box.c0; have x1 := H2.out.box.c1; have x2 := H2.out.box.c2; have x3 := H2.out.box.c3; have x4 := H2.out.box.c4)
      | (go_at_call 201; refine (HW.out _ H2.out.mx).mono ?_; rintro e3 w3 ⟨rfl, hm, hb⟩; have H3 := rhide (H2.out.turn hm hb); clear hm hb HW H2)
      | fail)
     go_ret
     exact ⟨rfl, H3.out.mx, H3.out.but⟩
 · have e1 : ckE c = 1 := by unfold ckE; rw [if_neg hco]
   have e2 : mkE N f c = 1 := by unfold mkE; rw [if_neg hco]
   have e3 : mkM N M f c = M := by unfold mkM; rw [if_neg hco]
   rw [e1] at HC
   rw [e2, e3]
   clear e1 e2 e3 HH hco
   go_enter Tryz.func124, Tryz.ntmps124
   go_wp2_with (first
    | (go_at_call 200; refine (HC.out _).mono ?_; rintro e1 w1 ⟨rfl, hb⟩; have H1 := rhide (H0.out.on hb); clear hb HC H0)
    | fail)
   go_ret
   exact ⟨rfl, H1.out.mx, H1.out.but⟩
theorem put_any (p b N : Nat) (f : Int) (c : Th) (M : Nat -> Nat -> Int) (w : World) (hM : Mx w p b N M) (hc : Fi c) :
 Calls Tryz.prog 281 #[.pointer (some ⟨p, 0, none⟩), .int .i64 f, .agg #[.int .i64 c.st, .int .i64 c.co, .int .i64 c.tc, .int .i64 c.rc, .int .i64 c.de]] w fun e w' => e = .returned (.int .i64 (puE N M f c)) /\ Mx w' p b N (puM N M f c) /\ But b w w' := by
 have HC : Hid (∀ wc, Calls Tryz.prog 200 #[.agg #[.int .i64 c.st, .int .i64 c.co, .int .i64 c.tc, .int .i64 c.rc, .int .i64 c.de]] wc fun e w' => e = .returned (.int .i64 (ckE c)) /\ Below wc.heap.size wc w') := fun wc => check_any c hc wc
 have HIs : Hid (∀ wc, Mx wc p b N M -> Calls Tryz.prog 250 #[.pointer (some ⟨p, 0, none⟩), .int .i64 f] wc fun e w' => e = .returned (.bool (Phead.isE N M f 4 == 0)) /\ Below wc.heap.size wc w') := fun wc h => isT_any p b N f M wc h
 have H0 := rhide (bx_new hM c)
 clear hM hc
 by_cases hco : toB c = true
 · have e1 : ckE c = 0 := by unfold ckE; rw [if_pos hco]
   rw [e1] at HC
   by_cases hk : Phead.isE N M f 4 = 0
   · have e2 : puE N M f c = 0 := by unfold puE; rw [if_pos hco, if_pos hk]
     have e3 : puM N M f c = layF N M f c.ws := by unfold puM; rw [if_pos e2]
     rw [e2, e3]
     have HW : Hid (∀ wc, Mx wc p b N M -> Calls Tryz.prog 201 #[.pointer (some ⟨p, 0, none⟩), .int .i64 f, .agg #[.int .i64 c.st, .int .i64 c.co, .int .i64 c.tc, .int .i64 c.rc, .int .i64 c.de]] wc fun e w' => e = .returned (.int .i64 0) /\ Mx w' p b N (layF N M f c.ws) /\ But b wc w') := fun wc h => write_any p b N f c M wc h ((toB_iff c).1 hco) (isE_ok hk)
     rw [show (Phead.isE N M f 4 == 0) = true by simp [hk]] at HIs
     clear e1 e2 e3 hk hco
     go_enter Tryz.func281, Tryz.ntmps281
     go_wp2_with (first
      | (go_at_call 200; refine (HC.out _).mono ?_; rintro e1 w1 ⟨rfl, hb⟩; have H1 := rhide (H0.out.on hb); clear hb HC H0)
      | (go_at_call 250; refine (HIs.out _ H1.out.mx).mono ?_; rintro e2 w2 ⟨rfl, hb⟩; have H2 := rhide (H1.out.on hb); clear hb HIs H1; have x0 := H2.out.box.c0; have x1 := H2.out.box.c1; have x2 := H2.out.box.c2; have x3 := H2.out.box.c3; have x4 := H2.out.box.c4)
      | (go_at_call 201; refine (HW.out _ H2.out.mx).mono ?_; rintro e3 w3 ⟨rfl, hm, hb⟩; have H3 := rhide (H2.out.turn hm hb); clear hm hb HW H2)
      | fail)
     go_ret
     exact ⟨rfl, H3.out.mx, H3.out.but⟩
   · have e2 : puE N M f c = 4 := by unfold puE; rw [if_pos hco, if_neg hk]
     have e3 : puM N M f c = M := by unfold puM; rw [if_neg (by rw [e2]; decide)]
     rw [e2, e3]
     rw [show (Phead.isE N M f 4 == 0) = false by simp [hk]] at HIs
     clear e1 e2 e3 hk hco
     go_enter Tryz.func281, Tryz.ntmps281
     go_wp2_with (first
      | (go_at_call 200; refine (HC.out _).mono ?_; rintro e1 w1 ⟨rfl, hb⟩; have H1 := rhide (H0.out.on hb); clear hb HC H0)
      | (go_at_call 250; refine (HIs.out _ H1.out.mx).mono ?_; rintro e2 w2 ⟨rfl, hb⟩; have H2 := rhide (H1.out.on hb); clear hb HIs H1)
      | fail)
     go_ret
     exact ⟨rfl, H2.out.mx, H2.out.but⟩
 · have e1 : ckE c = 1 := by unfold ckE; rw [if_neg hco]
   have e2 : puE N M f c = 1 := by unfold puE; rw [if_neg hco]
   have e3 : puM N M f c = M := by unfold puM; rw [if_neg (by rw [e2]; decide)]
   rw [e1] at HC
   rw [e2, e3]
   clear e1 e2 e3 HIs hco
   go_enter Tryz.func281, Tryz.ntmps281
   go_wp2_with (first
    | (go_at_call 200; refine (HC.out _).mono ?_; rintro e1 w1 ⟨rfl, hb⟩; have H1 := rhide (H0.out.on hb); clear hb HC H0)
    | fail)
   go_ret
   exact ⟨rfl, H1.out.mx, H1.out.but⟩
structure Rg (w W : World) (base q N : Nat) (M : Nat -> Nat -> Int) : Prop where
 res : RowT W w.heap.size th0
 rx : Rx W base q N M
 below : Below w.heap.size w W
theorem rg_new {w : World} {base q N : Nat} {M : Nat -> Nat -> Int} (h : Rx w base q N M) : Rg w (w.alloc (.cells #[.int .i64 0, .int .i64 0, .int .i64 0, .int .i64 0, .int .i64 0] 178)) base q N M :=
 ⟨rowT_new w th0, h.grown (bal (Below.refl _ _) _), bal (Below.refl _ _) _⟩
theorem Rg.on {w W W' : World} {base q N : Nat} {M : Nat -> Nat -> Int} (h : Rg w W base q N M) (hB : Below W.heap.size W W') : Rg w W' base q N M :=
 ⟨h.res.on hB, h.rx.grown hB, h.below.trans (hB.mono h.below.size)⟩
def wd (x : Th) (k : Nat) : Int := x.ws[k]?.getD 0
theorem wd_thOf (M : Nat -> Nat -> Int) (f : Int) (k : Nat) (hk : k < 5) : wd (thOf M f) k = M f.toNat (4 + k) := by
 match k, hk with
 | 0, _ | 1, _ | 2, _ | 3, _ | 4, _ => rfl
theorem ld_in {N : Nat} {M : Nat -> Nat -> Int} {f : Int} (hf : okF N f = true) {k : Nat} (hk : k < 5) : ldM N M f (4 + (k : Nat)) = wd (thOf M f) k /\ errW N f (4 + (k : Nat)) = 0 := by
 have h : okW N f (4 + (k : Nat)) = true := by unfold okW; rw [hf]; simp; omega
 unfold ldM errW
 rw [if_pos h, if_pos h, wd_thOf M f k hk]
 exact ⟨by congr 1, rfl⟩
theorem rd_at {N : Nat} {M : Nat -> Nat -> Int} {f : Int} (hf : okF N f = true) {j : Nat} (hj : j < 5) : (Play.rdL N M f 5)[j]?.getD 0 = wd (thOf M f) j := by
 rw [Play.rdL_at N M f hj]
 exact (ld_in (M := M) hf hj).1
theorem rd_no {N : Nat} {M : Nat -> Nat -> Int} {f : Int} (hf : okF N f = true) (h : Play.rdB N M f 5 = false) : toB (thOf M f) = false := by
 refine toB_no fun hc => ?_
 unfold Play.rdB at h
 rw [decide_eq_false_iff_not] at h
 apply h
 intro i hi
 rw [(ld_in (M := M) hf hi).1]
 unfold To at hc
 rcases (show i = 0 \/ i = 1 \/ i = 2 \/ i = 3 \/ i = 4 by omega) with rfl | rfl | rfl | rfl | rfl
 · show (thOf M f).st <= _; omega
 · show (thOf M f).co <= _; omega
 · show (thOf M f).tc <= _; omega
 · show (thOf M f).rc <= _; omega
 · show (thOf M f).de <= _; omega
theorem rget_any (base q N : Nat) (f : Int) (M : Nat -> Nat -> Int) (w : World) (h : Rx w base q N M) :
 Calls Tryz.prog 212 #[.pointer (some ⟨q, 0, none⟩), .int .i64 f] w fun e w' => e = .returned (.tuple #[.agg #[.int .i64 (gtT N M f).st, .int .i64 (gtT N M f).co, .int .i64 (gtT N M f).tc, .int .i64 (gtT N M f).rc, .int .i64 (gtT N M f).de], .int .i64 (gtE N M f)]) /\ Below w.heap.size w w' := by
 have HIs : Hid (∀ wc, Rx wc base q N M -> Calls Tryz.prog 208 #[.pointer (some ⟨q, 0, none⟩), .int .i64 f, .int .i64 4] wc fun e w' => e = .returned (.int .i64 (Phead.isE N M f 4)) /\ Below wc.heap.size wc w') := fun wc h => Phead.hris_any base q N f 4 M wc h.n1 h.n64 h.ref h.fit
 have H0 := rhide (rg_new h)
 clear h
 by_cases hk : Phead.isE N M f 4 = 0
 case neg =>
  have e1 : gtE N M f = 4 := by unfold gtE; rw [if_neg hk]
  have e2 : gtT N M f = th0 := by unfold gtT; rw [if_neg (by rw [e1]; decide)]
  rw [e1, e2]
  generalize Phead.isE N M f 4 = E at HIs hk
  have hE : (E != 0) = true := by simp [hk]
  clear hk e1 e2
  go_enter Tryz.func212, Tryz.ntmps212
  go_wp2_with (first
   | (go_at_call 208; refine (HIs.out _ H0.out.rx).mono ?_; rintro e1 w1 ⟨rfl, hb⟩; have H1 := rhide (H0.out.on hb); clear hb HIs H0; have x0 := H1.out.res.c0; have x1 := H1.out.res.c1; have x2 := H1.out.res.c2; have x3 := H1.out.res.c3; have x4 := H1.out.res.c4; have z := H1.out.res.fz)
   | fail)
  refine bodyPost_ret (v := .tuple #[.agg #[.int .i64 0, .int .i64 0, .int .i64 0, .int .i64 0, .int .i64 0], .int .i64 4]) (by simp [results, Tryz.results212, go_sem, x0, x1, x2, x3, x4]) rfl ⟨rfl, ?_⟩
  exact bst (bst (bst (bst (bst H1.out.below (Nat.le_refl _) _ _) (Nat.le_refl _) _ _) (Nat.le_refl _) _ _) (Nat.le_refl _) _ _) (Nat.le_refl _) _ _
 case pos =>
  have hf := isE_ok hk
  rw [hk] at HIs
  cases hr : Play.rdB N M f 5
  · have hc := rd_no hf hr
    have e1 : gtE N M f = 12 := by unfold gtE; rw [if_pos hk, hc]; rfl
    have e2 : gtT N M f = th0 := by unfold gtT; rw [if_neg (by rw [e1]; decide)]
    rw [e1, e2]
    have HRd : Hid (∀ wc, Rx wc base q N M -> Calls Tryz.prog 254 #[.pointer (some ⟨q, 0, none⟩), .int .i64 f, .int .i64 5] wc fun x w' => x = .returned (.tuple #[.slice none 0 0, .bool false]) /\ Below wc.heap.size wc w') := fun wc h => (rread_any base q N 5 f M wc h (by omega) (by omega)).mono fun x w' ⟨hx, hB⟩ => by
     rcases hx with ⟨_, hx⟩ | ⟨hx, _⟩
     · exact ⟨hx, hB⟩
     · rw [hr] at hx
       cases hx
    clear hk e1 e2 hc hr hf
    go_enter Tryz.func212, Tryz.ntmps212
    go_wp2_with (first
     | (go_at_call 208; refine (HIs.out _ H0.out.rx).mono ?_; rintro e1 w1 ⟨rfl, hb⟩; have H1 := rhide (H0.out.on hb); clear hb HIs H0)
     | (go_at_call 254; refine (HRd.out _ H1.out.rx).mono ?_; rintro e2 w2 ⟨rfl, hb⟩; have H2 := rhide (H1.out.on hb); clear hb HRd H1; have x0 := H2.out.res.c0; have x1 := H2.out.res.c1; have x2 := H2.out.res.c2; have x3 := H2.out.res.c3; have x4 := H2.out.res.c4; have z := H2.out.res.fz)
     | fail)
    refine bodyPost_ret (v := .tuple #[.agg #[.int .i64 0, .int .i64 0, .int .i64 0, .int .i64 0, .int .i64 0], .int .i64 12]) (by simp [results, Tryz.results212, go_sem, x0, x1, x2, x3, x4]) rfl ⟨rfl, ?_⟩
    exact bst (bst (bst (bst (bst H2.out.below (Nat.le_refl _) _ _) (Nat.le_refl _) _ _) (Nat.le_refl _) _ _) (Nat.le_refl _) _ _) (Nat.le_refl _) _ _
  · have HRd : Hid (∀ wc, Rx wc base q N M -> Calls Tryz.prog 254 #[.pointer (some ⟨q, 0, none⟩), .int .i64 f, .int .i64 5] wc fun x w' => ∃ g cap, x = .returned (.tuple #[.slice (some ⟨g, 0, none⟩) 5 cap, .bool true]) /\ Below wc.heap.size wc w' /\ g < w'.heap.size /\ ∀ j, j < 5 -> w'.cell? ⟨g, j, none⟩ = some (.int .i64 (wd (thOf M f) j))) := fun wc h => (rread_any base q N 5 f M wc h (by omega) (by omega)).mono fun x w' ⟨hx, hB⟩ => by
     rcases hx with ⟨hx, _⟩ | ⟨_, g, cap, hx, _, hg, hl⟩
     · rw [hr] at hx; cases hx
     · exact ⟨g, cap, hx, hB, hg, fun j hj => by rw [hl.cell (by rw [Play.rdL_len]; exact hj), rd_at hf hj]⟩
    have HR : Hid (∀ w1, Calls Tryz.prog 209 #[.agg #[.int .i64 (thOf M f).st, .int .i64 (thOf M f).co, .int .i64 (thOf M f).tc, .int .i64 (thOf M f).rc, .int .i64 (thOf M f).de]] w1 fun e w' => e = .returned (.bool (toB (thOf M f))) /\ Below w1.heap.size w1 w') := fun w1 => right_any (thOf M f) w1
    have e1 : gtE N M f = if toB (thOf M f) = true then 0 else 12 := by unfold gtE; rw [if_pos hk]
    have e2 : gtT N M f = toX (thOf M f) := by
     unfold gtT toX
     rw [e1]
     cases toB (thOf M f) <;> rfl
    have e3 : toX (thOf M f) = if toB (thOf M f) = true then thOf M f else th0 := rfl
    rw [e1, e2, e3]
    clear e1 e2 e3 hk hr hf
    generalize toB (thOf M f) = R at HR ⊢
    generalize thOf M f = y at HRd HR ⊢
    obtain ⟨A, hA⟩ : ∃ A : Int, A = if R = true then 0 else 12 := ⟨_, rfl⟩
    obtain ⟨B, hB⟩ : ∃ B : Th, B = if R = true then y else th0 := ⟨_, rfl⟩
    rw [<- hA, <- hB]
    have HA := rhide hA
    have HB := rhide hB
    clear hA hB
    go_enter Tryz.func212, Tryz.ntmps212
    go_upto_region 6 with (first
     | (go_at_call 208; refine (HIs.out _ H0.out.rx).mono ?_; rintro e1 w1 ⟨rfl, hb⟩; have H1 := rhide (H0.out.on hb); clear hb HIs H0)
     | (go_at_call 254; refine (HRd.out _ H1.out.rx).mono ?_; rintro e2 w2 ⟨g, cap, rfl, hb, hg, hl⟩; have H2 := rhide (H1.out.on hb); have HL := rhide (And.intro hg hl); clear hb hl hg HRd H1)
     | fail)
    have l0 : w2.cell? ⟨g, 0, none⟩ = some (.int .i64 y.st) := HL.out.2 0 (by omega)
    have l1 : w2.cell? ⟨g, 1, none⟩ = some (.int .i64 y.co) := HL.out.2 1 (by omega)
    have l2 : w2.cell? ⟨g, 2, none⟩ = some (.int .i64 y.tc) := HL.out.2 2 (by omega)
    have l3 : w2.cell? ⟨g, 3, none⟩ = some (.int .i64 y.rc) := HL.out.2 3 (by omega)
    have l4 : w2.cell? ⟨g, 4, none⟩ = some (.int .i64 y.de) := HL.out.2 4 (by omega)
    have lg := HL.out.1
    clear HL
    go_wp2
    go_region_held3 (fun w' => w'.cell? ⟨g, 0, none⟩ = some (.int .i64 y.st) /\ w'.cell? ⟨g, 1, none⟩ = some (.int .i64 y.co) /\ w'.cell? ⟨g, 2, none⟩ = some (.int .i64 y.tc) /\ w'.cell? ⟨g, 3, none⟩ = some (.int .i64 y.rc) /\ w'.cell? ⟨g, 4, none⟩ = some (.int .i64 y.de)) (first | exact ⟨by assumption, by assumption, by assumption, by assumption, by assumption⟩ | go_keep)
    (fail)
    have r3 : RowT (w2.alloc (.cells #[.int .i64 y.st, .int .i64 y.co, .int .i64 y.tc, .int .i64 y.rc, .int .i64 y.de] 178)).drew w2.heap.size y := ⟨(rowT_new w2 y).row⟩
    have h3 : Rg w (w2.alloc (.cells #[.int .i64 y.st, .int .i64 y.co, .int .i64 y.tc, .int .i64 y.rc, .int .i64 y.de] 178)).drew base q N M := H2.out.on ((bal (Below.refl _ _) _).drew)
    have hE : w.heap.size ≠ w2.heap.size := Nat.ne_of_lt H2.out.res.lt
    clear l0 l1 l2 l3 l4 lg H2
    generalize (w2.alloc (.cells #[.int .i64 y.st, .int .i64 y.co, .int .i64 y.tc, .int .i64 y.rc, .int .i64 y.de] 178)).drew = v at r3 h3 ⊢
    generalize w2.heap.size = E at r3 hE ⊢
    have R3 := rhide r3
    have H3 := rhide h3
    clear r3 h3
    have x0 := R3.out.c0
    have x1 := R3.out.c1
    have x2 := R3.out.c2
    have x3 := R3.out.c3
    have x4 := R3.out.c4
    cases R
    · go_wp2_with (first
       | (go_at_call 209; refine (HR.out _).mono ?_; rintro e3 w3 ⟨rfl, hb⟩; have H5 := rhide (H3.out.on hb); have R5 := rhide (R3.out.on hb); clear hb HR H3 R3; have y0 := H5.out.res.c0; have y1 := H5.out.res.c1; have y2 := H5.out.res.c2; have y3 := H5.out.res.c3; have y4 := H5.out.res.c4; have z := H5.out.res.fz)
       | fail)
      refine bodyPost_ret (v := .tuple #[.agg #[.int .i64 0, .int .i64 0, .int .i64 0, .int .i64 0, .int .i64 0], .int .i64 12]) (by simp [results, Tryz.results212, go_sem, y0, y1, y2, y3, y4]) rfl ⟨by rw [HA.out, HB.out]; rfl, ?_⟩
      exact bst (bst (bst (bst (bst H5.out.below (Nat.le_refl _) _ _) (Nat.le_refl _) _ _) (Nat.le_refl _) _ _) (Nat.le_refl _) _ _) (Nat.le_refl _) _ _
    · go_wp2_with (first
       | (go_at_call 209; refine (HR.out _).mono ?_; rintro e3 w3 ⟨rfl, hb⟩; have H5 := rhide (H3.out.on hb); have R5 := rhide (R3.out.on hb); clear hb HR H3 R3; have y0 := H5.out.res.c0; have y1 := H5.out.res.c1; have y2 := H5.out.res.c2; have y3 := H5.out.res.c3; have y4 := H5.out.res.c4; have t0 := R5.out.c0; have t1 := R5.out.c1; have t2 := R5.out.c2; have t3 := R5.out.c3; have t4 := R5.out.c4; have z := H5.out.res.fz)
       | fail)
      refine bodyPost_ret (v := .tuple #[.agg #[.int .i64 y.st, .int .i64 y.co, .int .i64 y.tc, .int .i64 y.rc, .int .i64 y.de], .int .i64 0]) (by simp [results, Tryz.results212, go_sem, y0, y1, y2, y3, y4]) rfl ⟨by rw [HA.out, HB.out]; rfl, ?_⟩
      exact bst (bst (bst (bst (bst H5.out.below (Nat.le_refl _) _ _) (Nat.le_refl _) _ _) (Nat.le_refl _) _ _) (Nat.le_refl _) _ _) (Nat.le_refl _) _ _
structure Rh (w W : World) (base q N : Nat) (M : Nat -> Nat -> Int) : Prop where
 rx : Rx W base q N M
 below : Below base w W
 kp : KeepX q w W
theorem Rh.on {w W W' : World} {base q N : Nat} {M : Nat -> Nat -> Int} (h : Rh w W base q N M) (hB : Below W.heap.size W W') : Rh w W' base q N M := ⟨h.rx.grown hB, h.below.trans (hB.mono h.rx.le), h.kp.trans (KeepX.below hB)⟩
end Pthd
end Go.Proofs.YtkkclcihjojphaaGreatDoor
