/- Records in blocks; what the document's right, Check, place, widths, lay and read of layer 19 answer and do, over its own memory (written by mk_doc.py). -/
import Derived.Test.YtoipfcmjphlmfaaGreatDoorStkP
import Derived.Test.YtoipfcmjphlmfaaGreatDoorBunLay
import Derived.Test.YtoipfcmjphlmfaaGreatDoorBunThd
import Derived.Test.YtoipfcmjphlmfaaGreatDoorBunField
import Derived.BigRegion
import Derived.BigQuiet
import Derived.Deep.RegionHeld3
namespace Go.Proofs.YtoipfcmjphlmfaaGreatDoor.Pstack
open Go.Proofs.YtoipfcmjphlmfaaGreatDoor.Pbase Go.Proofs.YtoipfcmjphlmfaaGreatDoor.Pfield Go.Proofs.YtoipfcmjphlmfaaGreatDoor.Play Go.Proofs.YtoipfcmjphlmfaaGreatDoor.Pmem Go.Proofs.YtoipfcmjphlmfaaGreatDoor.Pthd
open Go.RowKit M
set_option linter.unusedVariables false

theorem RowR.keep {w w' : World} {B : Nat} {x : Rc} (h : RowR w B x) (k : KeepT w w') : RowR w' B x := ⟨k _ _ _ (by decide) h.row⟩
/-! ### right, Check -/
theorem roB_in (c : Rc) : roB c = (Play.inB c.co 0 63 && Play.inB c.tb 0 63 && Play.inB c.pg 0 63 && Play.inB c.l 0 63 && Play.inB c.e 0 65535 && Play.inB c.ip 0 1073741824) := rfl
set_option maxRecDepth 100000 in
set_option maxHeartbeats 2000000 in
theorem rright_any (c : Rc) (w : World) : Calls Tryz.prog 35 #[.agg #[.int .i64 c.co, .int .i64 c.tb, .int .i64 c.pg, .int .i64 c.l, .int .i64 c.e, .int .i64 c.ip]] w fun e w' => e = .returned (.bool (roB c)) ∧ Below w.heap.size w w' := by
  have I0 : Hid (∀ wc, Calls Tryz.prog 43 #[.int .i64 c.co, .int .i64 0, .int .i64 63] wc fun e w' => e = .returned (.bool (Play.inB c.co 0 63)) ∧ w' = wc) := fun wc => in_any c.co 0 63 wc
  have I1 : Hid (∀ wc, Calls Tryz.prog 43 #[.int .i64 c.tb, .int .i64 0, .int .i64 63] wc fun e w' => e = .returned (.bool (Play.inB c.tb 0 63)) ∧ w' = wc) := fun wc => in_any c.tb 0 63 wc
  have I2 : Hid (∀ wc, Calls Tryz.prog 43 #[.int .i64 c.pg, .int .i64 0, .int .i64 63] wc fun e w' => e = .returned (.bool (Play.inB c.pg 0 63)) ∧ w' = wc) := fun wc => in_any c.pg 0 63 wc
  have I3 : Hid (∀ wc, Calls Tryz.prog 43 #[.int .i64 c.l, .int .i64 0, .int .i64 63] wc fun e w' => e = .returned (.bool (Play.inB c.l 0 63)) ∧ w' = wc) := fun wc => in_any c.l 0 63 wc
  have I4 : Hid (∀ wc, Calls Tryz.prog 43 #[.int .i64 c.e, .int .i64 0, .int .i64 65535] wc fun e w' => e = .returned (.bool (Play.inB c.e 0 65535)) ∧ w' = wc) := fun wc => in_any c.e 0 65535 wc
  have I5 : Hid (∀ wc, Calls Tryz.prog 43 #[.int .i64 c.ip, .int .i64 0, .int .i64 1073741824] wc fun e w' => e = .returned (.bool (Play.inB c.ip 0 1073741824)) ∧ w' = wc) := fun wc => in_any c.ip 0 1073741824 wc
  rw [roB_in]
  generalize Play.inB c.co 0 63 = R0 at I0 ⊢
  generalize Play.inB c.tb 0 63 = R1 at I1 ⊢
  generalize Play.inB c.pg 0 63 = R2 at I2 ⊢
  generalize Play.inB c.l 0 63 = R3 at I3 ⊢
  generalize Play.inB c.e 0 65535 = R4 at I4 ⊢
  generalize Play.inB c.ip 0 1073741824 = R5 at I5 ⊢
  cases R0
  · show Calls Tryz.prog 35 _ w fun e w' => e = .returned (.bool false) ∧ Below w.heap.size w w'
    go_enter Tryz.func35, Tryz.ntmps35
    go_wp2_with (first
      | (go_at_call 43; refine (I0.out _).mono ?_; rintro e0 w0 ⟨rfl, hw⟩; subst hw; clear I0)
      | (go_at_call 43; refine (I1.out _).mono ?_; rintro e1 w1 ⟨rfl, hw⟩; subst hw; clear I1)
      | (go_at_call 43; refine (I2.out _).mono ?_; rintro e2 w2 ⟨rfl, hw⟩; subst hw; clear I2)
      | (go_at_call 43; refine (I3.out _).mono ?_; rintro e3 w3 ⟨rfl, hw⟩; subst hw; clear I3)
      | (go_at_call 43; refine (I4.out _).mono ?_; rintro e4 w4 ⟨rfl, hw⟩; subst hw; clear I4)
      | (go_at_call 43; refine (I5.out _).mono ?_; rintro e5 w5 ⟨rfl, hw⟩; subst hw; clear I5)
      | fail)
    go_ret
    exact ⟨rfl, bal (Below.refl _ _) _⟩
  cases R1
  · show Calls Tryz.prog 35 _ w fun e w' => e = .returned (.bool false) ∧ Below w.heap.size w w'
    go_enter Tryz.func35, Tryz.ntmps35
    go_wp2_with (first
      | (go_at_call 43; refine (I0.out _).mono ?_; rintro e0 w0 ⟨rfl, hw⟩; subst hw; clear I0)
      | (go_at_call 43; refine (I1.out _).mono ?_; rintro e1 w1 ⟨rfl, hw⟩; subst hw; clear I1)
      | (go_at_call 43; refine (I2.out _).mono ?_; rintro e2 w2 ⟨rfl, hw⟩; subst hw; clear I2)
      | (go_at_call 43; refine (I3.out _).mono ?_; rintro e3 w3 ⟨rfl, hw⟩; subst hw; clear I3)
      | (go_at_call 43; refine (I4.out _).mono ?_; rintro e4 w4 ⟨rfl, hw⟩; subst hw; clear I4)
      | (go_at_call 43; refine (I5.out _).mono ?_; rintro e5 w5 ⟨rfl, hw⟩; subst hw; clear I5)
      | fail)
    go_ret
    exact ⟨rfl, bal (Below.refl _ _) _⟩
  cases R2
  · show Calls Tryz.prog 35 _ w fun e w' => e = .returned (.bool false) ∧ Below w.heap.size w w'
    go_enter Tryz.func35, Tryz.ntmps35
    go_wp2_with (first
      | (go_at_call 43; refine (I0.out _).mono ?_; rintro e0 w0 ⟨rfl, hw⟩; subst hw; clear I0)
      | (go_at_call 43; refine (I1.out _).mono ?_; rintro e1 w1 ⟨rfl, hw⟩; subst hw; clear I1)
      | (go_at_call 43; refine (I2.out _).mono ?_; rintro e2 w2 ⟨rfl, hw⟩; subst hw; clear I2)
      | (go_at_call 43; refine (I3.out _).mono ?_; rintro e3 w3 ⟨rfl, hw⟩; subst hw; clear I3)
      | (go_at_call 43; refine (I4.out _).mono ?_; rintro e4 w4 ⟨rfl, hw⟩; subst hw; clear I4)
      | (go_at_call 43; refine (I5.out _).mono ?_; rintro e5 w5 ⟨rfl, hw⟩; subst hw; clear I5)
      | fail)
    go_ret
    exact ⟨rfl, bal (Below.refl _ _) _⟩
  cases R3
  · show Calls Tryz.prog 35 _ w fun e w' => e = .returned (.bool false) ∧ Below w.heap.size w w'
    go_enter Tryz.func35, Tryz.ntmps35
    go_wp2_with (first
      | (go_at_call 43; refine (I0.out _).mono ?_; rintro e0 w0 ⟨rfl, hw⟩; subst hw; clear I0)
      | (go_at_call 43; refine (I1.out _).mono ?_; rintro e1 w1 ⟨rfl, hw⟩; subst hw; clear I1)
      | (go_at_call 43; refine (I2.out _).mono ?_; rintro e2 w2 ⟨rfl, hw⟩; subst hw; clear I2)
      | (go_at_call 43; refine (I3.out _).mono ?_; rintro e3 w3 ⟨rfl, hw⟩; subst hw; clear I3)
      | (go_at_call 43; refine (I4.out _).mono ?_; rintro e4 w4 ⟨rfl, hw⟩; subst hw; clear I4)
      | (go_at_call 43; refine (I5.out _).mono ?_; rintro e5 w5 ⟨rfl, hw⟩; subst hw; clear I5)
      | fail)
    go_ret
    exact ⟨rfl, bal (Below.refl _ _) _⟩
  cases R4
  · show Calls Tryz.prog 35 _ w fun e w' => e = .returned (.bool false) ∧ Below w.heap.size w w'
    go_enter Tryz.func35, Tryz.ntmps35
    go_wp2_with (first
      | (go_at_call 43; refine (I0.out _).mono ?_; rintro e0 w0 ⟨rfl, hw⟩; subst hw; clear I0)
      | (go_at_call 43; refine (I1.out _).mono ?_; rintro e1 w1 ⟨rfl, hw⟩; subst hw; clear I1)
      | (go_at_call 43; refine (I2.out _).mono ?_; rintro e2 w2 ⟨rfl, hw⟩; subst hw; clear I2)
      | (go_at_call 43; refine (I3.out _).mono ?_; rintro e3 w3 ⟨rfl, hw⟩; subst hw; clear I3)
      | (go_at_call 43; refine (I4.out _).mono ?_; rintro e4 w4 ⟨rfl, hw⟩; subst hw; clear I4)
      | (go_at_call 43; refine (I5.out _).mono ?_; rintro e5 w5 ⟨rfl, hw⟩; subst hw; clear I5)
      | fail)
    go_ret
    exact ⟨rfl, bal (Below.refl _ _) _⟩
  cases R5
  · show Calls Tryz.prog 35 _ w fun e w' => e = .returned (.bool false) ∧ Below w.heap.size w w'
    go_enter Tryz.func35, Tryz.ntmps35
    go_wp2_with (first
      | (go_at_call 43; refine (I0.out _).mono ?_; rintro e0 w0 ⟨rfl, hw⟩; subst hw; clear I0)
      | (go_at_call 43; refine (I1.out _).mono ?_; rintro e1 w1 ⟨rfl, hw⟩; subst hw; clear I1)
      | (go_at_call 43; refine (I2.out _).mono ?_; rintro e2 w2 ⟨rfl, hw⟩; subst hw; clear I2)
      | (go_at_call 43; refine (I3.out _).mono ?_; rintro e3 w3 ⟨rfl, hw⟩; subst hw; clear I3)
      | (go_at_call 43; refine (I4.out _).mono ?_; rintro e4 w4 ⟨rfl, hw⟩; subst hw; clear I4)
      | (go_at_call 43; refine (I5.out _).mono ?_; rintro e5 w5 ⟨rfl, hw⟩; subst hw; clear I5)
      | fail)
    go_ret
    exact ⟨rfl, bal (Below.refl _ _) _⟩
  show Calls Tryz.prog 35 _ w fun e w' => e = .returned (.bool true) ∧ Below w.heap.size w w'
  go_enter Tryz.func35, Tryz.ntmps35
  go_wp2_with (first
    | (go_at_call 43; refine (I0.out _).mono ?_; rintro e0 w0 ⟨rfl, hw⟩; subst hw; clear I0)
    | (go_at_call 43; refine (I1.out _).mono ?_; rintro e1 w1 ⟨rfl, hw⟩; subst hw; clear I1)
    | (go_at_call 43; refine (I2.out _).mono ?_; rintro e2 w2 ⟨rfl, hw⟩; subst hw; clear I2)
    | (go_at_call 43; refine (I3.out _).mono ?_; rintro e3 w3 ⟨rfl, hw⟩; subst hw; clear I3)
    | (go_at_call 43; refine (I4.out _).mono ?_; rintro e4 w4 ⟨rfl, hw⟩; subst hw; clear I4)
    | (go_at_call 43; refine (I5.out _).mono ?_; rintro e5 w5 ⟨rfl, hw⟩; subst hw; clear I5)
    | fail)
  go_ret
  exact ⟨rfl, bal (Below.refl _ _) _⟩
set_option maxRecDepth 100000 in
theorem rrcheck_any (c : Rc) (w : World) : Calls Tryz.prog 18 #[.agg #[.int .i64 c.co, .int .i64 c.tb, .int .i64 c.pg, .int .i64 c.l, .int .i64 c.e, .int .i64 c.ip]] w fun e w' => e = .returned (.int .i64 (rkE c)) ∧ Below w.heap.size w w' := by
  have HR : Hid (∀ w1, Calls Tryz.prog 35 #[.agg #[.int .i64 c.co, .int .i64 c.tb, .int .i64 c.pg, .int .i64 c.l, .int .i64 c.e, .int .i64 c.ip]] w1 fun e w' => e = .returned (.bool (roB c)) ∧ Below w1.heap.size w1 w') := fun w1 => rright_any c w1
  unfold rkE
  generalize roB c = m at HR ⊢
  cases m
  all_goals
    go_enter Tryz.func18, Tryz.ntmps18
    go_wp2_with (first
      | (go_at_call 35; refine (HR.out _).mono ?_; rintro e1 w1 ⟨rfl, hb1⟩; have H1 : Hid (Below w.heap.size w w1) := (bal (Below.refl _ _) _).trans (hb1.mono (by simp)); clear hb1)
      | fail)
    go_ret
    exact ⟨rfl, H1.out⟩
/-! ### place, widths -/
theorem rplace_any (i : Nat) (hi : i < 6) (w : World) : Calls Tryz.prog 66 #[.int .i64 i] w fun e w' => e = .returned (.int .i64 (17 + 2 * (i : Int))) ∧ w' = w := by
  have h1 : wrap64 (2 * (i : Int)) = 2 * (i : Int) := by unfold wrap64; omega
  have h2 : wrap64 (17 + 2 * (i : Int)) = 17 + 2 * (i : Int) := by unfold wrap64; omega
  go_enter Tryz.func66, Tryz.ntmps66
  go_wp2
  go_ret
  exact ⟨rfl, rfl⟩
theorem rwidths_any (w : World) :
    Calls Tryz.prog 65 #[] w fun x w' => ∃ b, x = .returned (.slice (some ⟨b, 0, none⟩) 5 5) ∧ Ints .i64 w'.heap.size w' (.slice (some ⟨b, 0, none⟩) 5 5) rws ∧ Below w.heap.size w w' := by
  go_enter Tryz.func65, Tryz.ntmps65
  go_wp2
  go_ret
  exact ⟨_, rfl, ints_rws w _, bal (Below.refl _ _) _⟩
/-! ### lay -/
/-- Packing behind the building of the parts. -/
theorem rpack_five {x : Rc} (h : Ro x) (b : Nat) (w : World) (hi : Ints .i64 w.heap.size w (.slice (some ⟨b, 0, none⟩) 5 5) rws) :
    Calls Tryz.prog 64 #[.slice (some ⟨b, 0, none⟩) 5 5, .slice (some ⟨w.heap.size, 0, none⟩) 5 5] (w.alloc (.cells #[.int .u64 x.co, .int .u64 x.tb, .int .u64 x.pg, .int .u64 x.l, .int .u64 x.e] 60)) fun e w' => e = .returned (.tuple #[.int .u64 (rwd x), .int .i64 0]) ∧ Below w.heap.size w w' :=
  (rpack_ok (some ⟨b, 0, none⟩) (some ⟨w.heap.size, 0, none⟩) 5 5 rws x.vs (w.alloc (.cells #[.int .u64 x.co, .int .u64 x.tb, .int .u64 x.pg, .int .u64 x.l, .int .u64 x.e] 60)) (by decide) rfl (rput_can h).1 (hi.on (bal (Below.refl _ _) _)) (ints_vs w x 60) (rput_can h).2).mono fun e w' ⟨hx, hb⟩ => ⟨hx, (bal (Below.refl _ _) _).trans (hb.mono (by simp))⟩
/-- A block laid, marked: so that a walk can tell a world behind it from another. -/
def laidB (w : World) (o : Obj) : World := w.alloc o
theorem laidB_eq (w : World) (o : Obj) : w.alloc o = laidB w o := rfl
/-- The widths behind the building of the parts. -/
theorem rwidths_built (x : Rc) (w : World) :
    Calls Tryz.prog 65 #[] (laidB w (.cells #[.int .u64 x.co, .int .u64 x.tb, .int .u64 x.pg, .int .u64 x.l, .int .u64 x.e] 60)).drew fun e w' => ∃ b, e = .returned (.slice (some ⟨b, 0, none⟩) 5 5) ∧ Ints .i64 w'.heap.size w' (.slice (some ⟨b, 0, none⟩) 5 5) rws ∧ Ints .u64 w'.heap.size w' (.slice (some ⟨w.heap.size, 0, none⟩) 5 5) x.vs ∧ Below w.heap.size w w' :=
  (rwidths_any (w.alloc (.cells #[.int .u64 x.co, .int .u64 x.tb, .int .u64 x.pg, .int .u64 x.l, .int .u64 x.e] 60)).drew).mono fun e w' ⟨b, hx, hi, hb⟩ => ⟨b, hx, hi, (ints_vs w x 60).on ((Below.refl _ _).drew.trans hb), (bal (Below.refl _ _) (.cells #[.int .u64 x.co, .int .u64 x.tb, .int .u64 x.pg, .int .u64 x.l, .int .u64 x.e] 60)).drew.trans (hb.mono (by show _ ≤ (w.alloc (.cells #[.int .u64 x.co, .int .u64 x.tb, .int .u64 x.pg, .int .u64 x.l, .int .u64 x.e] 60)).heap.size; simp))⟩
theorem rpack_on {x : Rc} (h : Ro x) (b c : Nat) (w : World) (hi : Ints .i64 w.heap.size w (.slice (some ⟨b, 0, none⟩) 5 5) rws) (hj : Ints .u64 w.heap.size w (.slice (some ⟨c, 0, none⟩) 5 5) x.vs) :
    Calls Tryz.prog 64 #[.slice (some ⟨b, 0, none⟩) 5 5, .slice (some ⟨c, 0, none⟩) 5 5] w fun e w' => e = .returned (.tuple #[.int .u64 (rwd x), .int .i64 0]) ∧ Below w.heap.size w w' :=
  rpack_ok (some ⟨b, 0, none⟩) (some ⟨c, 0, none⟩) 5 5 rws x.vs w (by decide) rfl (rput_can h).1 hi hj (rput_can h).2
/-- The document's memory, and the record that was handed in. -/
structure Ls (w W : World) (base q N : Nat) (M : Nat → Nat → Int) (x : Rc) : Prop where
  rh : Rh w W base q N M
  box : RowR W w.heap.size x
theorem ls_new {w : World} {base q N : Nat} {M : Nat → Nat → Int} (h : Rx w base q N M) (x : Rc) : Ls w (w.alloc (.cells #[.int .i64 x.co, .int .i64 x.tb, .int .i64 x.pg, .int .i64 x.l, .int .i64 x.e, .int .i64 x.ip] 38)) base q N M x :=
  ⟨(show Rh w w base q N M from ⟨h, Below.refl _ _, KeepX.refl _ _⟩).on (bal (Below.refl _ _) _), rowR_new w x⟩
theorem Ls.on {w W W' : World} {base q N : Nat} {M : Nat → Nat → Int} {x : Rc} (h : Ls w W base q N M x) (hB : Below W.heap.size W W') : Ls w W' base q N M x := ⟨h.rh.on hB, h.box.on hB⟩
theorem Ls.turn {w W W' : World} {base q N : Nat} {M M' : Nat → Nat → Int} {x : Rc} (h : Ls w W base q N M x) (hR : RefIs W' base q N M') (hF : Fit M') (hB : Below base W W') (hK : KeepX q W W') : Ls w W' base q N M' x :=
  ⟨⟨h.rh.rx.turn hR hF, h.rh.below.trans hB, h.rh.kp.trans hK⟩, h.box.keep hK.t⟩
set_option maxRecDepth 100000 in
set_option maxHeartbeats 4000000 in
theorem rly_any (base q N : Nat) (f : Int) (i : Nat) (x : Rc) (M : Nat → Nat → Int) (w : World) (h : Rx w base q N M) (hx : Ro x) (hi : i < 6) :
    Calls Tryz.prog 37 #[.pointer (some ⟨q, 0, none⟩), .int .i64 f, .int .i64 i, .agg #[.int .i64 x.co, .int .i64 x.tb, .int .i64 x.pg, .int .i64 x.l, .int .i64 x.e, .int .i64 x.ip]] w fun e w' => e = .returned (.tuple #[]) ∧ Rx w' base q N (lyR N M f i x) ∧ Below base w w' ∧ KeepX q w w' := by
  have H0 := rhide (ls_new h x)
  have HP : Hid (Ro x) := hx
  have HPl : Hid (∀ wc, Calls Tryz.prog 66 #[.int .i64 i] wc fun e w' => e = .returned (.int .i64 (17 + 2 * (i : Int))) ∧ w' = wc) := fun wc => rplace_any i hi wc
  have HS1 : Hid (∀ wc, Ls w wc base q N M x → Calls Tryz.prog 24 #[.pointer (some ⟨q, 0, none⟩), .int .i64 f, .int .i64 (17 + 2 * (i : Int)), .int .u64 (rwd x)] wc fun e w' => (∃ E, e = .returned (.int .i64 E)) ∧ Ls w w' base q N (stW N M f (17 + 2 * (i : Int)) (rwd x)) x) := fun wc h =>
    (ystore_any base q N f (17 + 2 * (i : Int)) (rwd x) M wc h.rh.rx.n1 h.rh.rx.n64 h.rh.rx.ref).mono fun e w' ⟨h1, h2, h3, h4⟩ => ⟨⟨_, h1⟩, h.turn h2 (h.rh.rx.fit.st N f _ _ (rwd_bd hx)) h3 h4⟩
  have HS2 : Hid (∀ wc, Ls w wc base q N (stW N M f (17 + 2 * (i : Int)) (rwd x)) x → Calls Tryz.prog 24 #[.pointer (some ⟨q, 0, none⟩), .int .i64 f, .int .i64 (17 + 2 * (i : Int) + 1), .int .u64 x.ip] wc fun e w' => (∃ E, e = .returned (.int .i64 E)) ∧ Ls w w' base q N (lyR N M f i x) x) := fun wc h => by
    have := ystore_any base q N f (17 + 2 * (i : Int) + 1) x.ip _ wc h.rh.rx.n1 h.rh.rx.n64 h.rh.rx.ref
    rw [show 17 + 2 * (i : Int) + 1 = 18 + 2 * (i : Int) by omega] at this
    rw [show 17 + 2 * (i : Int) + 1 = 18 + 2 * (i : Int) by omega]
    have hip := hx.2.2.2.2.2
    exact this.mono fun e w' ⟨h1, h2, h3, h4⟩ => ⟨⟨_, h1⟩, h.turn h2 (h.rh.rx.fit.st N f _ _ (by omega)) h3 h4⟩
  have HK1 : Hid (∀ b wc, Ints .i64 wc.heap.size wc (.slice (some ⟨b, 0, none⟩) 5 5) rws → Calls Tryz.prog 64 #[.slice (some ⟨b, 0, none⟩) 5 5, .slice (some ⟨wc.heap.size, 0, none⟩) 5 5] (wc.alloc (.cells #[.int .u64 x.co, .int .u64 x.tb, .int .u64 x.pg, .int .u64 x.l, .int .u64 x.e] 60)) fun e w' => e = .returned (.tuple #[.int .u64 (rwd x), .int .i64 0]) ∧ Below wc.heap.size wc w') := fun b wc hi => rpack_five hx b wc hi
  have HK2 : Hid (∀ b c wc, Ints .i64 wc.heap.size wc (.slice (some ⟨b, 0, none⟩) 5 5) rws → Ints .u64 wc.heap.size wc (.slice (some ⟨c, 0, none⟩) 5 5) x.vs → Calls Tryz.prog 64 #[.slice (some ⟨b, 0, none⟩) 5 5, .slice (some ⟨c, 0, none⟩) 5 5] wc fun e w' => e = .returned (.tuple #[.int .u64 (rwd x), .int .i64 0]) ∧ Below wc.heap.size wc w') := fun b c wc hi hj => rpack_on hx b c wc hi hj
  unfold Ro at hx
  have d0 : IntKind.u64.wrap x.co = x.co := wrapu_small (by omega) (by omega)
  have d1 : IntKind.u64.wrap x.tb = x.tb := wrapu_small (by omega) (by omega)
  have d2 : IntKind.u64.wrap x.pg = x.pg := wrapu_small (by omega) (by omega)
  have d3 : IntKind.u64.wrap x.l = x.l := wrapu_small (by omega) (by omega)
  have d4 : IntKind.u64.wrap x.e = x.e := wrapu_small (by omega) (by omega)
  have d5 : IntKind.u64.wrap x.ip = x.ip := wrapu_small (by omega) (by omega)
  have d6 : wrap64 (17 + 2 * (i : Int) + 1) = 17 + 2 * (i : Int) + 1 := by unfold wrap64; omega
  have d7 : IntKind.i64.wrap (17 + 2 * (i : Int) + 1) = 17 + 2 * (i : Int) + 1 := wrapi_small (by omega) (by omega)
  clear hx h HP
  generalize rwd x = z at HS1 HS2 HK1 HK2
  generalize lyR N M f i x = M2 at HS2 ⊢
  generalize stW N M f (17 + 2 * (i : Int)) z = M1 at HS1 HS2
  go_enter Tryz.func37, Tryz.ntmps37
  go_wp2
  generalize w.alloc _ = w1 at H0 ⊢
  have x0 := H0.out.box.c0
  have x1 := H0.out.box.c1
  have x2 := H0.out.box.c2
  have x3 := H0.out.box.c3
  have x4 := H0.out.box.c4
  have x5 := H0.out.box.c5
  have xl := H0.out.box.lt
  go_cut [8, 9] from 10 to 30 (fun v8 v9 wc => v8 = .int .u64 z ∧ v9 = .int .i64 0 ∧ Ls w wc base q N M x)
  case first =>
    go_region_held3 (fun w' => w'.cell? ⟨w.heap.size, 0, none⟩ = some (.int .i64 x.co) ∧ w'.cell? ⟨w.heap.size, 1, none⟩ = some (.int .i64 x.tb) ∧ w'.cell? ⟨w.heap.size, 2, none⟩ = some (.int .i64 x.pg) ∧ w'.cell? ⟨w.heap.size, 3, none⟩ = some (.int .i64 x.l) ∧ w'.cell? ⟨w.heap.size, 4, none⟩ = some (.int .i64 x.e)) (first | exact ⟨by assumption, by assumption, by assumption, by assumption, by assumption⟩ | go_keep)
    (first
      | (go_at_call 65; rw [laidB_eq]; refine (rwidths_built x _).mono ?_; rintro e2 w2 ⟨b, rfl, hi2, hj2, hb2⟩; have hm : Below w1.heap.size w1 w2 := (by first | exact hb2 | exact (Below.refl _ _).drew.trans hb2); have H2 := rhide (H0.out.on hm); have HK := rhide (HK2.out b w1.heap.size w2 hi2 hj2); clear hm hb2 hi2 hj2 x0 x1 x2 x3 x4 x5 xl H0; have x0 := H2.out.box.c0; have x1 := H2.out.box.c1; have x2 := H2.out.box.c2; have x3 := H2.out.box.c3; have x4 := H2.out.box.c4; have x5 := H2.out.box.c5; have xl := H2.out.box.lt)
      | (go_at_call 65; refine (rwidths_any _).mono ?_; rintro e2 w2 ⟨b, rfl, hi2, hb2⟩; have hm : Below w1.heap.size w1 w2 := (by first | exact hb2 | exact (Below.refl _ _).drew.trans hb2 | exact (bal (Below.refl _ _) _).trans (hb2.mono (by simp)) | exact (bal (Below.refl _ _).drew _).trans (hb2.mono (by simp)) | exact (bal (Below.refl _ _) _).drew.trans (hb2.mono (by simp))); have H2 := rhide (H0.out.on hm); have HK : Hid (Calls Tryz.prog 64 #[.slice (some ⟨b, 0, none⟩) 5 5, .slice (some ⟨w2.heap.size, 0, none⟩) 5 5] (w2.alloc (.cells #[.int .u64 x.co, .int .u64 x.tb, .int .u64 x.pg, .int .u64 x.l, .int .u64 x.e] 60)) fun e w' => e = .returned (.tuple #[.int .u64 z, .int .i64 0]) ∧ Below w2.heap.size w2 w') := HK1.out b w2 hi2; clear hm hb2 hi2 x0 x1 x2 x3 x4 x5 xl H0; have x0 := H2.out.box.c0; have x1 := H2.out.box.c1; have x2 := H2.out.box.c2; have x3 := H2.out.box.c3; have x4 := H2.out.box.c4; have x5 := H2.out.box.c5; have xl := H2.out.box.lt)
      | (go_at_call 64; refine HK.out.mono ?_; rintro e3 w3 ⟨rfl, hm⟩; have H3 := rhide (H2.out.on hm); clear hm x0 x1 x2 x3 x4 x5 xl H2 HK; have x0 := H3.out.box.c0; have x1 := H3.out.box.c1; have x2 := H3.out.box.c2; have x3 := H3.out.box.c3; have x4 := H3.out.box.c4; have x5 := H3.out.box.c5; dsimp only)
      | fail)
    all_goals
      go_wp2_with fail
      go_meet
      first | exact ⟨rfl, rfl, H3.out⟩ | exact ⟨rfl, rfl, H3.out.on (Below.refl _ _).drew⟩
  case rest =>
    obtain ⟨h8, h9, h3⟩ := hcut
    subst h8
    subst h9
    have H3 := rhide h3
    clear h3 HK1 HK2 H0 x0 x1 x2 x3 x4 x5 xl
    go_upto_region 3 with (first
      | (go_at_call 66; refine (HPl.out _).mono ?_; rintro e4 w4 ⟨rfl, hw⟩; subst w4)
      | (go_at_call 24; refine (HS1.out _ (by first | exact H3.out | exact H3.out.on (Below.refl _ _).drew)).mono ?_; rintro e5 w5 ⟨⟨E, rfl⟩, hw⟩; have H4 := rhide hw; clear hw H3 HS1)
      | fail)
    have x5 := H4.out.box.c5
    go_region_held3 (fun w' => w'.cell? ⟨w.heap.size, 5, none⟩ = some (.int .i64 x.ip)) (first | assumption | go_keep)
    (first
      | (go_at_call 66; refine (HPl.out _).mono ?_; rintro e6 w6 ⟨rfl, hw⟩; subst w6)
      | (go_at_call 24; refine (HS2.out _ (by first | exact H4.out | exact H4.out.on (Below.refl _ _).drew)).mono ?_; rintro e7 w7 ⟨⟨E2, rfl⟩, hw⟩; have H5 := rhide hw; clear hw H4 HS2 x5; have x5 := H5.out.box.c5)
      | fail)
    all_goals
      go_wp2
      go_end0
      first
        | exact ⟨rfl, H5.out.rh.rx, H5.out.rh.below, H5.out.rh.kp⟩
        | exact ⟨rfl, (H5.out.on (Below.refl _ _).drew).rh.rx, (H5.out.on (Below.refl _ _).drew).rh.below, (H5.out.on (Below.refl _ _).drew).rh.kp⟩
end Go.Proofs.YtoipfcmjphlmfaaGreatDoor.Pstack
