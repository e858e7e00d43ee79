/- Each call of BuildGone at its own state; the states as lists (written by mk_gx.py). -/
import Derived.Test.YtcgekcjnaadcmaaGreatDoorGonX
import Derived.Test.YtcgekcjnaadcmaaGreatDoorGonW
import Derived.Test.YtcgekcjnaadcmaaGreatDoorGonG
import Derived.Test.YtcgekcjnaadcmaaGreatDoorGonO
import Derived.Test.YtcgekcjnaadcmaaGreatDoorGonT
import Derived.Test.YtcgekcjnaadcmaaGreatDoorGonR
namespace Go.Proofs.YtcgekcjnaadcmaaGreatDoor.Pbuild
open Go.Proofs.YtcgekcjnaadcmaaGreatDoor.Pbase Go.Proofs.YtcgekcjnaadcmaaGreatDoor.Pchold Go.Proofs.YtcgekcjnaadcmaaGreatDoor.Pfind Go.Proofs.YtcgekcjnaadcmaaGreatDoor.Play Go.Proofs.YtcgekcjnaadcmaaGreatDoor.Pmem Go.Proofs.YtcgekcjnaadcmaaGreatDoor.Pmst Go.Proofs.YtcgekcjnaadcmaaGreatDoor.Ppmach Go.Proofs.YtcgekcjnaadcmaaGreatDoor.Ptint
open Go.RowKit Go.Shelf
set_option linter.unusedVariables false
set_option linter.unusedSimpArgs false

def gL0 : Nat → Plive.LS := fun _ => Plive.noLS
def gL1 : Nat → Plive.LS := Plive.upd gL0 0 { gL0 0 with on := true }
def gL2 : Nat → Plive.LS := Plive.klS 64 gL1 0 0 0
def wdM0 : List (List Int) := []
def wdT0 : List Ptyp.FS := [⟨2, 0, 0, -1⟩, ⟨2, 0, 0, -1⟩, ⟨2, 0, 0, -1⟩, ⟨2, 0, 0, -1⟩, ⟨2, 0, 0, -1⟩, ⟨2, 0, 0, -1⟩, ⟨2, 0, 0, -1⟩, ⟨2, 0, 0, -1⟩, ⟨2, 0, 0, -1⟩, ⟨2, 0, 0, -1⟩]
def gs10 : St := gS wdM0 wdT0 gL0
def wdM1 : List (List Int) := [[1]]
def gs1 : St := gS wdM1 wdT0 gL0
def wdM2 : List (List Int) := [[1], [2]]
def gs2 : St := gS wdM2 wdT0 gL0
def wdM3 : List (List Int) := [[1], [2], [3, 0, 0, 0, 0, 1]]
def wdT1 : List Ptyp.FS := [⟨2, 0, 1, -1⟩, ⟨2, 0, 1, -1⟩, ⟨2, 0, 0, -1⟩, ⟨2, 0, 0, -1⟩, ⟨2, 0, 0, -1⟩, ⟨2, 0, 0, -1⟩, ⟨2, 0, 0, -1⟩, ⟨2, 0, 0, -1⟩, ⟨2, 0, 0, -1⟩, ⟨2, 0, 0, -1⟩]
def gs3 : St := gS wdM3 wdT1 gL1
def wdM4 : List (List Int) := [[1], [2], [3, 0, 0, 0, 0, 1], [5]]
def gs4 : St := gS wdM4 wdT1 gL1
def wdM5 : List (List Int) := [[1], [2], [3, 0, 0, 0, 0, 1], [5], [4, 0, 0, 0, 0, 0, 3, 0, 1, 0, 0, 0, 0, 0, 0, 0, 0, 4098]]
def wdT2 : List Ptyp.FS := [⟨2, 0, 1, -1⟩, ⟨2, 0, 1, -1⟩, ⟨2, 0, 0, -1⟩, ⟨2, 0, 1, -1⟩, ⟨2, 0, 0, -1⟩, ⟨2, 0, 0, -1⟩, ⟨2, 0, 0, -1⟩, ⟨2, 0, 0, -1⟩, ⟨2, 0, 0, -1⟩, ⟨2, 0, 0, -1⟩]
def gs5 : St := gS wdM5 wdT2 gL1
def wdM6 : List (List Int) := [[1], [2], [3, 0, 0, 0, 0, 1], [5], [4, 0, 0, 0, 0, 0, 3, 0, 1, 0, 0, 0, 0, 0, 0, 0, 0, 4098], [6, 0, 0, 0, 4]]
def wdT3 : List Ptyp.FS := [⟨2, 0, 1, -1⟩, ⟨2, 0, 1, -1⟩, ⟨2, 0, 0, -1⟩, ⟨2, 0, 1, -1⟩, ⟨2, 0, 1, -1⟩, ⟨2, 0, 0, -1⟩, ⟨2, 0, 0, -1⟩, ⟨2, 0, 0, -1⟩, ⟨2, 0, 0, -1⟩, ⟨2, 0, 0, -1⟩]
def gs6 : St := gS wdM6 wdT3 gL1
def wdM7 : List (List Int) := [[1], [2], [3, 0, 0, 0, 0, 1], [5], [4, 0, 0, 0, 0, 0, 3, 0, 1, 0, 0, 0, 0, 0, 0, 0, 0, 4098], [6, 0, 0, 0, 4], [4, 0, 0, 0, 0, 0, 3, 6, 1, 0, 0, 0, 0, 0, 0, 0, 0, 4098]]
def wdT4 : List Ptyp.FS := [⟨2, 0, 1, -1⟩, ⟨2, 0, 1, -1⟩, ⟨2, 0, 0, -1⟩, ⟨2, 0, 2, -1⟩, ⟨2, 0, 1, -1⟩, ⟨2, 0, 1, -1⟩, ⟨2, 0, 0, -1⟩, ⟨2, 0, 0, -1⟩, ⟨2, 0, 0, -1⟩, ⟨2, 0, 0, -1⟩]
def gt7 : St := gS wdM7 wdT4 gL1
def wdT5 : List Ptyp.FS := [⟨2, 0, 0, 0⟩, ⟨2, 0, 0, 0⟩, ⟨2, 0, 0, -1⟩, ⟨2, 0, 2, -1⟩, ⟨2, 0, 1, -1⟩, ⟨2, 0, 1, -1⟩, ⟨2, 0, 0, -1⟩, ⟨2, 0, 0, -1⟩, ⟨2, 0, 0, -1⟩, ⟨2, 0, 0, -1⟩]
def gt9 : St := gS wdM7 wdT5 gL2
def wdM8 : List (List Int) := [[1], [2], [3, 0, 0, 0, 0, 1], [5], [4, 0, 0, 0, 0, 0, 3, 0, 1, 0, 0, 0, 0, 0, 0, 0, 0, 4098], [6, 0, 0, 0, 4], [4, 0, 0, 0, 3, 0, 3, 6, 1, 0, 0, 0, 0, 0, 0, 0, 0, 4098]]
def gt10 : St := gS wdM8 wdT5 gL2
def wdM9 : List (List Int) := [[1], [2], [3, 0, 0, 0, 0, 1], [5], [4, 0, 0, 0, 3, 0, 3, 0, 1, 0, 0, 0, 0, 0, 0, 0, 0, 4098], [6, 0, 0, 0, 4], [4, 0, 0, 0, 3, 0, 3, 6, 1, 0, 0, 0, 0, 0, 0, 0, 0, 4098]]
def gt11 : St := gS wdM9 wdT5 gL2
def wdT6 : List Ptyp.FS := [⟨2, 0, 0, 0⟩, ⟨2, 0, 0, 0⟩, ⟨2, 0, 0, -1⟩, ⟨2, 0, 1, -1⟩, ⟨2, 0, 1, -1⟩, ⟨2, 0, 0, 0⟩, ⟨0, 2, 0, 0⟩, ⟨2, 0, 0, -1⟩, ⟨2, 0, 0, -1⟩, ⟨2, 0, 0, -1⟩]
def gt12 : St := gS wdM9 wdT6 gL2
def wdT7 : List Ptyp.FS := [⟨2, 0, 0, 0⟩, ⟨2, 0, 0, 0⟩, ⟨2, 0, 0, -1⟩, ⟨2, 0, 1, -1⟩, ⟨2, 0, 0, 0⟩, ⟨0, 2, 0, 0⟩, ⟨0, 2, 0, 0⟩, ⟨2, 0, 0, -1⟩, ⟨2, 0, 0, -1⟩, ⟨2, 0, 0, -1⟩]
def gt13 : St := gS wdM9 wdT7 gL2
def wdT8 : List Ptyp.FS := [⟨2, 0, 0, 0⟩, ⟨2, 0, 0, 0⟩, ⟨2, 0, 0, -1⟩, ⟨2, 0, 0, 0⟩, ⟨0, 2, 0, 0⟩, ⟨0, 2, 0, 0⟩, ⟨0, 2, 0, 0⟩, ⟨2, 0, 0, -1⟩, ⟨2, 0, 0, -1⟩, ⟨2, 0, 0, -1⟩]
def gt14 : St := gS wdM9 wdT8 gL2
def wdT9 : List Ptyp.FS := [⟨2, 0, 0, 0⟩, ⟨2, 0, 0, 0⟩, ⟨2, 0, 0, -1⟩, ⟨0, 2, 0, 0⟩, ⟨0, 2, 0, 0⟩, ⟨0, 2, 0, 0⟩, ⟨0, 2, 0, 0⟩, ⟨2, 0, 0, -1⟩, ⟨2, 0, 0, -1⟩, ⟨2, 0, 0, -1⟩]
def gt15 : St := gS wdM9 wdT9 gL2
def wdT10 : List Ptyp.FS := [⟨2, 0, 0, 0⟩, ⟨2, 0, 0, 0⟩, ⟨0, 2, 0, 0⟩, ⟨0, 2, 0, 0⟩, ⟨0, 2, 0, 0⟩, ⟨0, 2, 0, 0⟩, ⟨0, 2, 0, 0⟩, ⟨2, 0, 0, -1⟩, ⟨2, 0, 0, -1⟩, ⟨2, 0, 0, -1⟩]
def gt16 : St := gS wdM9 wdT10 gL2
def wdT11 : List Ptyp.FS := [⟨2, 0, 0, 0⟩, ⟨0, 3, 0, 0⟩, ⟨0, 2, 0, 0⟩, ⟨0, 2, 0, 0⟩, ⟨0, 2, 0, 0⟩, ⟨0, 2, 0, 0⟩, ⟨0, 2, 0, 0⟩, ⟨2, 0, 0, -1⟩, ⟨2, 0, 0, -1⟩, ⟨2, 0, 0, -1⟩]
def gt17 : St := gS wdM9 wdT11 gL2
def wdT12 : List Ptyp.FS := [⟨0, 2, 0, 0⟩, ⟨0, 3, 0, 0⟩, ⟨0, 2, 0, 0⟩, ⟨0, 2, 0, 0⟩, ⟨0, 2, 0, 0⟩, ⟨0, 2, 0, 0⟩, ⟨0, 2, 0, 0⟩, ⟨2, 0, 0, -1⟩, ⟨2, 0, 0, -1⟩, ⟨2, 0, 0, -1⟩]
def gt18 : St := gS wdM9 wdT12 gL2
def wdM10 : List (List Int) := [[1], [2], [3, 0, 0, 0, 0, 1], [5], [4, 0, 0, 0, 0, 0, 3, 0, 1, 0, 0, 0, 0, 0, 0, 0, 0, 4098], [6, 0, 0, 0, 4], [4, 0, 0, 0, 0, 0, 3, 0, 1, 0, 0, 0, 0, 0, 0, 0, 0, 4098]]
def wdT13 : List Ptyp.FS := [⟨2, 0, 1, -1⟩, ⟨2, 0, 1, -1⟩, ⟨2, 0, 0, -1⟩, ⟨2, 0, 2, -1⟩, ⟨2, 0, 1, -1⟩, ⟨2, 0, 0, -1⟩, ⟨2, 0, 0, -1⟩, ⟨2, 0, 0, -1⟩, ⟨2, 0, 0, -1⟩, ⟨2, 0, 0, -1⟩]
def gf7 : St := gS wdM10 wdT13 gL1
def wdT14 : List Ptyp.FS := [⟨2, 0, 1, -1⟩, ⟨2, 0, 1, -1⟩, ⟨2, 0, 0, -1⟩, ⟨2, 0, 2, -1⟩, ⟨2, 0, 0, 0⟩, ⟨0, 2, 0, 0⟩, ⟨2, 0, 0, -1⟩, ⟨2, 0, 0, -1⟩, ⟨2, 0, 0, -1⟩, ⟨2, 0, 0, -1⟩]
def gf8 : St := gS wdM10 wdT14 gL1
def wdT15 : List Ptyp.FS := [⟨2, 0, 0, 0⟩, ⟨2, 0, 0, 0⟩, ⟨2, 0, 0, -1⟩, ⟨2, 0, 2, -1⟩, ⟨2, 0, 0, 0⟩, ⟨0, 2, 0, 0⟩, ⟨2, 0, 0, -1⟩, ⟨2, 0, 0, -1⟩, ⟨2, 0, 0, -1⟩, ⟨2, 0, 0, -1⟩]
def gf9 : St := gS wdM10 wdT15 gL2
def wdM11 : List (List Int) := [[1], [2], [3, 0, 0, 0, 0, 1], [5], [4, 0, 0, 0, 0, 0, 3, 0, 1, 0, 0, 0, 0, 0, 0, 0, 0, 4098], [6, 0, 0, 0, 4], [4, 0, 0, 0, 3, 0, 3, 0, 1, 0, 0, 0, 0, 0, 0, 0, 0, 4098]]
def gf10 : St := gS wdM11 wdT15 gL2
def wdM12 : List (List Int) := [[1], [2], [3, 0, 0, 0, 0, 1], [5], [4, 0, 0, 0, 3, 0, 3, 0, 1, 0, 0, 0, 0, 0, 0, 0, 0, 4098], [6, 0, 0, 0, 4], [4, 0, 0, 0, 3, 0, 3, 0, 1, 0, 0, 0, 0, 0, 0, 0, 0, 4098]]
def gf11 : St := gS wdM12 wdT15 gL2
def gf12 : St := gS wdM12 wdT7 gL2
def gf14 : St := gS wdM12 wdT8 gL2
def gf15 : St := gS wdM12 wdT9 gL2
def gf16 : St := gS wdM12 wdT10 gL2
def gf17 : St := gS wdM12 wdT11 gL2
def gf18 : St := gS wdM12 wdT12 gL2
section
variable {w0 w : World} {p : Nat} {o : Nat → Nat} {P : Pq}
theorem g_tbl (h : Fx w0 w p o P gs10) : Calls Tryz.prog 6 #[.pointer (some ⟨p, 0, none⟩), .int .i64 0, .int .i64 0] w fun e w' => e = .returned (.int .i64 0) ∧ Fx w0 w' p o P gs1 :=
  (btbl_ok 0 0 h (by decide +kernel)).mono (by rintro e w' ⟨h1, h2⟩; exact ⟨h1.trans (by rw [show Phead.errP gs10.N 0 1 0 false 0 = 0 by decide +kernel]), (lv_norm h2 (by decide +kernel) (fitL_fit (by decide +kernel)) (by decide +kernel) (okL_ok (by decide +kernel))).fx⟩)
theorem g_pgt (h : Fx w0 w p o P gs1) : Calls Tryz.prog 7 #[.pointer (some ⟨p, 0, none⟩), .int .i64 1, .int .i64 0] w fun e w' => e = .returned (.int .i64 0) ∧ Fx w0 w' p o P gs2 :=
  (bpgt_ok 1 0 h (by decide +kernel)).mono (by rintro e w' ⟨h1, h2⟩; exact ⟨h1.trans (by rw [show Phead.errP gs1.N 1 2 0 false 0 = 0 by decide +kernel]), (lv_norm h2 (by decide +kernel) (fitL_fit (by decide +kernel)) (by decide +kernel) (okL_ok (by decide +kernel))).fx⟩)
theorem g_comp (h : Fx w0 w p o P gs2) (hT : Tz w0) : Calls Tryz.prog 8 #[.pointer (some ⟨p, 0, none⟩), .int .i64 2, .int .i64 0, .int .i64 1] w fun e w' => e = .returned (.tuple #[.agg #[.int .i64 5, .int .i64 31, .int .i64 2, .int .i64 0, .int .i64 0, .int .i64 0], .int .i64 0]) ∧ Fx w0 w' p o P gs3 :=
  (bcomp_ok 2 0 1 0 0 (-1) gL1 h hT (by unfold Pcomp.Fi In64; decide) (by decide +kernel) (hd_all (by decide +kernel)) (rm_all (by decide +kernel)) (by decide +kernel) (Plive.tk_hit (N := 64) (S := gL0) (fl := -1) (k := 0) (by decide) (by decide) (fun j hj => absurd hj (Nat.not_lt_zero j))).1 (Plive.tk_hit (N := 64) (S := gL0) (fl := -1) (k := 0) (by decide) (by decide) (fun j hj => absurd hj (Nat.not_lt_zero j))).2.1 (Plive.tk_hit (N := 64) (S := gL0) (fl := -1) (k := 0) (by decide) (by decide) (fun j hj => absurd hj (Nat.not_lt_zero j))).2.2.2 (Plive.tk_hit (N := 64) (S := gL0) (fl := -1) (k := 0) (by decide) (by decide) (fun j hj => absurd hj (Nat.not_lt_zero j))).2.2.1).mono (by rintro e w' ⟨h1, h2⟩; exact ⟨h1.trans (by rw [show Pcomp.mkE gs2.N 2 ⟨0, 1, 0, 0, 0, 0⟩ = 0 by decide +kernel]), (lv_norm h2 (by decide +kernel) (fitL_fit (by decide +kernel)) (by decide +kernel) (okL_ok (by decide +kernel))).fx⟩)
theorem g_tcap (h : Fx w0 w p o P gs3) : Calls Tryz.prog 9 #[.pointer (some ⟨p, 0, none⟩), .int .i64 3] w fun e w' => e = .returned (.int .i64 0) ∧ Fx w0 w' p o P gs4 :=
  (btcp_ok 3 h (by decide +kernel)).mono (by rintro e w' ⟨h1, h2⟩; exact ⟨h1.trans (by rw [show Ptcap.mkE gs3.N 3 Ptcap.bd0 = 0 by decide +kernel]), (lv_norm h2 (by decide +kernel) (fitL_fit (by decide +kernel)) (by decide +kernel) (okL_ok (by decide +kernel))).fx⟩)
theorem g_thd4 (h : Fx w0 w p o P gs4) (hT : Tz w0) : Calls Tryz.prog 10 #[.pointer (some ⟨p, 0, none⟩), .int .i64 4, .int .i64 2, .int .i64 3, .int .i64 0] w fun e w' => e = .returned (.int .i64 0) ∧ Fx w0 w' p o P gs5 :=
  (bthd_ok 4 2 3 0 h hT (by unfold Pthd.Fi In64; decide) (by decide +kernel) (by decide +kernel) (hd_all (by decide +kernel)) (rm_all (by decide +kernel)) (by decide +kernel) (by decide +kernel)).mono (by rintro e w' ⟨h1, h2⟩; exact ⟨h1, (lv_norm h2 (by decide +kernel) (fitL_fit (by decide +kernel)) (by decide +kernel) (okL_ok (by decide +kernel))).fx⟩)
theorem g_rcv (h : Fx w0 w p o P gs5) (hT : Tz w0) : Calls Tryz.prog 11 #[.pointer (some ⟨p, 0, none⟩), .int .i64 5, .int .i64 4, .int .i64 0] w fun e w' => e = .returned (.int .i64 0) ∧ Fx w0 w' p o P gs6 :=
  (brcv_ok 5 4 0 h hT (by unfold Pqrcv.Fv In64; decide) (by decide +kernel) (hd_all (by decide +kernel)) (rm_all (by decide +kernel))).mono (by rintro e w' ⟨h1, h2⟩; exact ⟨h1.trans (by rw [show Pqrcv.vmE gs5.N 5 ⟨4, 0, 0, false, 0⟩ = 0 by decide +kernel]), (lv_norm h2 (by decide +kernel) (fitL_fit (by decide +kernel)) (by decide +kernel) (okL_ok (by decide +kernel))).fx⟩)
theorem g_thd6t (h : Fx w0 w p o P gs6) (hT : Tz w0) : Calls Tryz.prog 10 #[.pointer (some ⟨p, 0, none⟩), .int .i64 6, .int .i64 2, .int .i64 3, .int .i64 6] w fun e w' => e = .returned (.int .i64 0) ∧ Fx w0 w' p o P gt7 :=
  (bthd_ok 6 2 3 6 h hT (by unfold Pthd.Fi In64; decide) (by decide +kernel) (by decide +kernel) (hd_all (by decide +kernel)) (rm_all (by decide +kernel)) (by decide +kernel) (by decide +kernel)).mono (by rintro e w' ⟨h1, h2⟩; exact ⟨h1, (lv_norm h2 (by decide +kernel) (fitL_fit (by decide +kernel)) (by decide +kernel) (okL_ok (by decide +kernel))).fx⟩)
theorem g_thd6f (h : Fx w0 w p o P gs6) (hT : Tz w0) : Calls Tryz.prog 10 #[.pointer (some ⟨p, 0, none⟩), .int .i64 6, .int .i64 2, .int .i64 3, .int .i64 0] w fun e w' => e = .returned (.int .i64 0) ∧ Fx w0 w' p o P gf7 :=
  (bthd_ok 6 2 3 0 h hT (by unfold Pthd.Fi In64; decide) (by decide +kernel) (by decide +kernel) (hd_all (by decide +kernel)) (rm_all (by decide +kernel)) (by decide +kernel) (by decide +kernel)).mono (by rintro e w' ⟨h1, h2⟩; exact ⟨h1, (lv_norm h2 (by decide +kernel) (fitL_fit (by decide +kernel)) (by decide +kernel) (okL_ok (by decide +kernel))).fx⟩)
theorem g_t_h0 (h : Fx w0 w p o P gt7) (hT : Tz w0) : Calls Tryz.prog 12 #[.pointer (some ⟨p, 0, none⟩), .int .i64 0] w fun e w' => e = .returned (.int .i64 10) ∧ Fx w0 w' p o P gt7 :=
  (unt_busyN 0 1 false h (by decide +kernel) (by decide +kernel) (by decide +kernel) (by decide) (by decide +kernel) (fun wx hx => done1 0 hx hT (by decide +kernel) (by decide +kernel))).mono (by rintro e w' ⟨h1, h2⟩; exact ⟨h1, (lv_norm h2 (by decide +kernel) (fitL_fit (by decide +kernel)) (by decide +kernel) (okL_ok (by decide +kernel))).fx⟩)
theorem g_t_h1 (h : Fx w0 w p o P gt7) (hT : Tz w0) : Calls Tryz.prog 12 #[.pointer (some ⟨p, 0, none⟩), .int .i64 1] w fun e w' => e = .returned (.int .i64 10) ∧ Fx w0 w' p o P gt7 :=
  (unt_busyN 1 2 true h (by decide +kernel) (by decide +kernel) (by decide +kernel) (by decide) (by decide +kernel) (fun wx hx => done2 1 hx hT (by decide +kernel) (by decide +kernel))).mono (by rintro e w' ⟨h1, h2⟩; exact ⟨h1, (lv_norm h2 (by decide +kernel) (fitL_fit (by decide +kernel)) (by decide +kernel) (okL_ok (by decide +kernel))).fx⟩)
theorem g_t_h2 (h : Fx w0 w p o P gt7) (hT : Tz w0) : Calls Tryz.prog 12 #[.pointer (some ⟨p, 0, none⟩), .int .i64 2] w fun e w' => e = .returned (.int .i64 10) ∧ Fx w0 w' p o P gt7 :=
  (unt_noC 2 h (by decide +kernel) (by decide +kernel) (by decide +kernel) hT (by decide +kernel)).mono (by rintro e w' ⟨h1, h2⟩; exact ⟨h1, (lv_norm h2 (by decide +kernel) (fitL_fit (by decide +kernel)) (by decide +kernel) (okL_ok (by decide +kernel))).fx⟩)
theorem g_t_h3 (h : Fx w0 w p o P gt7) (hT : Tz w0) : Calls Tryz.prog 12 #[.pointer (some ⟨p, 0, none⟩), .int .i64 3] w fun e w' => e = .returned (.int .i64 10) ∧ Fx w0 w' p o P gt7 :=
  (unt_busyN 3 5 false h (by decide +kernel) (by decide +kernel) (by decide +kernel) (by decide) (by decide +kernel) (fun wx hx => done5 3 hx)).mono (by rintro e w' ⟨h1, h2⟩; exact ⟨h1, (lv_norm h2 (by decide +kernel) (fitL_fit (by decide +kernel)) (by decide +kernel) (okL_ok (by decide +kernel))).fx⟩)
theorem g_t_h4 (h : Fx w0 w p o P gt7) (hT : Tz w0) : Calls Tryz.prog 12 #[.pointer (some ⟨p, 0, none⟩), .int .i64 4] w fun e w' => e = .returned (.int .i64 10) ∧ Fx w0 w' p o P gt7 :=
  (unt_noT 4 h (by decide +kernel) (by decide +kernel) (by decide +kernel) (Pthd.gtT gt7.N gt7.M 4) (by decide +kernel) rfl (by decide +kernel)).mono (by rintro e w' ⟨h1, h2⟩; exact ⟨h1, (lv_norm h2 (by decide +kernel) (fitL_fit (by decide +kernel)) (by decide +kernel) (okL_ok (by decide +kernel))).fx⟩)
theorem g_t_h6 (h : Fx w0 w p o P gt7) (hT : Tz w0) : Calls Tryz.prog 12 #[.pointer (some ⟨p, 0, none⟩), .int .i64 6] w fun e w' => e = .returned (.int .i64 10) ∧ Fx w0 w' p o P gt7 :=
  (unt_noT 6 h (by decide +kernel) (by decide +kernel) (by decide +kernel) (Pthd.gtT gt7.N gt7.M 6) (by decide +kernel) rfl (by decide +kernel)).mono (by rintro e w' ⟨h1, h2⟩; exact ⟨h1, (lv_norm h2 (by decide +kernel) (fitL_fit (by decide +kernel)) (by decide +kernel) (okL_ok (by decide +kernel))).fx⟩)
theorem g_t_h5 (h : Fx w0 w p o P gt7) (hT : Tz w0) : Calls Tryz.prog 12 #[.pointer (some ⟨p, 0, none⟩), .int .i64 5] w fun e w' => e = .returned (.int .i64 10) ∧ Fx w0 w' p o P gt7 :=
  (unt_busyR 5 h (by decide +kernel) (by decide +kernel) (by decide +kernel) (Pqrcv.vgX gt7.N gt7.M 5) hT (by decide +kernel) rfl (by decide +kernel) (by decide +kernel) (by decide +kernel)).mono (by rintro e w' ⟨h1, h2⟩; exact ⟨h1, (lv_norm h2 (by decide +kernel) (fitL_fit (by decide +kernel)) (by decide +kernel) (okL_ok (by decide +kernel))).fx⟩)
theorem g_t_kill (h : Fx w0 w p o P gt7) (hT : Tz w0) : Calls Tryz.prog 13 #[.pointer (some ⟨p, 0, none⟩), .int .i64 2] w fun e w' => e = .returned (.int .i64 0) ∧ Fx w0 w' p o P gt9 :=
  (kill_ok 2 ⟨0, 1, 0, 0, 0, 0⟩ gL2 h hT (by decide +kernel) (by kernel_rfl) (by decide +kernel) (by kernel_rfl)).mono (by rintro e w' ⟨h1, h2⟩; exact ⟨h1, (lv_norm h2 (by decide +kernel) (fitL_fit (by decide +kernel)) (by decide +kernel) (okL_ok (by decide +kernel))).fx⟩)
theorem g_t_d6 (h : Fx w0 w p o P gt9) : Calls Tryz.prog 14 #[.pointer (some ⟨P.pm, 0, none⟩), .int .i64 6, .int .i64 3] w fun e w' => e = .returned (.int .i64 0) ∧ Fx w0 w' p o P gt10 :=
  (gx_state 6 3 (by unfold In64; decide) h).mono (by rintro e w' ⟨h1, h2⟩; exact ⟨h1.trans (by rw [show Pthd.stE gt9.N gt9.M 6 3 = 0 by decide +kernel]), (lv_norm h2 (by decide +kernel) (fitL_fit (by decide +kernel)) (by decide +kernel) (okL_ok (by decide +kernel))).fx⟩)
theorem g_t_d4 (h : Fx w0 w p o P gt10) : Calls Tryz.prog 14 #[.pointer (some ⟨P.pm, 0, none⟩), .int .i64 4, .int .i64 3] w fun e w' => e = .returned (.int .i64 0) ∧ Fx w0 w' p o P gt11 :=
  (gx_state 4 3 (by unfold In64; decide) h).mono (by rintro e w' ⟨h1, h2⟩; exact ⟨h1.trans (by rw [show Pthd.stE gt10.N gt10.M 4 3 = 0 by decide +kernel]), (lv_norm h2 (by decide +kernel) (fitL_fit (by decide +kernel)) (by decide +kernel) (okL_ok (by decide +kernel))).fx⟩)
theorem g_t_u6 (h : Fx w0 w p o P gt11) (hT : Tz w0) : Calls Tryz.prog 12 #[.pointer (some ⟨p, 0, none⟩), .int .i64 6] w fun e w' => e = .returned (.int .i64 0) ∧ Fx w0 w' p o P gt12 :=
  (unt_yesT 6 h (by decide +kernel) (by decide +kernel) (by decide +kernel) (Pthd.gtT gt11.N gt11.M 6) (by decide +kernel) rfl (by decide +kernel) (by decide +kernel)).mono (by rintro e w' ⟨h1, h2⟩; exact ⟨h1, (lv_norm h2 (by decide +kernel) (fitL_fit (by decide +kernel)) (by decide +kernel) (okL_ok (by decide +kernel))).fx⟩)
theorem g_t_u5 (h : Fx w0 w p o P gt12) (hT : Tz w0) : Calls Tryz.prog 12 #[.pointer (some ⟨p, 0, none⟩), .int .i64 5] w fun e w' => e = .returned (.int .i64 0) ∧ Fx w0 w' p o P gt13 :=
  (unt_yesR 5 h (by decide +kernel) (by decide +kernel) (by decide +kernel) (Pqrcv.vgX gt12.N gt12.M 5) hT (by decide +kernel) rfl (by decide +kernel) (by decide +kernel) (by decide +kernel)).mono (by rintro e w' ⟨h1, h2⟩; exact ⟨h1, (lv_norm h2 (by decide +kernel) (fitL_fit (by decide +kernel)) (by decide +kernel) (okL_ok (by decide +kernel))).fx⟩)
theorem g_t_u4 (h : Fx w0 w p o P gt13) (hT : Tz w0) : Calls Tryz.prog 12 #[.pointer (some ⟨p, 0, none⟩), .int .i64 4] w fun e w' => e = .returned (.int .i64 0) ∧ Fx w0 w' p o P gt14 :=
  (unt_yesT 4 h (by decide +kernel) (by decide +kernel) (by decide +kernel) (Pthd.gtT gt13.N gt13.M 4) (by decide +kernel) rfl (by decide +kernel) (by decide +kernel)).mono (by rintro e w' ⟨h1, h2⟩; exact ⟨h1, (lv_norm h2 (by decide +kernel) (fitL_fit (by decide +kernel)) (by decide +kernel) (okL_ok (by decide +kernel))).fx⟩)
theorem g_t_u3 (h : Fx w0 w p o P gt14) (hT : Tz w0) : Calls Tryz.prog 12 #[.pointer (some ⟨p, 0, none⟩), .int .i64 3] w fun e w' => e = .returned (.int .i64 0) ∧ Fx w0 w' p o P gt15 :=
  (unt_yesN 3 5 false h (by decide +kernel) (by decide +kernel) (by decide +kernel) (by decide) (by decide +kernel) (fun wx hx => done5 3 hx)).mono (by rintro e w' ⟨h1, h2⟩; exact ⟨h1, (lv_norm h2 (by decide +kernel) (fitL_fit (by decide +kernel)) (by decide +kernel) (okL_ok (by decide +kernel))).fx⟩)
theorem g_t_u2 (h : Fx w0 w p o P gt15) (hT : Tz w0) : Calls Tryz.prog 12 #[.pointer (some ⟨p, 0, none⟩), .int .i64 2] w fun e w' => e = .returned (.int .i64 0) ∧ Fx w0 w' p o P gt16 :=
  (unt_yesN 2 3 false h (by decide +kernel) (by decide +kernel) (by decide +kernel) (by decide) (by decide +kernel) (fun wx hx => (done3 2 hx hT).mono (by rintro e w' ⟨h1, h2⟩; rw [show (fcE gt15 2 == 7) = true by decide +kernel] at h1; exact ⟨h1, h2⟩))).mono (by rintro e w' ⟨h1, h2⟩; exact ⟨h1, (lv_norm h2 (by decide +kernel) (fitL_fit (by decide +kernel)) (by decide +kernel) (okL_ok (by decide +kernel))).fx⟩)
theorem g_t_u1 (h : Fx w0 w p o P gt16) (hT : Tz w0) : Calls Tryz.prog 12 #[.pointer (some ⟨p, 0, none⟩), .int .i64 1] w fun e w' => e = .returned (.int .i64 0) ∧ Fx w0 w' p o P gt17 :=
  (unt_yesN 1 2 true h (by decide +kernel) (by decide +kernel) (by decide +kernel) (by decide) (by decide +kernel) (fun wx hx => done2 1 hx hT (by decide +kernel) (by decide +kernel))).mono (by rintro e w' ⟨h1, h2⟩; exact ⟨h1, (lv_norm h2 (by decide +kernel) (fitL_fit (by decide +kernel)) (by decide +kernel) (okL_ok (by decide +kernel))).fx⟩)
theorem g_t_u0 (h : Fx w0 w p o P gt17) (hT : Tz w0) : Calls Tryz.prog 12 #[.pointer (some ⟨p, 0, none⟩), .int .i64 0] w fun e w' => e = .returned (.int .i64 0) ∧ Fx w0 w' p o P gt18 :=
  (unt_yesN 0 1 false h (by decide +kernel) (by decide +kernel) (by decide +kernel) (by decide) (by decide +kernel) (fun wx hx => done1 0 hx hT (by decide +kernel) (by decide +kernel))).mono (by rintro e w' ⟨h1, h2⟩; exact ⟨h1, (lv_norm h2 (by decide +kernel) (fitL_fit (by decide +kernel)) (by decide +kernel) (okL_ok (by decide +kernel))).fx⟩)
theorem g_f_h0 (h : Fx w0 w p o P gf7) (hT : Tz w0) : Calls Tryz.prog 12 #[.pointer (some ⟨p, 0, none⟩), .int .i64 0] w fun e w' => e = .returned (.int .i64 10) ∧ Fx w0 w' p o P gf7 :=
  (unt_busyN 0 1 false h (by decide +kernel) (by decide +kernel) (by decide +kernel) (by decide) (by decide +kernel) (fun wx hx => done1 0 hx hT (by decide +kernel) (by decide +kernel))).mono (by rintro e w' ⟨h1, h2⟩; exact ⟨h1, (lv_norm h2 (by decide +kernel) (fitL_fit (by decide +kernel)) (by decide +kernel) (okL_ok (by decide +kernel))).fx⟩)
theorem g_f_h1 (h : Fx w0 w p o P gf7) (hT : Tz w0) : Calls Tryz.prog 12 #[.pointer (some ⟨p, 0, none⟩), .int .i64 1] w fun e w' => e = .returned (.int .i64 10) ∧ Fx w0 w' p o P gf7 :=
  (unt_busyN 1 2 true h (by decide +kernel) (by decide +kernel) (by decide +kernel) (by decide) (by decide +kernel) (fun wx hx => done2 1 hx hT (by decide +kernel) (by decide +kernel))).mono (by rintro e w' ⟨h1, h2⟩; exact ⟨h1, (lv_norm h2 (by decide +kernel) (fitL_fit (by decide +kernel)) (by decide +kernel) (okL_ok (by decide +kernel))).fx⟩)
theorem g_f_h2 (h : Fx w0 w p o P gf7) (hT : Tz w0) : Calls Tryz.prog 12 #[.pointer (some ⟨p, 0, none⟩), .int .i64 2] w fun e w' => e = .returned (.int .i64 10) ∧ Fx w0 w' p o P gf7 :=
  (unt_noC 2 h (by decide +kernel) (by decide +kernel) (by decide +kernel) hT (by decide +kernel)).mono (by rintro e w' ⟨h1, h2⟩; exact ⟨h1, (lv_norm h2 (by decide +kernel) (fitL_fit (by decide +kernel)) (by decide +kernel) (okL_ok (by decide +kernel))).fx⟩)
theorem g_f_h3 (h : Fx w0 w p o P gf7) (hT : Tz w0) : Calls Tryz.prog 12 #[.pointer (some ⟨p, 0, none⟩), .int .i64 3] w fun e w' => e = .returned (.int .i64 10) ∧ Fx w0 w' p o P gf7 :=
  (unt_busyN 3 5 false h (by decide +kernel) (by decide +kernel) (by decide +kernel) (by decide) (by decide +kernel) (fun wx hx => done5 3 hx)).mono (by rintro e w' ⟨h1, h2⟩; exact ⟨h1, (lv_norm h2 (by decide +kernel) (fitL_fit (by decide +kernel)) (by decide +kernel) (okL_ok (by decide +kernel))).fx⟩)
theorem g_f_h4 (h : Fx w0 w p o P gf7) (hT : Tz w0) : Calls Tryz.prog 12 #[.pointer (some ⟨p, 0, none⟩), .int .i64 4] w fun e w' => e = .returned (.int .i64 10) ∧ Fx w0 w' p o P gf7 :=
  (unt_noT 4 h (by decide +kernel) (by decide +kernel) (by decide +kernel) (Pthd.gtT gf7.N gf7.M 4) (by decide +kernel) rfl (by decide +kernel)).mono (by rintro e w' ⟨h1, h2⟩; exact ⟨h1, (lv_norm h2 (by decide +kernel) (fitL_fit (by decide +kernel)) (by decide +kernel) (okL_ok (by decide +kernel))).fx⟩)
theorem g_f_h6 (h : Fx w0 w p o P gf7) (hT : Tz w0) : Calls Tryz.prog 12 #[.pointer (some ⟨p, 0, none⟩), .int .i64 6] w fun e w' => e = .returned (.int .i64 10) ∧ Fx w0 w' p o P gf7 :=
  (unt_noT 6 h (by decide +kernel) (by decide +kernel) (by decide +kernel) (Pthd.gtT gf7.N gf7.M 6) (by decide +kernel) rfl (by decide +kernel)).mono (by rintro e w' ⟨h1, h2⟩; exact ⟨h1, (lv_norm h2 (by decide +kernel) (fitL_fit (by decide +kernel)) (by decide +kernel) (okL_ok (by decide +kernel))).fx⟩)
theorem g_f_h5 (h : Fx w0 w p o P gf7) (hT : Tz w0) : Calls Tryz.prog 12 #[.pointer (some ⟨p, 0, none⟩), .int .i64 5] w fun e w' => e = .returned (.int .i64 0) ∧ Fx w0 w' p o P gf8 :=
  (unt_yesR 5 h (by decide +kernel) (by decide +kernel) (by decide +kernel) (Pqrcv.vgX gf7.N gf7.M 5) hT (by decide +kernel) rfl (by decide +kernel) (by decide +kernel) (by decide +kernel)).mono (by rintro e w' ⟨h1, h2⟩; exact ⟨h1, (lv_norm h2 (by decide +kernel) (fitL_fit (by decide +kernel)) (by decide +kernel) (okL_ok (by decide +kernel))).fx⟩)
theorem g_f_kill (h : Fx w0 w p o P gf8) (hT : Tz w0) : Calls Tryz.prog 13 #[.pointer (some ⟨p, 0, none⟩), .int .i64 2] w fun e w' => e = .returned (.int .i64 0) ∧ Fx w0 w' p o P gf9 :=
  (kill_ok 2 ⟨0, 1, 0, 0, 0, 0⟩ gL2 h hT (by decide +kernel) (by kernel_rfl) (by decide +kernel) (by kernel_rfl)).mono (by rintro e w' ⟨h1, h2⟩; exact ⟨h1, (lv_norm h2 (by decide +kernel) (fitL_fit (by decide +kernel)) (by decide +kernel) (okL_ok (by decide +kernel))).fx⟩)
theorem g_f_d6 (h : Fx w0 w p o P gf9) : Calls Tryz.prog 14 #[.pointer (some ⟨P.pm, 0, none⟩), .int .i64 6, .int .i64 3] w fun e w' => e = .returned (.int .i64 0) ∧ Fx w0 w' p o P gf10 :=
  (gx_state 6 3 (by unfold In64; decide) h).mono (by rintro e w' ⟨h1, h2⟩; exact ⟨h1.trans (by rw [show Pthd.stE gf9.N gf9.M 6 3 = 0 by decide +kernel]), (lv_norm h2 (by decide +kernel) (fitL_fit (by decide +kernel)) (by decide +kernel) (okL_ok (by decide +kernel))).fx⟩)
theorem g_f_d4 (h : Fx w0 w p o P gf10) : Calls Tryz.prog 14 #[.pointer (some ⟨P.pm, 0, none⟩), .int .i64 4, .int .i64 3] w fun e w' => e = .returned (.int .i64 0) ∧ Fx w0 w' p o P gf11 :=
  (gx_state 4 3 (by unfold In64; decide) h).mono (by rintro e w' ⟨h1, h2⟩; exact ⟨h1.trans (by rw [show Pthd.stE gf10.N gf10.M 4 3 = 0 by decide +kernel]), (lv_norm h2 (by decide +kernel) (fitL_fit (by decide +kernel)) (by decide +kernel) (okL_ok (by decide +kernel))).fx⟩)
theorem g_f_u6 (h : Fx w0 w p o P gf11) (hT : Tz w0) : Calls Tryz.prog 12 #[.pointer (some ⟨p, 0, none⟩), .int .i64 6] w fun e w' => e = .returned (.int .i64 0) ∧ Fx w0 w' p o P gf12 :=
  (unt_yesT 6 h (by decide +kernel) (by decide +kernel) (by decide +kernel) (Pthd.gtT gf11.N gf11.M 6) (by decide +kernel) rfl (by decide +kernel) (by decide +kernel)).mono (by rintro e w' ⟨h1, h2⟩; exact ⟨h1, (lv_norm h2 (by decide +kernel) (fitL_fit (by decide +kernel)) (by decide +kernel) (okL_ok (by decide +kernel))).fx⟩)
theorem g_f_u4 (h : Fx w0 w p o P gf12) (hT : Tz w0) : Calls Tryz.prog 12 #[.pointer (some ⟨p, 0, none⟩), .int .i64 4] w fun e w' => e = .returned (.int .i64 0) ∧ Fx w0 w' p o P gf14 :=
  (unt_yesT 4 h (by decide +kernel) (by decide +kernel) (by decide +kernel) (Pthd.gtT gf12.N gf12.M 4) (by decide +kernel) rfl (by decide +kernel) (by decide +kernel)).mono (by rintro e w' ⟨h1, h2⟩; exact ⟨h1, (lv_norm h2 (by decide +kernel) (fitL_fit (by decide +kernel)) (by decide +kernel) (okL_ok (by decide +kernel))).fx⟩)
theorem g_f_u3 (h : Fx w0 w p o P gf14) (hT : Tz w0) : Calls Tryz.prog 12 #[.pointer (some ⟨p, 0, none⟩), .int .i64 3] w fun e w' => e = .returned (.int .i64 0) ∧ Fx w0 w' p o P gf15 :=
  (unt_yesN 3 5 false h (by decide +kernel) (by decide +kernel) (by decide +kernel) (by decide) (by decide +kernel) (fun wx hx => done5 3 hx)).mono (by rintro e w' ⟨h1, h2⟩; exact ⟨h1, (lv_norm h2 (by decide +kernel) (fitL_fit (by decide +kernel)) (by decide +kernel) (okL_ok (by decide +kernel))).fx⟩)
theorem g_f_u2 (h : Fx w0 w p o P gf15) (hT : Tz w0) : Calls Tryz.prog 12 #[.pointer (some ⟨p, 0, none⟩), .int .i64 2] w fun e w' => e = .returned (.int .i64 0) ∧ Fx w0 w' p o P gf16 :=
  (unt_yesN 2 3 false h (by decide +kernel) (by decide +kernel) (by decide +kernel) (by decide) (by decide +kernel) (fun wx hx => (done3 2 hx hT).mono (by rintro e w' ⟨h1, h2⟩; rw [show (fcE gf15 2 == 7) = true by decide +kernel] at h1; exact ⟨h1, h2⟩))).mono (by rintro e w' ⟨h1, h2⟩; exact ⟨h1, (lv_norm h2 (by decide +kernel) (fitL_fit (by decide +kernel)) (by decide +kernel) (okL_ok (by decide +kernel))).fx⟩)
theorem g_f_u1 (h : Fx w0 w p o P gf16) (hT : Tz w0) : Calls Tryz.prog 12 #[.pointer (some ⟨p, 0, none⟩), .int .i64 1] w fun e w' => e = .returned (.int .i64 0) ∧ Fx w0 w' p o P gf17 :=
  (unt_yesN 1 2 true h (by decide +kernel) (by decide +kernel) (by decide +kernel) (by decide) (by decide +kernel) (fun wx hx => done2 1 hx hT (by decide +kernel) (by decide +kernel))).mono (by rintro e w' ⟨h1, h2⟩; exact ⟨h1, (lv_norm h2 (by decide +kernel) (fitL_fit (by decide +kernel)) (by decide +kernel) (okL_ok (by decide +kernel))).fx⟩)
theorem g_f_u0 (h : Fx w0 w p o P gf17) (hT : Tz w0) : Calls Tryz.prog 12 #[.pointer (some ⟨p, 0, none⟩), .int .i64 0] w fun e w' => e = .returned (.int .i64 0) ∧ Fx w0 w' p o P gf18 :=
  (unt_yesN 0 1 false h (by decide +kernel) (by decide +kernel) (by decide +kernel) (by decide) (by decide +kernel) (fun wx hx => done1 0 hx hT (by decide +kernel) (by decide +kernel))).mono (by rintro e w' ⟨h1, h2⟩; exact ⟨h1, (lv_norm h2 (by decide +kernel) (fitL_fit (by decide +kernel)) (by decide +kernel) (okL_ok (by decide +kernel))).fx⟩)
theorem g_mem {s : St} (h : Fx w0 w p o P s) : Calls Tryz.prog 15 #[.pointer (some ⟨p, 0, none⟩)] w fun e w' => e = .returned (.pointer (some ⟨P.pm, 0, none⟩)) ∧ Fx w0 w' p o P s := (gx_mem h).mono (by rintro e w' ⟨h1, h2⟩; exact ⟨h1, h2.fx⟩)
theorem g_rvget (h : Fx w0 w p o P gt12) (hT : Tz w0) : Calls Tryz.prog 16 #[.pointer (some ⟨P.pm, 0, none⟩), .int .i64 5] w fun e w' => (∃ a b c d e', e = .returned (.tuple #[.agg #[.int .i64 a, .int .i64 b, .int .i64 c, .bool d, .int .i64 e'], .int .i64 0])) ∧ Fx w0 w' p o P gt12 := (gx_rvget 5 hT h).mono (by rintro e w' ⟨h1, h2⟩; rw [show Pqrcv.vgE gt12.N gt12.M 5 = 0 by decide +kernel] at h1; exact ⟨⟨_, _, _, _, _, h1⟩, h2.fx⟩)
/-- The machine once the first j frames are the kernel's. -/
def gr (j : Nat) : St := gS [] (List.replicate j ⟨2, 0, 0, -1⟩) gL0
theorem g_first (h : Fx w0 w p o P (nwS 12 2 2)) : Fx w0 w p o P (gr 0) := (lv_norm (lv_refl h) (by decide +kernel) (fitL_fit (L := []) rfl) (by decide +kernel) (okL_ok (L := []) rfl)).fx
theorem gr_all : ∀ j, j < 10 → (eqM 12 (rtM (gr j) (j : Nat) 2) (mL []) && eqT 12 (rtT (gr j) (j : Nat) 2) (tL (List.replicate (j + 1) ⟨2, 0, 0, -1⟩)) && okL (List.replicate (j + 1) ⟨2, 0, 0, -1⟩)) = true := by decide +kernel
theorem g_retype (j : Nat) (hj : j < 10) (h : Fx w0 w p o P (gr j)) : Calls Tryz.prog 5 #[.pointer (some ⟨p, 0, none⟩), .int .i64 (j : Nat), .int .i64 2] w fun e w' => (∃ x, e = .returned (.int .i64 x)) ∧ Fx w0 w' p o P (gr (j + 1)) := by
  have hq := gr_all j hj
  simp only [Bool.and_eq_true] at hq
  refine (gx_retype (j : Nat) 2 h).mono ?_
  rintro e w' ⟨h1, h2⟩
  exact ⟨⟨_, h1⟩, (lv_norm h2 hq.1.1 (fitL_fit (L := []) rfl) hq.1.2 (okL_ok hq.2)).fx⟩
theorem g_last : gr 10 = gs10 := rfl
end
end Go.Proofs.YtcgekcjnaadcmaaGreatDoor.Pbuild
