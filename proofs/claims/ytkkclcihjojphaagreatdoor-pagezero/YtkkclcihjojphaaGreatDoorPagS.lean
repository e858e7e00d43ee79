import Derived.Test.YtkkclcihjojphaaGreatDoorPagT
import Derived.Test.YtkkclcihjojphaaGreatDoorGonO
import Derived.Test.YtkkclcihjojphaaGreatDoorGonT
import Derived.Test.YtkkclcihjojphaaGreatDoorGonR
set_option linter.unusedVariables false
set_option linter.unusedSimpArgs false
set_option maxRecDepth 100000
set_option maxHeartbeats 20000000
namespace Go.Proofs.YtkkclcihjojphaaGreatDoor
namespace Pbpag
open Pbase Pchold Pfind Play Pmem Pmst Ppmach Ptint Pvmach Pvobj Go.RowKit Go.Shelf
def pL0 : Nat -> Plive.LS := fun _ => Plive.noLS
def pL1 : Nat -> Plive.LS := Plive.upd pL0 0 { pL0 0 with on := true }
def pM0 : List (List Int) := []
def pT0 : List Ptyp.FS := [⟨2, 0, 0, -1⟩, ⟨2, 0, 0, -1⟩, ⟨2, 0, 0, -1⟩, ⟨2, 0, 0, -1⟩, ⟨2, 0, 0, -1⟩, ⟨2, 0, 0, -1⟩, ⟨2, 0, 0, -1⟩, ⟨2, 0, 0, -1⟩, ⟨1, 0, 0, -1⟩, ⟨1, 0, 0, -1⟩, ⟨2, 0, 0, -1⟩, ⟨2, 0, 0, -1⟩]
def ps0 : St := gS pM0 pT0 pL0
def pM1 : List (List Int) := [[1]]
def ps1 : St := gS pM1 pT0 pL0
def pM2 : List (List Int) := [[1], [17]]
def ps2 : St := gS pM2 pT0 pL0
def pM3 : List (List Int) := [[1], [17], [2]]
def ps3 : St := gS pM3 pT0 pL0
def pM4 : List (List Int) := [[1], [17], [2], [18]]
def ps4 : St := gS pM4 pT0 pL0
def pM5 : List (List Int) := [[1], [17], [2], [18], [3, 0, 0, 0, 0, 2]]
def pT1 : List Ptyp.FS := [⟨2, 0, 1, -1⟩, ⟨2, 0, 0, -1⟩, ⟨2, 0, 1, -1⟩, ⟨2, 0, 0, -1⟩, ⟨2, 0, 0, -1⟩, ⟨2, 0, 0, -1⟩, ⟨2, 0, 0, -1⟩, ⟨2, 0, 0, -1⟩, ⟨1, 0, 0, -1⟩, ⟨1, 0, 0, -1⟩, ⟨2, 0, 0, -1⟩, ⟨2, 0, 0, -1⟩]
def ps5 : St := gS pM5 pT1 pL1
def pM6 : List (List Int) := [[1], [17], [2], [18], [3, 0, 0, 0, 0, 2], [5]]
def ps6 : St := gS pM6 pT1 pL1
def pM7 : List (List Int) := [[1], [17], [2], [18], [3, 0, 0, 0, 0, 2], [5], [4, 0, 0, 0, 0, 0, 5, 0, 1, 0, 0, 0, 0, 0, 0, 0, 0, 8196]]
def pT2 : List Ptyp.FS := [⟨2, 0, 1, -1⟩, ⟨2, 0, 0, -1⟩, ⟨2, 0, 1, -1⟩, ⟨2, 0, 0, -1⟩, ⟨2, 0, 0, -1⟩, ⟨2, 0, 1, -1⟩, ⟨2, 0, 0, -1⟩, ⟨2, 0, 0, -1⟩, ⟨1, 0, 0, -1⟩, ⟨1, 0, 0, -1⟩, ⟨2, 0, 0, -1⟩, ⟨2, 0, 0, -1⟩]
def ps7 : St := gS pM7 pT2 pL1
def pM8 : List (List Int) := [[1], [17], [2], [18], [3, 0, 0, 0, 0, 2], [5], [4, 0, 0, 0, 0, 0, 5, 0, 1, 0, 0, 0, 0, 0, 0, 0, 0, 8196], [6, 0, 0, 0, 6]]
def pT3 : List Ptyp.FS := [⟨2, 0, 1, -1⟩, ⟨2, 0, 0, -1⟩, ⟨2, 0, 1, -1⟩, ⟨2, 0, 0, -1⟩, ⟨2, 0, 0, -1⟩, ⟨2, 0, 1, -1⟩, ⟨2, 0, 1, -1⟩, ⟨2, 0, 0, -1⟩, ⟨1, 0, 0, -1⟩, ⟨1, 0, 0, -1⟩, ⟨2, 0, 0, -1⟩, ⟨2, 0, 0, -1⟩]
def ps8 : St := gS pM8 pT3 pL1
def hdB (s : St) (x : Int × Int) : Bool := decide (Phead.ghE s.N s.M x.1 = 0) && decide (Phead.ghK s.N s.M x.1 = x.2) && decide (Phead.ghL s.N s.M x.1 = 0)
def rmB (s : St) (x : Int × Int) : Bool := decide ((Ptyp.toldA s.N s.T x.1).is = 2) && decide ((Ptyp.toldA s.N s.T x.1).cnt < 1000)
theorem hd_all {s : St} {l : List (Int × Int)} (h : l.all (hdB s) = true) : ∀ x ∈ l, hdG s x := fun x hx => by
 have := List.all_eq_true.1 h x hx
 unfold hdB at this
 simp only [Bool.and_eq_true, decide_eq_true_eq] at this
 exact ⟨this.1.1, this.1.2, this.2⟩
theorem rm_all {s : St} {l : List (Int × Int)} (h : l.all (rmB s) = true) : ∀ x ∈ l, rmG s x := fun x hx => by
 have := List.all_eq_true.1 h x hx
 unfold rmB at this
 simp only [Bool.and_eq_true, decide_eq_true_eq] at this
 exact ⟨this.1, this.2⟩
section
variable {w0 w : World} {p : Nat} {o : Nat -> Nat} {P : Pq} {q : Nat} {u : Nat -> Nat} {Q : Pl}
theorem cp_ws {x : Pcomp.Cp} {a b c d e f : Int} (h : x.ws = [a, b, c, d, e, f]) : x = ⟨a, b, c, d, e, f⟩ := by
 obtain ⟨x0, x1, x2, x3, x4, x5⟩ := x
 simp only [Pcomp.Cp.ws, List.cons.injEq, and_true] at h
 obtain ⟨rfl, rfl, rfl, rfl, rfl, rfl⟩ := h
 rfl
theorem p0_ok (h : Fx w0 w p o P ps0) : Calls Tryz.prog 62 #[.pointer (some ⟨p, 0, none⟩), .int .i64 0, .int .i64 0] w fun e w' => e = .returned (.int .i64 0) /\ Lv w0 w w' p o P ps1 :=
 (btbl_ok 0 0 h (by decide +kernel)).mono (by rintro e w' ⟨h1, h2⟩; have h3 := lv_norm (M := ps1.M) (T := ps1.T) h2 (by decide +kernel) (fitL_fit (by decide +kernel)) (by decide +kernel) (okL_ok (by decide +kernel)); exact ⟨h1.trans (by rw [show Phead.errP ps0.N 0 1 0 false 0 = 0 by decide +kernel]), h3⟩)
theorem d0_ok (h : Vy w0 w q u Q ps0) : Calls Tryz.prog 64 #[.pointer (some ⟨q, 0, none⟩), .int .i64 0, .int .i64 0] w fun e w' => e = .returned (.int .i64 0) /\ Vy w w' q u Q ps1 :=
 (vtbl_ok 0 0 h (by unfold frG; decide +kernel) ⟨by decide, by decide⟩).mono (by rintro e w' ⟨h1, h2⟩; have h3 := vy_norm (M := ps1.M) (T := ps1.T) h2 (by decide +kernel) (fitL_fit (by decide +kernel)) (by decide +kernel) (okL_ok (by decide +kernel)); exact ⟨h1.trans (by rw [show Phead.errP ps0.N 0 1 0 false 0 = 0 by decide +kernel]), h3⟩)
theorem p1_ok (h : Fx w0 w p o P ps1) : Calls Tryz.prog 62 #[.pointer (some ⟨p, 0, none⟩), .int .i64 1, .int .i64 1] w fun e w' => e = .returned (.int .i64 0) /\ Lv w0 w w' p o P ps2 :=
 (btbl_ok 1 1 h (by decide +kernel)).mono (by rintro e w' ⟨h1, h2⟩; have h3 := lv_norm (M := ps2.M) (T := ps2.T) h2 (by decide +kernel) (fitL_fit (by decide +kernel)) (by decide +kernel) (okL_ok (by decide +kernel)); exact ⟨h1.trans (by rw [show Phead.errP ps1.N 1 1 1 false 0 = 0 by decide +kernel]), h3⟩)
theorem d1_ok (h : Vy w0 w q u Q ps1) : Calls Tryz.prog 64 #[.pointer (some ⟨q, 0, none⟩), .int .i64 1, .int .i64 1] w fun e w' => e = .returned (.int .i64 0) /\ Vy w w' q u Q ps2 :=
 (vtbl_ok 1 1 h (by unfold frG; decide +kernel) ⟨by decide, by decide⟩).mono (by rintro e w' ⟨h1, h2⟩; have h3 := vy_norm (M := ps2.M) (T := ps2.T) h2 (by decide +kernel) (fitL_fit (by decide +kernel)) (by decide +kernel) (okL_ok (by decide +kernel)); exact ⟨h1.trans (by rw [show Phead.errP ps1.N 1 1 1 false 0 = 0 by decide +kernel]), h3⟩)
theorem p2_ok (h : Fx w0 w p o P ps2) : Calls Tryz.prog 63 #[.pointer (some ⟨p, 0, none⟩), .int .i64 2, .int .i64 0] w fun e w' => e = .returned (.int .i64 0) /\ Lv w0 w w' p o P ps3 :=
 (bpgt_ok 2 0 h (by decide +kernel)).mono (by rintro e w' ⟨h1, h2⟩; have h3 := lv_norm (M := ps3.M) (T := ps3.T) h2 (by decide +kernel) (fitL_fit (by decide +kernel)) (by decide +kernel) (okL_ok (by decide +kernel)); exact ⟨h1.trans (by rw [show Phead.errP ps2.N 2 2 0 false 0 = 0 by decide +kernel]), h3⟩)
theorem d2_ok (h : Vy w0 w q u Q ps2) : Calls Tryz.prog 65 #[.pointer (some ⟨q, 0, none⟩), .int .i64 2, .int .i64 0] w fun e w' => e = .returned (.int .i64 0) /\ Vy w w' q u Q ps3 :=
 (vpgt_ok 2 0 h (by unfold frG; decide +kernel) ⟨by decide, by decide⟩).mono (by rintro e w' ⟨h1, h2⟩; have h3 := vy_norm (M := ps3.M) (T := ps3.T) h2 (by decide +kernel) (fitL_fit (by decide +kernel)) (by decide +kernel) (okL_ok (by decide +kernel)); exact ⟨h1.trans (by rw [show Phead.errP ps2.N 2 2 0 false 0 = 0 by decide +kernel]), h3⟩)
theorem p3_ok (h : Fx w0 w p o P ps3) : Calls Tryz.prog 63 #[.pointer (some ⟨p, 0, none⟩), .int .i64 3, .int .i64 1] w fun e w' => e = .returned (.int .i64 0) /\ Lv w0 w w' p o P ps4 :=
 (bpgt_ok 3 1 h (by decide +kernel)).mono (by rintro e w' ⟨h1, h2⟩; have h3 := lv_norm (M := ps4.M) (T := ps4.T) h2 (by decide +kernel) (fitL_fit (by decide +kernel)) (by decide +kernel) (okL_ok (by decide +kernel)); exact ⟨h1.trans (by rw [show Phead.errP ps3.N 3 2 1 false 0 = 0 by decide +kernel]), h3⟩)
theorem d3_ok (h : Vy w0 w q u Q ps3) : Calls Tryz.prog 65 #[.pointer (some ⟨q, 0, none⟩), .int .i64 3, .int .i64 1] w fun e w' => e = .returned (.int .i64 0) /\ Vy w w' q u Q ps4 :=
 (vpgt_ok 3 1 h (by unfold frG; decide +kernel) ⟨by decide, by decide⟩).mono (by rintro e w' ⟨h1, h2⟩; have h3 := vy_norm (M := ps4.M) (T := ps4.T) h2 (by decide +kernel) (fitL_fit (by decide +kernel)) (by decide +kernel) (okL_ok (by decide +kernel)); exact ⟨h1.trans (by rw [show Phead.errP ps3.N 3 2 1 false 0 = 0 by decide +kernel]), h3⟩)
theorem p4_ok (h : Fx w0 w p o P ps4) (hT : Tz w0) : Calls Tryz.prog 66 #[.pointer (some ⟨p, 0, none⟩), .int .i64 4, .int .i64 0, .int .i64 2] w fun e w' => e = .returned (.tuple #[.agg #[.int .i64 5, .int .i64 31, .int .i64 4, .int .i64 0, .int .i64 0, .int .i64 0], .int .i64 0]) /\ Lv w0 w w' p o P ps5 :=
 (bcomp_ok 4 0 2 0 0 (-1) pL1 h hT (by unfold Pcomp.Fi In64; decide) (by decide +kernel) (hd_all (by decide +kernel)) (rm_all (by decide +kernel)) (by decide +kernel) (Plive.tk_hit (N := 64) (S := pL0) (fl := -1) (k := 0) (by decide) (by decide) (fun j hj => absurd hj (Nat.not_lt_zero j))).1 (Plive.tk_hit (N := 64) (S := pL0) (fl := -1) (k := 0) (by decide) (by decide) (fun j hj => absurd hj (Nat.not_lt_zero j))).2.1 (Plive.tk_hit (N := 64) (S := pL0) (fl := -1) (k := 0) (by decide) (by decide) (fun j hj => absurd hj (Nat.not_lt_zero j))).2.2.2 (Plive.tk_hit (N := 64) (S := pL0) (fl := -1) (k := 0) (by decide) (by decide) (fun j hj => absurd hj (Nat.not_lt_zero j))).2.2.1).mono (by rintro e w' ⟨h1, h2⟩; have h3 := lv_norm (M := ps5.M) (T := ps5.T) h2 (by decide +kernel) (fitL_fit (by decide +kernel)) (by decide +kernel) (okL_ok (by decide +kernel)); exact ⟨h1.trans (by rw [show Pcomp.mkE ps4.N 4 ⟨0, 2, 0, 0, 0, 0⟩ = 0 by decide +kernel]), h3⟩)
theorem d4_ok (h : Vy w0 w q u Q ps4) : Calls Tryz.prog 67 #[.pointer (some ⟨q, 0, none⟩), .int .i64 4, .int .i64 0, .int .i64 2] w fun e w' => e = .returned (.tuple #[.agg #[.int .i64 5, .int .i64 31, .int .i64 4, .int .i64 0, .int .i64 0, .int .i64 0], .int .i64 0]) /\ Vy w w' q u Q ps5 :=
 (vcomp_ok 4 0 2 0 0 (-1) pL1 h (by unfold frG; decide +kernel) (by unfold hvG; decide +kernel) (by unfold hvG; decide +kernel) ⟨(by unfold rmV; decide +kernel), (by unfold rmV; decide +kernel)⟩ (by decide +kernel) (Plive.tk_hit (N := 64) (S := pL0) (fl := -1) (k := 0) (by decide) (by decide) (fun j hj => absurd hj (Nat.not_lt_zero j))).1 (Plive.tk_hit (N := 64) (S := pL0) (fl := -1) (k := 0) (by decide) (by decide) (fun j hj => absurd hj (Nat.not_lt_zero j))).2.1 (Plive.tk_hit (N := 64) (S := pL0) (fl := -1) (k := 0) (by decide) (by decide) (fun j hj => absurd hj (Nat.not_lt_zero j))).2.2.2 (Plive.tk_hit (N := 64) (S := pL0) (fl := -1) (k := 0) (by decide) (by decide) (fun j hj => absurd hj (Nat.not_lt_zero j))).2.2.1).mono (by rintro e w' ⟨h1, h2⟩; have h3 := vy_norm (M := ps5.M) (T := ps5.T) h2 (by decide +kernel) (fitL_fit (by decide +kernel)) (by decide +kernel) (okL_ok (by decide +kernel)); exact ⟨h1, h3⟩)
theorem p5_ok (h : Fx w0 w p o P ps5) : Calls Tryz.prog 68 #[.pointer (some ⟨p, 0, none⟩), .int .i64 5] w fun e w' => e = .returned (.int .i64 0) /\ Lv w0 w w' p o P ps6 :=
 (btcp_ok 5 h (by decide +kernel)).mono (by rintro e w' ⟨h1, h2⟩; have h3 := lv_norm (M := ps6.M) (T := ps6.T) h2 (by decide +kernel) (fitL_fit (by decide +kernel)) (by decide +kernel) (okL_ok (by decide +kernel)); exact ⟨h1.trans (by rw [show Ptcap.mkE ps5.N 5 Ptcap.bd0 = 0 by decide +kernel]), h3⟩)
theorem d5_ok (h : Vy w0 w q u Q ps5) : Calls Tryz.prog 69 #[.pointer (some ⟨q, 0, none⟩), .int .i64 5] w fun e w' => e = .returned (.int .i64 0) /\ Vy w w' q u Q ps6 :=
 (vtcap_ok 5 h (by unfold frG; decide +kernel)).mono (by rintro e w' ⟨h1, h2⟩; have h3 := vy_norm (M := ps6.M) (T := ps6.T) h2 (by decide +kernel) (fitL_fit (by decide +kernel)) (by decide +kernel) (okL_ok (by decide +kernel)); exact ⟨h1.trans (by rw [show Ptcap.mkE ps5.N 5 Ptcap.bd0 = 0 by decide +kernel]), h3⟩)
theorem p6_ok (h : Fx w0 w p o P ps6) (hT : Tz w0) : Calls Tryz.prog 70 #[.pointer (some ⟨p, 0, none⟩), .int .i64 6, .int .i64 4, .int .i64 5, .int .i64 0] w fun e w' => e = .returned (.int .i64 0) /\ Lv w0 w w' p o P ps7 :=
 (bthd_ok 6 4 5 0 h hT (by unfold Pthd.Fi In64; decide) (by decide +kernel) (by decide +kernel) (hd_all (by decide +kernel)) (rm_all (by decide +kernel)) (by decide +kernel) (by decide +kernel)).mono (by rintro e w' ⟨h1, h2⟩; have h3 := lv_norm (M := ps7.M) (T := ps7.T) h2 (by decide +kernel) (fitL_fit (by decide +kernel)) (by decide +kernel) (okL_ok (by decide +kernel)); exact ⟨h1, h3⟩)
theorem got_comp : Pcomp.gtE ps6.N ps6.M 4 = 0 /\ Pcomp.gtC ps6.N ps6.M 4 = ⟨0, 2, 0, 0, 0, 0⟩ := ⟨by decide +kernel, cp_ws (by decide +kernel)⟩
theorem d6_ok (h : Vy w0 w q u Q ps6) : Calls Tryz.prog 71 #[.pointer (some ⟨q, 0, none⟩), .int .i64 6, .int .i64 4, .int .i64 5, .int .i64 0] w fun e w' => e = .returned (.int .i64 0) /\ Vy w w' q u Q ps7 :=
 (vthd_ok 6 4 5 ⟨0, 2, 0, 0, 0, 0⟩ h (by unfold frG; decide +kernel) got_comp.1 got_comp.2 (by decide +kernel) (by decide +kernel) (by decide +kernel) (by unfold rmV; decide +kernel)).mono (by rintro e w' ⟨h1, h2⟩; have h3 := vy_norm (M := ps7.M) (T := ps7.T) h2 (by decide +kernel) (fitL_fit (by decide +kernel)) (by decide +kernel) (okL_ok (by decide +kernel)); exact ⟨h1.trans (by rw [show Pstack.psE ps6.N (Pthd.mkM ps6.N ps6.M 6 ⟨0, 0, 5, 0, 0⟩) 6 ⟨4, 0, 2, 0, 0, 0⟩ = 0 by decide +kernel]), h3⟩)
theorem p7_ok (h : Fx w0 w p o P ps7) (hT : Tz w0) : Calls Tryz.prog 72 #[.pointer (some ⟨p, 0, none⟩), .int .i64 7, .int .i64 6, .int .i64 0] w fun e w' => e = .returned (.int .i64 0) /\ Lv w0 w w' p o P ps8 :=
 (brcv_ok 7 6 0 h hT (by unfold Pqrcv.Fv In64; decide) (by decide +kernel) (hd_all (by decide +kernel)) (rm_all (by decide +kernel))).mono (by rintro e w' ⟨h1, h2⟩; have h3 := lv_norm (M := ps8.M) (T := ps8.T) h2 (by decide +kernel) (fitL_fit (by decide +kernel)) (by decide +kernel) (okL_ok (by decide +kernel)); exact ⟨h1.trans (by rw [show Pqrcv.vmE ps7.N 7 ⟨6, 0, 0, false, 0⟩ = 0 by decide +kernel]), h3⟩)
theorem d7_ok (h : Vy w0 w q u Q ps7) : Calls Tryz.prog 73 #[.pointer (some ⟨q, 0, none⟩), .int .i64 7, .int .i64 6, .int .i64 0] w fun e w' => e = .returned (.int .i64 0) /\ Vy w w' q u Q ps8 :=
 (vrcv_ok 7 6 h (by unfold frG; decide +kernel) (by decide +kernel) (by decide +kernel) (by unfold rmV; decide +kernel)).mono (by rintro e w' ⟨h1, h2⟩; have h3 := vy_norm (M := ps8.M) (T := ps8.T) h2 (by decide +kernel) (fitL_fit (by decide +kernel)) (by decide +kernel) (okL_ok (by decide +kernel)); exact ⟨h1.trans (by rw [show Pqrcv.vmE ps7.N 7 ⟨6, 0, 0, false, 0⟩ = 0 by decide +kernel]), h3⟩)
def ptt (j : Nat) : Int := if j = 8 \/ j = 9 then 1 else 2
def pr (j : Nat) : St := gS [] (pT0.take j) pL0
theorem pr_all : ∀ j, j < 12 -> (eqM 12 (rtM (pr j) (j : Nat) (ptt j)) (mL []) && eqT 12 (rtT (pr j) (j : Nat) (ptt j)) (tL (pT0.take (j + 1))) && okL (pT0.take (j + 1))) = true := by decide +kernel
theorem p_first (h : Fx w0 w p o P (nwS 12 2 2)) : Fx w0 w p o P (pr 0) := (lv_norm (lv_refl h) (by decide +kernel) (fitL_fit (L := []) rfl) (by decide +kernel) (okL_ok (L := []) rfl)).fx
theorem d_first (h : Vy w0 w q u Q (nwS 12 2 2)) : Vy w0 w q u Q (pr 0) := vy_norm h (by decide +kernel) (fitL_fit (L := []) rfl) (by decide +kernel) (okL_ok (L := []) rfl)
theorem rtm_fit {s : St} (f t : Int) (h : Fit s.M) : Fit (rtM s f t) := by
 unfold rtM
 by_cases e : rtX s f t = 0
 · rw [if_pos e]; exact h.cl _ _
 · rw [if_neg e]; exact h
theorem p_retype (j : Nat) (hj : j < 12) (h : Fx w0 w p o P (pr j)) : Calls Tryz.prog 60 #[.pointer (some ⟨p, 0, none⟩), .int .i64 (j : Nat), .int .i64 (ptt j)] w fun e w' => (∃ x, e = .returned (.int .i64 x)) /\ Lv w0 w w' p o P (pr (j + 1)) := by
 have hq := pr_all j hj
 simp only [Bool.and_eq_true] at hq
 refine (pretype_any (j : Nat) (ptt j) h.x.v h.ws).mono ?_
 rintro e w' ⟨h1, h2⟩
 have h3 := lv_px h h2 ⟨h.ws.n1, h.ws.n64, h.ws.c1, h.ws.c4⟩ (rtm_fit _ _ h.fit)
 have h4 := lv_norm (M := (pr (j + 1)).M) (T := (pr (j + 1)).T) h3 hq.1.1 (fitL_fit (L := []) rfl) hq.1.2 (okL_ok hq.2)
 exact ⟨⟨_, h1⟩, h4⟩
theorem d_retype (j : Nat) (hj : j < 12) (h : Vy w0 w q u Q (pr j)) : Calls Tryz.prog 61 #[.pointer (some ⟨q, 0, none⟩), .int .i64 (j : Nat), .int .i64 (ptt j)] w fun e w' => (∃ x, e = .returned (.int .i64 x)) /\ Vy w w' q u Q (pr (j + 1)) := by
 have hq := pr_all j hj
 simp only [Bool.and_eq_true] at hq
 refine (rvretype_any (j : Nat) (ptt j) h.v h.ws).mono ?_
 rintro e w' ⟨h1, h2⟩
 have h3 : Vy w w' q u Q { pr j with M := rtM (pr j) (j : Nat) (ptt j), T := rtT (pr j) (j : Nat) (ptt j) } := ⟨h2, ⟨h.ws.n1, h.ws.n64, h.ws.c1, h.ws.c4⟩, rtm_fit _ _ h.fit⟩
 have h4 := vy_norm (M := (pr (j + 1)).M) (T := (pr (j + 1)).T) h3 hq.1.1 (fitL_fit (L := []) rfl) hq.1.2 (okL_ok hq.2)
 exact ⟨⟨_, h1⟩, h4⟩
theorem p_last : pr 12 = ps0 := rfl
end
end Pbpag
end Go.Proofs.YtkkclcihjojphaaGreatDoor
