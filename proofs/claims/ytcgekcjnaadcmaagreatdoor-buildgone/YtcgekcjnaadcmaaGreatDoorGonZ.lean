/- The walk of BuildGone (written by mk_gx.py). -/
import Derived.Test.YtcgekcjnaadcmaaGreatDoorGonY
import Derived.Test.YtcgekcjnaadcmaaGreatDoorBldP
namespace Go.Proofs.YtcgekcjnaadcmaaGreatDoor.Pbuild
open Go.Proofs.YtcgekcjnaadcmaaGreatDoor.Pbase Go.Proofs.YtcgekcjnaadcmaaGreatDoor.Pchold Go.Proofs.YtcgekcjnaadcmaaGreatDoor.Pfind Go.Proofs.YtcgekcjnaadcmaaGreatDoor.Play Go.Proofs.YtcgekcjnaadcmaaGreatDoor.Pmem Go.Proofs.YtcgekcjnaadcmaaGreatDoor.Pmst Go.Proofs.YtcgekcjnaadcmaaGreatDoor.Ppmach Go.Proofs.YtcgekcjnaadcmaaGreatDoor.Ptint
open Go.RowKit Go.Shelf
set_option linter.unusedVariables false
set_option linter.unusedSimpArgs false

set_option maxRecDepth 100000 in
set_option maxHeartbeats 20000000 in
theorem gone_t (w : World) (hT : Tz w) : Calls Tryz.prog 3 #[.bool true] w fun e w' => e = .returned (.bool true) ∧ Below w.heap.size w w' := by
  have HP := ghide (pair_any 12 w (by omega) (by omega) hT.hd)
  have HF0 : Hid (∀ wx p o P, Fx w wx p o P (nwS 12 2 2) → Fx w wx p o P (gr 0)) := fun wx p o P h => g_first h
  have HRt : Hid (∀ wx p o P (j : Nat), j < 10 → Fx w wx p o P (gr j) → Calls Tryz.prog 5 #[.pointer (some ⟨p, 0, none⟩), .int .i64 (j : Nat), .int .i64 2] wx fun e w' => (∃ x, e = .returned (.int .i64 x)) ∧ Fx w w' p o P (gr (j + 1))) := fun wx p o P j hj h => g_retype j hj h
  have HA : Hid (∀ wx p o P, Fx w wx p o P gt18 → Calls Tryz.prog 17 #[] wx fun e w' => e = .returned (.bool true) ∧ Below w.heap.size w w') := fun wx p o P h => (awake_any wx h.hd).mono (by rintro e w' ⟨h1, h2⟩; exact ⟨h1, h.below.trans (h2.mono h.below.size)⟩)
  have HG : Hid (gr 10 = gs10) := g_last
  have HC0 : Hid (∀ wx p o P, Fx w wx p o P gs10 → Calls Tryz.prog 6 #[.pointer (some ⟨p, 0, none⟩), .int .i64 0, .int .i64 0] wx fun e w' => e = .returned (.int .i64 0) ∧ Fx w w' p o P gs1) := fun wx p o P h => g_tbl h
  have HC1 : Hid (∀ wx p o P, Fx w wx p o P gs1 → Calls Tryz.prog 7 #[.pointer (some ⟨p, 0, none⟩), .int .i64 1, .int .i64 0] wx fun e w' => e = .returned (.int .i64 0) ∧ Fx w w' p o P gs2) := fun wx p o P h => g_pgt h
  have HC2 : Hid (∀ wx p o P, Fx w wx p o P gs2 → Calls Tryz.prog 8 #[.pointer (some ⟨p, 0, none⟩), .int .i64 2, .int .i64 0, .int .i64 1] wx fun e w' => e = .returned (.tuple #[.agg #[.int .i64 5, .int .i64 31, .int .i64 2, .int .i64 0, .int .i64 0, .int .i64 0], .int .i64 0]) ∧ Fx w w' p o P gs3) := fun wx p o P h => g_comp h hT
  have HC3 : Hid (∀ wx p o P, Fx w wx p o P gs3 → Calls Tryz.prog 9 #[.pointer (some ⟨p, 0, none⟩), .int .i64 3] wx fun e w' => e = .returned (.int .i64 0) ∧ Fx w w' p o P gs4) := fun wx p o P h => g_tcap h
  have HC4 : Hid (∀ wx p o P, Fx w wx p o P gs4 → Calls Tryz.prog 10 #[.pointer (some ⟨p, 0, none⟩), .int .i64 4, .int .i64 2, .int .i64 3, .int .i64 0] wx fun e w' => e = .returned (.int .i64 0) ∧ Fx w w' p o P gs5) := fun wx p o P h => g_thd4 h hT
  have HC5 : Hid (∀ wx p o P, Fx w wx p o P gs5 → Calls Tryz.prog 11 #[.pointer (some ⟨p, 0, none⟩), .int .i64 5, .int .i64 4, .int .i64 0] wx fun e w' => e = .returned (.int .i64 0) ∧ Fx w w' p o P gs6) := fun wx p o P h => g_rcv h hT
  have HC6 : Hid (∀ wx p o P, Fx w wx p o P gs6 → Calls Tryz.prog 10 #[.pointer (some ⟨p, 0, none⟩), .int .i64 6, .int .i64 2, .int .i64 3, .int .i64 6] wx fun e w' => e = .returned (.int .i64 0) ∧ Fx w w' p o P gt7) := fun wx p o P h => g_thd6t h hT
  have HC7 : Hid (∀ wx p o P, Fx w wx p o P gt7 → Calls Tryz.prog 12 #[.pointer (some ⟨p, 0, none⟩), .int .i64 0] wx fun e w' => e = .returned (.int .i64 10) ∧ Fx w w' p o P gt7) := fun wx p o P h => g_t_h0 h hT
  have HC8 : Hid (∀ wx p o P, Fx w wx p o P gt7 → Calls Tryz.prog 12 #[.pointer (some ⟨p, 0, none⟩), .int .i64 1] wx fun e w' => e = .returned (.int .i64 10) ∧ Fx w w' p o P gt7) := fun wx p o P h => g_t_h1 h hT
  have HC9 : Hid (∀ wx p o P, Fx w wx p o P gt7 → Calls Tryz.prog 12 #[.pointer (some ⟨p, 0, none⟩), .int .i64 2] wx fun e w' => e = .returned (.int .i64 10) ∧ Fx w w' p o P gt7) := fun wx p o P h => g_t_h2 h hT
  have HC10 : Hid (∀ wx p o P, Fx w wx p o P gt7 → Calls Tryz.prog 12 #[.pointer (some ⟨p, 0, none⟩), .int .i64 3] wx fun e w' => e = .returned (.int .i64 10) ∧ Fx w w' p o P gt7) := fun wx p o P h => g_t_h3 h hT
  have HC11 : Hid (∀ wx p o P, Fx w wx p o P gt7 → Calls Tryz.prog 12 #[.pointer (some ⟨p, 0, none⟩), .int .i64 4] wx fun e w' => e = .returned (.int .i64 10) ∧ Fx w w' p o P gt7) := fun wx p o P h => g_t_h4 h hT
  have HC12 : Hid (∀ wx p o P, Fx w wx p o P gt7 → Calls Tryz.prog 12 #[.pointer (some ⟨p, 0, none⟩), .int .i64 6] wx fun e w' => e = .returned (.int .i64 10) ∧ Fx w w' p o P gt7) := fun wx p o P h => g_t_h6 h hT
  have HC13 : Hid (∀ wx p o P, Fx w wx p o P gt7 → Calls Tryz.prog 12 #[.pointer (some ⟨p, 0, none⟩), .int .i64 5] wx fun e w' => e = .returned (.int .i64 10) ∧ Fx w w' p o P gt7) := fun wx p o P h => g_t_h5 h hT
  have HC14 : Hid (∀ wx p o P, Fx w wx p o P gt7 → Calls Tryz.prog 13 #[.pointer (some ⟨p, 0, none⟩), .int .i64 2] wx fun e w' => e = .returned (.int .i64 0) ∧ Fx w w' p o P gt9) := fun wx p o P h => g_t_kill h hT
  have HC15 : Hid (∀ wx p o P, Fx w wx p o P gt9 → Calls Tryz.prog 15 #[.pointer (some ⟨p, 0, none⟩)] wx fun e w' => e = .returned (.pointer (some ⟨P.pm, 0, none⟩)) ∧ Fx w w' p o P gt9) := fun wx p o P h => g_mem h
  have HC16 : Hid (∀ wx p o P, Fx w wx p o P gt9 → Calls Tryz.prog 14 #[.pointer (some ⟨P.pm, 0, none⟩), .int .i64 6, .int .i64 3] wx fun e w' => e = .returned (.int .i64 0) ∧ Fx w w' p o P gt10) := fun wx p o P h => g_t_d6 h
  have HC17 : Hid (∀ wx p o P, Fx w wx p o P gt10 → Calls Tryz.prog 15 #[.pointer (some ⟨p, 0, none⟩)] wx fun e w' => e = .returned (.pointer (some ⟨P.pm, 0, none⟩)) ∧ Fx w w' p o P gt10) := fun wx p o P h => g_mem h
  have HC18 : Hid (∀ wx p o P, Fx w wx p o P gt10 → Calls Tryz.prog 14 #[.pointer (some ⟨P.pm, 0, none⟩), .int .i64 4, .int .i64 3] wx fun e w' => e = .returned (.int .i64 0) ∧ Fx w w' p o P gt11) := fun wx p o P h => g_t_d4 h
  have HC19 : Hid (∀ wx p o P, Fx w wx p o P gt11 → Calls Tryz.prog 12 #[.pointer (some ⟨p, 0, none⟩), .int .i64 6] wx fun e w' => e = .returned (.int .i64 0) ∧ Fx w w' p o P gt12) := fun wx p o P h => g_t_u6 h hT
  have HC20 : Hid (∀ wx p o P, Fx w wx p o P gt12 → Calls Tryz.prog 15 #[.pointer (some ⟨p, 0, none⟩)] wx fun e w' => e = .returned (.pointer (some ⟨P.pm, 0, none⟩)) ∧ Fx w w' p o P gt12) := fun wx p o P h => g_mem h
  have HC21 : Hid (∀ wx p o P, Fx w wx p o P gt12 → Calls Tryz.prog 16 #[.pointer (some ⟨P.pm, 0, none⟩), .int .i64 5] wx fun e w' => (∃ a b c d e', e = .returned (.tuple #[.agg #[.int .i64 a, .int .i64 b, .int .i64 c, .bool d, .int .i64 e'], .int .i64 0])) ∧ Fx w w' p o P gt12) := fun wx p o P h => g_rvget h hT
  have HC22 : Hid (∀ wx p o P, Fx w wx p o P gt12 → Calls Tryz.prog 12 #[.pointer (some ⟨p, 0, none⟩), .int .i64 5] wx fun e w' => e = .returned (.int .i64 0) ∧ Fx w w' p o P gt13) := fun wx p o P h => g_t_u5 h hT
  have HC23 : Hid (∀ wx p o P, Fx w wx p o P gt13 → Calls Tryz.prog 12 #[.pointer (some ⟨p, 0, none⟩), .int .i64 4] wx fun e w' => e = .returned (.int .i64 0) ∧ Fx w w' p o P gt14) := fun wx p o P h => g_t_u4 h hT
  have HC24 : Hid (∀ wx p o P, Fx w wx p o P gt14 → Calls Tryz.prog 12 #[.pointer (some ⟨p, 0, none⟩), .int .i64 3] wx fun e w' => e = .returned (.int .i64 0) ∧ Fx w w' p o P gt15) := fun wx p o P h => g_t_u3 h hT
  have HC25 : Hid (∀ wx p o P, Fx w wx p o P gt15 → Calls Tryz.prog 12 #[.pointer (some ⟨p, 0, none⟩), .int .i64 2] wx fun e w' => e = .returned (.int .i64 0) ∧ Fx w w' p o P gt16) := fun wx p o P h => g_t_u2 h hT
  have HC26 : Hid (∀ wx p o P, Fx w wx p o P gt16 → Calls Tryz.prog 12 #[.pointer (some ⟨p, 0, none⟩), .int .i64 1] wx fun e w' => e = .returned (.int .i64 0) ∧ Fx w w' p o P gt17) := fun wx p o P h => g_t_u1 h hT
  have HC27 : Hid (∀ wx p o P, Fx w wx p o P gt17 → Calls Tryz.prog 12 #[.pointer (some ⟨p, 0, none⟩), .int .i64 0] wx fun e w' => e = .returned (.int .i64 0) ∧ Fx w w' p o P gt18) := fun wx p o P h => g_t_u0 h hT
  clear hT
  generalize nwS 12 2 2 = s0 at HP HF0
  go_enter Tryz.func3, Tryz.ntmps3
  go_wp2_with (first
    | (go_at_call 4; refine HP.out.mono ?_; rintro e1 w1 ⟨p, o, P, q, rfl, h⟩; have H1 := ghide (HF0.out _ _ _ _ h); clear h HP HF0)
    | fail)
  go_loopw [5] (fun i wr => ∃ j : Nat, j ≤ 10 ∧ i = .int .i64 j ∧ Fx w wr p o P (gr j)) (fun i _ => 10 - (intOf i).toNat)
  case atStart => exact ⟨0, by omega, rfl, H1.out⟩
  case round =>
    obtain ⟨j, hj, rfl, hI⟩ := hrel
    have HI := ghide hI
    clear hI H1
    by_cases hlt : j < 10
    · have i0 : (j : Int) < 10 := by omega
      have HR := ghide (HRt.out _ _ _ _ j hlt HI.out)
      go_wp2_with (first
        | (go_at_call 5; refine HR.out.mono ?_; rintro e1 v ⟨⟨x, rfl⟩, h⟩; have HJ := ghide h; clear h)
        | fail)
      go_roundw
      case rel => exact ⟨j + 1, by omega, by go_num, HJ.out⟩
      case measure =>
        have hw : wrap64 ((j : Int) + 1) = (j : Int) + 1 := by unfold wrap64; omega
        simp only [intOf, hw]
        omega
    · have i0 : ¬ (j : Int) < 10 := by omega
      have e10 : j = 10 := by omega
      have K : Hid (Fx w wr p o P gs10) := by rw [← HG.out, ← e10]; exact HI.out
      clear HI HRt HG e10
      go_wp2_with (first
          | (go_at_call 6; refine (HC0.out _ _ _ _ K.out).mono ?_; rintro e1 v0 ⟨rfl, h⟩; have K0 := ghide h; clear h HC0 K)
          | (go_at_call 7; refine (HC1.out _ _ _ _ K0.out).mono ?_; rintro e1 v1 ⟨rfl, h⟩; have K1 := ghide h; clear h HC1 K0)
          | (go_at_call 8; refine (HC2.out _ _ _ _ K1.out).mono ?_; rintro e1 v2 ⟨rfl, h⟩; have K2 := ghide h; clear h HC2 K1)
          | (go_at_call 9; refine (HC3.out _ _ _ _ (K2.out.on (bal (Below.refl _ _) _))).mono ?_; rintro e1 v3 ⟨rfl, h⟩; have K3 := ghide h; clear h HC3 K2)
          | (go_at_call 10; refine (HC4.out _ _ _ _ K3.out).mono ?_; rintro e1 v4 ⟨rfl, h⟩; have K4 := ghide h; clear h HC4 K3)
          | (go_at_call 11; refine (HC5.out _ _ _ _ K4.out).mono ?_; rintro e1 v5 ⟨rfl, h⟩; have K5 := ghide h; clear h HC5 K4)
          | (go_at_call 10; refine (HC6.out _ _ _ _ K5.out).mono ?_; rintro e1 v6 ⟨rfl, h⟩; have K6 := ghide h; clear h HC6 K5)
          | (go_at_call 12; refine (HC7.out _ _ _ _ K6.out).mono ?_; rintro e1 v7 ⟨rfl, h⟩; have K7 := ghide h; clear h HC7 K6)
          | (go_at_call 12; refine (HC8.out _ _ _ _ K7.out).mono ?_; rintro e1 v8 ⟨rfl, h⟩; have K8 := ghide h; clear h HC8 K7)
          | (go_at_call 12; refine (HC9.out _ _ _ _ K8.out).mono ?_; rintro e1 v9 ⟨rfl, h⟩; have K9 := ghide h; clear h HC9 K8)
          | (go_at_call 12; refine (HC10.out _ _ _ _ K9.out).mono ?_; rintro e1 v10 ⟨rfl, h⟩; have K10 := ghide h; clear h HC10 K9)
          | (go_at_call 12; refine (HC11.out _ _ _ _ K10.out).mono ?_; rintro e1 v11 ⟨rfl, h⟩; have K11 := ghide h; clear h HC11 K10)
          | (go_at_call 12; refine (HC12.out _ _ _ _ K11.out).mono ?_; rintro e1 v12 ⟨rfl, h⟩; have K12 := ghide h; clear h HC12 K11)
          | (go_at_call 12; refine (HC13.out _ _ _ _ K12.out).mono ?_; rintro e1 v13 ⟨rfl, h⟩; have K13 := ghide h; clear h HC13 K12)
          | (go_at_call 13; refine (HC14.out _ _ _ _ K13.out).mono ?_; rintro e1 v14 ⟨rfl, h⟩; have K14 := ghide h; clear h HC14 K13)
          | (go_at_call 15; refine (HC15.out _ _ _ _ K14.out).mono ?_; rintro e1 v15 ⟨rfl, h⟩; have K15 := ghide h; clear h HC15 K14)
          | (go_at_call 14; refine (HC16.out _ _ _ _ K15.out).mono ?_; rintro e1 v16 ⟨rfl, h⟩; have K16 := ghide h; clear h HC16 K15)
          | (go_at_call 15; refine (HC17.out _ _ _ _ K16.out).mono ?_; rintro e1 v17 ⟨rfl, h⟩; have K17 := ghide h; clear h HC17 K16)
          | (go_at_call 14; refine (HC18.out _ _ _ _ K17.out).mono ?_; rintro e1 v18 ⟨rfl, h⟩; have K18 := ghide h; clear h HC18 K17)
          | (go_at_call 12; refine (HC19.out _ _ _ _ K18.out).mono ?_; rintro e1 v19 ⟨rfl, h⟩; have K19 := ghide h; clear h HC19 K18)
          | (go_at_call 15; refine (HC20.out _ _ _ _ K19.out).mono ?_; rintro e1 v20 ⟨rfl, h⟩; have K20 := ghide h; clear h HC20 K19)
          | (go_at_call 16; refine (HC21.out _ _ _ _ K20.out).mono ?_; rintro e1 v21 ⟨⟨a', b', c', d', e', rfl⟩, h⟩; have K21 := ghide h; clear h HC21 K20)
          | (go_at_call 12; refine (HC22.out _ _ _ _ (K21.out.on (bal (Below.refl _ _) _))).mono ?_; rintro e1 v22 ⟨rfl, h⟩; have K22 := ghide h; clear h HC22 K21)
          | (go_at_call 12; refine (HC23.out _ _ _ _ K22.out).mono ?_; rintro e1 v23 ⟨rfl, h⟩; have K23 := ghide h; clear h HC23 K22)
          | (go_at_call 12; refine (HC24.out _ _ _ _ K23.out).mono ?_; rintro e1 v24 ⟨rfl, h⟩; have K24 := ghide h; clear h HC24 K23)
          | (go_at_call 12; refine (HC25.out _ _ _ _ K24.out).mono ?_; rintro e1 v25 ⟨rfl, h⟩; have K25 := ghide h; clear h HC25 K24)
          | (go_at_call 12; refine (HC26.out _ _ _ _ K25.out).mono ?_; rintro e1 v26 ⟨rfl, h⟩; have K26 := ghide h; clear h HC26 K25)
          | (go_at_call 12; refine (HC27.out _ _ _ _ K26.out).mono ?_; rintro e1 v27 ⟨rfl, h⟩; have K27 := ghide h; clear h HC27 K26)
          | (go_at_call 17; refine (HA.out _ _ _ _ K27.out).mono ?_; rintro e1 u ⟨rfl, h⟩; have HZ := ghide h; clear h)
          | fail)
      go_ret
      exact ⟨rfl, HZ.out⟩
set_option maxRecDepth 100000 in
set_option maxHeartbeats 20000000 in
theorem gone_f (w : World) (hT : Tz w) : Calls Tryz.prog 3 #[.bool false] w fun e w' => e = .returned (.bool true) ∧ Below w.heap.size w w' := by
  have HP := ghide (pair_any 12 w (by omega) (by omega) hT.hd)
  have HF0 : Hid (∀ wx p o P, Fx w wx p o P (nwS 12 2 2) → Fx w wx p o P (gr 0)) := fun wx p o P h => g_first h
  have HRt : Hid (∀ wx p o P (j : Nat), j < 10 → Fx w wx p o P (gr j) → Calls Tryz.prog 5 #[.pointer (some ⟨p, 0, none⟩), .int .i64 (j : Nat), .int .i64 2] wx fun e w' => (∃ x, e = .returned (.int .i64 x)) ∧ Fx w w' p o P (gr (j + 1))) := fun wx p o P j hj h => g_retype j hj h
  have HA : Hid (∀ wx p o P, Fx w wx p o P gf18 → Calls Tryz.prog 17 #[] wx fun e w' => e = .returned (.bool true) ∧ Below w.heap.size w w') := fun wx p o P h => (awake_any wx h.hd).mono (by rintro e w' ⟨h1, h2⟩; exact ⟨h1, h.below.trans (h2.mono h.below.size)⟩)
  have HG : Hid (gr 10 = gs10) := g_last
  have HC0 : Hid (∀ wx p o P, Fx w wx p o P gs10 → Calls Tryz.prog 6 #[.pointer (some ⟨p, 0, none⟩), .int .i64 0, .int .i64 0] wx fun e w' => e = .returned (.int .i64 0) ∧ Fx w w' p o P gs1) := fun wx p o P h => g_tbl h
  have HC1 : Hid (∀ wx p o P, Fx w wx p o P gs1 → Calls Tryz.prog 7 #[.pointer (some ⟨p, 0, none⟩), .int .i64 1, .int .i64 0] wx fun e w' => e = .returned (.int .i64 0) ∧ Fx w w' p o P gs2) := fun wx p o P h => g_pgt h
  have HC2 : Hid (∀ wx p o P, Fx w wx p o P gs2 → Calls Tryz.prog 8 #[.pointer (some ⟨p, 0, none⟩), .int .i64 2, .int .i64 0, .int .i64 1] wx fun e w' => e = .returned (.tuple #[.agg #[.int .i64 5, .int .i64 31, .int .i64 2, .int .i64 0, .int .i64 0, .int .i64 0], .int .i64 0]) ∧ Fx w w' p o P gs3) := fun wx p o P h => g_comp h hT
  have HC3 : Hid (∀ wx p o P, Fx w wx p o P gs3 → Calls Tryz.prog 9 #[.pointer (some ⟨p, 0, none⟩), .int .i64 3] wx fun e w' => e = .returned (.int .i64 0) ∧ Fx w w' p o P gs4) := fun wx p o P h => g_tcap h
  have HC4 : Hid (∀ wx p o P, Fx w wx p o P gs4 → Calls Tryz.prog 10 #[.pointer (some ⟨p, 0, none⟩), .int .i64 4, .int .i64 2, .int .i64 3, .int .i64 0] wx fun e w' => e = .returned (.int .i64 0) ∧ Fx w w' p o P gs5) := fun wx p o P h => g_thd4 h hT
  have HC5 : Hid (∀ wx p o P, Fx w wx p o P gs5 → Calls Tryz.prog 11 #[.pointer (some ⟨p, 0, none⟩), .int .i64 5, .int .i64 4, .int .i64 0] wx fun e w' => e = .returned (.int .i64 0) ∧ Fx w w' p o P gs6) := fun wx p o P h => g_rcv h hT
  have HC6 : Hid (∀ wx p o P, Fx w wx p o P gs6 → Calls Tryz.prog 10 #[.pointer (some ⟨p, 0, none⟩), .int .i64 6, .int .i64 2, .int .i64 3, .int .i64 0] wx fun e w' => e = .returned (.int .i64 0) ∧ Fx w w' p o P gf7) := fun wx p o P h => g_thd6f h hT
  have HC7 : Hid (∀ wx p o P, Fx w wx p o P gf7 → Calls Tryz.prog 12 #[.pointer (some ⟨p, 0, none⟩), .int .i64 0] wx fun e w' => e = .returned (.int .i64 10) ∧ Fx w w' p o P gf7) := fun wx p o P h => g_f_h0 h hT
  have HC8 : Hid (∀ wx p o P, Fx w wx p o P gf7 → Calls Tryz.prog 12 #[.pointer (some ⟨p, 0, none⟩), .int .i64 1] wx fun e w' => e = .returned (.int .i64 10) ∧ Fx w w' p o P gf7) := fun wx p o P h => g_f_h1 h hT
  have HC9 : Hid (∀ wx p o P, Fx w wx p o P gf7 → Calls Tryz.prog 12 #[.pointer (some ⟨p, 0, none⟩), .int .i64 2] wx fun e w' => e = .returned (.int .i64 10) ∧ Fx w w' p o P gf7) := fun wx p o P h => g_f_h2 h hT
  have HC10 : Hid (∀ wx p o P, Fx w wx p o P gf7 → Calls Tryz.prog 12 #[.pointer (some ⟨p, 0, none⟩), .int .i64 3] wx fun e w' => e = .returned (.int .i64 10) ∧ Fx w w' p o P gf7) := fun wx p o P h => g_f_h3 h hT
  have HC11 : Hid (∀ wx p o P, Fx w wx p o P gf7 → Calls Tryz.prog 12 #[.pointer (some ⟨p, 0, none⟩), .int .i64 4] wx fun e w' => e = .returned (.int .i64 10) ∧ Fx w w' p o P gf7) := fun wx p o P h => g_f_h4 h hT
  have HC12 : Hid (∀ wx p o P, Fx w wx p o P gf7 → Calls Tryz.prog 12 #[.pointer (some ⟨p, 0, none⟩), .int .i64 6] wx fun e w' => e = .returned (.int .i64 10) ∧ Fx w w' p o P gf7) := fun wx p o P h => g_f_h6 h hT
  have HC13 : Hid (∀ wx p o P, Fx w wx p o P gf7 → Calls Tryz.prog 12 #[.pointer (some ⟨p, 0, none⟩), .int .i64 5] wx fun e w' => e = .returned (.int .i64 0) ∧ Fx w w' p o P gf8) := fun wx p o P h => g_f_h5 h hT
  have HC14 : Hid (∀ wx p o P, Fx w wx p o P gf8 → Calls Tryz.prog 13 #[.pointer (some ⟨p, 0, none⟩), .int .i64 2] wx fun e w' => e = .returned (.int .i64 0) ∧ Fx w w' p o P gf9) := fun wx p o P h => g_f_kill h hT
  have HC15 : Hid (∀ wx p o P, Fx w wx p o P gf9 → Calls Tryz.prog 15 #[.pointer (some ⟨p, 0, none⟩)] wx fun e w' => e = .returned (.pointer (some ⟨P.pm, 0, none⟩)) ∧ Fx w w' p o P gf9) := fun wx p o P h => g_mem h
  have HC16 : Hid (∀ wx p o P, Fx w wx p o P gf9 → Calls Tryz.prog 14 #[.pointer (some ⟨P.pm, 0, none⟩), .int .i64 6, .int .i64 3] wx fun e w' => e = .returned (.int .i64 0) ∧ Fx w w' p o P gf10) := fun wx p o P h => g_f_d6 h
  have HC17 : Hid (∀ wx p o P, Fx w wx p o P gf10 → Calls Tryz.prog 15 #[.pointer (some ⟨p, 0, none⟩)] wx fun e w' => e = .returned (.pointer (some ⟨P.pm, 0, none⟩)) ∧ Fx w w' p o P gf10) := fun wx p o P h => g_mem h
  have HC18 : Hid (∀ wx p o P, Fx w wx p o P gf10 → Calls Tryz.prog 14 #[.pointer (some ⟨P.pm, 0, none⟩), .int .i64 4, .int .i64 3] wx fun e w' => e = .returned (.int .i64 0) ∧ Fx w w' p o P gf11) := fun wx p o P h => g_f_d4 h
  have HC19 : Hid (∀ wx p o P, Fx w wx p o P gf11 → Calls Tryz.prog 12 #[.pointer (some ⟨p, 0, none⟩), .int .i64 6] wx fun e w' => e = .returned (.int .i64 0) ∧ Fx w w' p o P gf12) := fun wx p o P h => g_f_u6 h hT
  have HC20 : Hid (∀ wx p o P, Fx w wx p o P gf12 → Calls Tryz.prog 12 #[.pointer (some ⟨p, 0, none⟩), .int .i64 4] wx fun e w' => e = .returned (.int .i64 0) ∧ Fx w w' p o P gf14) := fun wx p o P h => g_f_u4 h hT
  have HC21 : Hid (∀ wx p o P, Fx w wx p o P gf14 → Calls Tryz.prog 12 #[.pointer (some ⟨p, 0, none⟩), .int .i64 3] wx fun e w' => e = .returned (.int .i64 0) ∧ Fx w w' p o P gf15) := fun wx p o P h => g_f_u3 h hT
  have HC22 : Hid (∀ wx p o P, Fx w wx p o P gf15 → Calls Tryz.prog 12 #[.pointer (some ⟨p, 0, none⟩), .int .i64 2] wx fun e w' => e = .returned (.int .i64 0) ∧ Fx w w' p o P gf16) := fun wx p o P h => g_f_u2 h hT
  have HC23 : Hid (∀ wx p o P, Fx w wx p o P gf16 → Calls Tryz.prog 12 #[.pointer (some ⟨p, 0, none⟩), .int .i64 1] wx fun e w' => e = .returned (.int .i64 0) ∧ Fx w w' p o P gf17) := fun wx p o P h => g_f_u1 h hT
  have HC24 : Hid (∀ wx p o P, Fx w wx p o P gf17 → Calls Tryz.prog 12 #[.pointer (some ⟨p, 0, none⟩), .int .i64 0] wx fun e w' => e = .returned (.int .i64 0) ∧ Fx w w' p o P gf18) := fun wx p o P h => g_f_u0 h hT
  clear hT
  generalize nwS 12 2 2 = s0 at HP HF0
  go_enter Tryz.func3, Tryz.ntmps3
  go_wp2_with (first
    | (go_at_call 4; refine HP.out.mono ?_; rintro e1 w1 ⟨p, o, P, q, rfl, h⟩; have H1 := ghide (HF0.out _ _ _ _ h); clear h HP HF0)
    | fail)
  go_loopw [5] (fun i wr => ∃ j : Nat, j ≤ 10 ∧ i = .int .i64 j ∧ Fx w wr p o P (gr j)) (fun i _ => 10 - (intOf i).toNat)
  case atStart => exact ⟨0, by omega, rfl, H1.out⟩
  case round =>
    obtain ⟨j, hj, rfl, hI⟩ := hrel
    have HI := ghide hI
    clear hI H1
    by_cases hlt : j < 10
    · have i0 : (j : Int) < 10 := by omega
      have HR := ghide (HRt.out _ _ _ _ j hlt HI.out)
      go_wp2_with (first
        | (go_at_call 5; refine HR.out.mono ?_; rintro e1 v ⟨⟨x, rfl⟩, h⟩; have HJ := ghide h; clear h)
        | fail)
      go_roundw
      case rel => exact ⟨j + 1, by omega, by go_num, HJ.out⟩
      case measure =>
        have hw : wrap64 ((j : Int) + 1) = (j : Int) + 1 := by unfold wrap64; omega
        simp only [intOf, hw]
        omega
    · have i0 : ¬ (j : Int) < 10 := by omega
      have e10 : j = 10 := by omega
      have K : Hid (Fx w wr p o P gs10) := by rw [← HG.out, ← e10]; exact HI.out
      clear HI HRt HG e10
      go_wp2_with (first
          | (go_at_call 6; refine (HC0.out _ _ _ _ K.out).mono ?_; rintro e1 v0 ⟨rfl, h⟩; have K0 := ghide h; clear h HC0 K)
          | (go_at_call 7; refine (HC1.out _ _ _ _ K0.out).mono ?_; rintro e1 v1 ⟨rfl, h⟩; have K1 := ghide h; clear h HC1 K0)
          | (go_at_call 8; refine (HC2.out _ _ _ _ K1.out).mono ?_; rintro e1 v2 ⟨rfl, h⟩; have K2 := ghide h; clear h HC2 K1)
          | (go_at_call 9; refine (HC3.out _ _ _ _ (K2.out.on (bal (Below.refl _ _) _))).mono ?_; rintro e1 v3 ⟨rfl, h⟩; have K3 := ghide h; clear h HC3 K2)
          | (go_at_call 10; refine (HC4.out _ _ _ _ K3.out).mono ?_; rintro e1 v4 ⟨rfl, h⟩; have K4 := ghide h; clear h HC4 K3)
          | (go_at_call 11; refine (HC5.out _ _ _ _ K4.out).mono ?_; rintro e1 v5 ⟨rfl, h⟩; have K5 := ghide h; clear h HC5 K4)
          | (go_at_call 10; refine (HC6.out _ _ _ _ K5.out).mono ?_; rintro e1 v6 ⟨rfl, h⟩; have K6 := ghide h; clear h HC6 K5)
          | (go_at_call 12; refine (HC7.out _ _ _ _ K6.out).mono ?_; rintro e1 v7 ⟨rfl, h⟩; have K7 := ghide h; clear h HC7 K6)
          | (go_at_call 12; refine (HC8.out _ _ _ _ K7.out).mono ?_; rintro e1 v8 ⟨rfl, h⟩; have K8 := ghide h; clear h HC8 K7)
          | (go_at_call 12; refine (HC9.out _ _ _ _ K8.out).mono ?_; rintro e1 v9 ⟨rfl, h⟩; have K9 := ghide h; clear h HC9 K8)
          | (go_at_call 12; refine (HC10.out _ _ _ _ K9.out).mono ?_; rintro e1 v10 ⟨rfl, h⟩; have K10 := ghide h; clear h HC10 K9)
          | (go_at_call 12; refine (HC11.out _ _ _ _ K10.out).mono ?_; rintro e1 v11 ⟨rfl, h⟩; have K11 := ghide h; clear h HC11 K10)
          | (go_at_call 12; refine (HC12.out _ _ _ _ K11.out).mono ?_; rintro e1 v12 ⟨rfl, h⟩; have K12 := ghide h; clear h HC12 K11)
          | (go_at_call 12; refine (HC13.out _ _ _ _ K12.out).mono ?_; rintro e1 v13 ⟨rfl, h⟩; have K13 := ghide h; clear h HC13 K12)
          | (go_at_call 13; refine (HC14.out _ _ _ _ K13.out).mono ?_; rintro e1 v14 ⟨rfl, h⟩; have K14 := ghide h; clear h HC14 K13)
          | (go_at_call 15; refine (HC15.out _ _ _ _ K14.out).mono ?_; rintro e1 v15 ⟨rfl, h⟩; have K15 := ghide h; clear h HC15 K14)
          | (go_at_call 14; refine (HC16.out _ _ _ _ K15.out).mono ?_; rintro e1 v16 ⟨rfl, h⟩; have K16 := ghide h; clear h HC16 K15)
          | (go_at_call 15; refine (HC17.out _ _ _ _ K16.out).mono ?_; rintro e1 v17 ⟨rfl, h⟩; have K17 := ghide h; clear h HC17 K16)
          | (go_at_call 14; refine (HC18.out _ _ _ _ K17.out).mono ?_; rintro e1 v18 ⟨rfl, h⟩; have K18 := ghide h; clear h HC18 K17)
          | (go_at_call 12; refine (HC19.out _ _ _ _ K18.out).mono ?_; rintro e1 v19 ⟨rfl, h⟩; have K19 := ghide h; clear h HC19 K18)
          | (go_at_call 12; refine (HC20.out _ _ _ _ K19.out).mono ?_; rintro e1 v20 ⟨rfl, h⟩; have K20 := ghide h; clear h HC20 K19)
          | (go_at_call 12; refine (HC21.out _ _ _ _ K20.out).mono ?_; rintro e1 v21 ⟨rfl, h⟩; have K21 := ghide h; clear h HC21 K20)
          | (go_at_call 12; refine (HC22.out _ _ _ _ K21.out).mono ?_; rintro e1 v22 ⟨rfl, h⟩; have K22 := ghide h; clear h HC22 K21)
          | (go_at_call 12; refine (HC23.out _ _ _ _ K22.out).mono ?_; rintro e1 v23 ⟨rfl, h⟩; have K23 := ghide h; clear h HC23 K22)
          | (go_at_call 12; refine (HC24.out _ _ _ _ K23.out).mono ?_; rintro e1 v24 ⟨rfl, h⟩; have K24 := ghide h; clear h HC24 K23)
          | (go_at_call 17; refine (HA.out _ _ _ _ K24.out).mono ?_; rintro e1 u ⟨rfl, h⟩; have HZ := ghide h; clear h)
          | fail)
      go_ret
      exact ⟨rfl, HZ.out⟩
theorem gone_walk (b : Bool) (w : World) (hT : Tz w) : Calls Tryz.prog 3 #[.bool b] w fun e w' => e = .returned (.bool true) ∧ Below w.heap.size w w' := by
  cases b
  · exact gone_f w hT
  · exact gone_t w hT
end Go.Proofs.YtcgekcjnaadcmaaGreatDoor.Pbuild
