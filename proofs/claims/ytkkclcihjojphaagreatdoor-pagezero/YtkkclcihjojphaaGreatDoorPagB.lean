import Derived.Test.YtkkclcihjojphaaGreatDoorPagS
set_option linter.unusedVariables false
set_option linter.unusedSimpArgs false
set_option maxRecDepth 100000
set_option maxHeartbeats 20000000
namespace Go.Proofs.YtkkclcihjojphaaGreatDoor
namespace Pbpag
open Pbase Pchold Pfind Play Pmem Pmst Ppmach Ptint Pvmach Pvobj Go.RowKit Go.Shelf
theorem pair_any (N : Nat) (w : World) (h1 : 1 <= N) (h2 : N <= 64) (hT : Phead.TabW w) : Calls Tryz.prog 59 #[.int .i64 N] w fun e w' => ∃ p o P q u Q, e = .returned (.tuple #[.pointer (some ⟨p, 0, none⟩), .pointer (some ⟨q, 0, none⟩)]) /\ Tw w w' p o P q u Q (nwS N 2 2) (nwS N 2 2) := by
 have HN : Hid (∀ wx, Calls Tryz.prog 88 #[.agg #[.int .i64 N, .int .i64 2, .int .i64 0, .int .i64 2]] wx fun e w' => ∃ p, e = .returned (.tuple #[.pointer (some ⟨p, 0, none⟩), .int .i64 0]) /\ ∃ o P, PIs w' p o P (nwS N 2 2) /\ (∀ i, i < wx.heap.size -> o i = 99) /\ Below wx.heap.size wx w') := fun wx => (pnew_ok N 2 0 2 wx (by unfold ckB; simp; omega)).mono (by rintro e w' ⟨p, h1, o, P, h2, h3, _, h5⟩; exact ⟨p, h1, o, P, h2, h3, h5⟩)
 have HR : Hid (∀ wx, Calls Tryz.prog 89 #[.agg #[.int .i64 N, .int .i64 2, .int .i64 0, .int .i64 2]] wx (VNw N 2 2 wx)) := fun wx => rvnew_ok N 2 0 2 wx h1 h2 (by omega) (by omega) (by omega) (by omega) (by omega) (by omega)
 have HB0 : Hid (Below w.heap.size w (w.alloc (.cells #[.int .i64 N, .int .i64 2, .int .i64 0, .int .i64 2] 131))) := bal (Below.refl _ _) _
 have HX0 : Hid ((w.alloc (.cells #[.int .i64 N, .int .i64 2, .int .i64 0, .int .i64 2] 131)).heap[w.heap.size]? = some (.cells #[.int .i64 N, .int .i64 2, .int .i64 0, .int .i64 2] 131 (0, 0))) := heap_alloc_new w _
 have HW := ghide (nwS_ws (N := N) (n := 2) (room := 2) h1 h2 (by omega) (by omega))
 have HT := ghide hT
 clear hT h1 h2
 go_enter Tryz.func59, Tryz.ntmps59
 go_upto_region 2 with fail
 have HC : Hid (∀ wx, Below (w.alloc (.cells #[.int .i64 N, .int .i64 2, .int .i64 0, .int .i64 2] 131)).heap.size (w.alloc (.cells #[.int .i64 N, .int .i64 2, .int .i64 0, .int .i64 2] 131)) wx -> wx.cell? ⟨w.heap.size, 0, none⟩ = some (.int .i64 N) /\ wx.cell? ⟨w.heap.size, 1, none⟩ = some (.int .i64 2) /\ wx.cell? ⟨w.heap.size, 2, none⟩ = some (.int .i64 0) /\ wx.cell? ⟨w.heap.size, 3, none⟩ = some (.int .i64 2)) := fun wx hB => by
  have := (hB.block _ (by simp)).trans HX0.out
  refine ⟨?_, ?_, ?_, ?_⟩ <;> rw [cell_of_row wx _ _ _ _ _ this] <;> rfl
 clear HX0
 generalize w.alloc _ = w1 at HB0 HC ⊢
 have HQ : Hid (∀ p o P w2, PIs w2 p o P (nwS N 2 2) -> (∀ i, i < w1.heap.size -> o i = 99) -> Below w1.heap.size w1 w2 -> ∀ w3 q u Q, Below w2.heap.size w2 w3 -> VIs w3 q u Q (nwS N 2 2) -> (∀ i, u i <= 17 -> w2.heap.size <= i) -> Tw w w3 p o P q u Q (nwS N 2 2) (nwS N 2 2)) := fun p o P w2 h1 h2 h3 w3 q u Q h4 h5 h6 =>
  ⟨⟨⟨h1.grown HW.out.c4 h4, Tint.of_below _ (HB0.out.trans ((h3.trans (h4.mono h3.size)).mono HB0.out.size))⟩, HW.out, fun i hi => h2 i (Nat.lt_of_lt_of_le hi HB0.out.size), HT.out, Fit.zero⟩,
    ⟨⟨h5, Tint.of_below _ (HB0.out.trans ((h3.trans (h4.mono h3.size)).mono HB0.out.size))⟩, HW.out, Fit.zero⟩, fun i hi => ⟨Nat.le_trans HB0.out.size (Nat.le_trans h3.size (h6 i hi)), fun e => by
      have e2 : i < w2.heap.size := h1.own i e.1 e.2
      have e3 := h6 i hi
      omega⟩⟩
 clear HB0 HW HT
 generalize w.heap.size = D at HC ⊢
 obtain ⟨c0, c1, c2, c3⟩ := HC.out _ (Below.refl _ _)
 go_upto_region 3 with (first
  | (go_at_call 88; refine (HN.out _).mono ?_; rintro e1 w2 ⟨p, rfl, o, P, h1, h2, h3⟩; have HV := ghide (HQ.out p o P w2 h1 h2 h3); have HK := HC.out _ h3; clear HN HQ HC h1 h2 h3 c0 c1 c2 c3)
  | fail)
 obtain ⟨c0, c1, c2, c3⟩ := HK
 go_wp2_with (first
  | (go_at_call 89; refine (HR.out _).mono ?_; rintro e1 w3 ⟨q, u, Q, rfl, hv, hb, hu⟩; have HV2 := ghide (HV.out _ q u Q hb hv hu); clear HR HV hb hv hu c0 c1 c2 c3)
  | fail)
 go_ret2
 exact ⟨p, o, P, q, u, Q, rfl, HV2.out⟩
def BsO (w : World) (e : Ending) (w' : World) : Prop := ∃ p o P q u Q, e = .returned (.tuple #[.pointer (some ⟨p, 0, none⟩), .pointer (some ⟨q, 0, none⟩)]) /\ Tw w w' p o P q u Q ps8 ps8
theorem base_any (w : World) (hT : Tz w) : Calls Tryz.prog 31 #[] w (BsO w) := by
 have HP := ghide (pair_any 12 w (by omega) (by omega) hT.hd)
 have HF0 : Hid (∀ wx p o P q u Q, Tw w wx p o P q u Q (nwS 12 2 2) (nwS 12 2 2) -> Tw w wx p o P q u Q (pr 0) (pr 0)) := fun wx p o P q u Q h => ⟨p_first h.a, d_first h.b, h.ap⟩
 have HRp : Hid (∀ wx p o P (j : Nat), j < 12 -> Fx w wx p o P (pr j) -> Calls Tryz.prog 60 #[.pointer (some ⟨p, 0, none⟩), .int .i64 (j : Nat), .int .i64 (ptt j)] wx fun e w' => (∃ x, e = .returned (.int .i64 x)) /\ Lv w wx w' p o P (pr (j + 1))) := fun wx p o P j hj h => p_retype j hj h
 have HRd : Hid (∀ wx q u Q (j : Nat), j < 12 -> Vy w wx q u Q (pr j) -> Calls Tryz.prog 61 #[.pointer (some ⟨q, 0, none⟩), .int .i64 (j : Nat), .int .i64 (ptt j)] wx fun e w' => (∃ x, e = .returned (.int .i64 x)) /\ Vy wx w' q u Q (pr (j + 1))) := fun wx q u Q j hj h => d_retype j hj h
 have HG : Hid (pr 12 = ps0) := p_last
 have Hp0 : Hid (∀ wx p o P q u Q, Tw w wx p o P q u Q ps0 ps0 -> Calls Tryz.prog 62 #[.pointer (some ⟨p, 0, none⟩), .int .i64 0, .int .i64 0] wx fun e w' => e = .returned (.int .i64 0) /\ Tw w w' p o P q u Q ps1 ps0) := fun wx p o P q u Q h => (p0_ok h.a).mono fun _ _ ⟨h1, h2⟩ => ⟨h1, h.pro h2⟩
 have Hp1 : Hid (∀ wx p o P q u Q, Tw w wx p o P q u Q ps1 ps0 -> Calls Tryz.prog 62 #[.pointer (some ⟨p, 0, none⟩), .int .i64 1, .int .i64 1] wx fun e w' => e = .returned (.int .i64 0) /\ Tw w w' p o P q u Q ps2 ps0) := fun wx p o P q u Q h => (p1_ok h.a).mono fun _ _ ⟨h1, h2⟩ => ⟨h1, h.pro h2⟩
 have Hp2 : Hid (∀ wx p o P q u Q, Tw w wx p o P q u Q ps2 ps0 -> Calls Tryz.prog 63 #[.pointer (some ⟨p, 0, none⟩), .int .i64 2, .int .i64 0] wx fun e w' => e = .returned (.int .i64 0) /\ Tw w w' p o P q u Q ps3 ps0) := fun wx p o P q u Q h => (p2_ok h.a).mono fun _ _ ⟨h1, h2⟩ => ⟨h1, h.pro h2⟩
 have Hp3 : Hid (∀ wx p o P q u Q, Tw w wx p o P q u Q ps3 ps0 -> Calls Tryz.prog 63 #[.pointer (some ⟨p, 0, none⟩), .int .i64 3, .int .i64 1] wx fun e w' => e = .returned (.int .i64 0) /\ Tw w w' p o P q u Q ps4 ps0) := fun wx p o P q u Q h => (p3_ok h.a).mono fun _ _ ⟨h1, h2⟩ => ⟨h1, h.pro h2⟩
 have Hd0 : Hid (∀ wx p o P q u Q, Tw w wx p o P q u Q ps4 ps0 -> Calls Tryz.prog 64 #[.pointer (some ⟨q, 0, none⟩), .int .i64 0, .int .i64 0] wx fun e w' => e = .returned (.int .i64 0) /\ Tw w w' p o P q u Q ps4 ps1) := fun wx p o P q u Q h => (d0_ok h.b).mono fun _ _ ⟨h1, h2⟩ => ⟨h1, h.doc h2⟩
 have Hd1 : Hid (∀ wx p o P q u Q, Tw w wx p o P q u Q ps4 ps1 -> Calls Tryz.prog 64 #[.pointer (some ⟨q, 0, none⟩), .int .i64 1, .int .i64 1] wx fun e w' => e = .returned (.int .i64 0) /\ Tw w w' p o P q u Q ps4 ps2) := fun wx p o P q u Q h => (d1_ok h.b).mono fun _ _ ⟨h1, h2⟩ => ⟨h1, h.doc h2⟩
 have Hd2 : Hid (∀ wx p o P q u Q, Tw w wx p o P q u Q ps4 ps2 -> Calls Tryz.prog 65 #[.pointer (some ⟨q, 0, none⟩), .int .i64 2, .int .i64 0] wx fun e w' => e = .returned (.int .i64 0) /\ Tw w w' p o P q u Q ps4 ps3) := fun wx p o P q u Q h => (d2_ok h.b).mono fun _ _ ⟨h1, h2⟩ => ⟨h1, h.doc h2⟩
 have Hd3 : Hid (∀ wx p o P q u Q, Tw w wx p o P q u Q ps4 ps3 -> Calls Tryz.prog 65 #[.pointer (some ⟨q, 0, none⟩), .int .i64 3, .int .i64 1] wx fun e w' => e = .returned (.int .i64 0) /\ Tw w w' p o P q u Q ps4 ps4) := fun wx p o P q u Q h => (d3_ok h.b).mono fun _ _ ⟨h1, h2⟩ => ⟨h1, h.doc h2⟩
 have Hp4 : Hid (∀ wx p o P q u Q, Tw w wx p o P q u Q ps4 ps4 -> Calls Tryz.prog 66 #[.pointer (some ⟨p, 0, none⟩), .int .i64 4, .int .i64 0, .int .i64 2] wx fun e w' => e = .returned (.tuple #[.agg #[.int .i64 5, .int .i64 31, .int .i64 4, .int .i64 0, .int .i64 0, .int .i64 0], .int .i64 0]) /\ Tw w w' p o P q u Q ps5 ps4) := fun wx p o P q u Q h => (p4_ok h.a hT).mono fun _ _ ⟨h1, h2⟩ => ⟨h1, h.pro h2⟩
 have Hd4 : Hid (∀ wx p o P q u Q, Tw w wx p o P q u Q ps5 ps4 -> Calls Tryz.prog 67 #[.pointer (some ⟨q, 0, none⟩), .int .i64 4, .int .i64 0, .int .i64 2] wx fun e w' => e = .returned (.tuple #[.agg #[.int .i64 5, .int .i64 31, .int .i64 4, .int .i64 0, .int .i64 0, .int .i64 0], .int .i64 0]) /\ Tw w w' p o P q u Q ps5 ps5) := fun wx p o P q u Q h => (d4_ok h.b).mono fun _ _ ⟨h1, h2⟩ => ⟨h1, h.doc h2⟩
 have Hp5 : Hid (∀ wx p o P q u Q, Tw w wx p o P q u Q ps5 ps5 -> Calls Tryz.prog 68 #[.pointer (some ⟨p, 0, none⟩), .int .i64 5] wx fun e w' => e = .returned (.int .i64 0) /\ Tw w w' p o P q u Q ps6 ps5) := fun wx p o P q u Q h => (p5_ok h.a).mono fun _ _ ⟨h1, h2⟩ => ⟨h1, h.pro h2⟩
 have Hd5 : Hid (∀ wx p o P q u Q, Tw w wx p o P q u Q ps6 ps5 -> Calls Tryz.prog 69 #[.pointer (some ⟨q, 0, none⟩), .int .i64 5] wx fun e w' => e = .returned (.int .i64 0) /\ Tw w w' p o P q u Q ps6 ps6) := fun wx p o P q u Q h => (d5_ok h.b).mono fun _ _ ⟨h1, h2⟩ => ⟨h1, h.doc h2⟩
 have Hp6 : Hid (∀ wx p o P q u Q, Tw w wx p o P q u Q ps6 ps6 -> Calls Tryz.prog 70 #[.pointer (some ⟨p, 0, none⟩), .int .i64 6, .int .i64 4, .int .i64 5, .int .i64 0] wx fun e w' => e = .returned (.int .i64 0) /\ Tw w w' p o P q u Q ps7 ps6) := fun wx p o P q u Q h => (p6_ok h.a hT).mono fun _ _ ⟨h1, h2⟩ => ⟨h1, h.pro h2⟩
 have Hd6 : Hid (∀ wx p o P q u Q, Tw w wx p o P q u Q ps7 ps6 -> Calls Tryz.prog 71 #[.pointer (some ⟨q, 0, none⟩), .int .i64 6, .int .i64 4, .int .i64 5, .int .i64 0] wx fun e w' => e = .returned (.int .i64 0) /\ Tw w w' p o P q u Q ps7 ps7) := fun wx p o P q u Q h => (d6_ok h.b).mono fun _ _ ⟨h1, h2⟩ => ⟨h1, h.doc h2⟩
 have Hp7 : Hid (∀ wx p o P q u Q, Tw w wx p o P q u Q ps7 ps7 -> Calls Tryz.prog 72 #[.pointer (some ⟨p, 0, none⟩), .int .i64 7, .int .i64 6, .int .i64 0] wx fun e w' => e = .returned (.int .i64 0) /\ Tw w w' p o P q u Q ps8 ps7) := fun wx p o P q u Q h => (p7_ok h.a hT).mono fun _ _ ⟨h1, h2⟩ => ⟨h1, h.pro h2⟩
 have Hd7 : Hid (∀ wx p o P q u Q, Tw w wx p o P q u Q ps8 ps7 -> Calls Tryz.prog 73 #[.pointer (some ⟨q, 0, none⟩), .int .i64 7, .int .i64 6, .int .i64 0] wx fun e w' => e = .returned (.int .i64 0) /\ Tw w w' p o P q u Q ps8 ps8) := fun wx p o P q u Q h => (d7_ok h.b).mono fun _ _ ⟨h1, h2⟩ => ⟨h1, h.doc h2⟩
 clear hT
 generalize nwS 12 2 2 = s0 at HP HF0
 go_enter Tryz.func31, Tryz.ntmps31
 go_wp2_with (first
  | (go_at_call 59; refine HP.out.mono ?_; rintro e1 w1 ⟨p, o, P, q, u, Q, rfl, h⟩; have H1 := ghide (HF0.out _ _ _ _ _ _ _ h); clear h HP HF0)
  | fail)
 go_loopw [4] (fun i wr => ∃ j : Nat, j <= 12 /\ i = .int .i64 j /\ Tw w wr p o P q u Q (pr j) (pr j)) (fun i _ => 12 - (intOf i).toNat)
 case atStart => exact ⟨0, by omega, rfl, H1.out⟩
 case round =>
  obtain ⟨j, hj, rfl, hI⟩ := hrel
  have HI := ghide hI
  clear hI H1
  by_cases hlt : j < 12
  · have i0 : (j : Int) < 12 := by omega
    have HJp := ghide (HRp.out _ _ _ _ j hlt HI.out.a)
    have HJd : Hid (∀ wx, Tw w wx p o P q u Q (pr (j + 1)) (pr j) -> Calls Tryz.prog 61 #[.pointer (some ⟨q, 0, none⟩), .int .i64 (j : Nat), .int .i64 (ptt j)] wx fun e w' => (∃ x, e = .returned (.int .i64 x)) /\ Tw w w' p o P q u Q (pr (j + 1)) (pr (j + 1))) := fun wx hx => (HRd.out _ _ _ _ j hlt hx.b).mono fun _ _ ⟨h1, h2⟩ => ⟨h1, hx.doc h2⟩
    have hw : wrap64 ((j : Int) + 1) = (j : Int) + 1 := by unfold wrap64; omega
    rcases (show (j = 8 \/ j = 9) \/ (¬ j = 8 /\ ¬ j = 9) by omega) with (rfl | rfl) | ⟨i8, i9⟩
    rotate_right
    · have hj8 : ((j : Int) == 8) = false := by simp; omega
      have hj9 : ((j : Int) == 9) = false := by simp; omega
      have ht : ptt j = 2 := by unfold ptt; rw [if_neg (by omega)]
      rw [ht] at HJp HJd
      clear ht i8 i9
      go_wp2_with (first
       | (go_at_call 60; refine HJp.out.mono ?_; rintro e1 v ⟨⟨x, rfl⟩, h⟩; have HJ := ghide (HI.out.pro h); clear h)
       | (go_at_call 61; refine (HJd.out _ HJ.out).mono ?_; rintro e1 v' ⟨⟨x', rfl⟩, h⟩; have HJ2 := ghide h; clear h)
       | fail)
      go_roundw
      case rel => exact ⟨j + 1, by omega, by go_num, HJ2.out⟩
      case measure =>
       simp only [intOf, hw]
       omega
    all_goals
     have HJp := HJp
     go_wp2_with (first
      | (go_at_call 60; refine HJp.out.mono ?_; rintro e1 v ⟨⟨x, rfl⟩, h⟩; have HJ := ghide (HI.out.pro h); clear h)
      | (go_at_call 61; refine (HJd.out _ HJ.out).mono ?_; rintro e1 v' ⟨⟨x', rfl⟩, h⟩; have HJ2 := ghide h; clear h)
      | fail)
     go_roundw
     case rel => first | exact ⟨9, by omega, rfl, HJ2.out⟩ | exact ⟨10, by omega, rfl, HJ2.out⟩
     case measure =>
      simp only [intOf]
      decide
  · have i0 : ¬ (j : Int) < 12 := by omega
    have e10 : j = 12 := by omega
    have K : Hid (Tw w wr p o P q u Q ps0 ps0) := by rw [<- HG.out, <- e10]; exact HI.out
    clear HI HRp HRd HG e10
    go_wp2_with (first
     | (go_at_call 62; refine (Hp0.out _ _ _ _ _ _ _ K.out).mono ?_; rintro e1 v0 ⟨rfl, h⟩; have K0 := ghide h; clear h Hp0 K)
     | (go_at_call 62; refine (Hp1.out _ _ _ _ _ _ _ K0.out).mono ?_; rintro e1 v1 ⟨rfl, h⟩; have K1 := ghide h; clear h Hp1 K0)
     | (go_at_call 63; refine (Hp2.out _ _ _ _ _ _ _ K1.out).mono ?_; rintro e1 v2 ⟨rfl, h⟩; have K2 := ghide h; clear h Hp2 K1)
     | (go_at_call 63; refine (Hp3.out _ _ _ _ _ _ _ K2.out).mono ?_; rintro e1 v3 ⟨rfl, h⟩; have K3 := ghide h; clear h Hp3 K2)
     | (go_at_call 64; refine (Hd0.out _ _ _ _ _ _ _ K3.out).mono ?_; rintro e1 v4 ⟨rfl, h⟩; have K4 := ghide h; clear h Hd0 K3)
     | (go_at_call 64; refine (Hd1.out _ _ _ _ _ _ _ K4.out).mono ?_; rintro e1 v5 ⟨rfl, h⟩; have K5 := ghide h; clear h Hd1 K4)
     | (go_at_call 65; refine (Hd2.out _ _ _ _ _ _ _ K5.out).mono ?_; rintro e1 v6 ⟨rfl, h⟩; have K6 := ghide h; clear h Hd2 K5)
     | (go_at_call 65; refine (Hd3.out _ _ _ _ _ _ _ K6.out).mono ?_; rintro e1 v7 ⟨rfl, h⟩; have K7 := ghide h; clear h Hd3 K6)
     | (go_at_call 66; refine (Hp4.out _ _ _ _ _ _ _ K7.out).mono ?_; rintro e1 v8 ⟨rfl, h⟩; have K8 := ghide h; clear h Hp4 K7)
     | (go_at_call 67; refine (Hd4.out _ _ _ _ _ _ _ K8.out).mono ?_; rintro e1 v9 ⟨rfl, h⟩; have K9 := ghide h; clear h Hd4 K8)
     | (go_at_call 68; refine (Hp5.out _ _ _ _ _ _ _ K9.out).mono ?_; rintro e1 v10 ⟨rfl, h⟩; have K10 := ghide h; clear h Hp5 K9)
     | (go_at_call 69; refine (Hd5.out _ _ _ _ _ _ _ K10.out).mono ?_; rintro e1 v11 ⟨rfl, h⟩; have K11 := ghide h; clear h Hd5 K10)
     | (go_at_call 70; refine (Hp6.out _ _ _ _ _ _ _ K11.out).mono ?_; rintro e1 v12 ⟨rfl, h⟩; have K12 := ghide h; clear h Hp6 K11)
     | (go_at_call 71; refine (Hd6.out _ _ _ _ _ _ _ K12.out).mono ?_; rintro e1 v13 ⟨rfl, h⟩; have K13 := ghide h; clear h Hd6 K12)
     | (go_at_call 72; refine (Hp7.out _ _ _ _ _ _ _ K13.out).mono ?_; rintro e1 v14 ⟨rfl, h⟩; have K14 := ghide h; clear h Hp7 K13)
     | (go_at_call 73; refine (Hd7.out _ _ _ _ _ _ _ K14.out).mono ?_; rintro e1 v15 ⟨rfl, h⟩; have K15 := ghide h; clear h Hd7 K14)
     | fail)
    go_ret2
    exact ⟨p, o, P, q, u, Q, rfl, K15.out⟩
end Pbpag
end Go.Proofs.YtkkclcihjojphaaGreatDoor
