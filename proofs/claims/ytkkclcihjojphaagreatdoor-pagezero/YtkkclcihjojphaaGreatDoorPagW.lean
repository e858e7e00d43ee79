import Derived.Test.YtkkclcihjojphaaGreatDoorPagB
import Derived.Test.YtkkclcihjojphaaGreatDoorPagC
set_option linter.unusedVariables false
set_option linter.unusedSimpArgs false
set_option maxRecDepth 100000
set_option maxHeartbeats 20000000
namespace Go.Proofs.YtkkclcihjojphaaGreatDoor
namespace Pbpag
open Pbase Pchold Pfind Play Pmem Pmst Ppmach Ptint Pvmach Pvobj Go.RowKit Go.Shelf
def ps9 : St := { ps8 with M := Ppgtbl.coM ps8.N ps8.M 2 0 3 (Pclock.floF ps8.n ps8.C), T := Ptyp.mapA ps8.N ps8.T 3 Ptyp.gRf }
def ps10 : St := { ps9 with M := Ppgtbl.maM ps9.N ps9.M 2 4 8 3 (Pclock.floF ps9.n ps9.C), T := Ptyp.mapA ps9.N ps9.T 8 Ptyp.gRf }
theorem ps8_all : (Ptyp.toldA ps8.N ps8.T 3).cnt < 1000 /\ Ppgtbl.coE ps8.N ps8.M 2 0 3 (Pclock.floF ps8.n ps8.C) = 0 /\ Ptyp.errA ps8.N ps8.T 3 Ptyp.hRf = 0 := by decide +kernel
theorem ps9_all : (Ptyp.toldA ps9.N ps9.T 8).is = 1 /\ (Ptyp.toldA ps9.N ps9.T 8).cnt < 1000 /\ Ppgtbl.maE ps9.N ps9.M 2 4 8 3 (Pclock.floF ps9.n ps9.C) = 0 /\ Ptyp.errA ps9.N ps9.T 8 Ptyp.hRf = 0 := by decide +kernel
theorem ps10_cnt : (Ptyp.toldA ps10.N ps10.T 8).cnt = 1 := by decide +kernel
section
variable {w0 w : World} {p : Nat} {o : Nat -> Nat} {P : Pq}
theorem c9_ok (h : Fx w0 w p o P ps8) (hT : Tz w0) : Calls Tryz.prog 8 #[.pointer (some ⟨p, 0, none⟩), .int .i64 2, .int .i64 0, .int .i64 3] w fun e w' => e = .returned (.int .i64 0) /\ Fx w0 w' p o P ps9 := (pcons_ok 2 0 3 h hT (by decide) ps8_all.1 ps8_all.2.1 ps8_all.2.2).mono fun _ _ ⟨h1, h2⟩ => ⟨h1, h2.fx⟩
theorem c10_ok (h : Fx w0 w p o P ps9) (hT : Tz w0) : Calls Tryz.prog 6 #[.pointer (some ⟨p, 0, none⟩), .int .i64 2, .int .i64 4, .int .i64 8, .int .i64 3] w fun e w' => e = .returned (.int .i64 0) /\ Fx w0 w' p o P ps10 := (pmap_ok 2 4 8 3 h hT ps9_all.1 ps9_all.2.1 ps9_all.2.2.1 ps9_all.2.2.2).mono fun _ _ ⟨h1, h2⟩ => ⟨h1, h2.fx⟩
end
theorem awake_any (w : World) (hT : Tz w) : Calls Tryz.prog 9 #[] w fun e w' => e = .returned (.bool true) /\ Below w.heap.size w w' := by
 have HB := ghide (base_any w hT)
 have HC : Hid (∀ wx p o P, Fx w wx p o P ps8 -> Calls Tryz.prog 8 #[.pointer (some ⟨p, 0, none⟩), .int .i64 2, .int .i64 0, .int .i64 3] wx fun e w' => e = .returned (.int .i64 0) /\ Fx w w' p o P ps9) := fun wx p o P h => c9_ok h hT
 have HM : Hid (∀ wx p o P, Fx w wx p o P ps9 -> Calls Tryz.prog 6 #[.pointer (some ⟨p, 0, none⟩), .int .i64 2, .int .i64 4, .int .i64 8, .int .i64 3] wx fun e w' => e = .returned (.int .i64 0) /\ Fx w w' p o P ps10) := fun wx p o P h => c10_ok h hT
 have HT : Hid (∀ wx p o P, Fx w wx p o P ps10 -> Calls Tryz.prog 32 #[.pointer (some ⟨p, 0, none⟩)] wx fun e w' => e = .returned (.pointer (some ⟨P.pt, 0, none⟩)) /\ Fx w w' p o P ps10) := fun wx p o P h => (gx_typ h).mono fun _ _ ⟨h1, h2⟩ => ⟨h1, h2.fx⟩
 have HN : Hid (∀ wx p o P, Fx w wx p o P ps10 -> Calls Tryz.prog 33 #[.pointer (some ⟨P.pt, 0, none⟩), .int .i64 8] wx fun e w' => e = .returned (.int .i64 1) /\ Fx w w' p o P ps10) := fun wx p o P h => (gx_count 8 h).mono fun _ _ ⟨h1, h2⟩ => ⟨h1.trans (by rw [ps10_cnt]), h2.fx⟩
 clear hT
 go_enter Tryz.func9, Tryz.ntmps9
 go_wp2_with (first
  | (go_at_call 31; refine HB.out.mono ?_; rintro e1 w1 ⟨p, o, P, q, u, Q, rfl, h⟩; have H1 := ghide h.a; clear h HB)
  | (go_at_call 8; refine (HC.out _ _ _ _ H1.out).mono ?_; rintro e1 w2 ⟨rfl, h⟩; have H2 := ghide h; clear h HC H1)
  | (go_at_call 6; refine (HM.out _ _ _ _ H2.out).mono ?_; rintro e1 w3 ⟨rfl, h⟩; have H3 := ghide h; clear h HM H2)
  | (go_at_call 32; refine (HT.out _ _ _ _ H3.out).mono ?_; rintro e1 w4 ⟨rfl, h⟩; have H4 := ghide h; clear h HT H3)
  | (go_at_call 33; refine (HN.out _ _ _ _ H4.out).mono ?_; rintro e1 w5 ⟨rfl, h⟩; have H5 := ghide h; clear h HN H4)
  | fail)
 go_ret
 exact ⟨rfl, H5.out.below⟩
theorem pzero_walk (a b : Int) (w : World) (hT : Tz w) : Calls Tryz.prog 3 #[.int .i64 a, .int .i64 b] w fun e w' => e = .returned (.bool true) /\ Below w.heap.size w w' := by
 have HB0 : Hid (Below w.heap.size w (w.alloc (.cells #[.pointer none, .pointer none, .pointer none, .pointer none, .pointer none, .slice none 0 0] 31))) := bal (Below.refl _ _) _
 have HZ0 : Hid (NoM (w.alloc (.cells #[.pointer none, .pointer none, .pointer none, .pointer none, .pointer none, .slice none 0 0] 31)) (.pointer (some ⟨w.heap.size, 0, none⟩))) := noM_zero (cell_new 5 rfl)
 have HA : Hid (∀ wx, Below w.heap.size w wx -> Calls Tryz.prog 9 #[] wx fun e w' => e = .returned (.bool true) /\ Below w.heap.size w w') := fun wx hB => (awake_any wx (hT.on hB)).mono (by rintro e w' ⟨h1, h2⟩; exact ⟨h1, hB.trans (h2.mono hB.size)⟩)
 clear hT
 go_enter Tryz.func3, Tryz.ntmps3
 go_upto_region 2 with fail
 generalize w.alloc _ = w1 at HB0 HZ0 ⊢
 have HZ : Hid (∀ wx, Below w1.heap.size w1 wx -> NoM wx (.pointer (some ⟨w.heap.size, 0, none⟩))) := fun wx hB => HZ0.out.on hB
 have HN : Hid (∀ wx, NoM wx (.pointer none)) := fun wx => noM_nil wx
 have H1 : Hid (Below w1.heap.size w1 w1) := Below.refl _ _
 clear HZ0
 generalize hD : w.heap.size = D at HZ ⊢
 have t1 : True := trivial
 go_wp2_with (first
  | (go_at_call 4; clear t1; refine (unmap_no a b (HN.out _)).mono ?_; rintro e1 w2 ⟨rfl, hb⟩; have H2 : Hid (Below w1.heap.size w1 w2) := hb; clear hb H1)
  | (go_at_call 5; refine (decons_no a b (HZ.out _ H2.out)).mono ?_; rintro e1 w3 ⟨rfl, hb⟩; have H3 : Hid (Below w1.heap.size w1 w3) := (H2.out.trans (hb.mono H2.out.size)); clear hb H2)
  | (go_at_call 6; refine (map_no a b a b (HZ.out _ H3.out)).mono ?_; rintro e1 w4 ⟨rfl, hb⟩; have H4 := ghide (H3.out.trans (hb.mono H3.out.size)); clear hb H3)
  | (go_at_call 7; refine (copy_no a b a b 1 (HN.out _)).mono ?_; rintro e1 w5 ⟨rfl, hb⟩; have H5 := ghide (H4.out.trans (hb.mono H4.out.size)); clear hb H4)
  | (go_at_call 8; refine (cons_no a b a (HZ.out _ H5.out)).mono ?_; rintro e1 w6 ⟨rfl, hb⟩; have H6 : Hid (Below w.heap.size w w6) := (HB0.out.trans ((H5.out.trans (hb.mono H5.out.size)).mono HB0.out.size)); clear hb H5)
  | (go_at_call 9; refine (HA.out _ H6.out).mono ?_; rintro e1 w7 ⟨rfl, hb⟩; have H7 := ghide hb; clear hb H6)
  | fail)
 go_ret
 exact ⟨rfl, H7.out⟩
end Pbpag
end Go.Proofs.YtkkclcihjojphaaGreatDoor
