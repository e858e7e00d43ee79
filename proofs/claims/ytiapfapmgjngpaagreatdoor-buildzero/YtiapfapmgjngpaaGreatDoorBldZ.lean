/- The walk of BuildZero. -/
import Derived.Test.YtiapfapmgjngpaaGreatDoorBldP
import Derived.Test.YtiapfapmgjngpaaGreatDoorBldI
import Derived.Test.YtiapfapmgjngpaaGreatDoorBldG
import Derived.Test.YtiapfapmgjngpaaGreatDoorBldH
namespace Go.Proofs.YtiapfapmgjngpaaGreatDoor.Pbuild
open Go.Proofs.YtiapfapmgjngpaaGreatDoor.Pbase Go.Proofs.YtiapfapmgjngpaaGreatDoor.Pchold Go.Proofs.YtiapfapmgjngpaaGreatDoor.Pfind Go.Proofs.YtiapfapmgjngpaaGreatDoor.Pmach Go.Proofs.YtiapfapmgjngpaaGreatDoor.Pmem Go.Proofs.YtiapfapmgjngpaaGreatDoor.Pmst Go.Proofs.YtiapfapmgjngpaaGreatDoor.Ppmach Go.Proofs.YtiapfapmgjngpaaGreatDoor.Ptint
open Go.RowKit
set_option linter.unusedVariables false
set_option linter.unusedSimpArgs false

set_option maxRecDepth 100000 in
set_option maxHeartbeats 2000000 in
theorem bzero_walk (f : Int) (w : World) (hT : Phead.TabW w) : Calls Tryz.prog 5 #[.int .i64 f] w fun e w' => e = .returned (.bool true) ∧ Below w.heap.size w w' := by
  have HB0 : Hid (Below w.heap.size w (w.alloc (.cells #[.pointer none, .pointer none, .pointer none, .pointer none, .pointer none, .slice none 0 0] 59))) := bal (Below.refl _ _) _
  have HZ0 : Hid (∀ wx, Below (w.alloc (.cells #[.pointer none, .pointer none, .pointer none, .pointer none, .pointer none, .slice none 0 0] 59)).heap.size (w.alloc (.cells #[.pointer none, .pointer none, .pointer none, .pointer none, .pointer none, .slice none 0 0] 59)) wx → ZeroM wx w.heap.size) := fun wx hB => (zeroM_new w).on hB
  have HA : Hid (∀ wx, Below w.heap.size w wx → Calls Tryz.prog 11 #[] wx fun e w' => e = .returned (.bool true) ∧ Below w.heap.size w w') := fun wx hB => (awake_any wx (hT.on hB)).mono (by rintro e w' ⟨h1, h2⟩; exact ⟨h1, hB.trans (h2.mono hB.size)⟩)
  clear hT
  go_enter Tryz.func5, Tryz.ntmps5
  go_upto_region 2 with fail
  generalize w.alloc _ = w1 at HB0 HZ0 ⊢
  have HZ : Hid (∀ wx, Below w1.heap.size w1 wx → NoM wx (.pointer (some ⟨w.heap.size, 0, none⟩)) ∧ NoB wx (some ⟨w.heap.size, 0, none⟩) ∧ ZeroM wx w.heap.size) := fun wx hB => ⟨noM_zero (HZ0.out wx hB).c5, noB_zero (HZ0.out wx hB), HZ0.out wx hB⟩
  have HN : Hid (∀ wx, NoM wx (.pointer none) ∧ NoB wx none) := fun wx => ⟨noM_nil wx, noB_nil wx⟩
  have H1 : Hid (Below w1.heap.size w1 w1) := Below.refl _ _
  clear HZ0
  generalize hD : w.heap.size = D at HZ ⊢
  have t1 : True := trivial
  go_wp2_with (first
    | (go_at_call 14; refine (bcomp_no f 0 0 (HN.out _).1 (HN.out _).2).mono ?_; rintro e1 w2 ⟨rfl, hb⟩; have H2 : Hid (∀ o, Below w1.heap.size w1 (w2.alloc o)) := (fun o => bal hb o); clear hb t1 H1)
    | (go_at_call 12; refine (btbl_no f 0 (HZ.out _ (H2.out _)).1).mono ?_; rintro e1 w3 ⟨rfl, hb⟩; have H3 : Hid (Below w1.heap.size w1 w3) := ((H2.out _).trans (hb.mono (H2.out _).size)); clear hb H2)
    | (go_at_call 13; refine (bpgt_no f 0 (HN.out _).1).mono ?_; rintro e1 w4 ⟨rfl, hb⟩; have H4 := phide (H3.out.trans (hb.mono H3.out.size)); clear hb H3)
    | (go_at_call 16; refine (bthd_no f 0 0 0 (HZ.out _ H4.out).1 (HZ.out _ H4.out).2.1).mono ?_; rintro e1 w5 ⟨rfl, hb⟩; have H5 := phide (H4.out.trans (hb.mono H4.out.size)); clear hb H4)
    | (go_at_call 15; refine (btcap_no f (HN.out _).1).mono ?_; rintro e1 w6 ⟨rfl, hb⟩; have H6 := phide (H5.out.trans (hb.mono H5.out.size)); clear hb H5)
    | (go_at_call 17; refine (brcv_no f 0 0 (HZ.out _ H6.out).1 (HZ.out _ H6.out).2.1).mono ?_; rintro e1 w7 ⟨rfl, hb⟩; have H7 := phide (H6.out.trans (hb.mono H6.out.size)); clear hb H6)
    | (go_at_call 19; refine (bkill_no f (HN.out _).1).mono ?_; rintro e1 w8 ⟨rfl, hb⟩; have H8 := phide (H7.out.trans (hb.mono H7.out.size)); clear hb H7)
    | (go_at_call 18; refine (buntype_zero f (HZ.out _ H8.out).2.2).mono ?_; rintro e1 w9 ⟨rfl, hb⟩; have H9 : Hid (Below w.heap.size w w9) := (HB0.out.trans ((H8.out.trans (hb.mono H8.out.size)).mono HB0.out.size)); clear hb H8)
    | (go_at_call 11; refine (HA.out _ H9.out).mono ?_; rintro e1 w10 ⟨rfl, hb⟩; have H10 := phide hb; clear hb H9)
    | fail)
  go_ret
  exact ⟨rfl, H10.out⟩
end Go.Proofs.YtiapfapmgjngpaaGreatDoor.Pbuild
