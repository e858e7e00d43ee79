/- The walk of FindZero. -/
import Derived.Test.YtggggfhgfnbjnaaGreatDoorFndP
import Derived.Test.YtggggfhgfnbjnaaGreatDoorFndN
namespace Go.Proofs.YtggggfhgfnbjnaaGreatDoor.Pfind
open Go.Proofs.YtggggfhgfnbjnaaGreatDoor.Pbase Go.Proofs.YtggggfhgfnbjnaaGreatDoor.Pcaptbl Go.Proofs.YtggggfhgfnbjnaaGreatDoor.Pchold Go.Proofs.YtggggfhgfnbjnaaGreatDoor.Pmem Go.Proofs.YtggggfhgfnbjnaaGreatDoor.Pmst Go.Proofs.YtggggfhgfnbjnaaGreatDoor.Ppmach Go.Proofs.YtggggfhgfnbjnaaGreatDoor.Ptint
open Go.RowKit
set_option linter.unusedVariables false
set_option linter.unusedSimpArgs false

set_option maxRecDepth 100000 in
set_option maxHeartbeats 2000000 in
theorem zero_walk (a f : Int) (w : World) (hT : Pcaptbl.Tb w) : Calls Tryz.prog 5 #[.int .i64 a, .int .i64 f] w fun e w' => e = .returned (.bool true) ∧ Below w.heap.size w w' := by
  have HB0 : Hid (Below w.heap.size w (w.alloc (.cells #[.pointer none, .pointer none, .pointer none, .pointer none, .pointer none, .slice none 0 0] 90))) := bal (Below.refl _ _) _
  have hz : (w.alloc (.cells #[.pointer none, .pointer none, .pointer none, .pointer none, .pointer none, .slice none 0 0] 90)).cell? ⟨w.heap.size, 5, none⟩ = some (.slice none 0 0) := by rw [cell_of_row _ _ _ _ _ _ (heap_alloc_new _ _)]; rfl
  have HZ : Hid (∀ wx, Below (w.alloc (.cells #[.pointer none, .pointer none, .pointer none, .pointer none, .pointer none, .slice none 0 0] 90)).heap.size (w.alloc (.cells #[.pointer none, .pointer none, .pointer none, .pointer none, .pointer none, .slice none 0 0] 90)) wx → NoM wx (.pointer (some ⟨w.heap.size, 0, none⟩))) := fun wx hB => (noM_zero hz).on hB
  have HN : Hid (∀ wx, NoM wx (.pointer none)) := noM_nil
  have HA : Hid (∀ wx, Below w.heap.size w wx → Calls Tryz.prog 35 #[] wx fun e w' => e = .returned (.bool true) ∧ Below w.heap.size w w') := fun wx hB => (awake_any wx (hT.on hB)).mono (by rintro e w' ⟨h1, h2⟩; exact ⟨h1, hB.trans (h2.mono hB.size)⟩)
  clear hz hT
  go_enter Tryz.func5, Tryz.ntmps5
  go_upto_region 2 with fail
  generalize w.alloc _ = w1 at HB0 HZ ⊢
  have H1 : Hid (Below w1.heap.size w1 w1) := Below.refl _ _
  generalize hD : w.heap.size = D at HZ ⊢
  have t1 : True := trivial
  go_wp2_with (first
    | (go_at_call 24; refine (cap_no 0 a 0 0 (HN.out _)).mono ?_; rintro e1 w2 ⟨rfl, hb⟩; have H2 : Hid (∀ o, Below w1.heap.size w1 (w2.alloc o)) := (fun o => bal hb o); clear hb t1)
    | (go_at_call 26; refine (comp_no f (HZ.out _ (H2.out _))).mono ?_; rintro e1 w3 ⟨rfl, hb⟩; have H3 : Hid (∀ o, Below w1.heap.size w1 (w3.alloc o)) := (fun o => bal ((H2.out _).trans (hb.mono (H2.out _).size)) o); clear hb H2)
    | (go_at_call 28; refine (mem_no 0 a 0 f (HZ.out _ (H3.out _))).mono ?_; rintro e1 w4 ⟨rfl, hb⟩; have H4 : Hid (Below w1.heap.size w1 w4) := ((H3.out _).trans (hb.mono (H3.out _).size)); clear hb H3)
    | (go_at_call 30; refine (fresh_no f (HN.out _)).mono ?_; rintro e1 w5 ⟨rfl, hb⟩; have H5 : Hid (Below w1.heap.size w1 w5) := (H4.out.trans (hb.mono H4.out.size)); clear hb H4)
    | (go_at_call 32; refine (alive_nil 0 0 0 0 0 0 _).mono ?_; rintro e1 w6 ⟨rfl, hb⟩; have H6 : Hid (Below w.heap.size w w6) := (HB0.out.trans ((H5.out.trans (hb.mono H5.out.size)).mono HB0.out.size)); clear hb H5)
    | (go_at_call 35; refine (HA.out _ H6.out).mono ?_; rintro e1 w7 ⟨rfl, hb⟩; have H7 := fhide hb; clear hb H6)
    | fail)
  go_ret
  exact ⟨rfl, H7.out⟩
end Go.Proofs.YtggggfhgfnbjnaaGreatDoor.Pfind
