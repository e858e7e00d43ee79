/- What build's Untype answers in a machine that nobody made. -/
import Derived.Test.YtiapfapmgjngpaaGreatDoorBldE
import Derived.Test.YtiapfapmgjngpaaGreatDoorMchN
import Derived.Test.YtiapfapmgjngpaaGreatDoorBunHead
import Derived.Test.YtiapfapmgjngpaaGreatDoorBunPtyp
namespace Go.Proofs.YtiapfapmgjngpaaGreatDoor.Pbuild
open Go.Proofs.YtiapfapmgjngpaaGreatDoor.Pbase Go.Proofs.YtiapfapmgjngpaaGreatDoor.Pfind Go.Proofs.YtiapfapmgjngpaaGreatDoor.Pmach
open Go.RowKit Go.Shelf
set_option linter.unusedVariables false
set_option linter.unusedSimpArgs false

theorem noB_nil (w : World) : NoB w none := ⟨fun wx _ => mem_nil wx, fun wx f => Phead.hget_nil f wx, fun wx _ => typ_nil wx, fun wx f => Ptyp.type_nil f wx⟩
theorem noB_zero {w : World} {p : Nat} (h : ZeroM w p) : NoB w (some ⟨p, 0, none⟩) := ⟨fun wx hB => mem_zero p wx (h.on hB), fun wx f => Phead.hget_nil f wx, fun wx hB => typ_zero p wx (h.on hB), fun wx f => Ptyp.type_nil f wx⟩
set_option maxRecDepth 100000 in
theorem taken_any (q0 : Option Addr) (g : Fn) (la lb : Array Value) (w : World) : Calls Tryz.prog 80 #[.pointer q0, .func g la lb] w fun e w' => (∃ v, e = .returned v) ∧ Below w.heap.size w w' := by
  go_enter Tryz.func80, Tryz.ntmps80
  go_wp2
  go_ret
  exact ⟨⟨_, rfl⟩, by (repeat (first | exact Below.refl _ _ | refine bal ?_ _))⟩
set_option maxRecDepth 100000 in
set_option maxHeartbeats 2000000 in
theorem buntype_zero (f : Int) {w : World} {p : Nat} (h : ZeroM w p) : Calls Tryz.prog 18 #[.pointer (some ⟨p, 0, none⟩), .int .i64 f] w fun e w' => e = .returned (.int .i64 13) ∧ Below w.heap.size w w' := by
  have HT : Hid (∀ wx, Below w.heap.size w wx → Calls Tryz.prog 25 #[.pointer (some ⟨p, 0, none⟩)] wx fun e w' => e = .returned (.pointer none) ∧ Below wx.heap.size wx w') := fun wx hB => typ_zero p wx (h.on hB)
  have HN : Hid (∀ wx, Below w.heap.size w wx → Calls Tryz.prog 46 #[.pointer (some ⟨p, 0, none⟩)] wx fun e w' => e = .returned (.int .i64 0) ∧ Below wx.heap.size wx w') := fun wx hB => mnow_zero p wx (h.on hB)
  clear h
  have t1 : True := trivial
  go_enter Tryz.func18, Tryz.ntmps18
  go_wp2_with (first
    | (go_at_call 80; clear t1; refine (taken_any _ _ _ _ _).mono ?_; rintro e w1 ⟨⟨v, rfl⟩, hb⟩; have H1 := ehide hb; clear hb)
    | (go_at_call 25; refine (HT.out _ H1.out).mono ?_; rintro e w2 ⟨rfl, hb⟩; have H2 := ehide (H1.out.trans (hb.mono H1.out.size)); clear hb H1)
    | (go_at_call 53; refine (Ptyp.type_nil f _).mono ?_; rintro e w3 ⟨rfl, hb⟩; have H3 := ehide (H2.out.trans (hb.mono H2.out.size)); clear hb H2)
    | (go_at_call 25; refine (HT.out _ H3.out).mono ?_; rintro e w4 ⟨rfl, hb⟩; have H4 := ehide (H3.out.trans (hb.mono H3.out.size)); clear hb H3)
    | (go_at_call 46; refine (HN.out _ H4.out).mono ?_; rintro e w5 ⟨rfl, hb⟩; have H5 := ehide (H4.out.trans (hb.mono H4.out.size)); clear hb H4)
    | (go_at_call 84; refine (Ptyp.untype_nil f 0 false _).mono ?_; rintro e w6 ⟨rfl, rfl⟩)
    | fail)
  go_ret
  exact ⟨rfl, H5.out⟩
end Go.Proofs.YtiapfapmgjngpaaGreatDoor.Pbuild
