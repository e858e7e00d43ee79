/- What build's calls answer in a machine without parts. -/
import Derived.Test.YtiapfapmgjngpaaGreatDoorBldD
import Derived.Test.YtiapfapmgjngpaaGreatDoorFndN
namespace Go.Proofs.YtiapfapmgjngpaaGreatDoor.Pbuild
open Go.Proofs.YtiapfapmgjngpaaGreatDoor.Pbase Go.Proofs.YtiapfapmgjngpaaGreatDoor.Pfind
open Go.RowKit Go.Shelf
set_option linter.unusedVariables false
set_option linter.unusedSimpArgs false

theorem ehide {p : Prop} (h : p) : Hid p := h
set_option maxRecDepth 100000 in
theorem btbl_no (f l : Int) {w : World} {q : Option Addr} (h : NoM w (.pointer q)) : Calls Tryz.prog 12 #[.pointer q, .int .i64 f, .int .i64 l] w fun e w' => e = .returned (.int .i64 13) ∧ Below w.heap.size w w' := by
  have HF := ehide (fresh_no f h)
  clear h
  go_enter Tryz.func12, Tryz.ntmps12
  go_wp2_with (first
    | (go_at_call 63; refine HF.out.mono ?_; rintro e w1 ⟨rfl, hb⟩; have H1 := ehide hb; clear hb HF)
    | fail)
  go_ret
  exact ⟨rfl, H1.out⟩
set_option maxRecDepth 100000 in
theorem bpgt_no (f l : Int) {w : World} {q : Option Addr} (h : NoM w (.pointer q)) : Calls Tryz.prog 13 #[.pointer q, .int .i64 f, .int .i64 l] w fun e w' => e = .returned (.int .i64 13) ∧ Below w.heap.size w w' := by
  have HF := ehide (fresh_no f h)
  clear h
  go_enter Tryz.func13, Tryz.ntmps13
  go_wp2_with (first
    | (go_at_call 63; refine HF.out.mono ?_; rintro e w1 ⟨rfl, hb⟩; have H1 := ehide hb; clear hb HF)
    | fail)
  go_ret
  exact ⟨rfl, H1.out⟩
set_option maxRecDepth 100000 in
theorem btcap_no (f : Int) {w : World} {q : Option Addr} (h : NoM w (.pointer q)) : Calls Tryz.prog 15 #[.pointer q, .int .i64 f] w fun e w' => e = .returned (.int .i64 13) ∧ Below w.heap.size w w' := by
  have HF := ehide (fresh_no f h)
  clear h
  go_enter Tryz.func15, Tryz.ntmps15
  go_wp2_with (first
    | (go_at_call 63; refine HF.out.mono ?_; rintro e w1 ⟨rfl, hb⟩; have H1 := ehide hb; clear hb HF)
    | fail)
  go_ret
  exact ⟨rfl, H1.out⟩
set_option maxRecDepth 100000 in
theorem bkill_no (f : Int) {w : World} {q : Option Addr} (h : NoM w (.pointer q)) : Calls Tryz.prog 19 #[.pointer q, .int .i64 f] w fun e w' => e = .returned (.int .i64 13) ∧ Below w.heap.size w w' := by
  have HF := ehide (comp_no f h)
  clear h
  go_enter Tryz.func19, Tryz.ntmps19
  go_wp2_with (first
    | (go_at_call 74; refine HF.out.mono ?_; rintro e w1 ⟨rfl, hb⟩; have H1 := ehide hb; clear hb HF)
    | fail)
  go_ret
  exact ⟨rfl, by (repeat (first | exact H1.out | refine bal ?_ _ | refine bst ?_ H1.out.size _ _))⟩
/-- Six cells of a block. -/
theorem six_of {w : World} {A : Nat} {t : TypeId} {v0 v1 v2 v3 v4 v5 : Value} (h : RowB w A t #[v0, v1, v2, v3, v4, v5]) :
    w.cell? ⟨A, 0, none⟩ = some v0 ∧ w.cell? ⟨A, 1, none⟩ = some v1 ∧ w.cell? ⟨A, 2, none⟩ = some v2 ∧ w.cell? ⟨A, 3, none⟩ = some v3 ∧ w.cell? ⟨A, 4, none⟩ = some v4 ∧ w.cell? ⟨A, 5, none⟩ = some v5 :=
  ⟨h.cell 0 rfl, h.cell 1 rfl, h.cell 2 rfl, h.cell 3 rfl, h.cell 4 rfl, h.cell 5 rfl⟩
theorem frz_of {w : World} {A : Nat} {t : TypeId} {cs : Array Value} (h : RowB w A t cs) : w.frozen? ⟨A, 0, none⟩ = false ∧ w.frozen? ⟨A, 1, none⟩ = false ∧ w.frozen? ⟨A, 2, none⟩ = false ∧ w.frozen? ⟨A, 3, none⟩ = false ∧ w.frozen? ⟨A, 4, none⟩ = false ∧ w.frozen? ⟨A, 5, none⟩ = false :=
  ⟨frz_row 0 h, frz_row 1 h, frz_row 2 h, frz_row 3 h, frz_row 4 h, frz_row 5 h⟩
end Go.Proofs.YtiapfapmgjngpaaGreatDoor.Pbuild
