/- What build's Thd answers in a machine without parts (written by mk_be.py). -/
import Derived.Test.YtiapfapmgjngpaaGreatDoorBldF
namespace Go.Proofs.YtiapfapmgjngpaaGreatDoor.Pbuild
open Go.Proofs.YtiapfapmgjngpaaGreatDoor.Pbase Go.Proofs.YtiapfapmgjngpaaGreatDoor.Pfind
open Go.RowKit Go.Shelf
set_option linter.unusedVariables false
set_option linter.unusedSimpArgs false

set_option maxRecDepth 100000 in
set_option maxHeartbeats 4000000 in
theorem bthd_no (f c a b : Int) {w : World} {q : Option Addr} (h : NoM w (.pointer q)) (hN : NoB w q) : Calls Tryz.prog 16 #[.pointer q, .int .i64 f, .int .i64 c, .int .i64 a, .int .i64 b] w fun e w' => e = .returned (.int .i64 13) ∧ Below w.heap.size w w' := by
  have HB : Hid (Below w.heap.size w (w.alloc (.cells #[.int .i64 0, .int .i64 0, .int .i64 a, .int .i64 b, .int .i64 0] 142))) := by first | exact bal (bal (Below.refl _ _) _) _ | exact bal (Below.refl _ _) _
  have HC : Hid (RowB (w.alloc (.cells #[.int .i64 0, .int .i64 0, .int .i64 a, .int .i64 b, .int .i64 0] 142)) w.heap.size 142 #[.int .i64 0, .int .i64 0, .int .i64 a, .int .i64 b, .int .i64 0]) := ehide (heap_alloc_new w _)
  have HF : Hid (∀ wx, Below w.heap.size w wx → Calls Tryz.prog 63 #[.pointer q, .int .i64 f] wx fun e w' => e = .returned (.int .i64 13) ∧ Below wx.heap.size wx w') := fun wx hx => fresh_no f (h.on hx)
  have HFC : Hid (∀ wx, Below w.heap.size w wx → Calls Tryz.prog 74 #[.pointer q, .int .i64 c] wx fun e w' => e = .returned (.tuple #[.agg #[.int .i64 0, .int .i64 0, .int .i64 0, .int .i64 0, .int .i64 0, .int .i64 0], .int .i64 13]) ∧ Below wx.heap.size wx w') := fun wx hx => comp_no c (h.on hx)
  have HRt : Hid (∀ wx A, Below w.heap.size w wx → RowB wx A 142 #[.int .i64 0, .int .i64 0, .int .i64 a, .int .i64 b, .int .i64 0] → Calls Tryz.prog 67 #[.pointer q, .func (.func 177) #[] #[.pointer (some ⟨A, 0, none⟩)]] wx fun e w' => e = .returned (.int .i64 4) ∧ Below wx.heap.size wx w') := fun wx A hx hr => rightT_no (hN.on hx) rfl rfl hr
  have HRm : Hid (∀ wx A, Below w.heap.size w wx → RowB wx A 142 #[.int .i64 0, .int .i64 0, .int .i64 a, .int .i64 b, .int .i64 0] → Calls Tryz.prog 69 #[.pointer q, .func (.func 177) #[] #[.pointer (some ⟨A, 0, none⟩)]] wx fun e w' => e = .returned (.int .i64 2) ∧ Below wx.heap.size wx w') := fun wx A hx hr => roomT_no (hN.on hx) rfl rfl hr
  clear h hN
  go_enter Tryz.func16, Tryz.ntmps16
  go_upto_region 2 with fail
  generalize w.alloc _ = V at HB HC ⊢
  go_upto_region 3 with (first
    | (go_at_call 74; refine (HFC.out _ HB.out).mono ?_; rintro e w0 ⟨rfl, hb⟩; have HV := ehide (row_to HC.out hb); have HB' := ehide (HB.out.trans (hb.mono HB.out.size)); clear hb HC HB)
    | fail)
  have HB : Hid (∀ o, Below w.heap.size w (w0.alloc o)) := fun o => HB'.out.trans ((bal (Below.refl _ _) o).mono HB'.out.size)
  have HC : Hid (∀ o, RowB (w0.alloc o) w.heap.size 142 #[.int .i64 0, .int .i64 0, .int .i64 a, .int .i64 b, .int .i64 0]) := fun o => rowal HV.out o
  clear HV HB'
  generalize hW : w0.alloc _ = W at ⊢
  have HB := ehide (hW ▸ HB.out _)
  have HC := ehide (hW ▸ HC.out _)
  clear hW
  have HQ : Hid (∀ wx, Below W.heap.size W wx → Below w.heap.size w wx) := fun wx hx => HB.out.trans (hx.mono HB.out.size)
  have HB0 : Hid (Below W.heap.size W W) := Below.refl _ _
  generalize hD : w.heap.size = D at HC ⊢
  have c0_0 : W.cell? ⟨D, 0, none⟩ = some (.int .i64 0) := HC.out.cell 0 rfl
  have c0_1 : W.cell? ⟨D, 1, none⟩ = some (.int .i64 0) := HC.out.cell 1 rfl
  have c0_2 : W.cell? ⟨D, 2, none⟩ = some (.int .i64 a) := HC.out.cell 2 rfl
  have c0_3 : W.cell? ⟨D, 3, none⟩ = some (.int .i64 b) := HC.out.cell 3 rfl
  have c0_4 : W.cell? ⟨D, 4, none⟩ = some (.int .i64 0) := HC.out.cell 4 rfl
  go_region_with (first
    | (go_at_call 63; refine (HF.out _ (HQ.out _ ?hb)).mono ?_; (case hb => (repeat (first | exact HB0.out | refine bal ?_ _ | refine bdr ?_))); rintro e w2 ⟨rfl, hb⟩; have HB2 := ehide (nxt (W := W) (by (repeat (first | exact HB0.out | refine bal ?_ _ | refine bdr ?_))) hb); clear hb; have c2_0 : w2.cell? ⟨D, 0, none⟩ = some (.int .i64 0) := (row_to HC.out HB2.out).cell 0 rfl; have c2_1 : w2.cell? ⟨D, 1, none⟩ = some (.int .i64 0) := (row_to HC.out HB2.out).cell 1 rfl; have c2_2 : w2.cell? ⟨D, 2, none⟩ = some (.int .i64 a) := (row_to HC.out HB2.out).cell 2 rfl; have c2_3 : w2.cell? ⟨D, 3, none⟩ = some (.int .i64 b) := (row_to HC.out HB2.out).cell 3 rfl; have c2_4 : w2.cell? ⟨D, 4, none⟩ = some (.int .i64 0) := (row_to HC.out HB2.out).cell 4 rfl)
    | (go_at_call 75; have h4 := HB4; refine (ofT_any 0 0 a b 0 _).mono ?_; rintro e w5 ⟨rfl, hr, hb⟩; have HB5 := ehide (nxt (W := W) (by (repeat (first | exact HB4.out | refine bal ?_ _ | refine bdr ?_))) hb); have HR5 := ehide hr; clear hb hr; have c5_0 : w5.cell? ⟨D, 0, none⟩ = some (.int .i64 0) := (row_to HC.out HB5.out).cell 0 rfl; have c5_1 : w5.cell? ⟨D, 1, none⟩ = some (.int .i64 0) := (row_to HC.out HB5.out).cell 1 rfl; have c5_2 : w5.cell? ⟨D, 2, none⟩ = some (.int .i64 a) := (row_to HC.out HB5.out).cell 2 rfl; have c5_3 : w5.cell? ⟨D, 3, none⟩ = some (.int .i64 b) := (row_to HC.out HB5.out).cell 3 rfl; have c5_4 : w5.cell? ⟨D, 4, none⟩ = some (.int .i64 0) := (row_to HC.out HB5.out).cell 4 rfl)
    | (go_at_call 75; refine (ofT_any 0 0 a b 0 _).mono ?_; rintro e w3 ⟨rfl, hr, hb⟩; have HB3 := ehide (nxt (W := W) (by (repeat (first | exact HB2.out | refine bal ?_ _ | refine bdr ?_))) hb); have HR3 := ehide hr; clear hb hr; have c3_0 : w3.cell? ⟨D, 0, none⟩ = some (.int .i64 0) := (row_to HC.out HB3.out).cell 0 rfl; have c3_1 : w3.cell? ⟨D, 1, none⟩ = some (.int .i64 0) := (row_to HC.out HB3.out).cell 1 rfl; have c3_2 : w3.cell? ⟨D, 2, none⟩ = some (.int .i64 a) := (row_to HC.out HB3.out).cell 2 rfl; have c3_3 : w3.cell? ⟨D, 3, none⟩ = some (.int .i64 b) := (row_to HC.out HB3.out).cell 3 rfl; have c3_4 : w3.cell? ⟨D, 4, none⟩ = some (.int .i64 0) := (row_to HC.out HB3.out).cell 4 rfl)
    | (go_at_call 67; refine (HRt.out _ _ (HQ.out _ HB3.out) HR3.out).mono ?_; rintro e w4 ⟨rfl, hb⟩; have HB4 := ehide (nxt (W := W) (by (repeat (first | exact HB3.out | refine bal ?_ _ | refine bdr ?_))) hb); clear hb; have c4_0 : w4.cell? ⟨D, 0, none⟩ = some (.int .i64 0) := (row_to HC.out HB4.out).cell 0 rfl; have c4_1 : w4.cell? ⟨D, 1, none⟩ = some (.int .i64 0) := (row_to HC.out HB4.out).cell 1 rfl; have c4_2 : w4.cell? ⟨D, 2, none⟩ = some (.int .i64 a) := (row_to HC.out HB4.out).cell 2 rfl; have c4_3 : w4.cell? ⟨D, 3, none⟩ = some (.int .i64 b) := (row_to HC.out HB4.out).cell 3 rfl; have c4_4 : w4.cell? ⟨D, 4, none⟩ = some (.int .i64 0) := (row_to HC.out HB4.out).cell 4 rfl)
    | (go_at_call 69; refine (HRm.out _ _ (HQ.out _ HB5.out) HR5.out).mono ?_; rintro e w6 ⟨rfl, hb⟩; have HB6 := ehide (nxt (W := W) (by (repeat (first | exact HB5.out | refine bal ?_ _ | refine bdr ?_))) hb); clear hb)
    | (go_at_call 66; refine (or_first (e := 13) (by decide) (by decide) (first_new rfl)).mono ?_; rintro e w7 ⟨rfl, rfl⟩)
    | fail)
  all_goals (go_wp2_with fail; go_ret; refine ⟨rfl, HQ.out _ ?_⟩; (repeat (first | exact HB6.out | refine bal ?_ _ | refine bdr ?_)))
end Go.Proofs.YtiapfapmgjngpaaGreatDoor.Pbuild
