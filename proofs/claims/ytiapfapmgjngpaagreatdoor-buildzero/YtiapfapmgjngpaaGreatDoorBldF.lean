/- What build's Comp, Thd and Rcv answer in a machine without parts (written by mk_be.py). -/
import Derived.Test.YtiapfapmgjngpaaGreatDoorBldE
namespace Go.Proofs.YtiapfapmgjngpaaGreatDoor.Pbuild
open Go.Proofs.YtiapfapmgjngpaaGreatDoor.Pbase Go.Proofs.YtiapfapmgjngpaaGreatDoor.Pfind
open Go.RowKit Go.Shelf
set_option linter.unusedVariables false
set_option linter.unusedSimpArgs false

theorem rowal {w : World} {A : Nat} {t : TypeId} {cs : Array Value} (h : RowB w A t cs) (o : Obj) : RowB (w.alloc o) A t cs := h.on (bal (Below.refl _ _) o)
theorem row_to {W w : World} {A : Nat} {t : TypeId} {cs : Array Value} (h : RowB W A t cs) (hB : Below W.heap.size W w) : RowB w A t cs := h.on hB
theorem first_new {w : World} {v : Value} {cs : Array Value} {t : TypeId} (h : cs[0]? = some v) : (w.alloc (.cells cs t)).cell? ⟨w.heap.size, 0, none⟩ = some v := (cell_of_row _ _ 0 _ _ _ (heap_alloc_new w _)).trans h
set_option maxRecDepth 100000 in
set_option maxHeartbeats 4000000 in
theorem brcv_no (f a b : Int) {w : World} {q : Option Addr} (h : NoM w (.pointer q)) (hN : NoB w q) : Calls Tryz.prog 17 #[.pointer q, .int .i64 f, .int .i64 a, .int .i64 b] w fun e w' => e = .returned (.int .i64 13) ∧ Below w.heap.size w w' := by
  have HB : Hid (Below w.heap.size w (w.alloc (.cells #[.int .i64 a, .int .i64 b, .int .i64 0, .bool false, .int .i64 0] 47))) := by first | exact bal (bal (Below.refl _ _) _) _ | exact bal (Below.refl _ _) _
  have HC : Hid (RowB (w.alloc (.cells #[.int .i64 a, .int .i64 b, .int .i64 0, .bool false, .int .i64 0] 47)) w.heap.size 47 #[.int .i64 a, .int .i64 b, .int .i64 0, .bool false, .int .i64 0]) := ehide (heap_alloc_new w _)
  have HF : Hid (∀ wx, Below w.heap.size w wx → Calls Tryz.prog 63 #[.pointer q, .int .i64 f] wx fun e w' => e = .returned (.int .i64 13) ∧ Below wx.heap.size wx w') := fun wx hx => fresh_no f (h.on hx)
  have HRt : Hid (∀ wx A, Below w.heap.size w wx → RowB wx A 47 #[.int .i64 a, .int .i64 b, .int .i64 0, .bool false, .int .i64 0] → Calls Tryz.prog 67 #[.pointer q, .func (.func 183) #[] #[.pointer (some ⟨A, 0, none⟩)]] wx fun e w' => e = .returned (.int .i64 4) ∧ Below wx.heap.size wx w') := fun wx A hx hr => rightR_no (hN.on hx) rfl rfl hr
  have HRm : Hid (∀ wx A, Below w.heap.size w wx → RowB wx A 47 #[.int .i64 a, .int .i64 b, .int .i64 0, .bool false, .int .i64 0] → Calls Tryz.prog 69 #[.pointer q, .func (.func 183) #[] #[.pointer (some ⟨A, 0, none⟩)]] wx fun e w' => e = .returned (.int .i64 2) ∧ Below wx.heap.size wx w') := fun wx A hx hr => roomR_no (hN.on hx) rfl rfl hr
  clear h hN
  go_enter Tryz.func17, Tryz.ntmps17
  go_upto_region 2 with fail
  generalize hW : (w.alloc _) = W at HB HC ⊢
  clear hW
  have HQ : Hid (∀ wx, Below W.heap.size W wx → Below w.heap.size w wx) := fun wx hx => HB.out.trans (hx.mono HB.out.size)
  have HB0 : Hid (Below W.heap.size W W) := Below.refl _ _
  generalize hD : w.heap.size = D at HC ⊢
  have c0_0 : W.cell? ⟨D, 0, none⟩ = some (.int .i64 a) := HC.out.cell 0 rfl
  have c0_1 : W.cell? ⟨D, 1, none⟩ = some (.int .i64 b) := HC.out.cell 1 rfl
  have c0_2 : W.cell? ⟨D, 2, none⟩ = some (.int .i64 0) := HC.out.cell 2 rfl
  have c0_3 : W.cell? ⟨D, 3, none⟩ = some (.bool false) := HC.out.cell 3 rfl
  have c0_4 : W.cell? ⟨D, 4, none⟩ = some (.int .i64 0) := HC.out.cell 4 rfl
  go_region_with (first
    | (go_at_call 63; refine (HF.out _ (HQ.out _ ?hb)).mono ?_; (case hb => (repeat (first | exact HB0.out | refine bal ?_ _ | refine bdr ?_))); rintro e w2 ⟨rfl, hb⟩; have HB2 := ehide (nxt (W := W) (by (repeat (first | exact HB0.out | refine bal ?_ _ | refine bdr ?_))) hb); clear hb; have c2_0 : w2.cell? ⟨D, 0, none⟩ = some (.int .i64 a) := (row_to HC.out HB2.out).cell 0 rfl; have c2_1 : w2.cell? ⟨D, 1, none⟩ = some (.int .i64 b) := (row_to HC.out HB2.out).cell 1 rfl; have c2_2 : w2.cell? ⟨D, 2, none⟩ = some (.int .i64 0) := (row_to HC.out HB2.out).cell 2 rfl; have c2_3 : w2.cell? ⟨D, 3, none⟩ = some (.bool false) := (row_to HC.out HB2.out).cell 3 rfl; have c2_4 : w2.cell? ⟨D, 4, none⟩ = some (.int .i64 0) := (row_to HC.out HB2.out).cell 4 rfl)
    | (go_at_call 78; have h4 := HB4; refine (ofR_any a b 0 false 0 _).mono ?_; rintro e w5 ⟨rfl, hr, hb⟩; have HB5 := ehide (nxt (W := W) (by (repeat (first | exact HB4.out | refine bal ?_ _ | refine bdr ?_))) hb); have HR5 := ehide hr; clear hb hr; have c5_0 : w5.cell? ⟨D, 0, none⟩ = some (.int .i64 a) := (row_to HC.out HB5.out).cell 0 rfl; have c5_1 : w5.cell? ⟨D, 1, none⟩ = some (.int .i64 b) := (row_to HC.out HB5.out).cell 1 rfl; have c5_2 : w5.cell? ⟨D, 2, none⟩ = some (.int .i64 0) := (row_to HC.out HB5.out).cell 2 rfl; have c5_3 : w5.cell? ⟨D, 3, none⟩ = some (.bool false) := (row_to HC.out HB5.out).cell 3 rfl; have c5_4 : w5.cell? ⟨D, 4, none⟩ = some (.int .i64 0) := (row_to HC.out HB5.out).cell 4 rfl)
    | (go_at_call 78; refine (ofR_any a b 0 false 0 _).mono ?_; rintro e w3 ⟨rfl, hr, hb⟩; have HB3 := ehide (nxt (W := W) (by (repeat (first | exact HB2.out | refine bal ?_ _ | refine bdr ?_))) hb); have HR3 := ehide hr; clear hb hr; have c3_0 : w3.cell? ⟨D, 0, none⟩ = some (.int .i64 a) := (row_to HC.out HB3.out).cell 0 rfl; have c3_1 : w3.cell? ⟨D, 1, none⟩ = some (.int .i64 b) := (row_to HC.out HB3.out).cell 1 rfl; have c3_2 : w3.cell? ⟨D, 2, none⟩ = some (.int .i64 0) := (row_to HC.out HB3.out).cell 2 rfl; have c3_3 : w3.cell? ⟨D, 3, none⟩ = some (.bool false) := (row_to HC.out HB3.out).cell 3 rfl; have c3_4 : w3.cell? ⟨D, 4, none⟩ = some (.int .i64 0) := (row_to HC.out HB3.out).cell 4 rfl)
    | (go_at_call 67; refine (HRt.out _ _ (HQ.out _ HB3.out) HR3.out).mono ?_; rintro e w4 ⟨rfl, hb⟩; have HB4 := ehide (nxt (W := W) (by (repeat (first | exact HB3.out | refine bal ?_ _ | refine bdr ?_))) hb); clear hb; have c4_0 : w4.cell? ⟨D, 0, none⟩ = some (.int .i64 a) := (row_to HC.out HB4.out).cell 0 rfl; have c4_1 : w4.cell? ⟨D, 1, none⟩ = some (.int .i64 b) := (row_to HC.out HB4.out).cell 1 rfl; have c4_2 : w4.cell? ⟨D, 2, none⟩ = some (.int .i64 0) := (row_to HC.out HB4.out).cell 2 rfl; have c4_3 : w4.cell? ⟨D, 3, none⟩ = some (.bool false) := (row_to HC.out HB4.out).cell 3 rfl; have c4_4 : w4.cell? ⟨D, 4, none⟩ = some (.int .i64 0) := (row_to HC.out HB4.out).cell 4 rfl)
    | (go_at_call 69; refine (HRm.out _ _ (HQ.out _ HB5.out) HR5.out).mono ?_; rintro e w6 ⟨rfl, hb⟩; have HB6 := ehide (nxt (W := W) (by (repeat (first | exact HB5.out | refine bal ?_ _ | refine bdr ?_))) hb); clear hb)
    | (go_at_call 66; refine (or_first (e := 13) (by decide) (by decide) (first_new rfl)).mono ?_; rintro e w7 ⟨rfl, rfl⟩)
    | fail)
  all_goals (go_wp2_with fail; go_ret; refine ⟨rfl, HQ.out _ ?_⟩; (repeat (first | exact HB6.out | refine bal ?_ _ | refine bdr ?_)))
end Go.Proofs.YtiapfapmgjngpaaGreatDoor.Pbuild
