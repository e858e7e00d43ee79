/- What build's Comp answers in a machine without parts (written by mk_be.py). -/
import Derived.Test.YtiapfapmgjngpaaGreatDoorBldQ
namespace Go.Proofs.YtiapfapmgjngpaaGreatDoor.Pbuild
open Go.Proofs.YtiapfapmgjngpaaGreatDoor.Pbase Go.Proofs.YtiapfapmgjngpaaGreatDoor.Pfind
open Go.RowKit Go.Shelf
set_option linter.unusedVariables false
set_option linter.unusedSimpArgs false

set_option maxRecDepth 100000 in
set_option maxHeartbeats 4000000 in
theorem bcomp_no (f a b : Int) {w : World} {q : Option Addr} (h : NoM w (.pointer q)) (hN : NoB w q) : Calls Tryz.prog 14 #[.pointer q, .int .i64 f, .int .i64 a, .int .i64 b] w fun e w' => e = .returned (.tuple #[.agg #[.int .i64 0, .int .i64 0, .int .i64 0, .int .i64 0, .int .i64 0, .int .i64 0], .int .i64 13]) ∧ Below w.heap.size w w' := by
  have HB : Hid (Below w.heap.size w ((w.alloc (.cells #[.int .i64 0, .int .i64 0, .int .i64 0, .int .i64 0, .int .i64 0, .int .i64 0] 37)).alloc (.cells #[.int .i64 a, .int .i64 b, .int .i64 0, .int .i64 0, .int .i64 0, .int .i64 0] 128))) := by first | exact bal (bal (Below.refl _ _) _) _ | exact bal (Below.refl _ _) _
  have HC : Hid (RowB ((w.alloc (.cells #[.int .i64 0, .int .i64 0, .int .i64 0, .int .i64 0, .int .i64 0, .int .i64 0] 37)).alloc (.cells #[.int .i64 a, .int .i64 b, .int .i64 0, .int .i64 0, .int .i64 0, .int .i64 0] 128)) (w.heap.size + 1) 128 #[.int .i64 a, .int .i64 b, .int .i64 0, .int .i64 0, .int .i64 0, .int .i64 0]) := ehide (by have := heap_alloc_new (w.alloc (.cells #[.int .i64 0, .int .i64 0, .int .i64 0, .int .i64 0, .int .i64 0, .int .i64 0] 37)) (.cells #[.int .i64 a, .int .i64 b, .int .i64 0, .int .i64 0, .int .i64 0, .int .i64 0] 128); rwa [World.size_alloc] at this)
  have HP : Hid (RowB ((w.alloc (.cells #[.int .i64 0, .int .i64 0, .int .i64 0, .int .i64 0, .int .i64 0, .int .i64 0] 37)).alloc (.cells #[.int .i64 a, .int .i64 b, .int .i64 0, .int .i64 0, .int .i64 0, .int .i64 0] 128)) w.heap.size 37 #[.int .i64 0, .int .i64 0, .int .i64 0, .int .i64 0, .int .i64 0, .int .i64 0]) := ehide (rowal (heap_alloc_new w _) _)
  have HF : Hid (∀ wx, Below w.heap.size w wx → Calls Tryz.prog 63 #[.pointer q, .int .i64 f] wx fun e w' => e = .returned (.int .i64 13) ∧ Below wx.heap.size wx w') := fun wx hx => fresh_no f (h.on hx)
  have HRt : Hid (∀ wx A, Below w.heap.size w wx → RowB wx A 128 #[.int .i64 a, .int .i64 b, .int .i64 0, .int .i64 0, .int .i64 0, .int .i64 0] → Calls Tryz.prog 67 #[.pointer q, .func (.func 165) #[] #[.pointer (some ⟨A, 0, none⟩)]] wx fun e w' => e = .returned (.int .i64 4) ∧ Below wx.heap.size wx w') := fun wx A hx hr => rightC_no (hN.on hx) rfl rfl hr
  have HRm : Hid (∀ wx A, Below w.heap.size w wx → RowB wx A 128 #[.int .i64 a, .int .i64 b, .int .i64 0, .int .i64 0, .int .i64 0, .int .i64 0] → Calls Tryz.prog 69 #[.pointer q, .func (.func 165) #[] #[.pointer (some ⟨A, 0, none⟩)]] wx fun e w' => e = .returned (.int .i64 2) ∧ Below wx.heap.size wx w') := fun wx A hx hr => roomC_no (hN.on hx) rfl rfl hr
  clear h hN
  go_enter Tryz.func14, Tryz.ntmps14
  go_upto_region 2 with fail
  generalize hW : ((w.alloc _).alloc _) = W at HB HC HP ⊢
  clear hW
  have HQ : Hid (∀ wx, Below W.heap.size W wx → Below w.heap.size w wx) := fun wx hx => HB.out.trans (hx.mono HB.out.size)
  have HB0 : Hid (Below W.heap.size W W) := Below.refl _ _
  generalize hD : w.heap.size = D at HC HP ⊢
  have c0_0 : W.cell? ⟨D + 1, 0, none⟩ = some (.int .i64 a) := HC.out.cell 0 rfl
  have c0_1 : W.cell? ⟨D + 1, 1, none⟩ = some (.int .i64 b) := HC.out.cell 1 rfl
  have c0_2 : W.cell? ⟨D + 1, 2, none⟩ = some (.int .i64 0) := HC.out.cell 2 rfl
  have c0_3 : W.cell? ⟨D + 1, 3, none⟩ = some (.int .i64 0) := HC.out.cell 3 rfl
  have c0_4 : W.cell? ⟨D + 1, 4, none⟩ = some (.int .i64 0) := HC.out.cell 4 rfl
  have c0_5 : W.cell? ⟨D + 1, 5, none⟩ = some (.int .i64 0) := HC.out.cell 5 rfl
  rename_i K0 hK0
  have HK : ∀ (A1 A2 R : Nat) (U : World), Below W.heap.size W U → K0 { tmps := #[.pointer q, .int .i64 f, .int .i64 a, .int .i64 b, undef, undef, undef, undef, .pointer (some ⟨D, 0, none⟩), .int .i64 0, .pointer (some ⟨D + 1, 0, none⟩), .int .i64 13, undef, undef, undef, .int .i64 a, .int .i64 b, .agg #[.int .i64 a, .int .i64 b, .int .i64 0, .int .i64 0, .int .i64 0, .int .i64 0], .pointer q, .int .i64 f, .int .i64 13, .pointer q, .agg #[.int .i64 a, .int .i64 b, .int .i64 0, .int .i64 0, .int .i64 0, .int .i64 0], .func (.func 165) #[] #[.pointer (some ⟨A1, 0, none⟩)], .int .i64 4, .pointer q, .agg #[.int .i64 a, .int .i64 b, .int .i64 0, .int .i64 0, .int .i64 0, .int .i64 0], .func (.func 165) #[] #[.pointer (some ⟨A2, 0, none⟩)], .int .i64 2, .slice (some ⟨R, 0, none⟩) 3 3, .int .i64 13, undef, undef, undef, undef, undef, undef, undef, undef, undef, undef, undef, undef, undef, undef, undef, undef, undef, undef, undef, undef, undef, undef, undef, undef, undef, undef, undef, undef, undef, undef, undef, undef, undef, undef, undef, undef, undef, undef], defers := [] } U := by
    intro A1 A2 R U hU
    have hr := row_to HP.out hU
    have HU := ehide (HQ.out _ hU)
    have p0 : U.cell? ⟨D, 0, none⟩ = some (.int .i64 0) := hr.cell 0 rfl
    have f0 : U.frozen? ⟨D, 0, none⟩ = false := frz_row 0 hr
    have p1 : U.cell? ⟨D, 1, none⟩ = some (.int .i64 0) := hr.cell 1 rfl
    have f1 : U.frozen? ⟨D, 1, none⟩ = false := frz_row 1 hr
    have p2 : U.cell? ⟨D, 2, none⟩ = some (.int .i64 0) := hr.cell 2 rfl
    have f2 : U.frozen? ⟨D, 2, none⟩ = false := frz_row 2 hr
    have p3 : U.cell? ⟨D, 3, none⟩ = some (.int .i64 0) := hr.cell 3 rfl
    have f3 : U.frozen? ⟨D, 3, none⟩ = false := frz_row 3 hr
    have p4 : U.cell? ⟨D, 4, none⟩ = some (.int .i64 0) := hr.cell 4 rfl
    have f4 : U.frozen? ⟨D, 4, none⟩ = false := frz_row 4 hr
    have p5 : U.cell? ⟨D, 5, none⟩ = some (.int .i64 0) := hr.cell 5 rfl
    have f5 : U.frozen? ⟨D, 5, none⟩ = false := frz_row 5 hr
    have r0 := sc6 0 (by decide) hr
    have r1 := sc6 1 (by decide) r0
    have r2 := sc6 2 (by decide) r1
    have r3 := sc6 3 (by decide) r2
    have r4 := sc6 4 (by decide) r3
    have r5 := sc6 5 (by decide) r4
    have y0 := r0.cell 0 (v := .int .i64 0) rfl
    have y1 := r1.cell 1 (v := .int .i64 0) rfl
    have y2 := r2.cell 2 (v := .int .i64 0) rfl
    have y3 := r3.cell 3 (v := .int .i64 0) rfl
    have y4 := r4.cell 4 (v := .int .i64 0) rfl
    have y5 := r5.cell 5 (v := .int .i64 0) rfl
    clear r0 r1 r2 r3 r4 r5 hr hU
    refine hK0 _ _ ?_
    go_wp2_with fail
    refine bodyPost_ret (v := .tuple #[.agg #[.int .i64 0, .int .i64 0, .int .i64 0, .int .i64 0, .int .i64 0, .int .i64 0], .int .i64 13]) (by simp [results, Tryz.results14, go_sem, y0, y1, y2, y3, y4, y5]) rfl ⟨rfl, ?_⟩
    have hle : w.heap.size ≤ D := Nat.le_of_eq hD
    (repeat (first | exact HU.out | refine Below.setCell ?_ hle _))
  go_region_with (first
    | (go_at_call 63; refine (HF.out _ (HQ.out _ ?hb)).mono ?_; (case hb => (repeat (first | exact HB0.out | refine bal ?_ _ | refine bdr ?_))); rintro e w2 ⟨rfl, hb⟩; have HB2 := ehide (nxt (W := W) (by (repeat (first | exact HB0.out | refine bal ?_ _ | refine bdr ?_))) hb); clear hb; have c2_0 : w2.cell? ⟨D + 1, 0, none⟩ = some (.int .i64 a) := (row_to HC.out HB2.out).cell 0 rfl; have c2_1 : w2.cell? ⟨D + 1, 1, none⟩ = some (.int .i64 b) := (row_to HC.out HB2.out).cell 1 rfl; have c2_2 : w2.cell? ⟨D + 1, 2, none⟩ = some (.int .i64 0) := (row_to HC.out HB2.out).cell 2 rfl; have c2_3 : w2.cell? ⟨D + 1, 3, none⟩ = some (.int .i64 0) := (row_to HC.out HB2.out).cell 3 rfl; have c2_4 : w2.cell? ⟨D + 1, 4, none⟩ = some (.int .i64 0) := (row_to HC.out HB2.out).cell 4 rfl; have c2_5 : w2.cell? ⟨D + 1, 5, none⟩ = some (.int .i64 0) := (row_to HC.out HB2.out).cell 5 rfl)
    | (go_at_call 68; have h4 := HB4; refine (ofC_any a b 0 0 0 0 _).mono ?_; rintro e w5 ⟨rfl, hr, hb⟩; have HB5 := ehide (nxt (W := W) (by (repeat (first | exact HB4.out | refine bal ?_ _ | refine bdr ?_))) hb); have HR5 := ehide hr; clear hb hr; have c5_0 : w5.cell? ⟨D + 1, 0, none⟩ = some (.int .i64 a) := (row_to HC.out HB5.out).cell 0 rfl; have c5_1 : w5.cell? ⟨D + 1, 1, none⟩ = some (.int .i64 b) := (row_to HC.out HB5.out).cell 1 rfl; have c5_2 : w5.cell? ⟨D + 1, 2, none⟩ = some (.int .i64 0) := (row_to HC.out HB5.out).cell 2 rfl; have c5_3 : w5.cell? ⟨D + 1, 3, none⟩ = some (.int .i64 0) := (row_to HC.out HB5.out).cell 3 rfl; have c5_4 : w5.cell? ⟨D + 1, 4, none⟩ = some (.int .i64 0) := (row_to HC.out HB5.out).cell 4 rfl; have c5_5 : w5.cell? ⟨D + 1, 5, none⟩ = some (.int .i64 0) := (row_to HC.out HB5.out).cell 5 rfl)
    | (go_at_call 68; refine (ofC_any a b 0 0 0 0 _).mono ?_; rintro e w3 ⟨rfl, hr, hb⟩; have HB3 := ehide (nxt (W := W) (by (repeat (first | exact HB2.out | refine bal ?_ _ | refine bdr ?_))) hb); have HR3 := ehide hr; clear hb hr; have c3_0 : w3.cell? ⟨D + 1, 0, none⟩ = some (.int .i64 a) := (row_to HC.out HB3.out).cell 0 rfl; have c3_1 : w3.cell? ⟨D + 1, 1, none⟩ = some (.int .i64 b) := (row_to HC.out HB3.out).cell 1 rfl; have c3_2 : w3.cell? ⟨D + 1, 2, none⟩ = some (.int .i64 0) := (row_to HC.out HB3.out).cell 2 rfl; have c3_3 : w3.cell? ⟨D + 1, 3, none⟩ = some (.int .i64 0) := (row_to HC.out HB3.out).cell 3 rfl; have c3_4 : w3.cell? ⟨D + 1, 4, none⟩ = some (.int .i64 0) := (row_to HC.out HB3.out).cell 4 rfl; have c3_5 : w3.cell? ⟨D + 1, 5, none⟩ = some (.int .i64 0) := (row_to HC.out HB3.out).cell 5 rfl)
    | (go_at_call 67; refine (HRt.out _ _ (HQ.out _ HB3.out) HR3.out).mono ?_; rintro e w4 ⟨rfl, hb⟩; have HB4 := ehide (nxt (W := W) (by (repeat (first | exact HB3.out | refine bal ?_ _ | refine bdr ?_))) hb); clear hb; have c4_0 : w4.cell? ⟨D + 1, 0, none⟩ = some (.int .i64 a) := (row_to HC.out HB4.out).cell 0 rfl; have c4_1 : w4.cell? ⟨D + 1, 1, none⟩ = some (.int .i64 b) := (row_to HC.out HB4.out).cell 1 rfl; have c4_2 : w4.cell? ⟨D + 1, 2, none⟩ = some (.int .i64 0) := (row_to HC.out HB4.out).cell 2 rfl; have c4_3 : w4.cell? ⟨D + 1, 3, none⟩ = some (.int .i64 0) := (row_to HC.out HB4.out).cell 3 rfl; have c4_4 : w4.cell? ⟨D + 1, 4, none⟩ = some (.int .i64 0) := (row_to HC.out HB4.out).cell 4 rfl; have c4_5 : w4.cell? ⟨D + 1, 5, none⟩ = some (.int .i64 0) := (row_to HC.out HB4.out).cell 5 rfl)
    | (go_at_call 69; refine (HRm.out _ _ (HQ.out _ HB5.out) HR5.out).mono ?_; rintro e w6 ⟨rfl, hb⟩; have HB6 := ehide (nxt (W := W) (by (repeat (first | exact HB5.out | refine bal ?_ _ | refine bdr ?_))) hb); clear hb)
    | (go_at_call 66; refine (or_first (e := 13) (by decide) (by decide) (first_new rfl)).mono ?_; rintro e w7 ⟨rfl, rfl⟩)
    | fail)
  all_goals (refine HK _ _ _ _ ?_; (repeat (first | exact HB6.out | refine bal ?_ _ | refine bdr ?_)))
end Go.Proofs.YtiapfapmgjngpaaGreatDoor.Pbuild
