/- The walk of AccessZero. -/
import Derived.Test.YthcgdgpflhdchaaDoorAccD
import Derived.Test.YthcgdgpflhdchaaDoorAccL
namespace Go.Proofs.YthcgdgpflhdchaaDoor.Paccess
open Go.Proofs.YthcgdgpflhdchaaDoor.Pbase Go.Proofs.YthcgdgpflhdchaaDoor.Pmem
open Go.RowKit
set_option linter.unusedVariables false

/-- A memory, and one of package tlb that no call made, beside each other. -/
structure Zs (w0 w : World) (p b q : Nat) : Prop where
  mem : MemIs w p b 1 fun _ _ => 0
  tx : Tx w
  below : Below w0.heap.size w0 w
  zero : w.cell? ⟨q, 1, none⟩ = some (.map none)
theorem Zs.on {w0 w w' : World} {p b q : Nat} (h : Zs w0 w p b q) (hB : Below w.heap.size w w') : Zs w0 w' p b q :=
  ⟨h.mem.grown hB, h.tx.on hB, h.below.trans (hB.mono h.below.size), Ptlb.keeps hB h.zero⟩
theorem zs_new {w0 w1 w2 : World} {p b : Nat} (h : Ppgtbl.Own w0 w1 p b 1 fun _ _ => 0) (hx : Tx w0) (hB : Below w1.heap.size w1 w2) (v : Int) : Zs w0 (w2.alloc (.cells #[.int .i64 v, .map none] 46)) p b w2.heap.size := by
  have hb := bal hB (.cells #[.int .i64 v, .map none] 46)
  have h1 := h.below.trans (hb.mono h.below.size)
  exact ⟨h.mx.mem.grown hb, hx.on h1, h1, by simp⟩
set_option maxRecDepth 100000 in
set_option maxHeartbeats 1000000 in
theorem zero_walk (sp a : Int) (w : World) (h : Tx w) : Calls Tryd.prog 5 #[.int .i64 sp, .int .i64 a] w fun x w' => x = .returned (.bool true) ∧ Below w.heap.size w w' := by
  have H0 := ahide (Ppgtbl.own_new h.tb (N := 1) (by omega) (by omega))
  have HX := ahide h
  clear h
  go_enter Tryd.func5, Tryd.ntmps5
  go_upto_region 4 with (first
    | (go_at_call 6; refine (new_ok 1 _ (by omega) (by omega)).mono ?_; rintro r1 w1 ⟨rfl, hw⟩; rw [← hw] at H0; clear hw; generalize w.heap.size + 1 = p at H0 ⊢; obtain ⟨b, hb⟩ : ∃ b, b = w.heap.size := ⟨_, rfl⟩; have H1 : Hid (Ppgtbl.Own w w1 p b 1 fun _ _ => 0) := (by rw [hb]; exact H0.out); clear H0 hb)
    | (go_at_call 7; refine (Ptlb.new_ok 1 _ (by omega) (by omega)).mono ?_; rintro r2 w2 ⟨rfl, ht, hb⟩; have H2 := zs_new H1.out HX.out hb 0; clear ht hb H1; generalize w1.heap.size + 1 = pt)
    | fail)
  generalize w2.alloc _ = w3 at H2 ⊢
  generalize w2.heap.size = q at H2 ⊢
  have H3 := ahide H2
  clear H2
  go_wp2_with (first
    | (go_at_call 13; refine (load_zero' none (some ⟨pt, 0, none⟩) sp a _ H3.out.tx.nd (fun r wc _ => find_nil _ sp a r wc)).mono ?_; rintro r4 w4 ⟨rfl, hb⟩; have H4 := ahide (H3.out.on hb); clear hb H3)
    | (go_at_call 16; refine (find_none p b 1 sp a 1 _ (by omega) (by omega) H4.out.mem.cell).mono ?_; rintro r5 w5 ⟨rfl, hb⟩; have H5 := ahide (H4.out.on hb); clear hb H4)
    | (go_at_call 12; refine (store_zero' (some ⟨p, 0, none⟩) (some ⟨q, 0, none⟩) sp a 1 _ H5.out.tx.nd (fun r wc hb => find_zero p b 1 q sp a r wc (by omega) (by omega) (H5.out.on hb).mem.cell (H5.out.on hb).zero)).mono ?_; rintro r6 w6 ⟨rfl, hb⟩; have H6 := ahide (H5.out.on hb); clear hb H5)
    | (go_at_call 8; refine (aawake_any _ H6.out.tx).mono ?_; rintro r7 w7 ⟨rfl, hb⟩; have H7 := ahide (H6.out.on hb); clear hb H6)
    | fail)
  go_ret
  exact ⟨rfl, H7.out.below⟩
end Go.Proofs.YthcgdgpflhdchaaDoor.Paccess
