/- A memory of the call's own, two files of registers and threads in blocks beside it; the walk of ThdZero. -/
import Derived.Test.YtaajacmbnigadaaDoorThdD
namespace Go.Proofs.YtaajacmbnigadaaDoor.Pthd
open Go.Proofs.YtaajacmbnigadaaDoor.Pbase Go.Proofs.YtaajacmbnigadaaDoor.Pfield Go.Proofs.YtaajacmbnigadaaDoor.Play Go.Proofs.YtaajacmbnigadaaDoor.Pmem
open Go.RowKit M
set_option linter.unusedVariables false

theorem mx_new {w : World} (h : Phead.TabW w) {N : Nat} (h1 : 1 ≤ N) (h2 : N ≤ 64) : Mx (newW w N) (w.heap.size + 1) w.heap.size N fun _ _ => 0 :=
  ⟨newW_is w N, h.on (newW_below w N), Fit.zero, h1, h2⟩
/-! ### ThdZero -/
structure Zr (w W : World) (p b q : Nat) (M : Nat → Nat → Int) : Prop where
  mx : Mx W p b 1 M
  r8 : W.cell? ⟨q, 8, none⟩ = some (.bool false)
  ne : q ≠ b
  lo : w.heap.size ≤ b
  below : Below w.heap.size w W
theorem Zr.on {w W W' : World} {p b q : Nat} {M : Nat → Nat → Int} (h : Zr w W p b q M) (hB : Below W.heap.size W W') : Zr w W' p b q M :=
  ⟨h.mx.on hB, (hB.cell (p := ⟨q, 8, none⟩) (World.block_lt_of_cell? W _ h.r8)).trans h.r8, h.ne, h.lo, h.below.trans (hB.mono h.below.size)⟩
theorem Zr.but {w W W' : World} {p b q : Nat} {M M' : Nat → Nat → Int} (h : Zr w W p b q M) (hm : Mx W' p b 1 M') (hB : But b W W') : Zr w W' p b q M' :=
  ⟨hm, (hB.cell (World.block_lt_of_cell? W _ h.r8) h.ne).trans h.r8, h.ne, h.lo, h.below.trans (hB.below h.lo h.below.size)⟩
theorem zr_new {w : World} (h : Phead.TabW w) : Zr w ((newW w 1).alloc (.cells #[.int .u64 0, .int .u64 0, .int .u64 0, .int .u64 0, .int .u64 0, .int .u64 0, .int .u64 0, .int .u64 0, .bool false] 45)) (w.heap.size + 1) w.heap.size (newW w 1).heap.size (fun _ _ => 0) := by
  have hm := mx_new h (N := 1) (by omega) (by omega)
  have hb := bal (Below.refl (newW w 1).heap.size (newW w 1)) (.cells #[.int .u64 0, .int .u64 0, .int .u64 0, .int .u64 0, .int .u64 0, .int .u64 0, .int .u64 0, .int .u64 0, .bool false] 45)
  have hl := hm.mem.lt.2
  exact ⟨hm.on hb, (cell_of_row _ _ _ _ _ _ (heap_alloc_new _ _)).trans rfl, by omega, Nat.le_refl _, (newW_below w 1).trans (hb.mono (newW_below w 1).size)⟩
set_option maxRecDepth 100000 in
set_option maxHeartbeats 1000000 in
theorem zero_walk (f : Int) (w : World) (hT : Phead.TabW w) :
    Calls Tryd.prog 4 #[.int .i64 f] w fun e w' => e = .returned (.bool true) ∧ Below w.heap.size w w' := by
  have H0 := rhide (zr_new hT)
  have HMk : Hid (∀ wc p b, Mx wc p b 1 (fun _ _ => 0) → Calls Tryd.prog 7 #[.pointer (some ⟨p, 0, none⟩), .int .i64 0, .agg #[.int .i64 0, .int .i64 0, .int .i64 0, .int .i64 0, .int .i64 0]] wc fun e w' => (∃ E, e = .returned (.int .i64 E)) ∧ Mx w' p b 1 (mkM 1 (fun _ _ => 0) 0 th0) ∧ But b wc w') := fun wc p b h =>
    (make_any p b 1 0 th0 _ wc h (by unfold Fi In64 th0; decide)).mono fun e w' ⟨h1, h2, h3⟩ => ⟨⟨_, h1⟩, h2, h3⟩
  clear hT
  generalize mkM 1 (fun _ _ => 0) 0 th0 = M1 at HMk
  go_enter Tryd.func4, Tryd.ntmps4
  go_wp2_with (first
    | (go_at_call 5; refine (new_ok 1 _ (by omega) (by omega)).mono ?_; rintro r1 w1 ⟨rfl, hw⟩; rw [← hw] at H0; clear hw)
    | (go_at_call 7; refine (HMk.out _ _ _ H0.out.mx).mono ?_; rintro r2 w2 ⟨⟨E, rfl⟩, hm, hb⟩; have H1 := rhide (H0.out.but hm hb); clear hm hb H0 HMk)
    | (go_at_call 12; refine (save_nil _ _ _).mono ?_; rintro r3 w3 ⟨rfl, hb⟩; have H2 := rhide (H1.out.on hb); clear hb H1)
    | (go_at_call 14; refine (load_zero _ _ _ _ H2.out.r8).mono ?_; rintro r4 w4 ⟨rfl, hb⟩; have H3 := rhide (H2.out.on hb); clear hb H2)
    | (go_at_call 9; refine (awake_any _).mono ?_; rintro r5 w5 ⟨rfl, hb⟩; have H4 := rhide (H3.out.on hb); clear hb H3)
    | fail)
  go_ret
  exact ⟨rfl, H4.out.below⟩
end Go.Proofs.YtaajacmbnigadaaDoor.Pthd
