/- A memory with all tables; what isRcv, read and write of package rcv answer and do (written by mk_prog.py). -/
import Derived.Test.YtcoggdnpjpiacaaDoorRcvA
import Derived.Test.YtcoggdnpjpiacaaDoorBunHead
namespace Go.Proofs.YtcoggdnpjpiacaaDoor.Prcv
open Go.Proofs.YtcoggdnpjpiacaaDoor.Pbase Go.Proofs.YtcoggdnpjpiacaaDoor.Pfield Go.Proofs.YtcoggdnpjpiacaaDoor.Play Go.Proofs.YtcoggdnpjpiacaaDoor.Pmem Go.Proofs.YtcoggdnpjpiacaaDoor.Pring
open Go.RowKit M
set_option linter.unusedVariables false

/-- A memory and the three tables. -/
structure Mv (w : World) (p b N : Nat) (M : Nat → Nat → Int) : Prop where
  mx : Mx w p b N M
  vt : TabV w
theorem Mv.on {w w' : World} {p b N : Nat} {M : Nat → Nat → Int} (h : Mv w p b N M) (hB : Below w.heap.size w w') : Mv w' p b N M := ⟨h.mx.on hB, h.vt.on hB⟩
theorem Mv.but {w w' : World} {p b N : Nat} {M M' : Nat → Nat → Int} (h : Mv w p b N M) (hM : MemIs w' p b N M') (hF : Fit M') (hB : But b w w') : Mv w' p b N M' :=
  ⟨h.mx.but hM hF hB, h.vt.but hB (tabV_ne h.mx.mem h.mx.n1 h.vt)⟩
theorem Mv.butx {w w' : World} {p b N : Nat} {M M' : Nat → Nat → Int} (h : Mv w p b N M) (hM : Mx w' p b N M') (hB : But b w w') : Mv w' p b N M' :=
  ⟨hM, h.vt.but hB (tabV_ne h.mx.mem h.mx.n1 h.vt)⟩
/-! ### isRcv -/
set_option maxRecDepth 100000 in
theorem isR_any (p b N : Nat) (f : Int) (M : Nat → Nat → Int) (w : World) (hM : Mv w p b N M) : Calls Tryd.prog 25 #[.pointer (some ⟨p, 0, none⟩), .int .i64 f] w fun e w' => e = .returned (.bool (Phead.isE N M f 6 == 0)) ∧ Below w.heap.size w w' := by
  have HI : Hid (Calls Tryd.prog 44 #[.pointer (some ⟨p, 0, none⟩), .int .i64 f, .int .i64 6] w fun e w' => e = .returned (.int .i64 (Phead.isE N M f 6)) ∧ Below w.heap.size w w') := Phead.his_any p b N f 6 M w hM.mx.n1 hM.mx.n64 hM.mx.mem hM.mx.hd hM.mx.fit
  clear hM
  generalize Phead.isE N M f 6 = E at HI ⊢
  go_enter Tryd.func25, Tryd.ntmps25
  go_wp2_with (first
    | (go_at_call 44; refine HI.out.mono ?_; rintro e1 w1 ⟨rfl, hb⟩; have H1 := rhide hb; clear hb HI)
    | fail)
  go_ret
  exact ⟨rfl, H1.out⟩
/-! ### read -/
/-- The words that were read, k of them. -/
def rdL (x0 x1 x2 x3 x4 x5 x6 x7 : Int) : Nat → List Value
  | 0 => [.int .u64 0, .int .u64 0, .int .u64 0, .int .u64 0, .int .u64 0, .int .u64 0, .int .u64 0, .int .u64 0]
  | 1 => [.int .u64 x0, .int .u64 0, .int .u64 0, .int .u64 0, .int .u64 0, .int .u64 0, .int .u64 0, .int .u64 0]
  | 2 => [.int .u64 x0, .int .u64 x1, .int .u64 0, .int .u64 0, .int .u64 0, .int .u64 0, .int .u64 0, .int .u64 0]
  | 3 => [.int .u64 x0, .int .u64 x1, .int .u64 x2, .int .u64 0, .int .u64 0, .int .u64 0, .int .u64 0, .int .u64 0]
  | 4 => [.int .u64 x0, .int .u64 x1, .int .u64 x2, .int .u64 x3, .int .u64 0, .int .u64 0, .int .u64 0, .int .u64 0]
  | 5 => [.int .u64 x0, .int .u64 x1, .int .u64 x2, .int .u64 x3, .int .u64 x4, .int .u64 0, .int .u64 0, .int .u64 0]
  | 6 => [.int .u64 x0, .int .u64 x1, .int .u64 x2, .int .u64 x3, .int .u64 x4, .int .u64 x5, .int .u64 0, .int .u64 0]
  | 7 => [.int .u64 x0, .int .u64 x1, .int .u64 x2, .int .u64 x3, .int .u64 x4, .int .u64 x5, .int .u64 x6, .int .u64 0]
  | _ => [.int .u64 x0, .int .u64 x1, .int .u64 x2, .int .u64 x3, .int .u64 x4, .int .u64 x5, .int .u64 x6, .int .u64 x7]
structure RdI (w W : World) (p b N : Nat) (M : Nat → Nat → Int) (x0 x1 x2 x3 x4 x5 x6 x7 : Int) (k : Nat) : Prop where
  res : RowV W w.heap.size (rdL x0 x1 x2 x3 x4 x5 x6 x7 0)
  all : RowV W (w.heap.size + 1) (rdL x0 x1 x2 x3 x4 x5 x6 x7 k)
  mem : MemIs W p b N M
  below : Below w.heap.size w W
theorem rd_new {w : World} {p b N : Nat} {M : Nat → Nat → Int} (x0 x1 x2 x3 x4 x5 x6 x7 : Int) (h : MemIs w p b N M) : RdI w ((w.alloc (.cells #[.int .u64 0, .int .u64 0, .int .u64 0, .int .u64 0, .int .u64 0, .int .u64 0, .int .u64 0, .int .u64 0] 64)).alloc (.cells #[.int .u64 0, .int .u64 0, .int .u64 0, .int .u64 0, .int .u64 0, .int .u64 0, .int .u64 0, .int .u64 0] 64)) p b N M x0 x1 x2 x3 x4 x5 x6 x7 0 := by
  have b0 := rowV_new w (rdL x0 x1 x2 x3 x4 x5 x6 x7 0) 64
  have b1 := rowV_new (w.alloc (.cells #[.int .u64 0, .int .u64 0, .int .u64 0, .int .u64 0, .int .u64 0, .int .u64 0, .int .u64 0, .int .u64 0] 64)) (rdL x0 x1 x2 x3 x4 x5 x6 x7 0) 64
  simp only [World.size_alloc] at b1
  exact ⟨b0.on (bal (Below.refl _ _) _), b1, h.grown (bal (bal (Below.refl _ _) _) _), bal (bal (Below.refl _ _) _) _⟩
theorem RdI.step {w W : World} {p b N : Nat} {M : Nat → Nat → Int} {x0 x1 x2 x3 x4 x5 x6 x7 : Int} {k j : Nat} (h : RdI w W p b N M x0 x1 x2 x3 x4 x5 x6 x7 k) (hp : p < w.heap.size) (hb : b < w.heap.size) (i : Nat) (v : Value) (hv : (rdL x0 x1 x2 x3 x4 x5 x6 x7 k).set i v = rdL x0 x1 x2 x3 x4 x5 x6 x7 j) : RdI w (W.setCell ⟨w.heap.size + 1, i, none⟩ v) p b N M x0 x1 x2 x3 x4 x5 x6 x7 j :=
  ⟨h.res.other (by omega) _ _, by rw [← hv]; exact h.all.set i v, h.mem.on (heap_setCell_other _ _ _ _ (by show p ≠ w.heap.size + 1; omega)) (heap_setCell_other _ _ _ _ (by show b ≠ w.heap.size + 1; omega)), bst h.below (by omega) _ _⟩
set_option maxRecDepth 100000 in
set_option maxHeartbeats 2000000 in
theorem read_any (p b N : Nat) (f : Int) (M : Nat → Nat → Int) (w : World) (hM : Mv w p b N M) (hf : okF N f = true) : Calls Tryd.prog 26 #[.pointer (some ⟨p, 0, none⟩), .int .i64 f] w fun e w' => e = .returned (.tuple #[.agg #[.int .u64 (M f.toNat 4), .int .u64 (M f.toNat 5), .int .u64 (M f.toNat 6), .int .u64 (M f.toNat 7), .int .u64 (M f.toNat 8), .int .u64 (M f.toNat 9), .int .u64 (M f.toNat 10), .int .u64 (M f.toNat 11)], .int .i64 0]) ∧ Below w.heap.size w w' := by
  have hL : ∀ k : Nat, k < 8 → ∀ wc, MemIs wc p b N M → Calls Tryd.prog 45 #[.pointer (some ⟨p, 0, none⟩), .int .i64 f, .int .i64 ((4 + k : Nat) : Int)] wc fun e w' => e = .returned (.tuple #[.int .u64 (M f.toNat (4 + k)), .int .i64 0]) ∧ w' = wc := fun k hk wc h => by
    have := Pmem.load_any p b N f ((4 + k : Nat) : Int) M wc hM.mx.n1 hM.mx.n64 h
    have ho : okW N f ((4 + k : Nat) : Int) = true := by unfold okW; rw [hf]; simp; omega
    rwa [show errW N f ((4 + k : Nat) : Int) = 0 by unfold errW; rw [ho]; rfl, show ldM N M f ((4 + k : Nat) : Int) = M f.toNat (4 + k) by unfold ldM; rw [ho]; rfl] at this
  have HL0 : Hid (∀ wc, MemIs wc p b N M → Calls Tryd.prog 45 #[.pointer (some ⟨p, 0, none⟩), .int .i64 f, .int .i64 4] wc fun e w' => e = .returned (.tuple #[.int .u64 (M f.toNat 4), .int .i64 0]) ∧ w' = wc) := hL 0 (by omega)
  have HL1 : Hid (∀ wc, MemIs wc p b N M → Calls Tryd.prog 45 #[.pointer (some ⟨p, 0, none⟩), .int .i64 f, .int .i64 5] wc fun e w' => e = .returned (.tuple #[.int .u64 (M f.toNat 5), .int .i64 0]) ∧ w' = wc) := hL 1 (by omega)
  have HL2 : Hid (∀ wc, MemIs wc p b N M → Calls Tryd.prog 45 #[.pointer (some ⟨p, 0, none⟩), .int .i64 f, .int .i64 6] wc fun e w' => e = .returned (.tuple #[.int .u64 (M f.toNat 6), .int .i64 0]) ∧ w' = wc) := hL 2 (by omega)
  have HL3 : Hid (∀ wc, MemIs wc p b N M → Calls Tryd.prog 45 #[.pointer (some ⟨p, 0, none⟩), .int .i64 f, .int .i64 7] wc fun e w' => e = .returned (.tuple #[.int .u64 (M f.toNat 7), .int .i64 0]) ∧ w' = wc) := hL 3 (by omega)
  have HL4 : Hid (∀ wc, MemIs wc p b N M → Calls Tryd.prog 45 #[.pointer (some ⟨p, 0, none⟩), .int .i64 f, .int .i64 8] wc fun e w' => e = .returned (.tuple #[.int .u64 (M f.toNat 8), .int .i64 0]) ∧ w' = wc) := hL 4 (by omega)
  have HL5 : Hid (∀ wc, MemIs wc p b N M → Calls Tryd.prog 45 #[.pointer (some ⟨p, 0, none⟩), .int .i64 f, .int .i64 9] wc fun e w' => e = .returned (.tuple #[.int .u64 (M f.toNat 9), .int .i64 0]) ∧ w' = wc) := hL 5 (by omega)
  have HL6 : Hid (∀ wc, MemIs wc p b N M → Calls Tryd.prog 45 #[.pointer (some ⟨p, 0, none⟩), .int .i64 f, .int .i64 10] wc fun e w' => e = .returned (.tuple #[.int .u64 (M f.toNat 10), .int .i64 0]) ∧ w' = wc) := hL 6 (by omega)
  have HL7 : Hid (∀ wc, MemIs wc p b N M → Calls Tryd.prog 45 #[.pointer (some ⟨p, 0, none⟩), .int .i64 f, .int .i64 11] wc fun e w' => e = .returned (.tuple #[.int .u64 (M f.toNat 11), .int .i64 0]) ∧ w' = wc) := hL 7 (by omega)
  have H0 : Hid (RdI w _ p b N M (M f.toNat 4) (M f.toNat 5) (M f.toNat 6) (M f.toNat 7) (M f.toNat 8) (M f.toNat 9) (M f.toNat 10) (M f.toNat 11) 0) := rd_new _ _ _ _ _ _ _ _ hM.mx.mem
  have hp := hM.mx.mem.lt.1
  have hb := hM.mx.mem.lt.2
  clear hL hM hf
  generalize M f.toNat 4 = x0 at *
  generalize M f.toNat 5 = x1 at *
  generalize M f.toNat 6 = x2 at *
  generalize M f.toNat 7 = x3 at *
  generalize M f.toNat 8 = x4 at *
  generalize M f.toNat 9 = x5 at *
  generalize M f.toNat 10 = x6 at *
  generalize M f.toNat 11 = x7 at *
  go_enter Tryd.func26, Tryd.ntmps26
  go_wp2
  generalize (w.alloc _).alloc _ = w1 at H0 ⊢
  go_loopw [10] (fun i wr => ∃ k : Nat, k ≤ 8 ∧ i = .int .i64 k ∧ RdI w wr p b N M x0 x1 x2 x3 x4 x5 x6 x7 k) (fun i _ => 8 - (intOf i).toNat)
  case atStart => exact ⟨0, by omega, rfl, H0.out⟩
  case round =>
    obtain ⟨k, hk, rfl, hI⟩ := hrel
    have HI := rhide hI
    clear hI H0
    rcases (show k = 0 ∨ k = 1 ∨ k = 2 ∨ k = 3 ∨ k = 4 ∨ k = 5 ∨ k = 6 ∨ k = 7 ∨ k = 8 by omega) with rfl | rfl | rfl | rfl | rfl | rfl | rfl | rfl | rfl
    · have y0 : wr.cell? ⟨w.heap.size + 1, 0, none⟩ = some (.int .u64 0) := HI.out.all.cell 0
      have z0 := HI.out.all.fz 0
      clear HL1 HL2 HL3 HL4 HL5 HL6 HL7
      go_wp2_with (first
        | (go_at_call 45; refine (HL0.out _ HI.out.mem).mono ?_; rintro e2 w2 ⟨rfl, hw⟩; subst w2)
        | fail)
      go_roundw
      case rel => exact ⟨0 + 1, by omega, rfl, HI.out.step (j := 0 + 1) hp hb 0 _ rfl⟩
      case measure => simp [intOf]
    · have y0 : wr.cell? ⟨w.heap.size + 1, 1, none⟩ = some (.int .u64 0) := HI.out.all.cell 1
      have z0 := HI.out.all.fz 1
      clear HL0 HL2 HL3 HL4 HL5 HL6 HL7
      go_wp2_with (first
        | (go_at_call 45; refine (HL1.out _ HI.out.mem).mono ?_; rintro e2 w2 ⟨rfl, hw⟩; subst w2)
        | fail)
      go_roundw
      case rel => exact ⟨1 + 1, by omega, rfl, HI.out.step (j := 1 + 1) hp hb 1 _ rfl⟩
      case measure => simp [intOf]
    · have y0 : wr.cell? ⟨w.heap.size + 1, 2, none⟩ = some (.int .u64 0) := HI.out.all.cell 2
      have z0 := HI.out.all.fz 2
      clear HL0 HL1 HL3 HL4 HL5 HL6 HL7
      go_wp2_with (first
        | (go_at_call 45; refine (HL2.out _ HI.out.mem).mono ?_; rintro e2 w2 ⟨rfl, hw⟩; subst w2)
        | fail)
      go_roundw
      case rel => exact ⟨2 + 1, by omega, rfl, HI.out.step (j := 2 + 1) hp hb 2 _ rfl⟩
      case measure => simp [intOf]
    · have y0 : wr.cell? ⟨w.heap.size + 1, 3, none⟩ = some (.int .u64 0) := HI.out.all.cell 3
      have z0 := HI.out.all.fz 3
      clear HL0 HL1 HL2 HL4 HL5 HL6 HL7
      go_wp2_with (first
        | (go_at_call 45; refine (HL3.out _ HI.out.mem).mono ?_; rintro e2 w2 ⟨rfl, hw⟩; subst w2)
        | fail)
      go_roundw
      case rel => exact ⟨3 + 1, by omega, rfl, HI.out.step (j := 3 + 1) hp hb 3 _ rfl⟩
      case measure => simp [intOf]
    · have y0 : wr.cell? ⟨w.heap.size + 1, 4, none⟩ = some (.int .u64 0) := HI.out.all.cell 4
      have z0 := HI.out.all.fz 4
      clear HL0 HL1 HL2 HL3 HL5 HL6 HL7
      go_wp2_with (first
        | (go_at_call 45; refine (HL4.out _ HI.out.mem).mono ?_; rintro e2 w2 ⟨rfl, hw⟩; subst w2)
        | fail)
      go_roundw
      case rel => exact ⟨4 + 1, by omega, rfl, HI.out.step (j := 4 + 1) hp hb 4 _ rfl⟩
      case measure => simp [intOf]
    · have y0 : wr.cell? ⟨w.heap.size + 1, 5, none⟩ = some (.int .u64 0) := HI.out.all.cell 5
      have z0 := HI.out.all.fz 5
      clear HL0 HL1 HL2 HL3 HL4 HL6 HL7
      go_wp2_with (first
        | (go_at_call 45; refine (HL5.out _ HI.out.mem).mono ?_; rintro e2 w2 ⟨rfl, hw⟩; subst w2)
        | fail)
      go_roundw
      case rel => exact ⟨5 + 1, by omega, rfl, HI.out.step (j := 5 + 1) hp hb 5 _ rfl⟩
      case measure => simp [intOf]
    · have y0 : wr.cell? ⟨w.heap.size + 1, 6, none⟩ = some (.int .u64 0) := HI.out.all.cell 6
      have z0 := HI.out.all.fz 6
      clear HL0 HL1 HL2 HL3 HL4 HL5 HL7
      go_wp2_with (first
        | (go_at_call 45; refine (HL6.out _ HI.out.mem).mono ?_; rintro e2 w2 ⟨rfl, hw⟩; subst w2)
        | fail)
      go_roundw
      case rel => exact ⟨6 + 1, by omega, rfl, HI.out.step (j := 6 + 1) hp hb 6 _ rfl⟩
      case measure => simp [intOf]
    · have y0 : wr.cell? ⟨w.heap.size + 1, 7, none⟩ = some (.int .u64 0) := HI.out.all.cell 7
      have z0 := HI.out.all.fz 7
      clear HL0 HL1 HL2 HL3 HL4 HL5 HL6
      go_wp2_with (first
        | (go_at_call 45; refine (HL7.out _ HI.out.mem).mono ?_; rintro e2 w2 ⟨rfl, hw⟩; subst w2)
        | fail)
      go_roundw
      case rel => exact ⟨7 + 1, by omega, rfl, HI.out.step (j := 7 + 1) hp hb 7 _ rfl⟩
      case measure => simp [intOf]
    · have x0' : wr.cell? ⟨w.heap.size + 1, 0, none⟩ = some (.int .u64 x0) := HI.out.all.cell 0
      have x1' : wr.cell? ⟨w.heap.size + 1, 1, none⟩ = some (.int .u64 x1) := HI.out.all.cell 1
      have x2' : wr.cell? ⟨w.heap.size + 1, 2, none⟩ = some (.int .u64 x2) := HI.out.all.cell 2
      have x3' : wr.cell? ⟨w.heap.size + 1, 3, none⟩ = some (.int .u64 x3) := HI.out.all.cell 3
      have x4' : wr.cell? ⟨w.heap.size + 1, 4, none⟩ = some (.int .u64 x4) := HI.out.all.cell 4
      have x5' : wr.cell? ⟨w.heap.size + 1, 5, none⟩ = some (.int .u64 x5) := HI.out.all.cell 5
      have x6' : wr.cell? ⟨w.heap.size + 1, 6, none⟩ = some (.int .u64 x6) := HI.out.all.cell 6
      have x7' : wr.cell? ⟨w.heap.size + 1, 7, none⟩ = some (.int .u64 x7) := HI.out.all.cell 7
      have y0 : wr.cell? ⟨w.heap.size, 0, none⟩ = some (.int .u64 0) := HI.out.res.cell 0
      have y1 : wr.cell? ⟨w.heap.size, 1, none⟩ = some (.int .u64 0) := HI.out.res.cell 1
      have y2 : wr.cell? ⟨w.heap.size, 2, none⟩ = some (.int .u64 0) := HI.out.res.cell 2
      have y3 : wr.cell? ⟨w.heap.size, 3, none⟩ = some (.int .u64 0) := HI.out.res.cell 3
      have y4 : wr.cell? ⟨w.heap.size, 4, none⟩ = some (.int .u64 0) := HI.out.res.cell 4
      have y5 : wr.cell? ⟨w.heap.size, 5, none⟩ = some (.int .u64 0) := HI.out.res.cell 5
      have y6 : wr.cell? ⟨w.heap.size, 6, none⟩ = some (.int .u64 0) := HI.out.res.cell 6
      have y7 : wr.cell? ⟨w.heap.size, 7, none⟩ = some (.int .u64 0) := HI.out.res.cell 7
      have z0 := HI.out.res.fz
      clear HL0 HL1 HL2 HL3 HL4 HL5 HL6 HL7
      go_wp2
      refine bodyPost_ret (v := .tuple #[.agg #[.int .u64 x0, .int .u64 x1, .int .u64 x2, .int .u64 x3, .int .u64 x4, .int .u64 x5, .int .u64 x6, .int .u64 x7], .int .i64 0]) (by simp [results, Tryd.results26, go_sem, y0, y1, y2, y3, y4, y5, y6, y7]) rfl ⟨rfl, ?_⟩
      exact bst (bst (bst (bst (bst (bst (bst (bst HI.out.below (by omega) _ _) (by omega) _ _) (by omega) _ _) (by omega) _ _) (by omega) _ _) (by omega) _ _) (by omega) _ _) (by omega) _ _
/-! ### write -/
structure WrI (w W : World) (p b N : Nat) (M : Nat → Nat → Int) : Prop where
  mem : MemIs W p b N M
  but : But b w W
theorem WrI.turn {w W : World} {p b N : Nat} {M : Nat → Nat → Int} (h : WrI w W p b N M) (M' : Nat → Nat → Int) : WrI w (W.setRow b (cellsM N M')) p b N M' := ⟨h.mem.set M', h.but.setRow _⟩
/-- The memory behind k stores. -/
def laK (N : Nat) (M : Nat → Nat → Int) (f : Int) (c : Rv) (k : Nat) : Nat → Nat → Int := layF N M f (c.ws.take k)
theorem laK0 (N : Nat) (M : Nat → Nat → Int) (f : Int) (c : Rv) : stW N (laK N M f c 0) f 4 c.th = laK N M f c 1 := lay_step (l := c.ws.take 0) (by show 0 < 32; omega) c.th
theorem laK1 (N : Nat) (M : Nat → Nat → Int) (f : Int) (c : Rv) : stW N (laK N M f c 1) f 5 c.pa = laK N M f c 2 := lay_step (l := c.ws.take 1) (by show 1 < 32; omega) c.pa
theorem laK2 (N : Nat) (M : Nat → Nat → Int) (f : Int) (c : Rv) : stW N (laK N M f c 2) f 6 c.co = laK N M f c 3 := lay_step (l := c.ws.take 2) (by show 2 < 32; omega) c.co
theorem laK3 (N : Nat) (M : Nat → Nat → Int) (f : Int) (c : Rv) : stW N (laK N M f c 3) f 7 (vz c.wa) = laK N M f c 4 := lay_step (l := c.ws.take 3) (by show 3 < 32; omega) (vz c.wa)
theorem laK4 (N : Nat) (M : Nat → Nat → Int) (f : Int) (c : Rv) : stW N (laK N M f c 4) f 8 c.lo = laK N M f c 5 := lay_step (l := c.ws.take 4) (by show 4 < 32; omega) c.lo
theorem laK5 (N : Nat) (M : Nat → Nat → Int) (f : Int) (c : Rv) : stW N (laK N M f c 5) f 9 0 = laK N M f c 6 := lay_step (l := c.ws.take 5) (by show 5 < 32; omega) 0
theorem laK6 (N : Nat) (M : Nat → Nat → Int) (f : Int) (c : Rv) : stW N (laK N M f c 6) f 10 0 = laK N M f c 7 := lay_step (l := c.ws.take 6) (by show 6 < 32; omega) 0
theorem laK7 (N : Nat) (M : Nat → Nat → Int) (f : Int) (c : Rv) : stW N (laK N M f c 7) f 11 0 = laK N M f c 8 := lay_step (l := c.ws.take 7) (by show 7 < 32; omega) 0
theorem words_vo (c : Rv) (hc : Vo c) (w : World) : Calls Tryd.prog 30 #[.agg #[.int .i64 c.th, .int .i64 c.pa, .int .i64 c.co, .bool c.wa, .int .i64 c.lo]] w fun e w' => e = .returned (.agg #[.int .u64 c.th, .int .u64 c.pa, .int .u64 c.co, .int .u64 (vz c.wa), .int .u64 c.lo, .int .u64 0, .int .u64 0, .int .u64 0]) ∧ Below w.heap.size w w' := by
  have := words_any c hc.fv w
  obtain ⟨e0, e1, e2, e4⟩ := wsF_vo hc
  rwa [e0, e1, e2, e4, show wsF c 3 = vz c.wa from rfl, show wsF c 5 = 0 from rfl, show wsF c 6 = 0 from rfl, show wsF c 7 = 0 from rfl] at this
set_option maxRecDepth 100000 in
set_option maxHeartbeats 2000000 in
theorem write_any (p b N : Nat) (f : Int) (c : Rv) (M : Nat → Nat → Int) (w : World) (hM : Mv w p b N M) (hc : Vo c) (hf : okF N f = true) :
    Calls Tryd.prog 17 #[.pointer (some ⟨p, 0, none⟩), .int .i64 f, .agg #[.int .i64 c.th, .int .i64 c.pa, .int .i64 c.co, .bool c.wa, .int .i64 c.lo]] w fun e w' => e = .returned (.int .i64 0) ∧ Mv w' p b N (layF N M f c.ws) ∧ But b w w' := by
  have HO : Hid (∀ wc, Calls Tryd.prog 30 #[.agg #[.int .i64 c.th, .int .i64 c.pa, .int .i64 c.co, .bool c.wa, .int .i64 c.lo]] wc fun e w' => e = .returned (.agg #[.int .u64 c.th, .int .u64 c.pa, .int .u64 c.co, .int .u64 (vz c.wa), .int .u64 c.lo, .int .u64 0, .int .u64 0, .int .u64 0]) ∧ Below wc.heap.size wc w') := fun wc => words_vo c hc wc
  have hS : ∀ (k : Nat) (v : Int) (M1 : Nat → Nat → Int), k < 8 → ∀ wc, WrI w wc p b N M1 → Calls Tryd.prog 34 #[.pointer (some ⟨p, 0, none⟩), .int .i64 f, .int .i64 ((4 + k : Nat) : Int), .int .u64 v] wc fun e w' => e = .returned (.int .i64 0) ∧ WrI w w' p b N (stW N M1 f ((4 + k : Nat) : Int) v) := fun k v M1 hk wc h => by
    have := store_any p b N f ((4 + k : Nat) : Int) v M1 wc hM.mx.n1 hM.mx.n64 h.mem
    have ho : okW N f ((4 + k : Nat) : Int) = true := by unfold okW; rw [hf]; simp; omega
    rw [show errW N f ((4 + k : Nat) : Int) = 0 by unfold errW; rw [ho]; rfl] at this
    exact this.mono fun e w' ⟨h1, h2⟩ => ⟨h1, by rw [h2]; exact h.turn _⟩
  have HS0 : Hid (∀ wc, WrI w wc p b N (laK N M f c 0) → Calls Tryd.prog 34 #[.pointer (some ⟨p, 0, none⟩), .int .i64 f, .int .i64 4, .int .u64 c.th] wc fun e w' => e = .returned (.int .i64 0) ∧ WrI w w' p b N (laK N M f c 1)) := fun wc h => by
    have := hS 0 c.th _ (by omega) wc h
    rwa [show ((4 + 0 : Nat) : Int) = 4 from rfl, laK0] at this
  have i0 := vix0 c.th c.pa c.co (vz c.wa) c.lo 0 0 0
  have HS1 : Hid (∀ wc, WrI w wc p b N (laK N M f c 1) → Calls Tryd.prog 34 #[.pointer (some ⟨p, 0, none⟩), .int .i64 f, .int .i64 5, .int .u64 c.pa] wc fun e w' => e = .returned (.int .i64 0) ∧ WrI w w' p b N (laK N M f c 2)) := fun wc h => by
    have := hS 1 c.pa _ (by omega) wc h
    rwa [show ((4 + 1 : Nat) : Int) = 5 from rfl, laK1] at this
  have i1 := vix1 c.th c.pa c.co (vz c.wa) c.lo 0 0 0
  have HS2 : Hid (∀ wc, WrI w wc p b N (laK N M f c 2) → Calls Tryd.prog 34 #[.pointer (some ⟨p, 0, none⟩), .int .i64 f, .int .i64 6, .int .u64 c.co] wc fun e w' => e = .returned (.int .i64 0) ∧ WrI w w' p b N (laK N M f c 3)) := fun wc h => by
    have := hS 2 c.co _ (by omega) wc h
    rwa [show ((4 + 2 : Nat) : Int) = 6 from rfl, laK2] at this
  have i2 := vix2 c.th c.pa c.co (vz c.wa) c.lo 0 0 0
  have HS3 : Hid (∀ wc, WrI w wc p b N (laK N M f c 3) → Calls Tryd.prog 34 #[.pointer (some ⟨p, 0, none⟩), .int .i64 f, .int .i64 7, .int .u64 (vz c.wa)] wc fun e w' => e = .returned (.int .i64 0) ∧ WrI w w' p b N (laK N M f c 4)) := fun wc h => by
    have := hS 3 (vz c.wa) _ (by omega) wc h
    rwa [show ((4 + 3 : Nat) : Int) = 7 from rfl, laK3] at this
  have i3 := vix3 c.th c.pa c.co (vz c.wa) c.lo 0 0 0
  have HS4 : Hid (∀ wc, WrI w wc p b N (laK N M f c 4) → Calls Tryd.prog 34 #[.pointer (some ⟨p, 0, none⟩), .int .i64 f, .int .i64 8, .int .u64 c.lo] wc fun e w' => e = .returned (.int .i64 0) ∧ WrI w w' p b N (laK N M f c 5)) := fun wc h => by
    have := hS 4 c.lo _ (by omega) wc h
    rwa [show ((4 + 4 : Nat) : Int) = 8 from rfl, laK4] at this
  have i4 := vix4 c.th c.pa c.co (vz c.wa) c.lo 0 0 0
  have HS5 : Hid (∀ wc, WrI w wc p b N (laK N M f c 5) → Calls Tryd.prog 34 #[.pointer (some ⟨p, 0, none⟩), .int .i64 f, .int .i64 9, .int .u64 0] wc fun e w' => e = .returned (.int .i64 0) ∧ WrI w w' p b N (laK N M f c 6)) := fun wc h => by
    have := hS 5 0 _ (by omega) wc h
    rwa [show ((4 + 5 : Nat) : Int) = 9 from rfl, laK5] at this
  have i5 := vix5 c.th c.pa c.co (vz c.wa) c.lo 0 0 0
  have HS6 : Hid (∀ wc, WrI w wc p b N (laK N M f c 6) → Calls Tryd.prog 34 #[.pointer (some ⟨p, 0, none⟩), .int .i64 f, .int .i64 10, .int .u64 0] wc fun e w' => e = .returned (.int .i64 0) ∧ WrI w w' p b N (laK N M f c 7)) := fun wc h => by
    have := hS 6 0 _ (by omega) wc h
    rwa [show ((4 + 6 : Nat) : Int) = 10 from rfl, laK6] at this
  have i6 := vix6 c.th c.pa c.co (vz c.wa) c.lo 0 0 0
  have HS7 : Hid (∀ wc, WrI w wc p b N (laK N M f c 7) → Calls Tryd.prog 34 #[.pointer (some ⟨p, 0, none⟩), .int .i64 f, .int .i64 11, .int .u64 0] wc fun e w' => e = .returned (.int .i64 0) ∧ WrI w w' p b N (laK N M f c 8)) := fun wc h => by
    have := hS 7 0 _ (by omega) wc h
    rwa [show ((4 + 7 : Nat) : Int) = 11 from rfl, laK7] at this
  have i7 := vix7 c.th c.pa c.co (vz c.wa) c.lo 0 0 0
  have Hw : Hid (WrI w (w.alloc (.cells #[.int .i64 c.th, .int .i64 c.pa, .int .i64 c.co, .bool c.wa, .int .i64 c.lo] 31)) p b N (laK N M f c 0)) := by
    have e : laK N M f c 0 = M := lay_nil N M f
    rw [e]
    exact ⟨hM.mx.mem.grown (bal (Below.refl _ _) _), But.of_below b (bal (Below.refl _ _) _)⟩
  have HE : Hid (∀ W, WrI w W p b N (laK N M f c 8) → Mv W p b N (layF N M f c.ws) ∧ But b w W) := fun W h => ⟨hM.but h.mem (fit_lay hM.mx.fit N f hc.fit) h.but, h.but⟩
  clear hS hM hf hc
  generalize layF N M f c.ws = M5 at HE ⊢
  generalize laK N M f c = K at *
  generalize vz c.wa = I at *
  go_enter Tryd.func17, Tryd.ntmps17
  go_wp2_with (first
    | (go_at_call 30; refine (HO.out _).mono ?_; rintro e1 w1 ⟨rfl, hb⟩; have H1 : Hid (WrI w w1 p b N (K 0)) := ⟨Hw.out.mem.grown hb, Hw.out.but.trans (But.of_below b hb)⟩; clear hb HO Hw)
    | fail)
  go_loopw [12] (fun i wr => ∃ k : Nat, k ≤ 8 ∧ i = .int .i64 k ∧ WrI w wr p b N (K k)) (fun i _ => 8 - (intOf i).toNat)
  case atStart => exact ⟨0, by omega, rfl, H1.out⟩
  case round =>
    obtain ⟨k, hk, rfl, hI⟩ := hrel
    have HI := rhide hI
    clear hI H1
    rcases (show k = 0 ∨ k = 1 ∨ k = 2 ∨ k = 3 ∨ k = 4 ∨ k = 5 ∨ k = 6 ∨ k = 7 ∨ k = 8 by omega) with rfl | rfl | rfl | rfl | rfl | rfl | rfl | rfl | rfl
    · clear HS1 HS2 HS3 HS4 HS5 HS6 HS7
      go_wp2_with (first
        | (go_at_call 34; refine (HS0.out _ HI.out).mono ?_; rintro e2 w2 ⟨rfl, hw⟩; have H2 := rhide hw; clear hw)
        | fail)
      go_roundw
      case rel => exact ⟨0 + 1, by omega, rfl, H2.out⟩
      case measure => simp [intOf]
    · clear HS0 HS2 HS3 HS4 HS5 HS6 HS7
      go_wp2_with (first
        | (go_at_call 34; refine (HS1.out _ HI.out).mono ?_; rintro e2 w2 ⟨rfl, hw⟩; have H2 := rhide hw; clear hw)
        | fail)
      go_roundw
      case rel => exact ⟨1 + 1, by omega, rfl, H2.out⟩
      case measure => simp [intOf]
    · clear HS0 HS1 HS3 HS4 HS5 HS6 HS7
      go_wp2_with (first
        | (go_at_call 34; refine (HS2.out _ HI.out).mono ?_; rintro e2 w2 ⟨rfl, hw⟩; have H2 := rhide hw; clear hw)
        | fail)
      go_roundw
      case rel => exact ⟨2 + 1, by omega, rfl, H2.out⟩
      case measure => simp [intOf]
    · clear HS0 HS1 HS2 HS4 HS5 HS6 HS7
      go_wp2_with (first
        | (go_at_call 34; refine (HS3.out _ HI.out).mono ?_; rintro e2 w2 ⟨rfl, hw⟩; have H2 := rhide hw; clear hw)
        | fail)
      go_roundw
      case rel => exact ⟨3 + 1, by omega, rfl, H2.out⟩
      case measure => simp [intOf]
    · clear HS0 HS1 HS2 HS3 HS5 HS6 HS7
      go_wp2_with (first
        | (go_at_call 34; refine (HS4.out _ HI.out).mono ?_; rintro e2 w2 ⟨rfl, hw⟩; have H2 := rhide hw; clear hw)
        | fail)
      go_roundw
      case rel => exact ⟨4 + 1, by omega, rfl, H2.out⟩
      case measure => simp [intOf]
    · clear HS0 HS1 HS2 HS3 HS4 HS6 HS7
      go_wp2_with (first
        | (go_at_call 34; refine (HS5.out _ HI.out).mono ?_; rintro e2 w2 ⟨rfl, hw⟩; have H2 := rhide hw; clear hw)
        | fail)
      go_roundw
      case rel => exact ⟨5 + 1, by omega, rfl, H2.out⟩
      case measure => simp [intOf]
    · clear HS0 HS1 HS2 HS3 HS4 HS5 HS7
      go_wp2_with (first
        | (go_at_call 34; refine (HS6.out _ HI.out).mono ?_; rintro e2 w2 ⟨rfl, hw⟩; have H2 := rhide hw; clear hw)
        | fail)
      go_roundw
      case rel => exact ⟨6 + 1, by omega, rfl, H2.out⟩
      case measure => simp [intOf]
    · clear HS0 HS1 HS2 HS3 HS4 HS5 HS6
      go_wp2_with (first
        | (go_at_call 34; refine (HS7.out _ HI.out).mono ?_; rintro e2 w2 ⟨rfl, hw⟩; have H2 := rhide hw; clear hw)
        | fail)
      go_roundw
      case rel => exact ⟨7 + 1, by omega, rfl, H2.out⟩
      case measure => simp [intOf]
    · go_wp2
      go_ret
      exact ⟨rfl, (HE.out _ HI.out).1, (HE.out _ HI.out).2⟩
end Go.Proofs.YtcoggdnpjpiacaaDoor.Prcv
